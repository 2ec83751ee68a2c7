/- The document's Same, of two tables that are the same. -/
import Derived.Test.YtflpjpdgacjlcaaPsb
import Derived.Test.YtflpjpdgacjlcaaP1
import Derived.LoopTactic
namespace Go.Proofs.Ytflpjpdgacjlcaa
open Go.RowKit

/-- The same places, but for where guards lie. -/
def SameT (L M : List PR) : Prop := ∀ (k : Nat) (q : PR), L[k]? = some q → ∃ A c, M[k]? = some { q with gA := A, gc := c }
theorem SameT.refl (L : List PR) : SameT L L := fun _ q h => ⟨q.gA, q.gc, h⟩
set_option maxRecDepth 100000 in
set_option maxHeartbeats 4000000 in
theorem c_rprsame {w : World} {pl pl' : Nat → Prop} {A B : Option Addr} {n c d : Nat} {L M : List PR} (hA : TW prK w pl A n L) (hB : TW prK w pl' B n M) (hs : SameT L M) (hg : ∀ q ∈ L, q.gn ≤ 1000) (hn : n ≤ 1000) :
    Calls Try.prog 26 #[.slice A n c, .slice B n d] w fun e w' => e = .returned (.bool true) ∧ Below w.heap.size w w' := by
  have hne : ((n : Int) != n) = false := by simp
  have HA := Lib.hid hA
  have HB := Lib.hid hB
  have HS := Lib.hid hs
  have HGN := Lib.hid hg
  clear hA hB hs hg
  go_enter Try.func26, Try.ntmps26
  go_wp2_with fail
  go_loopw [5] (fun i wr => ∃ k : Nat, k ≤ n ∧ i = .int .i64 k ∧ Below w.heap.size w wr) (fun i _ => n - (intOf i).toNat)
  case atStart => exact ⟨0, Nat.zero_le _, rfl, Below.refl _ _⟩
  case round =>
    obtain ⟨k, hk, rfl, hb⟩ := hrel
    have HBW := Lib.hid hb
    by_cases hlt : k < n
    · obtain ⟨bA, oA, q, rfl, _, hlA, hqA, hrA, heA⟩ := (HA.out.below hb).at_ k hlt
      obtain ⟨bB, oB, r, rfl, _, hlB, hqB, hrB, heB⟩ := (HB.out.below hb).at_ k hlt
      obtain ⟨A', c', hM⟩ := HS.out k q hqA
      rw [hqB] at hM
      obtain rfl := Option.some.inj hM
      have hk0 : (0 : Int) ≤ k := by omega
      have hk1 : (k : Int) < n := by omega
      have HRA : Hid (∀ W, Below wr.heap.size wr W → W.rangeAt bA (oA + k * 42) (prC q)) := Lib.hid (fun W hW => range_below (show wr.rangeAt bA (oA + k * 42) (prC q) from hrA) hW hlA)
      have HRB : Hid (∀ W, Below wr.heap.size wr W → W.rangeAt bB (oB + k * 42) (prC { q with gA := A', gc := c' })) := Lib.hid (fun W hW => range_below (show wr.rangeAt bB (oB + k * 42) (prC { q with gA := A', gc := c' }) from hrB) hW hlB)
      have CS := Lib.hid (fun W (hW : Below wr.heap.size wr W) => c_same1 (prK.below heA hW) (prK.below heB hW) (HGN.out q (List.mem_of_getElem? hqA)))
      clear hb hqA hqB hrA hrB heA heB hM hlA hlB
      go_upto_region 6 with fail
      refine wp_region_held_drew (S := (fun W => Below wr.heap.size wr W)) (by kernel_rfl) (up_drewN _ 1) (fun hHeld => ?_)
      refine wpAnyH_take (i := 0) (oi := ?_) (v := ?_) ?_ (by kernel_rfl) (by kernel_rfl) (by kernel_rfl) ?_ (Or.inl ⟨?_, ?_⟩) hHeld ?_
      rotate_left 2
      · conv => lhs; simp only [List.getElem?_toArray, List.getElem?_cons_succ, List.getElem?_cons_zero]
      · exact fun _ _ _ h => h
      · rfl
      · intro W hSw
        go_simp
        try with_reducible rfl
      try simp only [Act.put, List.setIfInBounds_toArray, List.set_cons_zero, List.set_cons_succ]
      refine wpAnyH_take (i := 1) (oi := ?_) (v := ?_) ?_ (by kernel_rfl) (by kernel_rfl) (by kernel_rfl) ?_ (Or.inl ⟨?_, ?_⟩) hHeld ?_
      rotate_left 2
      · conv => lhs; simp only [List.getElem?_toArray, List.getElem?_cons_succ, List.getElem?_cons_zero]
      · exact fun _ _ _ h => h
      · rfl
      · intro W hSw
        go_simp
        try with_reducible rfl
      try simp only [Act.put, List.setIfInBounds_toArray, List.set_cons_zero, List.set_cons_succ]
      refine wpAnyH_take (i := 2) (oi := ?_) (v := ?_) ?_ (by kernel_rfl) (by kernel_rfl) (by kernel_rfl) ?_ (Or.inl ⟨?_, ?_⟩) hHeld ?_
      rotate_left 2
      · conv => lhs; simp only [List.getElem?_toArray, List.getElem?_cons_succ, List.getElem?_cons_zero]
      · exact fun _ _ _ h => h
      · rfl
      · intro W hSw
        go_simp
        try with_reducible rfl
      try simp only [Act.put, List.setIfInBounds_toArray, List.set_cons_zero, List.set_cons_succ]
      refine wpAnyH_take (i := 3) (oi := ?_) (v := (.agg (prC q).toArray)) ?_ (by kernel_rfl) (by kernel_rfl) (by kernel_rfl) ?_ (Or.inl ⟨?_, ?_⟩) hHeld ?_
      rotate_left 1
      · conv => lhs; simp only [List.getElem?_toArray, List.getElem?_cons_succ, List.getElem?_cons_zero]
      · exact fun _ _ _ h => h
      · rfl
      · intro W hSw
        exact tk_part rfl rfl Try.underlying66 rfl (info_r q) (HRA.out W hSw)
      try simp only [Act.put, List.setIfInBounds_toArray, List.set_cons_zero, List.set_cons_succ]
      refine wpAnyH_take (i := 4) (oi := ?_) (v := ?_) ?_ (by kernel_rfl) (by kernel_rfl) (by kernel_rfl) ?_ (Or.inl ⟨?_, ?_⟩) hHeld ?_
      rotate_left 2
      · conv => lhs; simp only [List.getElem?_toArray, List.getElem?_cons_succ, List.getElem?_cons_zero]
      · exact fun _ _ _ h => h
      · rfl
      · intro W hSw
        go_simp
        try with_reducible rfl
      try simp only [Act.put, List.setIfInBounds_toArray, List.set_cons_zero, List.set_cons_succ]
      refine wpAnyH_take (i := 5) (oi := ?_) (v := ?_) ?_ (by kernel_rfl) (by kernel_rfl) (by kernel_rfl) ?_ (Or.inl ⟨?_, ?_⟩) hHeld ?_
      rotate_left 2
      · conv => lhs; simp only [List.getElem?_toArray, List.getElem?_cons_succ, List.getElem?_cons_zero]
      · exact fun _ _ _ h => h
      · rfl
      · intro W hSw
        go_simp
        try with_reducible rfl
      try simp only [Act.put, List.setIfInBounds_toArray, List.set_cons_zero, List.set_cons_succ]
      refine wpAnyH_take (i := 6) (oi := ?_) (v := ?_) ?_ (by kernel_rfl) (by kernel_rfl) (by kernel_rfl) ?_ (Or.inl ⟨?_, ?_⟩) hHeld ?_
      rotate_left 2
      · conv => lhs; simp only [List.getElem?_toArray, List.getElem?_cons_succ, List.getElem?_cons_zero]
      · exact fun _ _ _ h => h
      · rfl
      · intro W hSw
        go_simp
        try with_reducible rfl
      try simp only [Act.put, List.setIfInBounds_toArray, List.set_cons_zero, List.set_cons_succ]
      refine wpAnyH_take (i := 7) (oi := ?_) (v := (.agg (prC { q with gA := A', gc := c' }).toArray)) ?_ (by kernel_rfl) (by kernel_rfl) (by kernel_rfl) ?_ (Or.inl ⟨?_, ?_⟩) hHeld ?_
      rotate_left 1
      · conv => lhs; simp only [List.getElem?_toArray, List.getElem?_cons_succ, List.getElem?_cons_zero]
      · exact fun _ _ _ h => h
      · rfl
      · intro W hSw
        exact tk_part rfl rfl Try.underlying66 rfl (info_r _) (HRB.out W hSw)
      try simp only [Act.put, List.setIfInBounds_toArray, List.set_cons_zero, List.set_cons_succ]
      refine wpAnyH_ready (rs := [8]) (by kernel_rfl) (by simp) ?_
      refine AllReadyH.cons (o := ?_) ?_ (fun K hK => ?_) AllReadyH.nil
      rotate_left 1
      · conv => lhs; simp only [List.getElem?_toArray, List.getElem?_cons_succ, List.getElem?_cons_zero]
      go_simp
      refine (CS.out _ hHeld).mono ?_
      rintro e wA ⟨rfl, hb⟩
      have HB2 := Lib.hid (up_trans (up_trans HBW.out hHeld) hb)
      go_wp2_with fail
      refine hK.out _ _ (up_trans hHeld hb) (fun hHeld => ?_)
      clear hK K
      try simp only [Act.put, List.setIfInBounds_toArray, List.set_cons_zero, List.set_cons_succ]
      refine wpAnyH_take (i := 9) (oi := ?_) (v := ?_) ?_ (by kernel_rfl) (by kernel_rfl) (by kernel_rfl) ?_ (Or.inl ⟨?_, ?_⟩) hHeld ?_
      rotate_left 2
      · conv => lhs; simp only [List.getElem?_toArray, List.getElem?_cons_succ, List.getElem?_cons_zero]
      · exact fun _ _ _ h => h
      · rfl
      · intro W hSw
        go_simp
        try with_reducible rfl
      try simp only [Act.put, List.setIfInBounds_toArray, List.set_cons_zero, List.set_cons_succ]
      refine wpAnyH_done (by kernel_rfl) ?_ _
      go_wp2
      go_roundw
      case rel => exact ⟨k + 1, by omega, by go_num, HB2.out⟩
      case measure => simp [intOf]; omega
    · obtain rfl : k = n := by omega
      clear hb
      go_wp2
      go_ret
      exact ⟨rfl, HBW.out⟩
end Go.Proofs.Ytflpjpdgacjlcaa

/- The document's Parse of an event. (Written by wip/tools/gen28/genrparse.py.) -/
import Derived.Test.YtajbpplklmhfmaaDoorEvj
import Derived.Test.YtajbpplklmhfmaaDoorEve
import Derived.Test.YtajbpplklmhfmaaDoorDc
import Derived.Deep.RegionHeld3
import Derived.Deep.CutBlock
import Derived.Deep.DeepCutAuto
import Derived.IntWalk
namespace Go.Proofs.YtajbpplklmhfmaaDoor
open Go.RowKit

theorem c_plainA (l : List UInt8) (hl : l.length ≤ 1000000) (w : World) :
    Calls Tryd.prog 29 #[.string ⟨l.toArray⟩] w fun e w' => e = .returned (.tuple #[.int .i64 (plainV l), .bool (plainB l)]) ∧ w = w' := c_plain ⟨l.toArray⟩ (by simpa [ByteArray.size] using hl) w
theorem cut_at {c : UInt8} {l : List UInt8} {k : Nat} (hall : (l.take k).all (· != c) = true) (hend : l.drop k = [] ∨ ∃ r, l.drop k = c :: r) : evA c l = l.take k ∧ evB c l = l.drop (k + 1) := by
  have hn : ∀ x ∈ l.take k, x ≠ c := fun x hx => by simpa using List.all_eq_true.1 hall x hx
  have e := List.take_append_drop k l
  rcases hend with h | ⟨r, h⟩
  · rw [h, List.append_nil] at e
    obtain ⟨h1, h2⟩ := evA_none (c := c) hn
    rw [e] at h1 h2
    have hl : l.length ≤ k + 1 := by
      have := congrArg List.length h
      rw [List.length_drop, List.length_nil] at this
      omega
    exact ⟨by rw [h1, e], by rw [h2]; exact (List.drop_of_length_le hl).symm⟩
  · rw [h] at e
    obtain ⟨h1, h2⟩ := evA_some (c := c) (b := r) hn
    rw [e] at h1 h2
    refine ⟨h1, by rw [h2, ← List.drop_drop, h]; rfl⟩
theorem read_nil {f : List UInt8 → Int} (k : Nat) (h1 : 1 ≤ k) : (evRead f k []).2 = false := by
  by_cases h4 : k ≤ 4
  · rw [read_low h4]
    have : Lib.hasPrefix [] (evLtr k) = false := by
      rcases ltr_ways k with ⟨hl, _⟩ | ⟨hl, _⟩ | ⟨_, hl⟩
      · rw [hl]; rfl
      · rw [hl]; rfl
      · omega
    rw [this]
    rfl
  · rw [read_high h4]
    rfl
theorem read_cons {f : List UInt8 → Int} {k : Nat} {c d : UInt8} {r : List UInt8} (h4 : k ≤ 4) (hc : evLtr k = [c]) : evRead f k (d :: r) = if d = c then (⟨k, f r, 0, 0⟩, plainB r) else (⟨k, f (d :: r), 0, 0⟩, false) := by
  rw [read_low h4, hc]
  by_cases h : d = c
  · subst h
    have hp : Lib.hasPrefix (d :: r) [d] = true := by simp [Lib.hasPrefix]
    have ht : Lib.trimPrefix (d :: r) [d] = r := by
      unfold Lib.trimPrefix
      rw [if_pos hp]
      rfl
    rw [if_pos rfl, hp, ht, Bool.true_and]
  · have hp : Lib.hasPrefix (d :: r) [c] = false := by
      simp only [Lib.hasPrefix, List.isPrefixOf, Bool.and_true]
      exact beq_eq_false_iff_ne.2 fun e => h e.symm
    have ht : Lib.trimPrefix (d :: r) [c] = d :: r := by
      unfold Lib.trimPrefix
      rw [hp]
      rfl
    rw [if_neg h, hp, ht]
    rfl

set_option maxRecDepth 100000 in
set_option maxHeartbeats 4000000 in
theorem c_rpar (s : ByteArray) (hs : s.size ≤ 1000000) (w : World) : Calls Tryd.prog 12 #[.string s] w (ParPost w (evPar plainV s.data.toList)) := by
  have hll : s.data.toList.length = s.size := by simp
  have HR0 := Blk.new w [.int .i64 0, .int .i64 0, .int .i64 0, .int .i64 0] 23
  have HU0 := up_alloc w (.cells #[.int .i64 0, .int .i64 0, .int .i64 0, .int .i64 0] 23)
  have H0 := Lib.hid (@evPar_kind plainV s.data.toList)
  have H3 := Lib.hid (@evPar_form plainV s.data.toList)
  have HO := Lib.hid (fun (e : EV) => @evPar_on plainV s.data.toList e)
  generalize evPar plainV s.data.toList = X at H0 H3 HO ⊢
  go_enter Tryd.func12, Tryd.ntmps12
  go_upto_block 0 with fail
  go_cut [4] (fun s4 wx => ∃ k : Nat, k ≤ s.size ∧ s4 = .int .i64 k ∧ evA 32 s.data.toList = s.data.toList.take k ∧ evB 32 s.data.toList = s.data.toList.drop (k + 1) ∧ wx = w.alloc (.cells #[.int .i64 0, .int .i64 0, .int .i64 0, .int .i64 0] 23))
  case first =>
    go_wp2
    go_loop [4] (fun i => ∃ k : Nat, k ≤ s.size ∧ i = .int .i64 k ∧ (s.data.toList.take k).all (· != 32) = true) (fun i => s.size - (intOf i).toNat)
    case atStart => exact ⟨0, Nat.zero_le _, rfl, rfl⟩
    case round =>
      obtain ⟨k, hk, rfl, hall⟩ := hrel
      have HA := Lib.hid hall
      clear hall
      by_cases hlt : k < s.size
      · have hk0 : (0 : Int) ≤ k := by omega
        have hk1 : (k : Int) < s.size := by omega
        by_cases h46 : s[k] = 32
        · have e0 := drop_cons s k hlt
          rw [h46] at e0
          have HC := Lib.hid (cut_at HA.out (.inr ⟨_, e0⟩))
          have hb2 : ((s[k].toNat : Int) != 32) = false := by rw [h46]; rfl
          clear e0 h46
          go_wp2
          go_meet
          exact ⟨k, hk, rfl, HC.out.1, HC.out.2, rfl⟩
        · have hne : s[k].toNat ≠ 32 := fun hh => h46 (UInt8.toNat_inj.1 (by have : (32 : UInt8).toNat = 32 := rfl; omega))
          have hb2 : ((s[k].toNat : Int) != 32) = true := by rw [bne_iff_ne]; omega
          have HS := Lib.hid (take_snoc s k hlt)
          have HN := Lib.hid h46
          clear hne h46
          go_wp2
          go_round
          case rel =>
            refine ⟨k + 1, by omega, by go_num, ?_⟩
            rw [HS.out, List.all_append, HA.out, Bool.true_and]
            simpa using HN.out
          case measure => simp [intOf]; omega
      · obtain rfl : k = s.size := by omega
        have HC := Lib.hid (cut_at HA.out (.inl (List.drop_of_length_le (by simp))))
        go_wp2
        go_meet
        exact ⟨s.size, Nat.le_refl _, rfl, HC.out.1, HC.out.2, rfl⟩
  case rest =>
    obtain ⟨k, hk, rfl, hA, hB, rfl⟩ := hcut
    have hk0 : (0 : Int) ≤ k := by omega
    have hk1 : (k : Int) ≤ s.size := by omega
    have hx1 : s.extract 0 k = ⟨(evA 32 s.data.toList).toArray⟩ := ba_eq (by rw [Lib.extract_data, hA]; simp)
    have hx2 : k < s.size → s.extract (k + 1) s.size = ⟨(evB 32 s.data.toList).toArray⟩ := fun h => ba_eq (by
      rw [Lib.extract_data, hB]
      exact List.take_of_length_le (by rw [List.length_drop, hll]; omega))
    have hx3 : ¬ k < s.size → evB 32 s.data.toList = [] := fun h => by
      rw [hB]
      exact List.drop_of_length_le (by rw [hll]; omega)
    have hlb : (evB 32 s.data.toList).length ≤ 1000000 := by
      rw [hB, List.length_drop, hll]
      omega
    have HX2 := Lib.hid hx2
    have HX3 := Lib.hid hx3
    have HE := Lib.hid (evLast_eq (evA 32 s.data.toList))
    clear hA hB hx2 hx3 hll
    generalize evA 32 s.data.toList = aa at hx1 H0 H3 HO HE
    generalize evB 32 s.data.toList = bb at HX2 HX3 hlb H3 HO
    have HE0 := Blk.new (w.alloc (.cells #[.int .i64 0, .int .i64 0, .int .i64 0, .int .i64 0] 23)) [.int .i64 0, .int .i64 0, .int .i64 0, .int .i64 0] 23
    have HR1 := HR0.alloc (.cells #[.int .i64 0, .int .i64 0, .int .i64 0, .int .i64 0] 23)
    have HU1 := HU0.trans ((up_alloc (w.alloc (.cells #[.int .i64 0, .int .i64 0, .int .i64 0, .int .i64 0] 23)) (.cells #[.int .i64 0, .int .i64 0, .int .i64 0, .int .i64 0] 23)).mono HU0.size)
    rw [show (w.alloc (.cells #[.int .i64 0, .int .i64 0, .int .i64 0, .int .i64 0] 23)).heap.size = w.heap.size + 1 from by simp] at HE0
    have hsz1 : ((w.alloc (.cells #[.int .i64 0, .int .i64 0, .int .i64 0, .int .i64 0] 23)).alloc (.cells #[.int .i64 0, .int .i64 0, .int .i64 0, .int .i64 0] 23)).heap.size = w.heap.size + 1 + 1 := by simp
    go_upto_block 2 with fail
    generalize hw1 : (w.alloc (.cells [.int .i64 0, .int .i64 0, .int .i64 0, .int .i64 0].toArray 23)).alloc (.cells [.int .i64 0, .int .i64 0, .int .i64 0, .int .i64 0].toArray 23) = w1 at HE0
    have HW1 := Lib.hid hw1
    have HR1' := Lib.hid (HW1.out ▸ HR1)
    have HU1' := Lib.hid (HW1.out ▸ HU1)
    have hsz := Lib.hid (HW1.out ▸ hsz1)
    have HE1 := Lib.hid HE0
    clear HR0 HU0 HR1 HU1 HE0 hw1 hsz1
    go_cut [6] (fun s6 wx => Only (· = w.heap.size + 1) w1 wx ∧ Blk wx (w.heap.size + 1) [.int .i64 (evFind aa), .int .i64 0, .int .i64 0, .int .i64 0] 23)
    case first =>
      go_wp2
      go_loopw [6] (fun i wr => ∃ k : Nat, k ≤ 8 ∧ i = .int .i64 k ∧ Only (· = w.heap.size + 1) w1 wr ∧ Blk wr (w.heap.size + 1) [.int .i64 (evLast k aa), .int .i64 0, .int .i64 0, .int .i64 0] 23) (fun i _ => 8 - (intOf i).toNat)
      case atStart => exact ⟨0, Nat.zero_le _, rfl, Only.refl _ _, HE1.out⟩
      case round =>
        obtain ⟨j, hj, rfl, hO, hB⟩ := hrel
        have HOO := Lib.hid hO
        have HBB := Lib.hid hB
        clear hO hB
        by_cases hlt : j < 8
        · have hj0 : (0 : Int) ≤ j := by omega
          have hj1 : (j : Int) < 8 := by omega
          have hN := nmC_at j hlt
          have HL := Lib.hid (show evLast (j + 1) aa = if aa == evNm (j + 1) then j + 1 else evLast j aa from rfl)
          cases he : (aa == evNm (j + 1))
          · have HL2 : Hid (evLast (j + 1) aa = evLast j aa) := Lib.hid (by rw [HL.out, he]; rfl)
            clear HL
            generalize evNm (j + 1) = nm at hN he
            go_wp2_with fail
            refine wp_region_held_drew (S := fun W => Below wr.heap.size wr W) (by kernel_rfl) ((Below.refl _ _).drew) (fun hHeld => ?_)
            refine wpAnyH_take (i := 0) (oi := ?_) (v := ?_) ?_ (by kernel_rfl) (by kernel_rfl) (by kernel_rfl) ?_ (Or.inl ⟨?_, ?_⟩) hHeld ?_
            rotate_left 2
            · conv => lhs; simp only [List.getElem?_toArray, List.getElem?_cons_succ, List.getElem?_cons_zero]
            · exact fun _ _ _ h => h
            · rfl
            · intro W hSw
              go_simp
              try with_reducible rfl
            try simp only [Act.put, List.setIfInBounds_toArray, List.set_cons_zero, List.set_cons_succ]
            refine wpAnyH_take (i := 1) (oi := ?_) (v := ?_) ?_ (by kernel_rfl) (by kernel_rfl) (by kernel_rfl) ?_ (Or.inl ⟨?_, ?_⟩) hHeld ?_
            rotate_left 2
            · conv => lhs; simp only [List.getElem?_toArray, List.getElem?_cons_succ, List.getElem?_cons_zero]
            · exact fun _ _ _ h => h
            · rfl
            · intro W hSw
              go_simp
              try with_reducible rfl
            try simp only [Act.put, List.setIfInBounds_toArray, List.set_cons_zero, List.set_cons_succ]
            refine wpAnyH_take (i := 2) (oi := ?_) (v := ?_) ?_ (by kernel_rfl) (by kernel_rfl) (by kernel_rfl) ?_ (Or.inl ⟨?_, ?_⟩) hHeld ?_
            rotate_left 2
            · conv => lhs; simp only [List.getElem?_toArray, List.getElem?_cons_succ, List.getElem?_cons_zero]
            · exact fun _ _ _ h => h
            · rfl
            · intro W hSw
              go_simp
              try with_reducible rfl
            try simp only [Act.put, List.setIfInBounds_toArray, List.set_cons_zero, List.set_cons_succ]
            refine wpAnyH_take (i := 4) (oi := ?_) (v := ?_) ?_ (by kernel_rfl) (by kernel_rfl) (by kernel_rfl) ?_ (Or.inl ⟨?_, ?_⟩) hHeld ?_
            rotate_left 2
            · conv => lhs; simp only [List.getElem?_toArray, List.getElem?_cons_succ, List.getElem?_cons_zero]
            · exact fun _ _ _ h => h
            · rfl
            · intro W hSw
              go_simp
              try with_reducible rfl
            try simp only [Act.put, List.setIfInBounds_toArray, List.set_cons_zero, List.set_cons_succ]
            refine wpAnyH_ready (rs := [3]) (by kernel_rfl) (by simp) ?_
            refine AllReadyH.cons (o := ?_) ?_ (fun K hK => ?_) AllReadyH.nil
            rotate_left 1
            · conv => lhs; simp only [List.getElem?_toArray, List.getElem?_cons_succ, List.getElem?_cons_zero]
            go_simp
            refine (c_names _).mono ?_; rintro e wB ⟨rfl, hnB, hbB⟩
            go_wp2_with fail
            refine hK.out _ _ (up_trans hHeld hbB) (fun hHeld => ?_)
            clear hK K
            try simp only [Act.put, List.setIfInBounds_toArray, List.set_cons_zero, List.set_cons_succ]
            refine wpAnyH_take (i := 5) (oi := ?_) (v := ?_) ?_ (by kernel_rfl) (by kernel_rfl) (by kernel_rfl) ?_ (Or.inl ⟨?_, ?_⟩) hHeld ?_
            rotate_left 2
            · conv => lhs; simp only [List.getElem?_toArray, List.getElem?_cons_succ, List.getElem?_cons_zero]
            · exact fun _ _ _ h => h
            · rfl
            · intro W hSw
              go_simp
              try with_reducible rfl
            try simp only [Act.put, List.setIfInBounds_toArray, List.set_cons_zero, List.set_cons_succ]
            have q6 : wB.cell? ⟨wr.heap.size, j, none⟩ = some (.string ⟨nm.toArray⟩) := hnB.cell j _ hN
            refine wpAnyH_ready (rs := [6]) (by kernel_rfl) (by simp) ?_
            refine AllReadyH.cons (o := ?_) ?_ (fun K hK => ?_) AllReadyH.nil
            rotate_left 1
            · conv => lhs; simp only [List.getElem?_toArray, List.getElem?_cons_succ, List.getElem?_cons_zero]
            go_simp
            refine hK.out _ _ (hHeld) (fun hHeld => ?_)
            clear hK K
            try simp only [Act.put, List.setIfInBounds_toArray, List.set_cons_zero, List.set_cons_succ]
            refine wpAnyH_take (i := 7) (oi := ?_) (v := ?_) ?_ (by kernel_rfl) (by kernel_rfl) (by kernel_rfl) ?_ (Or.inl ⟨?_, ?_⟩) hHeld ?_
            rotate_left 2
            · conv => lhs; simp only [List.getElem?_toArray, List.getElem?_cons_succ, List.getElem?_cons_zero]
            · exact fun _ _ _ h => h
            · rfl
            · intro W hSw
              go_simp
              try with_reducible rfl
            try simp only [Act.put, List.setIfInBounds_toArray, List.set_cons_zero, List.set_cons_succ]
            refine wpAnyH_done (by kernel_rfl) ?_ _
            go_wp2_with fail
            go_wp2
            go_roundw
            case rel => exact ⟨j + 1, by omega, by go_num, HOO.out.below_trans hHeld, by rw [HL2.out]; exact HBB.out.up hHeld HBB.out.lt⟩
            case measure => simp [intOf]; omega
          · have HL2 : Hid (evLast (j + 1) aa = j + 1) := Lib.hid (by rw [HL.out, he]; rfl)
            clear HL
            generalize evNm (j + 1) = nm at hN he
            go_wp2_with fail
            refine wp_region_held_drew (S := fun W => Below wr.heap.size wr W) (by kernel_rfl) ((Below.refl _ _).drew) (fun hHeld => ?_)
            refine wpAnyH_take (i := 0) (oi := ?_) (v := ?_) ?_ (by kernel_rfl) (by kernel_rfl) (by kernel_rfl) ?_ (Or.inl ⟨?_, ?_⟩) hHeld ?_
            rotate_left 2
            · conv => lhs; simp only [List.getElem?_toArray, List.getElem?_cons_succ, List.getElem?_cons_zero]
            · exact fun _ _ _ h => h
            · rfl
            · intro W hSw
              go_simp
              try with_reducible rfl
            try simp only [Act.put, List.setIfInBounds_toArray, List.set_cons_zero, List.set_cons_succ]
            refine wpAnyH_take (i := 1) (oi := ?_) (v := ?_) ?_ (by kernel_rfl) (by kernel_rfl) (by kernel_rfl) ?_ (Or.inl ⟨?_, ?_⟩) hHeld ?_
            rotate_left 2
            · conv => lhs; simp only [List.getElem?_toArray, List.getElem?_cons_succ, List.getElem?_cons_zero]
            · exact fun _ _ _ h => h
            · rfl
            · intro W hSw
              go_simp
              try with_reducible rfl
            try simp only [Act.put, List.setIfInBounds_toArray, List.set_cons_zero, List.set_cons_succ]
            refine wpAnyH_take (i := 2) (oi := ?_) (v := ?_) ?_ (by kernel_rfl) (by kernel_rfl) (by kernel_rfl) ?_ (Or.inl ⟨?_, ?_⟩) hHeld ?_
            rotate_left 2
            · conv => lhs; simp only [List.getElem?_toArray, List.getElem?_cons_succ, List.getElem?_cons_zero]
            · exact fun _ _ _ h => h
            · rfl
            · intro W hSw
              go_simp
              try with_reducible rfl
            try simp only [Act.put, List.setIfInBounds_toArray, List.set_cons_zero, List.set_cons_succ]
            refine wpAnyH_take (i := 4) (oi := ?_) (v := ?_) ?_ (by kernel_rfl) (by kernel_rfl) (by kernel_rfl) ?_ (Or.inl ⟨?_, ?_⟩) hHeld ?_
            rotate_left 2
            · conv => lhs; simp only [List.getElem?_toArray, List.getElem?_cons_succ, List.getElem?_cons_zero]
            · exact fun _ _ _ h => h
            · rfl
            · intro W hSw
              go_simp
              try with_reducible rfl
            try simp only [Act.put, List.setIfInBounds_toArray, List.set_cons_zero, List.set_cons_succ]
            refine wpAnyH_ready (rs := [3]) (by kernel_rfl) (by simp) ?_
            refine AllReadyH.cons (o := ?_) ?_ (fun K hK => ?_) AllReadyH.nil
            rotate_left 1
            · conv => lhs; simp only [List.getElem?_toArray, List.getElem?_cons_succ, List.getElem?_cons_zero]
            go_simp
            refine (c_names _).mono ?_; rintro e wB ⟨rfl, hnB, hbB⟩
            go_wp2_with fail
            refine hK.out _ _ (up_trans hHeld hbB) (fun hHeld => ?_)
            clear hK K
            try simp only [Act.put, List.setIfInBounds_toArray, List.set_cons_zero, List.set_cons_succ]
            refine wpAnyH_take (i := 5) (oi := ?_) (v := ?_) ?_ (by kernel_rfl) (by kernel_rfl) (by kernel_rfl) ?_ (Or.inl ⟨?_, ?_⟩) hHeld ?_
            rotate_left 2
            · conv => lhs; simp only [List.getElem?_toArray, List.getElem?_cons_succ, List.getElem?_cons_zero]
            · exact fun _ _ _ h => h
            · rfl
            · intro W hSw
              go_simp
              try with_reducible rfl
            try simp only [Act.put, List.setIfInBounds_toArray, List.set_cons_zero, List.set_cons_succ]
            have q6 : wB.cell? ⟨wr.heap.size, j, none⟩ = some (.string ⟨nm.toArray⟩) := hnB.cell j _ hN
            refine wpAnyH_ready (rs := [6]) (by kernel_rfl) (by simp) ?_
            refine AllReadyH.cons (o := ?_) ?_ (fun K hK => ?_) AllReadyH.nil
            rotate_left 1
            · conv => lhs; simp only [List.getElem?_toArray, List.getElem?_cons_succ, List.getElem?_cons_zero]
            go_simp
            refine hK.out _ _ (hHeld) (fun hHeld => ?_)
            clear hK K
            try simp only [Act.put, List.setIfInBounds_toArray, List.set_cons_zero, List.set_cons_succ]
            refine wpAnyH_take (i := 7) (oi := ?_) (v := ?_) ?_ (by kernel_rfl) (by kernel_rfl) (by kernel_rfl) ?_ (Or.inl ⟨?_, ?_⟩) hHeld ?_
            rotate_left 2
            · conv => lhs; simp only [List.getElem?_toArray, List.getElem?_cons_succ, List.getElem?_cons_zero]
            · exact fun _ _ _ h => h
            · rfl
            · intro W hSw
              go_simp
              try with_reducible rfl
            try simp only [Act.put, List.setIfInBounds_toArray, List.set_cons_zero, List.set_cons_succ]
            refine wpAnyH_done (by kernel_rfl) ?_ _
            have HB2 := HBB.out.up hHeld HBB.out.lt
            have k0 := HB2.cell 0 _ rfl
            have f0 := HB2.free 0
            have HB3 := Lib.hid HB2
            clear HB2
            go_wp2
            go_roundw
            case rel => exact ⟨j + 1, by omega, by go_num, (HOO.out.below_trans hHeld).put 0 _, by rw [HL2.out]; exact HB3.out.set 0 _⟩
            case measure => simp [intOf]; omega
        · obtain rfl : j = 8 := by omega
          go_wp2
          go_meet
          exact ⟨HOO.out, by rw [← HE.out]; exact HBB.out⟩
    case rest =>
    obtain ⟨hO, hB⟩ := hcut
    have hk8 := evFind_le aa
    generalize evFind aa = kk at hB hk8 H0 H3 HO HE
    have HRc := Lib.hid (HR1'.out.only hO (by omega))
    have HUc := Lib.hid (HU1'.out.trans (hO.toBelow (by have := hsz.out; omega) (fun k e => by omega)))
    have HEc := Lib.hid hB
    have i0 := HEc.out.cell 0 _ rfl
    clear hO hB HR1' HU1' HE1 HW1 hsz HE
    by_cases h0 : kk = 0
    case pos =>
      subst h0
      have HX := Lib.hid (H0.out rfl)
      rw [show ((0 : Nat) : Int) = 0 from rfl] at i0
      clear H0 H3 HO HEc
      have r0 := HRc.out.cell 0 _ rfl
      have r1 := HRc.out.cell 1 _ rfl
      have r2 := HRc.out.cell 2 _ rfl
      have r3 := HRc.out.cell 3 _ rfl
      have f0 := HRc.out.free 0
      have f1 := HRc.out.free 1
      have f2 := HRc.out.free 2
      have f3 := HRc.out.free 3
      go_wp2
      refine bodyPost_ret (v := .tuple #[.agg #[.int .i64 0, .int .i64 0, .int .i64 0, .int .i64 0], .int .i64 12]) (by simp [results, Tryd.results12, go_sem, r0, r1, r2, r3]) rfl (ParPost.of (by rw [HX.out]) (set4_below HUc.out (Nat.le_refl _) _ _ _ _))
    case neg =>
      have t0 : ((kk : Int) == 0) = false := by simp; omega
      have H3' := Lib.hid (H3.out h0)
      have HO' := Lib.hid (fun e => HO.out e h0)
      have hkk1 : 1 ≤ kk := by omega
      clear H0 H3 HO h0
      by_cases hks : k < s.size
      case neg =>
        obtain rfl : k = s.size := by omega
        have HX := Lib.hid (H3'.out (by rw [HX3.out hks]; exact read_nil kk hkk1))
        clear H3' HO' HX2 HX3 HEc hx1
        have r0 := HRc.out.cell 0 _ rfl
        have r1 := HRc.out.cell 1 _ rfl
        have r2 := HRc.out.cell 2 _ rfl
        have r3 := HRc.out.cell 3 _ rfl
        have f0 := HRc.out.free 0
        have f1 := HRc.out.free 1
        have f2 := HRc.out.free 2
        have f3 := HRc.out.free 3
        go_wp2
        refine bodyPost_ret (v := .tuple #[.agg #[.int .i64 0, .int .i64 0, .int .i64 0, .int .i64 0], .int .i64 3]) (by simp [results, Tryd.results12, go_sem, r0, r1, r2, r3]) rfl (ParPost.of (by rw [HX.out]) (set4_below HUc.out (Nat.le_refl _) _ _ _ _))
      case pos =>
        have tk : ((k : Int) == s.size) = false := by simp; omega
        have hks2 : (k : Int) + 1 ≤ s.size := by omega
        have hks3 : (0 : Int) ≤ k + 1 := by omega
        obtain ⟨t, ht⟩ : ∃ t, s.extract (k + 1) s.size = t := ⟨_, rfl⟩
        have HT : Hid (t = ⟨bb.toArray⟩) := Lib.hid (by rw [← ht]; exact HX2.out hks)
        have HTD : Hid (t.data.toList = bb) := Lib.hid (by rw [HT.out])
        have HTZ : Hid (t.size = bb.length) := Lib.hid (by rw [HT.out]; simp [ByteArray.size])
        have htz : t.size ≤ 1000000 := by have := HTZ.out; omega
        clear HX2 HX3 hks
        by_cases h4 : kk ≤ 4
        case pos =>
          have h4i : (kk : Int) ≤ 4 := by omega
          obtain ⟨m, rfl⟩ : ∃ m, kk = m + 1 := ⟨kk - 1, by omega⟩
          obtain ⟨c, hc⟩ : ∃ c : UInt8, evLtr ((m + 1 : Nat) : Int) = [c] := by
            rcases ltr_ways ((m + 1 : Nat) : Int) with ⟨hl, _⟩ | ⟨hl, _⟩ | ⟨_, hl⟩
            · exact ⟨_, hl⟩
            · exact ⟨_, hl⟩
            · omega
          cases bb with
          | nil =>
            have HX := Lib.hid (H3'.out (read_nil (m + 1) hkk1))
            have tz : ((t.size : Nat) : Int) < 1 := by have := HTZ.out; rw [List.length_nil] at this; omega
            have tzb : decide (((t.size : Nat) : Int) < 1) = true := decide_eq_true tz
            clear H3' HO' HEc hx1 hc
            go_wp2_with fail
            refine wp_region_held_drew (S := fun W => Below wc.heap.size wc W) (by kernel_rfl) ((Below.refl _ _).drew) (fun hHeld => ?_)
            refine wpAnyH_take (i := 0) (oi := ?_) (v := ?_) ?_ (by kernel_rfl) (by kernel_rfl) (by kernel_rfl) ?_ (Or.inl ⟨?_, ?_⟩) hHeld ?_
            rotate_left 2
            · conv => lhs; simp only [List.getElem?_toArray, List.getElem?_cons_succ, List.getElem?_cons_zero]
            · exact fun _ _ _ h => h
            · rfl
            · intro W hSw
              go_simp
              try with_reducible rfl
            try simp only [Act.put, List.setIfInBounds_toArray, List.set_cons_zero, List.set_cons_succ]
            refine wpAnyH_take (i := 1) (oi := ?_) (v := ?_) ?_ (by kernel_rfl) (by kernel_rfl) (by kernel_rfl) ?_ (Or.inl ⟨?_, ?_⟩) hHeld ?_
            rotate_left 2
            · conv => lhs; simp only [List.getElem?_toArray, List.getElem?_cons_succ, List.getElem?_cons_zero]
            · exact fun _ _ _ h => h
            · rfl
            · intro W hSw
              go_simp
              try with_reducible rfl
            try simp only [Act.put, List.setIfInBounds_toArray, List.set_cons_zero, List.set_cons_succ]
            refine wpAnyH_take (i := 2) (oi := ?_) (v := ?_) ?_ (by kernel_rfl) (by kernel_rfl) (by kernel_rfl) ?_ (Or.inl ⟨?_, ?_⟩) hHeld ?_
            rotate_left 2
            · conv => lhs; simp only [List.getElem?_toArray, List.getElem?_cons_succ, List.getElem?_cons_zero]
            · exact fun _ _ _ h => h
            · rfl
            · intro W hSw
              go_simp
              try with_reducible rfl
            try simp only [Act.put, List.setIfInBounds_toArray, List.set_cons_zero, List.set_cons_succ]
            refine wpAnyH_take (i := 3) (oi := ?_) (v := ?_) ?_ (by kernel_rfl) (by kernel_rfl) (by kernel_rfl) ?_ (Or.inl ⟨?_, ?_⟩) hHeld ?_
            rotate_left 2
            · conv => lhs; simp only [List.getElem?_toArray, List.getElem?_cons_succ, List.getElem?_cons_zero]
            · exact fun _ _ _ h => h
            · rfl
            · intro W hSw
              go_simp
              try with_reducible rfl
            try simp only [Act.put, List.setIfInBounds_toArray, List.set_cons_zero, List.set_cons_succ]
            refine wpAnyH_take (i := 4) (oi := ?_) (v := undef) ?_ (by kernel_rfl) (by kernel_rfl) (by kernel_rfl) ?_ (Or.inr ⟨?_, rfl⟩) hHeld ?_
            rotate_left 1
            · conv => lhs; simp only [List.getElem?_toArray, List.getElem?_cons_succ, List.getElem?_cons_zero]
            · exact fun _ _ _ h => h
            · rfl
            try simp only [Act.put, List.setIfInBounds_toArray, List.set_cons_zero, List.set_cons_succ]
            refine wpAnyH_take (i := 5) (oi := ?_) (v := undef) ?_ (by kernel_rfl) (by kernel_rfl) (by kernel_rfl) ?_ (Or.inr ⟨?_, rfl⟩) hHeld ?_
            rotate_left 1
            · conv => lhs; simp only [List.getElem?_toArray, List.getElem?_cons_succ, List.getElem?_cons_zero]
            · exact fun _ _ _ h => h
            · rfl
            try simp only [Act.put, List.setIfInBounds_toArray, List.set_cons_zero, List.set_cons_succ]
            refine wpAnyH_take (i := 6) (oi := ?_) (v := undef) ?_ (by kernel_rfl) (by kernel_rfl) (by kernel_rfl) ?_ (Or.inr ⟨?_, rfl⟩) hHeld ?_
            rotate_left 1
            · conv => lhs; simp only [List.getElem?_toArray, List.getElem?_cons_succ, List.getElem?_cons_zero]
            · exact fun _ _ _ h => h
            · rfl
            try simp only [Act.put, List.setIfInBounds_toArray, List.set_cons_zero, List.set_cons_succ]
            refine wpAnyH_take (i := 7) (oi := ?_) (v := undef) ?_ (by kernel_rfl) (by kernel_rfl) (by kernel_rfl) ?_ (Or.inr ⟨?_, rfl⟩) hHeld ?_
            rotate_left 1
            · conv => lhs; simp only [List.getElem?_toArray, List.getElem?_cons_succ, List.getElem?_cons_zero]
            · exact fun _ _ _ h => h
            · rfl
            try simp only [Act.put, List.setIfInBounds_toArray, List.set_cons_zero, List.set_cons_succ]
            refine wpAnyH_take (i := 8) (oi := ?_) (v := undef) ?_ (by kernel_rfl) (by kernel_rfl) (by kernel_rfl) ?_ (Or.inr ⟨?_, rfl⟩) hHeld ?_
            rotate_left 1
            · conv => lhs; simp only [List.getElem?_toArray, List.getElem?_cons_succ, List.getElem?_cons_zero]
            · exact fun _ _ _ h => h
            · rfl
            try simp only [Act.put, List.setIfInBounds_toArray, List.set_cons_zero, List.set_cons_succ]
            refine wpAnyH_take (i := 9) (oi := ?_) (v := undef) ?_ (by kernel_rfl) (by kernel_rfl) (by kernel_rfl) ?_ (Or.inr ⟨?_, rfl⟩) hHeld ?_
            rotate_left 1
            · conv => lhs; simp only [List.getElem?_toArray, List.getElem?_cons_succ, List.getElem?_cons_zero]
            · exact fun _ _ _ h => h
            · rfl
            try simp only [Act.put, List.setIfInBounds_toArray, List.set_cons_zero, List.set_cons_succ]
            refine wpAnyH_take (i := 10) (oi := ?_) (v := undef) ?_ (by kernel_rfl) (by kernel_rfl) (by kernel_rfl) ?_ (Or.inr ⟨?_, rfl⟩) hHeld ?_
            rotate_left 1
            · conv => lhs; simp only [List.getElem?_toArray, List.getElem?_cons_succ, List.getElem?_cons_zero]
            · exact fun _ _ _ h => h
            · rfl
            try simp only [Act.put, List.setIfInBounds_toArray, List.set_cons_zero, List.set_cons_succ]
            refine wpAnyH_take (i := 11) (oi := ?_) (v := undef) ?_ (by kernel_rfl) (by kernel_rfl) (by kernel_rfl) ?_ (Or.inr ⟨?_, rfl⟩) hHeld ?_
            rotate_left 1
            · conv => lhs; simp only [List.getElem?_toArray, List.getElem?_cons_succ, List.getElem?_cons_zero]
            · exact fun _ _ _ h => h
            · rfl
            try simp only [Act.put, List.setIfInBounds_toArray, List.set_cons_zero, List.set_cons_succ]
            refine wpAnyH_take (i := 12) (oi := ?_) (v := undef) ?_ (by kernel_rfl) (by kernel_rfl) (by kernel_rfl) ?_ (Or.inr ⟨?_, rfl⟩) hHeld ?_
            rotate_left 1
            · conv => lhs; simp only [List.getElem?_toArray, List.getElem?_cons_succ, List.getElem?_cons_zero]
            · exact fun _ _ _ h => h
            · rfl
            try simp only [Act.put, List.setIfInBounds_toArray, List.set_cons_zero, List.set_cons_succ]
            refine wpAnyH_take (i := 13) (oi := ?_) (v := ?_) ?_ (by kernel_rfl) (by kernel_rfl) (by kernel_rfl) ?_ (Or.inl ⟨?_, ?_⟩) hHeld ?_
            rotate_left 2
            · conv => lhs; simp only [List.getElem?_toArray, List.getElem?_cons_succ, List.getElem?_cons_zero]
            · exact fun _ _ _ h => h
            · rfl
            · intro W hSw
              go_simp
              try with_reducible rfl
            try simp only [Act.put, List.setIfInBounds_toArray, List.set_cons_zero, List.set_cons_succ]
            refine wpAnyH_done (by kernel_rfl) ?_ _
            have HRd := Lib.hid (HRc.out.up hHeld HRc.out.lt)
            have HUd := Lib.hid (HUc.out.trans (hHeld.mono HUc.out.size))
            clear hHeld
            generalize wc.drew = wd at HRd HUd ⊢
            have r0 := HRd.out.cell 0 _ rfl
            have r1 := HRd.out.cell 1 _ rfl
            have r2 := HRd.out.cell 2 _ rfl
            have r3 := HRd.out.cell 3 _ rfl
            have f0 := HRd.out.free 0
            have f1 := HRd.out.free 1
            have f2 := HRd.out.free 2
            have f3 := HRd.out.free 3
            go_wp2
            refine bodyPost_ret (v := .tuple #[.agg #[.int .i64 0, .int .i64 0, .int .i64 0, .int .i64 0], .int .i64 3]) (by simp [results, Tryd.results12, go_sem, r0, r1, r2, r3]) rfl (ParPost.of (by rw [HX.out]) (set4_below HUd.out (Nat.le_refl _) _ _ _ _))
          | cons d r =>
            have hm4 : m < 4 := by omega
            have hm0 : (0 : Int) ≤ m := by omega
            have hm5 : (m : Int) < 4 := by omega
            have hQ := mkC_at m hm4
            rw [hc] at hQ
            have hlr : r.length ≤ 1000000 := by simp at hlb; omega
            have tz : ¬ ((t.size : Nat) : Int) < 1 := by have := HTZ.out; rw [List.length_cons] at this; omega
            have tzb : decide (((t.size : Nat) : Int) < 1) = false := decide_eq_false tz
            have tz1 : (1 : Int) ≤ ((t.size : Nat) : Int) := by omega
            have hq1 : t.extract 0 1 = ⟨#[d]⟩ := ba_eq (l := [d]) (by rw [Lib.extract_data, HTD.out]; rfl)
            have hq2 : t.extract 1 t.size = ⟨r.toArray⟩ := ba_eq (l := r) (by
              rw [Lib.extract_data, HTD.out, HTZ.out]
              simp)
            have HCC := Lib.hid (@read_cons plainV (m + 1) c d r h4 hc)
            have HSB : Hid (IntKind.i64.wrap (((m + 1 : Nat) : Int) - 1) = m) := Lib.hid (by rw [IntWalk.i64_in _ (by omega)]; omega)
            have HKK : Hid (((m + 1 : Nat) : Int) = (m : Int) + 1) := Lib.hid (by omega)
            generalize ((m + 1 : Nat) : Int) = ki at i0 t0 h4i HEc HSB HKK
            cases hd : (d == c)
            case false =>
              have hdn : ¬ d = c := by simpa using hd
              have HX : Hid (X = (⟨0, 0, 0, 0⟩, 3)) := Lib.hid (H3'.out (by rw [HCC.out, if_neg hdn]))
              have hd2 : ([d] == [c]) = false := by simp [hdn]
              have hd3 : ([d] != [c]) = true := by simp [hdn]
              clear H3' HO' HCC hx1 hc
              go_wp2_with fail
              refine wp_region_held_drew (S := fun W => Below wc.heap.size wc W) (by kernel_rfl) ((Below.refl _ _).drew) (fun hHeld => ?_)
              refine wpAnyH_take (i := 0) (oi := ?_) (v := ?_) ?_ (by kernel_rfl) (by kernel_rfl) (by kernel_rfl) ?_ (Or.inl ⟨?_, ?_⟩) hHeld ?_
              rotate_left 2
              · conv => lhs; simp only [List.getElem?_toArray, List.getElem?_cons_succ, List.getElem?_cons_zero]
              · exact fun _ _ _ h => h
              · rfl
              · intro W hSw
                go_simp
                try with_reducible rfl
              try simp only [Act.put, List.setIfInBounds_toArray, List.set_cons_zero, List.set_cons_succ]
              refine wpAnyH_take (i := 1) (oi := ?_) (v := ?_) ?_ (by kernel_rfl) (by kernel_rfl) (by kernel_rfl) ?_ (Or.inl ⟨?_, ?_⟩) hHeld ?_
              rotate_left 2
              · conv => lhs; simp only [List.getElem?_toArray, List.getElem?_cons_succ, List.getElem?_cons_zero]
              · exact fun _ _ _ h => h
              · rfl
              · intro W hSw
                go_simp
                try with_reducible rfl
              try simp only [Act.put, List.setIfInBounds_toArray, List.set_cons_zero, List.set_cons_succ]
              refine wpAnyH_take (i := 2) (oi := ?_) (v := ?_) ?_ (by kernel_rfl) (by kernel_rfl) (by kernel_rfl) ?_ (Or.inl ⟨?_, ?_⟩) hHeld ?_
              rotate_left 2
              · conv => lhs; simp only [List.getElem?_toArray, List.getElem?_cons_succ, List.getElem?_cons_zero]
              · exact fun _ _ _ h => h
              · rfl
              · intro W hSw
                go_simp
                try with_reducible rfl
              try simp only [Act.put, List.setIfInBounds_toArray, List.set_cons_zero, List.set_cons_succ]
              refine wpAnyH_take (i := 3) (oi := ?_) (v := ?_) ?_ (by kernel_rfl) (by kernel_rfl) (by kernel_rfl) ?_ (Or.inl ⟨?_, ?_⟩) hHeld ?_
              rotate_left 2
              · conv => lhs; simp only [List.getElem?_toArray, List.getElem?_cons_succ, List.getElem?_cons_zero]
              · exact fun _ _ _ h => h
              · rfl
              · intro W hSw
                go_simp
                try with_reducible rfl
              try simp only [Act.put, List.setIfInBounds_toArray, List.set_cons_zero, List.set_cons_succ]
              refine wpAnyH_take (i := 4) (oi := ?_) (v := ?_) ?_ (by kernel_rfl) (by kernel_rfl) (by kernel_rfl) ?_ (Or.inl ⟨?_, ?_⟩) hHeld ?_
              rotate_left 2
              · conv => lhs; simp only [List.getElem?_toArray, List.getElem?_cons_succ, List.getElem?_cons_zero]
              · exact fun _ _ _ h => h
              · rfl
              · intro W hSw
                go_simp
                try with_reducible rfl
              try simp only [Act.put, List.setIfInBounds_toArray, List.set_cons_zero, List.set_cons_succ]
              refine wpAnyH_take (i := 5) (oi := ?_) (v := ?_) ?_ (by kernel_rfl) (by kernel_rfl) (by kernel_rfl) ?_ (Or.inl ⟨?_, ?_⟩) hHeld ?_
              rotate_left 2
              · conv => lhs; simp only [List.getElem?_toArray, List.getElem?_cons_succ, List.getElem?_cons_zero]
              · exact fun _ _ _ h => h
              · rfl
              · intro W hSw
                go_simp
                try with_reducible rfl
              try simp only [Act.put, List.setIfInBounds_toArray, List.set_cons_zero, List.set_cons_succ]
              refine wpAnyH_take (i := 7) (oi := ?_) (v := ?_) ?_ (by kernel_rfl) (by kernel_rfl) (by kernel_rfl) ?_ (Or.inl ⟨?_, ?_⟩) hHeld ?_
              rotate_left 2
              · conv => lhs; simp only [List.getElem?_toArray, List.getElem?_cons_succ, List.getElem?_cons_zero]
              · exact fun _ _ _ h => h
              · rfl
              · intro W hSw
                have h' := HEc.out.up hSw HEc.out.lt
                have k0 := h'.cell 0 _ rfl
                go_simp
                try with_reducible rfl
              try simp only [Act.put, List.setIfInBounds_toArray, List.set_cons_zero, List.set_cons_succ]
              refine wpAnyH_take (i := 8) (oi := ?_) (v := ?_) ?_ (by kernel_rfl) (by kernel_rfl) (by kernel_rfl) ?_ (Or.inl ⟨?_, ?_⟩) hHeld ?_
              rotate_left 2
              · conv => lhs; simp only [List.getElem?_toArray, List.getElem?_cons_succ, List.getElem?_cons_zero]
              · exact fun _ _ _ h => h
              · rfl
              · intro W hSw
                have h' := HEc.out.up hSw HEc.out.lt
                have k0 := h'.cell 0 _ rfl
                go_simp
                try with_reducible rfl
              try simp only [Act.put, List.setIfInBounds_toArray, List.set_cons_zero, List.set_cons_succ]
              refine wpAnyH_take (i := 9) (oi := ?_) (v := .int .i64 m) ?_ (by kernel_rfl) (by kernel_rfl) (by kernel_rfl) ?_ (Or.inl ⟨?_, ?_⟩) hHeld ?_
              rotate_left 1
              · conv => lhs; simp only [List.getElem?_toArray, List.getElem?_cons_succ, List.getElem?_cons_zero]
              · exact fun _ _ _ h => h
              · rfl
              · intro W hSw
                go_simp
                first | exact HSB.out | (rw [HSB.out]) | rfl
              try simp only [Act.put, List.setIfInBounds_toArray, List.set_cons_zero, List.set_cons_succ]
              refine wpAnyH_ready (rs := [6]) (by kernel_rfl) (by simp) ?_
              refine AllReadyH.cons (o := ?_) ?_ (fun K hK => ?_) AllReadyH.nil
              rotate_left 1
              · conv => lhs; simp only [List.getElem?_toArray, List.getElem?_cons_succ, List.getElem?_cons_zero]
              go_simp
              refine (c_marks _).mono ?_; rintro e wB ⟨rfl, hnB, hbB⟩
              go_wp2_with fail
              refine hK.out _ _ (up_trans hHeld hbB) (fun hHeld => ?_)
              clear hK K
              try simp only [Act.put, List.setIfInBounds_toArray, List.set_cons_zero, List.set_cons_succ]
              refine wpAnyH_take (i := 10) (oi := ?_) (v := ?_) ?_ (by kernel_rfl) (by kernel_rfl) (by kernel_rfl) ?_ (Or.inl ⟨?_, ?_⟩) hHeld ?_
              rotate_left 2
              · conv => lhs; simp only [List.getElem?_toArray, List.getElem?_cons_succ, List.getElem?_cons_zero]
              · exact fun _ _ _ h => h
              · rfl
              · intro W hSw
                go_simp
                try with_reducible rfl
              try simp only [Act.put, List.setIfInBounds_toArray, List.set_cons_zero, List.set_cons_succ]
              have q6 : wB.cell? ⟨wc.heap.size, m, none⟩ = some (.string ⟨#[c]⟩) := hnB.cell m _ hQ
              refine wpAnyH_ready (rs := [11]) (by kernel_rfl) (by simp) ?_
              refine AllReadyH.cons (o := ?_) ?_ (fun K hK => ?_) AllReadyH.nil
              rotate_left 1
              · conv => lhs; simp only [List.getElem?_toArray, List.getElem?_cons_succ, List.getElem?_cons_zero]
              go_simp
              refine hK.out _ _ (hHeld) (fun hHeld => ?_)
              clear hK K
              try simp only [Act.put, List.setIfInBounds_toArray, List.set_cons_zero, List.set_cons_succ]
              refine wpAnyH_take (i := 12) (oi := ?_) (v := ?_) ?_ (by kernel_rfl) (by kernel_rfl) (by kernel_rfl) ?_ (Or.inl ⟨?_, ?_⟩) hHeld ?_
              rotate_left 2
              · conv => lhs; simp only [List.getElem?_toArray, List.getElem?_cons_succ, List.getElem?_cons_zero]
              · exact fun _ _ _ h => h
              · rfl
              · intro W hSw
                go_simp
                try with_reducible rfl
              try simp only [Act.put, List.setIfInBounds_toArray, List.set_cons_zero, List.set_cons_succ]
              refine wpAnyH_take (i := 13) (oi := ?_) (v := ?_) ?_ (by kernel_rfl) (by kernel_rfl) (by kernel_rfl) ?_ (Or.inl ⟨?_, ?_⟩) hHeld ?_
              rotate_left 2
              · conv => lhs; simp only [List.getElem?_toArray, List.getElem?_cons_succ, List.getElem?_cons_zero]
              · exact fun _ _ _ h => h
              · rfl
              · intro W hSw
                go_simp
                try with_reducible rfl
              try simp only [Act.put, List.setIfInBounds_toArray, List.set_cons_zero, List.set_cons_succ]
              refine wpAnyH_done (by kernel_rfl) ?_ _
              have HRd := Lib.hid (HRc.out.up hHeld HRc.out.lt)
              have HUd := Lib.hid (HUc.out.trans (hHeld.mono HUc.out.size))
              have r0 := HRd.out.cell 0 _ rfl
              have r1 := HRd.out.cell 1 _ rfl
              have r2 := HRd.out.cell 2 _ rfl
              have r3 := HRd.out.cell 3 _ rfl
              have f0 := HRd.out.free 0
              have f1 := HRd.out.free 1
              have f2 := HRd.out.free 2
              have f3 := HRd.out.free 3
              go_wp2
              refine bodyPost_ret (v := .tuple #[.agg #[.int .i64 0, .int .i64 0, .int .i64 0, .int .i64 0], .int .i64 3]) (by simp [results, Tryd.results12, go_sem, r0, r1, r2, r3]) rfl (ParPost.of (by rw [HX.out]) (set4_below HUd.out (Nat.le_refl _) _ _ _ _))
            case true =>
              obtain rfl : c = d := (by simpa using hd : d = c).symm
              have HCC2 : Hid (evRead plainV (m + 1) (c :: r) = (⟨((m + 1 : Nat) : Int), plainV r, 0, 0⟩, plainB r)) := Lib.hid (by rw [HCC.out, if_pos rfl])
              have CP := Lib.hid (fun V => c_plainA r hlr V)
              clear HCC hx1 hc hd
              go_wp2_with fail
              refine wp_region_held_drew (S := fun W => Below wc.heap.size wc W) (by kernel_rfl) ((Below.refl _ _).drew) (fun hHeld => ?_)
              refine wpAnyH_take (i := 0) (oi := ?_) (v := ?_) ?_ (by kernel_rfl) (by kernel_rfl) (by kernel_rfl) ?_ (Or.inl ⟨?_, ?_⟩) hHeld ?_
              rotate_left 2
              · conv => lhs; simp only [List.getElem?_toArray, List.getElem?_cons_succ, List.getElem?_cons_zero]
              · exact fun _ _ _ h => h
              · rfl
              · intro W hSw
                go_simp
                try with_reducible rfl
              try simp only [Act.put, List.setIfInBounds_toArray, List.set_cons_zero, List.set_cons_succ]
              refine wpAnyH_take (i := 1) (oi := ?_) (v := ?_) ?_ (by kernel_rfl) (by kernel_rfl) (by kernel_rfl) ?_ (Or.inl ⟨?_, ?_⟩) hHeld ?_
              rotate_left 2
              · conv => lhs; simp only [List.getElem?_toArray, List.getElem?_cons_succ, List.getElem?_cons_zero]
              · exact fun _ _ _ h => h
              · rfl
              · intro W hSw
                go_simp
                try with_reducible rfl
              try simp only [Act.put, List.setIfInBounds_toArray, List.set_cons_zero, List.set_cons_succ]
              refine wpAnyH_take (i := 2) (oi := ?_) (v := ?_) ?_ (by kernel_rfl) (by kernel_rfl) (by kernel_rfl) ?_ (Or.inl ⟨?_, ?_⟩) hHeld ?_
              rotate_left 2
              · conv => lhs; simp only [List.getElem?_toArray, List.getElem?_cons_succ, List.getElem?_cons_zero]
              · exact fun _ _ _ h => h
              · rfl
              · intro W hSw
                go_simp
                try with_reducible rfl
              try simp only [Act.put, List.setIfInBounds_toArray, List.set_cons_zero, List.set_cons_succ]
              refine wpAnyH_take (i := 3) (oi := ?_) (v := ?_) ?_ (by kernel_rfl) (by kernel_rfl) (by kernel_rfl) ?_ (Or.inl ⟨?_, ?_⟩) hHeld ?_
              rotate_left 2
              · conv => lhs; simp only [List.getElem?_toArray, List.getElem?_cons_succ, List.getElem?_cons_zero]
              · exact fun _ _ _ h => h
              · rfl
              · intro W hSw
                go_simp
                try with_reducible rfl
              try simp only [Act.put, List.setIfInBounds_toArray, List.set_cons_zero, List.set_cons_succ]
              refine wpAnyH_take (i := 4) (oi := ?_) (v := ?_) ?_ (by kernel_rfl) (by kernel_rfl) (by kernel_rfl) ?_ (Or.inl ⟨?_, ?_⟩) hHeld ?_
              rotate_left 2
              · conv => lhs; simp only [List.getElem?_toArray, List.getElem?_cons_succ, List.getElem?_cons_zero]
              · exact fun _ _ _ h => h
              · rfl
              · intro W hSw
                go_simp
                try with_reducible rfl
              try simp only [Act.put, List.setIfInBounds_toArray, List.set_cons_zero, List.set_cons_succ]
              refine wpAnyH_take (i := 5) (oi := ?_) (v := ?_) ?_ (by kernel_rfl) (by kernel_rfl) (by kernel_rfl) ?_ (Or.inl ⟨?_, ?_⟩) hHeld ?_
              rotate_left 2
              · conv => lhs; simp only [List.getElem?_toArray, List.getElem?_cons_succ, List.getElem?_cons_zero]
              · exact fun _ _ _ h => h
              · rfl
              · intro W hSw
                go_simp
                try with_reducible rfl
              try simp only [Act.put, List.setIfInBounds_toArray, List.set_cons_zero, List.set_cons_succ]
              refine wpAnyH_take (i := 7) (oi := ?_) (v := ?_) ?_ (by kernel_rfl) (by kernel_rfl) (by kernel_rfl) ?_ (Or.inl ⟨?_, ?_⟩) hHeld ?_
              rotate_left 2
              · conv => lhs; simp only [List.getElem?_toArray, List.getElem?_cons_succ, List.getElem?_cons_zero]
              · exact fun _ _ _ h => h
              · rfl
              · intro W hSw
                have h' := HEc.out.up hSw HEc.out.lt
                have k0 := h'.cell 0 _ rfl
                go_simp
                try with_reducible rfl
              try simp only [Act.put, List.setIfInBounds_toArray, List.set_cons_zero, List.set_cons_succ]
              refine wpAnyH_take (i := 8) (oi := ?_) (v := ?_) ?_ (by kernel_rfl) (by kernel_rfl) (by kernel_rfl) ?_ (Or.inl ⟨?_, ?_⟩) hHeld ?_
              rotate_left 2
              · conv => lhs; simp only [List.getElem?_toArray, List.getElem?_cons_succ, List.getElem?_cons_zero]
              · exact fun _ _ _ h => h
              · rfl
              · intro W hSw
                have h' := HEc.out.up hSw HEc.out.lt
                have k0 := h'.cell 0 _ rfl
                go_simp
                try with_reducible rfl
              try simp only [Act.put, List.setIfInBounds_toArray, List.set_cons_zero, List.set_cons_succ]
              refine wpAnyH_take (i := 9) (oi := ?_) (v := .int .i64 m) ?_ (by kernel_rfl) (by kernel_rfl) (by kernel_rfl) ?_ (Or.inl ⟨?_, ?_⟩) hHeld ?_
              rotate_left 1
              · conv => lhs; simp only [List.getElem?_toArray, List.getElem?_cons_succ, List.getElem?_cons_zero]
              · exact fun _ _ _ h => h
              · rfl
              · intro W hSw
                go_simp
                first | exact HSB.out | (rw [HSB.out]) | rfl
              try simp only [Act.put, List.setIfInBounds_toArray, List.set_cons_zero, List.set_cons_succ]
              refine wpAnyH_ready (rs := [6]) (by kernel_rfl) (by simp) ?_
              refine AllReadyH.cons (o := ?_) ?_ (fun K hK => ?_) AllReadyH.nil
              rotate_left 1
              · conv => lhs; simp only [List.getElem?_toArray, List.getElem?_cons_succ, List.getElem?_cons_zero]
              go_simp
              refine (c_marks _).mono ?_; rintro e wB ⟨rfl, hnB, hbB⟩
              go_wp2_with fail
              refine hK.out _ _ (up_trans hHeld hbB) (fun hHeld => ?_)
              clear hK K
              try simp only [Act.put, List.setIfInBounds_toArray, List.set_cons_zero, List.set_cons_succ]
              refine wpAnyH_take (i := 10) (oi := ?_) (v := ?_) ?_ (by kernel_rfl) (by kernel_rfl) (by kernel_rfl) ?_ (Or.inl ⟨?_, ?_⟩) hHeld ?_
              rotate_left 2
              · conv => lhs; simp only [List.getElem?_toArray, List.getElem?_cons_succ, List.getElem?_cons_zero]
              · exact fun _ _ _ h => h
              · rfl
              · intro W hSw
                go_simp
                try with_reducible rfl
              try simp only [Act.put, List.setIfInBounds_toArray, List.set_cons_zero, List.set_cons_succ]
              have q6 : wB.cell? ⟨wc.heap.size, m, none⟩ = some (.string ⟨#[c]⟩) := hnB.cell m _ hQ
              refine wpAnyH_ready (rs := [11]) (by kernel_rfl) (by simp) ?_
              refine AllReadyH.cons (o := ?_) ?_ (fun K hK => ?_) AllReadyH.nil
              rotate_left 1
              · conv => lhs; simp only [List.getElem?_toArray, List.getElem?_cons_succ, List.getElem?_cons_zero]
              go_simp
              refine hK.out _ _ (hHeld) (fun hHeld => ?_)
              clear hK K
              try simp only [Act.put, List.setIfInBounds_toArray, List.set_cons_zero, List.set_cons_succ]
              refine wpAnyH_take (i := 12) (oi := ?_) (v := ?_) ?_ (by kernel_rfl) (by kernel_rfl) (by kernel_rfl) ?_ (Or.inl ⟨?_, ?_⟩) hHeld ?_
              rotate_left 2
              · conv => lhs; simp only [List.getElem?_toArray, List.getElem?_cons_succ, List.getElem?_cons_zero]
              · exact fun _ _ _ h => h
              · rfl
              · intro W hSw
                go_simp
                try with_reducible rfl
              try simp only [Act.put, List.setIfInBounds_toArray, List.set_cons_zero, List.set_cons_succ]
              refine wpAnyH_take (i := 13) (oi := ?_) (v := ?_) ?_ (by kernel_rfl) (by kernel_rfl) (by kernel_rfl) ?_ (Or.inl ⟨?_, ?_⟩) hHeld ?_
              rotate_left 2
              · conv => lhs; simp only [List.getElem?_toArray, List.getElem?_cons_succ, List.getElem?_cons_zero]
              · exact fun _ _ _ h => h
              · rfl
              · intro W hSw
                go_simp
                try with_reducible rfl
              try simp only [Act.put, List.setIfInBounds_toArray, List.set_cons_zero, List.set_cons_succ]
              refine wpAnyH_done (by kernel_rfl) ?_ _
              have HRd := Lib.hid (HRc.out.up hHeld HRc.out.lt)
              have HEd := Lib.hid (HEc.out.up hHeld HEc.out.lt)
              have HUd := Lib.hid (HUc.out.trans (hHeld.mono HUc.out.size))
              generalize plainV r = pv at CP HCC2
              cases hp : plainB r
              case false =>
                have HX := Lib.hid (H3'.out (by rw [HCC2.out, hp]))
                rw [hp] at CP
                clear H3' HO' HCC2 hp
                go_wp2_with fail
                refine (CP.out _).mono ?_; rintro e w' ⟨rfl, rfl⟩
                have r0 := HRd.out.cell 0 _ rfl
                have r1 := HRd.out.cell 1 _ rfl
                have r2 := HRd.out.cell 2 _ rfl
                have r3 := HRd.out.cell 3 _ rfl
                have f0 := HRd.out.free 0
                have f1 := HRd.out.free 1
                have f2 := HRd.out.free 2
                have f3 := HRd.out.free 3
                go_wp2
                refine bodyPost_ret (v := .tuple #[.agg #[.int .i64 0, .int .i64 0, .int .i64 0, .int .i64 0], .int .i64 3]) (by simp [results, Tryd.results12, go_sem, r0, r1, r2, r3]) rfl (ParPost.of (by rw [HX.out]) (set4_below HUd.out (Nat.le_refl _) _ _ _ _))
              case true =>
                have HON := Lib.hid (HO'.out ⟨((m + 1 : Nat) : Int), pv, 0, 0⟩ (by rw [HCC2.out, hp]))
                rw [hp] at CP
                have HON2 : Hid (X = evFin ⟨ki, pv, 0, 0⟩ (evChk ki pv 0 0)) := Lib.hid (by
                  have h := HON.out
                  have e : ((m + 1 : Nat) : Int) = ki := by have := HKK.out; omega
                  simp only [e] at h
                  exact h)
                clear H3' HO' HCC2 hp HON
                have HON := HON2
                clear HON2
                go_wp2_with fail
                refine (CP.out _).mono ?_; rintro e w' ⟨rfl, rfl⟩
                have CC := Lib.hid (fun V => c_rchk (ki) (pv) (0) (0) V)
                have i0 := HEd.out.cell 0 _ rfl
                have i1 := HEd.out.cell 1 _ rfl
                have i2 := HEd.out.cell 2 _ rfl
                have i3 := HEd.out.cell 3 _ rfl
                have g0 := HEd.out.free 0
                have g1 := HEd.out.free 1
                have g2 := HEd.out.free 2
                have g3 := HEd.out.free 3
                have HES := Lib.hid (HEd.out.set 1 (.int .i64 pv))
                have HRS := Lib.hid (HRd.out.other ⟨w.heap.size + 1, 1, none⟩ (by simp) (.int .i64 pv))
                have HUS := Lib.hid (HUd.out.setCell (p := ⟨w.heap.size + 1, 1, none⟩) (by simp) (.int .i64 pv))
                by_cases hx : evChk (ki) (pv) (0) (0) = 0
                case pos =>
                  rw [hx] at CC
                  have HX2 : Hid (X = (⟨ki, pv, 0, 0⟩, 0)) := Lib.hid (by rw [HON.out, hx]; rfl)
                  clear hx HON
                  go_wp2_with fail
                  refine (CC.out _).mono ?_; rintro e w5 ⟨rfl, hb5⟩
                  have HE5 := HES.out.up hb5 HES.out.lt
                  have HR5 := HRS.out.up hb5 HRS.out.lt
                  have HU5 := Lib.hid (HUS.out.trans (hb5.mono HUS.out.size))
                  have e0 := HE5.cell 0 _ rfl
                  have e1 := HE5.cell 1 _ rfl
                  have e2 := HE5.cell 2 _ rfl
                  have e3 := HE5.cell 3 _ rfl
                  have r0 := HR5.cell 0 _ rfl
                  have r1 := HR5.cell 1 _ rfl
                  have r2 := HR5.cell 2 _ rfl
                  have r3 := HR5.cell 3 _ rfl
                  have f0 := HR5.free 0
                  have f1 := HR5.free 1
                  have f2 := HR5.free 2
                  have f3 := HR5.free 3
                  clear HE5 HR5 HES HRS HUS hb5 CC i0 i1 i2 i3 g0 g1 g2 g3
                  go_wp2
                  refine bodyPost_ret (v := .tuple #[.agg #[.int .i64 ki, .int .i64 pv, .int .i64 0, .int .i64 0], .int .i64 0]) (by simp [results, Tryd.results12, go_sem, r0, r1, r2, r3]) rfl (ParPost.of (by rw [HX2.out]) (set4_below HU5.out (Nat.le_refl _) _ _ _ _))
                case neg =>
                  have HX2 : Hid (X = (⟨0, 0, 0, 0⟩, evChk (ki) (pv) (0) (0))) := Lib.hid (by rw [HON.out]; exact evFin_pos hx)
                  have tx : (evChk (ki) (pv) (0) (0) != 0) = true := by simpa [bne] using hx
                  generalize evChk (ki) (pv) (0) (0) = x at CC HX2 tx
                  clear hx HON
                  go_wp2_with fail
                  refine (CC.out _).mono ?_; rintro e w5 ⟨rfl, hb5⟩
                  have HE5 := HES.out.up hb5 HES.out.lt
                  have HR5 := HRS.out.up hb5 HRS.out.lt
                  have HU5 := Lib.hid (HUS.out.trans (hb5.mono HUS.out.size))
                  have e0 := HE5.cell 0 _ rfl
                  have e1 := HE5.cell 1 _ rfl
                  have e2 := HE5.cell 2 _ rfl
                  have e3 := HE5.cell 3 _ rfl
                  have r0 := HR5.cell 0 _ rfl
                  have r1 := HR5.cell 1 _ rfl
                  have r2 := HR5.cell 2 _ rfl
                  have r3 := HR5.cell 3 _ rfl
                  have f0 := HR5.free 0
                  have f1 := HR5.free 1
                  have f2 := HR5.free 2
                  have f3 := HR5.free 3
                  clear HE5 HR5 HES HRS HUS hb5 CC i0 i1 i2 i3 g0 g1 g2 g3
                  go_wp2
                  refine bodyPost_ret (v := .tuple #[.agg #[.int .i64 0, .int .i64 0, .int .i64 0, .int .i64 0], .int .i64 x]) (by simp [results, Tryd.results12, go_sem, r0, r1, r2, r3]) rfl (ParPost.of (by rw [HX2.out]) (set4_below HU5.out (Nat.le_refl _) _ _ _ _))
        case neg =>
          have h4i : ¬ (kk : Int) ≤ 4 := by omega
          have HRH := Lib.hid (@read_high plainV kk bb h4)
          go_upto_block 4 with fail
          go_cut [10] (fun s10 wx => ∃ q : Nat, q ≤ t.size ∧ s10 = .int .i64 q ∧ evA 46 t.data.toList = t.data.toList.take q ∧ evB 46 t.data.toList = t.data.toList.drop (q + 1) ∧ wx = wc)
          case first =>
            go_wp2
            go_loop [10] (fun i => ∃ k : Nat, k ≤ t.size ∧ i = .int .i64 k ∧ (t.data.toList.take k).all (· != 46) = true) (fun i => t.size - (intOf i).toNat)
            case atStart => exact ⟨0, Nat.zero_le _, rfl, rfl⟩
            case round =>
              obtain ⟨q, hq, rfl, hall⟩ := hrel
              have HA := Lib.hid hall
              clear hall
              by_cases hlt : q < t.size
              · have hk0 : (0 : Int) ≤ q := by omega
                have hk1 : (q : Int) < t.size := by omega
                by_cases h46 : t[q] = 46
                · have e0 := drop_cons t q hlt
                  rw [h46] at e0
                  have HC := Lib.hid (cut_at HA.out (.inr ⟨_, e0⟩))
                  have hb2 : ((t[q].toNat : Int) != 46) = false := by rw [h46]; rfl
                  clear e0 h46
                  go_wp2
                  go_meet
                  exact ⟨q, hq, rfl, HC.out.1, HC.out.2, rfl⟩
                · have hne : t[q].toNat ≠ 46 := fun hh => h46 (UInt8.toNat_inj.1 (by have : (46 : UInt8).toNat = 46 := rfl; omega))
                  have hb2 : ((t[q].toNat : Int) != 46) = true := by rw [bne_iff_ne]; omega
                  have HS := Lib.hid (take_snoc t q hlt)
                  have HN := Lib.hid h46
                  clear hne h46
                  go_wp2
                  go_round
                  case rel =>
                    refine ⟨q + 1, by omega, by go_num, ?_⟩
                    rw [HS.out, List.all_append, HA.out, Bool.true_and]
                    simpa using HN.out
                  case measure => simp [intOf]; omega
              · obtain rfl : q = t.size := by omega
                have HC := Lib.hid (cut_at HA.out (.inl (List.drop_of_length_le (by simp))))
                go_wp2
                go_meet
                exact ⟨t.size, Nat.le_refl _, rfl, HC.out.1, HC.out.2, rfl⟩
          case rest =>
            obtain ⟨q, hq, rfl, hA, hB, rfl⟩ := hcut
            have hq0 : (0 : Int) ≤ q := by omega
            have hq1 : (q : Int) ≤ t.size := by omega
            rw [HTD.out] at hA hB
            have hy1 : t.extract 0 q = ⟨(evA 46 bb).toArray⟩ := ba_eq (by rw [Lib.extract_data, HTD.out, hA]; simp)
            have HY2 : Hid (q < t.size → t.extract (q + 1) t.size = ⟨(evB 46 bb).toArray⟩) := Lib.hid (fun h => ba_eq (by
              rw [Lib.extract_data, HTD.out, hB]
              exact List.take_of_length_le (by rw [List.length_drop, HTZ.out]; omega)))
            have HY3 : Hid (¬ q < t.size → evB 46 bb = []) := Lib.hid (fun h => by
              rw [hB]
              exact List.drop_of_length_le (by have := HTZ.out; omega))
            obtain ⟨la, lb⟩ := evA_len 46 bb
            have CA := Lib.hid (fun V => c_plainA (evA 46 bb) (by omega) V)
            have CB := Lib.hid (fun V => c_plainA (evB 46 bb) (by omega) V)
            clear hA hB la lb
            by_cases hqs : q < t.size
            case neg =>
              obtain rfl : q = t.size := by omega
              have HX := Lib.hid (H3'.out (by rw [HRH.out, HY3.out hqs]; exact Bool.and_false _))
              clear H3' HO' HRH HY2 HY3 CA CB HEc hx1 hy1
              have r0 := HRc.out.cell 0 _ rfl
              have r1 := HRc.out.cell 1 _ rfl
              have r2 := HRc.out.cell 2 _ rfl
              have r3 := HRc.out.cell 3 _ rfl
              have f0 := HRc.out.free 0
              have f1 := HRc.out.free 1
              have f2 := HRc.out.free 2
              have f3 := HRc.out.free 3
              go_wp2
              refine bodyPost_ret (v := .tuple #[.agg #[.int .i64 0, .int .i64 0, .int .i64 0, .int .i64 0], .int .i64 3]) (by simp [results, Tryd.results12, go_sem, r0, r1, r2, r3]) rfl (ParPost.of (by rw [HX.out]) (set4_below HUc.out (Nat.le_refl _) _ _ _ _))
            case pos =>
              have hy2 := HY2.out hqs
              have tq : ((q : Int) == t.size) = false := by simp; omega
              have hqs2 : (q : Int) + 1 ≤ t.size := by omega
              have hqs3 : (0 : Int) ≤ q + 1 := by omega
              generalize evA 46 bb = xa at CA HRH hy1
              generalize evB 46 bb = xb at CB HRH hy2 HY3
              generalize plainV xa = va at CA HRH
              generalize plainV xb = vb at CB HRH
              clear HY2 HY3 hqs hx1
              cases hpa : plainB xa
              case false =>
                have HX := Lib.hid (H3'.out (by rw [HRH.out, hpa]; rfl))
                rw [hpa] at CA
                clear H3' HO' HRH hpa
                go_wp2_with fail
                refine (CA.out _).mono ?_; rintro e w' ⟨rfl, rfl⟩
                go_wp2_with fail
                refine (CB.out _).mono ?_; rintro e w' ⟨rfl, rfl⟩
                have r0 := HRc.out.cell 0 _ rfl
                have r1 := HRc.out.cell 1 _ rfl
                have r2 := HRc.out.cell 2 _ rfl
                have r3 := HRc.out.cell 3 _ rfl
                have f0 := HRc.out.free 0
                have f1 := HRc.out.free 1
                have f2 := HRc.out.free 2
                have f3 := HRc.out.free 3
                go_wp2
                refine bodyPost_ret (v := .tuple #[.agg #[.int .i64 0, .int .i64 0, .int .i64 0, .int .i64 0], .int .i64 3]) (by simp [results, Tryd.results12, go_sem, r0, r1, r2, r3]) rfl (ParPost.of (by rw [HX.out]) (set4_below HUc.out (Nat.le_refl _) _ _ _ _))
              case true =>
                cases hpb : plainB xb
                case false =>
                  have HX := Lib.hid (H3'.out (by rw [HRH.out, hpa, hpb]; rfl))
                  rw [hpa] at CA
                  rw [hpb] at CB
                  clear H3' HO' HRH hpa hpb
                  go_wp2_with fail
                  refine (CA.out _).mono ?_; rintro e w' ⟨rfl, rfl⟩
                  go_wp2_with fail
                  refine (CB.out _).mono ?_; rintro e w' ⟨rfl, rfl⟩
                  have r0 := HRc.out.cell 0 _ rfl
                  have r1 := HRc.out.cell 1 _ rfl
                  have r2 := HRc.out.cell 2 _ rfl
                  have r3 := HRc.out.cell 3 _ rfl
                  have f0 := HRc.out.free 0
                  have f1 := HRc.out.free 1
                  have f2 := HRc.out.free 2
                  have f3 := HRc.out.free 3
                  go_wp2
                  refine bodyPost_ret (v := .tuple #[.agg #[.int .i64 0, .int .i64 0, .int .i64 0, .int .i64 0], .int .i64 3]) (by simp [results, Tryd.results12, go_sem, r0, r1, r2, r3]) rfl (ParPost.of (by rw [HX.out]) (set4_below HUc.out (Nat.le_refl _) _ _ _ _))
                case true =>
                  have HON := Lib.hid (HO'.out ⟨(kk : Int), 0, va, vb⟩ (by rw [HRH.out, hpa, hpb]; rfl))
                  rw [hpa] at CA
                  rw [hpb] at CB
                  clear H3' HO' HRH hpa hpb
                  go_wp2_with fail
                  refine (CA.out _).mono ?_; rintro e w' ⟨rfl, rfl⟩
                  go_wp2_with fail
                  refine (CB.out _).mono ?_; rintro e w' ⟨rfl, rfl⟩
                  have CC := Lib.hid (fun V => c_rchk ((kk : Int)) (0) (va) (vb) V)
                  have i0 := HEc.out.cell 0 _ rfl
                  have i1 := HEc.out.cell 1 _ rfl
                  have i2 := HEc.out.cell 2 _ rfl
                  have i3 := HEc.out.cell 3 _ rfl
                  have g0 := HEc.out.free 0
                  have g1 := HEc.out.free 1
                  have g2 := HEc.out.free 2
                  have g3 := HEc.out.free 3
                  have HES := Lib.hid ((HEc.out.set 2 (.int .i64 va)).set 3 (.int .i64 vb))
                  have HRS := Lib.hid ((HRc.out.other ⟨w.heap.size + 1, 2, none⟩ (by simp) (.int .i64 va)).other ⟨w.heap.size + 1, 3, none⟩ (by simp) (.int .i64 vb))
                  have HUS := Lib.hid ((HUc.out.setCell (p := ⟨w.heap.size + 1, 2, none⟩) (by simp) (.int .i64 va)).setCell (p := ⟨w.heap.size + 1, 3, none⟩) (by simp) (.int .i64 vb))
                  by_cases hx : evChk ((kk : Int)) (0) (va) (vb) = 0
                  case pos =>
                    rw [hx] at CC
                    have HX2 : Hid (X = (⟨(kk : Int), 0, va, vb⟩, 0)) := Lib.hid (by rw [HON.out, hx]; rfl)
                    clear hx HON
                    go_wp2_with fail
                    refine (CC.out _).mono ?_; rintro e w5 ⟨rfl, hb5⟩
                    have HE5 := HES.out.up hb5 HES.out.lt
                    have HR5 := HRS.out.up hb5 HRS.out.lt
                    have HU5 := Lib.hid (HUS.out.trans (hb5.mono HUS.out.size))
                    have e0 := HE5.cell 0 _ rfl
                    have e1 := HE5.cell 1 _ rfl
                    have e2 := HE5.cell 2 _ rfl
                    have e3 := HE5.cell 3 _ rfl
                    have r0 := HR5.cell 0 _ rfl
                    have r1 := HR5.cell 1 _ rfl
                    have r2 := HR5.cell 2 _ rfl
                    have r3 := HR5.cell 3 _ rfl
                    have f0 := HR5.free 0
                    have f1 := HR5.free 1
                    have f2 := HR5.free 2
                    have f3 := HR5.free 3
                    clear HE5 HR5 HES HRS HUS hb5 CC i0 i1 i2 i3 g0 g1 g2 g3
                    go_wp2
                    refine bodyPost_ret (v := .tuple #[.agg #[.int .i64 (kk : Int), .int .i64 0, .int .i64 va, .int .i64 vb], .int .i64 0]) (by simp [results, Tryd.results12, go_sem, r0, r1, r2, r3]) rfl (ParPost.of (by rw [HX2.out]) (set4_below HU5.out (Nat.le_refl _) _ _ _ _))
                  case neg =>
                    have HX2 : Hid (X = (⟨0, 0, 0, 0⟩, evChk ((kk : Int)) (0) (va) (vb))) := Lib.hid (by rw [HON.out]; exact evFin_pos hx)
                    have tx : (evChk ((kk : Int)) (0) (va) (vb) != 0) = true := by simpa [bne] using hx
                    generalize evChk ((kk : Int)) (0) (va) (vb) = x at CC HX2 tx
                    clear hx HON
                    go_wp2_with fail
                    refine (CC.out _).mono ?_; rintro e w5 ⟨rfl, hb5⟩
                    have HE5 := HES.out.up hb5 HES.out.lt
                    have HR5 := HRS.out.up hb5 HRS.out.lt
                    have HU5 := Lib.hid (HUS.out.trans (hb5.mono HUS.out.size))
                    have e0 := HE5.cell 0 _ rfl
                    have e1 := HE5.cell 1 _ rfl
                    have e2 := HE5.cell 2 _ rfl
                    have e3 := HE5.cell 3 _ rfl
                    have r0 := HR5.cell 0 _ rfl
                    have r1 := HR5.cell 1 _ rfl
                    have r2 := HR5.cell 2 _ rfl
                    have r3 := HR5.cell 3 _ rfl
                    have f0 := HR5.free 0
                    have f1 := HR5.free 1
                    have f2 := HR5.free 2
                    have f3 := HR5.free 3
                    clear HE5 HR5 HES HRS HUS hb5 CC i0 i1 i2 i3 g0 g1 g2 g3
                    go_wp2
                    refine bodyPost_ret (v := .tuple #[.agg #[.int .i64 0, .int .i64 0, .int .i64 0, .int .i64 0], .int .i64 x]) (by simp [results, Tryd.results12, go_sem, r0, r1, r2, r3]) rfl (ParPost.of (by rw [HX2.out]) (set4_below HU5.out (Nat.le_refl _) _ _ _ _))
end Go.Proofs.YtajbpplklmhfmaaDoor

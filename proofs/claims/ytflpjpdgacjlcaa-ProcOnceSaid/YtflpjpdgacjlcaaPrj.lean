/- Package proc: Reap. -/
import Derived.Test.YtflpjpdgacjlcaaPri
import Derived.Test.YtflpjpdgacjlcaaP1
namespace Go.Proofs.Ytflpjpdgacjlcaa
open Go.RowKit

theorem reap_no {L : List PR} {h : Int} (e : (findT L h).2 ≠ 0) : reapT L h = (L, 0, (findT L h).2) := if_neg e
set_option maxRecDepth 100000 in
set_option maxHeartbeats 4000000 in
theorem c_prreap {w : World} {pl : Nat → Prop} {A : Option Addr} {n c : Nat} {L : List PR} (h : TW prK w pl A n L) (x : Int) (hx : I64 x) :
    Calls Try.prog 24 #[.slice A n c, .int .i64 x] w fun e w' => ∃ A' c', e = .returned (.tuple #[.slice A' n c', .int .i64 (reapT L x).2.1, .int .i64 (reapT L x).2.2]) ∧ TW prK w' (plP pl w) A' n (reapT L x).1 ∧ Below w.heap.size w w' := by
  have CF := c_prfind (c := c) h x hx
  have HR := Lib.hid h
  have hl := h.len
  by_cases he : (findT L x).2 = 0
  · obtain ⟨hf, h1, h2, h3, h4, h5⟩ := find_of he
    obtain ⟨k, hk⟩ : ∃ k : Nat, slotF x = k := ⟨(slotF x).toNat, by omega⟩
    have hkn : k < n := by have := fineT_len hf; omega
    have hR0 : reapT L x = if (getP L (k : Nat)).mode = 3 then (L.set k (PR.nil (getP L (k : Nat)).gen), (getP L (k : Nat)).how, 0) else (L, 0, 13) := by
      unfold reapT
      rw [if_pos he, h1, hk, Int.toNat_natCast]
    rw [he, h1, hk] at CF
    have CF := Lib.hid CF
    have HK := Lib.hid hkn
    have HN : Hid (n ≤ 100000) := Lib.hid (by have := fineT_len hf; omega)
    have hk0 : (0 : Int) ≤ k := by omega
    have hk1 : (k : Int) < (n : Int) := by omega
    by_cases hm : (getP L (k : Nat)).mode = 3
    · have HE : Hid (reapT L x = (L.set k (PR.nil (getP L (k : Nat)).gen), (getP L (k : Nat)).how, 0)) := Lib.hid (by rw [hR0, if_pos hm])
      clear h hl hf h1 h2 h3 h4 h5 hk hkn hR0 he
      go_enter Try.func24, Try.ntmps24
      go_wp2_with fail
      refine CF.out.mono ?_; rintro e w2 ⟨rfl, hb2⟩
      have HB := Lib.hid hb2
      obtain ⟨b, o, q, rfl, hbl, hq, hrg, c0, c1, c38, c39⟩ := pr_at (HR.out.below hb2) k HK.out
      rw [getP_of hq] at HE hm
      rw [hm] at c38
      have HC : Hid (∀ W, Below w2.heap.size w2 W → W.cell? ⟨b, o + k * 42, none⟩ = some (.int .i64 q.gen) ∧ W.cell? ⟨b, o + k * 42 + 39, none⟩ = some (.int .i64 q.how)) := Lib.hid (fun W hW => ⟨(hW.cell (p := ⟨b, o + k * 42, none⟩) hbl).trans c0, (hW.cell (p := ⟨b, o + k * 42 + 39, none⟩) hbl).trans c39⟩)
      have HBD := Lib.hid (built0_p q.gen)
      have CW := Lib.hid (fun W (hW : Below w2.heap.size w2 W) => c_prwith (c := c) (HR.out.below (up_trans HB.out hW)) HN.out k HK.out (PR.nil q.gen) ⟨rfl, RD.nil _ _ _ _⟩)
      clear hb2 hbl hq hrg c0 c1 c39 hm
      go_wp2_with fail
      refine wp_region_held_drew (S := (fun W => Below w2.heap.size w2 W)) (by kernel_rfl) (up_drewN _ 1) (fun hHeld => ?_)
      refine wpAnyH_take (i := 0) (oi := ?_) (v := ?_) ?_ (by kernel_rfl) (by kernel_rfl) (by kernel_rfl) ?_ (Or.inl ⟨?_, ?_⟩) hHeld ?_
      rotate_left 2
      · conv => lhs; simp only [List.getElem?_toArray, List.getElem?_cons_succ, List.getElem?_cons_zero]
      · exact fun _ _ _ h => h
      · rfl
      · intro W hSw
        go_simp
        try with_reducible rfl
      try simp only [Act.put, List.setIfInBounds_toArray, List.set_cons_zero, List.set_cons_succ]
      refine wpAnyH_take (i := 1) (oi := ?_) (v := ?_) ?_ (by kernel_rfl) (by kernel_rfl) (by kernel_rfl) ?_ (Or.inl ⟨?_, ?_⟩) hHeld ?_
      rotate_left 2
      · conv => lhs; simp only [List.getElem?_toArray, List.getElem?_cons_succ, List.getElem?_cons_zero]
      · exact fun _ _ _ h => h
      · rfl
      · intro W hSw
        go_simp
        try with_reducible rfl
      try simp only [Act.put, List.setIfInBounds_toArray, List.set_cons_zero, List.set_cons_succ]
      refine wpAnyH_take (i := 2) (oi := ?_) (v := ?_) ?_ (by kernel_rfl) (by kernel_rfl) (by kernel_rfl) ?_ (Or.inl ⟨?_, ?_⟩) hHeld ?_
      rotate_left 2
      · conv => lhs; simp only [List.getElem?_toArray, List.getElem?_cons_succ, List.getElem?_cons_zero]
      · exact fun _ _ _ h => h
      · rfl
      · intro W hSw
        go_simp
        try with_reducible rfl
      try simp only [Act.put, List.setIfInBounds_toArray, List.set_cons_zero, List.set_cons_succ]
      refine wpAnyH_take (i := 3) (oi := ?_) (v := ?_) ?_ (by kernel_rfl) (by kernel_rfl) (by kernel_rfl) ?_ (Or.inl ⟨?_, ?_⟩) hHeld ?_
      rotate_left 2
      · conv => lhs; simp only [List.getElem?_toArray, List.getElem?_cons_succ, List.getElem?_cons_zero]
      · exact fun _ _ _ h => h
      · rfl
      · intro W hSw
        go_simp
        try with_reducible rfl
      try simp only [Act.put, List.setIfInBounds_toArray, List.set_cons_zero, List.set_cons_succ]
      refine wpAnyH_take (i := 4) (oi := ?_) (v := ?_) ?_ (by kernel_rfl) (by kernel_rfl) (by kernel_rfl) ?_ (Or.inl ⟨?_, ?_⟩) hHeld ?_
      rotate_left 2
      · conv => lhs; simp only [List.getElem?_toArray, List.getElem?_cons_succ, List.getElem?_cons_zero]
      · exact fun _ _ _ h => h
      · rfl
      · intro W hSw
        go_simp
        try with_reducible rfl
      try simp only [Act.put, List.setIfInBounds_toArray, List.set_cons_zero, List.set_cons_succ]
      refine wpAnyH_take (i := 5) (oi := ?_) (v := ?_) ?_ (by kernel_rfl) (by kernel_rfl) (by kernel_rfl) ?_ (Or.inl ⟨?_, ?_⟩) hHeld ?_
      rotate_left 2
      · conv => lhs; simp only [List.getElem?_toArray, List.getElem?_cons_succ, List.getElem?_cons_zero]
      · exact fun _ _ _ h => h
      · rfl
      · intro W hSw
        go_simp
        try with_reducible rfl
      try simp only [Act.put, List.setIfInBounds_toArray, List.set_cons_zero, List.set_cons_succ]
      refine wpAnyH_take (i := 6) (oi := ?_) (v := ?_) ?_ (by kernel_rfl) (by kernel_rfl) (by kernel_rfl) ?_ (Or.inl ⟨?_, ?_⟩) hHeld ?_
      rotate_left 2
      · conv => lhs; simp only [List.getElem?_toArray, List.getElem?_cons_succ, List.getElem?_cons_zero]
      · exact fun _ _ _ h => h
      · rfl
      · intro W hSw
        have f0 := (HC.out W hSw).1
        go_simp
        try with_reducible rfl
      try simp only [Act.put, List.setIfInBounds_toArray, List.set_cons_zero, List.set_cons_succ]
      refine wpAnyH_take (i := 7) (oi := ?_) (v := (.agg (prC (PR.nil q.gen)).toArray)) ?_ (by kernel_rfl) (by kernel_rfl) (by kernel_rfl) ?_ (Or.inl ⟨?_, ?_⟩) hHeld ?_
      rotate_left 1
      · conv => lhs; simp only [List.getElem?_toArray, List.getElem?_cons_succ, List.getElem?_cons_zero]
      · exact fun _ _ _ h => h
      · rfl
      · intro W hSw
        exact tk_build rfl (by simpa [Act.eval] using HBD.out)
      try simp only [Act.put, List.setIfInBounds_toArray, List.set_cons_zero, List.set_cons_succ]
      refine wpAnyH_take (i := 9) (oi := ?_) (v := ?_) ?_ (by kernel_rfl) (by kernel_rfl) (by kernel_rfl) ?_ (Or.inl ⟨?_, ?_⟩) hHeld ?_
      rotate_left 2
      · conv => lhs; simp only [List.getElem?_toArray, List.getElem?_cons_succ, List.getElem?_cons_zero]
      · exact fun _ _ _ h => h
      · rfl
      · intro W hSw
        go_simp
        try with_reducible rfl
      try simp only [Act.put, List.setIfInBounds_toArray, List.set_cons_zero, List.set_cons_succ]
      refine wpAnyH_take (i := 10) (oi := ?_) (v := ?_) ?_ (by kernel_rfl) (by kernel_rfl) (by kernel_rfl) ?_ (Or.inl ⟨?_, ?_⟩) hHeld ?_
      rotate_left 2
      · conv => lhs; simp only [List.getElem?_toArray, List.getElem?_cons_succ, List.getElem?_cons_zero]
      · exact fun _ _ _ h => h
      · rfl
      · intro W hSw
        go_simp
        try with_reducible rfl
      try simp only [Act.put, List.setIfInBounds_toArray, List.set_cons_zero, List.set_cons_succ]
      refine wpAnyH_take (i := 11) (oi := ?_) (v := ?_) ?_ (by kernel_rfl) (by kernel_rfl) (by kernel_rfl) ?_ (Or.inl ⟨?_, ?_⟩) hHeld ?_
      rotate_left 2
      · conv => lhs; simp only [List.getElem?_toArray, List.getElem?_cons_succ, List.getElem?_cons_zero]
      · exact fun _ _ _ h => h
      · rfl
      · intro W hSw
        go_simp
        try with_reducible rfl
      try simp only [Act.put, List.setIfInBounds_toArray, List.set_cons_zero, List.set_cons_succ]
      refine wpAnyH_take (i := 12) (oi := ?_) (v := ?_) ?_ (by kernel_rfl) (by kernel_rfl) (by kernel_rfl) ?_ (Or.inl ⟨?_, ?_⟩) hHeld ?_
      rotate_left 2
      · conv => lhs; simp only [List.getElem?_toArray, List.getElem?_cons_succ, List.getElem?_cons_zero]
      · exact fun _ _ _ h => h
      · rfl
      · intro W hSw
        go_simp
        try with_reducible rfl
      try simp only [Act.put, List.setIfInBounds_toArray, List.set_cons_zero, List.set_cons_succ]
      refine wpAnyH_take (i := 13) (oi := ?_) (v := ?_) ?_ (by kernel_rfl) (by kernel_rfl) (by kernel_rfl) ?_ (Or.inl ⟨?_, ?_⟩) hHeld ?_
      rotate_left 2
      · conv => lhs; simp only [List.getElem?_toArray, List.getElem?_cons_succ, List.getElem?_cons_zero]
      · exact fun _ _ _ h => h
      · rfl
      · intro W hSw
        have f0 := (HC.out W hSw).2
        go_simp
        try with_reducible rfl
      try simp only [Act.put, List.setIfInBounds_toArray, List.set_cons_zero, List.set_cons_succ]
      refine wpAnyH_ready (rs := [8]) (by kernel_rfl) (by simp) ?_
      refine AllReadyH.cons (o := ?_) ?_ (fun K hK => ?_) AllReadyH.nil
      rotate_left 1
      · conv => lhs; simp only [List.getElem?_toArray, List.getElem?_cons_succ, List.getElem?_cons_zero]
      go_simp
      refine (CW.out _ hHeld).mono ?_
      rintro e wA hp
      obtain ⟨A', c', rfl, h1, h2⟩ := hp.up (up_trans HB.out hHeld)
      have H1 := Lib.hid h1
      have H2 := Lib.hid h2
      obtain ⟨_, _, _, _, hb⟩ := hp
      clear h1 h2
      go_wp2_with fail
      refine hK.out _ _ (up_trans hHeld hb) (fun hHeld => ?_)
      clear hK K
      try simp only [Act.put, List.setIfInBounds_toArray, List.set_cons_zero, List.set_cons_succ]
      refine wpAnyH_take (i := 14) (oi := ?_) (v := ?_) ?_ (by kernel_rfl) (by kernel_rfl) (by kernel_rfl) ?_ (Or.inl ⟨?_, ?_⟩) hHeld ?_
      rotate_left 2
      · conv => lhs; simp only [List.getElem?_toArray, List.getElem?_cons_succ, List.getElem?_cons_zero]
      · exact fun _ _ _ h => h
      · rfl
      · intro W hSw
        go_simp
        try with_reducible rfl
      try simp only [Act.put, List.setIfInBounds_toArray, List.set_cons_zero, List.set_cons_succ]
      refine wpAnyH_take (i := 15) (oi := ?_) (v := ?_) ?_ (by kernel_rfl) (by kernel_rfl) (by kernel_rfl) ?_ (Or.inl ⟨?_, ?_⟩) hHeld ?_
      rotate_left 2
      · conv => lhs; simp only [List.getElem?_toArray, List.getElem?_cons_succ, List.getElem?_cons_zero]
      · exact fun _ _ _ h => h
      · rfl
      · intro W hSw
        go_simp
        try with_reducible rfl
      try simp only [Act.put, List.setIfInBounds_toArray, List.set_cons_zero, List.set_cons_succ]
      refine wpAnyH_take (i := 16) (oi := ?_) (v := ?_) ?_ (by kernel_rfl) (by kernel_rfl) (by kernel_rfl) ?_ (Or.inl ⟨?_, ?_⟩) hHeld ?_
      rotate_left 2
      · conv => lhs; simp only [List.getElem?_toArray, List.getElem?_cons_succ, List.getElem?_cons_zero]
      · exact fun _ _ _ h => h
      · rfl
      · intro W hSw
        go_simp
        try with_reducible rfl
      try simp only [Act.put, List.setIfInBounds_toArray, List.set_cons_zero, List.set_cons_succ]
      refine wpAnyH_done (by kernel_rfl) ?_ _
      go_wp2
      refine bodyPost_ret (v := .tuple #[.slice A' n c', .int .i64 q.how, .int .i64 0]) (by simp [results, Try.results24, go_sem]) rfl ?_
      exact ⟨A', c', by rw [HE.out], by rw [HE.out]; exact H1.out, H2.out⟩
    · have HE : Hid (reapT L x = (L, 0, 13)) := Lib.hid (by rw [hR0, if_neg hm])
      have hm' : ((getP L (k : Nat)).mode != 3) = true := by simp [hm]
      clear h hl hf h1 h2 h3 h4 h5 hk hkn hR0 he hm
      go_enter Try.func24, Try.ntmps24
      go_wp2_with fail
      refine CF.out.mono ?_; rintro e w2 ⟨rfl, hb2⟩
      have HB := Lib.hid hb2
      obtain ⟨b, o, q, rfl, hbl, hq, hrg, c0, c1, c38, c39⟩ := pr_at (HR.out.below hb2) k HK.out
      rw [getP_of hq] at hm'
      clear hb2 hbl hq hrg c0 c1 c39
      generalize q.mode = m at c38 hm'
      go_wp2
      refine bodyPost_ret (v := .tuple #[.slice (some ⟨b, o, none⟩) n c, .int .i64 0, .int .i64 13]) (by simp [results, Try.results24, go_sem]) rfl ?_
      exact ⟨_, c, by rw [HE.out], by rw [HE.out]; exact (HR.out.below HB.out).lo (fun b hb => .inl hb), HB.out⟩
  · have HE := Lib.hid (reap_no he)
    obtain ⟨y, hy⟩ : ∃ y, (findT L x).2 = y := ⟨_, rfl⟩
    rw [hy] at HE he CF
    have he' : (y != 0) = true := by simp [he]
    generalize (findT L x).1 = u at CF
    have CF := Lib.hid CF
    clear h hl he hy
    go_enter Try.func24, Try.ntmps24
    go_wp2_with fail
    refine CF.out.mono ?_; rintro e w2 ⟨rfl, hb2⟩
    go_wp2
    refine bodyPost_ret (v := .tuple #[.slice A n c, .int .i64 0, .int .i64 y]) (by simp [results, Try.results24, go_sem]) rfl ?_
    exact ⟨A, c, by rw [HE.out], by rw [HE.out]; exact (HR.out.below hb2).lo (fun b hb => .inl hb), hb2⟩
end Go.Proofs.Ytflpjpdgacjlcaa

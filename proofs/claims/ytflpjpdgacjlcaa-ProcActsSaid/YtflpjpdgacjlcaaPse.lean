/- The document's End and Reap of layer 31. -/
import Derived.Test.YtflpjpdgacjlcaaPsd
import Derived.Test.YtflpjpdgacjlcaaPrj
namespace Go.Proofs.Ytflpjpdgacjlcaa
open Go.RowKit

set_option maxRecDepth 100000 in
set_option maxHeartbeats 4000000 in
theorem c_rprend {w : World} {pl : Nat → Prop} {A : Option Addr} {n c : Nat} {L : List PR} (h : TW prK w pl A n L) (p how : Int) :
    Calls Try.prog 23 #[.slice A n c, .int .i64 p, .int .i64 how] w fun e w' => ∃ A' c', e = .returned (.tuple #[.slice A' n c', .int .i64 (endT (prEndR how) L p).2]) ∧ TW prK w' (plP pl w) A' n (endT (prEndR how) L p).1 ∧ Below w.heap.size w w' := by
  have CF := fun W (hb : Below w.heap.size w W) => c_rprfine (c := c) (h.below hb)
  have HR := Lib.hid h
  have hl := h.len
  cases hf : fineT L
  · have HE : Hid (endT (prEndR how) L p = (L, 1)) := Lib.hid (if_pos hf)
    rw [hf] at CF
    have CF := Lib.hid CF
    clear h hl hf
    go_enter Try.func23, Try.ntmps23
    go_wp2_with fail
    refine (CF.out _ (Below.refl _ _)).mono ?_; rintro e w2 ⟨rfl, hb2⟩
    go_wp2
    refine bodyPost_ret (v := .tuple #[.slice A n c, .int .i64 1]) (by simp [results, Try.results23, go_sem]) rfl ?_
    exact ⟨A, c, by rw [HE.out], by rw [HE.out]; exact (HR.out.below hb2).lo (fun b hb => .inl hb), hb2⟩
  rw [hf] at CF
  have CF := Lib.hid CF
  have h16 := fineT_len hf
  by_cases h0 : p < 0
  · have HE : Hid (endT (prEndR how) L p = (L, 8)) := Lib.hid (by unfold endT; rw [if_neg (by rw [hf]; decide), if_pos (there_not (.inl h0))])
    have g0 : decide (p < 0) = true := decide_eq_true h0
    clear h hl hf h0 h16
    go_enter Try.func23, Try.ntmps23
    go_wp2_with fail
    refine (CF.out _ (Below.refl _ _)).mono ?_; rintro e w2 ⟨rfl, hb2⟩
    have HB := Lib.hid hb2
    clear hb2
    go_wp2
    refine bodyPost_ret (v := .tuple #[.slice A n c, .int .i64 8]) (by simp [results, Try.results23, go_sem]) rfl ?_
    exact ⟨A, c, by rw [HE.out], by rw [HE.out]; exact (HR.out.below HB.out).lo (fun b hb => .inl hb), HB.out⟩
  have g0 : decide (p < 0) = false := decide_eq_false h0
  by_cases h1 : 15 < p
  · have HE : Hid (endT (prEndR how) L p = (L, 8)) := Lib.hid (by unfold endT; rw [if_neg (by rw [hf]; decide), if_pos (there_not (.inr (by omega)))])
    have g1 : decide (15 < p) = true := decide_eq_true h1
    clear h hl hf h0 h16 h1
    go_enter Try.func23, Try.ntmps23
    go_wp2_with fail
    refine (CF.out _ (Below.refl _ _)).mono ?_; rintro e w2 ⟨rfl, hb2⟩
    have HB := Lib.hid hb2
    clear hb2
    go_wp2
    refine bodyPost_ret (v := .tuple #[.slice A n c, .int .i64 8]) (by simp [results, Try.results23, go_sem]) rfl ?_
    exact ⟨A, c, by rw [HE.out], by rw [HE.out]; exact (HR.out.below HB.out).lo (fun b hb => .inl hb), HB.out⟩
  have g1 : decide (15 < p) = false := decide_eq_false h1
  obtain ⟨k, rfl⟩ : ∃ k : Nat, p = k := ⟨p.toNat, by omega⟩
  have hkn : k < n := by omega
  have HK := Lib.hid hkn
  have hk0 : (0 : Int) ≤ k := by omega
  have hk1 : (k : Int) < (n : Int) := by omega
  have HN : Hid (n ≤ 100000) := Lib.hid (by omega)
  have hth := there_at (L := L) (k := k) (by omega)
  cases ht : thereT L (k : Nat)
  · have HE : Hid (endT (prEndR how) L (k : Nat) = (L, 8)) := Lib.hid (by unfold endT; rw [if_neg (by rw [hf]; decide), if_pos ht])
    rw [ht] at hth
    clear h hl hf ht h0 h1 h16 hkn
    go_enter Try.func23, Try.ntmps23
    go_wp2_with fail
    refine (CF.out _ (Below.refl _ _)).mono ?_; rintro e w2 ⟨rfl, hb2⟩
    have HB := Lib.hid hb2
    obtain ⟨b, o, q, rfl, hbl, hq, hrg, c0, c1, c38, c39⟩ := pr_at (HR.out.below HB.out) k HK.out
    rw [getP_of hq] at hth
    rw [← hth] at c1
    clear hb2 hbl hq hrg c0 c38 c39 hth
    go_wp2
    refine bodyPost_ret (v := .tuple #[.slice (some ⟨b, o, none⟩) n c, .int .i64 8]) (by simp [results, Try.results23, go_sem]) rfl ?_
    exact ⟨_, c, by rw [HE.out], by rw [HE.out]; exact (HR.out.below HB.out).lo (fun b hb => .inl hb), HB.out⟩
  rw [ht] at hth
  by_cases hm : (getP L (k : Nat)).mode = 0
  · have HE : Hid (endT (prEndR how) L (k : Nat) = (L.set k (prEndR how (getP L (k : Nat))), 0)) := Lib.hid (by unfold endT; rw [if_neg (by rw [hf]; decide), if_neg (by rw [ht]; decide), if_pos hm, Int.toNat_natCast])
    clear h hl hf ht h0 h1 h16 hkn
    go_enter Try.func23, Try.ntmps23
    go_wp2_with fail
    refine (CF.out _ (Below.refl _ _)).mono ?_; rintro e w2 ⟨rfl, hb2⟩
    have HB := Lib.hid hb2
    obtain ⟨b, o, q, rfl, hbl, hq, hrg, c0, c1, c38, c39⟩ := pr_at (HR.out.below HB.out) k HK.out
    rw [getP_of hq] at HE hm hth
    rw [hm] at c38
    rw [← hth] at c1
    have HRG := Lib.hid hrg
    have HQE := Lib.hid (prK.lt (HR.out.each q (List.mem_of_getElem? hq)))
    have HX0 := Lib.hid (px w2 q 66)
    clear hb2 hbl hq hrg hm hth
    go_upto_region 8 with (first | (refine lmr (b := b) (q := o + k * 42) (cs := prC q) (.tmp 37) rfl rfl Try.underlying66 rfl (info_r q) rfl ?_ ?_; (· exact HRG.out)) | (refine snr (t := 66) (W := w2) (cs := prC q) (zs := prC (PR.nil 0)) (.tmp 8) (.tmp 38) rfl rfl rfl rfl (info_r q) (by rw [prC_len, prC_len]) (prC_one q) ?_ ?_ ?_; (· rfl); (· rfl)))
    have hX := HX0.out
    generalize hwv : w2.alloc (.cells (prC q).toArray 66) = wv at hX
    have d38 := hX.c38
    have d39 := hX.c39
    have f38 := hX.box.free 38
    have f39 := hX.box.free 39
    have HB4 : Hid (Blk ((wv.setCell ⟨w2.heap.size, 38, none⟩ (.int .i64 3)).setCell ⟨w2.heap.size, 39, none⟩ (.int .i64 how)) w2.heap.size (prC (prEndR how q)) 66) := Lib.hid (by
      have := (hX.box.set 38 (.int .i64 3)).set 39 (.int .i64 how)
      rw [prC_s38, prC_s39] at this
      exact this)
    have HU4 : Hid (Below w2.heap.size w2 ((wv.setCell ⟨w2.heap.size, 38, none⟩ (.int .i64 3)).setCell ⟨w2.heap.size, 39, none⟩ (.int .i64 how))) := Lib.hid ((hX.up.setCell (p := ⟨w2.heap.size, 38, none⟩) (Nat.le_refl _) _).setCell (p := ⟨w2.heap.size, 39, none⟩) (Nat.le_refl _) _)
    clear hX hwv c0 c1 c38 c39
    go_upto_region 10 with fail
    have HB5 := Lib.hid (up_trans HB.out HU4.out)
    go_wp2_with (refine ldr (b := w2.heap.size) (t := 66) (cs := prC (prEndR how q)) (.tmp 8) rfl rfl Try.underlying66 rfl (info_r _) rfl ?_ ?_; (· exact HB4.out))
    have HQ5 := Lib.hid (show prK.E pl (prEndR how q) _ from prK.lo (prK.below (q := q) HQE.out HB5.out) (fun b hb => hb.1))
    refine (c_rprput (HR.out.below HB5.out) HN.out k HK.out (prEndR how q) HQ5.out).mono ?_
    rintro e w5 hp
    obtain ⟨A', c', rfl, h1, h2⟩ := hp.up HB5.out
    have H1 := Lib.hid h1
    have H2 := Lib.hid h2
    clear hp h1 h2
    go_wp2
    refine bodyPost_ret (v := .tuple #[.slice A' n c', .int .i64 0]) (by simp [results, Try.results23, go_sem]) rfl ?_
    exact ⟨A', c', by rw [HE.out], by rw [HE.out]; exact H1.out, H2.out⟩
  · have HE : Hid (endT (prEndR how) L (k : Nat) = (L, 13)) := Lib.hid (by unfold endT; rw [if_neg (by rw [hf]; decide), if_neg (by rw [ht]; decide), if_neg hm])
    have hm' : ((getP L (k : Nat)).mode != 0) = true := by simp [hm]
    clear h hl hf ht h0 h1 h16 hkn hm
    go_enter Try.func23, Try.ntmps23
    go_wp2_with fail
    refine (CF.out _ (Below.refl _ _)).mono ?_; rintro e w2 ⟨rfl, hb2⟩
    have HB := Lib.hid hb2
    obtain ⟨b, o, q, rfl, hbl, hq, hrg, c0, c1, c38, c39⟩ := pr_at (HR.out.below HB.out) k HK.out
    rw [getP_of hq] at hm' hth
    rw [← hth] at c1
    clear hb2 hbl hq hrg c0 c39 hth
    generalize q.mode = m at c38 hm'
    go_wp2
    refine bodyPost_ret (v := .tuple #[.slice (some ⟨b, o, none⟩) n c, .int .i64 13]) (by simp [results, Try.results23, go_sem]) rfl ?_
    exact ⟨_, c, by rw [HE.out], by rw [HE.out]; exact (HR.out.below HB.out).lo (fun b hb => .inl hb), HB.out⟩

set_option maxRecDepth 100000 in
set_option maxHeartbeats 4000000 in
theorem c_rprreap {w : World} {pl : Nat → Prop} {A : Option Addr} {n c : Nat} {L : List PR} (h : TW prK w pl A n L) (x : Int) :
    Calls Try.prog 25 #[.slice A n c, .int .i64 x] w fun e w' => ∃ A' c', e = .returned (.tuple #[.slice A' n c', .int .i64 (reapT L x).2.1, .int .i64 (reapT L x).2.2]) ∧ TW prK w' (plP pl w) A' n (reapT L x).1 ∧ Below w.heap.size w w' := by
  have CF := c_rprfind (c := c) h x
  have HR := Lib.hid h
  have hl := h.len
  by_cases he : (findT L x).2 = 0
  · obtain ⟨hf, h1, h2, h3, h4, h5⟩ := find_of he
    obtain ⟨k, hk⟩ : ∃ k : Nat, slotF x = k := ⟨(slotF x).toNat, by omega⟩
    have hkn : k < n := by have := fineT_len hf; omega
    have hR0 : reapT L x = if (getP L (k : Nat)).mode = 3 then (L.set k (PR.nil (getP L (k : Nat)).gen), (getP L (k : Nat)).how, 0) else (L, 0, 13) := by
      unfold reapT
      rw [if_pos he, h1, hk, Int.toNat_natCast]
    rw [he, h1, hk] at CF
    have CF := Lib.hid CF
    have HK := Lib.hid hkn
    have HN : Hid (n ≤ 100000) := Lib.hid (by have := fineT_len hf; omega)
    have hk0 : (0 : Int) ≤ k := by omega
    have hk1 : (k : Int) < (n : Int) := by omega
    by_cases hm : (getP L (k : Nat)).mode = 3
    · have HE : Hid (reapT L x = (L.set k (PR.nil (getP L (k : Nat)).gen), (getP L (k : Nat)).how, 0)) := Lib.hid (by rw [hR0, if_pos hm])
      clear h hl hf h1 h2 h3 h4 h5 hk hkn hR0 he
      go_enter Try.func25, Try.ntmps25
      go_wp2_with fail
      refine CF.out.mono ?_; rintro e w2 ⟨rfl, hb2⟩
      have HB := Lib.hid hb2
      obtain ⟨b, o, q, rfl, hbl, hq, hrg, c0, c1, c38, c39⟩ := pr_at (HR.out.below hb2) k HK.out
      rw [getP_of hq] at HE hm
      rw [hm] at c38
      have HC : Hid (∀ W, Below w2.heap.size w2 W → W.cell? ⟨b, o + k * 42, none⟩ = some (.int .i64 q.gen) ∧ W.cell? ⟨b, o + k * 42 + 39, none⟩ = some (.int .i64 q.how)) := Lib.hid (fun W hW => ⟨(hW.cell (p := ⟨b, o + k * 42, none⟩) hbl).trans c0, (hW.cell (p := ⟨b, o + k * 42 + 39, none⟩) hbl).trans c39⟩)
      have HBD := Lib.hid (built0_r q.gen)
      have CW := Lib.hid (fun W (hW : Below w2.heap.size w2 W) => c_rprput (c := c) (HR.out.below (up_trans HB.out hW)) HN.out k HK.out (PR.nil q.gen) ⟨rfl, RD.nil _ _ _ _⟩)
      clear hb2 hbl hq hrg c0 c1 c39 hm
      go_wp2_with fail
      refine wp_region_held_drew (S := (fun W => Below w2.heap.size w2 W)) (by kernel_rfl) (up_drewN _ 1) (fun hHeld => ?_)
      refine wpAnyH_take (i := 0) (oi := ?_) (v := ?_) ?_ (by kernel_rfl) (by kernel_rfl) (by kernel_rfl) ?_ (Or.inl ⟨?_, ?_⟩) hHeld ?_
      rotate_left 2
      · conv => lhs; simp only [List.getElem?_toArray, List.getElem?_cons_succ, List.getElem?_cons_zero]
      · exact fun _ _ _ h => h
      · rfl
      · intro W hSw
        go_simp
        try with_reducible rfl
      try simp only [Act.put, List.setIfInBounds_toArray, List.set_cons_zero, List.set_cons_succ]
      refine wpAnyH_take (i := 1) (oi := ?_) (v := ?_) ?_ (by kernel_rfl) (by kernel_rfl) (by kernel_rfl) ?_ (Or.inl ⟨?_, ?_⟩) hHeld ?_
      rotate_left 2
      · conv => lhs; simp only [List.getElem?_toArray, List.getElem?_cons_succ, List.getElem?_cons_zero]
      · exact fun _ _ _ h => h
      · rfl
      · intro W hSw
        go_simp
        try with_reducible rfl
      try simp only [Act.put, List.setIfInBounds_toArray, List.set_cons_zero, List.set_cons_succ]
      refine wpAnyH_take (i := 2) (oi := ?_) (v := ?_) ?_ (by kernel_rfl) (by kernel_rfl) (by kernel_rfl) ?_ (Or.inl ⟨?_, ?_⟩) hHeld ?_
      rotate_left 2
      · conv => lhs; simp only [List.getElem?_toArray, List.getElem?_cons_succ, List.getElem?_cons_zero]
      · exact fun _ _ _ h => h
      · rfl
      · intro W hSw
        go_simp
        try with_reducible rfl
      try simp only [Act.put, List.setIfInBounds_toArray, List.set_cons_zero, List.set_cons_succ]
      refine wpAnyH_take (i := 3) (oi := ?_) (v := ?_) ?_ (by kernel_rfl) (by kernel_rfl) (by kernel_rfl) ?_ (Or.inl ⟨?_, ?_⟩) hHeld ?_
      rotate_left 2
      · conv => lhs; simp only [List.getElem?_toArray, List.getElem?_cons_succ, List.getElem?_cons_zero]
      · exact fun _ _ _ h => h
      · rfl
      · intro W hSw
        go_simp
        try with_reducible rfl
      try simp only [Act.put, List.setIfInBounds_toArray, List.set_cons_zero, List.set_cons_succ]
      refine wpAnyH_take (i := 4) (oi := ?_) (v := ?_) ?_ (by kernel_rfl) (by kernel_rfl) (by kernel_rfl) ?_ (Or.inl ⟨?_, ?_⟩) hHeld ?_
      rotate_left 2
      · conv => lhs; simp only [List.getElem?_toArray, List.getElem?_cons_succ, List.getElem?_cons_zero]
      · exact fun _ _ _ h => h
      · rfl
      · intro W hSw
        go_simp
        try with_reducible rfl
      try simp only [Act.put, List.setIfInBounds_toArray, List.set_cons_zero, List.set_cons_succ]
      refine wpAnyH_take (i := 5) (oi := ?_) (v := ?_) ?_ (by kernel_rfl) (by kernel_rfl) (by kernel_rfl) ?_ (Or.inl ⟨?_, ?_⟩) hHeld ?_
      rotate_left 2
      · conv => lhs; simp only [List.getElem?_toArray, List.getElem?_cons_succ, List.getElem?_cons_zero]
      · exact fun _ _ _ h => h
      · rfl
      · intro W hSw
        go_simp
        try with_reducible rfl
      try simp only [Act.put, List.setIfInBounds_toArray, List.set_cons_zero, List.set_cons_succ]
      refine wpAnyH_take (i := 6) (oi := ?_) (v := ?_) ?_ (by kernel_rfl) (by kernel_rfl) (by kernel_rfl) ?_ (Or.inl ⟨?_, ?_⟩) hHeld ?_
      rotate_left 2
      · conv => lhs; simp only [List.getElem?_toArray, List.getElem?_cons_succ, List.getElem?_cons_zero]
      · exact fun _ _ _ h => h
      · rfl
      · intro W hSw
        have f0 := (HC.out W hSw).1
        go_simp
        try with_reducible rfl
      try simp only [Act.put, List.setIfInBounds_toArray, List.set_cons_zero, List.set_cons_succ]
      refine wpAnyH_take (i := 7) (oi := ?_) (v := (.agg (prC (PR.nil q.gen)).toArray)) ?_ (by kernel_rfl) (by kernel_rfl) (by kernel_rfl) ?_ (Or.inl ⟨?_, ?_⟩) hHeld ?_
      rotate_left 1
      · conv => lhs; simp only [List.getElem?_toArray, List.getElem?_cons_succ, List.getElem?_cons_zero]
      · exact fun _ _ _ h => h
      · rfl
      · intro W hSw
        exact tk_build rfl (by simpa [Act.eval] using HBD.out)
      try simp only [Act.put, List.setIfInBounds_toArray, List.set_cons_zero, List.set_cons_succ]
      refine wpAnyH_take (i := 9) (oi := ?_) (v := ?_) ?_ (by kernel_rfl) (by kernel_rfl) (by kernel_rfl) ?_ (Or.inl ⟨?_, ?_⟩) hHeld ?_
      rotate_left 2
      · conv => lhs; simp only [List.getElem?_toArray, List.getElem?_cons_succ, List.getElem?_cons_zero]
      · exact fun _ _ _ h => h
      · rfl
      · intro W hSw
        go_simp
        try with_reducible rfl
      try simp only [Act.put, List.setIfInBounds_toArray, List.set_cons_zero, List.set_cons_succ]
      refine wpAnyH_take (i := 10) (oi := ?_) (v := ?_) ?_ (by kernel_rfl) (by kernel_rfl) (by kernel_rfl) ?_ (Or.inl ⟨?_, ?_⟩) hHeld ?_
      rotate_left 2
      · conv => lhs; simp only [List.getElem?_toArray, List.getElem?_cons_succ, List.getElem?_cons_zero]
      · exact fun _ _ _ h => h
      · rfl
      · intro W hSw
        go_simp
        try with_reducible rfl
      try simp only [Act.put, List.setIfInBounds_toArray, List.set_cons_zero, List.set_cons_succ]
      refine wpAnyH_take (i := 11) (oi := ?_) (v := ?_) ?_ (by kernel_rfl) (by kernel_rfl) (by kernel_rfl) ?_ (Or.inl ⟨?_, ?_⟩) hHeld ?_
      rotate_left 2
      · conv => lhs; simp only [List.getElem?_toArray, List.getElem?_cons_succ, List.getElem?_cons_zero]
      · exact fun _ _ _ h => h
      · rfl
      · intro W hSw
        go_simp
        try with_reducible rfl
      try simp only [Act.put, List.setIfInBounds_toArray, List.set_cons_zero, List.set_cons_succ]
      refine wpAnyH_take (i := 12) (oi := ?_) (v := ?_) ?_ (by kernel_rfl) (by kernel_rfl) (by kernel_rfl) ?_ (Or.inl ⟨?_, ?_⟩) hHeld ?_
      rotate_left 2
      · conv => lhs; simp only [List.getElem?_toArray, List.getElem?_cons_succ, List.getElem?_cons_zero]
      · exact fun _ _ _ h => h
      · rfl
      · intro W hSw
        go_simp
        try with_reducible rfl
      try simp only [Act.put, List.setIfInBounds_toArray, List.set_cons_zero, List.set_cons_succ]
      refine wpAnyH_take (i := 13) (oi := ?_) (v := ?_) ?_ (by kernel_rfl) (by kernel_rfl) (by kernel_rfl) ?_ (Or.inl ⟨?_, ?_⟩) hHeld ?_
      rotate_left 2
      · conv => lhs; simp only [List.getElem?_toArray, List.getElem?_cons_succ, List.getElem?_cons_zero]
      · exact fun _ _ _ h => h
      · rfl
      · intro W hSw
        have f0 := (HC.out W hSw).2
        go_simp
        try with_reducible rfl
      try simp only [Act.put, List.setIfInBounds_toArray, List.set_cons_zero, List.set_cons_succ]
      refine wpAnyH_ready (rs := [8]) (by kernel_rfl) (by simp) ?_
      refine AllReadyH.cons (o := ?_) ?_ (fun K hK => ?_) AllReadyH.nil
      rotate_left 1
      · conv => lhs; simp only [List.getElem?_toArray, List.getElem?_cons_succ, List.getElem?_cons_zero]
      go_simp
      refine (CW.out _ hHeld).mono ?_
      rintro e wA hp
      obtain ⟨A', c', rfl, h1, h2⟩ := hp.up (up_trans HB.out hHeld)
      have H1 := Lib.hid h1
      have H2 := Lib.hid h2
      obtain ⟨_, _, _, _, hb⟩ := hp
      clear h1 h2
      go_wp2_with fail
      refine hK.out _ _ (up_trans hHeld hb) (fun hHeld => ?_)
      clear hK K
      try simp only [Act.put, List.setIfInBounds_toArray, List.set_cons_zero, List.set_cons_succ]
      refine wpAnyH_take (i := 14) (oi := ?_) (v := ?_) ?_ (by kernel_rfl) (by kernel_rfl) (by kernel_rfl) ?_ (Or.inl ⟨?_, ?_⟩) hHeld ?_
      rotate_left 2
      · conv => lhs; simp only [List.getElem?_toArray, List.getElem?_cons_succ, List.getElem?_cons_zero]
      · exact fun _ _ _ h => h
      · rfl
      · intro W hSw
        go_simp
        try with_reducible rfl
      try simp only [Act.put, List.setIfInBounds_toArray, List.set_cons_zero, List.set_cons_succ]
      refine wpAnyH_take (i := 15) (oi := ?_) (v := ?_) ?_ (by kernel_rfl) (by kernel_rfl) (by kernel_rfl) ?_ (Or.inl ⟨?_, ?_⟩) hHeld ?_
      rotate_left 2
      · conv => lhs; simp only [List.getElem?_toArray, List.getElem?_cons_succ, List.getElem?_cons_zero]
      · exact fun _ _ _ h => h
      · rfl
      · intro W hSw
        go_simp
        try with_reducible rfl
      try simp only [Act.put, List.setIfInBounds_toArray, List.set_cons_zero, List.set_cons_succ]
      refine wpAnyH_take (i := 16) (oi := ?_) (v := ?_) ?_ (by kernel_rfl) (by kernel_rfl) (by kernel_rfl) ?_ (Or.inl ⟨?_, ?_⟩) hHeld ?_
      rotate_left 2
      · conv => lhs; simp only [List.getElem?_toArray, List.getElem?_cons_succ, List.getElem?_cons_zero]
      · exact fun _ _ _ h => h
      · rfl
      · intro W hSw
        go_simp
        try with_reducible rfl
      try simp only [Act.put, List.setIfInBounds_toArray, List.set_cons_zero, List.set_cons_succ]
      refine wpAnyH_done (by kernel_rfl) ?_ _
      go_wp2
      refine bodyPost_ret (v := .tuple #[.slice A' n c', .int .i64 q.how, .int .i64 0]) (by simp [results, Try.results25, go_sem]) rfl ?_
      exact ⟨A', c', by rw [HE.out], by rw [HE.out]; exact H1.out, H2.out⟩
    · have HE : Hid (reapT L x = (L, 0, 13)) := Lib.hid (by rw [hR0, if_neg hm])
      have hm' : ((getP L (k : Nat)).mode != 3) = true := by simp [hm]
      clear h hl hf h1 h2 h3 h4 h5 hk hkn hR0 he hm
      go_enter Try.func25, Try.ntmps25
      go_wp2_with fail
      refine CF.out.mono ?_; rintro e w2 ⟨rfl, hb2⟩
      have HB := Lib.hid hb2
      obtain ⟨b, o, q, rfl, hbl, hq, hrg, c0, c1, c38, c39⟩ := pr_at (HR.out.below hb2) k HK.out
      rw [getP_of hq] at hm'
      clear hb2 hbl hq hrg c0 c1 c39
      generalize q.mode = m at c38 hm'
      go_wp2
      refine bodyPost_ret (v := .tuple #[.slice (some ⟨b, o, none⟩) n c, .int .i64 0, .int .i64 13]) (by simp [results, Try.results25, go_sem]) rfl ?_
      exact ⟨_, c, by rw [HE.out], by rw [HE.out]; exact (HR.out.below HB.out).lo (fun b hb => .inl hb), HB.out⟩
  · have HE := Lib.hid (reap_no he)
    obtain ⟨y, hy⟩ : ∃ y, (findT L x).2 = y := ⟨_, rfl⟩
    rw [hy] at HE he CF
    have he' : (y != 0) = true := by simp [he]
    generalize (findT L x).1 = u at CF
    have CF := Lib.hid CF
    clear h hl he hy
    go_enter Try.func25, Try.ntmps25
    go_wp2_with fail
    refine CF.out.mono ?_; rintro e w2 ⟨rfl, hb2⟩
    go_wp2
    refine bodyPost_ret (v := .tuple #[.slice A n c, .int .i64 0, .int .i64 y]) (by simp [results, Try.results25, go_sem]) rfl ?_
    exact ⟨A, c, by rw [HE.out], by rw [HE.out]; exact (HR.out.below hb2).lo (fun b hb => .inl hb), hb2⟩
end Go.Proofs.Ytflpjpdgacjlcaa

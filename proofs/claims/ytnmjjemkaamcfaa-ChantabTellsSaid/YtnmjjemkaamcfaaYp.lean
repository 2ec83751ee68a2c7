/- The law ChantabTells. -/
import Derived.Test.YtnmjjemkaamcfaaYo
import Derived.Test.YtnmjjemkaamcfaaYn
namespace Go.Proofs.Ytnmjjemkaamcfaa
open Go.RowKit

/-- What New answers, by letters. -/
def NwP (w : World) (no : Nat) (er : Int) (NL : List CP) (e : Ending) (w' : World) : Prop :=
  ∃ A' n' c' L', e = .returned (.tuple #[.slice A' n' c', .int .i64 (no : Int), .int .i64 er]) ∧ TbW w' tt A' n' c' L' ∧ L'.map Prod.fst = NL ∧ n' ≤ 1000 ∧ fewL 0 L' ∧ Below w.heap.size w w'
theorem NwPost.get {w w' : World} {l : List CF} {e : Ending} {no : Nat} {er : Int} {NL : List CP} (h : NwPost w l e w') (hr : newR l = (no, er)) (hc : newL l = NL) (hn : NL.length ≤ 1000) : NwP w no er NL e w' := by
  obtain ⟨A', n', c', L', rfl, h1, h2, h3⟩ := h
  refine ⟨A', n', c', L', by rw [hr], h1, h2.trans hc, ?_, few_new h2, h3⟩
  rw [← h1.len, ← List.length_map (f := Prod.fst), h2, hc]
  exact hn
theorem newL_len (l : List CF) : (newL l).length ≤ l.length := by
  unfold newL
  split
  · simp
  · simp

set_option maxRecDepth 100000 in
set_option maxHeartbeats 8000000 in
theorem l_ttells {B A : Option Addr} {m d n c : Nat} {l : List CF} {L : List CQ} (w : World) (hl : l.length = m) (hR : RD w (fun _ => True) 4 B m (l.flatMap cfC)) (h : TbW w tt A n c L) (p : Int) :
    Calls Try.prog 4 #[.slice B m d, .slice A n c, .int .i64 p] w fun e w' => e = .returned (.bool true) ∧ Below w.heap.size w w' := by
  have CS := Lib.hid (c_tsmall h)
  obtain ⟨qs, hqs⟩ : ∃ q, smallT L = q := ⟨_, rfl⟩
  rw [hqs] at CS
  cases qs
  · clear h hqs hR hl
    go_enter Try.func4, Try.ntmps4
    go_wp2_with (go_at_call 6; refine CS.out.mono ?_; rintro e w2 ⟨rfl, hb2⟩; have HU := Lib.hid hb2; clear hb2)
    refine (c_talive _).mono ?_; rintro e w3 ⟨rfl, hb3⟩
    go_wp2
    go_ret
    exact ⟨rfl, up_trans HU.out hb3⟩
  by_cases h20 : (20 : Int) < m
  · clear h hqs hR hl
    go_enter Try.func4, Try.ntmps4
    go_wp2_with (go_at_call 6; refine CS.out.mono ?_; rintro e w2 ⟨rfl, hb2⟩; have HU := Lib.hid hb2; clear hb2)
    refine (c_talive _).mono ?_; rintro e w3 ⟨rfl, hb3⟩
    go_wp2
    go_ret
    exact ⟨rfl, up_trans HU.out hb3⟩
  obtain ⟨hn10, hfew⟩ := smallT_few h hqs
  have hf1 : fewL 1000 L := hfew.mono (by omega)
  obtain ⟨⟨no, er⟩, hr⟩ : ∃ r, newR l = r := ⟨_, rfl⟩
  obtain ⟨NL, hNL⟩ : ∃ r, newL l = r := ⟨_, rfl⟩
  have hnl : NL.length ≤ 1000 := by
    have := newL_len l
    rw [hNL] at this
    omega
  obtain ⟨Z, hZ⟩ : ∃ Z, mvL 0 (L.map Prod.fst) = Z := ⟨_, rfl⟩
  obtain ⟨Y, hY⟩ : ∃ Y, hitL p 0 (L.map Prod.fst) = Y := ⟨_, rfl⟩
  have hZl : Z.length ≤ 1000 := by
    have h1 := mvL_len (L.map Prod.fst) 0
    rw [hZ, List.length_map, h.len] at h1
    omega
  have hYl : Y.length ≤ 1000 := by
    have h1 := hitL_len p (L.map Prod.fst) 0
    rw [hY, List.length_map, h.len] at h1
    omega
  have C1 := Lib.hid (fun W (hW : Below w.heap.size w W) => (c_tnew (c := d) (hR.below hW) hl).mono fun _ _ h => h.get hr hNL hnl)
  have C2 := Lib.hid (fun W (hW : Below w.heap.size w W) => (c_rtnew (c := d) (hR.below hW) hl).mono fun _ _ h => h.get hr hNL hnl)
  have C3 := Lib.hid (fun W (hW : Below w.heap.size w W) => c_tto (h.below hW) (by omega))
  have C4 := Lib.hid (fun W pl A1 c1 (hT : TbW W pl A1 n c1 L) => c_moves hT hf1 (by omega))
  have C5 := Lib.hid (fun W (hW : Below w.heap.size w W) => c_rtmoves (h.below hW) hf1 (by omega))
  have C6 := Lib.hid (fun W pl A1 c1 (hT : TbW W pl A1 n c1 L) => c_hits hT hf1 (by omega) p)
  have C7 := Lib.hid (fun W (hW : Below w.heap.size w W) => c_rthits (h.below hW) hf1 (by omega) p)
  rw [hZ] at C4 C5
  rw [hY] at C6 C7
  have HN := Lib.hid hnl
  have HYL := Lib.hid hYl
  have g1 : ((no : Int) != (no : Int)) = false := bne_self_eq_false _
  have g2 : (er != er) = false := bne_self_eq_false _
  have g3 : ((Z.length : Int) != (Z.length : Int)) = false := bne_self_eq_false _
  clear h hR hl hqs hfew hf1 hr hNL hnl hZ hY hYl
  go_enter Try.func4, Try.ntmps4
  go_wp2_with (go_at_call 6; refine CS.out.mono ?_; rintro e w2 ⟨rfl, hb2⟩; have HU2 := Lib.hid hb2; clear hb2)
  refine (C1.out _ HU2.out).mono ?_; rintro e w3 ⟨A3, n3, c3, L3, rfl, hT3, hm3, hn3, hf3, hb3⟩
  have HU3 := Lib.hid (up_trans HU2.out hb3)
  have HT3 := Lib.hid hT3
  have HM3 := Lib.hid hm3
  have HF3 := Lib.hid hf3
  have HN3 := Lib.hid hn3
  clear hb3 hT3 hm3 hf3 hn3
  go_wp2_with fail
  refine (C2.out _ HU3.out).mono ?_; rintro e w4 ⟨A4, n4, c4, L4, rfl, hT4, hm4, _, _, hb4⟩
  have HU4 := Lib.hid (up_trans HU3.out hb4)
  have HT34 := Lib.hid (HT3.out.below hb4)
  have HT4 := Lib.hid hT4
  have HM4 := Lib.hid hm4
  clear hb4 hT4 hm4 HT3
  go_wp2_with fail
  refine (C3.out _ HU4.out).mono ?_; rintro e w5 ⟨A5, c5, rfl, hT5, hb5⟩
  have HU5 := Lib.hid (up_trans HU4.out hb5)
  have HT35 := Lib.hid (HT34.out.below hb5)
  have HT45 := Lib.hid (HT4.out.below hb5)
  have CM := Lib.hid (C4.out _ _ _ _ hT5)
  clear hb5 hT5 HT34 HT4
  go_wp2_with fail
  refine CM.out.mono ?_; rintro e w6 ⟨A6, c6, rfl, -, -, hr6, hb6⟩
  have HU6 := Lib.hid (up_trans HU5.out hb6)
  have HT36 := Lib.hid (HT35.out.below hb6)
  have HT46 := Lib.hid (HT45.out.below hb6)
  have HR6 := Lib.hid (hr6.lo (pl' := tt) (fun _ _ => trivial))
  clear hb6 hr6 HT35 HT45 CM
  go_wp2_with fail
  refine (C5.out _ HU6.out).mono ?_; rintro e w7 ⟨A7, c7, rfl, -, -, hr7, hb7⟩
  have HU7 := Lib.hid (up_trans HU6.out hb7)
  have HT37 := Lib.hid (HT36.out.below hb7)
  have HT47 := Lib.hid (HT46.out.below hb7)
  have HR67 := Lib.hid (HR6.out.below hb7)
  have HR7 := Lib.hid (hr7.lo (pl' := tt) (fun _ _ => trivial))
  have CF := Lib.hid (c_tfrom HT37.out HN3.out)
  clear hb7 hr7 HT36 HT46 HR6
  go_wp2_with fail
  refine CF.out.mono ?_; rintro e w8 ⟨A8, c8, rfl, hT8, hb8⟩
  have HU8 := Lib.hid (up_trans HU7.out hb8)
  have HR68 := Lib.hid (HR67.out.below hb8)
  have HR78 := Lib.hid (HR7.out.below hb8)
  have CSM := Lib.hid (c_tsame hT8 (HT47.out.below hb8) (HM3.out.trans HM4.out.symm) (HF3.out.mono (by omega)) HN3.out)
  clear hb8 hT8 CF HR67 HR7 HT37 HT47
  go_wp2_with fail
  refine CSM.out.mono ?_; rintro e w9 ⟨rfl, hb9⟩
  have HU9 := Lib.hid (up_trans HU8.out hb9)
  have HR69 := Lib.hid (HR68.out.below hb9)
  have HR79 := Lib.hid (HR78.out.below hb9)
  clear hb9 CSM HR68 HR78
  go_wp2_with fail
  refine (C3.out _ HU9.out).mono ?_; rintro e w10 ⟨A10, c10, rfl, hT10, hb10⟩
  have HU10 := Lib.hid (up_trans HU9.out hb10)
  have HR610 := Lib.hid (HR69.out.below hb10)
  have HR710 := Lib.hid (HR79.out.below hb10)
  have CH := Lib.hid (C6.out _ _ _ _ hT10)
  clear hb10 hT10 HR69 HR79
  go_wp2_with fail
  refine CH.out.mono ?_; rintro e w11 ⟨A11, c11, rfl, -, -, hr11, hb11⟩
  have HU11 := Lib.hid (up_trans HU10.out hb11)
  have HR611 := Lib.hid (HR610.out.below hb11)
  have HR711 := Lib.hid (HR710.out.below hb11)
  have HY11 := Lib.hid hr11
  clear hb11 hr11 CH HR610 HR710
  go_wp2_with fail
  refine (C7.out _ HU11.out).mono ?_; rintro e w12 ⟨A12, c12, rfl, -, -, hr12, hb12⟩
  have HU12 := Lib.hid (up_trans HU11.out hb12)
  have HR612 := Lib.hid (HR611.out.below hb12)
  have HR712 := Lib.hid (HR711.out.below hb12)
  have CSB := Lib.hid (c_same (c := c11) (d := c12) (zs := Y) (HY11.out.below hb12) hr12 (by have := HYL.out; omega))
  clear hb12 hr12 HY11 HR611 HR711
  go_wp2_with fail
  refine CSB.out.mono ?_; rintro e w13 ⟨rfl, hd13⟩
  have hb13 := hd13.below
  have HU13 := Lib.hid (up_trans HU12.out hb13)
  have HA := Lib.hid (HR612.out.below hb13)
  have HB := Lib.hid (HR712.out.below hb13)
  clear hb13 hd13 CSB HR612 HR712 C1 C2 C3 C4 C5 C6 C7
  go_wp2_with fail
  go_loopw [15, 77] (fun _ i wr => ∃ k : Nat, k ≤ Z.length ∧ i = .int .i64 k ∧ Below w13.heap.size w13 wr) (fun _ i _ => Z.length - (intOf i).toNat)
  case atStart => exact ⟨0, Nat.zero_le _, rfl, Below.refl _ _⟩
  case round =>
    obtain ⟨k, hk, rfl, hbw⟩ := hrel
    by_cases hlt : k < Z.length
    · have hkz : (k : Int) < (Z.length : Int) := by omega
      obtain ⟨b1, o1, rfl, _, hb1, hr1⟩ := RD.row mvC_len (HA.out.below hbw) (List.getElem?_eq_getElem hlt) hlt
      obtain ⟨b2, o2, rfl, _, hb2, hr2⟩ := RD.row mvC_len (HB.out.below hbw) (List.getElem?_eq_getElem hlt) hlt
      generalize Z[k] = z at hr1 hr2
      have HK : Hid (∀ W, Below wr.heap.size wr W → W.cell? ⟨b1, o1 + k * 2, none⟩ = some (.int .i64 (z.1 : Int)) ∧ W.cell? ⟨b1, o1 + k * 2 + 1, none⟩ = some (.int .i64 z.2) ∧ W.cell? ⟨b2, o2 + k * 2, none⟩ = some (.int .i64 (z.1 : Int)) ∧ W.cell? ⟨b2, o2 + k * 2 + 1, none⟩ = some (.int .i64 z.2)) := Lib.hid (fun W hW =>
        ⟨range_below hr1 hW hb1 0 _ rfl, range_below hr1 hW hb1 1 _ rfl, range_below hr2 hW hb2 0 _ rfl, range_below hr2 hW hb2 1 _ rfl⟩)
      have HBW := Lib.hid hbw
      have e1 : ((z.1 : Int) == (z.1 : Int)) = true := beq_self_eq_true _
      have e2 : (z.2 == z.2) = true := beq_self_eq_true _
      clear hr1 hr2 hb1 hb2 hbw
      go_wp2_with fail
      refine wp_region_held_drew (S := fun W => W.cell? ⟨b1, o1 + k * 2, none⟩ = some (.int .i64 (z.1 : Int)) ∧ W.cell? ⟨b1, o1 + k * 2 + 1, none⟩ = some (.int .i64 z.2) ∧ W.cell? ⟨b2, o2 + k * 2, none⟩ = some (.int .i64 (z.1 : Int)) ∧ W.cell? ⟨b2, o2 + k * 2 + 1, none⟩ = some (.int .i64 z.2)) (by kernel_rfl) (HK.out _ (up_drewN wr 1)) (fun hHeld => ?_)
      refine wpAnyH_take (i := 0) (oi := ?_) (v := ?_) ?_ (by kernel_rfl) (by kernel_rfl) (by kernel_rfl) ?_ (Or.inl ⟨?_, ?_⟩) hHeld ?_
      rotate_left 2
      · conv => lhs; simp only [List.getElem?_toArray, List.getElem?_cons_succ, List.getElem?_cons_zero]
      · exact fun _ _ _ h => h
      · rfl
      · intro W hSw
        obtain ⟨k0, k1, k2, k3⟩ := hSw
        go_simp
        try with_reducible rfl
      try simp only [Act.put, List.setIfInBounds_toArray, List.set_cons_zero, List.set_cons_succ]
      refine wpAnyH_take (i := 1) (oi := ?_) (v := ?_) ?_ (by kernel_rfl) (by kernel_rfl) (by kernel_rfl) ?_ (Or.inl ⟨?_, ?_⟩) hHeld ?_
      rotate_left 2
      · conv => lhs; simp only [List.getElem?_toArray, List.getElem?_cons_succ, List.getElem?_cons_zero]
      · exact fun _ _ _ h => h
      · rfl
      · intro W hSw
        obtain ⟨k0, k1, k2, k3⟩ := hSw
        go_simp
        try with_reducible rfl
      try simp only [Act.put, List.setIfInBounds_toArray, List.set_cons_zero, List.set_cons_succ]
      refine wpAnyH_take (i := 2) (oi := ?_) (v := ?_) ?_ (by kernel_rfl) (by kernel_rfl) (by kernel_rfl) ?_ (Or.inl ⟨?_, ?_⟩) hHeld ?_
      rotate_left 2
      · conv => lhs; simp only [List.getElem?_toArray, List.getElem?_cons_succ, List.getElem?_cons_zero]
      · exact fun _ _ _ h => h
      · rfl
      · intro W hSw
        obtain ⟨k0, k1, k2, k3⟩ := hSw
        go_simp
        try with_reducible rfl
      try simp only [Act.put, List.setIfInBounds_toArray, List.set_cons_zero, List.set_cons_succ]
      refine wpAnyH_take (i := 3) (oi := ?_) (v := ?_) ?_ (by kernel_rfl) (by kernel_rfl) (by kernel_rfl) ?_ (Or.inl ⟨?_, ?_⟩) hHeld ?_
      rotate_left 2
      · conv => lhs; simp only [List.getElem?_toArray, List.getElem?_cons_succ, List.getElem?_cons_zero]
      · exact fun _ _ _ h => h
      · rfl
      · intro W hSw
        obtain ⟨k0, k1, k2, k3⟩ := hSw
        go_simp
        try with_reducible rfl
      try simp only [Act.put, List.setIfInBounds_toArray, List.set_cons_zero, List.set_cons_succ]
      refine wpAnyH_take (i := 4) (oi := ?_) (v := ?_) ?_ (by kernel_rfl) (by kernel_rfl) (by kernel_rfl) ?_ (Or.inl ⟨?_, ?_⟩) hHeld ?_
      rotate_left 2
      · conv => lhs; simp only [List.getElem?_toArray, List.getElem?_cons_succ, List.getElem?_cons_zero]
      · exact fun _ _ _ h => h
      · rfl
      · intro W hSw
        obtain ⟨k0, k1, k2, k3⟩ := hSw
        go_simp
        try with_reducible rfl
      try simp only [Act.put, List.setIfInBounds_toArray, List.set_cons_zero, List.set_cons_succ]
      refine wpAnyH_take (i := 5) (oi := ?_) (v := ?_) ?_ (by kernel_rfl) (by kernel_rfl) (by kernel_rfl) ?_ (Or.inl ⟨?_, ?_⟩) hHeld ?_
      rotate_left 2
      · conv => lhs; simp only [List.getElem?_toArray, List.getElem?_cons_succ, List.getElem?_cons_zero]
      · exact fun _ _ _ h => h
      · rfl
      · intro W hSw
        obtain ⟨k0, k1, k2, k3⟩ := hSw
        go_simp
        try with_reducible rfl
      try simp only [Act.put, List.setIfInBounds_toArray, List.set_cons_zero, List.set_cons_succ]
      refine wpAnyH_take (i := 6) (oi := ?_) (v := ?_) ?_ (by kernel_rfl) (by kernel_rfl) (by kernel_rfl) ?_ (Or.inl ⟨?_, ?_⟩) hHeld ?_
      rotate_left 2
      · conv => lhs; simp only [List.getElem?_toArray, List.getElem?_cons_succ, List.getElem?_cons_zero]
      · exact fun _ _ _ h => h
      · rfl
      · intro W hSw
        obtain ⟨k0, k1, k2, k3⟩ := hSw
        go_simp
        try with_reducible rfl
      try simp only [Act.put, List.setIfInBounds_toArray, List.set_cons_zero, List.set_cons_succ]
      refine wpAnyH_take (i := 7) (oi := ?_) (v := ?_) ?_ (by kernel_rfl) (by kernel_rfl) (by kernel_rfl) ?_ (Or.inl ⟨?_, ?_⟩) hHeld ?_
      rotate_left 2
      · conv => lhs; simp only [List.getElem?_toArray, List.getElem?_cons_succ, List.getElem?_cons_zero]
      · exact fun _ _ _ h => h
      · rfl
      · intro W hSw
        obtain ⟨k0, k1, k2, k3⟩ := hSw
        go_simp
        try with_reducible rfl
      try simp only [Act.put, List.setIfInBounds_toArray, List.set_cons_zero, List.set_cons_succ]
      refine wpAnyH_take (i := 8) (oi := ?_) (v := ?_) ?_ (by kernel_rfl) (by kernel_rfl) (by kernel_rfl) ?_ (Or.inl ⟨?_, ?_⟩) hHeld ?_
      rotate_left 2
      · conv => lhs; simp only [List.getElem?_toArray, List.getElem?_cons_succ, List.getElem?_cons_zero]
      · exact fun _ _ _ h => h
      · rfl
      · intro W hSw
        obtain ⟨k0, k1, k2, k3⟩ := hSw
        go_simp
        try with_reducible rfl
      try simp only [Act.put, List.setIfInBounds_toArray, List.set_cons_zero, List.set_cons_succ]
      refine wpAnyH_done (by kernel_rfl) ?_ _
      go_wp2_with fail
      go_roundw
      case rel => exact ⟨k + 1, by omega, by go_num, up_trans HBW.out (up_drewN wr 1)⟩
      case measure => simp [intOf]; omega
    · obtain rfl : k = Z.length := by omega
      have HBW := Lib.hid hbw
      clear hbw
      go_wp2_with fail
      refine (c_talive _).mono ?_; rintro e w14 ⟨rfl, hb14⟩
      go_wp2
      go_ret
      exact ⟨rfl, up_trans HU13.out (up_trans HBW.out hb14)⟩
end Go.Proofs.Ytnmjjemkaamcfaa

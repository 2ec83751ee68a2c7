/- The law ReadyGuards of layer 29. -/
import Derived.Test.YtdiiilnebepfdaaGreatDoorRpt
import Derived.Test.YtdiiilnebepfdaaGreatDoorRpc
import Derived.Test.YtdiiilnebepfdaaGreatDoorRuc
import Derived.Test.YtdiiilnebepfdaaGreatDoorRem
namespace Go.Proofs.YtdiiilnebepfdaaGreatDoor
open Go.RowKit

theorem gds_len {V : VQ} (hf : FewV V) (who : Int) : (rdGds V.p who).length ≤ 8 := by
  unfold rdGds
  exact Nat.le_trans (List.length_filterMap_le _ _) (ws_few hf who).1
theorem Few.rows {V : VQ} (h : Few V) (A1 : Option Addr) (c1 : Nat) (A2 : Option Addr) (c2 : Nat) (A3 : Option Addr) (c3 : Nat) (A4 : Option Addr) (c4 : Nat) : Few (V.rows A1 c1 A2 c2 A3 c3 A4 c4) := ⟨h.ch, h.cl, h.br, h.wt, h.ws, h.tm, h.tw, h.lv⟩
/-- To, as it is used. -/
theorem to_one {V : VQ} {Q : List RB} {w : World} (h : VX w V Q) (hf : FewV V) (hs : smallT Q = true) :
    Calls Tryz.prog 8 #[.agg (vC V).toArray] w fun e w' => ∃ V1 : VQ, e = .returned (.agg (vC V1).toArray) ∧ VW w' V1 ∧ FewV V1 ∧ V1.p = V.p ∧ Below w.heap.size w w' :=
  (c_to29 h hf.f hs).mono (by
    rintro e w' ⟨a1, d1, a2, d2, a3, d3, a4, d4, rfl, hv, hb⟩
    exact ⟨_, rfl, hv, ⟨hf.f.rows _ _ _ _ _ _ _ _, hf.t⟩, rfl, hb⟩)
theorem plain_one {V : VQ} {Q : List RB} {w : World} (h : VX w V Q) (hf : Few V) (hs : smallT Q = true) :
    Calls Tryz.prog 10 #[.agg (vC V).toArray] w fun e w' => ∃ V1 : VQ, e = .returned (.agg (vC V1).toArray) ∧ VD w' V1 ∧ Few V1 ∧ V1.p = V.p ∧ Below w.heap.size w w' :=
  (c_plain29 h hs).mono (by
    rintro e w' ⟨A, c, rfl, hv, hb⟩
    exact ⟨_, rfl, hv, hf.bars A c, rfl, hb⟩)
set_option maxRecDepth 100000 in
set_option maxHeartbeats 4000000 in
theorem l_guards29 {V : VQ} {Q : List RB} (who no : Int) {w : World} (h : VX w V Q) (hq : ∀ t ∈ V.Tq, t.who ≤ 9223372036854775807) (hT : TabD w) :
    Calls Tryz.prog 3 #[.agg (vC V).toArray, .int .i64 who, .int .i64 no] w fun e w' => e = .returned (.bool true) ∧ Below w.heap.size w w' := by
  have HX := Lib.hid (fun W (hW : Below w.heap.size w W) => h.below hW)
  have HT := Lib.hid (fun W (hW : Below w.heap.size w W) => hT.up hW)
  have HQ := Lib.hid hq
  have HB0 := Lib.hid (Blk.new w (vC V) 28)
  have hu0 := up_alloc w (.cells (vC V).toArray 28)
  generalize hw1 : w.alloc (.cells (vC V).toArray 28) = w1 at HB0 hu0
  have HW1 := Lib.hid hw1
  have HU1 := Lib.hid hu0
  clear h hT hq hw1 hu0
  go_enter Tryz.func3, Tryz.ntmps3
  go_upto_region 1 with fail
  rw [HW1.out]
  go_wp2_with (refine ldr (b := w.heap.size) (t := 28) (cs := vC V) (.tmp 3) rfl rfl Tryz.underlying28 rfl info_rvw rfl ?_ ?_; (· exact HB0.out))
  refine (c_small29 (HX.out _ HU1.out)).mono ?_; rintro e w2 ⟨b, rfl, hb, b2⟩
  have HU2 := Lib.hid (up_trans HU1.out b2)
  have HB2 := Lib.hid (blk_up HB0.out b2)
  clear b2 HB0 HU1
  cases b
  · clear hb
    go_wp2_with fail
    refine (c_alive29 _ (HT.out _ HU2.out)).mono ?_; rintro e w3 ⟨rfl, b3⟩
    go_wp2
    go_ret
    exact ⟨rfl, up_trans HU2.out b3⟩
  obtain ⟨hf, hs⟩ := hb rfl
  have hfv : FewV V := ⟨hf, HQ.out⟩
  obtain ⟨zs, hzs⟩ : ∃ zs, rdGds V.p who = zs := ⟨_, rfl⟩
  have hzl : zs.length ≤ 100000 := by
    have := gds_len hfv who
    rw [hzs] at this
    omega
  obtain ⟨x, hx⟩ : ∃ x, (rdWhich V.p who no).getD evZ = x := ⟨_, rfl⟩
  obtain ⟨s, hss⟩ : ∃ s, (rdWhich V.p who no).isSome = s := ⟨_, rfl⟩
  have CT := Lib.hid (fun W (hW : Below w.heap.size w W) => to_one (HX.out W hW) hfv hs)
  have CP := Lib.hid (fun W (hW : Below w.heap.size w W) => plain_one (HX.out W hW) hf hs)
  have CW : Hid (∀ W V1, Below w.heap.size w W → VW W V1 → FewV V1 → V1.p = V.p → Calls Tryz.prog 7 #[.agg (vC V1).toArray, .int .i64 who, .int .i64 no] W fun e w' => e = .returned (.tuple #[.agg (evC x).toArray, .bool s]) ∧ Below W.heap.size W w') := Lib.hid (fun W V1 hW hv hf hp => (c_which hv hf (HT.out _ hW) who no).mono (by
    rw [hp]
    rintro e w' ⟨rfl, hb⟩
    exact ⟨by unfold evV; rw [hx, hss], hb⟩))
  have CU : Hid (∀ W V1, VD W V1 → Few V1 → V1.p = V.p → Calls Tryz.prog 9 #[.agg (vC V1).toArray, .int .i64 who, .int .i64 no] W fun e w' => e = .returned (.tuple #[.agg (evC x).toArray, .bool s]) ∧ Below W.heap.size W w') := Lib.hid (fun W V1 hv hf hp => (c_uwhich hv hf who no).mono (by
    rw [hp]
    rintro e w' ⟨rfl, hb⟩
    exact ⟨by unfold evV; rw [hx, hss], hb⟩))
  have CG : Hid (∀ W V1, Below w.heap.size w W → VW W V1 → FewV V1 → V1.p = V.p → Calls Tryz.prog 12 #[.agg (vC V1).toArray, .int .i64 who] W fun e w' => ∃ A c, e = .returned (.slice A zs.length c) ∧ RD w' tt 1 A zs.length (zs.map (Value.int .i64)) ∧ Below W.heap.size W w') := Lib.hid (fun W V1 hW hv hf hp => (c_guards hv hf (HT.out _ hW) who).mono (by
    rw [hp, hzs]
    rintro e w' ⟨A, c, rfl, _, _, hr, hb⟩
    exact ⟨A, c, rfl, hr.lo (fun _ _ => trivial), hb⟩))
  have CV : Hid (∀ W V1, VD W V1 → Few V1 → V1.p = V.p → Calls Tryz.prog 13 #[.agg (vC V1).toArray, .int .i64 who] W fun e w' => ∃ A c, e = .returned (.slice A zs.length c) ∧ RD w' tt 1 A zs.length (zs.map (Value.int .i64)) ∧ Below W.heap.size W w') := Lib.hid (fun W V1 hv hf hp => (c_uguards hv hf who).mono (by
    rw [hp, hzs]
    rintro e w' ⟨A, c, rfl, _, _, hr, hb⟩
    exact ⟨A, c, rfl, hr.lo (fun _ _ => trivial), hb⟩))
  have HZL := Lib.hid hzl
  clear hb hf hs hfv hzs hzl hx hss
  go_wp2_with (refine ldr (b := w.heap.size) (t := 28) (cs := vC V) (.tmp 3) rfl rfl Tryz.underlying28 rfl info_rvw rfl ?_ ?_; (· exact HB2.out))
  refine (CT.out _ HU2.out).mono ?_; rintro e w3 ⟨V1, rfl, hv1, hf1, hp1, b3⟩
  have CW1 := Lib.hid (CW.out w3 V1 (up_trans HU2.out b3) hv1 hf1 hp1)
  have HU3 := Lib.hid (up_trans HU2.out b3)
  have HB3 := Lib.hid (blk_up HB2.out b3)
  clear hv1 hf1 hp1 b3 HB2
  go_wp2_with fail
  refine CW1.out.mono ?_; rintro e w4 ⟨rfl, b4⟩
  have HE := Lib.hid (Blk.new w4 (evC x) 32)
  have hup := up_trans b4 (up_alloc w4 (.cells (evC x).toArray 32))
  have HB5 := Lib.hid (blk_up HB3.out hup)
  have HU5 := Lib.hid (up_trans HU3.out hup)
  clear b4 hup HB3 CW1 CW
  go_wp2_with (first | (refine snr (W := w4) (cs := evC x) (zs := evZC) (t := 32) (.tmp 7) (.tmp 21) rfl rfl rfl rfl (by kernel_rfl) rfl (evC_one _) ?_ ?_ ?_; (· rfl); (· rfl)) | (refine ldr (b := w.heap.size) (t := 28) (cs := vC V) (.tmp 3) rfl rfl Tryz.underlying28 rfl info_rvw rfl ?_ ?_; (· exact HB5.out)))
  refine (CP.out _ HU5.out).mono ?_; rintro e w6 ⟨V2, rfl, hv2, hf2, hp2, b6⟩
  have CU1 := Lib.hid (CU.out w6 V2 hv2 hf2 hp2)
  have HU6 := Lib.hid (up_trans HU5.out b6)
  have HB6 := Lib.hid (blk_up HB5.out b6)
  have HE6 := Lib.hid (blk_up HE.out b6)
  clear hv2 hf2 hp2 b6 HB5 HE
  go_wp2_with fail
  refine CU1.out.mono ?_; rintro e w7 ⟨rfl, b7⟩
  have hup := up_trans b7 (up_alloc w7 (.cells (evC x).toArray 42))
  have HF8 := Lib.hid (Blk.new w7 (evC x) 42)
  have HB8 := Lib.hid (blk_up HB6.out hup)
  have HE8 := Lib.hid (blk_up HE6.out hup)
  have HU8 := Lib.hid (up_trans HU6.out hup)
  generalize hw8 : w7.alloc (.cells (evC x).toArray 42) = w8 at HB8 HE8 HU8 HF8
  have HW8 := Lib.hid hw8
  clear b7 hup HB6 HE6 CU1 CU hw8
  go_upto_region 5 with (refine snr (W := w7) (cs := evC x) (zs := evZC) (t := 42) (.tmp 9) (.tmp 29) rfl rfl rfl rfl (by kernel_rfl) rfl (evC_one _) ?_ ?_ ?_; (· rfl); (· rfl))
  try rw [HW8.out]
  refine wp_region_held_drew (S := Up1 w8) (by kernel_rfl) (up_drewN _ 1) (fun hHeld => ?_)
  refine wpAnyH_take (i := 0) (oi := ?_) (v := (.agg (vC V).toArray)) ?_ (by kernel_rfl) (by kernel_rfl) (by kernel_rfl) ?_ (Or.inl ⟨?_, ?_⟩) hHeld ?_
  rotate_left 1
  · conv => lhs; simp only [List.getElem?_toArray, List.getElem?_cons_succ, List.getElem?_cons_zero]
  · exact fun _ _ _ h => h
  · rfl
  · intro W hSw
    exact tk_load rfl rfl (load_row (blk_up HB8.out hSw) Tryz.underlying28 rfl info_rvw)
  try simp only [Act.put, List.setIfInBounds_toArray, List.set_cons_zero, List.set_cons_succ]
  refine wpAnyH_take (i := 2) (oi := ?_) (v := ?_) ?_ (by kernel_rfl) (by kernel_rfl) (by kernel_rfl) ?_ (Or.inl ⟨?_, ?_⟩) hHeld ?_
  rotate_left 2
  · conv => lhs; simp only [List.getElem?_toArray, List.getElem?_cons_succ, List.getElem?_cons_zero]
  · exact fun _ _ _ h => h
  · rfl
  · intro W hSw
    go_simp
    try with_reducible rfl
  try simp only [Act.put, List.setIfInBounds_toArray, List.set_cons_zero, List.set_cons_succ]
  refine wpAnyH_take (i := 4) (oi := ?_) (v := (.agg (vC V).toArray)) ?_ (by kernel_rfl) (by kernel_rfl) (by kernel_rfl) ?_ (Or.inl ⟨?_, ?_⟩) hHeld ?_
  rotate_left 1
  · conv => lhs; simp only [List.getElem?_toArray, List.getElem?_cons_succ, List.getElem?_cons_zero]
  · exact fun _ _ _ h => h
  · rfl
  · intro W hSw
    exact tk_load rfl rfl (load_row (blk_up HB8.out hSw) Tryz.underlying28 rfl info_rvw)
  try simp only [Act.put, List.setIfInBounds_toArray, List.set_cons_zero, List.set_cons_succ]
  refine wpAnyH_take (i := 6) (oi := ?_) (v := ?_) ?_ (by kernel_rfl) (by kernel_rfl) (by kernel_rfl) ?_ (Or.inl ⟨?_, ?_⟩) hHeld ?_
  rotate_left 2
  · conv => lhs; simp only [List.getElem?_toArray, List.getElem?_cons_succ, List.getElem?_cons_zero]
  · exact fun _ _ _ h => h
  · rfl
  · intro W hSw
    go_simp
    try with_reducible rfl
  try simp only [Act.put, List.setIfInBounds_toArray, List.set_cons_zero, List.set_cons_succ]
  refine wpAnyH_ready (rs := [1]) (by kernel_rfl) (by simp) ?_
  refine AllReadyH.cons (o := ?_) ?_ (fun K hK => ?_) AllReadyH.nil
  rotate_left 1
  · conv => lhs; simp only [List.getElem?_toArray, List.getElem?_cons_succ, List.getElem?_cons_zero]
  go_simp
  refine (CT.out _ (up_trans HU8.out hHeld)).mono ?_
  rintro e wA ⟨V3, rfl, hv3, hf3, hp3, hb⟩
  go_wp2_with fail
  refine hK.out _ _ (up_trans hHeld hb) (fun hHeld => ?_)
  clear hK K
  try simp only [Act.put, List.setIfInBounds_toArray, List.set_cons_zero, List.set_cons_succ]
  refine wpAnyH_ready (rs := [3]) (by kernel_rfl) (by simp) ?_
  refine AllReadyH.cons (o := ?_) ?_ (fun K hK => ?_) AllReadyH.nil
  rotate_left 1
  · conv => lhs; simp only [List.getElem?_toArray, List.getElem?_cons_succ, List.getElem?_cons_zero]
  go_simp
  refine (CG.out _ _ (up_trans HU8.out hHeld) hv3 hf3 hp3).mono ?_
  rintro e wB ⟨A3, c3, rfl, hr3, hb⟩
  go_wp2_with fail
  refine hK.out _ _ (up_trans hHeld hb) (fun hHeld => ?_)
  clear hK K
  try simp only [Act.put, List.setIfInBounds_toArray, List.set_cons_zero, List.set_cons_succ]
  refine wpAnyH_ready (rs := [5]) (by kernel_rfl) (by simp) ?_
  refine AllReadyH.cons (o := ?_) ?_ (fun K hK => ?_) AllReadyH.nil
  rotate_left 1
  · conv => lhs; simp only [List.getElem?_toArray, List.getElem?_cons_succ, List.getElem?_cons_zero]
  go_simp
  refine (CP.out _ (up_trans HU8.out hHeld)).mono ?_
  rintro e wC ⟨V4, rfl, hv4, hf4, hp4, hb⟩
  have hr3 := hr3.below hb
  go_wp2_with fail
  refine hK.out _ _ (up_trans hHeld hb) (fun hHeld => ?_)
  clear hK K
  try simp only [Act.put, List.setIfInBounds_toArray, List.set_cons_zero, List.set_cons_succ]
  refine wpAnyH_ready (rs := [7]) (by kernel_rfl) (by simp) ?_
  refine AllReadyH.cons (o := ?_) ?_ (fun K hK => ?_) AllReadyH.nil
  rotate_left 1
  · conv => lhs; simp only [List.getElem?_toArray, List.getElem?_cons_succ, List.getElem?_cons_zero]
  go_simp
  refine (CV.out _ _ hv4 hf4 hp4).mono ?_
  rintro e wD ⟨A4, c4, rfl, hr4, hb⟩
  have hr3 := hr3.below hb
  go_wp2_with fail
  refine hK.out _ _ (up_trans hHeld hb) (fun hHeld => ?_)
  clear hK K
  try simp only [Act.put, List.setIfInBounds_toArray, List.set_cons_zero, List.set_cons_succ]
  refine wpAnyH_ready (rs := [8]) (by kernel_rfl) (by simp) ?_
  refine AllReadyH.cons (o := ?_) ?_ (fun K hK => ?_) AllReadyH.nil
  rotate_left 1
  · conv => lhs; simp only [List.getElem?_toArray, List.getElem?_cons_succ, List.getElem?_cons_zero]
  go_simp
  refine (c_same (pl := tt) (pl' := tt) hr3 hr4 HZL.out).mono ?_
  rintro e wS ⟨rfl, hdS⟩
  go_wp2_with fail
  refine hK.out _ _ (up_trans hHeld hdS.below) (fun hHeld => ?_)
  clear hK K
  try simp only [Act.put, List.setIfInBounds_toArray, List.set_cons_zero, List.set_cons_succ]
  refine wpAnyH_take (i := 9) (oi := ?_) (v := ?_) ?_ (by kernel_rfl) (by kernel_rfl) (by kernel_rfl) ?_ (Or.inl ⟨?_, ?_⟩) hHeld ?_
  rotate_left 2
  · conv => lhs; simp only [List.getElem?_toArray, List.getElem?_cons_succ, List.getElem?_cons_zero]
  · exact fun _ _ _ h => h
  · rfl
  · intro W hSw
    go_simp
    try with_reducible rfl
  try simp only [Act.put, List.setIfInBounds_toArray, List.set_cons_zero, List.set_cons_succ]
  refine wpAnyH_take (i := 10) (oi := ?_) (v := (.agg (evC x).toArray)) ?_ (by kernel_rfl) (by kernel_rfl) (by kernel_rfl) ?_ (Or.inl ⟨?_, ?_⟩) hHeld ?_
  rotate_left 1
  · conv => lhs; simp only [List.getElem?_toArray, List.getElem?_cons_succ, List.getElem?_cons_zero]
  · exact fun _ _ _ h => h
  · rfl
  · intro W hSw
    exact tk_load rfl rfl (load_row (blk_up HE8.out hSw) Tryz.underlying32 rfl (by kernel_rfl))
  try simp only [Act.put, List.setIfInBounds_toArray, List.set_cons_zero, List.set_cons_succ]
  refine wpAnyH_take (i := 11) (oi := ?_) (v := (.agg (evC x).toArray)) ?_ (by kernel_rfl) (by kernel_rfl) (by kernel_rfl) ?_ (Or.inl ⟨?_, ?_⟩) hHeld ?_
  rotate_left 1
  · conv => lhs; simp only [List.getElem?_toArray, List.getElem?_cons_succ, List.getElem?_cons_zero]
  · exact fun _ _ _ h => h
  · rfl
  · intro W hSw
    exact tk_load rfl rfl (load_row (blk_up HF8.out hSw) Tryz.underlying42 rfl (by kernel_rfl))
  try simp only [Act.put, List.setIfInBounds_toArray, List.set_cons_zero, List.set_cons_succ]
  refine wpAnyH_take (i := 12) (oi := ?_) (v := (.bool true)) ?_ (by kernel_rfl) (by kernel_rfl) (by kernel_rfl) ?_ (Or.inl ⟨?_, ?_⟩) hHeld ?_
  rotate_left 1
  · conv => lhs; simp only [List.getElem?_toArray, List.getElem?_cons_succ, List.getElem?_cons_zero]
  · exact fun _ _ _ h => h
  · rfl
  · intro W hSw
    exact tk_eqr_refl x rfl rfl rfl
  try simp only [Act.put, List.setIfInBounds_toArray, List.set_cons_zero, List.set_cons_succ]
  refine wpAnyH_take (i := 13) (oi := ?_) (v := ?_) ?_ (by kernel_rfl) (by kernel_rfl) (by kernel_rfl) ?_ (Or.inl ⟨?_, ?_⟩) hHeld ?_
  rotate_left 2
  · conv => lhs; simp only [List.getElem?_toArray, List.getElem?_cons_succ, List.getElem?_cons_zero]
  · exact fun _ _ _ h => h
  · rfl
  · intro W hSw
    go_simp
    try with_reducible rfl
  try simp only [Act.put, List.setIfInBounds_toArray, List.set_cons_zero, List.set_cons_succ]
  refine wpAnyH_take (i := 14) (oi := ?_) (v := ?_) ?_ (by kernel_rfl) (by kernel_rfl) (by kernel_rfl) ?_ (Or.inl ⟨?_, ?_⟩) hHeld ?_
  rotate_left 2
  · conv => lhs; simp only [List.getElem?_toArray, List.getElem?_cons_succ, List.getElem?_cons_zero]
  · exact fun _ _ _ h => h
  · rfl
  · intro W hSw
    go_simp
    try with_reducible rfl
  try simp only [Act.put, List.setIfInBounds_toArray, List.set_cons_zero, List.set_cons_succ]
  refine wpAnyH_take (i := 15) (oi := ?_) (v := ?_) ?_ (by kernel_rfl) (by kernel_rfl) (by kernel_rfl) ?_ (Or.inl ⟨?_, ?_⟩) hHeld ?_
  rotate_left 2
  · conv => lhs; simp only [List.getElem?_toArray, List.getElem?_cons_succ, List.getElem?_cons_zero]
  · exact fun _ _ _ h => h
  · rfl
  · intro W hSw
    go_simp
    try with_reducible rfl
  try simp only [Act.put, List.setIfInBounds_toArray, List.set_cons_zero, List.set_cons_succ]
  refine wpAnyH_take (i := 16) (oi := ?_) (v := ?_) ?_ (by kernel_rfl) (by kernel_rfl) (by kernel_rfl) ?_ (Or.inl ⟨?_, ?_⟩) hHeld ?_
  rotate_left 2
  · conv => lhs; simp only [List.getElem?_toArray, List.getElem?_cons_succ, List.getElem?_cons_zero]
  · exact fun _ _ _ h => h
  · rfl
  · intro W hSw
    go_simp
    try with_reducible rfl
  try simp only [Act.put, List.setIfInBounds_toArray, List.set_cons_zero, List.set_cons_succ]
  refine wpAnyH_take (i := 17) (oi := ?_) (v := (.bool true)) ?_ (by kernel_rfl) (by kernel_rfl) (by kernel_rfl) ?_ (Or.inl ⟨?_, ?_⟩) hHeld ?_
  rotate_left 1
  · conv => lhs; simp only [List.getElem?_toArray, List.getElem?_cons_succ, List.getElem?_cons_zero]
  · exact fun _ _ _ h => h
  · rfl
  · intro W hSw
    have g1 : (s == s) = true := beq_self_eq_true _
    go_simp
  try simp only [Act.put, List.setIfInBounds_toArray, List.set_cons_zero, List.set_cons_succ]
  refine wpAnyH_take (i := 18) (oi := ?_) (v := ?_) ?_ (by kernel_rfl) (by kernel_rfl) (by kernel_rfl) ?_ (Or.inl ⟨?_, ?_⟩) hHeld ?_
  rotate_left 2
  · conv => lhs; simp only [List.getElem?_toArray, List.getElem?_cons_succ, List.getElem?_cons_zero]
  · exact fun _ _ _ h => h
  · rfl
  · intro W hSw
    go_simp
    try with_reducible rfl
  try simp only [Act.put, List.setIfInBounds_toArray, List.set_cons_zero, List.set_cons_succ]
  refine wpAnyH_take (i := 19) (oi := ?_) (v := ?_) ?_ (by kernel_rfl) (by kernel_rfl) (by kernel_rfl) ?_ (Or.inl ⟨?_, ?_⟩) hHeld ?_
  rotate_left 2
  · conv => lhs; simp only [List.getElem?_toArray, List.getElem?_cons_succ, List.getElem?_cons_zero]
  · exact fun _ _ _ h => h
  · rfl
  · intro W hSw
    go_simp
    try with_reducible rfl
  try simp only [Act.put, List.setIfInBounds_toArray, List.set_cons_zero, List.set_cons_succ]
  refine wpAnyH_ready (rs := [20]) (by kernel_rfl) (by simp) ?_
  refine AllReadyH.cons (o := ?_) ?_ (fun K hK => ?_) AllReadyH.nil
  rotate_left 1
  · conv => lhs; simp only [List.getElem?_toArray, List.getElem?_cons_succ, List.getElem?_cons_zero]
  go_simp
  refine (c_alive29 _ (HT.out _ (up_trans HU8.out hHeld))).mono ?_
  rintro e wZ ⟨rfl, hb⟩
  go_wp2_with fail
  refine hK.out _ _ (up_trans hHeld hb) (fun hHeld => ?_)
  clear hK K
  try simp only [Act.put, List.setIfInBounds_toArray, List.set_cons_zero, List.set_cons_succ]
  refine wpAnyH_take (i := 21) (oi := ?_) (v := ?_) ?_ (by kernel_rfl) (by kernel_rfl) (by kernel_rfl) ?_ (Or.inl ⟨?_, ?_⟩) hHeld ?_
  rotate_left 2
  · conv => lhs; simp only [List.getElem?_toArray, List.getElem?_cons_succ, List.getElem?_cons_zero]
  · exact fun _ _ _ h => h
  · rfl
  · intro W hSw
    go_simp
    try with_reducible rfl
  try simp only [Act.put, List.setIfInBounds_toArray, List.set_cons_zero, List.set_cons_succ]
  refine wpAnyH_take (i := 22) (oi := ?_) (v := ?_) ?_ (by kernel_rfl) (by kernel_rfl) (by kernel_rfl) ?_ (Or.inl ⟨?_, ?_⟩) hHeld ?_
  rotate_left 2
  · conv => lhs; simp only [List.getElem?_toArray, List.getElem?_cons_succ, List.getElem?_cons_zero]
  · exact fun _ _ _ h => h
  · rfl
  · intro W hSw
    go_simp
    try with_reducible rfl
  try simp only [Act.put, List.setIfInBounds_toArray, List.set_cons_zero, List.set_cons_succ]
  refine wpAnyH_done (by kernel_rfl) ?_ _
  go_wp2_with fail
  go_ret
  exact ⟨rfl, up_trans HU8.out hHeld⟩
end Go.Proofs.YtdiiilnebepfdaaGreatDoor

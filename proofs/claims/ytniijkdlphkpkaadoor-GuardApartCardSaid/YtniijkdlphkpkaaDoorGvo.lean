/- The laws GuardTells, GuardLists and GuardApart. -/
import Derived.Test.YtniijkdlphkpkaaDoorGvn
namespace Go.Proofs.YtniijkdlphkpkaaDoor
open Go.RowKit

set_option maxRecDepth 100000 in
set_option maxHeartbeats 4000000 in
theorem l_tells (k o v r n : Int) (w : World) (hT : EnvT w) : Calls Tryd.prog 3 #[.agg #[.int .i64 k, .int .i64 o, .int .i64 v, .int .i64 r, .int .i64 n]] w fun e w' => e = .returned (.bool true) ∧ Below w.heap.size w w' := by
  have HB := Blk.new w [.int .i64 k, .int .i64 o, .int .i64 v, .int .i64 r, .int .i64 n] 23
  have HU := up_alloc w (.cells #[.int .i64 k, .int .i64 o, .int .i64 v, .int .i64 r, .int .i64 n] 23)
  have CG := Lib.hid (fun W (hW : EnvT W) => c_gtext k o v r n W hW)
  have CR := Lib.hid (fun W => c_rtext k o v r n W)
  have CK := fun W => c_gcheck k o v r n W
  have CQ := fun W => c_rcheck k o v r n W
  obtain ⟨tx, htx⟩ : ∃ t, txtE k o v r n = t := ⟨_, rfl⟩
  obtain ⟨x, hx⟩ : ∃ t, chkE k o v r n = t := ⟨_, rfl⟩
  rw [htx, hx] at CG CR
  rw [hx] at CK CQ
  have HT := Lib.hid (hT.up HU)
  clear htx hx
  go_enter Tryd.func3, Tryd.ntmps3
  go_wp2_with fail
  refine (CG.out _ HT.out).mono ?_; rintro e w2 ⟨rfl, hb⟩
  have HB2 := HB.up hb HB.lt
  have HU2 := Lib.hid (up_trans HU hb)
  have HT2 := Lib.hid (HT.out.up hb)
  clear hb HB HU HT
  have q0 := HB2.cell 0 _ rfl
  have q1 := HB2.cell 1 _ rfl
  have q2 := HB2.cell 2 _ rfl
  have q3 := HB2.cell 3 _ rfl
  have q4 := HB2.cell 4 _ rfl
  go_wp2_with fail
  refine (CR.out _).mono ?_; rintro e w3 ⟨rfl, hb⟩
  have HB3 := HB2.up hb HB2.lt
  have HU3 := Lib.hid (up_trans HU2.out hb)
  have HT3 := HT2.out.up hb
  clear hb HB2 HU2 HT2 q0 q1 q2 q3 q4
  have q0 := cell_regrown (HB3.cell 0 _ rfl)
  have q1 := cell_regrown (HB3.cell 1 _ rfl)
  have q2 := cell_regrown (HB3.cell 2 _ rfl)
  have q3 := cell_regrown (HB3.cell 3 _ rfl)
  have q4 := cell_regrown (HB3.cell 4 _ rfl)
  have cK := grown_call (w := w3) fun W _ => CK W
  have cQ := grown_call (w := w3) fun W _ => CQ W
  have cA := grown_call (w := w3) fun W hW => c_alive W (HT3.up hW)
  have t0 : (x == x) = true := by simp
  have t1 : (tx == tx) = true := by simp
  clear CG CR CK CQ hT HT3 HB3
  go_wp2_with fail
  refine wp_region_quiet_below (by kernel_rfl) (by kernel_rfl) ?_
  repeat (go_big_quiet_step (first | (with_reducible exact cK _ _) | (with_reducible exact cQ _ _) | (with_reducible exact cA _ _)))
  refine wpQuiet_nil ?_
  intro _ hw'
  obtain ⟨⟨dq, osq⟩, hw''⟩ := hw'
  have HQ := Lib.hid (up_trans HU3.out (hw'' ▸ below_regrown w3 dq osq))
  clear hw'' q0 q1 q2 q3 q4 cK cQ cA
  go_wp2
  go_ret
  exact ⟨rfl, HQ.out⟩

set_option maxRecDepth 100000 in
set_option maxHeartbeats 4000000 in
theorem l_lists (A : Option Addr) (n c : Nat) (L : List GD) (no : Int) (w : World) (hl : L.length = n) (hc : n ≤ c) (hcm : c ≤ maxLen) (hR : RD w (fun _ => True) 5 A n (L.flatMap gdC)) (hT : EnvT w) :
    Calls Tryd.prog 4 #[.slice A n c, .int .i64 no] w fun e w' => e = .returned (.bool true) ∧ Below w.heap.size w w' := by
  have HT := Lib.hid (fun W (hW : Below w.heap.size w W) => hT.up hW)
  have HR := Lib.hid (fun W (hW : Below w.heap.size w W) => hR.below hW)
  have HL := Lib.hid hl
  have HC := Lib.hid hc
  have HM := Lib.hid hcm
  unfold maxLen at hcm
  clear hT hR hl
  by_cases h20 : 20 < n
  · have t20 : decide (20 < (n : Int)) = true := decide_eq_true (by omega)
    clear hc hcm
    go_enter Tryd.func4, Tryd.ntmps4
    go_wp2_with (go_at_call 10; refine (c_alive _ (HT.out _ (Below.refl _ _))).mono ?_; rintro e w' ⟨rfl, hb⟩)
    go_ret
    exact ⟨rfl, hb⟩
  have t20 : decide (20 < (n : Int)) = false := decide_eq_false (by omega)
  have C1 := Lib.hid (fun W (hW : Below w.heap.size w W) => c_gall (c := c) (HR.out W hW) HL.out (by omega) HC.out HM.out)
  have C2 := Lib.hid (fun W (hW : Below w.heap.size w W) => c_rall (c := c) (HR.out W hW) HL.out (by omega))
  have C3 := Lib.hid (fun W (hW : Below w.heap.size w W) => c_gtexts (c := c) (HR.out W hW) HL.out (by omega) (HT.out W hW))
  have C4 := Lib.hid (fun W (hW : Below w.heap.size w W) => c_rtexts (c := c) (HR.out W hW) HL.out (by omega))
  have C5 := Lib.hid (fun W (hW : Below w.heap.size w W) => c_gearliest (c := c) (HR.out W hW) HL.out (by omega))
  have C6 := Lib.hid (fun W (hW : Below w.heap.size w W) => c_rearliest (c := c) (HR.out W hW) HL.out (by omega))
  have C7 := Lib.hid (fun W (hW : Below w.heap.size w W) => c_gfind (c := c) (HR.out W hW) HL.out (by omega) no)
  have C8 := Lib.hid (fun W (hW : Below w.heap.size w W) => c_rfind (c := c) (HR.out W hW) HL.out (by omega) no)
  have CA := Lib.hid (fun W (hW : Below w.heap.size w W) => c_alive W (HT.out W hW))
  generalize allG L = aa at C1 C2
  generalize textsL L = ts at C3 C4
  generalize badE L = be at C3 C4
  generalize earL L = ee at C5 C6
  generalize fndG L no = ff at C7 C8
  obtain ⟨a1, a2⟩ := aa
  obtain ⟨e1, e2⟩ := ee
  obtain ⟨⟨gk, go, gv, gr, gn⟩, fq⟩ := ff
  have D7 : Hid (∀ W, Below w.heap.size w W → Calls Tryd.prog 17 #[.slice A n c, .int .i64 no] W fun e w' => e = .returned (.tuple #[.agg #[.int .i64 gk, .int .i64 go, .int .i64 gv, .int .i64 gr, .int .i64 gn], .bool fq]) ∧ Below W.heap.size W w') := C7
  have D8 : Hid (∀ W, Below w.heap.size w W → Calls Tryd.prog 18 #[.slice A n c, .int .i64 no] W fun e w' => e = .returned (.tuple #[.agg #[.int .i64 gk, .int .i64 go, .int .i64 gv, .int .i64 gr, .int .i64 gn], .bool fq]) ∧ Below W.heap.size W w') := C8
  clear C7 C8 HR HT HL hc hcm h20
  have q1 : (a1 == a1) = true := by simp
  have q2 : (a2 == a2) = true := by simp
  have q3 : (ts == ts) = true := by simp
  have q4 : (be == be) = true := by simp
  have q5 : (e1 == e1) = true := by simp
  have q6 : (e2 == e2) = true := by simp
  have q7 : (gk == gk) = true := by simp
  have q8 : (go == go) = true := by simp
  have q9 : (gv == gv) = true := by simp
  have q10 : (gr == gr) = true := by simp
  have q11 : (gn == gn) = true := by simp
  have q12 : (fq == fq) = true := by simp
  go_enter Tryd.func4, Tryd.ntmps4
  go_wp2_with fail
  refine (C1.out _ (Below.refl _ _)).mono ?_; rintro e w1 ⟨rfl, hb⟩
  have H1 := Lib.hid hb
  clear hb
  go_wp2_with fail
  refine (C2.out _ H1.out).mono ?_; rintro e w2 ⟨rfl, hb⟩
  have H2 := Lib.hid (up_trans H1.out hb)
  clear hb
  go_wp2_with fail
  refine (C3.out _ H2.out).mono ?_; rintro e w3 ⟨rfl, hb⟩
  have H3 := Lib.hid (up_trans H2.out hb)
  clear hb
  go_wp2_with fail
  refine (C4.out _ H3.out).mono ?_; rintro e w4 ⟨rfl, hb⟩
  have H4 := Lib.hid (up_trans H3.out hb)
  clear hb
  go_wp2_with fail
  refine (C5.out _ H4.out).mono ?_; rintro e w5 ⟨rfl, hb⟩
  have H5 := Lib.hid (up_trans H4.out hb)
  clear hb
  go_wp2_with fail
  refine (C6.out _ H5.out).mono ?_; rintro e w' ⟨rfl, rfl⟩
  go_wp2_with fail
  refine (D7.out _ H5.out).mono ?_; rintro e w6 ⟨rfl, hb⟩
  have HX := Blk.new w6 [.int .i64 gk, .int .i64 go, .int .i64 gv, .int .i64 gr, .int .i64 gn] 23
  have H6 := Lib.hid (up_trans H5.out (up_trans hb (up_alloc w6 (.cells #[.int .i64 gk, .int .i64 go, .int .i64 gv, .int .i64 gr, .int .i64 gn] 23))))
  clear hb
  go_wp2_with fail
  refine (D8.out _ H6.out).mono ?_; rintro e w7 ⟨rfl, hb⟩
  have HX7 := (HX.up hb HX.lt).alloc (.cells #[.int .i64 gk, .int .i64 go, .int .i64 gv, .int .i64 gr, .int .i64 gn] 23)
  have HY7 := Blk.new w7 [.int .i64 gk, .int .i64 go, .int .i64 gv, .int .i64 gr, .int .i64 gn] 23
  have H7 := Lib.hid (up_trans H6.out (up_trans hb (up_alloc w7 (.cells #[.int .i64 gk, .int .i64 go, .int .i64 gv, .int .i64 gr, .int .i64 gn] 23))))
  clear hb HX
  have x0 := HX7.cell 0 _ rfl
  have x1 := HX7.cell 1 _ rfl
  have x2 := HX7.cell 2 _ rfl
  have x3 := HX7.cell 3 _ rfl
  have x4 := HX7.cell 4 _ rfl
  have y0 := HY7.cell 0 _ rfl
  have y1 := HY7.cell 1 _ rfl
  have y2 := HY7.cell 2 _ rfl
  have y3 := HY7.cell 3 _ rfl
  have y4 := HY7.cell 4 _ rfl
  clear HX7 HY7
  go_wp2_with (go_at_call 10; refine (CA.out _ H7.out).mono ?_; rintro e w8 ⟨rfl, hb⟩)
  go_ret
  exact ⟨rfl, up_trans H7.out hb⟩
end Go.Proofs.YtniijkdlphkpkaaDoor

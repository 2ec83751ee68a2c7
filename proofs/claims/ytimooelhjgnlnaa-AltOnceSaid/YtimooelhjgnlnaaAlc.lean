/- Package alt: check, last, rest, Begin, Put, Take, Withdraw, Left. -/
import Derived.Test.YtimooelhjgnlnaaAlb
namespace Go.Proofs.Ytimooelhjgnlnaa
open Go.RowKit

/-- A state's box, and the cell of the state that is given. -/
structure Al2 (w w2 : World) (m n d p : Int) : Prop where
  up : Below w.heap.size w w2
  box : Blk w2 w.heap.size [.int .i64 m, .int .i64 n, .int .i64 d, .int .i64 p] 23
  res : Blk w2 (w.heap.size + 1) [.int .i64 0, .int .i64 0, .int .i64 0, .int .i64 0] 23
theorem al2 (w : World) (m n d p : Int) : Al2 w ((w.alloc (.cells #[.int .i64 m, .int .i64 n, .int .i64 d, .int .i64 p] 23)).alloc (.cells #[.int .i64 0, .int .i64 0, .int .i64 0, .int .i64 0] 23)) m n d p := by
  refine ⟨up_trans (up_alloc _ _) (up_alloc _ _), (Blk.new w [.int .i64 m, .int .i64 n, .int .i64 d, .int .i64 p] 23).alloc _, ?_⟩
  have := Blk.new (w.alloc (.cells #[.int .i64 m, .int .i64 n, .int .i64 d, .int .i64 p] 23)) [.int .i64 0, .int .i64 0, .int .i64 0, .int .i64 0] 23
  rw [show (w.alloc (.cells #[.int .i64 m, .int .i64 n, .int .i64 d, .int .i64 p] 23)).heap.size = w.heap.size + 1 by simp] at this
  exact this
theorem up_set4 {w w2 : World} {b : Nat} (h : Below w.heap.size w w2) (hb : w.heap.size ≤ b) (v0 v1 v2 v3 : Value) : Below w.heap.size w ((((w2.setCell ⟨b, 0, none⟩ v0).setCell ⟨b, 1, none⟩ v1).setCell ⟨b, 2, none⟩ v2).setCell ⟨b, 3, none⟩ v3) :=
  (((h.setCell hb _).setCell hb _).setCell hb _).setCell hb _

set_option maxHeartbeats 1000000 in
theorem c_alchk (m n d p md : Int) (w : World) : Calls Try.prog 13 #[.agg #[.int .i64 m, .int .i64 n, .int .i64 d, .int .i64 p], .int .i64 md] w fun e w' => e = .returned (.int .i64 (alChk m n d p md)) ∧ Below w.heap.size w w' := by
  have HU := Lib.hid (up_alloc w (.cells #[.int .i64 m, .int .i64 n, .int .i64 d, .int .i64 p] 23))
  have HB := Lib.hid (Blk.new w [.int .i64 m, .int .i64 n, .int .i64 d, .int .i64 p] 23)
  have CF := Lib.hid (c_alfine m n d p (w.alloc (.cells #[.int .i64 m, .int .i64 n, .int .i64 d, .int .i64 p] 23)))
  cases hf : alFine m n d p
  · rw [chk_arg md hf]
    rw [hf] at CF
    clear hf HB
    go_enter Try.func13, Try.ntmps13
    go_wp2_with fail
    refine CF.out.mono ?_; rintro e w2 ⟨rfl, hb2⟩
    go_wp2
    go_ret
    exact ⟨rfl, up_trans HU.out hb2⟩
  · rw [hf] at CF
    by_cases he : m = md
    · rw [chk_ok hf he]
      have t : (m != md) = false := by simp [he]
      clear he hf
      go_enter Try.func13, Try.ntmps13
      go_wp2_with fail
      refine CF.out.mono ?_; rintro e w2 ⟨rfl, hb2⟩
      have i0 := (HB.out.up hb2 HB.out.lt).cell 0 _ rfl
      have HU2 := Lib.hid (up_trans HU.out hb2)
      clear HB hb2
      go_wp2
      go_ret
      exact ⟨rfl, HU2.out⟩
    · rw [chk_state hf he]
      have t : (m != md) = true := by simp [he]
      clear he hf
      go_enter Try.func13, Try.ntmps13
      go_wp2_with fail
      refine CF.out.mono ?_; rintro e w2 ⟨rfl, hb2⟩
      have i0 := (HB.out.up hb2 HB.out.lt).cell 0 _ rfl
      have HU2 := Lib.hid (up_trans HU.out hb2)
      clear HB hb2
      go_wp2
      go_ret
      exact ⟨rfl, HU2.out⟩

set_option maxHeartbeats 1000000 in
theorem c_allast (n d p : Int) (h1 : 1 ≤ n) (h6 : n ≤ 6) (d0 : 0 ≤ d) (dn : d < n - 1) (w : World) : Calls Try.prog 16 #[.agg #[.int .i64 3, .int .i64 n, .int .i64 d, .int .i64 p]] w fun e w' => e = .returned (.int .i64 (alPlace n d p)) ∧ Below w.heap.size w w' := by
  have HU := Lib.hid (up_alloc w (.cells #[.int .i64 3, .int .i64 n, .int .i64 d, .int .i64 p] 23))
  have HB := Lib.hid (Blk.new w [.int .i64 3, .int .i64 n, .int .i64 d, .int .i64 p] 23)
  obtain ⟨W, hW⟩ : ∃ W, w.alloc (.cells #[.int .i64 3, .int .i64 n, .int .i64 d, .int .i64 p] 23) = W := ⟨_, rfl⟩
  have HWO := Lib.hid hW
  change Hid (Blk (w.alloc (.cells #[.int .i64 3, .int .i64 n, .int .i64 d, .int .i64 p] 23)) _ _ _) at HB
  rw [hW] at HB HU
  clear hW
  have i0 := cell_regrown (HB.out.cell 0 _ rfl)
  have i1 := cell_regrown (HB.out.cell 1 _ rfl)
  have i2 := cell_regrown (HB.out.cell 2 _ rfl)
  have i3 := cell_regrown (HB.out.cell 3 _ rfl)
  have cO := grown_call (w := W) fun V _ => c_alothers 3 n d p h1 h6 V
  by_cases hp : n - 1 - d ≤ p
  · rw [show alPlace n d p = n - 1 - d - 1 from if_pos hp]
    go_enter Try.func16, Try.ntmps16
    go_upto_region 1 with fail
    rw [HWO.out]
    refine wp_region_quiet_below (by kernel_rfl) (by kernel_rfl) ?_
    repeat (go_big_quiet_step (with_reducible exact cO _ _))
    refine wpQuiet_nil ?_
    intro w3 hw'
    obtain ⟨⟨dq, osq⟩, hw''⟩ := hw'
    have hg : Below W.heap.size W w3 := hw'' ▸ below_regrown W dq osq
    have HQ := Lib.hid (up_trans HU.out hg)
    have j3 := (HB.out.up hg HB.out.lt).cell 3 _ rfl
    clear hw'' i0 i1 i2 i3 cO hg HB
    go_wp2
    go_ret
    exact ⟨rfl, HQ.out⟩
  · rw [show alPlace n d p = n - 1 - d from if_neg hp]
    have hp' : p < n - 1 - d := by omega
    clear hp
    go_enter Try.func16, Try.ntmps16
    go_upto_region 1 with fail
    rw [HWO.out]
    refine wp_region_quiet_below (by kernel_rfl) (by kernel_rfl) ?_
    repeat (go_big_quiet_step (with_reducible exact cO _ _))
    refine wpQuiet_nil ?_
    intro w3 hw'
    obtain ⟨⟨dq, osq⟩, hw''⟩ := hw'
    have hg : Below W.heap.size W w3 := hw'' ▸ below_regrown W dq osq
    have HQ := Lib.hid (up_trans HU.out hg)
    have j3 := (HB.out.up hg HB.out.lt).cell 3 _ rfl
    clear hw'' i0 i1 i2 i3 cO hg HB
    go_wp2
    go_ret
    exact ⟨rfl, HQ.out⟩

set_option maxHeartbeats 1000000 in
theorem c_alrest0 (m n d p : Int) (h1 : 1 ≤ n) (h6 : n ≤ 6) (hd : d = n - 1) (w : World) : Calls Try.prog 15 #[.agg #[.int .i64 m, .int .i64 n, .int .i64 d, .int .i64 p]] w fun e w' => e = .returned (.agg #[.int .i64 0, .int .i64 0, .int .i64 0, .int .i64 0]) ∧ Below w.heap.size w w' := by
  have hX := al2 w m n d p
  generalize hw2 : (w.alloc (.cells #[.int .i64 m, .int .i64 n, .int .i64 d, .int .i64 p] 23)).alloc (.cells #[.int .i64 0, .int .i64 0, .int .i64 0, .int .i64 0] 23) = W at hX
  have HWO := Lib.hid hw2
  have HX := Lib.hid hX
  clear hw2 hX
  have i0 := cell_regrown (HX.out.box.cell 0 _ rfl)
  have i1 := cell_regrown (HX.out.box.cell 1 _ rfl)
  have i2 := cell_regrown (HX.out.box.cell 2 _ rfl)
  have i3 := cell_regrown (HX.out.box.cell 3 _ rfl)
  have cO := grown_call (w := W) fun V _ => c_alothers m n d p h1 h6 V
  have hq : (d == n - 1) = true := by simpa using hd
  clear hd
  go_enter Try.func15, Try.ntmps15
  go_upto_region 1 with fail
  rw [HWO.out]
  refine wp_region_quiet_below (by kernel_rfl) (by kernel_rfl) ?_
  repeat (go_big_quiet_step (with_reducible exact cO _ _))
  refine wpQuiet_nil ?_
  intro w3 hw'
  obtain ⟨⟨dq, osq⟩, hw''⟩ := hw'
  have hg : Below W.heap.size W w3 := hw'' ▸ below_regrown W dq osq
  have HQ := Lib.hid (HX.out.up.trans (hg.mono HX.out.up.size))
  have hB := HX.out.box.up hg HX.out.box.lt
  have hR := HX.out.res.up hg HX.out.res.lt
  have j0 := hB.cell 0 _ rfl
  have j1 := hB.cell 1 _ rfl
  have j2 := hB.cell 2 _ rfl
  have j3 := hB.cell 3 _ rfl
  have r0 := hR.cell 0 _ rfl
  have r1 := hR.cell 1 _ rfl
  have r2 := hR.cell 2 _ rfl
  have r3 := hR.cell 3 _ rfl
  have f0 := hR.free 0
  have f1 := hR.free 1
  have f2 := hR.free 2
  have f3 := hR.free 3
  clear hw'' i0 i1 i2 i3 cO hg HX hB hR
  go_wp2_with fail
  refine bodyPost_ret (v := .agg #[.int .i64 0, .int .i64 0, .int .i64 0, .int .i64 0]) (by simp [results, Try.results15, go_sem, r0, r1, r2, r3]) rfl ⟨rfl, up_set4 HQ.out (by omega) _ _ _ _⟩

set_option maxHeartbeats 1000000 in
theorem c_alrest1 (m n d p : Int) (h1 : 1 ≤ n) (h6 : n ≤ 6) (hd : d ≠ n - 1) (w : World) : Calls Try.prog 15 #[.agg #[.int .i64 m, .int .i64 n, .int .i64 d, .int .i64 p]] w fun e w' => e = .returned (.agg #[.int .i64 m, .int .i64 n, .int .i64 d, .int .i64 p]) ∧ Below w.heap.size w w' := by
  have hX := al2 w m n d p
  generalize hw2 : (w.alloc (.cells #[.int .i64 m, .int .i64 n, .int .i64 d, .int .i64 p] 23)).alloc (.cells #[.int .i64 0, .int .i64 0, .int .i64 0, .int .i64 0] 23) = W at hX
  have HWO := Lib.hid hw2
  have HX := Lib.hid hX
  clear hw2 hX
  have i0 := cell_regrown (HX.out.box.cell 0 _ rfl)
  have i1 := cell_regrown (HX.out.box.cell 1 _ rfl)
  have i2 := cell_regrown (HX.out.box.cell 2 _ rfl)
  have i3 := cell_regrown (HX.out.box.cell 3 _ rfl)
  have cO := grown_call (w := W) fun V _ => c_alothers m n d p h1 h6 V
  have hq : (d == n - 1) = false := by simpa using hd
  clear hd
  go_enter Try.func15, Try.ntmps15
  go_upto_region 1 with fail
  rw [HWO.out]
  refine wp_region_quiet_below (by kernel_rfl) (by kernel_rfl) ?_
  repeat (go_big_quiet_step (with_reducible exact cO _ _))
  refine wpQuiet_nil ?_
  intro w3 hw'
  obtain ⟨⟨dq, osq⟩, hw''⟩ := hw'
  have hg : Below W.heap.size W w3 := hw'' ▸ below_regrown W dq osq
  have HQ := Lib.hid (HX.out.up.trans (hg.mono HX.out.up.size))
  have hB := HX.out.box.up hg HX.out.box.lt
  have hR := HX.out.res.up hg HX.out.res.lt
  have j0 := hB.cell 0 _ rfl
  have j1 := hB.cell 1 _ rfl
  have j2 := hB.cell 2 _ rfl
  have j3 := hB.cell 3 _ rfl
  have r0 := hR.cell 0 _ rfl
  have r1 := hR.cell 1 _ rfl
  have r2 := hR.cell 2 _ rfl
  have r3 := hR.cell 3 _ rfl
  have f0 := hR.free 0
  have f1 := hR.free 1
  have f2 := hR.free 2
  have f3 := hR.free 3
  clear hw'' i0 i1 i2 i3 cO hg HX hB hR
  go_wp2_with fail
  refine bodyPost_ret (v := .agg #[.int .i64 m, .int .i64 n, .int .i64 d, .int .i64 p]) (by simp [results, Try.results15, go_sem, r0, r1, r2, r3]) rfl ⟨rfl, up_set4 HQ.out (by omega) _ _ _ _⟩

set_option maxHeartbeats 400000 in
theorem c_albegin (n : Int) (h1 : 1 ≤ n) (h6 : n ≤ 6) (w : World) : Calls Try.prog 4 #[.int .i64 n] w fun e w' => e = .returned (.tuple #[.agg #[.int .i64 1, .int .i64 n, .int .i64 0, .int .i64 0], .int .i64 0]) ∧ Below w.heap.size w w' := by
  have hm := alMay_of h1 h6
  have HU := Lib.hid (up_alloc w (.cells #[.int .i64 1, .int .i64 n, .int .i64 0, .int .i64 0] 23))
  go_enter Try.func4, Try.ntmps4
  go_wp2_with (go_at_call 11; refine (c_almay _ _).mono ?_; rintro e w' ⟨rfl, rfl⟩; rw [hm])
  exact bodyPost_ret (v := .tuple #[.agg #[.int .i64 1, .int .i64 n, .int .i64 0, .int .i64 0], .int .i64 0]) (by simp [results, Try.results4, go_sem]) rfl ⟨rfl, HU.out⟩

set_option maxHeartbeats 1000000 in
theorem c_alput2 (n d : Int) (h1 : 1 ≤ n) (h6 : n ≤ 6) (d0 : 0 ≤ d) (dn : d < n) (hd : d + 1 = n) (w : World) : Calls Try.prog 6 #[.agg #[.int .i64 1, .int .i64 n, .int .i64 d, .int .i64 0]] w fun e w' => e = .returned (.tuple #[.agg #[.int .i64 2, .int .i64 n, .int .i64 (d + 1), .int .i64 0], .int .i64 d, .int .i64 0]) ∧ Below w.heap.size w w' := by
  have hX := al2 w 1 n d 0
  generalize hw2 : (w.alloc (.cells #[.int .i64 1, .int .i64 n, .int .i64 d, .int .i64 0] 23)).alloc (.cells #[.int .i64 0, .int .i64 0, .int .i64 0, .int .i64 0] 23) = W at hX
  have HWO := Lib.hid hw2
  have HX := Lib.hid hX
  clear hw2 hX
  have x0 := HX.out.box.cell 0 _ rfl
  have x1 := HX.out.box.cell 1 _ rfl
  have x2 := HX.out.box.cell 2 _ rfl
  have x3 := HX.out.box.cell 3 _ rfl
  have CC := Lib.hid (c_alchk 1 n d 0 1 W)
  rw [chk_ok (put_fine h1 h6 d0 dn) rfl] at CC
  have hq : (d + 1 == n) = true := by simpa using hd
  clear hd
  go_enter Try.func6, Try.ntmps6
  go_upto_region 1 with fail
  rw [HWO.out]
  go_wp2_with fail
  refine CC.out.mono ?_; rintro e w3 ⟨rfl, hb3⟩
  clear x0 x1 x2 x3
  have HU2 := Lib.hid (HX.out.up.trans (hb3.mono HX.out.up.size))
  have hB := HX.out.box.up hb3 HX.out.box.lt
  have hR := HX.out.res.up hb3 HX.out.res.lt
  have b0 := hB.cell 0 _ rfl
  have b1 := hB.cell 1 _ rfl
  have b2 := hB.cell 2 _ rfl
  have b3 := hB.cell 3 _ rfl
  have g0 := hB.free 0
  have g1 := hB.free 1
  have g2 := hB.free 2
  have g3 := hB.free 3
  have r0 := hR.cell 0 _ rfl
  have r1 := hR.cell 1 _ rfl
  have r2 := hR.cell 2 _ rfl
  have r3 := hR.cell 3 _ rfl
  have f0 := hR.free 0
  have f1 := hR.free 1
  have f2 := hR.free 2
  have f3 := hR.free 3
  clear hb3 hB hR HX CC
  go_wp2_with fail
  refine bodyPost_ret (v := .tuple #[.agg #[.int .i64 2, .int .i64 n, .int .i64 (d + 1), .int .i64 0], .int .i64 d, .int .i64 0]) (by simp [results, Try.results6, go_sem, r0, r1, r2, r3]) rfl ⟨rfl, ?_⟩
  exact up_set4 ((HU2.out.setCell (by simp) _).setCell (by simp) _) (by omega) _ _ _ _

set_option maxHeartbeats 1000000 in
theorem c_alput1 (n d : Int) (h1 : 1 ≤ n) (h6 : n ≤ 6) (d0 : 0 ≤ d) (dn : d < n) (hd : d + 1 ≠ n) (w : World) : Calls Try.prog 6 #[.agg #[.int .i64 1, .int .i64 n, .int .i64 d, .int .i64 0]] w fun e w' => e = .returned (.tuple #[.agg #[.int .i64 1, .int .i64 n, .int .i64 (d + 1), .int .i64 0], .int .i64 d, .int .i64 0]) ∧ Below w.heap.size w w' := by
  have hX := al2 w 1 n d 0
  generalize hw2 : (w.alloc (.cells #[.int .i64 1, .int .i64 n, .int .i64 d, .int .i64 0] 23)).alloc (.cells #[.int .i64 0, .int .i64 0, .int .i64 0, .int .i64 0] 23) = W at hX
  have HWO := Lib.hid hw2
  have HX := Lib.hid hX
  clear hw2 hX
  have x0 := HX.out.box.cell 0 _ rfl
  have x1 := HX.out.box.cell 1 _ rfl
  have x2 := HX.out.box.cell 2 _ rfl
  have x3 := HX.out.box.cell 3 _ rfl
  have CC := Lib.hid (c_alchk 1 n d 0 1 W)
  rw [chk_ok (put_fine h1 h6 d0 dn) rfl] at CC
  have hq : (d + 1 == n) = false := by simpa using hd
  clear hd
  go_enter Try.func6, Try.ntmps6
  go_upto_region 1 with fail
  rw [HWO.out]
  go_wp2_with fail
  refine CC.out.mono ?_; rintro e w3 ⟨rfl, hb3⟩
  clear x0 x1 x2 x3
  have HU2 := Lib.hid (HX.out.up.trans (hb3.mono HX.out.up.size))
  have hB := HX.out.box.up hb3 HX.out.box.lt
  have hR := HX.out.res.up hb3 HX.out.res.lt
  have b0 := hB.cell 0 _ rfl
  have b1 := hB.cell 1 _ rfl
  have b2 := hB.cell 2 _ rfl
  have b3 := hB.cell 3 _ rfl
  have g0 := hB.free 0
  have g1 := hB.free 1
  have g2 := hB.free 2
  have g3 := hB.free 3
  have r0 := hR.cell 0 _ rfl
  have r1 := hR.cell 1 _ rfl
  have r2 := hR.cell 2 _ rfl
  have r3 := hR.cell 3 _ rfl
  have f0 := hR.free 0
  have f1 := hR.free 1
  have f2 := hR.free 2
  have f3 := hR.free 3
  clear hb3 hB hR HX CC
  go_wp2_with fail
  refine bodyPost_ret (v := .tuple #[.agg #[.int .i64 1, .int .i64 n, .int .i64 (d + 1), .int .i64 0], .int .i64 d, .int .i64 0]) (by simp [results, Try.results6, go_sem, r0, r1, r2, r3]) rfl ⟨rfl, ?_⟩
  exact up_set4 (HU2.out.setCell (by simp) _) (by omega) _ _ _ _

set_option maxHeartbeats 1000000 in
theorem c_altake0 (n p : Int) (h1 : 1 ≤ n) (h6 : n ≤ 6) (p0 : 0 ≤ p) (pn : p < n) (hd : 0 = n - 1) (w : World) : Calls Try.prog 8 #[.agg #[.int .i64 2, .int .i64 n, .int .i64 n, .int .i64 0], .int .i64 p] w fun e w' => e = .returned (.tuple #[.agg #[.int .i64 0, .int .i64 0, .int .i64 0, .int .i64 0], .int .i64 0]) ∧ Below w.heap.size w w' := by
  have hX := al2 w 2 n n 0
  generalize hw2 : (w.alloc (.cells #[.int .i64 2, .int .i64 n, .int .i64 n, .int .i64 0] 23)).alloc (.cells #[.int .i64 0, .int .i64 0, .int .i64 0, .int .i64 0] 23) = W at hX
  have HWO := Lib.hid hw2
  have HX := Lib.hid hX
  clear hw2 hX
  have x0 := HX.out.box.cell 0 _ rfl
  have x1 := HX.out.box.cell 1 _ rfl
  have x2 := HX.out.box.cell 2 _ rfl
  have x3 := HX.out.box.cell 3 _ rfl
  have CC := Lib.hid (c_alchk 2 n n 0 2 W)
  rw [chk_ok (stand_fine h1 h6) rfl] at CC
  have CR := Lib.hid (fun V => c_alrest0 3 n 0 p h1 h6 hd V)
  have hi := alIn_of p0 pn
  clear hd
  go_enter Try.func8, Try.ntmps8
  go_upto_region 1 with fail
  rw [HWO.out]
  go_wp2_with fail
  refine CC.out.mono ?_; rintro e w3 ⟨rfl, hb3⟩
  clear x0 x1 x2 x3
  have HU2 := Lib.hid (HX.out.up.trans (hb3.mono HX.out.up.size))
  have hB := HX.out.box.up hb3 HX.out.box.lt
  have HR := Lib.hid (HX.out.res.up hb3 HX.out.res.lt)
  have b1 := hB.cell 1 _ rfl
  clear hb3 hB HX CC
  go_wp2_with (go_at_call 14; refine (c_albelow _ _ _).mono ?_; rintro e w' ⟨rfl, rfl⟩; rw [hi])
  refine (CR.out _).mono ?_; rintro e w4 ⟨rfl, hb4⟩
  have HU4 := Lib.hid (up_trans HU2.out hb4)
  have hR := HR.out.up hb4 HR.out.lt
  have r0 := hR.cell 0 _ rfl
  have r1 := hR.cell 1 _ rfl
  have r2 := hR.cell 2 _ rfl
  have r3 := hR.cell 3 _ rfl
  have f0 := hR.free 0
  have f1 := hR.free 1
  have f2 := hR.free 2
  have f3 := hR.free 3
  clear hb4 hR HR CR
  go_wp2_with fail
  refine bodyPost_ret (v := .tuple #[.agg #[.int .i64 0, .int .i64 0, .int .i64 0, .int .i64 0], .int .i64 0]) (by simp [results, Try.results8, go_sem, r0, r1, r2, r3]) rfl ⟨rfl, ?_⟩
  exact up_set4 HU4.out (by omega) _ _ _ _

set_option maxHeartbeats 1000000 in
theorem c_altake1 (n p : Int) (h1 : 1 ≤ n) (h6 : n ≤ 6) (p0 : 0 ≤ p) (pn : p < n) (hd : 0 ≠ n - 1) (w : World) : Calls Try.prog 8 #[.agg #[.int .i64 2, .int .i64 n, .int .i64 n, .int .i64 0], .int .i64 p] w fun e w' => e = .returned (.tuple #[.agg #[.int .i64 3, .int .i64 n, .int .i64 0, .int .i64 p], .int .i64 0]) ∧ Below w.heap.size w w' := by
  have hX := al2 w 2 n n 0
  generalize hw2 : (w.alloc (.cells #[.int .i64 2, .int .i64 n, .int .i64 n, .int .i64 0] 23)).alloc (.cells #[.int .i64 0, .int .i64 0, .int .i64 0, .int .i64 0] 23) = W at hX
  have HWO := Lib.hid hw2
  have HX := Lib.hid hX
  clear hw2 hX
  have x0 := HX.out.box.cell 0 _ rfl
  have x1 := HX.out.box.cell 1 _ rfl
  have x2 := HX.out.box.cell 2 _ rfl
  have x3 := HX.out.box.cell 3 _ rfl
  have CC := Lib.hid (c_alchk 2 n n 0 2 W)
  rw [chk_ok (stand_fine h1 h6) rfl] at CC
  have CR := Lib.hid (fun V => c_alrest1 3 n 0 p h1 h6 hd V)
  have hi := alIn_of p0 pn
  clear hd
  go_enter Try.func8, Try.ntmps8
  go_upto_region 1 with fail
  rw [HWO.out]
  go_wp2_with fail
  refine CC.out.mono ?_; rintro e w3 ⟨rfl, hb3⟩
  clear x0 x1 x2 x3
  have HU2 := Lib.hid (HX.out.up.trans (hb3.mono HX.out.up.size))
  have hB := HX.out.box.up hb3 HX.out.box.lt
  have HR := Lib.hid (HX.out.res.up hb3 HX.out.res.lt)
  have b1 := hB.cell 1 _ rfl
  clear hb3 hB HX CC
  go_wp2_with (go_at_call 14; refine (c_albelow _ _ _).mono ?_; rintro e w' ⟨rfl, rfl⟩; rw [hi])
  refine (CR.out _).mono ?_; rintro e w4 ⟨rfl, hb4⟩
  have HU4 := Lib.hid (up_trans HU2.out hb4)
  have hR := HR.out.up hb4 HR.out.lt
  have r0 := hR.cell 0 _ rfl
  have r1 := hR.cell 1 _ rfl
  have r2 := hR.cell 2 _ rfl
  have r3 := hR.cell 3 _ rfl
  have f0 := hR.free 0
  have f1 := hR.free 1
  have f2 := hR.free 2
  have f3 := hR.free 3
  clear hb4 hR HR CR
  go_wp2_with fail
  refine bodyPost_ret (v := .tuple #[.agg #[.int .i64 3, .int .i64 n, .int .i64 0, .int .i64 p], .int .i64 0]) (by simp [results, Try.results8, go_sem, r0, r1, r2, r3]) rfl ⟨rfl, ?_⟩
  exact up_set4 HU4.out (by omega) _ _ _ _

set_option maxHeartbeats 1000000 in
theorem c_alwd0 (n d p : Int) (h1 : 1 ≤ n) (h6 : n ≤ 6) (p0 : 0 ≤ p) (pn : p < n) (d0 : 0 ≤ d) (dn : d < n - 1) (hd : d + 1 = n - 1) (w : World) : Calls Try.prog 9 #[.agg #[.int .i64 3, .int .i64 n, .int .i64 d, .int .i64 p]] w fun e w' => e = .returned (.tuple #[.agg #[.int .i64 0, .int .i64 0, .int .i64 0, .int .i64 0], .int .i64 (alPlace n d p), .int .i64 0]) ∧ Below w.heap.size w w' := by
  have hX := al2 w 3 n d p
  generalize hw2 : (w.alloc (.cells #[.int .i64 3, .int .i64 n, .int .i64 d, .int .i64 p] 23)).alloc (.cells #[.int .i64 0, .int .i64 0, .int .i64 0, .int .i64 0] 23) = W at hX
  have HWO := Lib.hid hw2
  have HX := Lib.hid hX
  clear hw2 hX
  have x0 := HX.out.box.cell 0 _ rfl
  have x1 := HX.out.box.cell 1 _ rfl
  have x2 := HX.out.box.cell 2 _ rfl
  have x3 := HX.out.box.cell 3 _ rfl
  have CC := Lib.hid (c_alchk 3 n d p 3 W)
  rw [chk_ok (take_fine h1 h6 p0 pn d0 dn) rfl] at CC
  have CL := Lib.hid (fun V => c_allast n d p h1 h6 d0 dn V)
  have CR := Lib.hid (fun V => c_alrest0 3 n (d + 1) p h1 h6 hd V)
  generalize alPlace n d p = a at CL ⊢
  clear hd
  go_enter Try.func9, Try.ntmps9
  go_upto_region 1 with fail
  rw [HWO.out]
  go_wp2_with fail
  refine CC.out.mono ?_; rintro e w3 ⟨rfl, hb3⟩
  clear x0 x1 x2 x3
  have HU3 := Lib.hid (HX.out.up.trans (hb3.mono HX.out.up.size))
  have HB3 := Lib.hid (HX.out.box.up hb3 HX.out.box.lt)
  have HR3 := Lib.hid (HX.out.res.up hb3 HX.out.res.lt)
  have b0 := HB3.out.cell 0 _ rfl
  have b1 := HB3.out.cell 1 _ rfl
  have b2 := HB3.out.cell 2 _ rfl
  have b3 := HB3.out.cell 3 _ rfl
  clear hb3 HX CC
  go_wp2_with fail
  refine (CL.out _).mono ?_; rintro e w4 ⟨rfl, hb4⟩
  have HU4 := Lib.hid (up_trans HU3.out hb4)
  have HB4 := Lib.hid (HB3.out.up hb4 HB3.out.lt)
  have HR4 := Lib.hid (HR3.out.up hb4 HR3.out.lt)
  clear b0 b1 b2 b3
  have b0 := HB4.out.cell 0 _ rfl
  have b1 := HB4.out.cell 1 _ rfl
  have b2 := HB4.out.cell 2 _ rfl
  have b3 := HB4.out.cell 3 _ rfl
  have g2 := HB4.out.free 2
  have HU5 : Hid (Below w.heap.size w (w4.setCell ⟨w.heap.size, 2, none⟩ (.int .i64 (d + 1)))) := Lib.hid (HU4.out.setCell (Nat.le_refl _) _)
  have HR5 := Lib.hid (HR4.out.other ⟨w.heap.size, 2, none⟩ (by simp) (.int .i64 (d + 1)))
  clear hb4 HB3 HR3 CL HB4 HR4 HU3 HU4
  go_wp2_with fail
  refine (CR.out _).mono ?_; rintro e w5 ⟨rfl, hb5⟩
  have HU6 := Lib.hid (HU5.out.trans (hb5.mono HU5.out.size))
  have hR := HR5.out.up hb5 HR5.out.lt
  have r0 := hR.cell 0 _ rfl
  have r1 := hR.cell 1 _ rfl
  have r2 := hR.cell 2 _ rfl
  have r3 := hR.cell 3 _ rfl
  have f0 := hR.free 0
  have f1 := hR.free 1
  have f2 := hR.free 2
  have f3 := hR.free 3
  clear hb5 hR HR5 CR b0 b1 b2 b3 g2
  go_wp2_with fail
  refine bodyPost_ret (v := .tuple #[.agg #[.int .i64 0, .int .i64 0, .int .i64 0, .int .i64 0], .int .i64 a, .int .i64 0]) (by simp [results, Try.results9, go_sem, r0, r1, r2, r3]) rfl ⟨rfl, ?_⟩
  exact up_set4 HU6.out (by omega) _ _ _ _

set_option maxHeartbeats 1000000 in
theorem c_alwd1 (n d p : Int) (h1 : 1 ≤ n) (h6 : n ≤ 6) (p0 : 0 ≤ p) (pn : p < n) (d0 : 0 ≤ d) (dn : d < n - 1) (hd : d + 1 ≠ n - 1) (w : World) : Calls Try.prog 9 #[.agg #[.int .i64 3, .int .i64 n, .int .i64 d, .int .i64 p]] w fun e w' => e = .returned (.tuple #[.agg #[.int .i64 3, .int .i64 n, .int .i64 (d + 1), .int .i64 p], .int .i64 (alPlace n d p), .int .i64 0]) ∧ Below w.heap.size w w' := by
  have hX := al2 w 3 n d p
  generalize hw2 : (w.alloc (.cells #[.int .i64 3, .int .i64 n, .int .i64 d, .int .i64 p] 23)).alloc (.cells #[.int .i64 0, .int .i64 0, .int .i64 0, .int .i64 0] 23) = W at hX
  have HWO := Lib.hid hw2
  have HX := Lib.hid hX
  clear hw2 hX
  have x0 := HX.out.box.cell 0 _ rfl
  have x1 := HX.out.box.cell 1 _ rfl
  have x2 := HX.out.box.cell 2 _ rfl
  have x3 := HX.out.box.cell 3 _ rfl
  have CC := Lib.hid (c_alchk 3 n d p 3 W)
  rw [chk_ok (take_fine h1 h6 p0 pn d0 dn) rfl] at CC
  have CL := Lib.hid (fun V => c_allast n d p h1 h6 d0 dn V)
  have CR := Lib.hid (fun V => c_alrest1 3 n (d + 1) p h1 h6 hd V)
  generalize alPlace n d p = a at CL ⊢
  clear hd
  go_enter Try.func9, Try.ntmps9
  go_upto_region 1 with fail
  rw [HWO.out]
  go_wp2_with fail
  refine CC.out.mono ?_; rintro e w3 ⟨rfl, hb3⟩
  clear x0 x1 x2 x3
  have HU3 := Lib.hid (HX.out.up.trans (hb3.mono HX.out.up.size))
  have HB3 := Lib.hid (HX.out.box.up hb3 HX.out.box.lt)
  have HR3 := Lib.hid (HX.out.res.up hb3 HX.out.res.lt)
  have b0 := HB3.out.cell 0 _ rfl
  have b1 := HB3.out.cell 1 _ rfl
  have b2 := HB3.out.cell 2 _ rfl
  have b3 := HB3.out.cell 3 _ rfl
  clear hb3 HX CC
  go_wp2_with fail
  refine (CL.out _).mono ?_; rintro e w4 ⟨rfl, hb4⟩
  have HU4 := Lib.hid (up_trans HU3.out hb4)
  have HB4 := Lib.hid (HB3.out.up hb4 HB3.out.lt)
  have HR4 := Lib.hid (HR3.out.up hb4 HR3.out.lt)
  clear b0 b1 b2 b3
  have b0 := HB4.out.cell 0 _ rfl
  have b1 := HB4.out.cell 1 _ rfl
  have b2 := HB4.out.cell 2 _ rfl
  have b3 := HB4.out.cell 3 _ rfl
  have g2 := HB4.out.free 2
  have HU5 : Hid (Below w.heap.size w (w4.setCell ⟨w.heap.size, 2, none⟩ (.int .i64 (d + 1)))) := Lib.hid (HU4.out.setCell (Nat.le_refl _) _)
  have HR5 := Lib.hid (HR4.out.other ⟨w.heap.size, 2, none⟩ (by simp) (.int .i64 (d + 1)))
  clear hb4 HB3 HR3 CL HB4 HR4 HU3 HU4
  go_wp2_with fail
  refine (CR.out _).mono ?_; rintro e w5 ⟨rfl, hb5⟩
  have HU6 := Lib.hid (HU5.out.trans (hb5.mono HU5.out.size))
  have hR := HR5.out.up hb5 HR5.out.lt
  have r0 := hR.cell 0 _ rfl
  have r1 := hR.cell 1 _ rfl
  have r2 := hR.cell 2 _ rfl
  have r3 := hR.cell 3 _ rfl
  have f0 := hR.free 0
  have f1 := hR.free 1
  have f2 := hR.free 2
  have f3 := hR.free 3
  clear hb5 hR HR5 CR b0 b1 b2 b3 g2
  go_wp2_with fail
  refine bodyPost_ret (v := .tuple #[.agg #[.int .i64 3, .int .i64 n, .int .i64 (d + 1), .int .i64 p], .int .i64 a, .int .i64 0]) (by simp [results, Try.results9, go_sem, r0, r1, r2, r3]) rfl ⟨rfl, ?_⟩
  exact up_set4 HU6.out (by omega) _ _ _ _

set_option maxHeartbeats 1000000 in
theorem c_alleft1 (n d : Int) (h1 : 1 ≤ n) (h6 : n ≤ 6) (d0 : 0 ≤ d) (dn : d < n) (w : World) : Calls Try.prog 5 #[.agg #[.int .i64 1, .int .i64 n, .int .i64 d, .int .i64 0]] w fun e w' => e = .returned (.int .i64 (n - d)) ∧ Below w.heap.size w w' := by
  have HU := Lib.hid (up_alloc w (.cells #[.int .i64 1, .int .i64 n, .int .i64 d, .int .i64 0] 23))
  have HB := Lib.hid (Blk.new w [.int .i64 1, .int .i64 n, .int .i64 d, .int .i64 0] 23)
  have CF := Lib.hid (c_alfine 1 n d 0 (w.alloc (.cells #[.int .i64 1, .int .i64 n, .int .i64 d, .int .i64 0] 23)))
  rw [put_fine h1 h6 d0 dn] at CF
  go_enter Try.func5, Try.ntmps5
  go_wp2_with fail
  refine CF.out.mono ?_; rintro e w2 ⟨rfl, hb2⟩
  have HU2 := Lib.hid (up_trans HU.out hb2)
  have hB := HB.out.up hb2 HB.out.lt
  have b0 := hB.cell 0 _ rfl
  have b1 := hB.cell 1 _ rfl
  have b2 := hB.cell 2 _ rfl
  clear hb2 hB HB CF
  go_wp2
  go_ret
  exact ⟨rfl, HU2.out⟩
set_option maxHeartbeats 1000000 in
theorem c_alleft3 (n d p : Int) (h1 : 1 ≤ n) (h6 : n ≤ 6) (p0 : 0 ≤ p) (pn : p < n) (d0 : 0 ≤ d) (dn : d < n - 1) (w : World) : Calls Try.prog 5 #[.agg #[.int .i64 3, .int .i64 n, .int .i64 d, .int .i64 p]] w fun e w' => e = .returned (.int .i64 (n - 1 - d)) ∧ Below w.heap.size w w' := by
  have HU := Lib.hid (up_alloc w (.cells #[.int .i64 3, .int .i64 n, .int .i64 d, .int .i64 p] 23))
  have HB := Lib.hid (Blk.new w [.int .i64 3, .int .i64 n, .int .i64 d, .int .i64 p] 23)
  have CF := Lib.hid (c_alfine 3 n d p (w.alloc (.cells #[.int .i64 3, .int .i64 n, .int .i64 d, .int .i64 p] 23)))
  rw [take_fine h1 h6 p0 pn d0 dn] at CF
  go_enter Try.func5, Try.ntmps5
  go_wp2_with fail
  refine CF.out.mono ?_; rintro e w2 ⟨rfl, hb2⟩
  have HU2 := Lib.hid (up_trans HU.out hb2)
  have hB := HB.out.up hb2 HB.out.lt
  have b0 := hB.cell 0 _ rfl
  have i0 := cell_regrown b0
  have i1 := cell_regrown (hB.cell 1 _ rfl)
  have i2 := cell_regrown (hB.cell 2 _ rfl)
  have i3 := cell_regrown (hB.cell 3 _ rfl)
  have cO := grown_call (w := w2) fun V _ => c_alothers 3 n d p h1 h6 V
  clear hb2 hB HB CF
  go_upto_region 7 with fail
  refine wp_region_quiet_below (by kernel_rfl) (by kernel_rfl) ?_
  repeat (go_big_quiet_step (with_reducible exact cO _ _))
  refine wpQuiet_nil ?_
  intro w3 hw'
  obtain ⟨⟨dq, osq⟩, hw''⟩ := hw'
  have HQ := Lib.hid (up_trans HU2.out (hw'' ▸ below_regrown w2 dq osq))
  clear hw'' i0 i1 i2 i3 cO b0
  go_wp2
  go_ret
  exact ⟨rfl, HQ.out⟩
/-- A state of other mode is not taken. -/
theorem c_altakeE (n d p : Int) (h1 : 1 ≤ n) (h6 : n ≤ 6) (d0 : 0 ≤ d) (dn : d < n) (w : World) : Calls Try.prog 8 #[.agg #[.int .i64 1, .int .i64 n, .int .i64 d, .int .i64 0], .int .i64 p] w fun e w' => e = .returned (.tuple #[.agg #[.int .i64 1, .int .i64 n, .int .i64 d, .int .i64 0], .int .i64 13]) ∧ Below w.heap.size w w' := by
  have hX := al2 w 1 n d 0
  generalize hw2 : (w.alloc (.cells #[.int .i64 1, .int .i64 n, .int .i64 d, .int .i64 0] 23)).alloc (.cells #[.int .i64 0, .int .i64 0, .int .i64 0, .int .i64 0] 23) = W at hX
  have HWO := Lib.hid hw2
  have HX := Lib.hid hX
  clear hw2 hX
  have x0 := HX.out.box.cell 0 _ rfl
  have x1 := HX.out.box.cell 1 _ rfl
  have x2 := HX.out.box.cell 2 _ rfl
  have x3 := HX.out.box.cell 3 _ rfl
  have CC := Lib.hid (c_alchk 1 n d 0 2 W)
  rw [chk_state (put_fine h1 h6 d0 dn) (by decide)] at CC
  go_enter Try.func8, Try.ntmps8
  go_upto_region 1 with fail
  rw [HWO.out]
  go_wp2_with fail
  refine CC.out.mono ?_; rintro e w3 ⟨rfl, hb3⟩
  clear x0 x1 x2 x3
  have HU2 := Lib.hid (HX.out.up.trans (hb3.mono HX.out.up.size))
  have hB := HX.out.box.up hb3 HX.out.box.lt
  have hR := HX.out.res.up hb3 HX.out.res.lt
  have b0 := hB.cell 0 _ rfl
  have b1 := hB.cell 1 _ rfl
  have b2 := hB.cell 2 _ rfl
  have b3 := hB.cell 3 _ rfl
  have r0 := hR.cell 0 _ rfl
  have r1 := hR.cell 1 _ rfl
  have r2 := hR.cell 2 _ rfl
  have r3 := hR.cell 3 _ rfl
  have f0 := hR.free 0
  have f1 := hR.free 1
  have f2 := hR.free 2
  have f3 := hR.free 3
  clear hb3 hB hR HX CC
  go_wp2_with fail
  refine bodyPost_ret (v := .tuple #[.agg #[.int .i64 1, .int .i64 n, .int .i64 d, .int .i64 0], .int .i64 13]) (by simp [results, Try.results8, go_sem, r0, r1, r2, r3]) rfl ⟨rfl, ?_⟩
  exact up_set4 HU2.out (by omega) _ _ _ _
end Go.Proofs.Ytimooelhjgnlnaa

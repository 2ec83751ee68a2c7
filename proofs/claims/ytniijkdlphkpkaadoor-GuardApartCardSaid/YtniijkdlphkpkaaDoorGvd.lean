/- Package guard's Check. -/
import Derived.Test.YtniijkdlphkpkaaDoorGvc
import Derived.Deep.RegionHeld3
import Derived.BigRegion
import Derived.Deep.CutBlock
namespace Go.Proofs.YtniijkdlphkpkaaDoor
open Go.RowKit

/-- A guard's cells, written out. -/
abbrev gcs (k o v r n : Int) : List Value := [.int .i64 k, .int .i64 o, .int .i64 v, .int .i64 r, .int .i64 n]
theorem gb_S {w W : World} {b : Nat} {t : TypeId} {x0 x1 x2 x3 x4 : Value} (h : Blk w b [x0, x1, x2, x3, x4] t) (hb : Below w.heap.size w W) :
    Below w.heap.size w W ∧ W.cell? ⟨b, 0, none⟩ = some x0 ∧ W.cell? ⟨b, 1, none⟩ = some x1 ∧ W.cell? ⟨b, 2, none⟩ = some x2 ∧ W.cell? ⟨b, 3, none⟩ = some x3 ∧ W.cell? ⟨b, 4, none⟩ = some x4 :=
  have h' := h.up hb h.lt
  ⟨hb, h'.cell 0 _ rfl, h'.cell 1 _ rfl, h'.cell 2 _ rfl, h'.cell 3 _ rfl, h'.cell 4 _ rfl⟩
theorem gb_next {w W W' : World} {b : Nat} {t : TypeId} {x0 x1 x2 x3 x4 : Value} (h : Blk w b [x0, x1, x2, x3, x4] t) (k : Below W.heap.size W W')
    (hb : Below w.heap.size w W ∧ W.cell? ⟨b, 0, none⟩ = some x0 ∧ W.cell? ⟨b, 1, none⟩ = some x1 ∧ W.cell? ⟨b, 2, none⟩ = some x2 ∧ W.cell? ⟨b, 3, none⟩ = some x3 ∧ W.cell? ⟨b, 4, none⟩ = some x4) :
    Below w.heap.size w W' ∧ W'.cell? ⟨b, 0, none⟩ = some x0 ∧ W'.cell? ⟨b, 1, none⟩ = some x1 ∧ W'.cell? ⟨b, 2, none⟩ = some x2 ∧ W'.cell? ⟨b, 3, none⟩ = some x3 ∧ W'.cell? ⟨b, 4, none⟩ = some x4 := gb_S h (up_trans hb.1 k)
theorem first_lit (a b c d : Int) (s : Nat) (W : World) (hs : s = W.heap.size) :
    Calls Tryd.prog 22 #[.slice (some ⟨s, 0, none⟩) 4 4] (W.alloc (.cells #[.int .i64 a, .int .i64 b, .int .i64 c, .int .i64 d] 24)) fun e w' => e = .returned (.int .i64 (firstE [a, b, c, d])) ∧ Below (W.alloc (.cells #[.int .i64 a, .int .i64 b, .int .i64 c, .int .i64 d] 24)).heap.size (W.alloc (.cells #[.int .i64 a, .int .i64 b, .int .i64 c, .int .i64 d] 24)) w' := by
  subst hs
  exact c_gfirst (c := 4) (pl := fun _ => True) (L := [a, b, c, d]) (RD.of_blk (xs := [.int .i64 a, .int .i64 b, .int .i64 c, .int .i64 d]) (Blk.new W [.int .i64 a, .int .i64 b, .int .i64 c, .int .i64 d] 24) rfl trivial) rfl (by omega)

set_option maxHeartbeats 4000000 in
theorem c_gcheck (k o v r n : Int) (w : World) : Calls Tryd.prog 8 #[.agg #[.int .i64 k, .int .i64 o, .int .i64 v, .int .i64 r, .int .i64 n]] w fun e w' => e = .returned (.int .i64 (chkE k o v r n)) ∧ Below w.heap.size w w' := by
  by_cases hk : 1 ≤ k ∧ k ≤ 6
  · have HC := Lib.hid (chkE_of (k := k) (o := o) (v := v) (r := r) (n := n) ((kindB_iff k).2 hk))
    obtain ⟨N1, hN⟩ : ∃ x, numE n = x := ⟨_, rfl⟩
    obtain ⟨O1, hO⟩ : ∃ x, objE k o = x := ⟨_, rfl⟩
    obtain ⟨V1, hV⟩ : ∃ x, valE k v = x := ⟨_, rfl⟩
    obtain ⟨R1, hR⟩ : ∃ x, regE k r = x := ⟨_, rfl⟩
    have CN := Lib.hid (c_gnumber k o v r n)
    have CO := Lib.hid (c_gobject k o v r n)
    have CV := Lib.hid (c_gvalue k o v r n)
    have CR := Lib.hid (c_gregister k o v r n)
    rw [hN] at CN HC
    rw [hO] at CO HC
    rw [hV] at CV HC
    rw [hR] at CR HC
    clear hN hO hV hR
    obtain ⟨E, hE⟩ : ∃ x, firstE [N1, O1, V1, R1] = x := ⟨_, rfl⟩
    have CF := Lib.hid (first_lit N1 O1 V1 R1)
    rw [hE] at CF HC
    clear hE
    have hkk := kinds hk.1 hk.2
    clear hk
    rcases hkk with rfl | rfl | rfl | rfl | rfl | rfl
    · have HB := Blk.new w [.int .i64 1, .int .i64 o, .int .i64 v, .int .i64 r, .int .i64 n] 23
      have HU := Lib.hid (up_alloc w (.cells #[.int .i64 1, .int .i64 o, .int .i64 v, .int .i64 r, .int .i64 n] 23))
      generalize hw1 : w.alloc (.cells [.int .i64 1, .int .i64 o, .int .i64 v, .int .i64 r, .int .i64 n].toArray 23) = w1 at HB HU
      have HW := Lib.hid hw1
      clear hw1
      go_enter Tryd.func8, Tryd.ntmps8
      go_upto_region 8 with fail
      rw [HW.out]
      go_region_held3 (fun W => Below w1.heap.size w1 W ∧ W.cell? ⟨w.heap.size, 0, none⟩ = some (.int .i64 1) ∧ W.cell? ⟨w.heap.size, 1, none⟩ = some (.int .i64 o) ∧ W.cell? ⟨w.heap.size, 2, none⟩ = some (.int .i64 v) ∧ W.cell? ⟨w.heap.size, 3, none⟩ = some (.int .i64 r) ∧ W.cell? ⟨w.heap.size, 4, none⟩ = some (.int .i64 n))
        (first | exact gb_S HB ((Below.refl _ _).drew) | exact gb_next HB (by assumption) (by assumption) | exact gb_next HB (up_alloc _ _) (by assumption))
        (first
          | (go_at_call 23; refine (CN.out _).mono ?_; rintro e w' ⟨rfl, hb1⟩)
          | (go_at_call 24; refine (CO.out _).mono ?_; rintro e w' ⟨rfl, hb2⟩)
          | (go_at_call 25; refine (CV.out _).mono ?_; rintro e w' ⟨rfl, hb3⟩)
          | (go_at_call 26; refine (CR.out _).mono ?_; rintro e w' ⟨rfl, hb4⟩)
          | (go_at_call 22; refine (CF.out _ _ (by simp)).mono ?_; rintro e w' ⟨rfl, hb5⟩))
      go_wp2
      go_ret
      exact ⟨ret_int HC.out.symm, up_trans HU.out (And.left (by assumption))⟩
    · have HB := Blk.new w [.int .i64 2, .int .i64 o, .int .i64 v, .int .i64 r, .int .i64 n] 23
      have HU := Lib.hid (up_alloc w (.cells #[.int .i64 2, .int .i64 o, .int .i64 v, .int .i64 r, .int .i64 n] 23))
      generalize hw1 : w.alloc (.cells [.int .i64 2, .int .i64 o, .int .i64 v, .int .i64 r, .int .i64 n].toArray 23) = w1 at HB HU
      have HW := Lib.hid hw1
      clear hw1
      go_enter Tryd.func8, Tryd.ntmps8
      go_upto_region 8 with fail
      rw [HW.out]
      go_region_held3 (fun W => Below w1.heap.size w1 W ∧ W.cell? ⟨w.heap.size, 0, none⟩ = some (.int .i64 2) ∧ W.cell? ⟨w.heap.size, 1, none⟩ = some (.int .i64 o) ∧ W.cell? ⟨w.heap.size, 2, none⟩ = some (.int .i64 v) ∧ W.cell? ⟨w.heap.size, 3, none⟩ = some (.int .i64 r) ∧ W.cell? ⟨w.heap.size, 4, none⟩ = some (.int .i64 n))
        (first | exact gb_S HB ((Below.refl _ _).drew) | exact gb_next HB (by assumption) (by assumption) | exact gb_next HB (up_alloc _ _) (by assumption))
        (first
          | (go_at_call 23; refine (CN.out _).mono ?_; rintro e w' ⟨rfl, hb1⟩)
          | (go_at_call 24; refine (CO.out _).mono ?_; rintro e w' ⟨rfl, hb2⟩)
          | (go_at_call 25; refine (CV.out _).mono ?_; rintro e w' ⟨rfl, hb3⟩)
          | (go_at_call 26; refine (CR.out _).mono ?_; rintro e w' ⟨rfl, hb4⟩)
          | (go_at_call 22; refine (CF.out _ _ (by simp)).mono ?_; rintro e w' ⟨rfl, hb5⟩))
      go_wp2
      go_ret
      exact ⟨ret_int HC.out.symm, up_trans HU.out (And.left (by assumption))⟩
    · have HB := Blk.new w [.int .i64 3, .int .i64 o, .int .i64 v, .int .i64 r, .int .i64 n] 23
      have HU := Lib.hid (up_alloc w (.cells #[.int .i64 3, .int .i64 o, .int .i64 v, .int .i64 r, .int .i64 n] 23))
      generalize hw1 : w.alloc (.cells [.int .i64 3, .int .i64 o, .int .i64 v, .int .i64 r, .int .i64 n].toArray 23) = w1 at HB HU
      have HW := Lib.hid hw1
      clear hw1
      go_enter Tryd.func8, Tryd.ntmps8
      go_upto_region 8 with fail
      rw [HW.out]
      go_region_held3 (fun W => Below w1.heap.size w1 W ∧ W.cell? ⟨w.heap.size, 0, none⟩ = some (.int .i64 3) ∧ W.cell? ⟨w.heap.size, 1, none⟩ = some (.int .i64 o) ∧ W.cell? ⟨w.heap.size, 2, none⟩ = some (.int .i64 v) ∧ W.cell? ⟨w.heap.size, 3, none⟩ = some (.int .i64 r) ∧ W.cell? ⟨w.heap.size, 4, none⟩ = some (.int .i64 n))
        (first | exact gb_S HB ((Below.refl _ _).drew) | exact gb_next HB (by assumption) (by assumption) | exact gb_next HB (up_alloc _ _) (by assumption))
        (first
          | (go_at_call 23; refine (CN.out _).mono ?_; rintro e w' ⟨rfl, hb1⟩)
          | (go_at_call 24; refine (CO.out _).mono ?_; rintro e w' ⟨rfl, hb2⟩)
          | (go_at_call 25; refine (CV.out _).mono ?_; rintro e w' ⟨rfl, hb3⟩)
          | (go_at_call 26; refine (CR.out _).mono ?_; rintro e w' ⟨rfl, hb4⟩)
          | (go_at_call 22; refine (CF.out _ _ (by simp)).mono ?_; rintro e w' ⟨rfl, hb5⟩))
      go_wp2
      go_ret
      exact ⟨ret_int HC.out.symm, up_trans HU.out (And.left (by assumption))⟩
    · have HB := Blk.new w [.int .i64 4, .int .i64 o, .int .i64 v, .int .i64 r, .int .i64 n] 23
      have HU := Lib.hid (up_alloc w (.cells #[.int .i64 4, .int .i64 o, .int .i64 v, .int .i64 r, .int .i64 n] 23))
      generalize hw1 : w.alloc (.cells [.int .i64 4, .int .i64 o, .int .i64 v, .int .i64 r, .int .i64 n].toArray 23) = w1 at HB HU
      have HW := Lib.hid hw1
      clear hw1
      go_enter Tryd.func8, Tryd.ntmps8
      go_upto_region 8 with fail
      rw [HW.out]
      go_region_held3 (fun W => Below w1.heap.size w1 W ∧ W.cell? ⟨w.heap.size, 0, none⟩ = some (.int .i64 4) ∧ W.cell? ⟨w.heap.size, 1, none⟩ = some (.int .i64 o) ∧ W.cell? ⟨w.heap.size, 2, none⟩ = some (.int .i64 v) ∧ W.cell? ⟨w.heap.size, 3, none⟩ = some (.int .i64 r) ∧ W.cell? ⟨w.heap.size, 4, none⟩ = some (.int .i64 n))
        (first | exact gb_S HB ((Below.refl _ _).drew) | exact gb_next HB (by assumption) (by assumption) | exact gb_next HB (up_alloc _ _) (by assumption))
        (first
          | (go_at_call 23; refine (CN.out _).mono ?_; rintro e w' ⟨rfl, hb1⟩)
          | (go_at_call 24; refine (CO.out _).mono ?_; rintro e w' ⟨rfl, hb2⟩)
          | (go_at_call 25; refine (CV.out _).mono ?_; rintro e w' ⟨rfl, hb3⟩)
          | (go_at_call 26; refine (CR.out _).mono ?_; rintro e w' ⟨rfl, hb4⟩)
          | (go_at_call 22; refine (CF.out _ _ (by simp)).mono ?_; rintro e w' ⟨rfl, hb5⟩))
      go_wp2
      go_ret
      exact ⟨ret_int HC.out.symm, up_trans HU.out (And.left (by assumption))⟩
    · have HB := Blk.new w [.int .i64 5, .int .i64 o, .int .i64 v, .int .i64 r, .int .i64 n] 23
      have HU := Lib.hid (up_alloc w (.cells #[.int .i64 5, .int .i64 o, .int .i64 v, .int .i64 r, .int .i64 n] 23))
      generalize hw1 : w.alloc (.cells [.int .i64 5, .int .i64 o, .int .i64 v, .int .i64 r, .int .i64 n].toArray 23) = w1 at HB HU
      have HW := Lib.hid hw1
      clear hw1
      go_enter Tryd.func8, Tryd.ntmps8
      go_upto_region 8 with fail
      rw [HW.out]
      go_region_held3 (fun W => Below w1.heap.size w1 W ∧ W.cell? ⟨w.heap.size, 0, none⟩ = some (.int .i64 5) ∧ W.cell? ⟨w.heap.size, 1, none⟩ = some (.int .i64 o) ∧ W.cell? ⟨w.heap.size, 2, none⟩ = some (.int .i64 v) ∧ W.cell? ⟨w.heap.size, 3, none⟩ = some (.int .i64 r) ∧ W.cell? ⟨w.heap.size, 4, none⟩ = some (.int .i64 n))
        (first | exact gb_S HB ((Below.refl _ _).drew) | exact gb_next HB (by assumption) (by assumption) | exact gb_next HB (up_alloc _ _) (by assumption))
        (first
          | (go_at_call 23; refine (CN.out _).mono ?_; rintro e w' ⟨rfl, hb1⟩)
          | (go_at_call 24; refine (CO.out _).mono ?_; rintro e w' ⟨rfl, hb2⟩)
          | (go_at_call 25; refine (CV.out _).mono ?_; rintro e w' ⟨rfl, hb3⟩)
          | (go_at_call 26; refine (CR.out _).mono ?_; rintro e w' ⟨rfl, hb4⟩)
          | (go_at_call 22; refine (CF.out _ _ (by simp)).mono ?_; rintro e w' ⟨rfl, hb5⟩))
      go_wp2
      go_ret
      exact ⟨ret_int HC.out.symm, up_trans HU.out (And.left (by assumption))⟩
    · have HB := Blk.new w [.int .i64 6, .int .i64 o, .int .i64 v, .int .i64 r, .int .i64 n] 23
      have HU := Lib.hid (up_alloc w (.cells #[.int .i64 6, .int .i64 o, .int .i64 v, .int .i64 r, .int .i64 n] 23))
      generalize hw1 : w.alloc (.cells [.int .i64 6, .int .i64 o, .int .i64 v, .int .i64 r, .int .i64 n].toArray 23) = w1 at HB HU
      have HW := Lib.hid hw1
      clear hw1
      go_enter Tryd.func8, Tryd.ntmps8
      go_upto_region 8 with fail
      rw [HW.out]
      go_region_held3 (fun W => Below w1.heap.size w1 W ∧ W.cell? ⟨w.heap.size, 0, none⟩ = some (.int .i64 6) ∧ W.cell? ⟨w.heap.size, 1, none⟩ = some (.int .i64 o) ∧ W.cell? ⟨w.heap.size, 2, none⟩ = some (.int .i64 v) ∧ W.cell? ⟨w.heap.size, 3, none⟩ = some (.int .i64 r) ∧ W.cell? ⟨w.heap.size, 4, none⟩ = some (.int .i64 n))
        (first | exact gb_S HB ((Below.refl _ _).drew) | exact gb_next HB (by assumption) (by assumption) | exact gb_next HB (up_alloc _ _) (by assumption))
        (first
          | (go_at_call 23; refine (CN.out _).mono ?_; rintro e w' ⟨rfl, hb1⟩)
          | (go_at_call 24; refine (CO.out _).mono ?_; rintro e w' ⟨rfl, hb2⟩)
          | (go_at_call 25; refine (CV.out _).mono ?_; rintro e w' ⟨rfl, hb3⟩)
          | (go_at_call 26; refine (CR.out _).mono ?_; rintro e w' ⟨rfl, hb4⟩)
          | (go_at_call 22; refine (CF.out _ _ (by simp)).mono ?_; rintro e w' ⟨rfl, hb5⟩))
      go_wp2
      go_ret
      exact ⟨ret_int HC.out.symm, up_trans HU.out (And.left (by assumption))⟩
  · have HC := Lib.hid (chkE_no (k := k) (o := o) (v := v) (r := r) (n := n) (by
      cases h : kindB k
      · rfl
      · exact absurd ((kindB_iff k).1 h) hk))
    have t1 : (k == 1) = false := by simp; omega
    have t2 : (k == 2) = false := by simp; omega
    have t3 : (k == 3) = false := by simp; omega
    have t4 : (k == 4) = false := by simp; omega
    have t5 : (k == 5) = false := by simp; omega
    have t6 : (k == 6) = false := by simp; omega
    clear hk
    go_enter Tryd.func8, Tryd.ntmps8
    go_wp2
    go_ret
    exact ⟨ret_int HC.out.symm, up_alloc _ _⟩
end Go.Proofs.YtniijkdlphkpkaaDoor

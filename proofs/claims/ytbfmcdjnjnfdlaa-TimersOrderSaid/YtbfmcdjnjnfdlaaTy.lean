/- A list that nobody made: its calls, and the law. -/
import Derived.Test.YtbfmcdjnjnfdlaaTx
namespace Go.Proofs.Ytbfmcdjnjnfdlaa
open Go.RowKit

/-- p is nobody's list, in whatever grows out of w. -/
def NB (w : World) (p : Value) : Prop := ∀ W, Below w.heap.size w W → Calls Try.prog 20 #[p] W fun e w' => e = .returned (.bool true) ∧ W = w'
theorem NB.nil (w : World) : NB w (.pointer none) := fun W _ => c_nob_nil W
theorem NB.own {w : World} {b : Nat} (h : Blk w b [.pointer none] 58) : NB w (.pointer (some ⟨b, 0, none⟩)) := fun _ hb => c_nob_own ((h.up hb h.lt).cell 0 _ rfl)
theorem NB.below {w w' : World} {p : Value} (h : NB w p) (hb : Below w.heap.size w w') : NB w' p := fun W hW => h W (up_trans hb hW)

theorem c_nb_add {w : World} {p : Value} (h : NB w p) (a who : Int) : Calls Try.prog 11 #[p, .int .i64 a, .int .i64 who] w fun e w' => e = .returned (.tuple #[.int .i64 0, .int .i64 2]) ∧ w = w' := by
  have C := Lib.hid (h w (Below.refl _ _))
  clear h
  go_enter Try.func11, Try.ntmps11
  go_wp2_with fail
  refine Calls.mono C.out ?_
  rintro e w' ⟨rfl, rfl⟩
  go_wp2_with fail
  go_ret2
  exact ⟨rfl, rfl⟩
theorem c_nb_len {w : World} {p : Value} (h : NB w p) : Calls Try.prog 14 #[p] w fun e w' => e = .returned (.int .i64 0) ∧ w = w' := by
  have C := Lib.hid (h w (Below.refl _ _))
  clear h
  go_enter Try.func14, Try.ntmps14
  go_wp2_with fail
  refine Calls.mono C.out ?_
  rintro e w' ⟨rfl, rfl⟩
  go_wp2_with fail
  go_ret
  exact ⟨rfl, rfl⟩
theorem c_nb_all {w : World} {p : Value} (h : NB w p) : Calls Try.prog 17 #[p] w fun e w' => e = .returned (.slice none 0 0) ∧ w = w' := by
  have C := Lib.hid (h w (Below.refl _ _))
  clear h
  go_enter Try.func17, Try.ntmps17
  go_wp2_with fail
  refine Calls.mono C.out ?_
  rintro e w' ⟨rfl, rfl⟩
  go_wp2_with fail
  go_ret
  exact ⟨rfl, rfl⟩
theorem c_nb_drop {w : World} {p : Value} (h : NB w p) (no : Int) : Calls Try.prog 9 #[p, .int .i64 no] w fun e w' => e = .returned (.int .i64 2) ∧ Below w.heap.size w w' := by
  have hb := up_alloc w (.cells #[.int .i64 no] 3)
  have C := Lib.hid (h _ hb)
  have HB := Lib.hid hb
  clear h hb
  go_enter Try.func9, Try.ntmps9
  go_wp2_with fail
  refine Calls.mono C.out ?_
  rintro e w' ⟨rfl, rfl⟩
  go_wp2_with fail
  go_ret
  exact ⟨rfl, HB.out⟩
theorem c_nb_first {w : World} {p : Value} (h : NB w p) : Calls Try.prog 13 #[p] w fun e w' => e = .returned (.tuple #[.agg #[.int .i64 0, .int .i64 0, .int .i64 0], .bool false]) ∧ Below w.heap.size w w' := by
  have hb := up_alloc w (.cells #[.int .i64 0, .int .i64 0, .int .i64 0] 42)
  have hB := Blk.new w [.int .i64 0, .int .i64 0, .int .i64 0] 42
  generalize hw1 : w.alloc (.cells #[.int .i64 0, .int .i64 0, .int .i64 0] 42) = w1 at hb
  have hB1 : Blk w1 w.heap.size [.int .i64 0, .int .i64 0, .int .i64 0] 42 := by subst hw1; exact hB
  have C := Lib.hid (c_nb_len (h.below hb))
  have HW := Lib.hid hw1
  have HB := Lib.hid hb
  have r0 := hB1.cell 0 _ rfl
  have r1 := hB1.cell 1 _ rfl
  have r2 := hB1.cell 2 _ rfl
  have f0 := hB1.free 0
  have f1 := hB1.free 1
  have f2 := hB1.free 2
  clear h hb hw1 hB hB1
  go_enter Try.func13, Try.ntmps13
  go_wp2_with fail
  rw [HW.out]
  refine Calls.mono C.out ?_
  rintro e w' ⟨rfl, rfl⟩
  go_wp2_with fail
  refine bodyPost_ret (v := .tuple #[.agg #[.int .i64 0, .int .i64 0, .int .i64 0], .bool false]) (by simp [results, Try.results13, go_sem, r0, r1, r2]) rfl ?_
  exact ⟨rfl, ((HB.out.setCell (by simp) _).setCell (by simp) _).setCell (by simp) _⟩
def NoneLeft (w : World) (e : Ending) (w' : World) : Prop := ∃ A c, e = .returned (.slice A 0 c) ∧ Below w.heap.size w w'
theorem c_nb_due {w : World} {p : Value} (h : NB w p) (now : Int) : Calls Try.prog 18 #[p, .int .i64 now] w (NoneLeft w) := by
  have hb := up_alloc w (.cells #[.int .i64 now] 3)
  have hB := Blk.new w [.int .i64 now] 3
  generalize hw1 : w.alloc (.cells #[.int .i64 now] 3) = w1 at hb
  have hB1 : Blk w1 w.heap.size [.int .i64 now] 3 := by subst hw1; exact hB
  have C := Lib.hid (c_nb_all (h.below hb))
  have D := Lib.hid (c_delf (xs := []) (now := now) (World.ownsRow_nil w1 w1.heap.size 42 3) (by decide) hB1)
  have HW := Lib.hid hw1
  have HB := Lib.hid hb
  clear h hb hw1 hB hB1
  go_enter Try.func18, Try.ntmps18
  go_wp2_with fail
  rw [HW.out]
  refine Calls.mono C.out ?_
  rintro e w' ⟨rfl, rfl⟩
  go_wp2_with fail
  refine Calls.mono D.out ?_
  rintro e w2 ⟨v2, rfl, hr2, ho2⟩
  obtain ⟨A2, c2, e2, _⟩ := own_slice hr2
  rw [show (dueL now []).length = 0 from rfl] at e2
  subst e2
  have HO := Lib.hid (up_trans HB.out (ho2.toBelow (Nat.le_refl _) (fun k hk => by simp [Value.ownBlock] at hk)))
  clear hr2 ho2
  go_wp2_with fail
  go_ret
  exact ⟨A2, c2, rfl, HO.out⟩

set_option maxHeartbeats 4000000 in
theorem l_nobody (a who : Int) (w : World) : Calls Try.prog 5 #[.int .i64 a, .int .i64 who] w (Alive w) := by
  have hb1 := up_alloc w (.cells #[.pointer none] 58)
  have hB := Blk.new w [.pointer none] 58
  have hb2 := up_alloc (w.alloc (.cells #[.pointer none] 58)) (.cells #[.pointer none, .pointer (some ⟨w.heap.size, 0, none⟩)] 24)
  have hB2 := Blk.new (w.alloc (.cells #[.pointer none] 58)) [.pointer none, .pointer (some ⟨w.heap.size, 0, none⟩)] 24
  have hs : (w.alloc (.cells #[.pointer none] 58)).heap.size = w.heap.size + 1 := by simp
  rw [hs] at hB2
  generalize hw2 : (w.alloc (.cells #[.pointer none] 58)).alloc (.cells #[.pointer none, .pointer (some ⟨w.heap.size, 0, none⟩)] 24) = w2 at *
  have HB := Lib.hid (hB.up hb2 (by simp))
  have HB2 := Lib.hid hB2
  have HU := Lib.hid (up_trans hb1 hb2)
  have HW := Lib.hid hw2
  clear hb1 hb2 hB hB2 hs hw2
  go_enter Try.func5, Try.ntmps5
  go_wp2_with fail
  rw [HW.out]
  go_loopw [15] (fun i wr => ∃ k : Nat, k ≤ 2 ∧ i = .int .i64 k ∧ Below w2.heap.size w2 wr) (fun i _ => 2 - (intOf i).toNat)
  case atStart => exact ⟨0, by omega, rfl, Below.refl _ _⟩
  case round =>
    obtain ⟨k, hk, rfl, hb⟩ := hrel
    have HBB := Lib.hid hb
    have d0 := (HB2.out.up hb HB2.out.lt).cell 0 _ rfl
    have d1 := (HB2.out.up hb HB2.out.lt).cell 1 _ rfl
    have hN0 := NB.nil wr
    have hN1 := NB.own (HB.out.up hb HB.out.lt)
    clear hb
    rcases (show k = 0 ∨ k = 1 ∨ k = 2 by omega) with rfl | rfl | rfl
    · have HN := Lib.hid hN0
      clear hN0 hN1
      rw [show ((0 : Nat) : Int) = 0 from rfl]
      have C1 := Lib.hid (c_nb_add HN.out a who)
      go_wp2_with fail
      refine Calls.mono C1.out ?_
      rintro e w' ⟨rfl, rfl⟩
      have C2 := Lib.hid (c_nb_first HN.out)
      go_wp2_with fail
      refine Calls.mono C2.out ?_
      rintro e w3 ⟨rfl, hb3⟩
      have HN3 := Lib.hid (HN.out.below (up_trans hb3 (up_alloc w3 (.cells #[.int .i64 0, .int .i64 0, .int .i64 0] 42))))
      have HU3 := Lib.hid (up_trans HBB.out (up_trans hb3 (up_alloc w3 (.cells #[.int .i64 0, .int .i64 0, .int .i64 0] 42))))
      have C3 := Lib.hid (c_nb_drop HN3.out a)
      clear hb3
      go_wp2_with fail
      refine Calls.mono C3.out ?_
      rintro e w4 ⟨rfl, hb4⟩
      have x0 := ((box_tm w3 Tm.zero).up hb4 (by simp)).cell 0 _ rfl
      have x1 := ((box_tm w3 Tm.zero).up hb4 (by simp)).cell 1 _ rfl
      have x2 := ((box_tm w3 Tm.zero).up hb4 (by simp)).cell 2 _ rfl
      simp only [Tm.zero] at x0 x1 x2
      have HN4 := Lib.hid (HN3.out.below hb4)
      have HU4 := Lib.hid (up_trans HU3.out hb4)
      have C4 := Lib.hid (c_nb_all HN4.out)
      clear hb4
      go_wp2_with fail
      refine Calls.mono C4.out ?_
      rintro e w' ⟨rfl, rfl⟩
      have C5 := Lib.hid (c_nb_due HN4.out a)
      go_wp2_with fail
      refine Calls.mono C5.out ?_
      rintro e w5 ⟨A5, c5, rfl, hb5⟩
      have HN5 := Lib.hid (HN4.out.below hb5)
      have HU5 := Lib.hid (up_trans HU4.out hb5)
      have C6 := Lib.hid (c_nb_len HN5.out)
      clear hb5 x0 x1 x2
      go_wp2_with fail
      refine Calls.mono C6.out ?_
      rintro e w' ⟨rfl, rfl⟩
      go_wp2_with fail
      go_roundw
      case rel => exact ⟨1, by omega, by go_num, HU5.out⟩
      case measure => simp [intOf]
    · have HN := Lib.hid hN1
      clear hN0 hN1
      rw [show ((1 : Nat) : Int) = 1 from rfl]
      have C1 := Lib.hid (c_nb_add HN.out a who)
      go_wp2_with fail
      refine Calls.mono C1.out ?_
      rintro e w' ⟨rfl, rfl⟩
      have C2 := Lib.hid (c_nb_first HN.out)
      go_wp2_with fail
      refine Calls.mono C2.out ?_
      rintro e w3 ⟨rfl, hb3⟩
      have HN3 := Lib.hid (HN.out.below (up_trans hb3 (up_alloc w3 (.cells #[.int .i64 0, .int .i64 0, .int .i64 0] 42))))
      have HU3 := Lib.hid (up_trans HBB.out (up_trans hb3 (up_alloc w3 (.cells #[.int .i64 0, .int .i64 0, .int .i64 0] 42))))
      have C3 := Lib.hid (c_nb_drop HN3.out a)
      clear hb3
      go_wp2_with fail
      refine Calls.mono C3.out ?_
      rintro e w4 ⟨rfl, hb4⟩
      have x0 := ((box_tm w3 Tm.zero).up hb4 (by simp)).cell 0 _ rfl
      have x1 := ((box_tm w3 Tm.zero).up hb4 (by simp)).cell 1 _ rfl
      have x2 := ((box_tm w3 Tm.zero).up hb4 (by simp)).cell 2 _ rfl
      simp only [Tm.zero] at x0 x1 x2
      have HN4 := Lib.hid (HN3.out.below hb4)
      have HU4 := Lib.hid (up_trans HU3.out hb4)
      have C4 := Lib.hid (c_nb_all HN4.out)
      clear hb4
      go_wp2_with fail
      refine Calls.mono C4.out ?_
      rintro e w' ⟨rfl, rfl⟩
      have C5 := Lib.hid (c_nb_due HN4.out a)
      go_wp2_with fail
      refine Calls.mono C5.out ?_
      rintro e w5 ⟨A5, c5, rfl, hb5⟩
      have HN5 := Lib.hid (HN4.out.below hb5)
      have HU5 := Lib.hid (up_trans HU4.out hb5)
      have C6 := Lib.hid (c_nb_len HN5.out)
      clear hb5 x0 x1 x2
      go_wp2_with fail
      refine Calls.mono C6.out ?_
      rintro e w' ⟨rfl, rfl⟩
      go_wp2_with fail
      go_roundw
      case rel => exact ⟨2, by omega, by go_num, HU5.out⟩
      case measure => simp [intOf]
    · clear hN0 hN1 d0 d1
      rw [show ((2 : Nat) : Int) = 2 from rfl]
      have C := Lib.hid (c_alive wr)
      go_wp2_with fail
      refine Calls.mono C.out ?_
      rintro e w3 ⟨rfl, hb3⟩
      have HU3 := Lib.hid (up_trans HU.out (up_trans HBB.out hb3))
      clear hb3
      go_wp2_with fail
      go_ret
      exact ⟨rfl, HU3.out⟩
end Go.Proofs.Ytbfmcdjnjnfdlaa

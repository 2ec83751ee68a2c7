/- alive: a ring of one; a ring that nobody made: its calls, and the law. -/
import Derived.Test.YtaokojjjihinhaaGk
namespace Go.Proofs.Ytaokojjjihinhaa
open Go.RowKit

def Alive (w : World) (e : Ending) (w' : World) : Prop := e = .returned (.bool true) ∧ Below w.heap.size w w'
set_option maxHeartbeats 4000000 in
theorem c_alive (w : World) : Calls Try.prog 6 #[] w (Alive w) := by
  have C1 := Lib.hid (rv_new 1 w (by omega))
  rw [show ((1 : Nat) : Int) = 1 from rfl] at C1
  go_enter Try.func6, Try.ntmps6
  go_wp2_with fail
  refine Calls.mono C1.out ?_
  rintro e w1 ⟨rfl, h1⟩
  have C2 := Lib.hid (rv_push h1 5 (by decide))
  clear h1
  go_wp2_with fail
  refine Calls.mono C2.out ?_
  rintro e w2 ⟨v2, rfl, h2, _, _⟩
  have C3 := Lib.hid (rv_full h2 6 (by decide))
  clear h2
  go_wp2_with fail
  refine Calls.mono C3.out ?_
  rintro e w3 ⟨v3, rfl, h3, _, _⟩
  have H3 := Lib.hid h3
  have C4 := Lib.hid (rv_at h3 0)
  rw [show atL ([] ++ [5]) 0 = (5, 0) from by decide] at C4
  clear h3
  go_wp2_with fail
  refine Calls.mono C4.out ?_
  rintro e w4 ⟨rfl, hb4⟩
  have H4 := Lib.hid (H3.out.below hb4)
  have C5 := Lib.hid (rv_pop (x := 5) (L := []) H4.out)
  clear hb4
  go_wp2_with fail
  refine Calls.mono C5.out ?_
  rintro e w5 ⟨v5, rfl, h5, _, _⟩
  have C6 := Lib.hid (rv_none h5)
  clear h5
  go_wp2_with fail
  refine Calls.mono C6.out ?_
  rintro e w6 ⟨v6, rfl, h6, _, _⟩
  have H6 := Lib.hid h6
  have C7 := Lib.hid (rv_len h6)
  rw [show ((([] : List Int).length : Nat) : Int) = 0 from rfl] at C7
  clear h6
  go_wp2_with fail
  refine Calls.mono C7.out ?_
  rintro e w' ⟨rfl, rfl⟩
  have C8 := Lib.hid (rv_room H6.out)
  rw [show ((1 : Nat) : Int) = 1 from rfl] at C8
  go_wp2_with fail
  refine Calls.mono C8.out ?_
  rintro e w' ⟨rfl, rfl⟩
  have C9 := Lib.hid (rv_list H6.out)
  go_wp2_with fail
  refine Calls.mono C9.out ?_
  rintro e w9 ⟨A9, c9, rfl, _, _, _, hb9⟩
  have HU := Lib.hid (up_trans H6.out.up hb9)
  rw [show ([] : List Int).length = 0 from rfl]
  clear hb9
  go_wp2_with fail
  go_ret
  exact ⟨rfl, HU.out⟩

/-- p is nobody's ring, in whatever grows out of w. -/
def NB (w : World) (p : Value) : Prop := ∀ W, Below w.heap.size w W → Calls Try.prog 20 #[p] W fun e w' => e = .returned (.bool true) ∧ W = w'
theorem NB.nil (w : World) : NB w (.pointer none) := fun W _ => c_nob_nil W
theorem NB.own {w : World} {b : Nat} (h : Blk w b [.pointer none] 53) : NB w (.pointer (some ⟨b, 0, none⟩)) := fun _ hb => c_nob_own ((h.up hb h.lt).cell 0 _ rfl)
theorem c_nb_push {w : World} {p : Value} (h : NB w p) (x : Int) : Calls Try.prog 12 #[p, .int .i64 x] w fun e w' => e = .returned (.int .i64 2) ∧ w = w' := by
  have C := Lib.hid (h w (Below.refl _ _))
  clear h
  go_enter Try.func12, Try.ntmps12
  go_wp2_with fail
  refine Calls.mono C.out ?_
  rintro e w' ⟨rfl, rfl⟩
  go_wp2_with fail
  go_ret
  exact ⟨rfl, rfl⟩
theorem c_nb_pop {w : World} {p : Value} (h : NB w p) : Calls Try.prog 10 #[p] w fun e w' => e = .returned (.tuple #[.int .i64 0, .int .i64 2]) ∧ w = w' := by
  have C := Lib.hid (h w (Below.refl _ _))
  clear h
  go_enter Try.func10, Try.ntmps10
  go_wp2_with fail
  refine Calls.mono C.out ?_
  rintro e w' ⟨rfl, rfl⟩
  go_wp2_with fail
  go_ret2
  exact ⟨rfl, rfl⟩
theorem c_nb_at {w : World} {p : Value} (h : NB w p) (x : Int) : Calls Try.prog 14 #[p, .int .i64 x] w fun e w' => e = .returned (.tuple #[.int .i64 0, .int .i64 2]) ∧ w = w' := by
  have C := Lib.hid (h w (Below.refl _ _))
  clear h
  go_enter Try.func14, Try.ntmps14
  go_wp2_with fail
  refine Calls.mono C.out ?_
  rintro e w' ⟨rfl, rfl⟩
  go_wp2_with fail
  go_ret2
  exact ⟨rfl, rfl⟩
theorem c_nb_clear {w : World} {p : Value} (h : NB w p) : Calls Try.prog 9 #[p] w fun e w' => e = .returned (.tuple #[]) ∧ w = w' := by
  have C := Lib.hid (h w (Below.refl _ _))
  clear h
  go_enter Try.func9, Try.ntmps9
  go_wp2_with fail
  refine Calls.mono C.out ?_
  rintro e w' ⟨rfl, rfl⟩
  go_wp2_with fail
  exact bodyPost_ret (v := .tuple #[]) (by simp [results, Try.results9, go_sem]) rfl ⟨rfl, rfl⟩
theorem c_nb_len {w : World} {p : Value} (h : NB w p) : Calls Try.prog 18 #[p] w fun e w' => e = .returned (.int .i64 0) ∧ w = w' := by
  have C := Lib.hid (h w (Below.refl _ _))
  clear h
  go_enter Try.func18, Try.ntmps18
  go_wp2_with fail
  refine Calls.mono C.out ?_
  rintro e w' ⟨rfl, rfl⟩
  go_wp2_with fail
  go_ret
  exact ⟨rfl, rfl⟩
theorem c_nb_room {w : World} {p : Value} (h : NB w p) : Calls Try.prog 19 #[p] w fun e w' => e = .returned (.int .i64 0) ∧ w = w' := by
  have C := Lib.hid (h w (Below.refl _ _))
  clear h
  go_enter Try.func19, Try.ntmps19
  go_wp2_with fail
  refine Calls.mono C.out ?_
  rintro e w' ⟨rfl, rfl⟩
  go_wp2_with fail
  go_ret
  exact ⟨rfl, rfl⟩
theorem c_nb_list {w : World} {p : Value} (h : NB w p) : Calls Try.prog 17 #[p] w fun e w' => e = .returned (.slice none 0 0) ∧ w = w' := by
  have C := Lib.hid (h w (Below.refl _ _))
  clear h
  go_enter Try.func17, Try.ntmps17
  go_wp2_with fail
  refine Calls.mono C.out ?_
  rintro e w' ⟨rfl, rfl⟩
  go_wp2_with fail
  go_ret
  exact ⟨rfl, rfl⟩

set_option maxHeartbeats 4000000 in
theorem l_nobody (x : Int) (w : World) : Calls Try.prog 5 #[.int .i64 x] w (Alive w) := by
  have hb1 := up_alloc w (.cells #[.pointer none] 53)
  have hB := Blk.new w [.pointer none] 53
  have hb2 := up_alloc (w.alloc (.cells #[.pointer none] 53)) (.cells #[.pointer none, .pointer (some ⟨w.heap.size, 0, none⟩)] 24)
  have hB2 := Blk.new (w.alloc (.cells #[.pointer none] 53)) [.pointer none, .pointer (some ⟨w.heap.size, 0, none⟩)] 24
  have hs : (w.alloc (.cells #[.pointer none] 53)).heap.size = w.heap.size + 1 := by simp
  rw [hs] at hB2
  generalize hw2 : (w.alloc (.cells #[.pointer none] 53)).alloc (.cells #[.pointer none, .pointer (some ⟨w.heap.size, 0, none⟩)] 24) = w2 at *
  have HB := Lib.hid (hB.up hb2 (by simp))
  have HB2 := Lib.hid hB2
  have HU := Lib.hid (up_trans hb1 hb2)
  have HW := Lib.hid hw2
  clear hb1 hb2 hB hB2 hs hw2
  go_enter Try.func5, Try.ntmps5
  go_wp2_with fail
  rw [HW.out]
  go_loopw [13] (fun i wr => ∃ k : Nat, k ≤ 2 ∧ i = .int .i64 k ∧ Below w2.heap.size w2 wr) (fun i _ => 2 - (intOf i).toNat)
  case atStart => exact ⟨0, by omega, rfl, Below.refl _ _⟩
  case round =>
    obtain ⟨k, hk, rfl, hb⟩ := hrel
    have HBB := Lib.hid hb
    have d0 := (HB2.out.up hb HB2.out.lt).cell 0 _ rfl
    have d1 := (HB2.out.up hb HB2.out.lt).cell 1 _ rfl
    have hN0 := NB.nil wr
    have hN1 := NB.own (HB.out.up hb HB.out.lt)
    clear hb
    rcases (show k = 0 ∨ k = 1 ∨ k = 2 by omega) with rfl | rfl | rfl
    · have HN := Lib.hid hN0
      clear hN0 hN1
      rw [show ((0 : Nat) : Int) = 0 from rfl]
      have C1 := Lib.hid (c_nb_pop HN.out)
      have C2 := Lib.hid (c_nb_at HN.out x)
      have C3 := Lib.hid (c_nb_clear HN.out)
      have C4 := Lib.hid (c_nb_push HN.out x)
      have C5 := Lib.hid (c_nb_len HN.out)
      have C6 := Lib.hid (c_nb_room HN.out)
      have C7 := Lib.hid (c_nb_list HN.out)
      go_wp2_with fail
      refine Calls.mono C1.out ?_
      rintro e w' ⟨rfl, rfl⟩
      go_wp2_with fail
      refine Calls.mono C2.out ?_
      rintro e w' ⟨rfl, rfl⟩
      go_wp2_with fail
      refine Calls.mono C3.out ?_
      rintro e w' ⟨rfl, rfl⟩
      go_wp2_with fail
      refine Calls.mono C4.out ?_
      rintro e w' ⟨rfl, rfl⟩
      go_wp2_with fail
      refine Calls.mono C5.out ?_
      rintro e w' ⟨rfl, rfl⟩
      go_wp2_with fail
      refine Calls.mono C6.out ?_
      rintro e w' ⟨rfl, rfl⟩
      go_wp2_with fail
      refine Calls.mono C7.out ?_
      rintro e w' ⟨rfl, rfl⟩
      go_wp2_with fail
      go_roundw
      case rel => exact ⟨1, by omega, by go_num, HBB.out⟩
      case measure => simp [intOf]
    · have HN := Lib.hid hN1
      clear hN0 hN1
      rw [show ((1 : Nat) : Int) = 1 from rfl]
      have C1 := Lib.hid (c_nb_pop HN.out)
      have C2 := Lib.hid (c_nb_at HN.out x)
      have C3 := Lib.hid (c_nb_clear HN.out)
      have C4 := Lib.hid (c_nb_push HN.out x)
      have C5 := Lib.hid (c_nb_len HN.out)
      have C6 := Lib.hid (c_nb_room HN.out)
      have C7 := Lib.hid (c_nb_list HN.out)
      go_wp2_with fail
      refine Calls.mono C1.out ?_
      rintro e w' ⟨rfl, rfl⟩
      go_wp2_with fail
      refine Calls.mono C2.out ?_
      rintro e w' ⟨rfl, rfl⟩
      go_wp2_with fail
      refine Calls.mono C3.out ?_
      rintro e w' ⟨rfl, rfl⟩
      go_wp2_with fail
      refine Calls.mono C4.out ?_
      rintro e w' ⟨rfl, rfl⟩
      go_wp2_with fail
      refine Calls.mono C5.out ?_
      rintro e w' ⟨rfl, rfl⟩
      go_wp2_with fail
      refine Calls.mono C6.out ?_
      rintro e w' ⟨rfl, rfl⟩
      go_wp2_with fail
      refine Calls.mono C7.out ?_
      rintro e w' ⟨rfl, rfl⟩
      go_wp2_with fail
      go_roundw
      case rel => exact ⟨2, by omega, by go_num, HBB.out⟩
      case measure => simp [intOf]
    · clear hN0 hN1 d0 d1
      rw [show ((2 : Nat) : Int) = 2 from rfl]
      have C := Lib.hid (c_alive wr)
      go_wp2_with fail
      refine Calls.mono C.out ?_
      rintro e w3 ⟨rfl, hb3⟩
      have HU3 := Lib.hid (up_trans HU.out (up_trans HBB.out hb3))
      clear hb3
      go_wp2_with fail
      go_ret
      exact ⟨rfl, HU3.out⟩
end Go.Proofs.Ytaokojjjihinhaa

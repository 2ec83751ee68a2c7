/- same; alive. -/
import Derived.Test.YtoimcbdajmghkaaLg
import Derived.Test.YtoimcbdajmghkaaLh
import Derived.Test.YtoimcbdajmghkaaLi
import Derived.Test.YtoimcbdajmghkaaIs
namespace Go.Proofs.Ytoimcbdajmghkaa
open Go.RowKit

set_option maxHeartbeats 1000000 in
theorem c_lsame {w : World} {pl pl' : Nat → Prop} {A B : Option Addr} {n m c d : Nat} {L : List Int} (h : LnW w pl A n c L) (k : LnW w pl' B m d L) (hn : n ≤ 1000) (sh : Bool) :
    Calls Try.prog 16 #[.agg #[.bool sh, .slice A n c], .agg #[.bool sh, .slice B m d]] w fun e w' => e = .returned (.bool true) ∧ Below w.heap.size w w' := by
  obtain rfl : m = n := k.len.symm.trans h.len
  have hU : Below w.heap.size w ((w.alloc (.cells #[.bool sh, .slice A m c] 26)).alloc (.cells #[.bool sh, .slice B m d] 24)) := two_up w _ _
  have CS : Hid (∀ W, Below w.heap.size w W → Calls Try.prog 23 #[.slice A m c, .slice B m d] W (DrewPost (.bool true) W)) := Lib.hid fun W hW => by
    have e := h.len
    subst e
    exact c_same (zs := L) (h.below hW).rd (k.below hW).rd (by omega)
  have HU := Lib.hid hU
  have hee : (sh == sh) = true := by simp
  clear h k hU
  go_enter Try.func16, Try.ntmps16
  go_wp2_with fail
  refine (CS.out _ HU.out).mono ?_
  rintro e w3 ⟨rfl, hd⟩
  have HU3 := Lib.hid (up_trans HU.out hd.below)
  clear hd
  go_wp2_with fail
  go_ret
  exact ⟨rfl, HU3.out⟩

theorem ln_lit1 : lnJoinL true [] 3 = [3] ∧ lnJoinE true [] 3 = 0 := by decide
theorem ln_lit2 : lnJoinL true [3] 5 = [3, 5] ∧ lnJoinE true [3] 5 = 0 := by decide
theorem ln_lit3 : lnJoinE true [3, 5] 3 = 7 := by decide
theorem ln_lit4 : lnLeaveL true [3, 5] 3 = [5] ∧ lnThere true [3, 5] 3 = true := by decide
theorem ln_lit5 : lnHead true [5] = 5 ∧ lnSome true [5] = true := by decide
theorem ln_lit6 : lnAhead true [3, 5] 5 = 1 ∧ lnThere true [3, 5] 5 = true := by decide
theorem ln_lit7 : lnJoinE false [1] 2 = 15 := by decide
theorem ln_lit8 : lnFine true [3, 5] = true ∧ lnFine false [1, 2] = false := by decide
set_option maxHeartbeats 2000000 in
theorem c_alive (w : World) : Calls Try.prog 5 #[] w fun e w' => e = .returned (.bool true) ∧ Below w.heap.size w w' := by
  have C1 := Lib.hid (fun W => c_lnjoin (LnW.none W (fun _ => True)) (by omega) (fun _ _ => trivial) true 3)
  rw [ln_lit1.1, ln_lit1.2] at C1
  go_enter Try.func5, Try.ntmps5
  go_wp2_with fail
  refine (C1.out _).mono ?_
  rintro e w1 ⟨A1, n1, c1, rfl, hL1, hb1⟩
  have hn1 : n1 = 1 := hL1.len.symm
  subst hn1
  have HL1 := Lib.hid (hL1.below (up_alloc w1 (.cells #[.bool true, .slice A1 1 c1] 26)))
  have HU1 := Lib.hid (up_trans hb1 (up_alloc w1 (.cells #[.bool true, .slice A1 1 c1] 26)))
  have C2 := Lib.hid (c_lnjoin HL1.out (by omega) (fun _ _ => trivial) true 5)
  rw [ln_lit2.1, ln_lit2.2] at C2
  clear hL1 hb1
  go_wp2_with fail
  refine C2.out.mono ?_
  rintro e w2 ⟨A2, n2, c2, rfl, hL2, hb2⟩
  have hn2 : n2 = 2 := hL2.len.symm
  subst hn2
  have HB2 := Lib.hid (Blk.new w2 [.bool true, .slice A2 2 c2] 26)
  have HU2 := Lib.hid (up_trans (up_trans HU1.out hb2) (up_alloc w2 (.cells #[.bool true, .slice A2 2 c2] 26)))
  have HL2 := Lib.hid (hL2.below (up_alloc w2 (.cells #[.bool true, .slice A2 2 c2] 26)))
  have C3 := Lib.hid (c_lnjoin HL2.out (by omega) (fun _ _ => trivial) true 3)
  rw [ln_lit3] at C3
  clear hL2 hb2
  go_wp2_with fail
  refine C3.out.mono ?_
  rintro e w3 ⟨A3, n3, c3, rfl, -, hb3⟩
  have HB3 := Lib.hid ((HB2.out.up hb3 HB2.out.lt).alloc (.cells #[.bool true, .slice A3 n3 c3] 26))
  have HU3' := Lib.hid (up_trans hb3 (up_alloc w3 (.cells #[.bool true, .slice A3 n3 c3] 26)))
  have HU3 := Lib.hid (up_trans HU2.out HU3'.out)
  have HL3 := Lib.hid (HL2.out.below HU3'.out)
  have C4 := Lib.hid (c_lnleave HL3.out (by omega) (fun _ _ => trivial) true 3)
  rw [ln_lit4.1, ln_lit4.2] at C4
  have b0 := HB3.out.cell 0 _ rfl
  have b1 := HB3.out.cell 1 _ rfl
  clear hb3
  go_wp2_with fail
  refine C4.out.mono ?_
  rintro e w4 ⟨A4, n4, c4, rfl, hL4, hb4⟩
  have hn4 : n4 = 1 := hL4.len.symm
  subst hn4
  clear b0 b1
  have HU4' := Lib.hid (up_trans hb4 (up_alloc w4 (.cells #[.bool true, .slice A4 1 c4] 26)))
  have HU4 := Lib.hid (up_trans HU3.out HU4'.out)
  have HB4 := Lib.hid ((HB3.out.up hb4 HB3.out.lt).alloc (.cells #[.bool true, .slice A4 1 c4] 26))
  have HL4 := Lib.hid (HL3.out.below HU4'.out)
  have C5 := Lib.hid (c_lnhead (hL4.below (up_alloc w4 (.cells #[.bool true, .slice A4 1 c4] 26))) (by omega) true)
  rw [ln_lit5.1, ln_lit5.2] at C5
  clear hL4 hb4
  go_wp2_with fail
  refine C5.out.mono ?_
  rintro e w5 ⟨rfl, hb5⟩
  have HU5 := Lib.hid (up_trans HU4.out hb5)
  have HB5 := Lib.hid (HB4.out.up hb5 HB4.out.lt)
  have HL5 := Lib.hid (HL4.out.below hb5)
  have C6 := Lib.hid (c_lnahead HL5.out (by omega) true 5)
  rw [ln_lit6.1, ln_lit6.2] at C6
  have b0 := HB5.out.cell 0 _ rfl
  have b1 := HB5.out.cell 1 _ rfl
  clear hb5
  go_wp2_with fail
  refine C6.out.mono ?_
  rintro e w6 ⟨rfl, hb6⟩
  clear b0 b1
  have HU6' := Lib.hid (up_trans hb6 (up_alloc w6 (.cells #[.int .i64 1] 3)))
  have HU6 := Lib.hid (up_trans HU5.out HU6'.out)
  have HB6 := Lib.hid ((HB5.out.up hb6 HB5.out.lt).alloc (.cells #[.int .i64 1] 3))
  have HL6 := Lib.hid (HL5.out.below HU6'.out)
  have hone : LnW (w6.alloc (.cells #[.int .i64 1] 3)) (fun _ => True) (some ⟨w6.heap.size, 0, none⟩) 1 1 [1] := ⟨RD.one rfl, rfl, Nat.le_refl _, by unfold maxLen; omega⟩
  have C7 := Lib.hid (c_lnjoin hone (by omega) (fun _ _ => trivial) false 2)
  rw [ln_lit7] at C7
  clear hb6 hone
  go_wp2_with fail
  refine C7.out.mono ?_
  rintro e w7 ⟨A7, n7, c7, rfl, -, hb7⟩
  have HU7' := Lib.hid (up_trans hb7 (up_alloc w7 (.cells #[.bool false, .slice A7 n7 c7] 26)))
  have HU7 := Lib.hid (up_trans HU6.out HU7'.out)
  have HB7 := Lib.hid ((HB6.out.up hb7 HB6.out.lt).alloc (.cells #[.bool false, .slice A7 n7 c7] 26))
  have HL7 := Lib.hid (HL6.out.below HU7'.out)
  have C8 := Lib.hid (c_lnfine HL7.out (by omega) true)
  rw [ln_lit8.1] at C8
  have b0 := HB7.out.cell 0 _ rfl
  have b1 := HB7.out.cell 1 _ rfl
  clear hb7
  go_wp2_with fail
  refine C8.out.mono ?_
  rintro e w8 ⟨rfl, hb8⟩
  clear b0 b1
  have HU8 := Lib.hid (up_trans (up_trans HU7.out hb8) (up_alloc w8 (.cells #[.int .i64 1, .int .i64 2] 3)))
  have htwo : LnW (w8.alloc (.cells #[.int .i64 1, .int .i64 2] 3)) (fun _ => True) (some ⟨w8.heap.size, 0, none⟩) 2 2 [1, 2] := ⟨RD.of_blk (xs := [.int .i64 1, .int .i64 2]) (Blk.new w8 [.int .i64 1, .int .i64 2] _) rfl trivial, rfl, Nat.le_refl _, by unfold maxLen; omega⟩
  have C9 := Lib.hid (c_lnfine htwo (by omega) false)
  rw [ln_lit8.2] at C9
  clear hb8 htwo
  go_wp2_with fail
  refine C9.out.mono ?_
  rintro e w9 ⟨rfl, hb9⟩
  have HU9 := Lib.hid (up_trans HU8.out hb9)
  clear hb9
  go_wp2_with fail
  go_ret
  exact ⟨rfl, HU9.out⟩
end Go.Proofs.Ytoimcbdajmghkaa

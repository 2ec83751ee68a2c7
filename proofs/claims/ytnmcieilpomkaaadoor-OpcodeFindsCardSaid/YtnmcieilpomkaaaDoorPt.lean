/- Stage 9: alive, and the laws. -/
import Derived.Test.YtnmcieilpomkaaaDoorPs
import Derived.Test.YtnmcieilpomkaaaDoorPa
namespace Go.Proofs.YtnmcieilpomkaaaDoor
open Go.RowKit

set_option maxHeartbeats 1000000 in
theorem c_alive (w : World) (ht : OpT w) : Calls Tryd.prog 10 #[] w fun e w' => e = .returned (.bool true) ∧ Below w.heap.size w w' := by
  have e1 := fd_nm 41 (by omega)
  have e2 := fd_no [] (by decide)
  have F1 := c_find [97, 108, 116] w ht
  rw [show ([97, 108, 116] : List UInt8) = nmN 41 from rfl, e1.1, e1.2] at F1
  have F2 := c_find [] w ht
  rw [e2.1, e2.2] at F2
  have HT := Lib.hid ht
  have N1 := fun W (h : OpT W) => c_name 41 W h
  have N2 := fun W (h : OpT W) => c_form 30 W h
  have N3 := fun W (h : OpT W) => c_class 1 W h
  have N4 := fun W (h : OpT W) => c_class 48 W h
  simp only [show nmO 41 = [97, 108, 116] by decide, show fmO 30 = [114, 112, 114] by decide, show clO 1 = 5 by decide, show clO 48 = -1 by decide] at N1 N2 N3 N4
  clear e1 e2 ht
  go_enter Tryd.func10, Tryd.ntmps10
  go_wp2_with fail
  refine F1.mono ?_
  rintro e w' ⟨rfl, rfl⟩
  go_wp2_with fail
  refine F2.mono ?_
  rintro e w' ⟨rfl, rfl⟩
  go_wp2_with fail
  refine (N1 _ HT.out).mono ?_
  rintro e w1 ⟨rfl, hb1⟩
  have HT1 := Lib.hid (HT.out.up hb1)
  have HB1 := Lib.hid hb1
  clear hb1
  go_wp2_with fail
  refine (N2 _ HT1.out).mono ?_
  rintro e w2 ⟨rfl, hb2⟩
  have HT2 := Lib.hid (HT1.out.up hb2)
  have HB2 := Lib.hid (up_trans HB1.out hb2)
  clear hb2
  go_wp2_with fail
  refine (N3 _ HT2.out).mono ?_
  rintro e w3 ⟨rfl, hb3⟩
  have HT3 := Lib.hid (HT2.out.up hb3)
  have HB3 := Lib.hid (up_trans HB2.out hb3)
  clear hb3
  go_wp2_with fail
  refine (N4 _ HT3.out).mono ?_
  rintro e w4 ⟨rfl, hb4⟩
  have HB4 := Lib.hid (up_trans HB3.out hb4)
  clear hb4
  go_wp2_with fail
  go_ret
  exact ⟨rfl, HB4.out⟩

set_option maxHeartbeats 1000000 in
theorem l_finds (s : ByteArray) (w : World) (ht : OpT w) : Calls Tryd.prog 4 #[.string s] w fun e w' => e = .returned (.bool true) ∧ Below w.heap.size w w' := by
  obtain ⟨⟨l⟩⟩ := s
  by_cases h : 100 < l.length
  · have h1 : ¬ (l.length : Int) ≤ 100 := by omega
    go_enter Tryd.func4, Tryd.ntmps4
    go_wp2_with (go_at_call 10; refine (c_alive _ ht).mono ?_; rintro e w9 ⟨rfl, hb9⟩)
    go_ret
    exact ⟨rfl, hb9⟩
  · have h1 : (l.length : Int) ≤ 100 := by omega
    have F1 := c_find l w ht
    have F2 := c_rfind l w
    generalize fdV l = v at F1 F2
    generalize fdB l = b at F1 F2
    go_enter Tryd.func4, Tryd.ntmps4
    go_wp2_with fail
    refine F1.mono ?_
    rintro e w' ⟨rfl, rfl⟩
    go_wp2_with fail
    refine F2.mono ?_
    rintro e w1 ⟨rfl, hb1⟩
    have HT := Lib.hid (ht.up hb1)
    go_wp2_with (go_at_call 10; refine (c_alive _ HT.out).mono ?_; rintro e w9 ⟨rfl, hb9⟩)
    go_ret
    exact ⟨rfl, up_trans hb1 hb9⟩

set_option maxHeartbeats 2000000 in
theorem back_walk (a b : Int) (x y : Nat) (p q f : List UInt8) (w : World) (ht : OpT w) (hx : a.tmod 48 = (x : Int)) (hy : b.tmod 48 = (y : Int)) (x9 : x < 48) (y9 : y < 48)
    (N1 : ∀ W, OpT W → Calls Tryd.prog 7 #[.int .i64 x] W fun e w' => e = .returned (.string ⟨p.toArray⟩) ∧ Below W.heap.size W w')
    (N2 : ∀ W, OpT W → Calls Tryd.prog 7 #[.int .i64 y] W fun e w' => e = .returned (.string ⟨q.toArray⟩) ∧ Below W.heap.size W w')
    (N3 : ∀ W, OpT W → Calls Tryd.prog 8 #[.int .i64 x] W fun e w' => e = .returned (.string ⟨f.toArray⟩) ∧ Below W.heap.size W w')
    (FD : ∀ W, OpT W → Calls Tryd.prog 11 #[.string ⟨p.toArray⟩] W fun e w' => e = .returned (.tuple #[.int .i64 x, .bool true]) ∧ W = w')
    (g1 : f.length = 3) (g2 : (p == []) = false) (d : Bool) (g3 : (p == q) = d) (g4 : ((x : Int) == (y : Int)) = d) :
    Calls Tryd.prog 5 #[.int .u8 a, .int .u8 b] w fun e w' => e = .returned (.bool true) ∧ Below w.heap.size w w' := by
  have g7 : (p != []) = true := by simp [bne, g2]
  have HT0 := Lib.hid ht
  have HB0 := Lib.hid (Below.refl w.heap.size w)
  have m1 : wrap64 (x : Int) = (x : Int) := by unfold wrap64; omega
  have m2 : wrap64 (y : Int) = (y : Int) := by unfold wrap64; omega
  clear ht
  go_enter Tryd.func5, Tryd.ntmps5
  go_wp2_with fail
  refine (N1 _ HT0.out).mono ?_
  rintro e w1 ⟨rfl, hb1⟩
  have HT1 := Lib.hid (HT0.out.up hb1)
  have HB1 := Lib.hid (up_trans HB0.out hb1)
  clear hb1
  go_wp2_with fail
  refine (FD _ HT1.out).mono ?_
  rintro e w' ⟨rfl, rfl⟩
  go_wp2_with fail
  refine (N3 _ HT1.out).mono ?_
  rintro e w2 ⟨rfl, hb2⟩
  have HT2 := Lib.hid (HT1.out.up hb2)
  have HB2 := Lib.hid (up_trans HB1.out hb2)
  clear hb2
  go_wp2_with fail
  refine (N1 _ HT2.out).mono ?_
  rintro e w3 ⟨rfl, hb3⟩
  have HT3 := Lib.hid (HT2.out.up hb3)
  have HB3 := Lib.hid (up_trans HB2.out hb3)
  clear hb3
  go_wp2_with fail
  refine (N2 _ HT3.out).mono ?_
  rintro e w4 ⟨rfl, hb4⟩
  have HT4 := Lib.hid (HT3.out.up hb4)
  have HB4 := Lib.hid (up_trans HB3.out hb4)
  clear hb4
  go_wp2_with fail
  refine (N1 _ HT4.out).mono ?_
  rintro e w5 ⟨rfl, hb5⟩
  have HT5 := Lib.hid (HT4.out.up hb5)
  have HB5 := Lib.hid (up_trans HB4.out hb5)
  clear hb5
  go_wp2_with (go_at_call 10; refine (c_alive _ HT5.out).mono ?_; rintro e w9 ⟨rfl, hb9⟩)
  go_ret
  exact ⟨rfl, up_trans HB5.out hb9⟩

theorem l_back (a b : Int) (ha : 0 ≤ a ∧ a ≤ 255) (hb : 0 ≤ b ∧ b ≤ 255) (w : World) (ht : OpT w) :
    Calls Tryd.prog 5 #[.int .u8 a, .int .u8 b] w fun e w' => e = .returned (.bool true) ∧ Below w.heap.size w w' := by
  obtain ⟨x, hx⟩ : ∃ x : Nat, a % 48 = (x : Int) := ⟨(a % 48).toNat, by omega⟩
  obtain ⟨y, hy⟩ : ∃ y : Nat, b % 48 = (y : Int) := ⟨(b % 48).toNat, by omega⟩
  have x9 : x < 48 := by omega
  have y9 : y < 48 := by omega
  rw [← Int.tmod_eq_emod_of_nonneg ha.1] at hx
  rw [← Int.tmod_eq_emod_of_nonneg hb.1] at hy
  have N : ∀ k : Nat, ∀ W, OpT W → Calls Tryd.prog 7 #[.int .i64 k] W fun e w' => e = .returned (.string ⟨(nmN k).toArray⟩) ∧ Below W.heap.size W w' := fun k W h => by
    have := c_name k W h
    unfold nmO at this
    rw [rowO_nat] at this
    exact this
  have F : ∀ W, OpT W → Calls Tryd.prog 8 #[.int .i64 x] W fun e w' => e = .returned (.string ⟨(fmN x).toArray⟩) ∧ Below W.heap.size W w' := fun W h => by
    have := c_form x W h
    unfold fmO at this
    rw [rowO_nat] at this
    exact this
  have FD : ∀ W, OpT W → Calls Tryd.prog 11 #[.string ⟨(nmN x).toArray⟩] W fun e w' => e = .returned (.tuple #[.int .i64 x, .bool true]) ∧ W = w' := fun W h => by
    have := c_find (nmN x) W h
    rw [(fd_nm x x9).1, (fd_nm x x9).2] at this
    exact this
  refine back_walk a b x y (nmN x) (nmN y) (fmN x) w ht hx hy x9 y9 (N x) (N y) F FD (fm_three x x9) ?_ (nmN x == nmN y) rfl ?_
  · exact beq_eq_false_iff_ne.2 (nm_some x x9)
  · by_cases h : x = y
    · subst h
      simp
    · rw [beq_eq_false_iff_ne.2 (fun e => h (nm_same x y x9 y9 e))]
      exact beq_eq_false_iff_ne.2 (by omega)
end Go.Proofs.YtnmcieilpomkaaaDoor

/- The contract of the document's Do, Not and Neg. -/
import Derived.Test.YtfemfimhnkdemaaDoorWc
namespace Go.Proofs.YtfemfimhnkdemaaDoor
open Go.RowKit

theorem tdiv_parts (a b : Int) (ha0 : -2147483648 ≤ a) (ha1 : a ≤ 2147483647) (hb0 : -2147483648 ≤ b) (hb1 : b ≤ 2147483647) (hb : ¬ b = 0) :
    (-2147483648 ≤ a.tdiv b ∧ a.tdiv b ≤ 2147483648) ∧ (-2147483648 ≤ a.tmod b ∧ a.tmod b ≤ 2147483647) ∧ b * a.tdiv b + a.tmod b = a := by
  have hq : (a.tdiv b).natAbs = a.natAbs / b.natAbs := Int.natAbs_tdiv a b
  have hr : (a.tmod b).natAbs = a.natAbs % b.natAbs := Int.natAbs_tmod a b
  have hq2 := Nat.div_le_self a.natAbs b.natAbs
  have hr2 := Nat.mod_lt a.natAbs (show b.natAbs > 0 by omega)
  exact ⟨by omega, by omega, Int.mul_tdiv_add_tmod a b⟩
theorem rem_way (a b : Int) (ha0 : -2147483648 ≤ a) (ha1 : a ≤ 2147483647) (hb0 : -2147483648 ≤ b) (hb1 : b ≤ 2147483647) (hb : ¬ b = 0) :
    (a.tdiv b = wrap64 (a.tdiv b) ∧ wrap64 (b * a.tdiv b) = b * a.tdiv b) ∧ wrap64 (a - b * a.tdiv b) = a - b * a.tdiv b ∧ a - b * a.tdiv b = wrapW (a.tmod b) := by
  obtain ⟨⟨q0, q1⟩, ⟨r0, r1⟩, hm⟩ := tdiv_parts a b ha0 ha1 hb0 hb1 hb
  generalize b * a.tdiv b = m at *
  generalize a.tdiv b = q at *
  generalize a.tmod b = r at *
  unfold wrap64 wrapW
  omega
theorem raw9 (a b : Int) : rawV 9 a b = a * 2 ^ (b % 32).toNat := rfl
theorem raw10 (a b : Int) : rawV 10 a b = a / 2 ^ (b % 32).toNat := rfl
theorem raw11 (a b : Int) : rawV 11 a b = if a < b then 1 else 0 := rfl
theorem raw12 (a b : Int) : rawV 12 a b = if a = b then 1 else 0 := rfl

/-- The document's answer for two words. -/
def VPost (op a b : Int) (w : World) (e : Ending) (w' : World) : Prop := ∃ r, e = .returned (.tuple #[.int .i64 r, .int .i64 0]) ∧ r = wrapW (rawV op a b) ∧ w = w'

set_option maxHeartbeats 1000000 in
theorem c_vd1 (a b : Int) (fa : fineW a = true) (fb : fineW b = true) (w : World) : Calls Tryd.prog 8 #[.int .i64 1, .int .i64 a, .int .i64 b] w (VPost 1 a b w) := by
  obtain ⟨a0, a1⟩ := (fineW_iff a).1 fa
  obtain ⟨b0, b1⟩ := (fineW_iff b).1 fb
  go_enter Tryd.func8, Tryd.ntmps8
  go_wp2_with (first | (go_at_call 17; refine (c_vfine _ _).mono ?_; rintro e w' ⟨rfl, rfl⟩) | (go_at_call 19; refine (c_vwrap _ _).mono ?_; rintro e w' ⟨rfl, rfl⟩))
  go_ret2
  refine ⟨_, rfl, ?_, rfl⟩
  exact (by first | rfl | exact wrapW_64 _ | (refine (wrapW_64 _).trans ?_; rfl))

set_option maxHeartbeats 1000000 in
theorem c_vd2 (a b : Int) (fa : fineW a = true) (fb : fineW b = true) (w : World) : Calls Tryd.prog 8 #[.int .i64 2, .int .i64 a, .int .i64 b] w (VPost 2 a b w) := by
  obtain ⟨a0, a1⟩ := (fineW_iff a).1 fa
  obtain ⟨b0, b1⟩ := (fineW_iff b).1 fb
  go_enter Tryd.func8, Tryd.ntmps8
  go_wp2_with (first | (go_at_call 17; refine (c_vfine _ _).mono ?_; rintro e w' ⟨rfl, rfl⟩) | (go_at_call 19; refine (c_vwrap _ _).mono ?_; rintro e w' ⟨rfl, rfl⟩))
  go_ret2
  refine ⟨_, rfl, ?_, rfl⟩
  exact (by first | rfl | exact wrapW_64 _ | (refine (wrapW_64 _).trans ?_; rfl))

set_option maxHeartbeats 1000000 in
theorem c_vd3 (a b : Int) (fa : fineW a = true) (fb : fineW b = true) (w : World) : Calls Tryd.prog 8 #[.int .i64 3, .int .i64 a, .int .i64 b] w (VPost 3 a b w) := by
  obtain ⟨a0, a1⟩ := (fineW_iff a).1 fa
  obtain ⟨b0, b1⟩ := (fineW_iff b).1 fb
  go_enter Tryd.func8, Tryd.ntmps8
  go_wp2_with (first | (go_at_call 17; refine (c_vfine _ _).mono ?_; rintro e w' ⟨rfl, rfl⟩) | (go_at_call 19; refine (c_vwrap _ _).mono ?_; rintro e w' ⟨rfl, rfl⟩))
  go_ret2
  refine ⟨_, rfl, ?_, rfl⟩
  exact (by first | rfl | exact wrapW_64 _ | (refine (wrapW_64 _).trans ?_; rfl))

set_option maxHeartbeats 1000000 in
theorem c_vd4 (a b : Int) (hb : ¬ b = 0) (fa : fineW a = true) (fb : fineW b = true) (w : World) : Calls Tryd.prog 8 #[.int .i64 4, .int .i64 a, .int .i64 b] w (VPost 4 a b w) := by
  obtain ⟨a0, a1⟩ := (fineW_iff a).1 fa
  obtain ⟨b0, b1⟩ := (fineW_iff b).1 fb
  have hb2 : (b == 0) = false := beq_eq_false_iff_ne.2 hb
  go_enter Tryd.func8, Tryd.ntmps8
  go_wp2_with (first | (go_at_call 17; refine (c_vfine _ _).mono ?_; rintro e w' ⟨rfl, rfl⟩) | (go_at_call 19; refine (c_vwrap _ _).mono ?_; rintro e w' ⟨rfl, rfl⟩))
  go_ret2
  refine ⟨_, rfl, ?_, rfl⟩
  exact (by first | rfl | exact wrapW_64 _ | (refine (wrapW_64 _).trans ?_; rfl))

set_option maxHeartbeats 1000000 in
theorem c_vd5 (a b : Int) (hb : ¬ b = 0) (fa : fineW a = true) (fb : fineW b = true) (w : World) : Calls Tryd.prog 8 #[.int .i64 5, .int .i64 a, .int .i64 b] w (VPost 5 a b w) := by
  obtain ⟨a0, a1⟩ := (fineW_iff a).1 fa
  obtain ⟨b0, b1⟩ := (fineW_iff b).1 fb
  have hb2 : (b == 0) = false := beq_eq_false_iff_ne.2 hb
  obtain ⟨⟨q0, q1⟩, q2, q3⟩ := rem_way a b (by omega) (by omega) (by omega) (by omega) hb
  have Q0 := Lib.hid q0
  have Q1 := Lib.hid q1
  have Q2 := Lib.hid q2
  have Q3 := Lib.hid q3
  clear q0 q1 q2 q3
  go_enter Tryd.func8, Tryd.ntmps8
  go_wp2_with (first | (go_at_call 17; refine (c_vfine _ _).mono ?_; rintro e w' ⟨rfl, rfl⟩))
  go_ret2
  refine ⟨_, rfl, ?_, rfl⟩
  exact (by first | exact Q3.out | (rw [← Q0.out, Q1.out, Q2.out]; exact Q3.out) | (rw [Q1.out, Q2.out]; exact Q3.out) | (rw [Q2.out]; exact Q3.out))

set_option maxHeartbeats 1000000 in
theorem c_vd6 (a b : Int) (fa : fineW a = true) (fb : fineW b = true) (w : World) : Calls Tryd.prog 8 #[.int .i64 6, .int .i64 a, .int .i64 b] w (VPost 6 a b w) := by
  obtain ⟨a0, a1⟩ := (fineW_iff a).1 fa
  obtain ⟨b0, b1⟩ := (fineW_iff b).1 fb
  go_enter Tryd.func8, Tryd.ntmps8
  go_wp2_with (first | (go_at_call 17; refine (c_vfine _ _).mono ?_; rintro e w' ⟨rfl, rfl⟩) | (go_at_call 26; refine (c_vbits _ _ _ (by omega) (by omega) (by omega) (by omega) (by omega) _).mono ?_; rintro e w' ⟨rfl, rfl⟩))
  go_ret2
  refine ⟨_, rfl, ?_, rfl⟩
  exact ((w_and a b).symm)

set_option maxHeartbeats 1000000 in
theorem c_vd7 (a b : Int) (fa : fineW a = true) (fb : fineW b = true) (w : World) : Calls Tryd.prog 8 #[.int .i64 7, .int .i64 a, .int .i64 b] w (VPost 7 a b w) := by
  obtain ⟨a0, a1⟩ := (fineW_iff a).1 fa
  obtain ⟨b0, b1⟩ := (fineW_iff b).1 fb
  go_enter Tryd.func8, Tryd.ntmps8
  go_wp2_with (first | (go_at_call 17; refine (c_vfine _ _).mono ?_; rintro e w' ⟨rfl, rfl⟩) | (go_at_call 26; refine (c_vbits _ _ _ (by omega) (by omega) (by omega) (by omega) (by omega) _).mono ?_; rintro e w' ⟨rfl, rfl⟩))
  go_ret2
  refine ⟨_, rfl, ?_, rfl⟩
  exact ((w_or a b).symm)

set_option maxHeartbeats 1000000 in
theorem c_vd8 (a b : Int) (fa : fineW a = true) (fb : fineW b = true) (w : World) : Calls Tryd.prog 8 #[.int .i64 8, .int .i64 a, .int .i64 b] w (VPost 8 a b w) := by
  obtain ⟨a0, a1⟩ := (fineW_iff a).1 fa
  obtain ⟨b0, b1⟩ := (fineW_iff b).1 fb
  go_enter Tryd.func8, Tryd.ntmps8
  go_wp2_with (first | (go_at_call 17; refine (c_vfine _ _).mono ?_; rintro e w' ⟨rfl, rfl⟩) | (go_at_call 26; refine (c_vbits _ _ _ (by omega) (by omega) (by omega) (by omega) (by omega) _).mono ?_; rintro e w' ⟨rfl, rfl⟩))
  go_ret2
  refine ⟨_, rfl, ?_, rfl⟩
  exact ((w_xor a b).symm)

set_option maxHeartbeats 1000000 in
theorem c_vd9 (a b : Int) (fa : fineW a = true) (fb : fineW b = true) (w : World) : Calls Tryd.prog 8 #[.int .i64 9, .int .i64 a, .int .i64 b] w (VPost 9 a b w) := by
  obtain ⟨a0, a1⟩ := (fineW_iff a).1 fa
  obtain ⟨b0, b1⟩ := (fineW_iff b).1 fb
  have C0 := fun w => c_vmoved a (by omega) (by omega) (b % 32).toNat (by omega) false w
  rw [show (((b % 32).toNat : Nat) : Int) = b % 32 by omega, ← up31 b] at C0
  have C := Lib.hid C0
  clear C0
  go_enter Tryd.func8, Tryd.ntmps8
  go_wp2_with (first | (go_at_call 17; refine (c_vfine _ _).mono ?_; rintro e w' ⟨rfl, rfl⟩) | (go_at_call 24; refine (c_vup _ (by omega) (by omega) _).mono ?_; rintro e w' ⟨rfl, rfl⟩) | (go_at_call 23; refine (C.out _).mono ?_; rintro e w' ⟨rfl, rfl⟩))
  go_ret2
  refine ⟨_, rfl, ?_, rfl⟩
  exact (by rw [moveM_up _ a (by omega) (by omega), up31, raw9])

set_option maxHeartbeats 1000000 in
theorem c_vd10 (a b : Int) (fa : fineW a = true) (fb : fineW b = true) (w : World) : Calls Tryd.prog 8 #[.int .i64 10, .int .i64 a, .int .i64 b] w (VPost 10 a b w) := by
  obtain ⟨a0, a1⟩ := (fineW_iff a).1 fa
  obtain ⟨b0, b1⟩ := (fineW_iff b).1 fb
  have C0 := fun w => c_vmoved a (by omega) (by omega) (b % 32).toNat (by omega) true w
  rw [show (((b % 32).toNat : Nat) : Int) = b % 32 by omega, ← up31 b] at C0
  have C := Lib.hid C0
  clear C0
  have hmv := moveM_fine true (b % 32).toNat a (by omega) (by omega)
  rw [moveM_down] at hmv
  have HM := Lib.hid hmv
  clear hmv
  go_enter Tryd.func8, Tryd.ntmps8
  go_wp2_with (first | (go_at_call 17; refine (c_vfine _ _).mono ?_; rintro e w' ⟨rfl, rfl⟩) | (go_at_call 24; refine (c_vup _ (by omega) (by omega) _).mono ?_; rintro e w' ⟨rfl, rfl⟩) | (go_at_call 23; refine (C.out _).mono ?_; rintro e w' ⟨rfl, rfl⟩))
  go_ret2
  refine ⟨_, rfl, ?_, rfl⟩
  exact (by rw [moveM_down, up31, raw10, wrapW_id _ HM.out.1 HM.out.2])

set_option maxHeartbeats 1000000 in
theorem c_vd11 (a b : Int) (fa : fineW a = true) (fb : fineW b = true) (w : World) : Calls Tryd.prog 8 #[.int .i64 11, .int .i64 a, .int .i64 b] w (VPost 11 a b w) := by
  obtain ⟨a0, a1⟩ := (fineW_iff a).1 fa
  obtain ⟨b0, b1⟩ := (fineW_iff b).1 fb
  go_enter Tryd.func8, Tryd.ntmps8
  go_wp2_with (first | (go_at_call 17; refine (c_vfine _ _).mono ?_; rintro e w' ⟨rfl, rfl⟩) | (go_at_call 25; refine (c_vtruth _ _).mono ?_; rintro e w' ⟨rfl, rfl⟩))
  all_goals
    go_ret2
    refine ⟨_, rfl, ?_, rfl⟩
    rw [raw11]
    split <;> first | rfl | (rename_i h; exact absurd rfl h) | (exfalso; omega)

set_option maxHeartbeats 1000000 in
theorem c_vd12 (a b : Int) (fa : fineW a = true) (fb : fineW b = true) (w : World) : Calls Tryd.prog 8 #[.int .i64 12, .int .i64 a, .int .i64 b] w (VPost 12 a b w) := by
  obtain ⟨a0, a1⟩ := (fineW_iff a).1 fa
  obtain ⟨b0, b1⟩ := (fineW_iff b).1 fb
  go_enter Tryd.func8, Tryd.ntmps8
  go_wp2_with (first | (go_at_call 17; refine (c_vfine _ _).mono ?_; rintro e w' ⟨rfl, rfl⟩) | (go_at_call 25; refine (c_vtruth _ _).mono ?_; rintro e w' ⟨rfl, rfl⟩))
  all_goals
    go_ret2
    refine ⟨_, rfl, ?_, rfl⟩
    rw [raw12]
    split <;> first | rfl | (rename_i h; exact absurd rfl h) | (exfalso; omega)

theorem c_vdoOn (op a b : Int) (h1 : 1 ≤ op) (h2 : op ≤ 12) (hb : ¬ (b = 0 ∧ (op = 4 ∨ op = 5))) (fa : fineW a = true) (fb : fineW b = true) (w : World) :
    Calls Tryd.prog 8 #[.int .i64 op, .int .i64 a, .int .i64 b] w (VPost op a b w) := by
  have : op = 1 ∨ op = 2 ∨ op = 3 ∨ op = 4 ∨ op = 5 ∨ op = 6 ∨ op = 7 ∨ op = 8 ∨ op = 9 ∨ op = 10 ∨ op = 11 ∨ op = 12 := by omega
  rcases this with rfl | rfl | rfl | rfl | rfl | rfl | rfl | rfl | rfl | rfl | rfl | rfl
  · exact c_vd1 a b fa fb w
  · exact c_vd2 a b fa fb w
  · exact c_vd3 a b fa fb w
  · exact c_vd4 a b (fun e => hb ⟨e, by omega⟩) fa fb w
  · exact c_vd5 a b (fun e => hb ⟨e, by omega⟩) fa fb w
  · exact c_vd6 a b fa fb w
  · exact c_vd7 a b fa fb w
  · exact c_vd8 a b fa fb w
  · exact c_vd9 a b fa fb w
  · exact c_vd10 a b fa fb w
  · exact c_vd11 a b fa fb w
  · exact c_vd12 a b fa fb w

set_option maxHeartbeats 1000000 in
theorem c_vdo (op a b : Int) (w : World) :
    Calls Tryd.prog 8 #[.int .i64 op, .int .i64 a, .int .i64 b] w fun e w' => e = .returned (.tuple #[.int .i64 (doV op a b), .int .i64 (doE op a b)]) ∧ w = w' := by
  by_cases ho : 1 ≤ op ∧ op ≤ 12
  · by_cases hf : fineW a = true ∧ fineW b = true
    · obtain ⟨fa, fb⟩ := hf
      by_cases hz : b = 0 ∧ (op = 4 ∨ op = 5)
      · rw [(doV_zero op a b ho ⟨fa, fb⟩ hz).1, (doV_zero op a b ho ⟨fa, fb⟩ hz).2]
        obtain ⟨rfl, rfl | rfl⟩ := hz
        all_goals
          clear ho
          go_enter Tryd.func8, Tryd.ntmps8
          go_wp2_with (go_at_call 17; refine (c_vfine _ _).mono ?_; rintro e w' ⟨rfl, rfl⟩)
          go_ret2
          exact ⟨rfl, rfl⟩
      · rw [(doV_on op a b ho ⟨fa, fb⟩ hz).1, (doV_on op a b ho ⟨fa, fb⟩ hz).2]
        refine (c_vdoOn op a b ho.1 ho.2 hz fa fb w).mono ?_
        rintro e w' ⟨r, rfl, rfl, rfl⟩
        exact ⟨rfl, rfl⟩
    · rw [(doV_range op a b ho hf).1, (doV_range op a b ho hf).2]
      obtain ⟨h1, h2⟩ := ho
      have hq : fineW a = false ∨ (fineW a = true ∧ fineW b = false) := by
        cases e : fineW a
        · exact .inl rfl
        · cases e' : fineW b
          · exact .inr ⟨rfl, rfl⟩
          · exact absurd ⟨e, e'⟩ hf
      clear hf
      rcases hq with q0 | ⟨q0, q1⟩
      all_goals
        go_enter Tryd.func8, Tryd.ntmps8
        go_wp2_with (go_at_call 17; refine (c_vfine _ _).mono ?_; rintro e w' ⟨rfl, rfl⟩)
        go_ret2
        exact ⟨rfl, rfl⟩
  · rw [(doV_arg op a b ho).1, (doV_arg op a b ho).2]
    have hq : op < 1 ∨ (1 ≤ op ∧ 12 < op) := by omega
    clear ho
    rcases hq with q0 | ⟨q0, q1⟩
    all_goals
      go_enter Tryd.func8, Tryd.ntmps8
      go_wp2
      go_ret2
      exact ⟨rfl, rfl⟩

set_option maxHeartbeats 400000 in
theorem c_vnot (a : Int) (w : World) :
    Calls Tryd.prog 11 #[.int .i64 a] w fun e w' => e = .returned (.tuple #[.int .i64 (notV a), .int .i64 (oneE a)]) ∧ w = w' := by
  cases hf : fineW a
  · rw [notV_no a hf, oneE_no a hf]
    go_enter Tryd.func11, Tryd.ntmps11
    go_wp2_with (go_at_call 17; refine (c_vfine _ _).mono ?_; rintro e w' ⟨rfl, rfl⟩)
    go_ret2
    exact ⟨rfl, rfl⟩
  · rw [notV_of a hf, oneE_of a hf]
    obtain ⟨h0, h1⟩ := (fineW_iff a).1 hf
    go_enter Tryd.func11, Tryd.ntmps11
    go_wp2_with (go_at_call 17; refine (c_vfine _ _).mono ?_; rintro e w' ⟨rfl, rfl⟩)
    go_ret2
    exact ⟨rfl, rfl⟩

set_option maxHeartbeats 400000 in
theorem c_vneg (a : Int) (w : World) :
    Calls Tryd.prog 13 #[.int .i64 a] w fun e w' => e = .returned (.tuple #[.int .i64 (negV a), .int .i64 (oneE a)]) ∧ w = w' := by
  cases hf : fineW a
  · rw [negV_no a hf, oneE_no a hf]
    go_enter Tryd.func13, Tryd.ntmps13
    go_wp2_with (go_at_call 17; refine (c_vfine _ _).mono ?_; rintro e w' ⟨rfl, rfl⟩)
    go_ret2
    exact ⟨rfl, rfl⟩
  · rw [negV_of a hf, oneE_of a hf]
    obtain ⟨h0, h1⟩ := (fineW_iff a).1 hf
    go_enter Tryd.func13, Tryd.ntmps13
    go_wp2_with (first | (go_at_call 17; refine (c_vfine _ _).mono ?_; rintro e w' ⟨rfl, rfl⟩) | (go_at_call 19; refine (c_vwrap _ _).mono ?_; rintro e w' ⟨rfl, rfl⟩))
    go_ret2
    exact ⟨ret_int2 (by first | rfl | (unfold wrapW; omega)) rfl, rfl⟩
end Go.Proofs.YtfemfimhnkdemaaDoor

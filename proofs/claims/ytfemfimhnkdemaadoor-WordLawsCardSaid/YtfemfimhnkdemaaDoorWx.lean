/- What the laws of package word ask of numbers, and alive. -/
import Derived.Test.YtfemfimhnkdemaaDoorWq
namespace Go.Proofs.YtfemfimhnkdemaaDoor
open Go.RowKit

theorem do_at (op a b : Int) (h : 1 ≤ op ∧ op ≤ 12) (fa : fineW a = true) (fb : fineW b = true) (hz : ¬ (b = 0 ∧ (op = 4 ∨ op = 5))) : doV op a b = wrapW (rawV op a b) ∧ doE op a b = 0 := doV_on op a b h ⟨fa, fb⟩ hz
theorem wrapW_ok (n : Int) : fineW (wrapW n) = true := fineW_of _ (wrapW_fine n).1 (wrapW_fine n).2

/-- What the law asks of two words. -/
structure LawW (a b : Int) : Prop where
  add : doE 1 a b = 0
  add' : doV 1 b a = doV 1 a b ∧ doE 1 b a = 0
  sub : doV 2 (doV 1 a b) b = a ∧ doE 2 (doV 1 a b) b = 0
  mul : doE 3 a b = 0
  mul' : doV 3 b a = doV 3 a b ∧ doE 3 b a = 0
  quo : b ≠ 0 → doE 4 a b = 0 ∧ doE 5 a b = 0 ∧ doE 3 (doV 4 a b) b = 0 ∧ doV 1 (doV 3 (doV 4 a b) b) (doV 5 a b) = a ∧ doE 1 (doV 3 (doV 4 a b) b) (doV 5 a b) = 0
theorem lawW (a b : Int) (fa : fineW a = true) (fb : fineW b = true) : LawW a b := by
  have o1 : (1 : Int) ≤ 1 ∧ (1 : Int) ≤ 12 := by decide
  have o2 : (1 : Int) ≤ 2 ∧ (2 : Int) ≤ 12 := by decide
  have o3 : (1 : Int) ≤ 3 ∧ (3 : Int) ≤ 12 := by decide
  have o4 : (1 : Int) ≤ 4 ∧ (4 : Int) ≤ 12 := by decide
  have o5 : (1 : Int) ≤ 5 ∧ (5 : Int) ≤ 12 := by decide
  have a1 := do_at 1 a b o1 fa fb (by omega)
  have a2 := do_at 1 b a o1 fb fa (by omega)
  have a3 := do_at 2 (wrapW (rawV 1 a b)) b o2 (wrapW_ok _) fb (by omega)
  have m1 := do_at 3 a b o3 fa fb (by omega)
  have m2 := do_at 3 b a o3 fb fa (by omega)
  have r1 : ∀ x y, rawV 1 x y = x + y := fun _ _ => rfl
  have r2 : ∀ x y, rawV 2 x y = x - y := fun _ _ => rfl
  have r3 : ∀ x y, rawV 3 x y = x * y := fun _ _ => rfl
  have r4 : ∀ x y, rawV 4 x y = x.tdiv y := fun _ _ => rfl
  have r5 : ∀ x y, rawV 5 x y = x.tmod y := fun _ _ => rfl
  obtain ⟨f0, f1⟩ := (fineW_iff a).1 fa
  refine ⟨a1.2, ⟨by rw [a1.1, a2.1, r1, r1, Int.add_comm], a2.2⟩, ⟨?_, by rw [a1.1]; exact a3.2⟩, m1.2, ⟨by rw [m1.1, m2.1, r3, r3, Int.mul_comm], m2.2⟩, fun hb => ?_⟩
  · rw [a1.1, a3.1, r2, r1]
    obtain ⟨k, hk⟩ := wrapW_off (a + b)
    rw [hk, show a + b + 4294967296 * k - b = a + 4294967296 * k by omega, wrapW_add, wrapW_id a f0 f1]
  · have q1 := do_at 4 a b o4 fa fb (by omega)
    have q2 := do_at 5 a b o5 fa fb (by omega)
    have q3 := do_at 3 (wrapW (rawV 4 a b)) b o3 (wrapW_ok _) fb (by omega)
    have q4 := do_at 1 (wrapW (rawV 3 (wrapW (rawV 4 a b)) b)) (wrapW (rawV 5 a b)) o1 (wrapW_ok _) (wrapW_ok _) (by omega)
    refine ⟨q1.2, q2.2, by rw [q1.1]; exact q3.2, ?_, by rw [q1.1, q3.1, q2.1]; exact q4.2⟩
    rw [q1.1, q3.1, q2.1, q4.1, r1, r3, r4, r5]
    obtain ⟨k, hk⟩ := wrapW_off (a.tdiv b)
    obtain ⟨i, hi⟩ := wrapW_off (a.tmod b)
    obtain ⟨j, hj⟩ := wrapW_off (wrapW (a.tdiv b) * b)
    rw [hj, hk, hi, Int.add_mul, Int.mul_assoc, Int.mul_comm (a.tdiv b) b]
    have hm := Int.mul_tdiv_add_tmod a b
    rw [show b * a.tdiv b + 4294967296 * (k * b) + 4294967296 * j + (a.tmod b + 4294967296 * i) = a + 4294967296 * (k * b + j + i) by omega, wrapW_add, wrapW_id a f0 f1]

theorem parse_back (a : Int) (fa : fineW a = true) : parseWV (textW a) = a ∧ parseWE (textW a) = 0 := by
  rw [textW_of a fa]
  have key : readB (Lib.itoa a) = true ∧ readV (Lib.itoa a) = a := by
    by_cases hn : a < 0
    · rw [itoa_neg a hn]
      obtain ⟨m, hm⟩ : ∃ m, m = (-a).toNat := ⟨_, rfl⟩
      rw [← hm]
      have hp := pre_minus (Lib.decDigits m)
      have h48 : (Lib.decDigits m == [48]) = false := by
        rw [beq_eq_false_iff_ne]
        intro e
        have := dg_head m (by omega)
        rw [e] at this
        exact this rfl
      unfold readB readV
      rw [hp.1, hp.2, dg_plain, h48, if_pos rfl, dg_num]
      exact ⟨rfl, by omega⟩
    · rw [itoa_pos a (by omega)]
      obtain ⟨m, hm⟩ : ∃ m, m = a.toNat := ⟨_, rfl⟩
      rw [← hm]
      have hd := dg_all m
      have hnum := dg_num m
      have hpl := dg_plain m
      cases hl : Lib.decDigits m with
      | nil => exact absurd hl (dg_ne m)
      | cons c r =>
        rw [hl] at hd hnum hpl
        rw [List.all_cons, Bool.and_eq_true] at hd
        have hc := (isDig_iff c).1 hd.1
        have h45 : c ≠ 45 := by
          intro e
          rw [e] at hc
          have : (45 : UInt8).toNat = 45 := rfl
          omega
        have hp := pre_other c r h45
        unfold readB readV
        rw [hp.1, hp.2, hpl, hnum]
        exact ⟨rfl, by simp only [Bool.false_eq_true, if_false]; omega⟩
  have := parseW_on _ key.1 (by rw [key.2]; exact fa)
  rw [key.2] at this
  exact this
theorem text_size (a : Int) (fa : fineW a = true) : (ByteArray.mk (textW a).toArray).size ≤ 1000000 := by
  show (textW a).toArray.size ≤ 1000000
  rw [List.size_toArray, textW_of a fa]
  obtain ⟨f0, f1⟩ := (fineW_iff a).1 fa
  by_cases hn : a < 0
  · rw [itoa_neg a hn]
    have := dg_len10 (-a).toNat (by omega)
    rw [List.length_cons]
    omega
  · rw [itoa_pos a (by omega)]
    have := dg_len10 a.toNat (by omega)
    omega

/- alive -/
theorem al_add (w : World) : Calls Tryd.prog 7 #[.int .i64 1, .int .i64 2147483647, .int .i64 1] w fun e w' => e = .returned (.tuple #[.int .i64 (-2147483648), .int .i64 0]) ∧ w = w' := by
  have h := c_wdo 1 2147483647 1 w
  rw [show doV 1 2147483647 1 = -2147483648 by decide, show doE 1 2147483647 1 = 0 by decide] at h
  exact h
theorem al_div (w : World) : Calls Tryd.prog 7 #[.int .i64 4, .int .i64 (-7), .int .i64 2] w fun e w' => e = .returned (.tuple #[.int .i64 (-3), .int .i64 0]) ∧ w = w' := by
  have h := c_wdo 4 (-7) 2 w
  rw [show doV 4 (-7) 2 = -3 by decide, show doE 4 (-7) 2 = 0 by decide] at h
  exact h
theorem al_shr (w : World) : Calls Tryd.prog 7 #[.int .i64 10, .int .i64 (-8), .int .i64 1] w fun e w' => e = .returned (.tuple #[.int .i64 (-4), .int .i64 0]) ∧ w = w' := by
  have h := c_wdo 10 (-8) 1 w
  rw [show doV 10 (-8) 1 = -4 by decide, show doE 10 (-8) 1 = 0 by decide] at h
  exact h
theorem al_rem (w : World) : Calls Tryd.prog 7 #[.int .i64 5, .int .i64 1, .int .i64 0] w fun e w' => e = .returned (.tuple #[.int .i64 0, .int .i64 16]) ∧ w = w' := by
  have h := c_wdo 5 1 0 w
  rw [show doV 5 1 0 = 0 by decide, show doE 5 1 0 = 16 by decide] at h
  exact h
theorem al_text (w : World) (ht : EnvW w) : Calls Tryd.prog 14 #[.int .i64 (-12)] w fun e w' => e = .returned (.tuple #[.string ⟨#[45, 49, 50]⟩, .int .i64 0]) ∧ Below w.heap.size w w' := by
  have h := c_wtext (-12) w ht
  have e : textW (-12) = [45, 49, 50] := by
    rw [textW_of (-12) (by decide), itoa_neg (-12) (by decide), show (-(-12 : Int)).toNat = 12 by decide, Lib.decDigits, dif_neg (by decide), show 12 / 10 = 1 by decide, Lib.decDigits, dif_pos (by decide)]
    rfl
  rw [e, show oneE (-12) = 0 by decide] at h
  exact h
theorem al_parse (w : World) (ht : EnvW w) : Calls Tryd.prog 20 #[.string ⟨#[45, 49, 50]⟩] w fun e w' => e = .returned (.tuple #[.int .i64 (-12), .int .i64 0]) ∧ Below w.heap.size w w' := by
  have h := c_wparse ⟨#[45, 49, 50]⟩ (by decide) w ht
  rw [show parseWV (ByteArray.mk #[45, 49, 50]).data.toList = -12 by decide, show parseWE (ByteArray.mk #[45, 49, 50]).data.toList = 0 by decide] at h
  exact h
set_option maxHeartbeats 2000000 in
theorem c_alive (w : World) (ht : EnvW w) : Calls Tryd.prog 9 #[] w fun e w' => e = .returned (.bool true) ∧ Below w.heap.size w w' := by
  have hf : fineW (-2147483648) = true := by decide
  go_enter Tryd.func9, Tryd.ntmps9
  go_wp2_with fail
  refine (al_add _).mono ?_
  rintro e w' ⟨rfl, rfl⟩
  go_wp2_with fail
  refine (al_div _).mono ?_
  rintro e w' ⟨rfl, rfl⟩
  go_wp2_with fail
  refine (al_shr _).mono ?_
  rintro e w' ⟨rfl, rfl⟩
  go_wp2_with fail
  refine (al_rem _).mono ?_
  rintro e w' ⟨rfl, rfl⟩
  go_wp2_with fail
  refine (al_text _ ht).mono ?_
  rintro e w1 ⟨rfl, hb1⟩
  go_wp2_with fail
  refine (al_parse _ (ht.up hb1)).mono ?_
  rintro e w2 ⟨rfl, hb2⟩
  go_wp2_with (go_at_call 16; refine (c_wfine _ _).mono ?_; rintro e w' ⟨rfl, rfl⟩)
  go_ret
  exact ⟨rfl, up_trans hb1 hb2⟩
end Go.Proofs.YtfemfimhnkdemaaDoor

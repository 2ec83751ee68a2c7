/- The contracts of package word's functions on numbers: each gives the plain function's value, and leaves memory as it was. -/
import Derived.Test.YtfemfimhnkdemaaDoorRows
import Derived.Test.YtfemfimhnkdemaaDoorK
import Derived.Test.YtfemfimhnkdemaaDoorWm
import Derived.WalkKit
import Derived.WalkSpells
import Derived.WalkLawsBesides
import Derived.BigQuiet
import Derived.Deep.QuietTactic
import Derived.Lib.Hide
import Derived.IntWalk
namespace Go.Proofs.YtfemfimhnkdemaaDoor
open Go.RowKit

set_option maxHeartbeats 400000 in
theorem c_wfine (a : Int) (w : World) :
    Calls Tryd.prog 16 #[.int .i64 a] w fun e w' => e = .returned (.bool (fineW a)) ∧ w = w' := by
  cases hf : fineW a
  · have H := Lib.hid (fineW_not a hf)
    clear hf
    go_enter Tryd.func16, Tryd.ntmps16
    go_wp2
    all_goals
      go_ret
      refine ⟨ret_bool ?_, rfl⟩
      have := H.out
      first
        | rfl
        | (rw [decide_eq_false_iff_not]; omega)
  · have hb := (fineW_iff a).1 hf
    obtain ⟨h0, h1⟩ := hb
    clear hf
    go_enter Tryd.func16, Tryd.ntmps16
    go_wp2
    go_ret
    exact ⟨ret_bool (by first | rfl | (rw [decide_eq_true_iff]; omega)), rfl⟩

set_option maxHeartbeats 400000 in
theorem c_wwrap (n : Int) (w : World) :
    Calls Tryd.prog 18 #[.int .i64 n] w fun e w' => e = .returned (.int .i64 (wrapW n)) ∧ w = w' := by
  have h0 : -2147483648 ≤ wrap32 n ∧ wrap32 n ≤ 2147483647 := by unfold wrap32; omega
  have h1 : wrap32 n = wrapW n := by unfold wrap32 wrapW; omega
  obtain ⟨h2, h3⟩ := h0
  go_enter Tryd.func18, Tryd.ntmps18
  go_wp2
  go_ret
  refine ⟨ret_int ?_, rfl⟩
  first | exact h1 | rw [← h1]

set_option maxHeartbeats 400000 in
theorem c_wone (b : Bool) (w : World) :
    Calls Tryd.prog 33 #[.bool b] w fun e w' => e = .returned (.int .i64 (if b = true then 1 else 0)) ∧ w = w' := by
  cases b
  all_goals
    go_enter Tryd.func33, Tryd.ntmps33
    go_wp2
    go_ret
    exact ⟨rfl, rfl⟩

/-- What reckon gives back is, when it is wrapped, what the plain function says. -/
def RawPost (op a b : Int) (w : World) (e : Ending) (w' : World) : Prop := ∃ r, e = .returned (.int .i64 r) ∧ wrapW r = wrapW (rawV op a b) ∧ w = w'

set_option maxHeartbeats 1000000 in
theorem c_rk1 (a b : Int) (w : World) : Calls Tryd.prog 22 #[.int .i64 1, .int .i64 a, .int .i64 b] w (RawPost 1 a b w) := by
  go_enter Tryd.func22, Tryd.ntmps22
  go_wp2
  go_ret
  refine ⟨_, rfl, ?_, rfl⟩
  exact (by first | rfl | exact wrapW_64 _ | (refine (wrapW_64 _).trans ?_; rfl))

set_option maxHeartbeats 1000000 in
theorem c_rk2 (a b : Int) (w : World) : Calls Tryd.prog 22 #[.int .i64 2, .int .i64 a, .int .i64 b] w (RawPost 2 a b w) := by
  go_enter Tryd.func22, Tryd.ntmps22
  go_wp2
  go_ret
  refine ⟨_, rfl, ?_, rfl⟩
  exact (by first | rfl | exact wrapW_64 _ | (refine (wrapW_64 _).trans ?_; rfl))

set_option maxHeartbeats 1000000 in
theorem c_rk3 (a b : Int) (w : World) : Calls Tryd.prog 22 #[.int .i64 3, .int .i64 a, .int .i64 b] w (RawPost 3 a b w) := by
  go_enter Tryd.func22, Tryd.ntmps22
  go_wp2
  go_ret
  refine ⟨_, rfl, ?_, rfl⟩
  exact (by first | rfl | exact wrapW_64 _ | (refine (wrapW_64 _).trans ?_; rfl))

set_option maxHeartbeats 1000000 in
theorem c_rk4 (a b : Int) (hb : ¬ b = 0) (w : World) : Calls Tryd.prog 22 #[.int .i64 4, .int .i64 a, .int .i64 b] w (RawPost 4 a b w) := by
  go_enter Tryd.func22, Tryd.ntmps22
  go_wp2
  go_ret
  refine ⟨_, rfl, ?_, rfl⟩
  exact (by first | rfl | exact wrapW_64 _ | (refine (wrapW_64 _).trans ?_; rfl))

set_option maxHeartbeats 1000000 in
theorem c_rk5 (a b : Int) (hb : ¬ b = 0) (w : World) : Calls Tryd.prog 22 #[.int .i64 5, .int .i64 a, .int .i64 b] w (RawPost 5 a b w) := by
  go_enter Tryd.func22, Tryd.ntmps22
  go_wp2
  go_ret
  refine ⟨_, rfl, ?_, rfl⟩
  exact (by first | rfl | exact wrapW_64 _ | (refine (wrapW_64 _).trans ?_; rfl))

set_option maxHeartbeats 1000000 in
theorem c_rk6 (a b : Int) (w : World) : Calls Tryd.prog 22 #[.int .i64 6, .int .i64 a, .int .i64 b] w (RawPost 6 a b w) := by
  go_enter Tryd.func22, Tryd.ntmps22
  go_wp2
  go_ret
  refine ⟨_, rfl, ?_, rfl⟩
  exact (rfl)

set_option maxHeartbeats 1000000 in
theorem c_rk7 (a b : Int) (w : World) : Calls Tryd.prog 22 #[.int .i64 7, .int .i64 a, .int .i64 b] w (RawPost 7 a b w) := by
  go_enter Tryd.func22, Tryd.ntmps22
  go_wp2
  go_ret
  refine ⟨_, rfl, ?_, rfl⟩
  exact (rfl)

set_option maxHeartbeats 1000000 in
theorem c_rk8 (a b : Int) (w : World) : Calls Tryd.prog 22 #[.int .i64 8, .int .i64 a, .int .i64 b] w (RawPost 8 a b w) := by
  go_enter Tryd.func22, Tryd.ntmps22
  go_wp2
  go_ret
  refine ⟨_, rfl, ?_, rfl⟩
  exact (rfl)

set_option maxHeartbeats 1000000 in
theorem c_rk9 (a b : Int) (w : World) : Calls Tryd.prog 22 #[.int .i64 9, .int .i64 a, .int .i64 b] w (RawPost 9 a b w) := by
  have y0 : 0 ≤ bits .and .i64 b 31 := by rw [and31]; omega
  have y1 : bits .and .i64 b 31 ≤ 64 := by rw [and31]; omega
  have ye : (bits .and .i64 b 31).toNat = (b % 32).toNat := by rw [and31]
  have YE := Lib.hid ye
  clear ye
  go_enter Tryd.func22, Tryd.ntmps22
  go_wp2
  go_ret
  refine ⟨_, rfl, ?_, rfl⟩
  exact (by first | (rw [wrapW_64, YE.out]; rfl) | (rw [YE.out]; rfl))

set_option maxHeartbeats 1000000 in
theorem c_rk10 (a b : Int) (w : World) : Calls Tryd.prog 22 #[.int .i64 10, .int .i64 a, .int .i64 b] w (RawPost 10 a b w) := by
  have y0 : 0 ≤ bits .and .i64 b 31 := by rw [and31]; omega
  have y1 : bits .and .i64 b 31 ≤ 64 := by rw [and31]; omega
  have ye : (bits .and .i64 b 31).toNat = (b % 32).toNat := by rw [and31]
  have YE := Lib.hid ye
  clear ye
  go_enter Tryd.func22, Tryd.ntmps22
  go_wp2
  go_ret
  refine ⟨_, rfl, ?_, rfl⟩
  exact (by first | (rw [wrapW_64, YE.out]; rfl) | (rw [YE.out]; rfl))

set_option maxHeartbeats 1000000 in
theorem c_rk11 (a b : Int) (w : World) : Calls Tryd.prog 22 #[.int .i64 11, .int .i64 a, .int .i64 b] w (RawPost 11 a b w) := by
  go_enter Tryd.func22, Tryd.ntmps22
  go_wp2_with (go_at_call 33; refine (c_wone _ _).mono ?_; rintro e w' ⟨rfl, rfl⟩)
  all_goals
    go_ret
    refine ⟨_, rfl, ?_, rfl⟩
    unfold rawV
    simp only [show ¬ ((11 : Int) = 1) by decide, show ¬ ((11 : Int) = 2) by decide, show ¬ ((11 : Int) = 3) by decide, show ¬ ((11 : Int) = 4) by decide, show ¬ ((11 : Int) = 5) by decide, show ¬ ((11 : Int) = 6) by decide, show ¬ ((11 : Int) = 7) by decide, show ¬ ((11 : Int) = 8) by decide, show ¬ ((11 : Int) = 9) by decide, show ¬ ((11 : Int) = 10) by decide, if_false, if_true]
    try (split <;> first | rfl | (exfalso; omega))

set_option maxHeartbeats 1000000 in
theorem c_rk12 (a b : Int) (w : World) : Calls Tryd.prog 22 #[.int .i64 12, .int .i64 a, .int .i64 b] w (RawPost 12 a b w) := by
  go_enter Tryd.func22, Tryd.ntmps22
  go_wp2_with (go_at_call 33; refine (c_wone _ _).mono ?_; rintro e w' ⟨rfl, rfl⟩)
  all_goals
    go_ret
    refine ⟨_, rfl, ?_, rfl⟩
    unfold rawV
    simp only [show ¬ ((12 : Int) = 1) by decide, show ¬ ((12 : Int) = 2) by decide, show ¬ ((12 : Int) = 3) by decide, show ¬ ((12 : Int) = 4) by decide, show ¬ ((12 : Int) = 5) by decide, show ¬ ((12 : Int) = 6) by decide, show ¬ ((12 : Int) = 7) by decide, show ¬ ((12 : Int) = 8) by decide, show ¬ ((12 : Int) = 9) by decide, show ¬ ((12 : Int) = 10) by decide, show ¬ ((12 : Int) = 11) by decide, if_false, if_true]
    try (split <;> first | rfl | (exfalso; omega))

theorem c_reckon (op a b : Int) (h1 : 1 ≤ op) (h2 : op ≤ 12) (hb : ¬ (b = 0 ∧ (op = 4 ∨ op = 5))) (w : World) :
    Calls Tryd.prog 22 #[.int .i64 op, .int .i64 a, .int .i64 b] w (RawPost op a b w) := by
  have : op = 1 ∨ op = 2 ∨ op = 3 ∨ op = 4 ∨ op = 5 ∨ op = 6 ∨ op = 7 ∨ op = 8 ∨ op = 9 ∨ op = 10 ∨ op = 11 ∨ op = 12 := by omega
  rcases this with rfl | rfl | rfl | rfl | rfl | rfl | rfl | rfl | rfl | rfl | rfl | rfl
  · exact c_rk1 a b w
  · exact c_rk2 a b w
  · exact c_rk3 a b w
  · exact c_rk4 a b (fun e => hb ⟨e, by omega⟩) w
  · exact c_rk5 a b (fun e => hb ⟨e, by omega⟩) w
  · exact c_rk6 a b w
  · exact c_rk7 a b w
  · exact c_rk8 a b w
  · exact c_rk9 a b w
  · exact c_rk10 a b w
  · exact c_rk11 a b w
  · exact c_rk12 a b w

theorem doV_arg (op a b : Int) (h : ¬ (1 ≤ op ∧ op ≤ 12)) : doV op a b = 0 ∧ doE op a b = 1 := by
  constructor
  · exact if_neg h
  · exact if_neg h
theorem doV_range (op a b : Int) (h : 1 ≤ op ∧ op ≤ 12) (h' : ¬ (fineW a = true ∧ fineW b = true)) : doV op a b = 0 ∧ doE op a b = 8 := by
  constructor
  · unfold doV; rw [if_pos h, if_neg h']
  · unfold doE; rw [if_pos h, if_neg h']
theorem doV_zero (op a b : Int) (h : 1 ≤ op ∧ op ≤ 12) (h' : fineW a = true ∧ fineW b = true) (h'' : b = 0 ∧ (op = 4 ∨ op = 5)) : doV op a b = 0 ∧ doE op a b = 16 := by
  constructor
  · unfold doV; rw [if_pos h, if_pos h', if_pos h'']
  · unfold doE; rw [if_pos h, if_pos h', if_pos h'']
theorem doV_on (op a b : Int) (h : 1 ≤ op ∧ op ≤ 12) (h' : fineW a = true ∧ fineW b = true) (h'' : ¬ (b = 0 ∧ (op = 4 ∨ op = 5))) : doV op a b = wrapW (rawV op a b) ∧ doE op a b = 0 := by
  constructor
  · unfold doV; rw [if_pos h, if_pos h', if_neg h'']
  · unfold doE; rw [if_pos h, if_pos h', if_neg h'']

set_option maxHeartbeats 1000000 in
theorem c_wdo (op a b : Int) (w : World) :
    Calls Tryd.prog 7 #[.int .i64 op, .int .i64 a, .int .i64 b] w fun e w' => e = .returned (.tuple #[.int .i64 (doV op a b), .int .i64 (doE op a b)]) ∧ w = w' := by
  by_cases ho : 1 ≤ op ∧ op ≤ 12
  · by_cases hf : fineW a = true ∧ fineW b = true
    · obtain ⟨fa, fb⟩ := hf
      by_cases hz : b = 0 ∧ (op = 4 ∨ op = 5)
      · rw [(doV_zero op a b ho ⟨fa, fb⟩ hz).1, (doV_zero op a b ho ⟨fa, fb⟩ hz).2]
        obtain ⟨rfl, rfl | rfl⟩ := hz
        all_goals
          clear ho
          go_enter Tryd.func7, Tryd.ntmps7
          go_wp2_with (go_at_call 16; refine (c_wfine _ _).mono ?_; rintro e w' ⟨rfl, rfl⟩)
          go_ret2
          exact ⟨rfl, rfl⟩
      · rw [(doV_on op a b ho ⟨fa, fb⟩ hz).1, (doV_on op a b ho ⟨fa, fb⟩ hz).2]
        have C := Lib.hid (c_reckon op a b ho.1 ho.2 hz)
        obtain ⟨h1, h2⟩ := ho
        have HZ := Lib.hid hz
        have hq : (b == 0) = false ∨ ((b == 0) = true ∧ (op == 4) = false ∧ (op == 5) = false) := by
          by_cases e : b = 0
          · refine .inr ⟨by simpa using e, ?_, ?_⟩
            · exact beq_eq_false_iff_ne.2 fun e4 => hz ⟨e, .inl e4⟩
            · exact beq_eq_false_iff_ne.2 fun e4 => hz ⟨e, .inr e4⟩
          · exact .inl (beq_eq_false_iff_ne.2 e)
        clear hz
        rcases hq with q0 | ⟨q0, q4, q5⟩
        all_goals
          go_enter Tryd.func7, Tryd.ntmps7
          go_wp2_with (first | (go_at_call 16; refine (c_wfine _ _).mono ?_; rintro e w' ⟨rfl, rfl⟩) | (go_at_call 22; refine (C.out _).mono ?_; rintro e w' ⟨r, rfl, hr, rfl⟩) | (go_at_call 18; refine (c_wwrap _ _).mono ?_; rintro e w' ⟨rfl, rfl⟩))
          go_ret2
          first | exact ⟨rfl, rfl⟩ | exact ⟨ret_int2 hr rfl, rfl⟩
    · rw [(doV_range op a b ho hf).1, (doV_range op a b ho hf).2]
      obtain ⟨h1, h2⟩ := ho
      have hq : fineW a = false ∨ (fineW a = true ∧ fineW b = false) := by
        cases e : fineW a
        · exact .inl rfl
        · cases e' : fineW b
          · exact .inr ⟨rfl, rfl⟩
          · exact absurd ⟨e, e'⟩ hf
      clear hf
      rcases hq with q0 | ⟨q0, q1⟩
      all_goals
        go_enter Tryd.func7, Tryd.ntmps7
        go_wp2_with (go_at_call 16; refine (c_wfine _ _).mono ?_; rintro e w' ⟨rfl, rfl⟩)
        go_ret2
        exact ⟨rfl, rfl⟩
  · rw [(doV_arg op a b ho).1, (doV_arg op a b ho).2]
    have hq : op < 1 ∨ (1 ≤ op ∧ 12 < op) := by omega
    clear ho
    rcases hq with q0 | ⟨q0, q1⟩
    all_goals
      go_enter Tryd.func7, Tryd.ntmps7
      go_wp2
      go_ret2
      exact ⟨rfl, rfl⟩

def notV (a : Int) : Int := if fineW a = true then -1 - a else 0
def negV (a : Int) : Int := if fineW a = true then wrapW (0 - a) else 0
def oneE (a : Int) : Int := if fineW a = true then 0 else 8
theorem oneE_of (a : Int) (h : fineW a = true) : oneE a = 0 := if_pos h
theorem oneE_no (a : Int) (h : fineW a = false) : oneE a = 8 := if_neg (by rw [h]; decide)
theorem notV_of (a : Int) (h : fineW a = true) : notV a = -1 - a := if_pos h
theorem notV_no (a : Int) (h : fineW a = false) : notV a = 0 := if_neg (by rw [h]; decide)
theorem negV_of (a : Int) (h : fineW a = true) : negV a = wrapW (0 - a) := if_pos h
theorem negV_no (a : Int) (h : fineW a = false) : negV a = 0 := if_neg (by rw [h]; decide)
theorem do_neg (a : Int) : doV 2 0 a = negV a ∧ doE 2 0 a = oneE a := by
  have h0 : fineW 0 = true := by decide
  cases h : fineW a
  · have e := doV_range 2 0 a (by decide) (by rw [h]; simp)
    rw [negV_no a h, oneE_no a h]
    exact e
  · have e := doV_on 2 0 a (by decide) ⟨h0, h⟩ (by omega)
    rw [negV_of a h, oneE_of a h]
    exact e

set_option maxHeartbeats 400000 in
theorem c_wnot (a : Int) (w : World) :
    Calls Tryd.prog 10 #[.int .i64 a] w fun e w' => e = .returned (.tuple #[.int .i64 (notV a), .int .i64 (oneE a)]) ∧ w = w' := by
  cases hf : fineW a
  · rw [notV_no a hf, oneE_no a hf]
    go_enter Tryd.func10, Tryd.ntmps10
    go_wp2_with (go_at_call 16; refine (c_wfine _ _).mono ?_; rintro e w' ⟨rfl, rfl⟩)
    go_ret2
    exact ⟨rfl, rfl⟩
  · rw [notV_of a hf, oneE_of a hf]
    obtain ⟨h0, h1⟩ := (fineW_iff a).1 hf
    have X := Lib.hid (xor_all a h0 h1)
    go_enter Tryd.func10, Tryd.ntmps10
    go_wp2_with (go_at_call 16; refine (c_wfine _ _).mono ?_; rintro e w' ⟨rfl, rfl⟩)
    go_ret2
    exact ⟨ret_int2 (by first | exact X.out | (simpa [IntKind.signed] using X.out)) rfl, rfl⟩

set_option maxHeartbeats 400000 in
theorem c_wneg (a : Int) (w : World) :
    Calls Tryd.prog 12 #[.int .i64 a] w fun e w' => e = .returned (.tuple #[.int .i64 (negV a), .int .i64 (oneE a)]) ∧ w = w' := by
  rw [← (do_neg a).1, ← (do_neg a).2]
  go_enter Tryd.func12, Tryd.ntmps12
  go_wp2_with (go_at_call 7; refine (c_wdo _ _ _ _).mono ?_; rintro e w' ⟨rfl, rfl⟩)
  go_ret2
  exact ⟨rfl, rfl⟩
end Go.Proofs.YtfemfimhnkdemaaDoor

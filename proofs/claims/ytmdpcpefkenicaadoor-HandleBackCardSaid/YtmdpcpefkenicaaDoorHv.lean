/- The contracts of the four laws of package handle and of what they ask besides: each returns true, and leaves memory only grown. -/
import Derived.Test.YtmdpcpefkenicaaDoorHs
namespace Go.Proofs.YtmdpcpefkenicaaDoor
open Go.RowKit

theorem i64_of (x : Int) (h : -2147483648 ≤ x) (h' : x ≤ 2147483647) : I64 x := by unfold I64; omega

theorem al_make (w : World) : Calls Tryd.prog 7 #[.int .i64 5, .int .i64 2] w fun e w' => e = .returned (.tuple #[.int .i64 8197, .int .i64 0]) ∧ w = w' := by
  have h := c_make 5 2 w
  rw [show makeH 5 2 = 8197 by decide, show makeE 5 2 = 0 by decide] at h
  exact h
theorem al_next (w : World) : Calls Tryd.prog 10 #[.int .i64 8197] w fun e w' => e = .returned (.tuple #[.int .i64 12293, .int .i64 0]) ∧ w = w' := by
  have h := c_next 8197 (i64_of _ (by omega) (by omega)) w
  rw [show nextH 8197 = 12293 by decide, show nextE 8197 = 0 by decide] at h
  exact h
theorem al_text (w : World) (ht : Tab w) : Calls Tryd.prog 12 #[.int .i64 8197] w fun e w' => e = .returned (.tuple #[.string ⟨#[53, 46, 50]⟩, .int .i64 0]) ∧ Below w.heap.size w w' := by
  have h := c_text 8197 (i64_of _ (by omega) (by omega)) w ht
  have e : textL 8197 = [53, 46, 50] := by
    rw [textL_of 8197 (by decide)]
    rw [show ((8197 : Int) % 4096).toNat = 5 by decide, show ((8197 : Int) / 4096).toNat = 2 by decide, Lib.decDigits_one (by omega), Lib.decDigits_one (by omega)]
    rfl
  rw [e, show textE 8197 = 0 by decide] at h
  exact h
theorem al_parse (w : World) : Calls Tryd.prog 20 #[.string ⟨#[53, 46, 51]⟩] w fun e w' => e = .returned (.tuple #[.int .i64 12293, .int .i64 0]) ∧ Below w.heap.size w w' := by
  have h := c_parse ⟨#[53, 46, 51]⟩ w
  rw [show parseH (ByteArray.mk #[53, 46, 51]).data.toList = 12293 by decide, show parseE (ByteArray.mk #[53, 46, 51]).data.toList = 0 by decide] at h
  exact h

set_option maxHeartbeats 1000000 in
theorem c_alive (w : World) (ht : Tab w) : Calls Tryd.prog 9 #[] w fun e w' => e = .returned (.bool true) ∧ Below w.heap.size w w' := by
  have hf1 : fineB 8197 = true := by decide
  have hf0 : fineB 0 = false := by decide
  have hs : slotF 8197 = 5 := by decide
  have hg : genF 8197 = 2 := by decide
  go_enter Tryd.func9, Tryd.ntmps9
  go_wp2_with fail
  refine (al_make _).mono ?_
  rintro e w' ⟨rfl, rfl⟩
  go_wp2_with fail
  refine (al_text _ ht).mono ?_
  rintro e w1 ⟨rfl, hb1⟩
  go_wp2_with fail
  refine (al_next _).mono ?_
  rintro e w' ⟨rfl, rfl⟩
  go_wp2_with fail
  refine (al_parse _).mono ?_
  rintro e w2 ⟨rfl, hb2⟩
  go_wp2_with (first | (go_at_call 16; refine (c_slot _ (i64_of _ (by omega) (by omega)) _).mono ?_; rintro e w' ⟨rfl, rfl⟩) | (go_at_call 18; refine (c_gen _ (i64_of _ (by omega) (by omega)) _).mono ?_; rintro e w' ⟨rfl, rfl⟩) | (go_at_call 14; refine (c_fine _ (i64_of _ (by omega) (by omega)) _).mono ?_; rintro e w' ⟨rfl, rfl⟩))
  go_ret
  exact ⟨rfl, up_trans hb1 hb2⟩

set_option maxHeartbeats 1000000 in
theorem l_makes (s g : Int) (w : World) (ht : Tab w) : Calls Tryd.prog 3 #[.int .i64 s, .int .i64 g] w fun e w' => e = .returned (.bool true) ∧ Below w.heap.size w w' := by
  go_enter Tryd.func3, Tryd.ntmps3
  go_wp2_with (first | (go_at_call 7; refine (c_make _ _ _).mono ?_; rintro e w' ⟨rfl, rfl⟩) | (go_at_call 8; refine (c_rmake _ _ _).mono ?_; rintro e w' ⟨rfl, rfl⟩) | (go_at_call 9; refine (c_alive _ ht).mono ?_; rintro e w1 ⟨rfl, hb1⟩))
  go_ret
  exact ⟨rfl, hb1⟩

set_option maxHeartbeats 1000000 in
theorem l_reads (s : ByteArray) (w : World) (ht : Tab w) : Calls Tryd.prog 5 #[.string s] w fun e w' => e = .returned (.bool true) ∧ Below w.heap.size w w' := by
  by_cases h : 200 < s.size
  · go_enter Tryd.func5, Tryd.ntmps5
    go_wp2_with ((go_at_call 9; refine (c_alive _ ht).mono ?_; rintro e w1 ⟨rfl, hb1⟩))
    go_ret
    exact ⟨rfl, hb1⟩
  · go_enter Tryd.func5, Tryd.ntmps5
    go_wp2_with fail
    refine (c_parse _ _).mono ?_
    rintro e w1 ⟨rfl, hb1⟩
    have ht1 := tab_up ht hb1
    go_wp2_with fail
    refine (c_rparse _ (by omega) _).mono ?_
    rintro e w' ⟨rfl, rfl⟩
    go_wp2_with ((go_at_call 9; refine (c_alive _ ht1).mono ?_; rintro e w2 ⟨rfl, hb2⟩))
    go_ret
    exact ⟨rfl, up_trans hb1 hb2⟩

set_option maxHeartbeats 1000000 in
theorem l_parts (h : Int) (hw : I64 h) (w : World) (ht : Tab w) : Calls Tryd.prog 4 #[.int .i64 h] w fun e w' => e = .returned (.bool true) ∧ Below w.heap.size w w' := by
  have H := Lib.hid hw
  clear hw
  go_enter Tryd.func4, Tryd.ntmps4
  go_wp2_with fail
  refine (c_next _ H.out _).mono ?_
  rintro e w' ⟨rfl, rfl⟩
  go_wp2_with fail
  refine (c_rnext _ _).mono ?_
  rintro e w' ⟨rfl, rfl⟩
  go_wp2_with fail
  refine (c_text _ H.out _ ht).mono ?_
  rintro e w1 ⟨rfl, hb1⟩
  have ht1 := tab_up ht hb1
  go_wp2_with fail
  refine (c_rtext _ _).mono ?_
  rintro e w2 ⟨rfl, hb2⟩
  have ht2 := tab_up ht1 hb2
  go_wp2_with (first | (go_at_call 14; refine (c_fine _ H.out _).mono ?_; rintro e w' ⟨rfl, rfl⟩) | (go_at_call 15; refine (c_rfine _ _).mono ?_; rintro e w' ⟨rfl, rfl⟩) | (go_at_call 16; refine (c_slot _ H.out _).mono ?_; rintro e w' ⟨rfl, rfl⟩) | (go_at_call 17; refine (c_rslot _ _).mono ?_; rintro e w' ⟨rfl, rfl⟩) | (go_at_call 18; refine (c_gen _ H.out _).mono ?_; rintro e w' ⟨rfl, rfl⟩) | (go_at_call 19; refine (c_rgen _ _).mono ?_; rintro e w' ⟨rfl, rfl⟩) | (go_at_call 9; refine (c_alive _ ht2).mono ?_; rintro e w3 ⟨rfl, hb3⟩))
  go_ret
  exact ⟨rfl, up_trans (up_trans hb1 hb2) hb3⟩
end Go.Proofs.YtmdpcpefkenicaaDoor

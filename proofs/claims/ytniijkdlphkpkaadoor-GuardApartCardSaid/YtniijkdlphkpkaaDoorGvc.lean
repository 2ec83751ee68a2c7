/- Package guard's number, object, value and register: what is wrong with each field of a guard. -/
import Derived.Test.YtniijkdlphkpkaaDoorGvb
import Derived.BigRegion
namespace Go.Proofs.YtniijkdlphkpkaaDoor
open Go.RowKit

set_option maxHeartbeats 1000000 in
theorem c_gnumber (k o v r n : Int) (w : World) : Calls Tryd.prog 23 #[.agg #[.int .i64 k, .int .i64 o, .int .i64 v, .int .i64 r, .int .i64 n]] w fun e w' => e = .returned (.int .i64 (numE n)) ∧ Below w.heap.size w w' := by
  go_enter Tryd.func23, Tryd.ntmps23
  go_wp2_with (first | (go_at_call 38; refine (c_gbelow _ _ _).mono ?_; rintro e w' ⟨rfl, rfl⟩) | (go_at_call 40; refine (c_wfine _ _).mono ?_; rintro e w' ⟨rfl, rfl⟩) | (go_at_call 41; refine (c_fine _ _).mono ?_; rintro e w' ⟨rfl, rfl⟩) | (go_at_call 37; refine (c_gown _ _).mono ?_; rintro e w' ⟨rfl, rfl⟩) | (go_at_call 39; refine (c_goth _ _).mono ?_; rintro e w' ⟨rfl, rfl⟩))
  go_ret
  exact ⟨rfl, up_alloc _ _⟩
set_option maxHeartbeats 1000000 in
theorem c_gobject (k o v r n : Int) (w : World) : Calls Tryd.prog 24 #[.agg #[.int .i64 k, .int .i64 o, .int .i64 v, .int .i64 r, .int .i64 n]] w fun e w' => e = .returned (.int .i64 (objE k o)) ∧ Below w.heap.size w w' := by
  by_cases h1 : k = 1
  · subst h1
    go_enter Tryd.func24, Tryd.ntmps24
    go_wp2_with (first | (go_at_call 38; refine (c_gbelow _ _ _).mono ?_; rintro e w' ⟨rfl, rfl⟩) | (go_at_call 40; refine (c_wfine _ _).mono ?_; rintro e w' ⟨rfl, rfl⟩) | (go_at_call 41; refine (c_fine _ _).mono ?_; rintro e w' ⟨rfl, rfl⟩) | (go_at_call 37; refine (c_gown _ _).mono ?_; rintro e w' ⟨rfl, rfl⟩) | (go_at_call 39; refine (c_goth _ _).mono ?_; rintro e w' ⟨rfl, rfl⟩))
    go_ret
    exact ⟨rfl, up_alloc _ _⟩
  have t1 : (k == 1) = false := by simpa using h1
  by_cases h2 : k = 2
  · subst h2
    go_enter Tryd.func24, Tryd.ntmps24
    go_wp2_with (first | (go_at_call 38; refine (c_gbelow _ _ _).mono ?_; rintro e w' ⟨rfl, rfl⟩) | (go_at_call 40; refine (c_wfine _ _).mono ?_; rintro e w' ⟨rfl, rfl⟩) | (go_at_call 41; refine (c_fine _ _).mono ?_; rintro e w' ⟨rfl, rfl⟩) | (go_at_call 37; refine (c_gown _ _).mono ?_; rintro e w' ⟨rfl, rfl⟩) | (go_at_call 39; refine (c_goth _ _).mono ?_; rintro e w' ⟨rfl, rfl⟩))
    go_ret
    exact ⟨rfl, up_alloc _ _⟩
  have t2 : (k == 2) = false := by simpa using h2
  by_cases h3 : k = 3
  · subst h3
    go_enter Tryd.func24, Tryd.ntmps24
    go_wp2_with (first | (go_at_call 38; refine (c_gbelow _ _ _).mono ?_; rintro e w' ⟨rfl, rfl⟩) | (go_at_call 40; refine (c_wfine _ _).mono ?_; rintro e w' ⟨rfl, rfl⟩) | (go_at_call 41; refine (c_fine _ _).mono ?_; rintro e w' ⟨rfl, rfl⟩) | (go_at_call 37; refine (c_gown _ _).mono ?_; rintro e w' ⟨rfl, rfl⟩) | (go_at_call 39; refine (c_goth _ _).mono ?_; rintro e w' ⟨rfl, rfl⟩))
    go_ret
    exact ⟨rfl, up_alloc _ _⟩
  have t3 : (k == 3) = false := by simpa using h3
  have H := Lib.hid (show objE k o = othE o from by unfold objE; rw [if_neg (by omega)])
  clear h1 h2 h3
  go_enter Tryd.func24, Tryd.ntmps24
  go_wp2_with (first | (go_at_call 38; refine (c_gbelow _ _ _).mono ?_; rintro e w' ⟨rfl, rfl⟩) | (go_at_call 40; refine (c_wfine _ _).mono ?_; rintro e w' ⟨rfl, rfl⟩) | (go_at_call 41; refine (c_fine _ _).mono ?_; rintro e w' ⟨rfl, rfl⟩) | (go_at_call 37; refine (c_gown _ _).mono ?_; rintro e w' ⟨rfl, rfl⟩) | (go_at_call 39; refine (c_goth _ _).mono ?_; rintro e w' ⟨rfl, rfl⟩))
  go_ret
  exact ⟨ret_int H.out.symm, up_alloc _ _⟩
set_option maxHeartbeats 1000000 in
theorem c_gvalue (k o v r n : Int) (w : World) : Calls Tryd.prog 25 #[.agg #[.int .i64 k, .int .i64 o, .int .i64 v, .int .i64 r, .int .i64 n]] w fun e w' => e = .returned (.int .i64 (valE k v)) ∧ Below w.heap.size w w' := by
  by_cases h2 : k = 2
  · subst h2
    go_enter Tryd.func25, Tryd.ntmps25
    go_wp2_with (first | (go_at_call 38; refine (c_gbelow _ _ _).mono ?_; rintro e w' ⟨rfl, rfl⟩) | (go_at_call 40; refine (c_wfine _ _).mono ?_; rintro e w' ⟨rfl, rfl⟩) | (go_at_call 41; refine (c_fine _ _).mono ?_; rintro e w' ⟨rfl, rfl⟩) | (go_at_call 37; refine (c_gown _ _).mono ?_; rintro e w' ⟨rfl, rfl⟩) | (go_at_call 39; refine (c_goth _ _).mono ?_; rintro e w' ⟨rfl, rfl⟩))
    go_ret
    exact ⟨rfl, up_alloc _ _⟩
  have t2 : (k == 2) = false := by simpa using h2
  by_cases h6 : k = 6
  · subst h6
    go_enter Tryd.func25, Tryd.ntmps25
    go_wp2_with (first | (go_at_call 38; refine (c_gbelow _ _ _).mono ?_; rintro e w' ⟨rfl, rfl⟩) | (go_at_call 40; refine (c_wfine _ _).mono ?_; rintro e w' ⟨rfl, rfl⟩) | (go_at_call 41; refine (c_fine _ _).mono ?_; rintro e w' ⟨rfl, rfl⟩) | (go_at_call 37; refine (c_gown _ _).mono ?_; rintro e w' ⟨rfl, rfl⟩) | (go_at_call 39; refine (c_goth _ _).mono ?_; rintro e w' ⟨rfl, rfl⟩))
    go_ret
    exact ⟨rfl, up_alloc _ _⟩
  have t6 : (k == 6) = false := by simpa using h6
  by_cases h4 : k = 4
  · subst h4
    go_enter Tryd.func25, Tryd.ntmps25
    go_wp2_with (first | (go_at_call 38; refine (c_gbelow _ _ _).mono ?_; rintro e w' ⟨rfl, rfl⟩) | (go_at_call 40; refine (c_wfine _ _).mono ?_; rintro e w' ⟨rfl, rfl⟩) | (go_at_call 41; refine (c_fine _ _).mono ?_; rintro e w' ⟨rfl, rfl⟩) | (go_at_call 37; refine (c_gown _ _).mono ?_; rintro e w' ⟨rfl, rfl⟩) | (go_at_call 39; refine (c_goth _ _).mono ?_; rintro e w' ⟨rfl, rfl⟩))
    go_ret
    exact ⟨rfl, up_alloc _ _⟩
  have t4 : (k == 4) = false := by simpa using h4
  have H := Lib.hid (show valE k v = othE v from by unfold valE; rw [if_neg (by omega), if_neg (by omega)])
  clear h2 h6 h4
  go_enter Tryd.func25, Tryd.ntmps25
  go_wp2_with (first | (go_at_call 38; refine (c_gbelow _ _ _).mono ?_; rintro e w' ⟨rfl, rfl⟩) | (go_at_call 40; refine (c_wfine _ _).mono ?_; rintro e w' ⟨rfl, rfl⟩) | (go_at_call 41; refine (c_fine _ _).mono ?_; rintro e w' ⟨rfl, rfl⟩) | (go_at_call 37; refine (c_gown _ _).mono ?_; rintro e w' ⟨rfl, rfl⟩) | (go_at_call 39; refine (c_goth _ _).mono ?_; rintro e w' ⟨rfl, rfl⟩))
  go_ret
  exact ⟨ret_int H.out.symm, up_alloc _ _⟩
set_option maxHeartbeats 1000000 in
theorem c_gregister (k o v r n : Int) (w : World) : Calls Tryd.prog 26 #[.agg #[.int .i64 k, .int .i64 o, .int .i64 v, .int .i64 r, .int .i64 n]] w fun e w' => e = .returned (.int .i64 (regE k r)) ∧ Below w.heap.size w w' := by
  by_cases h1 : k = 1
  · subst h1
    go_enter Tryd.func26, Tryd.ntmps26
    go_wp2_with (first | (go_at_call 38; refine (c_gbelow _ _ _).mono ?_; rintro e w' ⟨rfl, rfl⟩) | (go_at_call 40; refine (c_wfine _ _).mono ?_; rintro e w' ⟨rfl, rfl⟩) | (go_at_call 41; refine (c_fine _ _).mono ?_; rintro e w' ⟨rfl, rfl⟩) | (go_at_call 37; refine (c_gown _ _).mono ?_; rintro e w' ⟨rfl, rfl⟩) | (go_at_call 39; refine (c_goth _ _).mono ?_; rintro e w' ⟨rfl, rfl⟩))
    go_ret
    exact ⟨rfl, up_alloc _ _⟩
  have t1 : (k == 1) = false := by simpa using h1
  by_cases h6 : k = 6
  · subst h6
    go_enter Tryd.func26, Tryd.ntmps26
    go_wp2_with (first | (go_at_call 38; refine (c_gbelow _ _ _).mono ?_; rintro e w' ⟨rfl, rfl⟩) | (go_at_call 40; refine (c_wfine _ _).mono ?_; rintro e w' ⟨rfl, rfl⟩) | (go_at_call 41; refine (c_fine _ _).mono ?_; rintro e w' ⟨rfl, rfl⟩) | (go_at_call 37; refine (c_gown _ _).mono ?_; rintro e w' ⟨rfl, rfl⟩) | (go_at_call 39; refine (c_goth _ _).mono ?_; rintro e w' ⟨rfl, rfl⟩))
    go_ret
    exact ⟨rfl, up_alloc _ _⟩
  have t6 : (k == 6) = false := by simpa using h6
  have H := Lib.hid (show regE k r = othE r from by unfold regE; rw [if_neg (by omega)])
  clear h1 h6
  go_enter Tryd.func26, Tryd.ntmps26
  go_wp2_with (first | (go_at_call 38; refine (c_gbelow _ _ _).mono ?_; rintro e w' ⟨rfl, rfl⟩) | (go_at_call 40; refine (c_wfine _ _).mono ?_; rintro e w' ⟨rfl, rfl⟩) | (go_at_call 41; refine (c_fine _ _).mono ?_; rintro e w' ⟨rfl, rfl⟩) | (go_at_call 37; refine (c_gown _ _).mono ?_; rintro e w' ⟨rfl, rfl⟩) | (go_at_call 39; refine (c_goth _ _).mono ?_; rintro e w' ⟨rfl, rfl⟩))
  go_ret
  exact ⟨ret_int H.out.symm, up_alloc _ _⟩
end Go.Proofs.YtniijkdlphkpkaaDoor

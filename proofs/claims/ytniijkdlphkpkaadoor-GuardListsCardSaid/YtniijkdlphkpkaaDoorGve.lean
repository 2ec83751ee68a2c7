/- The document's Check of layer 25, and its in. -/
import Derived.Test.YtniijkdlphkpkaaDoorGva
import Derived.Test.YtniijkdlphkpkaaDoorWf
import Derived.Test.YtniijkdlphkpkaaDoorCf
namespace Go.Proofs.YtniijkdlphkpkaaDoor
open Go.RowKit

theorem oth8 (n : Int) : ((8 : Int) = if n = 0 then (0 : Int) else 3) = False := by
  rw [eq_iff_iff]
  refine ⟨fun h => ?_, False.elim⟩
  split at h <;> cases h

set_option maxHeartbeats 400000 in
theorem c_rin (n m : Int) (w : World) : Calls Tryd.prog 27 #[.int .i64 n, .int .i64 m] w fun e w' => e = .returned (.bool (inB n m)) ∧ w = w' := by
  by_cases h : 0 ≤ n
  · go_enter Tryd.func27, Tryd.ntmps27
    go_wp2
    go_ret
    exact ⟨ret_bool (by simp [inB, h]), rfl⟩
  · go_enter Tryd.func27, Tryd.ntmps27
    go_wp2
    go_ret
    exact ⟨ret_bool (by simp [inB]; omega), rfl⟩

set_option maxRecDepth 100000 in
set_option maxHeartbeats 4000000 in
theorem c_rcheck1 (o v r n : Int) (w : World) : Calls Tryd.prog 9 #[.agg #[.int .i64 1, .int .i64 o, .int .i64 v, .int .i64 r, .int .i64 n]] w fun e w' => e = .returned (.int .i64 (chkE 1 o v r n)) ∧ Below w.heap.size w w' := by
  cases hn : inB n 6
  case false =>
    have HC : Hid (chkE 1 o v r n = 8) := Lib.hid (by simp [chkE, kindB, firstE, numE, objE, valE, regE, ownE, othE, oth8, hn])
    go_enter Tryd.func9, Tryd.ntmps9
    go_wp2_with (first | (go_at_call 27; refine (c_rin _ _ _).mono ?_; rintro e w' ⟨rfl, rfl⟩) | (go_at_call 28; refine (c_rfine _ _).mono ?_; rintro e w' ⟨rfl, rfl⟩) | (go_at_call 29; refine (c_vfine _ _).mono ?_; rintro e w' ⟨rfl, rfl⟩))
    go_ret
    exact ⟨ret_int HC.out.symm, up_alloc _ _⟩
  case true =>
    cases ho : inB o 8
    case false =>
      have HC : Hid (chkE 1 o v r n = 8) := Lib.hid (by simp [chkE, kindB, firstE, numE, objE, valE, regE, ownE, othE, oth8, ho])
      go_enter Tryd.func9, Tryd.ntmps9
      go_wp2_with (first | (go_at_call 27; refine (c_rin _ _ _).mono ?_; rintro e w' ⟨rfl, rfl⟩) | (go_at_call 28; refine (c_rfine _ _).mono ?_; rintro e w' ⟨rfl, rfl⟩) | (go_at_call 29; refine (c_vfine _ _).mono ?_; rintro e w' ⟨rfl, rfl⟩))
      go_ret
      exact ⟨ret_int HC.out.symm, up_alloc _ _⟩
    case true =>
      cases hr : inB r 8
      case false =>
        have HC : Hid (chkE 1 o v r n = 8) := Lib.hid (by simp [chkE, kindB, firstE, numE, objE, valE, regE, ownE, othE, oth8, hr])
        go_enter Tryd.func9, Tryd.ntmps9
        go_wp2_with (first | (go_at_call 27; refine (c_rin _ _ _).mono ?_; rintro e w' ⟨rfl, rfl⟩) | (go_at_call 28; refine (c_rfine _ _).mono ?_; rintro e w' ⟨rfl, rfl⟩) | (go_at_call 29; refine (c_vfine _ _).mono ?_; rintro e w' ⟨rfl, rfl⟩))
        go_ret
        exact ⟨ret_int HC.out.symm, up_alloc _ _⟩
      case true =>
        by_cases zv : v = 0
        case neg =>
          have HC : Hid (chkE 1 o v r n = 3) := Lib.hid (by simp [chkE, kindB, firstE, numE, objE, valE, regE, ownE, othE, hn, ho, hr, zv])
          have tv : (v != 0) = true := by simpa [bne] using zv
          clear zv
          go_enter Tryd.func9, Tryd.ntmps9
          go_wp2_with (first | (go_at_call 27; refine (c_rin _ _ _).mono ?_; rintro e w' ⟨rfl, rfl⟩) | (go_at_call 28; refine (c_rfine _ _).mono ?_; rintro e w' ⟨rfl, rfl⟩) | (go_at_call 29; refine (c_vfine _ _).mono ?_; rintro e w' ⟨rfl, rfl⟩))
          go_ret
          exact ⟨ret_int HC.out.symm, up_alloc _ _⟩
        case pos =>
          subst zv
          have HC : Hid (chkE 1 o 0 r n = 0) := Lib.hid (by simp [chkE, kindB, firstE, numE, objE, valE, regE, ownE, othE, hn, ho, hr])
          go_enter Tryd.func9, Tryd.ntmps9
          go_wp2_with (first | (go_at_call 27; refine (c_rin _ _ _).mono ?_; rintro e w' ⟨rfl, rfl⟩) | (go_at_call 28; refine (c_rfine _ _).mono ?_; rintro e w' ⟨rfl, rfl⟩) | (go_at_call 29; refine (c_vfine _ _).mono ?_; rintro e w' ⟨rfl, rfl⟩))
          go_ret
          exact ⟨ret_int HC.out.symm, up_alloc _ _⟩
set_option maxRecDepth 100000 in
set_option maxHeartbeats 4000000 in
theorem c_rcheck2 (o v r n : Int) (w : World) : Calls Tryd.prog 9 #[.agg #[.int .i64 2, .int .i64 o, .int .i64 v, .int .i64 r, .int .i64 n]] w fun e w' => e = .returned (.int .i64 (chkE 2 o v r n)) ∧ Below w.heap.size w w' := by
  cases hn : inB n 6
  case false =>
    have HC : Hid (chkE 2 o v r n = 8) := Lib.hid (by simp [chkE, kindB, firstE, numE, objE, valE, regE, ownE, othE, oth8, hn])
    go_enter Tryd.func9, Tryd.ntmps9
    go_wp2_with (first | (go_at_call 27; refine (c_rin _ _ _).mono ?_; rintro e w' ⟨rfl, rfl⟩) | (go_at_call 28; refine (c_rfine _ _).mono ?_; rintro e w' ⟨rfl, rfl⟩) | (go_at_call 29; refine (c_vfine _ _).mono ?_; rintro e w' ⟨rfl, rfl⟩))
    go_ret
    exact ⟨ret_int HC.out.symm, up_alloc _ _⟩
  case true =>
    cases ho : inB o 8
    case false =>
      have HC : Hid (chkE 2 o v r n = 8) := Lib.hid (by simp [chkE, kindB, firstE, numE, objE, valE, regE, ownE, othE, oth8, ho])
      go_enter Tryd.func9, Tryd.ntmps9
      go_wp2_with (first | (go_at_call 27; refine (c_rin _ _ _).mono ?_; rintro e w' ⟨rfl, rfl⟩) | (go_at_call 28; refine (c_rfine _ _).mono ?_; rintro e w' ⟨rfl, rfl⟩) | (go_at_call 29; refine (c_vfine _ _).mono ?_; rintro e w' ⟨rfl, rfl⟩))
      go_ret
      exact ⟨ret_int HC.out.symm, up_alloc _ _⟩
    case true =>
      cases hw : fineW v
      case false =>
        have HC : Hid (chkE 2 o v r n = 8) := Lib.hid (by simp [chkE, kindB, firstE, numE, objE, valE, regE, ownE, othE, oth8, hw])
        go_enter Tryd.func9, Tryd.ntmps9
        go_wp2_with (first | (go_at_call 27; refine (c_rin _ _ _).mono ?_; rintro e w' ⟨rfl, rfl⟩) | (go_at_call 28; refine (c_rfine _ _).mono ?_; rintro e w' ⟨rfl, rfl⟩) | (go_at_call 29; refine (c_vfine _ _).mono ?_; rintro e w' ⟨rfl, rfl⟩))
        go_ret
        exact ⟨ret_int HC.out.symm, up_alloc _ _⟩
      case true =>
        by_cases zr : r = 0
        case neg =>
          have HC : Hid (chkE 2 o v r n = 3) := Lib.hid (by simp [chkE, kindB, firstE, numE, objE, valE, regE, ownE, othE, hn, ho, hw, zr])
          have tr : (r != 0) = true := by simpa [bne] using zr
          clear zr
          go_enter Tryd.func9, Tryd.ntmps9
          go_wp2_with (first | (go_at_call 27; refine (c_rin _ _ _).mono ?_; rintro e w' ⟨rfl, rfl⟩) | (go_at_call 28; refine (c_rfine _ _).mono ?_; rintro e w' ⟨rfl, rfl⟩) | (go_at_call 29; refine (c_vfine _ _).mono ?_; rintro e w' ⟨rfl, rfl⟩))
          go_ret
          exact ⟨ret_int HC.out.symm, up_alloc _ _⟩
        case pos =>
          subst zr
          have HC : Hid (chkE 2 o v 0 n = 0) := Lib.hid (by simp [chkE, kindB, firstE, numE, objE, valE, regE, ownE, othE, hn, ho, hw])
          go_enter Tryd.func9, Tryd.ntmps9
          go_wp2_with (first | (go_at_call 27; refine (c_rin _ _ _).mono ?_; rintro e w' ⟨rfl, rfl⟩) | (go_at_call 28; refine (c_rfine _ _).mono ?_; rintro e w' ⟨rfl, rfl⟩) | (go_at_call 29; refine (c_vfine _ _).mono ?_; rintro e w' ⟨rfl, rfl⟩))
          go_ret
          exact ⟨ret_int HC.out.symm, up_alloc _ _⟩
set_option maxRecDepth 100000 in
set_option maxHeartbeats 4000000 in
theorem c_rcheck3 (o v r n : Int) (w : World) : Calls Tryd.prog 9 #[.agg #[.int .i64 3, .int .i64 o, .int .i64 v, .int .i64 r, .int .i64 n]] w fun e w' => e = .returned (.int .i64 (chkE 3 o v r n)) ∧ Below w.heap.size w w' := by
  cases hn : inB n 6
  case false =>
    have HC : Hid (chkE 3 o v r n = 8) := Lib.hid (by simp [chkE, kindB, firstE, numE, objE, valE, regE, ownE, othE, oth8, hn])
    go_enter Tryd.func9, Tryd.ntmps9
    go_wp2_with (first | (go_at_call 27; refine (c_rin _ _ _).mono ?_; rintro e w' ⟨rfl, rfl⟩) | (go_at_call 28; refine (c_rfine _ _).mono ?_; rintro e w' ⟨rfl, rfl⟩) | (go_at_call 29; refine (c_vfine _ _).mono ?_; rintro e w' ⟨rfl, rfl⟩))
    go_ret
    exact ⟨ret_int HC.out.symm, up_alloc _ _⟩
  case true =>
    cases ho : inB o 8
    case false =>
      have HC : Hid (chkE 3 o v r n = 8) := Lib.hid (by simp [chkE, kindB, firstE, numE, objE, valE, regE, ownE, othE, oth8, ho])
      go_enter Tryd.func9, Tryd.ntmps9
      go_wp2_with (first | (go_at_call 27; refine (c_rin _ _ _).mono ?_; rintro e w' ⟨rfl, rfl⟩) | (go_at_call 28; refine (c_rfine _ _).mono ?_; rintro e w' ⟨rfl, rfl⟩) | (go_at_call 29; refine (c_vfine _ _).mono ?_; rintro e w' ⟨rfl, rfl⟩))
      go_ret
      exact ⟨ret_int HC.out.symm, up_alloc _ _⟩
    case true =>
      by_cases zv : v = 0
      case neg =>
        have HC : Hid (chkE 3 o v r n = 3) := Lib.hid (by simp [chkE, kindB, firstE, numE, objE, valE, regE, ownE, othE, oth8, hn, ho, zv])
        have tv : (v != 0) = true := by simpa [bne] using zv
        clear zv
        go_enter Tryd.func9, Tryd.ntmps9
        go_wp2_with (first | (go_at_call 27; refine (c_rin _ _ _).mono ?_; rintro e w' ⟨rfl, rfl⟩) | (go_at_call 28; refine (c_rfine _ _).mono ?_; rintro e w' ⟨rfl, rfl⟩) | (go_at_call 29; refine (c_vfine _ _).mono ?_; rintro e w' ⟨rfl, rfl⟩))
        go_ret
        exact ⟨ret_int HC.out.symm, up_alloc _ _⟩
      case pos =>
        subst zv
        by_cases zr : r = 0
        case neg =>
          have HC : Hid (chkE 3 o 0 r n = 3) := Lib.hid (by simp [chkE, kindB, firstE, numE, objE, valE, regE, ownE, othE, hn, ho, zr])
          have tr : (r != 0) = true := by simpa [bne] using zr
          clear zr
          go_enter Tryd.func9, Tryd.ntmps9
          go_wp2_with (first | (go_at_call 27; refine (c_rin _ _ _).mono ?_; rintro e w' ⟨rfl, rfl⟩) | (go_at_call 28; refine (c_rfine _ _).mono ?_; rintro e w' ⟨rfl, rfl⟩) | (go_at_call 29; refine (c_vfine _ _).mono ?_; rintro e w' ⟨rfl, rfl⟩))
          go_ret
          exact ⟨ret_int HC.out.symm, up_alloc _ _⟩
        case pos =>
          subst zr
          have HC : Hid (chkE 3 o 0 0 n = 0) := Lib.hid (by simp [chkE, kindB, firstE, numE, objE, valE, regE, ownE, othE, hn, ho])
          go_enter Tryd.func9, Tryd.ntmps9
          go_wp2_with (first | (go_at_call 27; refine (c_rin _ _ _).mono ?_; rintro e w' ⟨rfl, rfl⟩) | (go_at_call 28; refine (c_rfine _ _).mono ?_; rintro e w' ⟨rfl, rfl⟩) | (go_at_call 29; refine (c_vfine _ _).mono ?_; rintro e w' ⟨rfl, rfl⟩))
          go_ret
          exact ⟨ret_int HC.out.symm, up_alloc _ _⟩
set_option maxRecDepth 100000 in
set_option maxHeartbeats 4000000 in
theorem c_rcheck4 (o v r n : Int) (w : World) : Calls Tryd.prog 9 #[.agg #[.int .i64 4, .int .i64 o, .int .i64 v, .int .i64 r, .int .i64 n]] w fun e w' => e = .returned (.int .i64 (chkE 4 o v r n)) ∧ Below w.heap.size w w' := by
  cases hn : inB n 6
  case false =>
    have HC : Hid (chkE 4 o v r n = 8) := Lib.hid (by simp [chkE, kindB, firstE, numE, objE, valE, regE, ownE, othE, oth8, hn])
    go_enter Tryd.func9, Tryd.ntmps9
    go_wp2_with (first | (go_at_call 27; refine (c_rin _ _ _).mono ?_; rintro e w' ⟨rfl, rfl⟩) | (go_at_call 28; refine (c_rfine _ _).mono ?_; rintro e w' ⟨rfl, rfl⟩) | (go_at_call 29; refine (c_vfine _ _).mono ?_; rintro e w' ⟨rfl, rfl⟩))
    go_ret
    exact ⟨ret_int HC.out.symm, up_alloc _ _⟩
  case true =>
    cases hc : fineC v
    case false =>
      have HC : Hid (chkE 4 o v r n = 8) := Lib.hid (by simp [chkE, kindB, firstE, numE, objE, valE, regE, ownE, othE, oth8, hc])
      go_enter Tryd.func9, Tryd.ntmps9
      go_wp2_with (first | (go_at_call 27; refine (c_rin _ _ _).mono ?_; rintro e w' ⟨rfl, rfl⟩) | (go_at_call 28; refine (c_rfine _ _).mono ?_; rintro e w' ⟨rfl, rfl⟩) | (go_at_call 29; refine (c_vfine _ _).mono ?_; rintro e w' ⟨rfl, rfl⟩))
      go_ret
      exact ⟨ret_int HC.out.symm, up_alloc _ _⟩
    case true =>
      by_cases zo : o = 0
      case neg =>
        have HC : Hid (chkE 4 o v r n = 3) := Lib.hid (by simp [chkE, kindB, firstE, numE, objE, valE, regE, ownE, othE, oth8, hn, hc, zo])
        have to : (o != 0) = true := by simpa [bne] using zo
        clear zo
        go_enter Tryd.func9, Tryd.ntmps9
        go_wp2_with (first | (go_at_call 27; refine (c_rin _ _ _).mono ?_; rintro e w' ⟨rfl, rfl⟩) | (go_at_call 28; refine (c_rfine _ _).mono ?_; rintro e w' ⟨rfl, rfl⟩) | (go_at_call 29; refine (c_vfine _ _).mono ?_; rintro e w' ⟨rfl, rfl⟩))
        go_ret
        exact ⟨ret_int HC.out.symm, up_alloc _ _⟩
      case pos =>
        subst zo
        by_cases zr : r = 0
        case neg =>
          have HC : Hid (chkE 4 0 v r n = 3) := Lib.hid (by simp [chkE, kindB, firstE, numE, objE, valE, regE, ownE, othE, hn, hc, zr])
          have tr : (r != 0) = true := by simpa [bne] using zr
          clear zr
          go_enter Tryd.func9, Tryd.ntmps9
          go_wp2_with (first | (go_at_call 27; refine (c_rin _ _ _).mono ?_; rintro e w' ⟨rfl, rfl⟩) | (go_at_call 28; refine (c_rfine _ _).mono ?_; rintro e w' ⟨rfl, rfl⟩) | (go_at_call 29; refine (c_vfine _ _).mono ?_; rintro e w' ⟨rfl, rfl⟩))
          go_ret
          exact ⟨ret_int HC.out.symm, up_alloc _ _⟩
        case pos =>
          subst zr
          have HC : Hid (chkE 4 0 v 0 n = 0) := Lib.hid (by simp [chkE, kindB, firstE, numE, objE, valE, regE, ownE, othE, hn, hc])
          go_enter Tryd.func9, Tryd.ntmps9
          go_wp2_with (first | (go_at_call 27; refine (c_rin _ _ _).mono ?_; rintro e w' ⟨rfl, rfl⟩) | (go_at_call 28; refine (c_rfine _ _).mono ?_; rintro e w' ⟨rfl, rfl⟩) | (go_at_call 29; refine (c_vfine _ _).mono ?_; rintro e w' ⟨rfl, rfl⟩))
          go_ret
          exact ⟨ret_int HC.out.symm, up_alloc _ _⟩
set_option maxRecDepth 100000 in
set_option maxHeartbeats 4000000 in
theorem c_rcheck5 (o v r n : Int) (w : World) : Calls Tryd.prog 9 #[.agg #[.int .i64 5, .int .i64 o, .int .i64 v, .int .i64 r, .int .i64 n]] w fun e w' => e = .returned (.int .i64 (chkE 5 o v r n)) ∧ Below w.heap.size w w' := by
  cases hn : inB n 6
  case false =>
    have HC : Hid (chkE 5 o v r n = 8) := Lib.hid (by simp [chkE, kindB, firstE, numE, objE, valE, regE, ownE, othE, oth8, hn])
    go_enter Tryd.func9, Tryd.ntmps9
    go_wp2_with (first | (go_at_call 27; refine (c_rin _ _ _).mono ?_; rintro e w' ⟨rfl, rfl⟩) | (go_at_call 28; refine (c_rfine _ _).mono ?_; rintro e w' ⟨rfl, rfl⟩) | (go_at_call 29; refine (c_vfine _ _).mono ?_; rintro e w' ⟨rfl, rfl⟩))
    go_ret
    exact ⟨ret_int HC.out.symm, up_alloc _ _⟩
  case true =>
    by_cases zo : o = 0
    case neg =>
      have HC : Hid (chkE 5 o v r n = 3) := Lib.hid (by simp [chkE, kindB, firstE, numE, objE, valE, regE, ownE, othE, oth8, hn, zo])
      have to : (o != 0) = true := by simpa [bne] using zo
      clear zo
      go_enter Tryd.func9, Tryd.ntmps9
      go_wp2_with (first | (go_at_call 27; refine (c_rin _ _ _).mono ?_; rintro e w' ⟨rfl, rfl⟩) | (go_at_call 28; refine (c_rfine _ _).mono ?_; rintro e w' ⟨rfl, rfl⟩) | (go_at_call 29; refine (c_vfine _ _).mono ?_; rintro e w' ⟨rfl, rfl⟩))
      go_ret
      exact ⟨ret_int HC.out.symm, up_alloc _ _⟩
    case pos =>
      subst zo
      by_cases zv : v = 0
      case neg =>
        have HC : Hid (chkE 5 0 v r n = 3) := Lib.hid (by simp [chkE, kindB, firstE, numE, objE, valE, regE, ownE, othE, oth8, hn, zv])
        have tv : (v != 0) = true := by simpa [bne] using zv
        clear zv
        go_enter Tryd.func9, Tryd.ntmps9
        go_wp2_with (first | (go_at_call 27; refine (c_rin _ _ _).mono ?_; rintro e w' ⟨rfl, rfl⟩) | (go_at_call 28; refine (c_rfine _ _).mono ?_; rintro e w' ⟨rfl, rfl⟩) | (go_at_call 29; refine (c_vfine _ _).mono ?_; rintro e w' ⟨rfl, rfl⟩))
        go_ret
        exact ⟨ret_int HC.out.symm, up_alloc _ _⟩
      case pos =>
        subst zv
        by_cases zr : r = 0
        case neg =>
          have HC : Hid (chkE 5 0 0 r n = 3) := Lib.hid (by simp [chkE, kindB, firstE, numE, objE, valE, regE, ownE, othE, hn, zr])
          have tr : (r != 0) = true := by simpa [bne] using zr
          clear zr
          go_enter Tryd.func9, Tryd.ntmps9
          go_wp2_with (first | (go_at_call 27; refine (c_rin _ _ _).mono ?_; rintro e w' ⟨rfl, rfl⟩) | (go_at_call 28; refine (c_rfine _ _).mono ?_; rintro e w' ⟨rfl, rfl⟩) | (go_at_call 29; refine (c_vfine _ _).mono ?_; rintro e w' ⟨rfl, rfl⟩))
          go_ret
          exact ⟨ret_int HC.out.symm, up_alloc _ _⟩
        case pos =>
          subst zr
          have HC : Hid (chkE 5 0 0 0 n = 0) := Lib.hid (by simp [chkE, kindB, firstE, numE, objE, valE, regE, ownE, othE, hn])
          go_enter Tryd.func9, Tryd.ntmps9
          go_wp2_with (first | (go_at_call 27; refine (c_rin _ _ _).mono ?_; rintro e w' ⟨rfl, rfl⟩) | (go_at_call 28; refine (c_rfine _ _).mono ?_; rintro e w' ⟨rfl, rfl⟩) | (go_at_call 29; refine (c_vfine _ _).mono ?_; rintro e w' ⟨rfl, rfl⟩))
          go_ret
          exact ⟨ret_int HC.out.symm, up_alloc _ _⟩
set_option maxRecDepth 100000 in
set_option maxHeartbeats 4000000 in
theorem c_rcheck6 (o v r n : Int) (w : World) : Calls Tryd.prog 9 #[.agg #[.int .i64 6, .int .i64 o, .int .i64 v, .int .i64 r, .int .i64 n]] w fun e w' => e = .returned (.int .i64 (chkE 6 o v r n)) ∧ Below w.heap.size w w' := by
  cases hn : inB n 6
  case false =>
    have HC : Hid (chkE 6 o v r n = 8) := Lib.hid (by simp [chkE, kindB, firstE, numE, objE, valE, regE, ownE, othE, oth8, hn])
    go_enter Tryd.func9, Tryd.ntmps9
    go_wp2_with (first | (go_at_call 27; refine (c_rin _ _ _).mono ?_; rintro e w' ⟨rfl, rfl⟩) | (go_at_call 28; refine (c_rfine _ _).mono ?_; rintro e w' ⟨rfl, rfl⟩) | (go_at_call 29; refine (c_vfine _ _).mono ?_; rintro e w' ⟨rfl, rfl⟩))
    go_ret
    exact ⟨ret_int HC.out.symm, up_alloc _ _⟩
  case true =>
    cases hr : inB r 8
    case false =>
      have HC : Hid (chkE 6 o v r n = 8) := Lib.hid (by simp [chkE, kindB, firstE, numE, objE, valE, regE, ownE, othE, oth8, hr])
      go_enter Tryd.func9, Tryd.ntmps9
      go_wp2_with (first | (go_at_call 27; refine (c_rin _ _ _).mono ?_; rintro e w' ⟨rfl, rfl⟩) | (go_at_call 28; refine (c_rfine _ _).mono ?_; rintro e w' ⟨rfl, rfl⟩) | (go_at_call 29; refine (c_vfine _ _).mono ?_; rintro e w' ⟨rfl, rfl⟩))
      go_ret
      exact ⟨ret_int HC.out.symm, up_alloc _ _⟩
    case true =>
      cases hw : fineW v
      case false =>
        have HC : Hid (chkE 6 o v r n = 8) := Lib.hid (by simp [chkE, kindB, firstE, numE, objE, valE, regE, ownE, othE, oth8, hw])
        go_enter Tryd.func9, Tryd.ntmps9
        go_wp2_with (first | (go_at_call 27; refine (c_rin _ _ _).mono ?_; rintro e w' ⟨rfl, rfl⟩) | (go_at_call 28; refine (c_rfine _ _).mono ?_; rintro e w' ⟨rfl, rfl⟩) | (go_at_call 29; refine (c_vfine _ _).mono ?_; rintro e w' ⟨rfl, rfl⟩))
        go_ret
        exact ⟨ret_int HC.out.symm, up_alloc _ _⟩
      case true =>
        by_cases zo : o = 0
        case neg =>
          have HC : Hid (chkE 6 o v r n = 3) := Lib.hid (by simp [chkE, kindB, firstE, numE, objE, valE, regE, ownE, othE, hn, hr, hw, zo])
          have to : (o != 0) = true := by simpa [bne] using zo
          clear zo
          go_enter Tryd.func9, Tryd.ntmps9
          go_wp2_with (first | (go_at_call 27; refine (c_rin _ _ _).mono ?_; rintro e w' ⟨rfl, rfl⟩) | (go_at_call 28; refine (c_rfine _ _).mono ?_; rintro e w' ⟨rfl, rfl⟩) | (go_at_call 29; refine (c_vfine _ _).mono ?_; rintro e w' ⟨rfl, rfl⟩))
          go_ret
          exact ⟨ret_int HC.out.symm, up_alloc _ _⟩
        case pos =>
          subst zo
          have HC : Hid (chkE 6 0 v r n = 0) := Lib.hid (by simp [chkE, kindB, firstE, numE, objE, valE, regE, ownE, othE, hn, hr, hw])
          go_enter Tryd.func9, Tryd.ntmps9
          go_wp2_with (first | (go_at_call 27; refine (c_rin _ _ _).mono ?_; rintro e w' ⟨rfl, rfl⟩) | (go_at_call 28; refine (c_rfine _ _).mono ?_; rintro e w' ⟨rfl, rfl⟩) | (go_at_call 29; refine (c_vfine _ _).mono ?_; rintro e w' ⟨rfl, rfl⟩))
          go_ret
          exact ⟨ret_int HC.out.symm, up_alloc _ _⟩
set_option maxHeartbeats 1000000 in
theorem c_rcheck (k o v r n : Int) (w : World) : Calls Tryd.prog 9 #[.agg #[.int .i64 k, .int .i64 o, .int .i64 v, .int .i64 r, .int .i64 n]] w fun e w' => e = .returned (.int .i64 (chkE k o v r n)) ∧ Below w.heap.size w w' := by
  by_cases hk : 1 ≤ k ∧ k ≤ 6
  · rcases kinds hk.1 hk.2 with rfl | rfl | rfl | rfl | rfl | rfl
    · exact c_rcheck1 o v r n w
    · exact c_rcheck2 o v r n w
    · exact c_rcheck3 o v r n w
    · exact c_rcheck4 o v r n w
    · exact c_rcheck5 o v r n w
    · exact c_rcheck6 o v r n w
  · have HC := Lib.hid (chkE_no (k := k) (o := o) (v := v) (r := r) (n := n) (by
      cases h : kindB k
      · rfl
      · exact absurd ((kindB_iff k).1 h) hk))
    by_cases h1 : k < 1
    · clear hk
      go_enter Tryd.func9, Tryd.ntmps9
      go_wp2_with (first | (go_at_call 27; refine (c_rin _ _ _).mono ?_; rintro e w' ⟨rfl, rfl⟩) | (go_at_call 28; refine (c_rfine _ _).mono ?_; rintro e w' ⟨rfl, rfl⟩) | (go_at_call 29; refine (c_vfine _ _).mono ?_; rintro e w' ⟨rfl, rfl⟩))
      go_ret
      exact ⟨ret_int HC.out.symm, up_alloc _ _⟩
    · have h6 : 6 < k := by omega
      clear hk
      go_enter Tryd.func9, Tryd.ntmps9
      go_wp2_with (first | (go_at_call 27; refine (c_rin _ _ _).mono ?_; rintro e w' ⟨rfl, rfl⟩) | (go_at_call 28; refine (c_rfine _ _).mono ?_; rintro e w' ⟨rfl, rfl⟩) | (go_at_call 29; refine (c_vfine _ _).mono ?_; rintro e w' ⟨rfl, rfl⟩))
      go_ret
      exact ⟨ret_int HC.out.symm, up_alloc _ _⟩
end Go.Proofs.YtniijkdlphkpkaaDoor

/- Stage 9: the law whose region draws its order. -/
import Derived.Test.YtnmcieilpomkaaaDoorPt
import Derived.Lib.QuietBelow
import Derived.BigQuiet
import Derived.Deep.QuietTactic
namespace Go.Proofs.YtnmcieilpomkaaaDoor
open Go.RowKit

set_option maxHeartbeats 400000 in
theorem l_tells (op : Int) (w : World) (ht : OpT w) : Calls Tryd.prog 3 #[.int .i64 op] w fun e w' => e = .returned (.bool true) ∧ Below w.heap.size w w' := by
  have N := fun W (h : OpT W) => c_name op W h
  have F := fun W (h : OpT W) => c_form op W h
  have C := fun W (h : OpT W) => c_class op W h
  have O := c_of op w
  generalize nmO op = p at N O
  generalize fmO op = q at F O
  generalize clO op = c at C O
  go_enter Tryd.func3, Tryd.ntmps3
  go_wp2_with fail
  refine O.mono ?_
  rintro e w1 ⟨rfl, hb1⟩
  have hT := (ht.up hb1).up (up_alloc w1 (.cells #[.string ⟨p.toArray⟩, .string ⟨q.toArray⟩, .int .i64 c] 23))
  have HB := Lib.hid (up_trans hb1 (up_alloc w1 (.cells #[.string ⟨p.toArray⟩, .string ⟨q.toArray⟩, .int .i64 c] 23)))
  have k0 := cell_regrown ((Blk.new w1 [.string ⟨p.toArray⟩, .string ⟨q.toArray⟩, .int .i64 c] 23).cell 0 _ rfl)
  have k1 := cell_regrown ((Blk.new w1 [.string ⟨p.toArray⟩, .string ⟨q.toArray⟩, .int .i64 c] 23).cell 1 _ rfl)
  have k2 := cell_regrown ((Blk.new w1 [.string ⟨p.toArray⟩, .string ⟨q.toArray⟩, .int .i64 c] 23).cell 2 _ rfl)
  have cN := grown_call (w := w1.alloc (.cells #[.string ⟨p.toArray⟩, .string ⟨q.toArray⟩, .int .i64 c] 23)) fun W hW => N W (hT.up hW)
  have cF := grown_call (w := w1.alloc (.cells #[.string ⟨p.toArray⟩, .string ⟨q.toArray⟩, .int .i64 c] 23)) fun W hW => F W (hT.up hW)
  have cC := grown_call (w := w1.alloc (.cells #[.string ⟨p.toArray⟩, .string ⟨q.toArray⟩, .int .i64 c] 23)) fun W hW => C W (hT.up hW)
  have cA := grown_call (w := w1.alloc (.cells #[.string ⟨p.toArray⟩, .string ⟨q.toArray⟩, .int .i64 c] 23)) fun W hW => c_alive W (hT.up hW)
  have g1 : (p == p) = true := by simp
  have g2 : (q == q) = true := by simp
  have g3 : (c == c) = true := by simp
  clear N F C O hT ht hb1
  go_wp2_with fail
  refine wp_region_quiet_below (by kernel_rfl) (by kernel_rfl) ?_
  repeat (go_big_quiet_step (first | exact cN _ _ | exact cF _ _ | exact cC _ _ | exact cA _ _))
  refine wpQuiet_nil ?_
  intro _ hw'
  obtain ⟨⟨dq, osq⟩, hw''⟩ := hw'
  subst hw''
  go_wp2
  go_ret
  exact ⟨rfl, up_trans HB.out (below_regrown _ dq osq)⟩
end Go.Proofs.YtnmcieilpomkaaaDoor

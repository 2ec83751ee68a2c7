/- The contract of package frame's New. -/
import Derived.Test.YtdcaiecgholgiaaDoorFe
namespace Go.Proofs.YtdcaiecgholgiaaDoor
open Go.RowKit

set_option maxRecDepth 100000 in
set_option maxHeartbeats 1000000 in
theorem c_fnew (arg : Int) (w : World) :
    Calls Tryd.prog 7 #[.int .i64 arg] w fun e w' => e = .returned (.tuple #[.agg (newF arg).1.cells.toArray, .int .i64 (newF arg).2]) ∧ Below w.heap.size w w' := by
  have hR : Blk (w.alloc (.cells #[.int .i64 0, .bool false, .int .i64 0, .int .i64 0, .int .i64 0, .int .i64 0, .int .i64 0, .int .i64 0, .int .i64 0, .int .i64 0, .int .i64 0, .int .i64 0, .int .i64 0, .int .i64 0, .int .i64 0, .int .i64 0, .int .i64 0, .int .i64 0, .int .i64 0, .int .i64 0, .int .i64 0, .int .i64 0, .int .i64 0, .int .i64 0, .int .i64 0, .int .i64 0, .int .i64 0, .int .i64 0, .int .i64 0, .int .i64 0, .int .i64 0, .int .i64 0, .int .i64 0, .int .i64 0, .int .i64 0] 26)) w.heap.size FR.zero.cells 26 := Blk.new w FR.zero.cells 26
  have HR := Lib.hid hR
  clear hR
  have C2 := fun W => c_wfine arg W
  cases hb : fineW arg
  · have HV : newF arg = (FR.zero, 8) := if_neg (by rw [hb]; decide)
    rw [HV]
    simp only [hb] at C2
    clear HV hb
    go_enter Tryd.func7, Tryd.ntmps7
    go_wp2_with (first | (go_at_call 28; refine (C2 _).mono ?_; rintro e w' ⟨rfl, rfl⟩) | (refine st_prog FR.zero_ok FR.zero_ok HR.out rfl (.tmp 2) (.tmp 7) rfl rfl rfl ?_))
    refine bodyPost_ret (v := .tuple #[.agg FR.zero.cells.toArray, .int .i64 8]) (results_fe (fn := Tryd.f7) (p := 2) (t := 3) rfl _ _ _ FR.zero_ok rfl (HR.out.row _)) rfl ?_
    exact ⟨rfl, below_setRow (up_alloc _ _) (Nat.le_refl _) _⟩
  · have HV : newF arg = ({ FR.zero with regs := [arg, 0, 0, 0, 0, 0, 0, 0] }, 0) := if_pos hb
    rw [HV]
    have HG : ({ FR.zero with regs := [arg, 0, 0, 0, 0, 0, 0, 0] } : FR).Ok := ⟨rfl, rfl, rfl⟩
    simp only [hb] at C2
    clear HV hb
    go_enter Tryd.func7, Tryd.ntmps7
    go_wp2_with (first | (go_at_call 28; refine (C2 _).mono ?_; rintro e w' ⟨rfl, rfl⟩) | (refine st_prog HG FR.zero_ok HR.out rfl (.tmp 2) (.tmp 10) rfl rfl rfl ?_))
    refine bodyPost_ret (v := .tuple #[.agg ({ FR.zero with regs := [arg, 0, 0, 0, 0, 0, 0, 0] } : FR).cells.toArray, .int .i64 0]) (results_fe (fn := Tryd.f7) (p := 2) (t := 3) rfl _ _ _ HG rfl (HR.out.row _)) rfl ?_
    exact ⟨rfl, below_setRow (up_alloc _ _) (Nat.le_refl _) _⟩
end Go.Proofs.YtdcaiecgholgiaaDoor

/- The contract of the document's New. -/
import Derived.Test.YtdcaiecgholgiaaDoorFh
namespace Go.Proofs.YtdcaiecgholgiaaDoor
open Go.RowKit

theorem box_two (w : World) (o : Obj) (f : FR) (t : TypeId) : Blk ((w.alloc o).alloc (.cells f.cells.toArray t)) (w.heap.size + 1) f.cells t := by
  have := Blk.new (w.alloc o) f.cells t
  rwa [show (w.alloc o).heap.size = w.heap.size + 1 by simp] at this
set_option maxRecDepth 100000 in
set_option maxHeartbeats 1000000 in
theorem c_rnew (arg : Int) (w : World) :
    Calls Tryd.prog 8 #[.int .i64 arg] w fun e w' => e = .returned (.tuple #[.agg (newF arg).1.cells.toArray, .int .i64 (newF arg).2]) ∧ Below w.heap.size w w' := by
  have hR : Blk (w.alloc (.cells #[.int .i64 0, .bool false, .int .i64 0, .int .i64 0, .int .i64 0, .int .i64 0, .int .i64 0, .int .i64 0, .int .i64 0, .int .i64 0, .int .i64 0, .int .i64 0, .int .i64 0, .int .i64 0, .int .i64 0, .int .i64 0, .int .i64 0, .int .i64 0, .int .i64 0, .int .i64 0, .int .i64 0, .int .i64 0, .int .i64 0, .int .i64 0, .int .i64 0, .int .i64 0, .int .i64 0, .int .i64 0, .int .i64 0, .int .i64 0, .int .i64 0, .int .i64 0, .int .i64 0, .int .i64 0, .int .i64 0] 25)) w.heap.size FR.zero.cells 25 := Blk.new w FR.zero.cells 25
  have HR := Lib.hid hR
  clear hR
  have C2 := fun W => c_vfine arg W
  cases hb : fineW arg
  · have HV : newF arg = (FR.zero, 8) := if_neg (by rw [hb]; decide)
    rw [HV]
    simp only [hb] at C2
    clear HV hb
    go_enter Tryd.func8, Tryd.ntmps8
    go_wp2_with (first | (go_at_call 29; refine (C2 _).mono ?_; rintro e w' ⟨rfl, rfl⟩) | (refine st_ref FR.zero_ok FR.zero_ok HR.out rfl (.tmp 2) (.tmp 8) rfl rfl rfl ?_))
    refine bodyPost_ret (v := .tuple #[.agg FR.zero.cells.toArray, .int .i64 8]) (results_re (fn := Tryd.f8) (p := 2) (t := 3) rfl _ _ _ FR.zero_ok rfl (HR.out.row _)) rfl ?_
    exact ⟨rfl, below_setRow (up_alloc _ _) (Nat.le_refl _) _⟩
  · have HV : newF arg = ({ FR.zero with regs := [arg, 0, 0, 0, 0, 0, 0, 0] }, 0) := if_pos hb
    rw [HV]
    have HG : ({ FR.zero with regs := [arg, 0, 0, 0, 0, 0, 0, 0] } : FR).Ok := ⟨rfl, rfl, rfl⟩
    simp only [hb] at C2
    clear HV hb
    go_enter Tryd.func8, Tryd.ntmps8
    have hV := box_two w (.cells #[.int .i64 0, .bool false, .int .i64 0, .int .i64 0, .int .i64 0, .int .i64 0, .int .i64 0, .int .i64 0, .int .i64 0, .int .i64 0, .int .i64 0, .int .i64 0, .int .i64 0, .int .i64 0, .int .i64 0, .int .i64 0, .int .i64 0, .int .i64 0, .int .i64 0, .int .i64 0, .int .i64 0, .int .i64 0, .int .i64 0, .int .i64 0, .int .i64 0, .int .i64 0, .int .i64 0, .int .i64 0, .int .i64 0, .int .i64 0, .int .i64 0, .int .i64 0, .int .i64 0, .int .i64 0, .int .i64 0] 25) ({ FR.zero with regs := [arg, 0, 0, 0, 0, 0, 0, 0] } : FR) 25
    have HV := Lib.hid hV
    clear hV
    go_wp2_with (first | (go_at_call 29; refine (C2 _).mono ?_; rintro e w' ⟨rfl, rfl⟩) | (refine ld_ref HG HV.out rfl (.tmp 4) rfl rfl ?_) | (refine st_ref (t := 25) HG FR.zero_ok ?_ rfl (.tmp 2) (.tmp 12) rfl rfl rfl ?_; · exact (HR.out.alloc _)))
    refine bodyPost_ret (v := .tuple #[.agg ({ FR.zero with regs := [arg, 0, 0, 0, 0, 0, 0, 0] } : FR).cells.toArray, .int .i64 0]) (results_re (fn := Tryd.f8) (p := 2) (t := 3) rfl _ _ _ HG rfl ((HR.out.alloc _).row _)) rfl ?_
    exact ⟨rfl, below_setRow (up_trans (up_alloc _ _) (up_alloc _ _)) (Nat.le_refl _) _⟩
end Go.Proofs.YtdcaiecgholgiaaDoor

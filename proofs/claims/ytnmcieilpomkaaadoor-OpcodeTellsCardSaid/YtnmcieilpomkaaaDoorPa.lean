/- The contracts of package opcode's functions, where its table lies as its text lays it. -/
import Derived.Test.YtnmcieilpomkaaaDoorRows
import Derived.Test.YtnmcieilpomkaaaDoorPm
import Derived.BigRegion
import Derived.WalkKit
import Derived.WalkSpells
import Derived.IntWalk
import Derived.Lib.SliceRun
namespace Go.Proofs.YtnmcieilpomkaaaDoor
open Go.RowKit

/-- The program's table lies as its text lays it. -/
def OpT (w : World) : Prop := ∀ k, k < 48 → w.cell? ⟨0, k * 3, none⟩ = some (.string ⟨(nmN k).toArray⟩) ∧ w.cell? ⟨0, k * 3 + 1, none⟩ = some (.string ⟨(fmN k).toArray⟩) ∧ w.cell? ⟨0, k * 3 + 2, none⟩ = some (.int .i64 (clN k))

theorem OpT.up {w w' : World} (h : OpT w) (hb : Below w.heap.size w w') : OpT w' := by
  intro k hk
  obtain ⟨a, b, c⟩ := h k hk
  exact ⟨(hb.cell (World.block_lt_of_cell? _ _ a)).trans a, (hb.cell (World.block_lt_of_cell? _ _ b)).trans b, (hb.cell (World.block_lt_of_cell? _ _ c)).trans c⟩

set_option maxHeartbeats 400000 in
theorem at_no (op : Int) (w : World) (h : op < 0 ∨ 48 ≤ op) :
    Calls Tryd.prog 14 #[.int .i64 op] w fun e w' => e = .returned (.agg #[.string ⟨#[]⟩, .string ⟨#[]⟩, .int .i64 (-1)]) ∧ Below w.heap.size w w' := by
  have up := fun cs => up_alloc w (.cells cs 36)
  rcases h with h | h
  · go_enter Tryd.func14, Tryd.ntmps14
    go_wp2
    refine bodyPost_ret (v := .agg #[.string ⟨#[]⟩, .string ⟨#[]⟩, .int .i64 (-1)]) (by simp [results, Tryd.results14, go_sem]) rfl ⟨rfl, up _⟩
  · have h0 : ¬ op < 0 := by omega
    go_enter Tryd.func14, Tryd.ntmps14
    go_wp2
    refine bodyPost_ret (v := .agg #[.string ⟨#[]⟩, .string ⟨#[]⟩, .int .i64 (-1)]) (by simp [results, Tryd.results14, go_sem]) rfl ⟨rfl, up _⟩
set_option maxHeartbeats 400000 in
theorem at_yes (k : Nat) (hk : k < 48) (a b : ByteArray) (c : Int) (w : World) (h0 : w.cell? ⟨0, k * 3, none⟩ = some (.string a)) (h1 : w.cell? ⟨0, k * 3 + 1, none⟩ = some (.string b)) (h2 : w.cell? ⟨0, k * 3 + 2, none⟩ = some (.int .i64 c)) :
    Calls Tryd.prog 14 #[.int .i64 k] w fun e w' => e = .returned (.agg #[.string a, .string b, .int .i64 c]) ∧ Below w.heap.size w w' := by
  have up := fun cs => up_alloc w (.cells cs 36)
  have n0 : ¬ (k : Int) < 0 := by omega
  have n1 : ¬ (48 : Int) ≤ k := by omega
  have k0 := fun o => Lib.cell?_alloc_some o h0
  have k1 := fun o => Lib.cell?_alloc_some o h1
  have k2 := fun o => Lib.cell?_alloc_some o h2
  go_enter Tryd.func14, Tryd.ntmps14
  go_wp2
  refine bodyPost_ret (v := .agg #[.string a, .string b, .int .i64 c]) (by simp [results, Tryd.results14, go_sem]) rfl ⟨rfl, up _⟩
theorem c_at (op : Int) (w : World) (ht : OpT w) :
    Calls Tryd.prog 14 #[.int .i64 op] w fun e w' => e = .returned (.agg #[.string ⟨(nmO op).toArray⟩, .string ⟨(fmO op).toArray⟩, .int .i64 (clO op)]) ∧ Below w.heap.size w w' := by
  unfold nmO fmO clO
  by_cases h : op < 0 ∨ 48 ≤ op
  · rw [rowO_no op h]
    exact at_no op w h
  · obtain ⟨k, rfl⟩ := Int.eq_ofNat_of_zero_le (a := op) (by omega)
    rw [rowO_nat]
    obtain ⟨a, b, c⟩ := ht k (by omega)
    exact at_yes k (by omega) _ _ _ w a b c

theorem fld0 (a b : ByteArray) (c : Int) (w : World) : (Instr.field 36 (.agg #[.string a, .string b, .int .i64 c]) 0).run Tryd.prog w = .ok (.string a) w := by kernel_rfl
theorem fld1 (a b : ByteArray) (c : Int) (w : World) : (Instr.field 36 (.agg #[.string a, .string b, .int .i64 c]) 1).run Tryd.prog w = .ok (.string b) w := by kernel_rfl
theorem fld2 (a b : ByteArray) (c : Int) (w : World) : (Instr.field 36 (.agg #[.string a, .string b, .int .i64 c]) 2).run Tryd.prog w = .ok (.int .i64 c) w := by kernel_rfl
theorem c_name (op : Int) (w : World) (ht : OpT w) :
    Calls Tryd.prog 7 #[.int .i64 op] w fun e w' => e = .returned (.string ⟨(nmO op).toArray⟩) ∧ Below w.heap.size w w' := by
  have C := c_at op w ht
  have F := fld0 ⟨(nmO op).toArray⟩ ⟨(fmO op).toArray⟩ (clO op)
  go_enter Tryd.func7, Tryd.ntmps7
  go_wp2_with (go_at_call 14; refine C.mono ?_; rintro e w1 ⟨rfl, hb1⟩)
  go_ret
  exact ⟨rfl, hb1⟩
theorem c_form (op : Int) (w : World) (ht : OpT w) :
    Calls Tryd.prog 8 #[.int .i64 op] w fun e w' => e = .returned (.string ⟨(fmO op).toArray⟩) ∧ Below w.heap.size w w' := by
  have C := c_at op w ht
  have F := fld1 ⟨(nmO op).toArray⟩ ⟨(fmO op).toArray⟩ (clO op)
  go_enter Tryd.func8, Tryd.ntmps8
  go_wp2_with (go_at_call 14; refine C.mono ?_; rintro e w1 ⟨rfl, hb1⟩)
  go_ret
  exact ⟨rfl, hb1⟩
theorem c_class (op : Int) (w : World) (ht : OpT w) :
    Calls Tryd.prog 9 #[.int .i64 op] w fun e w' => e = .returned (.int .i64 (clO op)) ∧ Below w.heap.size w w' := by
  have C := c_at op w ht
  have F := fld2 ⟨(nmO op).toArray⟩ ⟨(fmO op).toArray⟩ (clO op)
  go_enter Tryd.func9, Tryd.ntmps9
  go_wp2_with (go_at_call 14; refine C.mono ?_; rintro e w1 ⟨rfl, hb1⟩)
  go_ret
  exact ⟨rfl, hb1⟩

set_option maxHeartbeats 400000 in
theorem c_find (l : List UInt8) (w : World) (ht : OpT w) :
    Calls Tryd.prog 11 #[.string ⟨l.toArray⟩] w fun e w' => e = .returned (.tuple #[.int .i64 (fdV l), .bool (fdB l)]) ∧ w = w' := by
  go_enter Tryd.func11, Tryd.ntmps11
  go_wp2
  go_loopw [5] (fun i wr => ∃ k : Nat, k ≤ 48 ∧ k ≤ idxN l ∧ i = .int .i64 k ∧ w = wr) (fun i _ => (48 - intOf i).toNat)
  case atStart => exact ⟨0, by omega, by omega, rfl, rfl⟩
  case round =>
    obtain ⟨k, hk, hle, rfl, rfl⟩ := hrel
    by_cases h9 : k < 48
    · obtain ⟨h0, _, _⟩ := ht k h9
      have n1 : (k : Int) < 48 := by omega
      cases hq : (nmN k == l)
      · have H := Lib.hid (idxN_next l k h9 hle hq)
        generalize nmN k = x at h0 hq
        go_wp2
        go_roundw
        case rel => exact ⟨k + 1, by omega, H.out, by go_num, trivial⟩
        case measure => simp [intOf]; omega
      · obtain ⟨e1, e2⟩ := fd_at l k h9 (idxN_at l k h9 hle hq)
        generalize nmN k = x at h0 hq
        have H1 := Lib.hid e1
        have H2 := Lib.hid e2
        clear e1 e2
        go_wp2
        go_ret2
        exact ⟨ret_ib H1.out.symm H2.out.symm, rfl⟩
    · have hz : 48 ≤ idxN l := by omega
      obtain ⟨e1, e2⟩ := fd_no l hz
      have H1 := Lib.hid e1
      have H2 := Lib.hid e2
      clear e1 e2
      go_wp2
      go_ret2
      exact ⟨ret_ib H1.out.symm H2.out.symm, rfl⟩
end Go.Proofs.YtnmcieilpomkaaaDoor

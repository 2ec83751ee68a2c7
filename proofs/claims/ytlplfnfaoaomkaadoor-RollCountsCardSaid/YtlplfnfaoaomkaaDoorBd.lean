/- The contracts of package bitset's Union, Inter, Less. -/
import Derived.Test.YtlplfnfaoaomkaaDoorBc
import Derived.Test.YtlplfnfaoaomkaaDoorM
import Derived.Laws.BitsAllLaws
namespace Go.Proofs.YtlplfnfaoaomkaaDoor
open Go.RowKit

/-- A set as a value, and as cells. -/
abbrev S4.cs (s : S4) : List Value := [.int .u64 (s.a.toNat : Int), .int .u64 (s.b.toNat : Int), .int .u64 (s.c.toNat : Int), .int .u64 (s.d.toNat : Int)]
abbrev S4.val (s : S4) : Value := .agg #[.int .u64 (s.a.toNat : Int), .int .u64 (s.b.toNat : Int), .int .u64 (s.c.toNat : Int), .int .u64 (s.d.toNat : Int)]
/-- The first k words of s, the rest of t. -/
def S4.mix (s t : S4) (k : Nat) : S4 := ⟨if 0 < k then s.a else t.a, if 1 < k then s.b else t.b, if 2 < k then s.c else t.c, if 3 < k then s.d else t.d⟩
theorem mix_0 (s t : S4) : s.mix t 0 = t := rfl
theorem mix_4 (s t : S4) : s.mix t 4 = s := rfl
theorem or_bv (x y : BitVec 64) : bits .or .u64 (x.toNat : Int) (y.toNat : Int) = ((x ||| y).toNat : Int) := by rw [u64_or_nat _ _ x.isLt y.isLt, BitVec.toNat_or]
theorem and_bv (x y : BitVec 64) : bits .and .u64 (x.toNat : Int) (y.toNat : Int) = ((x &&& y).toNat : Int) := by rw [u64_and_nat _ _ x.isLt y.isLt, BitVec.toNat_and]
theorem andnot_bv (x y : BitVec 64) : bits .andNot .u64 (x.toNat : Int) (y.toNat : Int) = ((x &&& ~~~y).toNat : Int) := by
  rw [u64_andNot_nat _ _ x.isLt y.isLt, BitVec.toNat_and, BitVec.toNat_not]

theorem Blk.new' (w : World) (cs : List Value) (t : TypeId) (n : Nat) (h : n = w.heap.size) : Blk (w.alloc (.cells cs.toArray t)) n cs t := h ▸ Blk.new w cs t
abbrev zero4 : List Value := [.int .u64 0, .int .u64 0, .int .u64 0, .int .u64 0]
theorem ix_0 (x y z u : Int) (w : World) : (Instr.index 29 (.agg #[.int .u64 x, .int .u64 y, .int .u64 z, .int .u64 u]) (.int .i64 0)).run Tryd.prog w = .ok (.int .u64 x) w := by kernel_rfl
theorem ix_1 (x y z u : Int) (w : World) : (Instr.index 29 (.agg #[.int .u64 x, .int .u64 y, .int .u64 z, .int .u64 u]) (.int .i64 1)).run Tryd.prog w = .ok (.int .u64 y) w := by kernel_rfl
theorem ix_2 (x y z u : Int) (w : World) : (Instr.index 29 (.agg #[.int .u64 x, .int .u64 y, .int .u64 z, .int .u64 u]) (.int .i64 2)).run Tryd.prog w = .ok (.int .u64 z) w := by kernel_rfl
theorem ix_3 (x y z u : Int) (w : World) : (Instr.index 29 (.agg #[.int .u64 x, .int .u64 y, .int .u64 z, .int .u64 u]) (.int .i64 3)).run Tryd.prog w = .ok (.int .u64 u) w := by kernel_rfl
theorem ix_w (s : S4) (k : Nat) (hk : k < 4) (w : World) : (Instr.index 29 s.val (.int .i64 (k : Int))).run Tryd.prog w = .ok (.int .u64 ((s.w k).toNat : Int)) w :=
  w_cases (fun k => (Instr.index 29 s.val (.int .i64 (k : Int))).run Tryd.prog w = .ok (.int .u64 ((s.w k).toNat : Int)) w) (ix_0 _ _ _ _ w) (ix_1 _ _ _ _ w) (ix_2 _ _ _ _ w) (ix_3 _ _ _ _ w) k hk
theorem andnot_nat (x y : BitVec 64) : ((x.toNat &&& (18446744073709551615 - y.toNat) : Nat) : Int) = ((x &&& ~~~y).toNat : Int) := by rw [BitVec.toNat_and, BitVec.toNat_not]

set_option maxHeartbeats 1000000 in
theorem c_union (s t : S4) (w : World) :
    Calls Tryd.prog 42 #[s.val, t.val] w fun e w' => e = .returned (s.uni t).val ∧ Below w.heap.size w w' := by
  go_enter Tryd.func42, Tryd.ntmps42
  go_wp2
  go_loopw [8] (fun i wr => ∃ k : Nat, k ≤ 4 ∧ i = .int .i64 k ∧ Below w.heap.size w wr ∧ Blk wr w.heap.size ((s.uni t).mix s k).cs 29 ∧ Blk wr (w.heap.size + 1 + 1) zero4 29) (fun i _ => 4 - (intOf i).toNat)
  case atStart => exact ⟨0, Nat.zero_le _, rfl, (((Below.refl _ _).alloc (Nat.le_refl _) _).alloc (by simp) _).alloc (by simp; omega) _, ((Blk.new w s.cs 29).alloc _).alloc _, Blk.new' _ zero4 _ _ (by simp)⟩
  case round =>
    obtain ⟨k, hk, rfl, hb, hB, hR⟩ := hrel
    have c0 := hB.cell 0 _ rfl
    have c1 := hB.cell 1 _ rfl
    have c2 := hB.cell 2 _ rfl
    have c3 := hB.cell 3 _ rfl
    have f0 := hB.free 0
    have f1 := hB.free 1
    have f2 := hB.free 2
    have f3 := hB.free 3
    rcases (by omega : k = 0 ∨ k = 1 ∨ k = 2 ∨ k = 3 ∨ k = 4) with rfl | rfl | rfl | rfl | rfl
    · rw [show ((0 : Nat) : Int) = 0 from rfl]
      have ix := ix_0
      go_wp2_with (rw [or_bv])
      go_roundw
      case rel => exact ⟨1, by omega, rfl, hb.setCell (by simp) _, hB.set 0 _, hR.other _ (by simp; omega) _⟩
      case measure => simp [intOf]
    · rw [show ((1 : Nat) : Int) = 1 from rfl]
      have ix := ix_1
      go_wp2_with (rw [or_bv])
      go_roundw
      case rel => exact ⟨2, by omega, rfl, hb.setCell (by simp) _, hB.set 1 _, hR.other _ (by simp; omega) _⟩
      case measure => simp [intOf]
    · rw [show ((2 : Nat) : Int) = 2 from rfl]
      have ix := ix_2
      go_wp2_with (rw [or_bv])
      go_roundw
      case rel => exact ⟨3, by omega, rfl, hb.setCell (by simp) _, hB.set 2 _, hR.other _ (by simp; omega) _⟩
      case measure => simp [intOf]
    · rw [show ((3 : Nat) : Int) = 3 from rfl]
      have ix := ix_3
      go_wp2_with (rw [or_bv])
      go_roundw
      case rel => exact ⟨4, by omega, rfl, hb.setCell (by simp) _, hB.set 3 _, hR.other _ (by simp; omega) _⟩
      case measure => simp [intOf]
    · rw [show ((4 : Nat) : Int) = 4 from rfl]
      rw [mix_4] at hB
      clear c0 c1 c2 c3
      have c0 := hB.cell 0 _ rfl
      have c1 := hB.cell 1 _ rfl
      have c2 := hB.cell 2 _ rfl
      have c3 := hB.cell 3 _ rfl
      have r0 := hR.cell 0 _ rfl
      have r1 := hR.cell 1 _ rfl
      have r2 := hR.cell 2 _ rfl
      have r3 := hR.cell 3 _ rfl
      have g0 := hR.free 0
      have g1 := hR.free 1
      have g2 := hR.free 2
      have g3 := hR.free 3
      go_wp2
      exact bodyPost_ret (v := (s.uni t).val) (by simp [results, Tryd.results42, go_sem, r0, r1, r2, r3]) rfl ⟨rfl, (((hb.setCell (by simp <;> omega) _).setCell (by simp <;> omega) _).setCell (by simp <;> omega) _).setCell (by simp <;> omega) _⟩

set_option maxHeartbeats 1000000 in
theorem c_inter (s t : S4) (w : World) :
    Calls Tryd.prog 40 #[s.val, t.val] w fun e w' => e = .returned (s.int t).val ∧ Below w.heap.size w w' := by
  go_enter Tryd.func40, Tryd.ntmps40
  go_wp2
  go_loopw [8] (fun i wr => ∃ k : Nat, k ≤ 4 ∧ i = .int .i64 k ∧ Below w.heap.size w wr ∧ Blk wr w.heap.size ((s.int t).mix s k).cs 29 ∧ Blk wr (w.heap.size + 1 + 1) zero4 29) (fun i _ => 4 - (intOf i).toNat)
  case atStart => exact ⟨0, Nat.zero_le _, rfl, (((Below.refl _ _).alloc (Nat.le_refl _) _).alloc (by simp) _).alloc (by simp; omega) _, ((Blk.new w s.cs 29).alloc _).alloc _, Blk.new' _ zero4 _ _ (by simp)⟩
  case round =>
    obtain ⟨k, hk, rfl, hb, hB, hR⟩ := hrel
    have c0 := hB.cell 0 _ rfl
    have c1 := hB.cell 1 _ rfl
    have c2 := hB.cell 2 _ rfl
    have c3 := hB.cell 3 _ rfl
    have f0 := hB.free 0
    have f1 := hB.free 1
    have f2 := hB.free 2
    have f3 := hB.free 3
    rcases (by omega : k = 0 ∨ k = 1 ∨ k = 2 ∨ k = 3 ∨ k = 4) with rfl | rfl | rfl | rfl | rfl
    · rw [show ((0 : Nat) : Int) = 0 from rfl]
      have ix := ix_0
      go_wp2_with (rw [and_bv])
      go_roundw
      case rel => exact ⟨1, by omega, rfl, hb.setCell (by simp) _, hB.set 0 _, hR.other _ (by simp; omega) _⟩
      case measure => simp [intOf]
    · rw [show ((1 : Nat) : Int) = 1 from rfl]
      have ix := ix_1
      go_wp2_with (rw [and_bv])
      go_roundw
      case rel => exact ⟨2, by omega, rfl, hb.setCell (by simp) _, hB.set 1 _, hR.other _ (by simp; omega) _⟩
      case measure => simp [intOf]
    · rw [show ((2 : Nat) : Int) = 2 from rfl]
      have ix := ix_2
      go_wp2_with (rw [and_bv])
      go_roundw
      case rel => exact ⟨3, by omega, rfl, hb.setCell (by simp) _, hB.set 2 _, hR.other _ (by simp; omega) _⟩
      case measure => simp [intOf]
    · rw [show ((3 : Nat) : Int) = 3 from rfl]
      have ix := ix_3
      go_wp2_with (rw [and_bv])
      go_roundw
      case rel => exact ⟨4, by omega, rfl, hb.setCell (by simp) _, hB.set 3 _, hR.other _ (by simp; omega) _⟩
      case measure => simp [intOf]
    · rw [show ((4 : Nat) : Int) = 4 from rfl]
      rw [mix_4] at hB
      clear c0 c1 c2 c3
      have c0 := hB.cell 0 _ rfl
      have c1 := hB.cell 1 _ rfl
      have c2 := hB.cell 2 _ rfl
      have c3 := hB.cell 3 _ rfl
      have r0 := hR.cell 0 _ rfl
      have r1 := hR.cell 1 _ rfl
      have r2 := hR.cell 2 _ rfl
      have r3 := hR.cell 3 _ rfl
      have g0 := hR.free 0
      have g1 := hR.free 1
      have g2 := hR.free 2
      have g3 := hR.free 3
      go_wp2
      exact bodyPost_ret (v := (s.int t).val) (by simp [results, Tryd.results40, go_sem, r0, r1, r2, r3]) rfl ⟨rfl, (((hb.setCell (by simp <;> omega) _).setCell (by simp <;> omega) _).setCell (by simp <;> omega) _).setCell (by simp <;> omega) _⟩

set_option maxHeartbeats 1000000 in
theorem c_less (s t : S4) (w : World) :
    Calls Tryd.prog 43 #[s.val, t.val] w fun e w' => e = .returned (s.les t).val ∧ Below w.heap.size w w' := by
  go_enter Tryd.func43, Tryd.ntmps43
  go_wp2
  go_loopw [8] (fun i wr => ∃ k : Nat, k ≤ 4 ∧ i = .int .i64 k ∧ Below w.heap.size w wr ∧ Blk wr w.heap.size ((s.les t).mix s k).cs 29 ∧ Blk wr (w.heap.size + 1 + 1) zero4 29) (fun i _ => 4 - (intOf i).toNat)
  case atStart => exact ⟨0, Nat.zero_le _, rfl, (((Below.refl _ _).alloc (Nat.le_refl _) _).alloc (by simp) _).alloc (by simp; omega) _, ((Blk.new w s.cs 29).alloc _).alloc _, Blk.new' _ zero4 _ _ (by simp)⟩
  case round =>
    obtain ⟨k, hk, rfl, hb, hB, hR⟩ := hrel
    have c0 := hB.cell 0 _ rfl
    have c1 := hB.cell 1 _ rfl
    have c2 := hB.cell 2 _ rfl
    have c3 := hB.cell 3 _ rfl
    have f0 := hB.free 0
    have f1 := hB.free 1
    have f2 := hB.free 2
    have f3 := hB.free 3
    rcases (by omega : k = 0 ∨ k = 1 ∨ k = 2 ∨ k = 3 ∨ k = 4) with rfl | rfl | rfl | rfl | rfl
    · rw [show ((0 : Nat) : Int) = 0 from rfl]
      have ix := ix_0
      go_wp2
      go_roundw
      case rel => exact ⟨1, by omega, rfl, hb.setCell (by simp) _, by rw [andnot_bv]; exact hB.set 0 _, hR.other _ (by simp; omega) _⟩
      case measure => simp [intOf]
    · rw [show ((1 : Nat) : Int) = 1 from rfl]
      have ix := ix_1
      go_wp2
      go_roundw
      case rel => exact ⟨2, by omega, rfl, hb.setCell (by simp) _, by rw [andnot_bv]; exact hB.set 1 _, hR.other _ (by simp; omega) _⟩
      case measure => simp [intOf]
    · rw [show ((2 : Nat) : Int) = 2 from rfl]
      have ix := ix_2
      go_wp2
      go_roundw
      case rel => exact ⟨3, by omega, rfl, hb.setCell (by simp) _, by rw [andnot_bv]; exact hB.set 2 _, hR.other _ (by simp; omega) _⟩
      case measure => simp [intOf]
    · rw [show ((3 : Nat) : Int) = 3 from rfl]
      have ix := ix_3
      go_wp2
      go_roundw
      case rel => exact ⟨4, by omega, rfl, hb.setCell (by simp) _, by rw [andnot_bv]; exact hB.set 3 _, hR.other _ (by simp; omega) _⟩
      case measure => simp [intOf]
    · rw [show ((4 : Nat) : Int) = 4 from rfl]
      rw [mix_4] at hB
      clear c0 c1 c2 c3
      have c0 := hB.cell 0 _ rfl
      have c1 := hB.cell 1 _ rfl
      have c2 := hB.cell 2 _ rfl
      have c3 := hB.cell 3 _ rfl
      have r0 := hR.cell 0 _ rfl
      have r1 := hR.cell 1 _ rfl
      have r2 := hR.cell 2 _ rfl
      have r3 := hR.cell 3 _ rfl
      have g0 := hR.free 0
      have g1 := hR.free 1
      have g2 := hR.free 2
      have g3 := hR.free 3
      go_wp2
      exact bodyPost_ret (v := (s.les t).val) (by simp [results, Tryd.results43, go_sem, r0, r1, r2, r3]) rfl ⟨rfl, (((hb.setCell (by simp <;> omega) _).setCell (by simp <;> omega) _).setCell (by simp <;> omega) _).setCell (by simp <;> omega) _⟩
end Go.Proofs.YtlplfnfaoaomkaaDoor

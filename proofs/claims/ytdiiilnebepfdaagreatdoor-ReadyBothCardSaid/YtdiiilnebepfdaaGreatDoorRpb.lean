/- To of layer 23, in new memory; the law's plain of layer 29. -/
import Derived.Test.YtdiiilnebepfdaaGreatDoorRpa
import Derived.Test.YtdiiilnebepfdaaGreatDoorD6
import Derived.Test.YtdiiilnebepfdaaGreatDoorR6
namespace Go.Proofs.YtdiiilnebepfdaaGreatDoor
open Go.RowKit

def TPn (w : World) (n : Nat) (L : List BR) (e : Ending) (w' : World) : Prop := ∃ A c, e = .returned (.slice A n c) ∧ RD w' (w.heap.size ≤ ·) 11 A n (L.flatMap brC) ∧ Below w.heap.size w w'
set_option maxRecDepth 100000 in
set_option maxHeartbeats 4000000 in
theorem c_to23n {w : World} {A : Option Addr} {n c : Nat} {L : List BR} (h : DT w A n L) (hn : n ≤ 100000) :
    Calls Tryz.prog 25 #[.slice A n c] w (TPn w n L) := by
  have HT := Lib.hid h
  have HL := Lib.hid h.len
  clear h
  go_enter Tryz.func25, Tryz.ntmps25
  go_wp2_with fail
  go_loopw [3, 8] (fun s i wr => ∃ k : Nat, k ≤ n ∧ i = .int .i64 k ∧ wr.ownsRow w.heap.size 139 11 s k ((L.take k).flatMap brC) ∧ Below w.heap.size w wr) (fun _ i _ => n - (intOf i).toNat)
  case atStart => exact ⟨0, Nat.zero_le _, rfl, World.ownsRow_nil _ _ _ _, Below.refl _ _⟩
  case round =>
    obtain ⟨k, hk, rfl, hown, hbw⟩ := hrel
    by_cases hlt : k < n
    · obtain ⟨b, o, q, M, rfl, _, hq, hrg, hdw⟩ := (HT.out.below hbw).at_ k hlt
      have HS : Hid (L.take (k + 1) = L.take k ++ [q]) := Lib.hid (by rw [List.take_add_one, hq]; rfl)
      have HRG := Lib.hid hrg
      have HB := Lib.hid hbw
      have HO := Lib.hid hown
      have hup := up_alloc wr (.cells (dbC q M).toArray 113)
      have HBX := Lib.hid (Blk.new wr (dbC q M) 113)
      have CT := Lib.hid (c_to22 (hdw.below hup))
      have HUP := Lib.hid hup
      clear hq hrg hown hbw hdw hup
      go_wp2_with (first | (refine lmr (b := b) (q := o + k * 5) (cs := dbC q M) (.tmp 10) rfl rfl Tryz.underlying113 rfl info_db rfl ?_ ?_; (· exact HRG.out)) | (refine snr (t := 113) (W := wr) (cs := dbC q M) (zs := dbZ) (.tmp 5) (.tmp 11) rfl rfl rfl rfl info_db rfl dbC_one ?_ ?_ ?_; (· rfl); (· rfl)) | (refine ldr (b := wr.heap.size) (cs := dbC q M) (t := 113) (.tmp 5) rfl rfl Tryz.underlying113 rfl info_db rfl ?_ ?_; (· exact HBX.out)))
      refine CT.out.mono ?_; rintro e w2 ⟨rfl, hb2⟩
      have hb3 := up_trans HUP.out hb2
      have HB3 := Lib.hid hb3
      have HO3 := Lib.hid (own_below (own_below HO.out hb3) (up_alloc w2 (.cells (brC q).toArray 139)))
      have HY : Hid (w.heap.size ≤ (w2.alloc (.cells (brC q).toArray 139)).heap.size) := Lib.hid (by have h1 := HB.out.size; have h2 := hb3.size; simp; omega)
      clear hb2 hb3
      go_wp2_with (first | (refine wpList_oneP ei_bt rfl (.tmp 14) rfl q rfl ?_) | (at_builtin; refine wpList_app ei_bt rfl (.tmp 12) (.tmp 15) rfl _ _ rfl HO3.out rfl (RD.oneK pB (q := q) rfl) (pB.oneL [q]) (by omega) HY.out ?_; intro v4 w4 hown4 hb4; have HO4 := Lib.hid hown4; have HB4 := Lib.hid hb4; clear hown4 hb4))
      go_roundw
      case rel => exact ⟨k + 1, by omega, by go_num, by rw [HS.out, List.flatMap_append]; exact HO4.out, (up_trans HB.out (up_trans HB3.out (up_alloc _ _))).trans HB4.out⟩
      case measure => simp [intOf]; omega
    · obtain rfl : k = n := by omega
      have HO := Lib.hid hown
      have HB := Lib.hid hbw
      clear hown hbw
      go_wp2
      go_ret
      have h1 := HO.out
      rw [List.take_of_length_le (by rw [HL.out]; exact Nat.le_refl _)] at h1
      obtain ⟨A', c', rfl, _, _, h4⟩ := own_slice h1
      exact ⟨A', c', rfl, h4, HB.out⟩

theorem wpList_oneW {P : Program} {w : World} {ops : Array Oper} {rest : List Oper} {o : Oper} {a : Act} {Q : Exit → Act → World → Prop} {t e : TypeId} {bytes : Nat} (E : EI P t e (.agg (([.int .i64 0, .slice none 0 0] : List Value)).toArray) 2 bytes) (hg : o.guard = none) (x : Operand)
    (ho : o.op = .buildSlice t 1 #[(0, x)]) (b : WQ) (hx : a.eval x = .agg (wqC b).toArray)
    (h : wpList P ops Q rest (a.put o.dst (.slice (some ⟨w.heap.size, 0, none⟩) 1 1)) (w.alloc (.cells (wqC b).toArray e))) : wpList P ops Q (o :: rest) a w := by
  obtain ⟨i, hi, hz, hs, hb⟩ := info_parts E.info
  refine wpList_buildSlice hg t e 1 _ ho (wqC b).toArray i _ E.under hi hz (by rw [hs]; decide) (by rw [hs]; decide) ?_ h
  rw [hs]
  have e1 : ((#[(0, x)] : Array (Nat × Operand)).map fun (i, x) => (i, a.eval x)).toList = [(0, .agg (wqC b).toArray)] := by simp [hx]
  rw [e1]
  have e2 : Instr.fill (fun i => some (i * 2, 2)) ((Array.range (1 * 2)).map ((Value.agg (([.int .i64 0, .slice none 0 0] : List Value)).toArray).cells[· % (Value.agg (([.int .i64 0, .slice none 0 0] : List Value)).toArray).cells.size]!)) [(0, .agg (wqC b).toArray)] = some (wqC b).toArray := by kernel_rfl
  exact e2
theorem wpList_oneTm {P : Program} {w : World} {ops : Array Oper} {rest : List Oper} {o : Oper} {a : Act} {Q : Exit → Act → World → Prop} {t e : TypeId} {bytes : Nat} (E : EI P t e (.agg (([.int .i64 0, .int .i64 0, .int .i64 0] : List Value)).toArray) 3 bytes) (hg : o.guard = none) (x : Operand)
    (ho : o.op = .buildSlice t 1 #[(0, x)]) (b : Tm) (hx : a.eval x = .agg (tmV b).toArray)
    (h : wpList P ops Q rest (a.put o.dst (.slice (some ⟨w.heap.size, 0, none⟩) 1 1)) (w.alloc (.cells (tmV b).toArray e))) : wpList P ops Q (o :: rest) a w := by
  obtain ⟨i, hi, hz, hs, hb⟩ := info_parts E.info
  refine wpList_buildSlice hg t e 1 _ ho (tmV b).toArray i _ E.under hi hz (by rw [hs]; decide) (by rw [hs]; decide) ?_ h
  rw [hs]
  have e1 : ((#[(0, x)] : Array (Nat × Operand)).map fun (i, x) => (i, a.eval x)).toList = [(0, .agg (tmV b).toArray)] := by simp [hx]
  rw [e1]
  have e2 : Instr.fill (fun i => some (i * 3, 3)) ((Array.range (1 * 3)).map ((Value.agg (([.int .i64 0, .int .i64 0, .int .i64 0] : List Value)).toArray).cells[· % (Value.agg (([.int .i64 0, .int .i64 0, .int .i64 0] : List Value)).toArray).cells.size]!)) [(0, .agg (tmV b).toArray)] = some (tmV b).toArray := by kernel_rfl
  exact e2
theorem ei_pw : EI Tryz.prog 37 61 (.agg ([.int .i64 0, .slice none 0 0] : List Value).toArray) 2 32 := ⟨Tryz.underlying37, by kernel_rfl, rfl, by omega, by omega⟩
theorem ei_pt : EI Tryz.prog 38 82 (.agg ([.int .i64 0, .int .i64 0, .int .i64 0] : List Value).toArray) 3 24 := ⟨Tryz.underlying38, by kernel_rfl, rfl, by omega, by omega⟩
theorem info_rvw : (Tryz.prog.info? 28).map (·.size) = some 6 := by kernel_rfl
end Go.Proofs.YtdiiilnebepfdaaGreatDoor

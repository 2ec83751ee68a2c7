/- To of layer 23, in new memory; the law's plain of layer 29. -/
import Derived.Test.YtdiiilnebepfdaaGreatDoorRpa
import Derived.Test.YtdiiilnebepfdaaGreatDoorD6
import Derived.Test.YtdiiilnebepfdaaGreatDoorRee
namespace Go.Proofs.YtdiiilnebepfdaaGreatDoor
open Go.RowKit

def TPn (w : World) (n : Nat) (L : List BR) (e : Ending) (w' : World) : Prop := ∃ A c, e = .returned (.slice A n c) ∧ RD w' (w.heap.size ≤ ·) 11 A n (L.flatMap brC) ∧ Below w.heap.size w w'
def dBn (lo : Nat) : Mk (BR × DM) := ⟨fun q => dbC q.1 q.2, 5, fun _ => rfl, by omega, fun _ => dbC_one, fun pl q w => DW w (fun b => pl b ∧ lo ≤ b) q.1.r q.2, fun h o hs => h.only o (fun k hk e => hs k hk e.1), fun h hl => h.lo (fun b hb => ⟨hl b hb.1, hb.2⟩), fun h => h.lt.lo (fun b hb => ⟨⟨hb.1.1, hb.2⟩, hb.1.2⟩)⟩
def EPTn (w : World) (n : Nat) (L : List BR) (e : Ending) (w' : World) : Prop :=
  ∃ A' c', e = .returned (.slice A' n c') ∧ (∃ Z, TW dB w' (w.heap.size ≤ ·) A' n Z ∧ Z.map Prod.fst = L) ∧ Below w.heap.size w w'
set_option maxRecDepth 100000 in
set_option maxHeartbeats 4000000 in
theorem c_to23n {w : World} {A : Option Addr} {n c : Nat} {L : List BR} (h : DT w A n L) (hn : n ≤ 100000) :
    Calls Tryz.prog 25 #[.slice A n c] w (TPn w n L) := by
  have HT := Lib.hid h
  have HL := Lib.hid h.len
  clear h
  go_enter Tryz.func25, Tryz.ntmps25
  go_wp2_with fail
  go_loopw [3, 8] (fun s i wr => ∃ k : Nat, k ≤ n ∧ i = .int .i64 k ∧ wr.ownsRow w.heap.size 139 11 s k ((L.take k).flatMap brC) ∧ Below w.heap.size w wr) (fun _ i _ => n - (intOf i).toNat)
  case atStart => exact ⟨0, Nat.zero_le _, rfl, World.ownsRow_nil _ _ _ _, Below.refl _ _⟩
  case round =>
    obtain ⟨k, hk, rfl, hown, hbw⟩ := hrel
    by_cases hlt : k < n
    · obtain ⟨b, o, q, M, rfl, _, hq, hrg, hdw⟩ := (HT.out.below hbw).at_ k hlt
      have HS : Hid (L.take (k + 1) = L.take k ++ [q]) := Lib.hid (by rw [List.take_add_one, hq]; rfl)
      have HRG := Lib.hid hrg
      have HB := Lib.hid hbw
      have HO := Lib.hid hown
      have hup := up_alloc wr (.cells (dbC q M).toArray 113)
      have HBX := Lib.hid (Blk.new wr (dbC q M) 113)
      have CT := Lib.hid (c_to22 (hdw.below hup))
      have HUP := Lib.hid hup
      clear hq hrg hown hbw hdw hup
      go_wp2_with (first | (refine lmr (b := b) (q := o + k * 5) (cs := dbC q M) (.tmp 10) rfl rfl Tryz.underlying113 rfl info_db rfl ?_ ?_; (· exact HRG.out)) | (refine snr (t := 113) (W := wr) (cs := dbC q M) (zs := dbZ) (.tmp 5) (.tmp 11) rfl rfl rfl rfl info_db rfl dbC_one ?_ ?_ ?_; (· rfl); (· rfl)) | (refine ldr (b := wr.heap.size) (cs := dbC q M) (t := 113) (.tmp 5) rfl rfl Tryz.underlying113 rfl info_db rfl ?_ ?_; (· exact HBX.out)))
      refine CT.out.mono ?_; rintro e w2 ⟨rfl, hb2⟩
      have hb3 := up_trans HUP.out hb2
      have HB3 := Lib.hid hb3
      have HO3 := Lib.hid (own_below (own_below HO.out hb3) (up_alloc w2 (.cells (brC q).toArray 139)))
      have HY : Hid (w.heap.size ≤ (w2.alloc (.cells (brC q).toArray 139)).heap.size) := Lib.hid (by have h1 := HB.out.size; have h2 := hb3.size; simp; omega)
      clear hb2 hb3
      go_wp2_with (first | (refine wpList_oneP ei_bt rfl (.tmp 14) rfl q rfl ?_) | (at_builtin; refine wpList_app ei_bt rfl (.tmp 12) (.tmp 15) rfl _ _ rfl HO3.out rfl (RD.oneK pB (q := q) rfl) (pB.oneL [q]) (by omega) HY.out ?_; intro v4 w4 hown4 hb4; have HO4 := Lib.hid hown4; have HB4 := Lib.hid hb4; clear hown4 hb4))
      go_roundw
      case rel => exact ⟨k + 1, by omega, by go_num, by rw [HS.out, List.flatMap_append]; exact HO4.out, (up_trans HB.out (up_trans HB3.out (up_alloc _ _))).trans HB4.out⟩
      case measure => simp [intOf]; omega
    · obtain rfl : k = n := by omega
      have HO := Lib.hid hown
      have HB := Lib.hid hbw
      clear hown hbw
      go_wp2
      go_ret
      have h1 := HO.out
      rw [List.take_of_length_le (by rw [HL.out]; exact Nat.le_refl _)] at h1
      obtain ⟨A', c', rfl, _, _, h4⟩ := own_slice h1
      exact ⟨A', c', rfl, h4, HB.out⟩

set_option maxRecDepth 100000 in
set_option maxHeartbeats 4000000 in
theorem c_plain23n {w : World} {A : Option Addr} {n c : Nat} {Q : List RB} (h : TW rB w tt A n Q) (hs : smallT Q = true) :
    Calls Tryz.prog 26 #[.slice A n c] w (EPTn w n (Q.map rbP)) := by
  have hn : n ≤ 10 := by rw [← h.len]; exact (smallT_iff hs).1
  have HT := Lib.hid h
  have HSM := Lib.hid (smallT_iff hs).2
  have hl : (Q.map rbP).length = n := by rw [List.length_map, h.len]
  have HL := Lib.hid hl
  clear h hs hl
  go_enter Tryz.func26, Tryz.ntmps26
  go_wp2_with fail
  go_loopw [3, 8] (fun s i wr => ∃ k : Nat, k ≤ n ∧ i = .int .i64 k ∧ ∃ Z, OT (dBn w.heap.size) wr 113 w.heap.size s k Z ∧ Z.map Prod.fst = (Q.map rbP).take k ∧ Below w.heap.size w wr) (fun _ i _ => n - (intOf i).toNat)
  case atStart => exact ⟨0, Nat.zero_le _, rfl, [], OT.nil _ _ _ _, rfl, Below.refl _ _⟩
  case round =>
    obtain ⟨k, hk, rfl, Z, hown, hZ, hbw⟩ := hrel
    by_cases hlt : k < n
    · obtain ⟨b, o, q, rfl, _, _, hq, hrg, hE⟩ := (HT.out.below hbw).at_ k hlt
      have HS : Hid ((Q.map rbP).take (k + 1) = (Q.map rbP).take k ++ [rbP q]) := Lib.hid (by rw [List.take_add_one, List.getElem?_map, hq]; rfl)
      have HRG : Hid (wr.rangeAt b (o + k * 5) (dbI q.al q.lim q.A q.L.length q.c q.B q.N.length q.d q.ph)) := Lib.hid hrg
      have HB := Lib.hid hbw
      have HO := Lib.hid hown
      have HZ := Lib.hid hZ
      have hup := up_alloc wr (.cells (dbI q.al q.lim q.A q.L.length q.c q.B q.N.length q.d q.ph).toArray 113)
      have HBX := Lib.hid (Blk.new wr (dbI q.al q.lim q.A q.L.length q.c q.B q.N.length q.d q.ph) 113)
      have hsm := HSM.out q (List.mem_of_getElem? hq)
      have CT : Hid (Calls Tryz.prog 63 #[.agg (dbI q.al q.lim q.A q.L.length q.c q.B q.N.length q.d q.ph).toArray] (wr.alloc (.cells (dbI q.al q.lim q.A q.L.length q.c q.B q.N.length q.d q.ph).toArray 113)) (EPostN (wr.alloc (.cells (dbI q.al q.lim q.A q.L.length q.c q.B q.N.length q.d q.ph).toArray 113)) (rbP q))) := Lib.hid (c_plain22 q.al q.lim q.ph (hE.1.below hup) (hE.2.below hup) (by omega) (by omega))
      generalize rbP q = qp at CT HS
      have HUP := Lib.hid hup
      clear hq hrg hown hbw hup hZ hE hsm
      go_wp2_with (first | (refine lmr (b := b) (q := o + k * 5) (cs := dbI q.al q.lim q.A q.L.length q.c q.B q.N.length q.d q.ph) (.tmp 10) rfl rfl Tryz.underlying113 rfl info_db rfl ?_ ?_; (· exact HRG.out)) | (refine snr (t := 113) (W := wr) (cs := dbI q.al q.lim q.A q.L.length q.c q.B q.N.length q.d q.ph) (zs := dbZ) (.tmp 5) (.tmp 11) rfl rfl rfl rfl info_db rfl (rbC_one (r := q)) ?_ ?_ ?_; (· rfl); (· rfl)) | (refine ldr (b := wr.heap.size) (cs := dbI q.al q.lim q.A q.L.length q.c q.B q.N.length q.d q.ph) (t := 113) (.tmp 5) rfl rfl Tryz.underlying113 rfl info_db rfl ?_ ?_; (· exact HBX.out)))
      refine CT.out.mono ?_; rintro e w2 ⟨M, rfl, hd, hb2⟩
      have hb3 := up_trans HUP.out hb2
      have hq3 := up_alloc w2 (.cells (dbC qp M).toArray 113)
      have HB3 := Lib.hid (up_trans hb3 hq3)
      have HO3 := Lib.hid (own_below HO.out.own (up_trans hb3 hq3))
      have HY : Hid (w.heap.size ≤ (w2.alloc (.cells (dbC qp M).toArray 113)).heap.size) := Lib.hid (by have h1 := HB.out.size; have h2 := hb3.size; simp; omega)
      have HD : Hid (DW (w2.alloc (.cells (dbC qp M).toArray 113)) (fun b => nOwn u3 b ∧ w.heap.size ≤ b) (qp).r M) := Lib.hid ((hd.below hq3).lo (fun j hj => ⟨HO.out.new j (by have := HUP.out.size; omega), by have := HUP.out.size; have := HB.out.size; omega⟩))
      clear hb2 hb3 hq3 hd
      go_wp2_with (first | (refine wpList_oneD ei_dt rfl (.tmp 14) rfl qp M rfl ?_) | (at_builtin; refine wpList_app3 ei_dt rfl (.tmp 12) (.tmp 15) rfl u3 _ rfl HO3.out rfl (RD.oneK dB (q := (qp, M)) rfl) (dB.oneL [(qp, M)]) (by omega) HY.out ?_; intro v4 w4 hown4 hg4 hn4; have HO4 := Lib.hid (HO.out.app (q := (qp, M)) HB3.out (by rw [List.flatMap_append]; exact hown4) hg4 hn4 HD.out); have HB4 : Hid (Below w.heap.size w w4) := Lib.hid ((up_trans HB.out HB3.out).grown hg4 HY.out (fun k' e => (HO3.out.lt k' e).1)); clear hown4 hg4 hn4))
      go_roundw
      case rel => exact ⟨k + 1, by omega, by go_num, Z ++ [(qp, M)], HO4.out, by rw [List.map_append, HZ.out, HS.out]; rfl, HB4.out⟩
      case measure => simp [intOf]; omega
    · obtain rfl : k = n := by omega
      have HO := Lib.hid hown
      have HB := Lib.hid hbw
      have HZ := Lib.hid hZ
      clear hown hbw hZ
      go_wp2
      go_ret
      obtain ⟨A', c', hv, h1, h2, h3⟩ := own_slice HO.out.own
      have h5 := HO.out.len
      have h6 := HO.out.each
      rw [hv] at h6
      rw [hv]
      exact ⟨A', c', rfl, ⟨Z, ⟨h3, h5, fun q hq => DW.lo (h6 q hq) (fun _ h => h.2)⟩, by rw [HZ.out]; exact List.take_of_length_le (by rw [HL.out]; exact Nat.le_refl _)⟩, HB.out⟩

theorem wpList_oneW {P : Program} {w : World} {ops : Array Oper} {rest : List Oper} {o : Oper} {a : Act} {Q : Exit → Act → World → Prop} {t e : TypeId} {bytes : Nat} (E : EI P t e (.agg (([.int .i64 0, .slice none 0 0] : List Value)).toArray) 2 bytes) (hg : o.guard = none) (x : Operand)
    (ho : o.op = .buildSlice t 1 #[(0, x)]) (b : WQ) (hx : a.eval x = .agg (wqC b).toArray)
    (h : wpList P ops Q rest (a.put o.dst (.slice (some ⟨w.heap.size, 0, none⟩) 1 1)) (w.alloc (.cells (wqC b).toArray e))) : wpList P ops Q (o :: rest) a w := by
  obtain ⟨i, hi, hz, hs, hb⟩ := info_parts E.info
  refine wpList_buildSlice hg t e 1 _ ho (wqC b).toArray i _ E.under hi hz (by rw [hs]; decide) (by rw [hs]; decide) ?_ h
  rw [hs]
  have e1 : ((#[(0, x)] : Array (Nat × Operand)).map fun (i, x) => (i, a.eval x)).toList = [(0, .agg (wqC b).toArray)] := by simp [hx]
  rw [e1]
  have e2 : Instr.fill (fun i => some (i * 2, 2)) ((Array.range (1 * 2)).map ((Value.agg (([.int .i64 0, .slice none 0 0] : List Value)).toArray).cells[· % (Value.agg (([.int .i64 0, .slice none 0 0] : List Value)).toArray).cells.size]!)) [(0, .agg (wqC b).toArray)] = some (wqC b).toArray := by kernel_rfl
  exact e2
theorem wpList_oneTm {P : Program} {w : World} {ops : Array Oper} {rest : List Oper} {o : Oper} {a : Act} {Q : Exit → Act → World → Prop} {t e : TypeId} {bytes : Nat} (E : EI P t e (.agg (([.int .i64 0, .int .i64 0, .int .i64 0] : List Value)).toArray) 3 bytes) (hg : o.guard = none) (x : Operand)
    (ho : o.op = .buildSlice t 1 #[(0, x)]) (b : Tm) (hx : a.eval x = .agg (tmV b).toArray)
    (h : wpList P ops Q rest (a.put o.dst (.slice (some ⟨w.heap.size, 0, none⟩) 1 1)) (w.alloc (.cells (tmV b).toArray e))) : wpList P ops Q (o :: rest) a w := by
  obtain ⟨i, hi, hz, hs, hb⟩ := info_parts E.info
  refine wpList_buildSlice hg t e 1 _ ho (tmV b).toArray i _ E.under hi hz (by rw [hs]; decide) (by rw [hs]; decide) ?_ h
  rw [hs]
  have e1 : ((#[(0, x)] : Array (Nat × Operand)).map fun (i, x) => (i, a.eval x)).toList = [(0, .agg (tmV b).toArray)] := by simp [hx]
  rw [e1]
  have e2 : Instr.fill (fun i => some (i * 3, 3)) ((Array.range (1 * 3)).map ((Value.agg (([.int .i64 0, .int .i64 0, .int .i64 0] : List Value)).toArray).cells[· % (Value.agg (([.int .i64 0, .int .i64 0, .int .i64 0] : List Value)).toArray).cells.size]!)) [(0, .agg (tmV b).toArray)] = some (tmV b).toArray := by kernel_rfl
  exact e2
theorem ei_pw : EI Tryz.prog 37 61 (.agg ([.int .i64 0, .slice none 0 0] : List Value).toArray) 2 32 := ⟨Tryz.underlying37, by kernel_rfl, rfl, by omega, by omega⟩
theorem ei_pt : EI Tryz.prog 38 82 (.agg ([.int .i64 0, .int .i64 0, .int .i64 0] : List Value).toArray) 3 24 := ⟨Tryz.underlying38, by kernel_rfl, rfl, by omega, by omega⟩
theorem info_rvw : (Tryz.prog.info? 28).map (·.size) = some 6 := by kernel_rfl
/-- A view with other barriers' rows. -/
def VQ.bars (V : VQ) (A : Option Addr) (c : Nat) : VQ := { V with BA := A, Bc := c }
theorem VQ.bars_p (V : VQ) (A : Option Addr) (c : Nat) : (V.bars A c).p = V.p := rfl
theorem Few.bars {V : VQ} (h : Few V) (A : Option Addr) (c : Nat) : Few (V.bars A c) := ⟨h.ch, h.cl, h.br, h.wt, h.ws, h.tm, h.tw, h.lv⟩
/-- What plain answers: the view in the document's own sets. -/
def PlP (V : VQ) (w : World) (e : Ending) (w' : World) : Prop := ∃ A c, e = .returned (.agg (vC (V.bars A c)).toArray) ∧ VD w' (V.bars A c) ∧ Below w.heap.size w w'
set_option maxRecDepth 100000 in
set_option maxHeartbeats 4000000 in
theorem c_plain29 {V : VQ} {Q : List RB} {w : World} (h : VX w V Q) (hs : smallT Q = true) :
    Calls Tryz.prog 10 #[.agg (vC V).toArray] w (PlP V w) := by
  have hX := bx2 w (vC V) 28 [.int .i64 0, .slice none 0 0, .slice none 0 0, .slice none 0 0, .slice none 0 0, .slice none 0 0] 28
  generalize hw1 : (w.alloc (.cells (vC V).toArray 28)).alloc (.cells ([.int .i64 0, .slice none 0 0, .slice none 0 0, .slice none 0 0, .slice none 0 0, .slice none 0 0] : List Value).toArray 28) = w1 at hX
  have HW := Lib.hid (show (w.alloc (.cells (vC V).toArray 28)).alloc (.cells #[.int .i64 0, .slice none 0 0, .slice none 0 0, .slice none 0 0, .slice none 0 0, .slice none 0 0] 28) = w1 from hw1)
  have HX := Lib.hid hX
  have CP := Lib.hid (c_plain23n (c := V.Bc) (h.below hX.up).br hs)
  have HR := Lib.hid h.r
  have HEQ := Lib.hid h.eq
  have hlen := h.len
  have c2 : w1.cell? ⟨w.heap.size, 2, none⟩ = some (.slice V.BA V.Bq.length V.Bc) := hX.box.cell 2 _ rfl
  rw [hlen] at c2
  have HLB := Lib.hid hlen
  clear h hX hw1 hlen
  go_enter Tryz.func10, Tryz.ntmps10
  go_upto_region 1 with fail
  rw [HW.out]
  go_wp2_with fail
  refine CP.out.mono ?_; rintro e w2 ⟨A, c, rfl, ⟨Z, hd, hz⟩, hb⟩
  have HZ := Lib.hid hz
  have HX2 := Lib.hid (HX.out.next hb)
  have HD := Lib.hid hd
  have c2' : w2.cell? ⟨w.heap.size, 2, none⟩ = some (.slice V.BA Q.length V.Bc) := by rw [← HLB.out]; exact HX2.out.box.cell 2 _ rfl
  have f2 := HX2.out.box.free 2
  clear hd hb c2 hz
  have HX3 : Hid (Bx2 w (w2.setCell ⟨w.heap.size, 2, none⟩ (.slice A Q.length c)) (vC (V.bars A c)) 28 [.int .i64 0, .slice none 0 0, .slice none 0 0, .slice none 0 0, .slice none 0 0, .slice none 0 0] 28) := Lib.hid (by
    have h := HX2.out.set 2 (.slice A Q.length c)
    rw [← HLB.out] at h ⊢
    exact h)
  have HN : Hid (w.heap.size + 1 < w1.heap.size) := Lib.hid HX.out.res.lt
  have HT3 : Hid (TW dB (w2.setCell ⟨w.heap.size, 2, none⟩ (.slice A Q.length c)) (w1.heap.size ≤ ·) A Q.length Z) := Lib.hid (HD.out.only ((Only.refl (· = w.heap.size) w2).setCell (p := ⟨w.heap.size, 2, none⟩) (.inl rfl) _) (fun k hk => by have := HN.out; omega))
  go_wp2_with (first | (refine ldr (b := w.heap.size) (cs := vC (V.bars A c)) (t := 28) (.tmp 1) rfl rfl Tryz.underlying28 rfl info_rvw rfl ?_ ?_; (· exact HX3.out.box)) | (refine str (b := w.heap.size + 1) (t := 28) (cs := vC (V.bars A c)) (ds := [.int .i64 0, .slice none 0 0, .slice none 0 0, .slice none 0 0, .slice none 0 0, .slice none 0 0]) (.tmp 2) (.tmp 7) rfl rfl rfl rfl info_rvw rfl vC_one ?_ ?_; (· exact HX3.out.res)))
  refine bodyPost_ret (v := .agg (vC (V.bars A c)).toArray) (results_c (fn := Tryz.f10) (p := 2) rfl _ _ _ rfl (HX3.out.res.row _) Tryz.underlying28 rfl info_rvw) rfl ?_
  have ho := (Only.refl (· = w.heap.size + 1) (w2.setCell ⟨w.heap.size, 2, none⟩ (.slice A Q.length c))).row rfl (vC (V.bars A c)).toArray
  have hup := below_setRow HX3.out.up (Nat.le_succ w.heap.size) (vC (V.bars A c)).toArray
  have ht := (HT3.out.only ho (fun k hk => by have := HN.out; omega)).lo (pl' := tt) (fun _ _ => trivial)
  refine ⟨A, c, rfl, ⟨⟨(HR.out.below hup).ch, (HR.out.below hup).wt, (HR.out.below hup).tm, (HR.out.below hup).lv⟩, Z, ?_, ?_⟩, hup⟩
  · have hl : (V.bars A c).Bq.length = Q.length := HLB.out
    rw [hl]
    exact ht
  · rw [HZ.out]
    exact HEQ.out.symm
end Go.Proofs.YtdiiilnebepfdaaGreatDoor

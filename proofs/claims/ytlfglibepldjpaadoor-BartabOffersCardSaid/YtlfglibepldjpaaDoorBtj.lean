/- The law's To, From, Plain, Same, Small of layer 23. -/
import Derived.Test.YtlfglibepldjpaaDoorBth
import Derived.Test.YtlfglibepldjpaaDoorBrh
namespace Go.Proofs.YtlfglibepldjpaaDoor
open Go.RowKit

/-- A slice literal of one of the program's barriers. -/
theorem wpList_oneP {P : Program} {w : World} {ops : Array Oper} {rest : List Oper} {o : Oper} {a : Act} {Q : Exit → Act → World → Prop} {t e : TypeId} {bytes : Nat} (E : EI P t e (.agg brZ.toArray) 11 bytes) (hg : o.guard = none) (x : Operand)
    (ho : o.op = .buildSlice t 1 #[(0, x)]) (b : BR) (hx : a.eval x = .agg (brC b).toArray)
    (h : wpList P ops Q rest (a.put o.dst (.slice (some ⟨w.heap.size, 0, none⟩) 1 1)) (w.alloc (.cells (brC b).toArray e))) : wpList P ops Q (o :: rest) a w := by
  obtain ⟨i, hi, hz, hs, hb⟩ := info_parts E.info
  refine wpList_buildSlice hg t e 1 _ ho (brC b).toArray i _ E.under hi hz (by rw [hs]; decide) (by rw [hs]; decide) ?_ h
  rw [hs]
  have e1 : ((#[(0, x)] : Array (Nat × Operand)).map fun (i, x) => (i, a.eval x)).toList = [(0, .agg (brC b).toArray)] := by simp [hx]
  rw [e1]
  have e2 : Instr.fill (fun i => some (i * 11, 11)) ((Array.range (1 * 11)).map ((Value.agg brZ.toArray).cells[· % (Value.agg brZ.toArray).cells.size]!)) [(0, .agg (brC b).toArray)] = some (brC b).toArray := by kernel_rfl
  exact e2
/-- A barrier as it comes in: its lists hold any numbers. -/
structure RB where
  al : Bool
  lim : Int
  A : Option Addr
  c : Nat
  L : List Int
  B : Option Addr
  d : Nat
  N : List Int
  ph : Int
def rbC (r : RB) : List Value := dbI r.al r.lim r.A r.L.length r.c r.B r.N.length r.d r.ph
theorem rbC_one {r : RB} : ∀ v ∈ rbC r, v.oneCell' = true := by
  intro v hv
  unfold rbC at hv
  simp only [List.mem_cons, List.not_mem_nil, or_false] at hv
  rcases hv with rfl | rfl | rfl | rfl | rfl <;> rfl
def rB : Mk RB := ⟨rbC, 5, fun _ => rfl, by omega, fun _ => rbC_one, fun pl r w => RD w pl 1 r.A r.L.length (r.L.map (Value.int .i64)) ∧ RD w pl 1 r.B r.N.length (r.N.map (Value.int .i64)),
  fun h o hs => ⟨h.1.only o hs, h.2.only o hs⟩, fun h hl => ⟨h.1.lo hl, h.2.lo hl⟩, fun h => ⟨h.1.lt, h.2.lt⟩⟩
def rbP (r : RB) : BR := ⟨r.al, r.lim, ⟨ofS r.L, ofS r.N⟩, r.ph⟩
def rbS (r : RB) : Bool := decide (r.L.length ≤ 40) && decide (r.N.length ≤ 40)
def smallT (Q : List RB) : Bool := decide (Q.length ≤ 10) && Q.all rbS
theorem smallT_iff {Q : List RB} (h : smallT Q = true) : Q.length ≤ 10 ∧ ∀ r ∈ Q, r.L.length ≤ 40 ∧ r.N.length ≤ 40 := by
  unfold smallT at h
  rw [Bool.and_eq_true, decide_eq_true_iff, List.all_eq_true] at h
  refine ⟨h.1, fun r hr => ?_⟩
  have := h.2 r hr
  unfold rbS at this
  rwa [Bool.and_eq_true, decide_eq_true_iff, decide_eq_true_iff] at this

set_option maxRecDepth 100000 in
set_option maxHeartbeats 4000000 in
theorem c_to23 {w : World} {A : Option Addr} {n c : Nat} {L : List BR} (h : DT w A n L) (hn : n ≤ 100000) :
    Calls Tryd.prog 10 #[.slice A n c] w (TPost1 w n L) := by
  have HT := Lib.hid h
  have HL := Lib.hid h.len
  clear h
  go_enter Tryd.func10, Tryd.ntmps10
  go_wp2_with fail
  go_loopw [3, 8] (fun s i wr => ∃ k : Nat, k ≤ n ∧ i = .int .i64 k ∧ wr.ownsRow w.heap.size 66 11 s k ((L.take k).flatMap brC) ∧ Below w.heap.size w wr) (fun _ i _ => n - (intOf i).toNat)
  case atStart => exact ⟨0, Nat.zero_le _, rfl, World.ownsRow_nil _ _ _ _, Below.refl _ _⟩
  case round =>
    obtain ⟨k, hk, rfl, hown, hbw⟩ := hrel
    by_cases hlt : k < n
    · obtain ⟨b, o, q, M, rfl, _, hq, hrg, hdw⟩ := (HT.out.below hbw).at_ k hlt
      have HS : Hid (L.take (k + 1) = L.take k ++ [q]) := Lib.hid (by rw [List.take_add_one, hq]; rfl)
      have HRG := Lib.hid hrg
      have HB := Lib.hid hbw
      have HO := Lib.hid hown
      have hup := up_alloc wr (.cells (dbC q M).toArray 73)
      have HBX := Lib.hid (Blk.new wr (dbC q M) 73)
      have CT := Lib.hid (c_to22 (hdw.below hup))
      have HUP := Lib.hid hup
      clear hq hrg hown hbw hdw hup
      go_wp2_with (first | (refine lmr (b := b) (q := o + k * 5) (cs := dbC q M) (.tmp 10) rfl rfl Tryd.underlying73 rfl info_db rfl ?_ ?_; (· exact HRG.out)) | (refine snr (t := 73) (W := wr) (cs := dbC q M) (zs := dbZ) (.tmp 5) (.tmp 11) rfl rfl rfl rfl info_db rfl dbC_one ?_ ?_ ?_; (· rfl); (· rfl)) | (refine ldr (b := wr.heap.size) (cs := dbC q M) (t := 73) (.tmp 5) rfl rfl Tryd.underlying73 rfl info_db rfl ?_ ?_; (· exact HBX.out)))
      refine CT.out.mono ?_; rintro e w2 ⟨rfl, hb2⟩
      have hb3 := up_trans HUP.out hb2
      have HB3 := Lib.hid hb3
      have HO3 := Lib.hid (own_below (own_below HO.out hb3) (up_alloc w2 (.cells (brC q).toArray 66)))
      have HY : Hid (w.heap.size ≤ (w2.alloc (.cells (brC q).toArray 66)).heap.size) := Lib.hid (by have h1 := HB.out.size; have h2 := hb3.size; simp; omega)
      clear hb2 hb3
      go_wp2_with (first | (refine wpList_oneP ei_bt rfl (.tmp 14) rfl q rfl ?_) | (at_builtin; refine wpList_app ei_bt rfl (.tmp 12) (.tmp 15) rfl _ _ rfl HO3.out rfl (RD.oneK pB (q := q) rfl) (pB.oneL [q]) (by omega) HY.out ?_; intro v4 w4 hown4 hb4; have HO4 := Lib.hid hown4; have HB4 := Lib.hid hb4; clear hown4 hb4))
      go_roundw
      case rel => exact ⟨k + 1, by omega, by go_num, by rw [HS.out, List.flatMap_append]; exact HO4.out, (up_trans HB.out (up_trans HB3.out (up_alloc _ _))).trans HB4.out⟩
      case measure => simp [intOf]; omega
    · obtain rfl : k = n := by omega
      have HO := Lib.hid hown
      have HB := Lib.hid hbw
      clear hown hbw
      go_wp2
      go_ret
      have h1 := HO.out
      rw [List.take_of_length_le (by rw [HL.out]; exact Nat.le_refl _)] at h1
      obtain ⟨A', c', rfl, _, _, h4⟩ := own_slice h1
      exact ⟨A', c', rfl, ⟨h4.lo (fun _ _ => trivial), HL.out, fun _ _ => trivial⟩, HB.out⟩

set_option maxRecDepth 100000 in
set_option maxHeartbeats 4000000 in
theorem c_from23 {w : World} {A : Option Addr} {n c : Nat} {L : List BR} (h : TW pB w tt A n L) (hn : n ≤ 100000) (hT : TabD w) :
    Calls Tryd.prog 14 #[.slice A n c] w (EPT1 w n L) := by
  have HT := Lib.hid h
  have HL := Lib.hid h.len
  have CF := Lib.hid (fun q W (hW : Below w.heap.size w W) => c_from22 q W (hT.up hW))
  clear h hT
  go_enter Tryd.func14, Tryd.ntmps14
  go_wp2_with fail
  go_loopw [3, 8] (fun s i wr => ∃ k : Nat, k ≤ n ∧ i = .int .i64 k ∧ ∃ Z, OT dB wr 73 w.heap.size s k Z ∧ Z.map Prod.fst = L.take k ∧ Below w.heap.size w wr) (fun _ i _ => n - (intOf i).toNat)
  case atStart => exact ⟨0, Nat.zero_le _, rfl, [], OT.nil _ _ _ _, rfl, Below.refl _ _⟩
  case round =>
    obtain ⟨k, hk, rfl, Z, hown, hZ, hbw⟩ := hrel
    by_cases hlt : k < n
    · obtain ⟨b, o, q, rfl, _, _, hq, hrg, _⟩ := (HT.out.below hbw).at_ k hlt
      have HS : Hid (L.take (k + 1) = L.take k ++ [q]) := Lib.hid (by rw [List.take_add_one, hq]; rfl)
      have HRG : Hid (wr.rangeAt b (o + k * 11) (brC q)) := Lib.hid hrg
      have HB := Lib.hid hbw
      have HO := Lib.hid hown
      have HZ := Lib.hid hZ
      have hup := up_alloc wr (.cells (brC q).toArray 66)
      have HBX := Lib.hid (Blk.new wr (brC q) 66)
      have CT := Lib.hid (CF.out q _ (up_trans hbw hup))
      have HUP := Lib.hid hup
      clear hq hrg hown hbw hup hZ
      go_wp2_with (first | (refine lmr (b := b) (q := o + k * 11) (cs := brC q) (.tmp 10) rfl rfl Tryd.underlying66 rfl info_bar rfl ?_ ?_; (· exact HRG.out)) | (refine snr (t := 66) (W := wr) (cs := brC q) (zs := brZ) (.tmp 5) (.tmp 11) rfl rfl rfl rfl info_bar rfl brC_one ?_ ?_ ?_; (· rfl); (· rfl)) | (refine ldr (b := wr.heap.size) (cs := brC q) (t := 66) (.tmp 5) rfl rfl Tryd.underlying66 rfl info_bar rfl ?_ ?_; (· exact HBX.out)))
      refine CT.out.mono ?_; rintro e w2 ⟨M, rfl, hd, hb2⟩
      have hb3 := up_trans HUP.out hb2
      have hq3 := up_alloc w2 (.cells (dbC q M).toArray 73)
      have HB3 := Lib.hid (up_trans hb3 hq3)
      have HO3 := Lib.hid (own_below HO.out.own (up_trans hb3 hq3))
      have HY : Hid (w.heap.size ≤ (w2.alloc (.cells (dbC q M).toArray 73)).heap.size) := Lib.hid (by have h1 := HB.out.size; have h2 := hb3.size; simp; omega)
      have HD : Hid (DW (w2.alloc (.cells (dbC q M).toArray 73)) (nOwn u3) (q).r M) := Lib.hid ((hd.below hq3).lo (fun j hj => HO.out.new j (by have := HUP.out.size; omega)))
      clear hb2 hb3 hq3 hd
      go_wp2_with (first | (refine wpList_oneD ei_dt rfl (.tmp 14) rfl q M rfl ?_) | (at_builtin; refine wpList_app3 ei_dt rfl (.tmp 12) (.tmp 15) rfl u3 _ rfl HO3.out rfl (RD.oneK dB (q := (q, M)) rfl) (dB.oneL [(q, M)]) (by omega) HY.out ?_; intro v4 w4 hown4 hg4 hn4; have HO4 := Lib.hid (HO.out.app (q := (q, M)) HB3.out (by rw [List.flatMap_append]; exact hown4) hg4 hn4 HD.out); have HB4 : Hid (Below w.heap.size w w4) := Lib.hid ((up_trans HB.out HB3.out).grown hg4 HY.out (fun k' e => (HO3.out.lt k' e).1)); clear hown4 hg4 hn4))
      go_roundw
      case rel => exact ⟨k + 1, by omega, by go_num, Z ++ [(q, M)], HO4.out, by rw [List.map_append, HZ.out, HS.out]; rfl, HB4.out⟩
      case measure => simp [intOf]; omega
    · obtain rfl : k = n := by omega
      have HO := Lib.hid hown
      have HB := Lib.hid hbw
      have HZ := Lib.hid hZ
      clear hown hbw hZ
      go_wp2
      go_ret
      obtain ⟨A', c', rfl, ht⟩ := HO.out.tw
      exact ⟨A', c', rfl, ⟨Z, ht, by rw [HZ.out]; exact List.take_of_length_le (by rw [HL.out]; exact Nat.le_refl _)⟩, HB.out⟩

set_option maxRecDepth 100000 in
set_option maxHeartbeats 4000000 in
theorem c_plain23 {w : World} {A : Option Addr} {n c : Nat} {Q : List RB} (h : TW rB w tt A n Q) (hs : smallT Q = true) :
    Calls Tryd.prog 9 #[.slice A n c] w (EPT1 w n (Q.map rbP)) := by
  have hn : n ≤ 10 := by rw [← h.len]; exact (smallT_iff hs).1
  have HT := Lib.hid h
  have HSM := Lib.hid (smallT_iff hs).2
  have hl : (Q.map rbP).length = n := by rw [List.length_map, h.len]
  have HL := Lib.hid hl
  clear h hs hl
  go_enter Tryd.func9, Tryd.ntmps9
  go_wp2_with fail
  go_loopw [3, 8] (fun s i wr => ∃ k : Nat, k ≤ n ∧ i = .int .i64 k ∧ ∃ Z, OT dB wr 73 w.heap.size s k Z ∧ Z.map Prod.fst = (Q.map rbP).take k ∧ Below w.heap.size w wr) (fun _ i _ => n - (intOf i).toNat)
  case atStart => exact ⟨0, Nat.zero_le _, rfl, [], OT.nil _ _ _ _, rfl, Below.refl _ _⟩
  case round =>
    obtain ⟨k, hk, rfl, Z, hown, hZ, hbw⟩ := hrel
    by_cases hlt : k < n
    · obtain ⟨b, o, q, rfl, _, _, hq, hrg, hE⟩ := (HT.out.below hbw).at_ k hlt
      have HS : Hid ((Q.map rbP).take (k + 1) = (Q.map rbP).take k ++ [rbP q]) := Lib.hid (by rw [List.take_add_one, List.getElem?_map, hq]; rfl)
      have HRG : Hid (wr.rangeAt b (o + k * 5) (dbI q.al q.lim q.A q.L.length q.c q.B q.N.length q.d q.ph)) := Lib.hid hrg
      have HB := Lib.hid hbw
      have HO := Lib.hid hown
      have HZ := Lib.hid hZ
      have hup := up_alloc wr (.cells (dbI q.al q.lim q.A q.L.length q.c q.B q.N.length q.d q.ph).toArray 73)
      have HBX := Lib.hid (Blk.new wr (dbI q.al q.lim q.A q.L.length q.c q.B q.N.length q.d q.ph) 73)
      have hsm := HSM.out q (List.mem_of_getElem? hq)
      have CT : Hid (Calls Tryd.prog 33 #[.agg (dbI q.al q.lim q.A q.L.length q.c q.B q.N.length q.d q.ph).toArray] (wr.alloc (.cells (dbI q.al q.lim q.A q.L.length q.c q.B q.N.length q.d q.ph).toArray 73)) (EPostN (wr.alloc (.cells (dbI q.al q.lim q.A q.L.length q.c q.B q.N.length q.d q.ph).toArray 73)) (rbP q))) := Lib.hid (c_plain22 q.al q.lim q.ph (hE.1.below hup) (hE.2.below hup) (by omega) (by omega))
      generalize rbP q = qp at CT HS
      have HUP := Lib.hid hup
      clear hq hrg hown hbw hup hZ hE hsm
      go_wp2_with (first | (refine lmr (b := b) (q := o + k * 5) (cs := dbI q.al q.lim q.A q.L.length q.c q.B q.N.length q.d q.ph) (.tmp 10) rfl rfl Tryd.underlying73 rfl info_db rfl ?_ ?_; (· exact HRG.out)) | (refine snr (t := 73) (W := wr) (cs := dbI q.al q.lim q.A q.L.length q.c q.B q.N.length q.d q.ph) (zs := dbZ) (.tmp 5) (.tmp 11) rfl rfl rfl rfl info_db rfl (rbC_one (r := q)) ?_ ?_ ?_; (· rfl); (· rfl)) | (refine ldr (b := wr.heap.size) (cs := dbI q.al q.lim q.A q.L.length q.c q.B q.N.length q.d q.ph) (t := 73) (.tmp 5) rfl rfl Tryd.underlying73 rfl info_db rfl ?_ ?_; (· exact HBX.out)))
      refine CT.out.mono ?_; rintro e w2 ⟨M, rfl, hd, hb2⟩
      have hb3 := up_trans HUP.out hb2
      have hq3 := up_alloc w2 (.cells (dbC qp M).toArray 73)
      have HB3 := Lib.hid (up_trans hb3 hq3)
      have HO3 := Lib.hid (own_below HO.out.own (up_trans hb3 hq3))
      have HY : Hid (w.heap.size ≤ (w2.alloc (.cells (dbC qp M).toArray 73)).heap.size) := Lib.hid (by have h1 := HB.out.size; have h2 := hb3.size; simp; omega)
      have HD : Hid (DW (w2.alloc (.cells (dbC qp M).toArray 73)) (nOwn u3) (qp).r M) := Lib.hid ((hd.below hq3).lo (fun j hj => HO.out.new j (by have := HUP.out.size; omega)))
      clear hb2 hb3 hq3 hd
      go_wp2_with (first | (refine wpList_oneD ei_dt rfl (.tmp 14) rfl qp M rfl ?_) | (at_builtin; refine wpList_app3 ei_dt rfl (.tmp 12) (.tmp 15) rfl u3 _ rfl HO3.out rfl (RD.oneK dB (q := (qp, M)) rfl) (dB.oneL [(qp, M)]) (by omega) HY.out ?_; intro v4 w4 hown4 hg4 hn4; have HO4 := Lib.hid (HO.out.app (q := (qp, M)) HB3.out (by rw [List.flatMap_append]; exact hown4) hg4 hn4 HD.out); have HB4 : Hid (Below w.heap.size w w4) := Lib.hid ((up_trans HB.out HB3.out).grown hg4 HY.out (fun k' e => (HO3.out.lt k' e).1)); clear hown4 hg4 hn4))
      go_roundw
      case rel => exact ⟨k + 1, by omega, by go_num, Z ++ [(qp, M)], HO4.out, by rw [List.map_append, HZ.out, HS.out]; rfl, HB4.out⟩
      case measure => simp [intOf]; omega
    · obtain rfl : k = n := by omega
      have HO := Lib.hid hown
      have HB := Lib.hid hbw
      have HZ := Lib.hid hZ
      clear hown hbw hZ
      go_wp2
      go_ret
      obtain ⟨A', c', rfl, ht⟩ := HO.out.tw
      exact ⟨A', c', rfl, ⟨Z, ht, by rw [HZ.out]; exact List.take_of_length_le (by rw [HL.out]; exact Nat.le_refl _)⟩, HB.out⟩

set_option maxRecDepth 100000 in
set_option maxHeartbeats 4000000 in
theorem c_tsmall {w : World} {A : Option Addr} {n c : Nat} {Q : List RB} (h : TW rB w tt A n Q) (hn : n ≤ maxLen) :
    Calls Tryd.prog 7 #[.slice A n c] w fun e w' => e = .returned (.bool (smallT Q)) ∧ Below w.heap.size w w' := by
  have hnn : (n : Int) ≤ 9223372036854775807 := by
    unfold maxLen at hn
    omega
  have HT := Lib.hid h
  have HL := Lib.hid h.len
  clear h
  go_enter Tryd.func7, Tryd.ntmps7
  go_wp2_with fail
  go_loopw [7] (fun i wr => ∃ k : Nat, k ≤ n ∧ i = .int .i64 k ∧ (Q.take k).all rbS = true ∧ Below w.heap.size w wr) (fun i _ => n - (intOf i).toNat)
  case atStart => exact ⟨0, Nat.zero_le _, rfl, rfl, Below.refl _ _⟩
  case round =>
    obtain ⟨k, hk, rfl, hall, hbw⟩ := hrel
    by_cases hlt : k < n
    · obtain ⟨b, o, q, rfl, _, _, hq, hrg, _⟩ := (HT.out.below hbw).at_ k hlt
      have HS : Hid ((Q.take (k + 1)).all rbS = rbS q) := Lib.hid (by rw [List.take_add_one, hq, List.all_append, hall]; simp)
      have HN : Hid (rbS q = false → smallT Q = false) := Lib.hid (fun e => by
        unfold smallT
        have h1 : Q.all rbS = false := by
          rw [List.all_eq_false]
          exact ⟨q, List.mem_of_getElem? hq, by simp [e]⟩
        rw [h1, Bool.and_false])
      have HRG : Hid (wr.rangeAt b (o + k * 5) (dbI q.al q.lim q.A q.L.length q.c q.B q.N.length q.d q.ph)) := Lib.hid hrg
      have HB := Lib.hid hbw
      have HBX := Lib.hid (Blk.new wr (dbI q.al q.lim q.A q.L.length q.c q.B q.N.length q.d q.ph) 73)
      have CS : Hid (∀ W, Calls Tryd.prog 32 #[.agg (dbI q.al q.lim q.A q.L.length q.c q.B q.N.length q.d q.ph).toArray] W fun e w' => e = .returned (.bool (rbS q)) ∧ Below W.heap.size W w') := Lib.hid (fun W => c_small22 q.al q.lim q.ph q.A q.L.length q.c q.B q.N.length q.d W)
      clear hq hrg hbw hall
      generalize rbS q = bq at CS HS HN
      have HUP := Lib.hid (up_alloc wr (.cells (dbI q.al q.lim q.A q.L.length q.c q.B q.N.length q.d q.ph).toArray 73))
      cases bq
      all_goals
        go_wp2_with (first | (refine lmr (b := b) (q := o + k * 5) (cs := dbI q.al q.lim q.A q.L.length q.c q.B q.N.length q.d q.ph) (.tmp 9) rfl rfl Tryd.underlying73 rfl info_db rfl ?_ ?_; (· exact HRG.out)) | (refine snr (t := 73) (W := wr) (cs := dbI q.al q.lim q.A q.L.length q.c q.B q.N.length q.d q.ph) (zs := dbZ) (.tmp 4) (.tmp 10) rfl rfl rfl rfl info_db rfl (rbC_one (r := q)) ?_ ?_ ?_; (· rfl); (· rfl)) | (refine ldr (b := wr.heap.size) (cs := dbI q.al q.lim q.A q.L.length q.c q.B q.N.length q.d q.ph) (t := 73) (.tmp 4) rfl rfl Tryd.underlying73 rfl info_db rfl ?_ ?_; (· exact HBX.out)))
        refine (CS.out _).mono ?_; rintro e w2 ⟨rfl, hb2⟩
        have HB2 := Lib.hid (up_trans HUP.out hb2)
        clear hb2
        go_wp2_with fail
      · go_ret
        exact ⟨ret_bool (by first | exact (HN.out rfl).symm | exact (HN.out trivial).symm), up_trans HB.out HB2.out⟩
      · go_roundw
        case rel => exact ⟨k + 1, by omega, by go_num, HS.out, up_trans HB.out HB2.out⟩
        case measure => simp [intOf]; omega
    · obtain rfl : k = n := by omega
      have HB := Lib.hid hbw
      have HE : Hid (smallT Q = decide (k ≤ 10)) := Lib.hid (by
        unfold smallT
        rw [List.take_of_length_le (by rw [HL.out]; exact Nat.le_refl _)] at hall
        rw [hall, Bool.and_true, HL.out])
      clear hbw hall
      go_wp2
      go_ret
      exact ⟨ret_bool (by rw [HE.out]; first | rfl | (simp; done) | (simp; omega)), HB.out⟩

set_option maxRecDepth 100000 in
set_option maxHeartbeats 4000000 in
theorem c_same23 {w : World} {A B : Option Addr} {n m c d : Nat} {L : List BR} (h : DT w A n L) (k : DT w B m L) (hn : n ≤ 100000) :
    Calls Tryd.prog 13 #[.slice A n c, .slice B m d] w fun e w' => e = .returned (.bool true) ∧ Below w.heap.size w w' := by
  obtain rfl : m = n := by rw [← h.len, ← k.len]
  have HT := Lib.hid h
  have HK := Lib.hid k
  clear h k
  go_enter Tryd.func13, Tryd.ntmps13
  go_wp2_with fail
  go_loopw [5, 13] (fun _ i wr => ∃ k : Nat, k ≤ m ∧ i = .int .i64 k ∧ Below w.heap.size w wr) (fun _ i _ => m - (intOf i).toNat)
  case atStart => exact ⟨0, Nat.zero_le _, rfl, Below.refl _ _⟩
  case round =>
    obtain ⟨k, hk, rfl, hbw⟩ := hrel
    by_cases hlt : k < m
    · obtain ⟨b, o, q, M, rfl, hbl, hq, hrg, hdw⟩ := (HT.out.below hbw).at_ k hlt
      obtain ⟨b', o', q', M', rfl, hbl', hq', hrg', hdw'⟩ := (HK.out.below hbw).at_ k hlt
      have hqq : q' = q := by
        rw [hq] at hq'
        injection hq' with h1
        exact h1.symm
      subst hqq
      have CS := Lib.hid (fun W (hW : Below wr.heap.size wr W) => c_same22 (hdw.below hW) (hdw'.below hW))
      have HR1 := Lib.hid (fun W (hW : Below wr.heap.size wr W) => range_below hrg hW hbl)
      have HR2 := Lib.hid (fun W (hW : Below wr.heap.size wr W) => range_below hrg' hW hbl')
      have HB := Lib.hid hbw
      have hkm : (k : Int) < (m : Int) := by omega
      clear hq hq' hrg hrg' hdw hdw' hbl hbl' hbw
      go_wp2_with fail
      refine wp_region_held_drew (S := fun W => Below wr.heap.size wr W) (by kernel_rfl) (up_drewN _ 1) (fun hHeld => ?_)
      refine wpAnyH_take (i := 0) (oi := ?_) (v := ?_) ?_ (by kernel_rfl) (by kernel_rfl) (by kernel_rfl) ?_ (Or.inl ⟨?_, ?_⟩) hHeld ?_
      rotate_left 2
      · conv => lhs; simp only [List.getElem?_toArray, List.getElem?_cons_succ, List.getElem?_cons_zero]
      · exact fun _ _ _ h => h
      · rfl
      · intro W hSw
        go_simp
        try with_reducible rfl
      try simp only [Act.put, List.setIfInBounds_toArray, List.set_cons_zero, List.set_cons_succ]
      refine wpAnyH_take (i := 1) (oi := ?_) (v := ?_) ?_ (by kernel_rfl) (by kernel_rfl) (by kernel_rfl) ?_ (Or.inl ⟨?_, ?_⟩) hHeld ?_
      rotate_left 2
      · conv => lhs; simp only [List.getElem?_toArray, List.getElem?_cons_succ, List.getElem?_cons_zero]
      · exact fun _ _ _ h => h
      · rfl
      · intro W hSw
        go_simp
        try with_reducible rfl
      try simp only [Act.put, List.setIfInBounds_toArray, List.set_cons_zero, List.set_cons_succ]
      refine wpAnyH_take (i := 2) (oi := ?_) (v := ?_) ?_ (by kernel_rfl) (by kernel_rfl) (by kernel_rfl) ?_ (Or.inl ⟨?_, ?_⟩) hHeld ?_
      rotate_left 2
      · conv => lhs; simp only [List.getElem?_toArray, List.getElem?_cons_succ, List.getElem?_cons_zero]
      · exact fun _ _ _ h => h
      · rfl
      · intro W hSw
        go_simp
        try with_reducible rfl
      try simp only [Act.put, List.setIfInBounds_toArray, List.set_cons_zero, List.set_cons_succ]
      refine wpAnyH_take (i := 3) (oi := ?_) (v := (.agg (dbC q' M).toArray)) ?_ (by kernel_rfl) (by kernel_rfl) (by kernel_rfl) ?_ (Or.inl ⟨?_, ?_⟩) hHeld ?_
      rotate_left 1
      · conv => lhs; simp only [List.getElem?_toArray, List.getElem?_cons_succ, List.getElem?_cons_zero]
      · exact fun _ _ _ h => h
      · rfl
      · intro W hSw
        exact tk_part rfl rfl Tryd.underlying73 rfl info_db (HR1.out _ hSw)
      try simp only [Act.put, List.setIfInBounds_toArray, List.set_cons_zero, List.set_cons_succ]
      refine wpAnyH_take (i := 4) (oi := ?_) (v := ?_) ?_ (by kernel_rfl) (by kernel_rfl) (by kernel_rfl) ?_ (Or.inl ⟨?_, ?_⟩) hHeld ?_
      rotate_left 2
      · conv => lhs; simp only [List.getElem?_toArray, List.getElem?_cons_succ, List.getElem?_cons_zero]
      · exact fun _ _ _ h => h
      · rfl
      · intro W hSw
        go_simp
        try with_reducible rfl
      try simp only [Act.put, List.setIfInBounds_toArray, List.set_cons_zero, List.set_cons_succ]
      refine wpAnyH_take (i := 5) (oi := ?_) (v := ?_) ?_ (by kernel_rfl) (by kernel_rfl) (by kernel_rfl) ?_ (Or.inl ⟨?_, ?_⟩) hHeld ?_
      rotate_left 2
      · conv => lhs; simp only [List.getElem?_toArray, List.getElem?_cons_succ, List.getElem?_cons_zero]
      · exact fun _ _ _ h => h
      · rfl
      · intro W hSw
        go_simp
        try with_reducible rfl
      try simp only [Act.put, List.setIfInBounds_toArray, List.set_cons_zero, List.set_cons_succ]
      refine wpAnyH_take (i := 6) (oi := ?_) (v := ?_) ?_ (by kernel_rfl) (by kernel_rfl) (by kernel_rfl) ?_ (Or.inl ⟨?_, ?_⟩) hHeld ?_
      rotate_left 2
      · conv => lhs; simp only [List.getElem?_toArray, List.getElem?_cons_succ, List.getElem?_cons_zero]
      · exact fun _ _ _ h => h
      · rfl
      · intro W hSw
        go_simp
        try with_reducible rfl
      try simp only [Act.put, List.setIfInBounds_toArray, List.set_cons_zero, List.set_cons_succ]
      refine wpAnyH_take (i := 7) (oi := ?_) (v := (.agg (dbC q' M').toArray)) ?_ (by kernel_rfl) (by kernel_rfl) (by kernel_rfl) ?_ (Or.inl ⟨?_, ?_⟩) hHeld ?_
      rotate_left 1
      · conv => lhs; simp only [List.getElem?_toArray, List.getElem?_cons_succ, List.getElem?_cons_zero]
      · exact fun _ _ _ h => h
      · rfl
      · intro W hSw
        exact tk_part rfl rfl Tryd.underlying73 rfl info_db (HR2.out _ hSw)
      try simp only [Act.put, List.setIfInBounds_toArray, List.set_cons_zero, List.set_cons_succ]
      refine wpAnyH_ready (rs := [8]) (by kernel_rfl) (by simp) ?_
      refine AllReadyH.cons (o := ?_) ?_ (fun K hK => ?_) AllReadyH.nil
      rotate_left 1
      · conv => lhs; simp only [List.getElem?_toArray, List.getElem?_cons_succ, List.getElem?_cons_zero]
      go_simp
      refine (CS.out _ hHeld).mono ?_
      rintro e wA ⟨rfl, hb⟩
      go_wp2_with fail
      refine hK.out _ _ (up_trans hHeld hb) (fun hHeld => ?_)
      clear hK K
      try simp only [Act.put, List.setIfInBounds_toArray, List.set_cons_zero, List.set_cons_succ]
      refine wpAnyH_take (i := 9) (oi := ?_) (v := ?_) ?_ (by kernel_rfl) (by kernel_rfl) (by kernel_rfl) ?_ (Or.inl ⟨?_, ?_⟩) hHeld ?_
      rotate_left 2
      · conv => lhs; simp only [List.getElem?_toArray, List.getElem?_cons_succ, List.getElem?_cons_zero]
      · exact fun _ _ _ h => h
      · rfl
      · intro W hSw
        go_simp
        try with_reducible rfl
      try simp only [Act.put, List.setIfInBounds_toArray, List.set_cons_zero, List.set_cons_succ]
      refine wpAnyH_done (by kernel_rfl) ?_ _
      go_wp2_with fail
      go_roundw
      case rel => exact ⟨k + 1, by omega, by go_num, up_trans HB.out hHeld⟩
      case measure => simp [intOf]; omega
    · obtain rfl : k = m := by omega
      have HB := Lib.hid hbw
      clear hbw
      go_wp2
      go_ret
      exact ⟨rfl, HB.out⟩
end Go.Proofs.YtlfglibepldjpaaDoor

/- The document's barriers (layer 22) in memory, of lists that are sets' lists; its Check, New and Fine. -/
import Derived.Test.YtlfglibepldjpaaDoorRlm
import Derived.Test.YtlfglibepldjpaaDoorRm
import Derived.Test.YtlfglibepldjpaaDoorBrb
import Derived.Test.YtlfglibepldjpaaDoorPh2
namespace Go.Proofs.YtlfglibepldjpaaDoor
open Go.RowKit

def dbC (b : BR) (M : DM) : List Value := [.bool b.al, .int .i64 b.lim, .slice M.A b.r.m.ints.length M.c, .slice M.B b.r.a.ints.length M.d, .int .i64 b.ph]
abbrev dbZ : List Value := [.bool false, .int .i64 0, .slice none 0 0, .slice none 0 0, .int .i64 0]
abbrev DM.nil : DM := ⟨none, 0, none, 0⟩
theorem dbC_one {b : BR} {M : DM} : ∀ v ∈ dbC b M, v.oneCell' = true := by
  intro v hv
  unfold dbC at hv
  simp only [List.mem_cons, List.not_mem_nil, or_false] at hv
  rcases hv with rfl | rfl | rfl | rfl | rfl <;> rfl
theorem dbC_new (al : Bool) (l : Int) : dbC ⟨al, l, RL.zero, 0⟩ DM.nil = [.bool al, .int .i64 l, .slice none 0 0, .slice none 0 0, .int .i64 0] := by
  unfold dbC RL.zero
  simp only [zero_ints]
  rfl
theorem new_one {al : Bool} {l : Int} : ∀ v ∈ ([.bool al, .int .i64 l, .slice none 0 0, .slice none 0 0, .int .i64 0] : List Value), v.oneCell' = true := by
  intro v hv
  simp only [List.mem_cons, List.not_mem_nil, or_false] at hv
  rcases hv with rfl | rfl | rfl | rfl | rfl <;> rfl
theorem DW.nil (w : World) (pl : Nat → Prop) : DW w pl RL.zero DM.nil := by
  constructor
  · show RD w pl 1 none S4.zero.ints.length (S4.zero.ints.map (Value.int .i64))
    rw [zero_ints]
    exact RD.nil _ _ _ _
  · show RD w pl 1 none S4.zero.ints.length (S4.zero.ints.map (Value.int .i64))
    rw [zero_ints]
    exact RD.nil _ _ _ _
theorem info_db : (Tryd.prog.info? 73).map (·.size) = some 5 := by kernel_rfl
theorem Blk.db {w : World} {g : Nat} {b : BR} {M : DM} {t : TypeId} (h : Blk w g (dbC b M) t) : w.cell? ⟨g, 0, none⟩ = some (.bool b.al) ∧ w.cell? ⟨g, 1, none⟩ = some (.int .i64 b.lim) ∧ w.cell? ⟨g, 4, none⟩ = some (.int .i64 b.ph) := ⟨h.cell 0 _ rfl, h.cell 1 _ rfl, h.cell 4 _ rfl⟩
/-- A barrier's box that is written to, and a cell for the answer. -/
structure EBx (pl : Nat → Prop) (w wc : World) (b : BR) (M : DM) : Prop where
  up : Below w.heap.size w wc
  box : Blk wc w.heap.size (dbC b M) 73
  res : Blk wc (w.heap.size + 1) dbZ 73
  dw : DW wc (pl2 pl w) b.r M
theorem EBx.next {pl : Nat → Prop} {w wc wd : World} {b : BR} {M : DM} (h : EBx pl w wc b M) (hb : Below wc.heap.size wc wd) : EBx pl w wd b M := ⟨up_trans h.up hb, h.box.up hb h.box.lt, h.res.up hb h.res.lt, h.dw.below hb⟩
theorem pl2_of {pl : Nat → Prop} {w wc : World} (h : w.heap.size + 2 ≤ wc.heap.size) : ∀ b, plN (pl2 pl w) wc b → pl2 pl w b := fun b hb => hb.elim id fun hb => pl2_new h b hb
theorem EBx.big {pl : Nat → Prop} {w wc : World} {b : BR} {M : DM} (h : EBx pl w wc b M) : w.heap.size + 2 ≤ wc.heap.size := h.res.lt
theorem EBx.lay {pl : Nat → Prop} {w wc : World} {b : BR} {M : DM} (h : EBx pl w wc b M) {R : RL} {N : DM} (hd : DW wc (pl2 pl w) R N) : EBx pl w (wc.setCells w.heap.size 2 (dlC R N)) (b.put R) N :=
  have ho : Only (two2 w) wc (wc.setCells w.heap.size 2 (dlC R N)) := (only_cells (dlC R N) 2 wc).mono fun k _ hk => .inl hk
  ⟨ho.two2_below h.up, h.box.laid 2 (dlC R N) rfl, h.res.cellsOther 2 _ (by omega), hd.only ho pl2_no⟩
theorem EBx.setPh {pl : Nat → Prop} {w wc : World} {b : BR} {M : DM} (h : EBx pl w wc b M) (n : Int) : EBx pl w (wc.setCell ⟨w.heap.size, 4, none⟩ (.int .i64 n)) ⟨b.al, b.lim, b.r, n⟩ M :=
  have ho : Only (two2 w) wc (wc.setCell ⟨w.heap.size, 4, none⟩ (.int .i64 n)) := (Only.refl (two2 w) wc).box2 4 _
  ⟨ho.two2_below h.up, h.box.set 4 _, h.res.other ⟨w.heap.size, 4, none⟩ (by simp) _, h.dw.only ho pl2_no⟩
theorem EBx.fin {pl : Nat → Prop} {w wc : World} {b : BR} {M : DM} (h : EBx pl w wc b M) (cs : Array Value) : DW (wc.setRow (w.heap.size + 1) cs) (plN pl w) b.r M ∧ Below w.heap.size w (wc.setRow (w.heap.size + 1) cs) :=
  ⟨(h.dw.only ((Only.refl (two2 w) wc).row (.inr rfl) cs) pl2_no).lo (fun _ hb => hb.1), ((Only.refl (two2 w) wc).row (.inr rfl) cs).two2_below h.up⟩
theorem ebx {pl : Nat → Prop} {w : World} {b : BR} {M : DM} (h : DW w pl b.r M) : EBx pl w ((w.alloc (.cells (dbC b M).toArray 73)).alloc (.cells #[.bool false, .int .i64 0, .slice none 0 0, .slice none 0 0, .int .i64 0] 73)) b M :=
  have k := bx2 w (dbC b M) 73 dbZ 73
  ⟨k.up, k.box, k.res, h.old.below k.up⟩
/-- What a call gives that answers a document's barrier and something more. -/
def EPost (pl : Nat → Prop) (w : World) (b : BR) (x : Value) (e : Ending) (w' : World) : Prop :=
  ∃ M, e = .returned (.tuple #[.agg (dbC b M).toArray, x]) ∧ DW w' (plN pl w) b.r M ∧ Below w.heap.size w w'

set_option maxRecDepth 100000 in
set_option maxHeartbeats 2000000 in
theorem c_vcheck (al : Bool) (l : Int) (w : World) :
    Calls Tryd.prog 87 #[.agg (cfC al l).toArray] w fun e w' => e = .returned (.int .i64 (brChk l)) ∧ Below w.heap.size w w' := by
  have hX := bx1 w (cfC al l) 59
  generalize hw1 : w.alloc (.cells (cfC al l).toArray 59) = w1 at hX
  have HW := Lib.hid (show w.alloc (.cells #[.bool al, .int .i64 l] 59) = w1 from hw1)
  have HX := Lib.hid hX
  have c1 := hX.box.cell 1 _ rfl
  clear hX hw1
  rcases (by omega : l < 1 ∨ (1 ≤ l ∧ 65535 < l) ∨ (1 ≤ l ∧ l ≤ 65535)) with h0 | ⟨h0, h1⟩ | ⟨h0, h1⟩
  · have HE : Hid (brChk l = 8) := Lib.hid (chk_no (by unfold phFine; rw [decide_eq_false_iff_not]; omega))
    go_enter Tryd.func87, Tryd.ntmps87
    go_upto_region 1 with fail
    rw [HW.out]
    go_wp2
    go_ret
    rw [HE.out]
    exact ⟨rfl, HX.out.up⟩
  · have HE : Hid (brChk l = 8) := Lib.hid (chk_no (by unfold phFine; rw [decide_eq_false_iff_not]; omega))
    go_enter Tryd.func87, Tryd.ntmps87
    go_upto_region 1 with fail
    rw [HW.out]
    go_wp2
    go_ret
    rw [HE.out]
    exact ⟨rfl, HX.out.up⟩
  · have HE : Hid (brChk l = 0) := Lib.hid (chk_ok ((phFine_iff _ _).2 (by omega)))
    go_enter Tryd.func87, Tryd.ntmps87
    go_upto_region 1 with fail
    rw [HW.out]
    go_wp2
    go_ret
    rw [HE.out]
    exact ⟨rfl, HX.out.up⟩

set_option maxRecDepth 100000 in
set_option maxHeartbeats 2000000 in
theorem c_vnew (al : Bool) (l : Int) (w : World) :
    Calls Tryd.prog 62 #[.agg (cfC al l).toArray] w fun e w' => e = .returned (.tuple #[.agg (dbC (brNew al l) DM.nil).toArray, .int .i64 (brChk l)]) ∧ Below w.heap.size w w' := by
  have hX := bx2 w (cfC al l) 59 dbZ 73
  generalize hw1 : (w.alloc (.cells (cfC al l).toArray 59)).alloc (.cells dbZ.toArray 73) = w1 at hX
  have HW := Lib.hid (show (w.alloc (.cells #[.bool al, .int .i64 l] 59)).alloc (.cells #[.bool false, .int .i64 0, .slice none 0 0, .slice none 0 0, .int .i64 0] 73) = w1 from hw1)
  have HX := Lib.hid hX
  clear hX hw1
  have CK := Lib.hid (fun W => c_vcheck al l W)
  cases hf : phFine 0 l
  · rw [chk_no hf, new_no al hf, show dbC BR.zero DM.nil = dbZ from dbC_new false 0]
    rw [chk_no hf] at CK
    clear hf
    go_enter Tryd.func62, Tryd.ntmps62
    go_upto_region 1 with fail
    rw [HW.out]
    go_wp2_with (refine ldr (b := w.heap.size) (t := 59) (cs := cfC al l) (.tmp 1) rfl rfl Tryd.underlying59 rfl info_conf rfl ?_ ?_; (· exact HX.out.box))
    refine (CK.out _).mono ?_; rintro e w2 ⟨rfl, hb⟩
    have HA := Lib.hid (HX.out.next hb)
    clear hb
    go_wp2_with (refine str (b := w.heap.size + 1) (t := 73) (cs := dbZ) (ds := dbZ) (.tmp 2) (.tmp 9) rfl rfl rfl rfl info_db rfl new_one ?_ ?_; (· exact HA.out.res))
    refine bodyPost_ret (v := .tuple #[.agg (dbZ).toArray, .int .i64 (8)]) (results_ce (fn := Tryd.f62) (p := 2) (t := 3) rfl _ _ _ rfl (HA.out.res.row _) Tryd.underlying73 rfl info_db) rfl ?_
    exact ⟨rfl, below_setRow HA.out.up (by omega) _⟩
  · rw [chk_ok hf, new_ok al hf, dbC_new]
    rw [chk_ok hf] at CK
    clear hf
    go_enter Tryd.func62, Tryd.ntmps62
    go_upto_region 1 with fail
    rw [HW.out]
    go_wp2_with (refine ldr (b := w.heap.size) (t := 59) (cs := cfC al l) (.tmp 1) rfl rfl Tryd.underlying59 rfl info_conf rfl ?_ ?_; (· exact HX.out.box))
    refine (CK.out _).mono ?_; rintro e w2 ⟨rfl, hb⟩
    have HA := Lib.hid (HX.out.next hb)
    clear hb
    go_wp2_with (first | (refine ldr (b := w.heap.size) (t := 59) (cs := cfC al l) (.tmp 1) rfl rfl Tryd.underlying59 rfl info_conf rfl ?_ ?_; (· exact HA.out.box)) | (refine str (b := w.heap.size + 1) (t := 73) (cs := [.bool al, .int .i64 l, .slice none 0 0, .slice none 0 0, .int .i64 0]) (ds := dbZ) (.tmp 2) (.tmp 12) rfl rfl rfl rfl info_db rfl new_one ?_ ?_; (· exact HA.out.res)))
    refine bodyPost_ret (v := .tuple #[.agg ([.bool al, .int .i64 l, .slice none 0 0, .slice none 0 0, .int .i64 0]).toArray, .int .i64 (0)]) (results_ce (fn := Tryd.f62) (p := 2) (t := 3) rfl _ _ _ rfl (HA.out.res.row _) Tryd.underlying73 rfl info_db) rfl ?_
    exact ⟨rfl, below_setRow HA.out.up (by omega) _⟩

set_option maxRecDepth 100000 in
set_option maxHeartbeats 2000000 in
theorem c_vfine {pl : Nat → Prop} {b : BR} {M : DM} {w : World} (h : DW w pl b.r M) :
    Calls Tryd.prog 73 #[.agg (dbC b M).toArray] w fun e w' => e = .returned (.bool (brFine b)) ∧ Below w.heap.size w w' := by
  have hX := bx1 w (dbC b M) 73
  generalize hw1 : w.alloc (.cells (dbC b M).toArray 73) = w1 at hX
  have HW := Lib.hid hw1
  have HX := Lib.hid hX
  have CR := Lib.hid (fun W (hW : Below w.heap.size w W) => c_dfine (h.below hW))
  have CP := Lib.hid (fun W => c_rfine b.ph b.lim W)
  clear h hX hw1
  obtain ⟨q1, hq1⟩ : ∃ q1, rlFine b.r = q1 := ⟨_, rfl⟩
  obtain ⟨q2, hq2⟩ : ∃ q2, phFine b.ph b.lim = q2 := ⟨_, rfl⟩
  have HE : Hid (brFine b = (q1 && q2)) := Lib.hid (by unfold brFine; rw [hq1, hq2])
  rw [hq1] at CR
  rw [hq2] at CP
  rw [HE.out]
  clear hq1 hq2 HE
  obtain ⟨al, lim, ph⟩ := HX.out.box.db
  cases q2
  case false =>
    go_enter Tryd.func73, Tryd.ntmps73
    go_upto_region 1 with fail
    rw [HW.out]
    go_wp2_with fail
    refine (CP.out _).mono ?_; rintro e w2 ⟨rfl, rfl⟩
    go_wp2
    go_ret
    exact ⟨ret_bool (by simp), HX.out.up⟩
  case true =>
    go_enter Tryd.func73, Tryd.ntmps73
    go_upto_region 1 with fail
    rw [HW.out]
    go_wp2_with fail
    refine (CP.out _).mono ?_; rintro e w2 ⟨rfl, rfl⟩
    go_wp2_with (refine lmr (b := w.heap.size) (q := 2) (cs := dlC b.r M) (.tmp 10) rfl rfl Tryd.underlying71 rfl info_dl rfl ?_ ?_; (· exact HX.out.box.part 2 2 rfl))
    refine (CR.out _ HX.out.up).mono ?_; rintro e w3 ⟨rfl, hb⟩
    go_wp2
    go_ret
    exact ⟨ret_bool (by simp), up_trans HX.out.up hb⟩
end Go.Proofs.YtlfglibepldjpaaDoor

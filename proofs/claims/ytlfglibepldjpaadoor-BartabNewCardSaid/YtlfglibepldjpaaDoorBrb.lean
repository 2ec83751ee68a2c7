/- A barrier in memory; package barrier's Check, New and Fine. -/
import Derived.Test.YtlfglibepldjpaaDoorRlc
import Derived.Test.YtlfglibepldjpaaDoorRlf
import Derived.Test.YtlfglibepldjpaaDoorRm
import Derived.Test.YtlfglibepldjpaaDoorBra
import Derived.Test.YtlfglibepldjpaaDoorPhb
namespace Go.Proofs.YtlfglibepldjpaaDoor
open Go.RowKit

/-- A barrier's cells. -/
def brC (b : BR) : List Value := [.bool b.al, .int .i64 b.lim, .int .u64 (b.r.m.a.toNat : Int), .int .u64 (b.r.m.b.toNat : Int), .int .u64 (b.r.m.c.toNat : Int), .int .u64 (b.r.m.d.toNat : Int), .int .u64 (b.r.a.a.toNat : Int), .int .u64 (b.r.a.b.toNat : Int), .int .u64 (b.r.a.c.toNat : Int), .int .u64 (b.r.a.d.toNat : Int), .int .i64 b.ph]
abbrev brZ : List Value := [.bool false, .int .i64 0, .int .u64 0, .int .u64 0, .int .u64 0, .int .u64 0, .int .u64 0, .int .u64 0, .int .u64 0, .int .u64 0, .int .i64 0]
theorem brZ_eq : brC BR.zero = brZ := rfl
theorem brC_one {b : BR} : ∀ v ∈ brC b, v.oneCell' = true := by
  intro v hv
  unfold brC at hv
  simp only [List.mem_cons, List.not_mem_nil, or_false] at hv
  rcases hv with rfl | rfl | rfl | rfl | rfl | rfl | rfl | rfl | rfl | rfl | rfl <;> rfl
theorem brZ_one : ∀ v ∈ brZ, v.oneCell' = true := brC_one (b := BR.zero)
theorem info_bar : (Tryd.prog.info? 66).map (·.size) = some 11 := by kernel_rfl
theorem info_conf : (Tryd.prog.info? 59).map (·.size) = some 2 := by kernel_rfl
abbrev cfC (al : Bool) (l : Int) : List Value := [.bool al, .int .i64 l]
/-- Its parts. -/
structure BCell (w : World) (g : Nat) (b : BR) : Prop where
  al : w.cell? ⟨g, 0, none⟩ = some (.bool b.al)
  lim : w.cell? ⟨g, 1, none⟩ = some (.int .i64 b.lim)
  ph : w.cell? ⟨g, 10, none⟩ = some (.int .i64 b.ph)
theorem Blk.br {w : World} {g : Nat} {b : BR} {t : TypeId} (h : Blk w g (brC b) t) : BCell w g b := ⟨h.cell 0 _ rfl, h.cell 1 _ rfl, h.cell 10 _ rfl⟩
theorem lay_br (b : BR) (r : RL) : layL (brC b) 2 (rlC r) = brC (b.put r) := rfl
theorem bx2_bar (w : World) (cs : List Value) (t : TypeId) : Bx2 w ((w.alloc (.cells cs.toArray t)).alloc (.cells #[.bool false, .int .i64 0, .int .u64 0, .int .u64 0, .int .u64 0, .int .u64 0, .int .u64 0, .int .u64 0, .int .u64 0, .int .u64 0, .int .i64 0] 66)) cs t brZ 66 := bx2 w cs t brZ 66

set_option maxRecDepth 100000 in
set_option maxHeartbeats 1000000 in
theorem c_brcheck (al : Bool) (l : Int) (w : World) :
    Calls Tryd.prog 63 #[.agg (cfC al l).toArray] w fun e w' => e = .returned (.int .i64 (brChk l)) ∧ Below w.heap.size w w' := by
  have hX := bx1 w (cfC al l) 59
  generalize hw1 : w.alloc (.cells (cfC al l).toArray 59) = w1 at hX
  have HW := Lib.hid (show w.alloc (.cells #[.bool al, .int .i64 l] 59) = w1 from hw1)
  have HX := Lib.hid hX
  have c1 := hX.box.cell 1 _ rfl
  clear hX hw1
  cases hf : phFine 0 l
  · rw [chk_no hf]
    have HF := Lib.hid hf
    clear hf
    go_enter Tryd.func63, Tryd.ntmps63
    go_upto_region 1 with fail
    rw [HW.out]
    go_wp2_with fail
    refine (c_phfine _ _ _).mono ?_; rintro e w' ⟨rfl, rfl⟩
    rw [HF.out]
    go_wp2
    go_ret
    exact ⟨rfl, HX.out.up⟩
  · rw [chk_ok hf]
    have HF := Lib.hid hf
    clear hf
    go_enter Tryd.func63, Tryd.ntmps63
    go_upto_region 1 with fail
    rw [HW.out]
    go_wp2_with fail
    refine (c_phfine _ _ _).mono ?_; rintro e w' ⟨rfl, rfl⟩
    rw [HF.out]
    go_wp2
    go_ret
    exact ⟨rfl, HX.out.up⟩

set_option maxRecDepth 100000 in
set_option maxHeartbeats 1000000 in
theorem c_brnew (al : Bool) (l : Int) (w : World) :
    Calls Tryd.prog 61 #[.agg (cfC al l).toArray] w fun e w' => e = .returned (.tuple #[.agg (brC (brNew al l)).toArray, .int .i64 (brChk l)]) ∧ Below w.heap.size w w' := by
  have hX := bx2_bar w (cfC al l) 59
  generalize hw1 : (w.alloc (.cells (cfC al l).toArray 59)).alloc (.cells #[.bool false, .int .i64 0, .int .u64 0, .int .u64 0, .int .u64 0, .int .u64 0, .int .u64 0, .int .u64 0, .int .u64 0, .int .u64 0, .int .i64 0] 66) = w1 at hX
  have HW := Lib.hid (show (w.alloc (.cells #[.bool al, .int .i64 l] 59)).alloc (.cells #[.bool false, .int .i64 0, .int .u64 0, .int .u64 0, .int .u64 0, .int .u64 0, .int .u64 0, .int .u64 0, .int .u64 0, .int .u64 0, .int .i64 0] 66) = w1 from hw1)
  have HX := Lib.hid hX
  clear hX hw1
  have CK := Lib.hid (fun W => c_brcheck al l W)
  cases hf : phFine 0 l
  · rw [chk_no hf, new_no al hf]
    rw [chk_no hf] at CK
    clear hf
    go_enter Tryd.func61, Tryd.ntmps61
    go_upto_region 1 with fail
    rw [HW.out]
    go_wp2_with (refine ldr (b := w.heap.size) (t := 59) (cs := cfC al l) (.tmp 1) rfl rfl Tryd.underlying59 rfl info_conf rfl ?_ ?_; (· exact HX.out.box))
    refine (CK.out _).mono ?_; rintro e w2 ⟨rfl, hb⟩
    have HA := Lib.hid (HX.out.next hb)
    clear hb
    go_wp2_with (refine str (b := w.heap.size + 1) (t := 66) (cs := brZ) (ds := brZ) (.tmp 2) (.tmp 9) rfl rfl rfl rfl info_bar rfl brZ_one ?_ ?_; (· exact HA.out.res))
    refine bodyPost_ret (v := .tuple #[.agg (brZ).toArray, .int .i64 (8)]) (results_ce (fn := Tryd.f61) (p := 2) (t := 3) rfl _ _ _ rfl (HA.out.res.row _) Tryd.underlying66 rfl info_bar) rfl ?_
    exact ⟨rfl, below_setRow HA.out.up (by omega) _⟩
  · rw [chk_ok hf, new_ok al hf]
    rw [chk_ok hf] at CK
    clear hf
    go_enter Tryd.func61, Tryd.ntmps61
    go_upto_region 1 with fail
    rw [HW.out]
    go_wp2_with (refine ldr (b := w.heap.size) (t := 59) (cs := cfC al l) (.tmp 1) rfl rfl Tryd.underlying59 rfl info_conf rfl ?_ ?_; (· exact HX.out.box))
    refine (CK.out _).mono ?_; rintro e w2 ⟨rfl, hb⟩
    have HA := Lib.hid (HX.out.next hb)
    clear hb
    go_wp2_with (first | (refine ldr (b := w.heap.size) (t := 59) (cs := cfC al l) (.tmp 1) rfl rfl Tryd.underlying59 rfl info_conf rfl ?_ ?_; (· exact HA.out.box)) | (refine str (b := w.heap.size + 1) (t := 66) (cs := brC ⟨al, l, RL.zero, 0⟩) (ds := brZ) (.tmp 2) (.tmp 12) rfl rfl rfl rfl info_bar rfl brC_one ?_ ?_; (· exact HA.out.res)))
    refine bodyPost_ret (v := .tuple #[.agg (brC ⟨al, l, RL.zero, 0⟩).toArray, .int .i64 (0)]) (results_ce (fn := Tryd.f61) (p := 2) (t := 3) rfl _ _ _ rfl (HA.out.res.row _) Tryd.underlying66 rfl info_bar) rfl ?_
    exact ⟨rfl, below_setRow HA.out.up (by omega) _⟩

set_option maxRecDepth 100000 in
set_option maxHeartbeats 2000000 in
theorem c_brfine (b : BR) (w : World) (hT : TabD w) :
    Calls Tryd.prog 30 #[.agg (brC b).toArray] w fun e w' => e = .returned (.bool (brFine b)) ∧ Below w.heap.size w w' := by
  have hX := bx1 w (brC b) 66
  generalize hw1 : w.alloc (.cells (brC b).toArray 66) = w1 at hX
  have HW := Lib.hid hw1
  have HX := Lib.hid hX
  have CR := Lib.hid (fun W (hW : Below w.heap.size w W) => c_rlfine b.r W (hT.up hW))
  have CK := Lib.hid (fun W => c_brcheck b.al b.lim W)
  clear hT hX hw1
  obtain ⟨q0, hq0⟩ : ∃ q0, phFine 0 b.lim = q0 := ⟨_, rfl⟩
  cases q0
  case false =>
    rw [chk_no hq0] at CK
    have HE : Hid (brFine b = false) := Lib.hid (by
      refine brFine_ph ?_
      cases h : phFine b.ph b.lim
      · rfl
      · rw [ph_chk h] at hq0
        cases hq0)
    rw [HE.out]
    clear hq0 HE
    obtain ⟨al, lim, ph⟩ := HX.out.box.br
    go_enter Tryd.func30, Tryd.ntmps30
    go_upto_region 1 with fail
    rw [HW.out]
    go_wp2_with fail
    refine (CK.out _).mono ?_; rintro e w2 ⟨rfl, hb⟩
    go_wp2
    go_ret
    exact ⟨rfl, up_trans HX.out.up hb⟩
  rw [chk_ok hq0] at CK
  clear hq0
  obtain ⟨q1, hq1⟩ : ∃ q1, rlFine b.r = q1 := ⟨_, rfl⟩
  obtain ⟨q2, hq2⟩ : ∃ q2, phFine b.ph b.lim = q2 := ⟨_, rfl⟩
  have HE : Hid (brFine b = (q1 && q2)) := Lib.hid (by unfold brFine; rw [hq1, hq2])
  have CP := Lib.hid (fun W => c_phfine b.ph b.lim W)
  rw [hq1] at CR
  rw [hq2] at CP
  rw [HE.out]
  clear hq1 hq2 HE
  obtain ⟨al, lim, ph⟩ := HX.out.box.br
  cases q1
  case false =>
    go_enter Tryd.func30, Tryd.ntmps30
    go_upto_region 1 with fail
    rw [HW.out]
    go_wp2_with fail
    refine (CK.out _).mono ?_; rintro e w2 ⟨rfl, hb⟩
    have HA := Lib.hid (HX.out.next hb)
    clear hb al lim ph
    obtain ⟨al, lim, ph⟩ := HA.out.box.br
    go_wp2_with (refine lmr (b := w.heap.size) (q := 2) (cs := rlC b.r) (.tmp 8) rfl rfl Tryd.underlying64 rfl info_roll rfl ?_ ?_; (· exact HA.out.box.part 2 8 rfl))
    refine (CR.out _ HA.out.up).mono ?_; rintro e w3 ⟨rfl, hb⟩
    go_wp2
    go_ret
    exact ⟨rfl, up_trans HA.out.up hb⟩
  case true =>
    go_enter Tryd.func30, Tryd.ntmps30
    go_upto_region 1 with fail
    rw [HW.out]
    go_wp2_with fail
    refine (CK.out _).mono ?_; rintro e w2 ⟨rfl, hb⟩
    have HA := Lib.hid (HX.out.next hb)
    clear hb al lim ph
    obtain ⟨al, lim, ph⟩ := HA.out.box.br
    go_wp2_with (refine lmr (b := w.heap.size) (q := 2) (cs := rlC b.r) (.tmp 8) rfl rfl Tryd.underlying64 rfl info_roll rfl ?_ ?_; (· exact HA.out.box.part 2 8 rfl))
    refine (CR.out _ HA.out.up).mono ?_; rintro e w3 ⟨rfl, hb⟩
    have HB := Lib.hid (HA.out.next hb)
    clear hb al lim ph
    obtain ⟨al, lim, ph⟩ := HB.out.box.br
    go_wp2_with fail
    refine (CP.out _).mono ?_; rintro e w4 ⟨rfl, rfl⟩
    go_wp2
    go_ret
    exact ⟨ret_bool (by simp), HB.out.up⟩
end Go.Proofs.YtlfglibepldjpaaDoor

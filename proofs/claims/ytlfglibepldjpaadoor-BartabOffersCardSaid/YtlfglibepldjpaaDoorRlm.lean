/- The document's Full and Fire (layer 21), of rolls whose lists are sets' lists. (Fire answers the roll as it was with an error: REPORT, round 21.) -/
import Derived.Test.YtlfglibepldjpaaDoorRle
import Derived.Test.YtlfglibepldjpaaDoorRlf
namespace Go.Proofs.YtlfglibepldjpaaDoor
open Go.RowKit

theorem part_len {s t : S4} (h : ∀ i, i < 256 → s.has i = true → t.has i = true) : s.ints.length = t.ints.length ↔ s = t := by
  constructor
  · intro hl
    have e : s.ints = t.ints.filter (fun x => hasL s.ints x) := by
      unfold S4.ints
      rw [rise_inter]
      refine rise_congr fun i hi => ?_
      cases hs : s.has i
      · simp
      · rw [h i hi hs]
        rfl
    rw [e] at hl
    rw [List.length_filter_eq_length_iff] at hl
    refine S4.ext_has fun i hi => ?_
    cases ht : t.has i
    · cases hs : s.has i
      · rfl
      · rw [h i hi hs] at ht
        cases ht
    · have := hl (i : Int) ((mem_ints t i hi).2 ht)
      unfold S4.ints at this
      rwa [hasL_rise _ _ hi] at this
  · rintro rfl
    rfl
theorem full_len {r : RL} (h : rlFine r = true) : rlFull r = (decide (0 < r.m.ints.length) && decide (r.a.ints.length = r.m.ints.length)) := by
  have hp := part_len ((fine_has r).1 h).2
  unfold rlFull
  rw [h, Bool.true_and]
  congr 1
  · by_cases hm : r.m = S4.zero
    · rw [eqb_iff.2 hm]
      have := (ints_zero_iff r.m).1 hm
      rw [this]
      rfl
    · rw [eqb_no.2 hm]
      have : r.m.ints.length ≠ 0 := fun k => hm ((ints_zero_iff r.m).2 k)
      rw [decide_eq_true (by omega)]
      rfl
  · by_cases ha : r.a = r.m
    · rw [eqb_iff.2 ha, decide_eq_true (hp.2 ha)]
    · rw [eqb_no.2 ha, decide_eq_false (fun k => ha (hp.1 k))]

set_option maxRecDepth 100000 in
set_option maxHeartbeats 2000000 in
theorem c_dfull {pl : Nat → Prop} {r : RL} {M : DM} {w : World} (h : DW w pl r M) :
    Calls Tryd.prog 86 #[.agg (dlC r M).toArray] w fun e w' => e = .returned (.bool (rlFull r)) ∧ Below w.heap.size w w' := by
  have hX := bx1 w (dlC r M) 71
  generalize hw1 : w.alloc (.cells (dlC r M).toArray 71) = w1 at hX
  have HW := Lib.hid hw1
  have HX := Lib.hid hX
  have CF := Lib.hid (fun W (hW : Below w.heap.size w W) => c_dfine (h.below hW))
  have b1 := len_le r.m
  have b2 := len_le r.a
  unfold S4.len at b1 b2
  clear h hX hw1
  cases hf : rlFine r
  case false =>
    rw [full_no hf]
    rw [hf] at CF
    clear hf
    go_enter Tryd.func86, Tryd.ntmps86
    go_upto_region 1 with fail
    rw [HW.out]
    go_wp2_with (refine ldr (b := w.heap.size) (t := 71) (cs := dlC r M) (.tmp 1) rfl rfl Tryd.underlying71 rfl info_dl rfl ?_ ?_; (· exact HX.out.box))
    refine (CF.out _ HX.out.up).mono ?_; rintro e w2 ⟨rfl, hb⟩
    go_wp2
    go_ret
    exact ⟨rfl, up_trans HX.out.up hb⟩
  rw [full_len hf]
  rw [hf] at CF
  clear hf
  rcases (by omega : r.m.ints.length = 0 ∨ (0 < r.m.ints.length ∧ r.a.ints.length = r.m.ints.length) ∨ (0 < r.m.ints.length ∧ r.a.ints.length ≠ r.m.ints.length)) with h0 | ⟨h0, h1⟩ | ⟨h0, h1⟩
  · go_enter Tryd.func86, Tryd.ntmps86
    go_upto_region 1 with fail
    rw [HW.out]
    go_wp2_with (refine ldr (b := w.heap.size) (t := 71) (cs := dlC r M) (.tmp 1) rfl rfl Tryd.underlying71 rfl info_dl rfl ?_ ?_; (· exact HX.out.box))
    refine (CF.out _ HX.out.up).mono ?_; rintro e w2 ⟨rfl, hb⟩
    have HA := Lib.hid (HX.out.next hb)
    clear hb
    obtain ⟨m0, a0⟩ := HA.out.box.dl
    go_wp2_with fail
    go_ret
    exact ⟨ret_bool (by simp [h0]), HA.out.up⟩
  · have g1 : ((r.a.ints.length : Int) == (r.m.ints.length : Int)) = true := by rw [beq_iff_eq]; omega
    have g2 : (r.a.ints.length == r.m.ints.length) = true := by simpa using h1
    have HL := Lib.hid h1
    clear h1
    go_enter Tryd.func86, Tryd.ntmps86
    go_upto_region 1 with fail
    rw [HW.out]
    go_wp2_with (refine ldr (b := w.heap.size) (t := 71) (cs := dlC r M) (.tmp 1) rfl rfl Tryd.underlying71 rfl info_dl rfl ?_ ?_; (· exact HX.out.box))
    refine (CF.out _ HX.out.up).mono ?_; rintro e w2 ⟨rfl, hb⟩
    have HA := Lib.hid (HX.out.next hb)
    clear hb
    obtain ⟨m0, a0⟩ := HA.out.box.dl
    go_wp2_with fail
    go_ret
    exact ⟨ret_bool (by simp [h0, HL.out]), HA.out.up⟩
  · have g1 : ((r.a.ints.length : Int) == (r.m.ints.length : Int)) = false := by rw [beq_eq_false_iff_ne]; omega
    have g2 : (r.a.ints.length == r.m.ints.length) = false := by simpa using h1
    have HL := Lib.hid h1
    clear h1
    go_enter Tryd.func86, Tryd.ntmps86
    go_upto_region 1 with fail
    rw [HW.out]
    go_wp2_with (refine ldr (b := w.heap.size) (t := 71) (cs := dlC r M) (.tmp 1) rfl rfl Tryd.underlying71 rfl info_dl rfl ?_ ?_; (· exact HX.out.box))
    refine (CF.out _ HX.out.up).mono ?_; rintro e w2 ⟨rfl, hb⟩
    have HA := Lib.hid (HX.out.next hb)
    clear hb
    obtain ⟨m0, a0⟩ := HA.out.box.dl
    go_wp2_with fail
    go_ret
    exact ⟨ret_bool (by simp [h0, HL.out]), HA.out.up⟩

/-- What the document's Fire gives of a roll that is full. -/
def DFPost (pl : Nat → Prop) (w : World) (r : RL) (e : Ending) (w' : World) : Prop :=
  ∃ M B d, e = .returned (.tuple #[.agg (dlC ⟨r.m, S4.zero⟩ M).toArray, .slice B r.a.ints.length d, .int .i64 0]) ∧ DW w' (plN pl w) ⟨r.m, S4.zero⟩ M ∧ RD w' (plN pl w) 1 B r.a.ints.length (r.a.ints.map (Value.int .i64)) ∧ Below w.heap.size w w'

set_option maxRecDepth 100000 in
set_option maxHeartbeats 2000000 in
theorem c_dfire {pl : Nat → Prop} {r : RL} {M : DM} {w : World} (h : DW w pl r M) (hf : rlFine r = true) (hu : rlFull r = true) :
    Calls Tryd.prog 85 #[.agg (dlC r M).toArray] w (DFPost pl w r) := by
  have hX := dbx h
  generalize hw1 : (w.alloc (.cells (dlC r M).toArray 71)).alloc (.cells #[.slice none 0 0, .slice none 0 0] 71) = w1 at hX
  have HW := Lib.hid hw1
  have HX := Lib.hid hX
  have CF := Lib.hid (fun W (hW : Below w.heap.size w W) => c_dfine (h.below hW))
  have CU := Lib.hid (fun W (hW : Below w.heap.size w W) => c_dfull (h.below hW))
  rw [hf] at CF
  rw [hu] at CU
  have HZ : Hid (S4.zero.ints = []) := Lib.hid zero_ints
  clear h hX hw1 hf hu
  go_enter Tryd.func85, Tryd.ntmps85
  go_upto_region 1 with fail
  rw [HW.out]
  go_wp2_with (refine ldr (b := w.heap.size) (t := 71) (cs := dlC r M) (.tmp 1) rfl rfl Tryd.underlying71 rfl info_dl rfl ?_ ?_; (· exact HX.out.box))
  refine (CF.out _ HX.out.up).mono ?_; rintro e w2 ⟨rfl, hb⟩
  have HA := Lib.hid (HX.out.next hb)
  clear hb
  go_wp2_with (refine ldr (b := w.heap.size) (t := 71) (cs := dlC r M) (.tmp 1) rfl rfl Tryd.underlying71 rfl info_dl rfl ?_ ?_; (· exact HA.out.box))
  refine (CU.out _ HA.out.up).mono ?_; rintro e w3 ⟨rfl, hb⟩
  have HB := Lib.hid (HA.out.next hb)
  clear hb
  obtain ⟨m0, a0⟩ := HB.out.box.dl
  have r0 := HB.out.res.cell 0 _ rfl
  have r1 := HB.out.res.cell 1 _ rfl
  have f0 := HB.out.res.free 0
  have f1 := HB.out.res.free 1
  go_wp2_with fail
  go_region
  all_goals
    go_wp2
    refine bodyPost_ret (v := .tuple #[.agg ([.slice M.A r.m.ints.length M.c, .slice none 0 0] : List Value).toArray, .slice M.B r.a.ints.length M.d, .int .i64 0]) (results_cee (fn := Tryd.f85) (p := 2) (t := 3) (u := 4) rfl _ _ _ rfl ((HB.out.res.set 0 _).set 1 _) Tryd.underlying71 rfl info_dl) rfl ?_
    refine ⟨⟨M.A, M.c, none, 0⟩, M.B, M.d, ?_, ?_, ?_, ?_⟩
    · unfold dlC
      rw [HZ.out]
      rfl
    · exact ⟨((HB.out.dw.m.only (((Only.refl (two2 w) w3).setCell (p := ⟨w.heap.size + 1, 0, none⟩) (.inl (.inr rfl)) _).setCell (p := ⟨w.heap.size + 1, 1, none⟩) (.inl (.inr rfl)) _) pl2_no).lo (fun _ hb => hb.1)), by
        show RD _ (plN pl w) 1 none S4.zero.ints.length (S4.zero.ints.map (Value.int .i64))
        rw [HZ.out]
        exact RD.nil _ _ _ _⟩
    · exact (HB.out.dw.a.only (((Only.refl (two2 w) w3).setCell (p := ⟨w.heap.size + 1, 0, none⟩) (.inl (.inr rfl)) _).setCell (p := ⟨w.heap.size + 1, 1, none⟩) (.inl (.inr rfl)) _) pl2_no).lo (fun _ hb => hb.1)
    · have hq := (((Only.refl (two2 w) w3).setCell (p := ⟨w.heap.size + 1, 0, none⟩) (.inl (.inr rfl)) (.slice M.A r.m.ints.length M.c)).setCell (p := ⟨w.heap.size + 1, 1, none⟩) (.inl (.inr rfl)) (.slice none 0 0)).two2_below HB.out.up
      exact ⟨hq.os, hq.tape, hq.output, hq.size, hq.block⟩
end Go.Proofs.YtlfglibepldjpaaDoor

/- The contract of the document's Fine: the same plain function. -/
import Derived.Test.YtdcaiecgholgiaaDoorFb
import Derived.Test.YtdcaiecgholgiaaDoorWf
namespace Go.Proofs.YtdcaiecgholgiaaDoor
open Go.RowKit

set_option maxHeartbeats 400000 in
theorem c_vplace (n : Int) (w : World) :
    Calls Tryd.prog 33 #[.int .i64 n] w fun e w' => e = .returned (.bool (placeB n)) ∧ w = w' := by
  by_cases h : 0 ≤ n
  · go_enter Tryd.func33, Tryd.ntmps33
    go_wp2
    go_ret
    exact ⟨ret_bool (by simp [h, placeB]), rfl⟩
  · go_enter Tryd.func33, Tryd.ntmps33
    go_wp2
    go_ret
    exact ⟨ret_bool (by simp [placeB]; omega), rfl⟩

/-- What is asked of place i of the registers and of the calls. -/
def rowB (f : FR) (i : Nat) : Bool := fineW (f.regs.getD i 0) && (if (i : Int) < f.depth then placeB (f.stack.getD i 0) else zeroB (f.stack.getD i 0))
theorem fine_rows {f : FR} (hf : f.Ok) (hp : placeB f.pc = true) (h0 : 0 ≤ f.depth) (h8 : f.depth ≤ 8) (hr : ∀ i, i < 8 → rowB f i = true) (hw : ∀ i, i < 16 → fineW (f.words.getD i 0) = true) : fineF f = true := by
  refine fineF_of ⟨((placeB_iff _).1 hp).1, ((placeB_iff _).1 hp).2, h0, h8, fun x hx => ?_, fun x hx => ?_, fun i x hx hi => ?_, fun i x hx hi => ?_⟩
  · obtain ⟨i, hi⟩ := List.mem_iff_getElem?.1 hx
    have hl := (List.getElem?_eq_some_iff.1 hi).1
    have := hr i (by rw [← hf.regs]; exact hl)
    simp only [rowB, Bool.and_eq_true, List.getD_eq_getElem?_getD, hi, Option.getD_some] at this
    exact this.1
  · obtain ⟨i, hi⟩ := List.mem_iff_getElem?.1 hx
    have hl := (List.getElem?_eq_some_iff.1 hi).1
    have := hw i (by rw [← hf.words]; exact hl)
    simpa only [List.getD_eq_getElem?_getD, hi, Option.getD_some] using this
  · have hl := (List.getElem?_eq_some_iff.1 hx).1
    have := hr i (by rw [← hf.stack]; exact hl)
    simp only [rowB, Bool.and_eq_true, List.getD_eq_getElem?_getD, hx, Option.getD_some, if_pos hi] at this
    exact this.2
  · have hl := (List.getElem?_eq_some_iff.1 hx).1
    have := hr i (by rw [← hf.stack]; exact hl)
    simp only [rowB, Bool.and_eq_true, List.getD_eq_getElem?_getD, hx, Option.getD_some, if_neg (show ¬ (i : Int) < f.depth by omega), zeroB, beq_iff_eq] at this
    exact this.2
theorem fine_row_no {f : FR} (hf : f.Ok) (i : Nat) (hi : i < 8) (h : rowB f i = false) : fineF f = false := fineF_not fun k => by
  have hl : i < f.regs.length := by rw [hf.regs]; exact hi
  have hl2 : i < f.stack.length := by rw [hf.stack]; exact hi
  have e1 := List.getElem?_eq_getElem hl
  have e2 := List.getElem?_eq_getElem hl2
  have : rowB f i = true := by
    simp only [rowB, Bool.and_eq_true, List.getD_eq_getElem?_getD, e1, e2, Option.getD_some]
    refine ⟨k.regs _ (List.mem_of_getElem? e1), ?_⟩
    split
    · exact k.low i _ e2 ‹_›
    · have := k.high i _ e2 (by omega)
      rw [zeroB, this]
      rfl
  rw [this] at h
  cases h
theorem fine_word_no {f : FR} (hf : f.Ok) (i : Nat) (hi : i < 16) (h : fineW (f.words.getD i 0) = false) : fineF f = false := fineF_not fun k => by
  have hl : i < f.words.length := by rw [hf.words]; exact hi
  have e1 := List.getElem?_eq_getElem hl
  rw [List.getD_eq_getElem?_getD, e1, Option.getD_some, k.words _ (List.mem_of_getElem? e1)] at h
  cases h
set_option maxRecDepth 100000 in
set_option maxHeartbeats 4000000 in
theorem c_rfine {f : FR} (hf : f.Ok) (w : World) :
    Calls Tryd.prog 10 #[.agg f.cells.toArray] w fun e w' => e = .returned (.bool (fineF f)) ∧ Below w.heap.size w w' := by
  have hX := boxed w f 25
  generalize hw1 : w.alloc (.cells f.cells.toArray 25) = w1 at hX
  have HW := Lib.hid hw1
  have hz := hX.box.lt
  have c0 := hX.box.cell 0 _ (FR.c_pc f)
  have c26 := hX.box.cell 26 _ (FR.c_depth hf)
  have e0 := FR.c_pc f
  have HU := Lib.hid hX.up
  clear hw1
  have P1 := fun W => c_vplace f.pc W
  cases hp : placeB f.pc
  · rw [fine_pc f hp]
    simp only [hp] at P1
    clear hX hp
    go_enter Tryd.func10, Tryd.ntmps10
    go_wp2_with fail
    rw [HW.out]
    go_wp2_with (go_at_call 33; refine (P1 _).mono ?_; rintro e w' ⟨rfl, rfl⟩)
    go_ret
    exact ⟨rfl, HU.out⟩
  simp only [hp] at P1
  have HP := Lib.hid hp
  clear hp
  by_cases hd0 : f.depth < 0
  · rw [fine_neg f hd0]
    have hd1 : decide (f.depth < 0) = true := decide_eq_true (by omega)
    clear hX
    go_enter Tryd.func10, Tryd.ntmps10
    go_wp2_with fail
    rw [HW.out]
    go_wp2_with (go_at_call 33; refine (P1 _).mono ?_; rintro e w' ⟨rfl, rfl⟩)
    go_ret
    exact ⟨rfl, HU.out⟩
  by_cases hd8 : 8 < f.depth
  · rw [fine_big f hd8]
    have hd1 : decide (f.depth < 0) = false := decide_eq_false (by omega)
    have hd2 : decide (8 < f.depth) = true := decide_eq_true (by omega)
    clear hX
    go_enter Tryd.func10, Tryd.ntmps10
    go_wp2_with fail
    rw [HW.out]
    go_wp2_with (go_at_call 33; refine (P1 _).mono ?_; rintro e w' ⟨rfl, rfl⟩)
    go_ret
    exact ⟨rfl, HU.out⟩
  obtain ⟨d, hk⟩ : ∃ d : Nat, f.depth = d := ⟨f.depth.toNat, by omega⟩
  have hk8 : d ≤ 8 := by omega
  rw [hk] at c26
  have HK := Lib.hid hk
  clear hd0 hd8 hk
  have hd1 : decide ((d : Int) < 0) = false := decide_eq_false (by omega)
  have hd2 : decide (8 < (d : Int)) = false := decide_eq_false (by omega)
  have R : ∀ i, i < 8 → w1.cell? ⟨w.heap.size, 2 + i, none⟩ = some (.int .i64 (f.regs.getD i 0)) ∧ w1.cell? ⟨w.heap.size, 27 + i, none⟩ = some (.int .i64 (f.stack.getD i 0)) := fun i hi => ⟨hX.box.cell _ _ (FR.g_reg hf i hi), hX.box.cell _ _ (FR.g_stack hf i hi)⟩
  have HR := Lib.hid R
  have HV := Lib.hid (fun i (hi : i < 16) => hX.box.cell _ _ (FR.g_word hf i hi))
  clear hX R
  go_enter Tryd.func10, Tryd.ntmps10
  go_wp2_with fail
  rw [HW.out]
  go_wp2_with (go_at_call 33; refine (P1 _).mono ?_; rintro e w' ⟨rfl, rfl⟩)
  go_loopw [3] (fun i wr => ∃ k : Nat, k ≤ 8 ∧ i = .int .i64 k ∧ (∀ j, j < k → rowB f j = true) ∧ w1 = wr) (fun i _ => 8 - (intOf i).toNat)
  case atStart => exact ⟨0, by omega, rfl, fun j h => absurd h (by omega), rfl⟩
  case round =>
    obtain ⟨k, hk, rfl, hr, rfl⟩ := hrel
    have HRW := Lib.hid hr
    clear hr
    by_cases hlt : k < 8
    · obtain ⟨hc2, hc27⟩ := HR.out k hlt
      have RB0 : rowB f k = (fineW (f.regs.getD k 0) && (if (k : Int) < (d : Int) then placeB (f.stack.getD k 0) else zeroB (f.stack.getD k 0))) := by
        unfold rowB
        rw [HK.out]
      have Q1 := fun W => c_vfine (f.regs.getD k 0) W
      have Q2 := fun W => c_vplace (f.stack.getD k 0) W
      generalize f.regs.getD k 0 = rk at hc2 RB0 Q1
      generalize f.stack.getD k 0 = sk at hc27 RB0 Q2
      cases h1 : fineW rk
      · have RB := Lib.hid (show rowB f k = false by rw [RB0, h1]; rfl)
        simp only [h1] at Q1
        clear h1 RB0 P1
        go_wp2_with (first | (go_at_call 29; refine (Q1 _).mono ?_; rintro e w' ⟨rfl, rfl⟩))
        go_ret
        exact ⟨ret_bool (by rw [fine_row_no hf k hlt RB.out]), HU.out⟩
      simp only [h1] at Q1
      by_cases hd : k < d
      · have k1 : decide ((k : Int) < (d : Int)) = true := decide_eq_true (by omega)
        have k2 : decide ((d : Int) ≤ (k : Int)) = false := decide_eq_false (by omega)
        cases h2 : placeB sk
        · have RB := Lib.hid (show rowB f k = false by rw [RB0, h1, if_pos (by omega), h2]; rfl)
          simp only [h2] at Q2
          clear h1 h2 RB0 P1
          go_wp2_with (first | (go_at_call 29; refine (Q1 _).mono ?_; rintro e w' ⟨rfl, rfl⟩) | (go_at_call 33; refine (Q2 _).mono ?_; rintro e w' ⟨rfl, rfl⟩))
          go_ret
          exact ⟨ret_bool (by rw [fine_row_no hf k hlt RB.out]), HU.out⟩
        · have RB := Lib.hid (show rowB f k = true by rw [RB0, h1, if_pos (by omega), h2]; rfl)
          simp only [h2] at Q2
          clear h1 h2 RB0 P1
          go_wp2_with (first | (go_at_call 29; refine (Q1 _).mono ?_; rintro e w' ⟨rfl, rfl⟩) | (go_at_call 33; refine (Q2 _).mono ?_; rintro e w' ⟨rfl, rfl⟩))
          go_roundw
          case rel => exact ⟨k + 1, by omega, by go_num, fun j hj => by
            rcases Nat.lt_succ_iff_lt_or_eq.1 hj with h | rfl
            · exact HRW.out j h
            · exact RB.out, by first | rfl | trivial⟩
          case measure => simp [intOf]; omega
      · have k1 : decide ((k : Int) < (d : Int)) = false := decide_eq_false (by omega)
        have k2 : decide ((d : Int) ≤ (k : Int)) = true := decide_eq_true (by omega)
        cases h2 : zeroB sk
        · have RB := Lib.hid (show rowB f k = false by rw [RB0, h1, if_neg (by omega), h2]; rfl)
          have k3 : (sk != 0) = true := by simpa [zeroB] using h2
          clear h1 h2 RB0 P1
          go_wp2_with (first | (go_at_call 29; refine (Q1 _).mono ?_; rintro e w' ⟨rfl, rfl⟩) | (go_at_call 33; refine (Q2 _).mono ?_; rintro e w' ⟨rfl, rfl⟩))
          go_ret
          exact ⟨ret_bool (by rw [fine_row_no hf k hlt RB.out]), HU.out⟩
        · have RB := Lib.hid (show rowB f k = true by rw [RB0, h1, if_neg (by omega), h2]; rfl)
          have k3 : (sk != 0) = false := by simpa [zeroB] using h2
          clear h1 h2 RB0 P1
          go_wp2_with (first | (go_at_call 29; refine (Q1 _).mono ?_; rintro e w' ⟨rfl, rfl⟩) | (go_at_call 33; refine (Q2 _).mono ?_; rintro e w' ⟨rfl, rfl⟩))
          go_roundw
          case rel => exact ⟨k + 1, by omega, by go_num, fun j hj => by
            rcases Nat.lt_succ_iff_lt_or_eq.1 hj with h | rfl
            · exact HRW.out j h
            · exact RB.out, by first | rfl | trivial⟩
          case measure => simp [intOf]; omega
    · have hk' : 8 ≤ k := by omega
      go_wp2_with fail
      go_loopw [4] (fun i wr => ∃ k : Nat, k ≤ 16 ∧ i = .int .i64 k ∧ (∀ j, j < k → fineW (f.words.getD j 0) = true) ∧ w1 = wr) (fun i _ => 16 - (intOf i).toNat)
      case atStart => exact ⟨0, by omega, rfl, fun j h => absurd h (by omega), by first | rfl | trivial⟩
      case round =>
        obtain ⟨m, hm, rfl, hr, rfl⟩ := hrel
        have HWW := Lib.hid hr
        clear hr
        by_cases hlt : m < 16
        · have hc10 := HV.out m hlt
          have Q1 := fun W => c_vfine (f.words.getD m 0) W
          obtain ⟨rk, hrk⟩ : ∃ rk, f.words.getD m 0 = rk := ⟨_, rfl⟩
          rw [hrk] at hc10
          simp only [hrk] at Q1
          have HRK := Lib.hid hrk
          clear hrk
          cases h1 : fineW rk
          · simp only [h1] at Q1
            have RB := Lib.hid (show fineW (f.words.getD m 0) = false by rw [HRK.out, h1])
            clear h1 P1
            go_wp2_with (go_at_call 29; refine (Q1 _).mono ?_; rintro e w' ⟨rfl, rfl⟩)
            go_ret
            exact ⟨ret_bool (by rw [fine_word_no hf m hlt RB.out]), HU.out⟩
          · simp only [h1] at Q1
            have RB := Lib.hid (show fineW (f.words.getD m 0) = true by rw [HRK.out, h1])
            clear h1 P1
            go_wp2_with (go_at_call 29; refine (Q1 _).mono ?_; rintro e w' ⟨rfl, rfl⟩)
            go_roundw
            case rel => exact ⟨m + 1, by omega, by go_num, fun j hj => by
              rcases Nat.lt_succ_iff_lt_or_eq.1 hj with h | rfl
              · exact HWW.out j h
              · exact RB.out, by first | rfl | trivial⟩
            case measure => simp [intOf]; omega
        · have hk2 : 16 ≤ m := by omega
          go_wp2
          go_ret
          exact ⟨ret_bool (fine_rows hf HP.out (by rw [HK.out]; omega) (by rw [HK.out]; omega) (fun j hj => HRW.out j (by omega)) (fun j hj => HWW.out j (by omega))).symm, HU.out⟩
end Go.Proofs.YtdcaiecgholgiaaDoor

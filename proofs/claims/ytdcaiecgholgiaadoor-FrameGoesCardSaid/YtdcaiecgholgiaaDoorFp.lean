/- The contract of the document's Text. -/
import Derived.Test.YtdcaiecgholgiaaDoorFh
import Derived.Test.YtdcaiecgholgiaaDoorFt
import Derived.Test.YtdcaiecgholgiaaDoorWg
namespace Go.Proofs.YtdcaiecgholgiaaDoor
open Go.RowKit

set_option maxHeartbeats 400000 in
theorem c_number (n : Int) (h : fineW n = true) (w : World) :
    Calls Tryd.prog 36 #[.int .i64 n] w fun e w' => e = .returned (.string ⟨(32 :: Lib.itoa n).toArray⟩) ∧ Below w.heap.size w w' := by
  have C := Lib.hid (c_vtext n w)
  rw [textW_of n h, oneE_of n h] at C
  have hl := itoa_len n h
  generalize Lib.itoa n = t at C hl
  go_enter Tryd.func36, Tryd.ntmps36
  go_wp2_with (go_at_call 45; refine C.out.mono ?_; rintro e w1 ⟨rfl, hb1⟩)
  go_ret
  exact ⟨ret_str (bytes_push _ _), hb1⟩

theorem nums_len : ∀ xs : List Int, (∀ x ∈ xs, fineW x = true) → (numsT xs).length ≤ 21 * xs.length
  | [], _ => by simp [numsT]
  | x :: r, h => by
    have h1 := itoa_len x (h x (by simp))
    have h2 := nums_len r fun z hz => h z (by simp [hz])
    simp only [numsT, List.flatMap_cons, List.length_append, List.length_cons] at h2 ⊢
    omega
theorem nums_next (xs : List Int) (k : Nat) (x : Int) (h : xs[k]? = some x) : numsT (xs.take (k + 1)) = numsT (xs.take k) ++ (32 :: Lib.itoa x) := by
  rw [List.take_add_one, h]
  simp [numsT]

set_option maxRecDepth 100000 in
set_option maxHeartbeats 4000000 in
theorem c_rtext {f : FR} (hf : f.Ok) (w : World) :
    Calls Tryd.prog 12 #[.agg f.cells.toArray] w fun e w' => e = .returned (.string ⟨(textF f).toArray⟩) ∧ Below w.heap.size w w' := by
  have HX := Lib.hid (boxed w f 25)
  have C := Lib.hid (c_rfine hf (w.alloc (.cells f.cells.toArray 25)))
  cases hff : fineF f
  · rw [hff] at C
    rw [show textF f = [] from if_pos hff]
    clear hff
    go_enter Tryd.func12, Tryd.ntmps12
    go_wp2_with (first | (refine ld_ref hf HX.out.box rfl (.tmp 1) rfl rfl ?_) | (go_at_call 10; refine C.out.mono ?_; rintro e w2 ⟨rfl, hb2⟩))
    go_ret
    exact ⟨rfl, up_trans HX.out.up hb2⟩
  rw [hff] at C
  have hF := (fineF_iff f).1 hff
  obtain ⟨d, hk⟩ : ∃ d : Nat, f.depth = d := ⟨f.depth.toNat, by have := hF.d0; omega⟩
  have hk8 : d ≤ 8 := by have := hF.d1; omega
  have HTE := Lib.hid (show textF f = [112, 99] ++ numsT [f.pc] ++ (if f.bad = true then [32, 98, 97, 100] else []) ++ [32, 114] ++ numsT f.regs ++ [32, 109] ++ numsT f.words ++ [32, 115] ++ numsT (f.stack.take d) by
    unfold textF
    rw [if_neg (by rw [hff]; decide), hk, Int.toNat_natCast])
  have hpc : fineW f.pc = true := fineW_of _ (by have := hF.pc0; omega) (by have := hF.pc1; omega)
  have HPC := Lib.hid hpc
  have hc26 := FR.c_depth hf
  rw [hk] at hc26
  have HC26 := Lib.hid hc26
  have HREG := Lib.hid hF.regs
  have HWRD := Lib.hid hF.words
  have HDK := Lib.hid hk
  have HSTK := Lib.hid (show ∀ x ∈ f.stack.take d, fineW x = true from fun x hx => by
    obtain ⟨i, hi⟩ := List.mem_iff_getElem?.1 hx
    rw [List.getElem?_take] at hi
    split at hi
    · have := hF.low i x hi (by rw [hk]; omega)
      obtain ⟨a, b⟩ := (placeB_iff x).1 this
      exact fineW_of _ (by omega) (by omega)
    · cases hi)
  clear hff hF hk hc26 hpc
  cases hbad : f.bad
  · rw [hbad] at HTE
    rw [if_neg (by decide)] at HTE
    have hb1 := FR.c_bad f
    rw [hbad] at hb1
    have HBD := Lib.hid hb1
    clear hb1 hbad
    have hdl : (f.stack.take d).length = d := by rw [List.length_take, hf.stack]; omega
    have hlp := itoa_len f.pc HPC.out
    have CP := fun W => c_number f.pc HPC.out W
    obtain ⟨tp, htp⟩ : ∃ t, t = 32 :: Lib.itoa f.pc := ⟨_, rfl⟩
    rw [← htp] at CP
    have HTP := Lib.hid (show numsT [f.pc] = tp by rw [htp]; simp [numsT])
    have hlt : tp.length ≤ 21 := by rw [htp, List.length_cons]; omega
    clear htp hlp
    go_enter Tryd.func12, Tryd.ntmps12
    go_wp2_with (first | (refine ld_ref hf HX.out.box rfl (.tmp 1) rfl rfl ?_) | (go_at_call 10; refine C.out.mono ?_; rintro e w2 ⟨rfl, hb2⟩; have HB2 := Lib.hid (HX.out.box.up hb2 HX.out.box.lt); have HQ2 := Lib.hid (up_trans HX.out.up hb2); clear hb2; have k0 := HB2.out.cell 0 _ (FR.c_pc f)) | (go_at_call 36; refine (CP _).mono ?_; rintro e w3 ⟨rfl, hb3⟩; have HBw3 := Lib.hid (HB2.out.up hb3 HB2.out.lt); have HQ3 := Lib.hid (up_trans HQ2.out hb3); clear hb3; have k1 := HBw3.out.cell 1 _ HBD.out))
    clear CP
    obtain ⟨P4, hP4⟩ : ∃ P, P = [112, 99] ++ tp ++ ([] : List UInt8) ++ [32, 114] := ⟨_, rfl⟩
    have HP4 := Lib.hid hP4
    have hl4 : P4.length ≤ 40 := by rw [hP4]; simp; omega
    clear hP4
    go_loopw [3, 4] (fun s i w' => ∃ k : Nat, k ≤ 8 ∧ s = .string ⟨(P4 ++ numsT (f.regs.take k)).toArray⟩ ∧ i = .int .i64 k ∧ Below w3.heap.size w3 w') (fun _ i _ => 8 - (intOf i).toNat)
    case atStart => exact ⟨0, by omega, by (rw [HP4.out]; apply congrArg; apply ByteArray.ext; simp [numsT]), rfl, Below.refl _ _⟩
    case round =>
      rename World => wr0
      obtain ⟨k0, hk, rfl, rfl, hbr⟩ := hrel
      have HBR0 := Lib.hid hbr
      have HBX0 := Lib.hid (HBw3.out.up hbr HBw3.out.lt)
      clear hbr
      by_cases hlt : k0 < 8
      · have hl : k0 < f.regs.length := by rw [hf.regs]; omega
        obtain ⟨x, hx⟩ : ∃ x, f.regs[k0]? = some x := ⟨_, List.getElem?_eq_getElem hl⟩
        have hfx := HREG.out x (List.mem_of_getElem? hx)
        have HNX := Lib.hid (nums_next _ k0 x hx)
        have hc := HBX0.out.cell _ _ (FR.c_reg hf k0 x hx)
        have CN := Lib.hid (c_number x hfx wr0)
        have hln := nums_len (f.regs.take k0) (fun z hz => HREG.out z (List.mem_of_mem_take hz))
        have htl : (f.regs.take k0).length ≤ 16 := by rw [List.length_take]; omega
        have hlx := itoa_len x hfx
        generalize Lib.itoa x = tx at CN HNX hlx
        obtain ⟨Q, hQ⟩ : ∃ Q, Q = P4 ++ numsT (f.regs.take k0) := ⟨_, rfl⟩
        have HQL := Lib.hid hQ
        have hQn : Q.length ≤ 1500 := by rw [hQ, List.length_append]; omega
        rw [← hQ]
        clear hx hfx hl hQ hln htl
        go_wp2_with (go_at_call 36; refine CN.out.mono ?_; rintro e wq ⟨rfl, hbq⟩)
        go_roundw
        case rel => exact ⟨k0 + 1, by omega, by rw [HNX.out, ← List.append_assoc, ← HQL.out, ← bytes_app], by go_num, up_trans HBR0.out hbq⟩
        case measure => simp [intOf]; omega
      · have hk' : 8 ≤ k0 := by omega
        have HAL := Lib.hid (show numsT (f.regs.take k0) = numsT f.regs by rw [List.take_of_length_le (by rw [hf.regs]; omega)])
        rw [HAL.out]
        have hn := nums_len f.regs HREG.out
        rw [hf.regs] at hn
        obtain ⟨Q4, hQ⟩ : ∃ Q, Q = P4 ++ numsT f.regs := ⟨_, rfl⟩
        have HQ4L := Lib.hid hQ
        have hq4 : Q4.length ≤ 298 := by rw [hQ, List.length_append]; omega
        rw [← hQ]
        clear hQ hn
        obtain ⟨P5, hP⟩ : ∃ P, P = Q4 ++ [32, 109] := ⟨_, rfl⟩
        have HP5 := Lib.hid hP
        have hl5 : P5.length ≤ 300 := by rw [hP]; simp; omega
        clear hP
        go_wp2_with fail
        go_loopw [3, 5] (fun s i w' => ∃ k : Nat, k ≤ 16 ∧ s = .string ⟨(P5 ++ numsT (f.words.take k)).toArray⟩ ∧ i = .int .i64 k ∧ Below wr0.heap.size wr0 w') (fun _ i _ => 16 - (intOf i).toNat)
        case atStart => exact ⟨0, by omega, by (rw [HP5.out]; apply congrArg; apply ByteArray.ext; simp [numsT]), rfl, Below.refl _ _⟩
        case round =>
          rename World => wr1
          obtain ⟨k1, hk, rfl, rfl, hbr⟩ := hrel
          have HBR1 := Lib.hid hbr
          have HBX1 := Lib.hid (HBX0.out.up hbr HBX0.out.lt)
          clear hbr
          by_cases hlt : k1 < 16
          · have hl : k1 < f.words.length := by rw [hf.words]; omega
            obtain ⟨x, hx⟩ : ∃ x, f.words[k1]? = some x := ⟨_, List.getElem?_eq_getElem hl⟩
            have hfx := HWRD.out x (List.mem_of_getElem? hx)
            have HNX := Lib.hid (nums_next _ k1 x hx)
            have hc := HBX1.out.cell _ _ (FR.c_word hf k1 x hx)
            have CN := Lib.hid (c_number x hfx wr1)
            have hln := nums_len (f.words.take k1) (fun z hz => HWRD.out z (List.mem_of_mem_take hz))
            have htl : (f.words.take k1).length ≤ 16 := by rw [List.length_take]; omega
            have hlx := itoa_len x hfx
            generalize Lib.itoa x = tx at CN HNX hlx
            obtain ⟨Q, hQ⟩ : ∃ Q, Q = P5 ++ numsT (f.words.take k1) := ⟨_, rfl⟩
            have HQL := Lib.hid hQ
            have hQn : Q.length ≤ 1500 := by rw [hQ, List.length_append]; omega
            rw [← hQ]
            clear hx hfx hl hQ hln htl
            go_wp2_with (go_at_call 36; refine CN.out.mono ?_; rintro e wq ⟨rfl, hbq⟩)
            go_roundw
            case rel => exact ⟨k1 + 1, by omega, by rw [HNX.out, ← List.append_assoc, ← HQL.out, ← bytes_app], by go_num, up_trans HBR1.out hbq⟩
            case measure => simp [intOf]; omega
          · have hk' : 16 ≤ k1 := by omega
            have HAL := Lib.hid (show numsT (f.words.take k1) = numsT f.words by rw [List.take_of_length_le (by rw [hf.words]; omega)])
            rw [HAL.out]
            have hn := nums_len f.words HWRD.out
            rw [hf.words] at hn
            obtain ⟨Q5, hQ⟩ : ∃ Q, Q = P5 ++ numsT f.words := ⟨_, rfl⟩
            have HQ5L := Lib.hid hQ
            have hq5 : Q5.length ≤ 698 := by rw [hQ, List.length_append]; omega
            rw [← hQ]
            clear hQ hn
            obtain ⟨P6, hP⟩ : ∃ P, P = Q5 ++ [32, 115] := ⟨_, rfl⟩
            have HP6 := Lib.hid hP
            have hl6 : P6.length ≤ 700 := by rw [hP]; simp; omega
            clear hP
            go_wp2_with fail
            go_loopw [3, 6] (fun s i w' => ∃ k : Nat, k ≤ d ∧ s = .string ⟨(P6 ++ numsT ((f.stack.take d).take k)).toArray⟩ ∧ i = .int .i64 k ∧ Below wr1.heap.size wr1 w') (fun _ i _ => d - (intOf i).toNat)
            case atStart => exact ⟨0, by omega, by (rw [HP6.out]; apply congrArg; apply ByteArray.ext; simp [numsT]), rfl, Below.refl _ _⟩
            case round =>
              rename World => wr2
              obtain ⟨k2, hk, rfl, rfl, hbr⟩ := hrel
              have HBR2 := Lib.hid hbr
              have HBX2 := Lib.hid (HBX1.out.up hbr HBX1.out.lt)
              clear hbr
              have hd26 := HBX2.out.cell 26 _ HC26.out
              by_cases hlt : k2 < d
              · have hl : k2 < (f.stack.take d).length := by rw [hdl]; omega
                obtain ⟨x, hx⟩ : ∃ x, (f.stack.take d)[k2]? = some x := ⟨_, List.getElem?_eq_getElem hl⟩
                have hfx := HSTK.out x (List.mem_of_getElem? hx)
                have HNX := Lib.hid (nums_next _ k2 x hx)
                have hx' : f.stack[k2]? = some x := by
                  rw [List.getElem?_take, if_pos hlt] at hx
                  exact hx
                have hc := HBX2.out.cell _ _ (FR.c_stack hf k2 x hx')
                clear hx'
                have CN := Lib.hid (c_number x hfx wr2)
                have hln := nums_len ((f.stack.take d).take k2) (fun z hz => HSTK.out z (List.mem_of_mem_take hz))
                have htl : ((f.stack.take d).take k2).length ≤ 16 := by rw [List.length_take]; omega
                have hlx := itoa_len x hfx
                generalize Lib.itoa x = tx at CN HNX hlx
                obtain ⟨Q, hQ⟩ : ∃ Q, Q = P6 ++ numsT ((f.stack.take d).take k2) := ⟨_, rfl⟩
                have HQL := Lib.hid hQ
                have hQn : Q.length ≤ 1500 := by rw [hQ, List.length_append]; omega
                rw [← hQ]
                clear hx hfx hl hQ hln htl
                go_wp2_with (go_at_call 36; refine CN.out.mono ?_; rintro e wq ⟨rfl, hbq⟩)
                go_roundw
                case rel => exact ⟨k2 + 1, by omega, by rw [HNX.out, ← List.append_assoc, ← HQL.out, ← bytes_app], by go_num, up_trans HBR2.out hbq⟩
                case measure => simp [intOf]; omega
              · have hk' : d ≤ k2 := by omega
                have HAL := Lib.hid (show numsT ((f.stack.take d).take k2) = numsT (f.stack.take d) by rw [List.take_of_length_le (by rw [hdl]; omega)])
                rw [HAL.out]
                have hn := nums_len (f.stack.take d) HSTK.out
                rw [hdl] at hn
                obtain ⟨Q6, hQ⟩ : ∃ Q, Q = P6 ++ numsT (f.stack.take d) := ⟨_, rfl⟩
                have HQ6L := Lib.hid hQ
                have hq6 : Q6.length ≤ 1400 := by rw [hQ, List.length_append]; omega
                rw [← hQ]
                clear hQ hn
                go_wp2
                go_ret
                refine ⟨ret_str ?_, up_trans HQ3.out (up_trans HBR0.out (up_trans HBR1.out HBR2.out))⟩
                apply congrArg
                rw [HTE.out, HQ6L.out, HP6.out, HQ5L.out, HP5.out, HQ4L.out, HP4.out, HTP.out]
  · rw [hbad] at HTE
    rw [if_pos rfl] at HTE
    have hb1 := FR.c_bad f
    rw [hbad] at hb1
    have HBD := Lib.hid hb1
    clear hb1 hbad
    have hdl : (f.stack.take d).length = d := by rw [List.length_take, hf.stack]; omega
    have hlp := itoa_len f.pc HPC.out
    have CP := fun W => c_number f.pc HPC.out W
    obtain ⟨tp, htp⟩ : ∃ t, t = 32 :: Lib.itoa f.pc := ⟨_, rfl⟩
    rw [← htp] at CP
    have HTP := Lib.hid (show numsT [f.pc] = tp by rw [htp]; simp [numsT])
    have hlt : tp.length ≤ 21 := by rw [htp, List.length_cons]; omega
    clear htp hlp
    go_enter Tryd.func12, Tryd.ntmps12
    go_wp2_with (first | (refine ld_ref hf HX.out.box rfl (.tmp 1) rfl rfl ?_) | (go_at_call 10; refine C.out.mono ?_; rintro e w2 ⟨rfl, hb2⟩; have HB2 := Lib.hid (HX.out.box.up hb2 HX.out.box.lt); have HQ2 := Lib.hid (up_trans HX.out.up hb2); clear hb2; have k0 := HB2.out.cell 0 _ (FR.c_pc f)) | (go_at_call 36; refine (CP _).mono ?_; rintro e w3 ⟨rfl, hb3⟩; have HBw3 := Lib.hid (HB2.out.up hb3 HB2.out.lt); have HQ3 := Lib.hid (up_trans HQ2.out hb3); clear hb3; have k1 := HBw3.out.cell 1 _ HBD.out))
    clear CP
    obtain ⟨P4, hP4⟩ : ∃ P, P = [112, 99] ++ tp ++ [32, 98, 97, 100] ++ [32, 114] := ⟨_, rfl⟩
    have HP4 := Lib.hid hP4
    have hl4 : P4.length ≤ 40 := by rw [hP4]; simp; omega
    clear hP4
    go_loopw [3, 4] (fun s i w' => ∃ k : Nat, k ≤ 8 ∧ s = .string ⟨(P4 ++ numsT (f.regs.take k)).toArray⟩ ∧ i = .int .i64 k ∧ Below w3.heap.size w3 w') (fun _ i _ => 8 - (intOf i).toNat)
    case atStart => exact ⟨0, by omega, by (rw [HP4.out]; apply congrArg; apply ByteArray.ext; simp [numsT]), rfl, Below.refl _ _⟩
    case round =>
      rename World => wr0
      obtain ⟨k0, hk, rfl, rfl, hbr⟩ := hrel
      have HBR0 := Lib.hid hbr
      have HBX0 := Lib.hid (HBw3.out.up hbr HBw3.out.lt)
      clear hbr
      by_cases hlt : k0 < 8
      · have hl : k0 < f.regs.length := by rw [hf.regs]; omega
        obtain ⟨x, hx⟩ : ∃ x, f.regs[k0]? = some x := ⟨_, List.getElem?_eq_getElem hl⟩
        have hfx := HREG.out x (List.mem_of_getElem? hx)
        have HNX := Lib.hid (nums_next _ k0 x hx)
        have hc := HBX0.out.cell _ _ (FR.c_reg hf k0 x hx)
        have CN := Lib.hid (c_number x hfx wr0)
        have hln := nums_len (f.regs.take k0) (fun z hz => HREG.out z (List.mem_of_mem_take hz))
        have htl : (f.regs.take k0).length ≤ 16 := by rw [List.length_take]; omega
        have hlx := itoa_len x hfx
        generalize Lib.itoa x = tx at CN HNX hlx
        obtain ⟨Q, hQ⟩ : ∃ Q, Q = P4 ++ numsT (f.regs.take k0) := ⟨_, rfl⟩
        have HQL := Lib.hid hQ
        have hQn : Q.length ≤ 1500 := by rw [hQ, List.length_append]; omega
        rw [← hQ]
        clear hx hfx hl hQ hln htl
        go_wp2_with (go_at_call 36; refine CN.out.mono ?_; rintro e wq ⟨rfl, hbq⟩)
        go_roundw
        case rel => exact ⟨k0 + 1, by omega, by rw [HNX.out, ← List.append_assoc, ← HQL.out, ← bytes_app], by go_num, up_trans HBR0.out hbq⟩
        case measure => simp [intOf]; omega
      · have hk' : 8 ≤ k0 := by omega
        have HAL := Lib.hid (show numsT (f.regs.take k0) = numsT f.regs by rw [List.take_of_length_le (by rw [hf.regs]; omega)])
        rw [HAL.out]
        have hn := nums_len f.regs HREG.out
        rw [hf.regs] at hn
        obtain ⟨Q4, hQ⟩ : ∃ Q, Q = P4 ++ numsT f.regs := ⟨_, rfl⟩
        have HQ4L := Lib.hid hQ
        have hq4 : Q4.length ≤ 298 := by rw [hQ, List.length_append]; omega
        rw [← hQ]
        clear hQ hn
        obtain ⟨P5, hP⟩ : ∃ P, P = Q4 ++ [32, 109] := ⟨_, rfl⟩
        have HP5 := Lib.hid hP
        have hl5 : P5.length ≤ 300 := by rw [hP]; simp; omega
        clear hP
        go_wp2_with fail
        go_loopw [3, 5] (fun s i w' => ∃ k : Nat, k ≤ 16 ∧ s = .string ⟨(P5 ++ numsT (f.words.take k)).toArray⟩ ∧ i = .int .i64 k ∧ Below wr0.heap.size wr0 w') (fun _ i _ => 16 - (intOf i).toNat)
        case atStart => exact ⟨0, by omega, by (rw [HP5.out]; apply congrArg; apply ByteArray.ext; simp [numsT]), rfl, Below.refl _ _⟩
        case round =>
          rename World => wr1
          obtain ⟨k1, hk, rfl, rfl, hbr⟩ := hrel
          have HBR1 := Lib.hid hbr
          have HBX1 := Lib.hid (HBX0.out.up hbr HBX0.out.lt)
          clear hbr
          by_cases hlt : k1 < 16
          · have hl : k1 < f.words.length := by rw [hf.words]; omega
            obtain ⟨x, hx⟩ : ∃ x, f.words[k1]? = some x := ⟨_, List.getElem?_eq_getElem hl⟩
            have hfx := HWRD.out x (List.mem_of_getElem? hx)
            have HNX := Lib.hid (nums_next _ k1 x hx)
            have hc := HBX1.out.cell _ _ (FR.c_word hf k1 x hx)
            have CN := Lib.hid (c_number x hfx wr1)
            have hln := nums_len (f.words.take k1) (fun z hz => HWRD.out z (List.mem_of_mem_take hz))
            have htl : (f.words.take k1).length ≤ 16 := by rw [List.length_take]; omega
            have hlx := itoa_len x hfx
            generalize Lib.itoa x = tx at CN HNX hlx
            obtain ⟨Q, hQ⟩ : ∃ Q, Q = P5 ++ numsT (f.words.take k1) := ⟨_, rfl⟩
            have HQL := Lib.hid hQ
            have hQn : Q.length ≤ 1500 := by rw [hQ, List.length_append]; omega
            rw [← hQ]
            clear hx hfx hl hQ hln htl
            go_wp2_with (go_at_call 36; refine CN.out.mono ?_; rintro e wq ⟨rfl, hbq⟩)
            go_roundw
            case rel => exact ⟨k1 + 1, by omega, by rw [HNX.out, ← List.append_assoc, ← HQL.out, ← bytes_app], by go_num, up_trans HBR1.out hbq⟩
            case measure => simp [intOf]; omega
          · have hk' : 16 ≤ k1 := by omega
            have HAL := Lib.hid (show numsT (f.words.take k1) = numsT f.words by rw [List.take_of_length_le (by rw [hf.words]; omega)])
            rw [HAL.out]
            have hn := nums_len f.words HWRD.out
            rw [hf.words] at hn
            obtain ⟨Q5, hQ⟩ : ∃ Q, Q = P5 ++ numsT f.words := ⟨_, rfl⟩
            have HQ5L := Lib.hid hQ
            have hq5 : Q5.length ≤ 698 := by rw [hQ, List.length_append]; omega
            rw [← hQ]
            clear hQ hn
            obtain ⟨P6, hP⟩ : ∃ P, P = Q5 ++ [32, 115] := ⟨_, rfl⟩
            have HP6 := Lib.hid hP
            have hl6 : P6.length ≤ 700 := by rw [hP]; simp; omega
            clear hP
            go_wp2_with fail
            go_loopw [3, 6] (fun s i w' => ∃ k : Nat, k ≤ d ∧ s = .string ⟨(P6 ++ numsT ((f.stack.take d).take k)).toArray⟩ ∧ i = .int .i64 k ∧ Below wr1.heap.size wr1 w') (fun _ i _ => d - (intOf i).toNat)
            case atStart => exact ⟨0, by omega, by (rw [HP6.out]; apply congrArg; apply ByteArray.ext; simp [numsT]), rfl, Below.refl _ _⟩
            case round =>
              rename World => wr2
              obtain ⟨k2, hk, rfl, rfl, hbr⟩ := hrel
              have HBR2 := Lib.hid hbr
              have HBX2 := Lib.hid (HBX1.out.up hbr HBX1.out.lt)
              clear hbr
              have hd26 := HBX2.out.cell 26 _ HC26.out
              by_cases hlt : k2 < d
              · have hl : k2 < (f.stack.take d).length := by rw [hdl]; omega
                obtain ⟨x, hx⟩ : ∃ x, (f.stack.take d)[k2]? = some x := ⟨_, List.getElem?_eq_getElem hl⟩
                have hfx := HSTK.out x (List.mem_of_getElem? hx)
                have HNX := Lib.hid (nums_next _ k2 x hx)
                have hx' : f.stack[k2]? = some x := by
                  rw [List.getElem?_take, if_pos hlt] at hx
                  exact hx
                have hc := HBX2.out.cell _ _ (FR.c_stack hf k2 x hx')
                clear hx'
                have CN := Lib.hid (c_number x hfx wr2)
                have hln := nums_len ((f.stack.take d).take k2) (fun z hz => HSTK.out z (List.mem_of_mem_take hz))
                have htl : ((f.stack.take d).take k2).length ≤ 16 := by rw [List.length_take]; omega
                have hlx := itoa_len x hfx
                generalize Lib.itoa x = tx at CN HNX hlx
                obtain ⟨Q, hQ⟩ : ∃ Q, Q = P6 ++ numsT ((f.stack.take d).take k2) := ⟨_, rfl⟩
                have HQL := Lib.hid hQ
                have hQn : Q.length ≤ 1500 := by rw [hQ, List.length_append]; omega
                rw [← hQ]
                clear hx hfx hl hQ hln htl
                go_wp2_with (go_at_call 36; refine CN.out.mono ?_; rintro e wq ⟨rfl, hbq⟩)
                go_roundw
                case rel => exact ⟨k2 + 1, by omega, by rw [HNX.out, ← List.append_assoc, ← HQL.out, ← bytes_app], by go_num, up_trans HBR2.out hbq⟩
                case measure => simp [intOf]; omega
              · have hk' : d ≤ k2 := by omega
                have HAL := Lib.hid (show numsT ((f.stack.take d).take k2) = numsT (f.stack.take d) by rw [List.take_of_length_le (by rw [hdl]; omega)])
                rw [HAL.out]
                have hn := nums_len (f.stack.take d) HSTK.out
                rw [hdl] at hn
                obtain ⟨Q6, hQ⟩ : ∃ Q, Q = P6 ++ numsT (f.stack.take d) := ⟨_, rfl⟩
                have HQ6L := Lib.hid hQ
                have hq6 : Q6.length ≤ 1400 := by rw [hQ, List.length_append]; omega
                rw [← hQ]
                clear hQ hn
                go_wp2
                go_ret
                refine ⟨ret_str ?_, up_trans HQ3.out (up_trans HBR0.out (up_trans HBR1.out HBR2.out))⟩
                apply congrArg
                rw [HTE.out, HQ6L.out, HP6.out, HQ5L.out, HP5.out, HQ4L.out, HP4.out, HTP.out]
end Go.Proofs.YtdcaiecgholgiaaDoor

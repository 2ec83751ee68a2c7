/- The contract of the document's Fine: the same plain function. The contracts of the document's Get, Load, Set, Store and Go. The contract of the document's New. Two frames of the document's type with the same cells are equal. -/
import Derived.Test.YtflpjpdgacjlcaaP3
import Derived.Test.YtflpjpdgacjlcaaP2
import Derived.Test.YtflpjpdgacjlcaaP4
namespace Go.Proofs.Ytflpjpdgacjlcaa
open Go.RowKit

set_option maxHeartbeats 400000 in
theorem c_vplace (n : Int) (w : World) :
    Calls Try.prog 55 #[.int .i64 n] w fun e w' => e = .returned (.bool (placeB n)) ∧ w = w' := by
  by_cases h : 0 ≤ n
  · go_enter Try.func55, Try.ntmps55
    go_wp2
    go_ret
    exact ⟨ret_bool (by simp [h, placeB]), rfl⟩
  · go_enter Try.func55, Try.ntmps55
    go_wp2
    go_ret
    exact ⟨ret_bool (by simp [placeB]; omega), rfl⟩

/-- What is asked of place i of the registers and of the calls. -/
def rowB (f : FR) (i : Nat) : Bool := fineW (f.regs.getD i 0) && (if (i : Int) < f.depth then placeB (f.stack.getD i 0) else zeroB (f.stack.getD i 0))
theorem fine_rows {f : FR} (hf : f.Ok) (hp : placeB f.pc = true) (h0 : 0 ≤ f.depth) (h8 : f.depth ≤ 8) (hr : ∀ i, i < 8 → rowB f i = true) (hw : ∀ i, i < 16 → fineW (f.words.getD i 0) = true) : fineF f = true := by
  refine fineF_of ⟨((placeB_iff _).1 hp).1, ((placeB_iff _).1 hp).2, h0, h8, fun x hx => ?_, fun x hx => ?_, fun i x hx hi => ?_, fun i x hx hi => ?_⟩
  · obtain ⟨i, hi⟩ := List.mem_iff_getElem?.1 hx
    have hl := (List.getElem?_eq_some_iff.1 hi).1
    have := hr i (by rw [← hf.regs]; exact hl)
    simp only [rowB, Bool.and_eq_true, List.getD_eq_getElem?_getD, hi, Option.getD_some] at this
    exact this.1
  · obtain ⟨i, hi⟩ := List.mem_iff_getElem?.1 hx
    have hl := (List.getElem?_eq_some_iff.1 hi).1
    have := hw i (by rw [← hf.words]; exact hl)
    simpa only [List.getD_eq_getElem?_getD, hi, Option.getD_some] using this
  · have hl := (List.getElem?_eq_some_iff.1 hx).1
    have := hr i (by rw [← hf.stack]; exact hl)
    simp only [rowB, Bool.and_eq_true, List.getD_eq_getElem?_getD, hx, Option.getD_some, if_pos hi] at this
    exact this.2
  · have hl := (List.getElem?_eq_some_iff.1 hx).1
    have := hr i (by rw [← hf.stack]; exact hl)
    simp only [rowB, Bool.and_eq_true, List.getD_eq_getElem?_getD, hx, Option.getD_some, if_neg (show ¬ (i : Int) < f.depth by omega), zeroB, beq_iff_eq] at this
    exact this.2
theorem fine_row_no {f : FR} (hf : f.Ok) (i : Nat) (hi : i < 8) (h : rowB f i = false) : fineF f = false := fineF_not fun k => by
  have hl : i < f.regs.length := by rw [hf.regs]; exact hi
  have hl2 : i < f.stack.length := by rw [hf.stack]; exact hi
  have e1 := List.getElem?_eq_getElem hl
  have e2 := List.getElem?_eq_getElem hl2
  have : rowB f i = true := by
    simp only [rowB, Bool.and_eq_true, List.getD_eq_getElem?_getD, e1, e2, Option.getD_some]
    refine ⟨k.regs _ (List.mem_of_getElem? e1), ?_⟩
    split
    · exact k.low i _ e2 ‹_›
    · have := k.high i _ e2 (by omega)
      rw [zeroB, this]
      rfl
  rw [this] at h
  cases h
theorem fine_word_no {f : FR} (hf : f.Ok) (i : Nat) (hi : i < 16) (h : fineW (f.words.getD i 0) = false) : fineF f = false := fineF_not fun k => by
  have hl : i < f.words.length := by rw [hf.words]; exact hi
  have e1 := List.getElem?_eq_getElem hl
  rw [List.getD_eq_getElem?_getD, e1, Option.getD_some, k.words _ (List.mem_of_getElem? e1)] at h
  cases h
set_option maxRecDepth 100000 in
set_option maxHeartbeats 4000000 in
theorem c_frfine {f : FR} (hf : f.Ok) (w : World) :
    Calls Try.prog 36 #[.agg f.cells.toArray] w fun e w' => e = .returned (.bool (fineF f)) ∧ Below w.heap.size w w' := by
  have hX := boxed w f 63
  generalize hw1 : w.alloc (.cells f.cells.toArray 63) = w1 at hX
  have HW := Lib.hid hw1
  have hz := hX.box.lt
  have c0 := hX.box.cell 0 _ (FR.c_pc f)
  have c26 := hX.box.cell 26 _ (FR.c_depth hf)
  have e0 := FR.c_pc f
  have HU := Lib.hid hX.up
  clear hw1
  have P1 := fun W => c_vplace f.pc W
  cases hp : placeB f.pc
  · rw [fine_pc f hp]
    simp only [hp] at P1
    clear hX hp
    go_enter Try.func36, Try.ntmps36
    go_wp2_with fail
    rw [HW.out]
    go_wp2_with (go_at_call 55; refine (P1 _).mono ?_; rintro e w' ⟨rfl, rfl⟩)
    go_ret
    exact ⟨rfl, HU.out⟩
  simp only [hp] at P1
  have HP := Lib.hid hp
  clear hp
  by_cases hd0 : f.depth < 0
  · rw [fine_neg f hd0]
    have hd1 : decide (f.depth < 0) = true := decide_eq_true (by omega)
    clear hX
    go_enter Try.func36, Try.ntmps36
    go_wp2_with fail
    rw [HW.out]
    go_wp2_with (go_at_call 55; refine (P1 _).mono ?_; rintro e w' ⟨rfl, rfl⟩)
    go_ret
    exact ⟨rfl, HU.out⟩
  by_cases hd8 : 8 < f.depth
  · rw [fine_big f hd8]
    have hd1 : decide (f.depth < 0) = false := decide_eq_false (by omega)
    have hd2 : decide (8 < f.depth) = true := decide_eq_true (by omega)
    clear hX
    go_enter Try.func36, Try.ntmps36
    go_wp2_with fail
    rw [HW.out]
    go_wp2_with (go_at_call 55; refine (P1 _).mono ?_; rintro e w' ⟨rfl, rfl⟩)
    go_ret
    exact ⟨rfl, HU.out⟩
  obtain ⟨d, hk⟩ : ∃ d : Nat, f.depth = d := ⟨f.depth.toNat, by omega⟩
  have hk8 : d ≤ 8 := by omega
  rw [hk] at c26
  have HK := Lib.hid hk
  clear hd0 hd8 hk
  have hd1 : decide ((d : Int) < 0) = false := decide_eq_false (by omega)
  have hd2 : decide (8 < (d : Int)) = false := decide_eq_false (by omega)
  have R : ∀ i, i < 8 → w1.cell? ⟨w.heap.size, 2 + i, none⟩ = some (.int .i64 (f.regs.getD i 0)) ∧ w1.cell? ⟨w.heap.size, 27 + i, none⟩ = some (.int .i64 (f.stack.getD i 0)) := fun i hi => ⟨hX.box.cell _ _ (FR.g_reg hf i hi), hX.box.cell _ _ (FR.g_stack hf i hi)⟩
  have HR := Lib.hid R
  have HV := Lib.hid (fun i (hi : i < 16) => hX.box.cell _ _ (FR.g_word hf i hi))
  clear hX R
  go_enter Try.func36, Try.ntmps36
  go_wp2_with fail
  rw [HW.out]
  go_wp2_with (go_at_call 55; refine (P1 _).mono ?_; rintro e w' ⟨rfl, rfl⟩)
  go_loopw [3] (fun i wr => ∃ k : Nat, k ≤ 8 ∧ i = .int .i64 k ∧ (∀ j, j < k → rowB f j = true) ∧ w1 = wr) (fun i _ => 8 - (intOf i).toNat)
  case atStart => exact ⟨0, by omega, rfl, fun j h => absurd h (by omega), rfl⟩
  case round =>
    obtain ⟨k, hk, rfl, hr, rfl⟩ := hrel
    have HRW := Lib.hid hr
    clear hr
    by_cases hlt : k < 8
    · obtain ⟨hc2, hc27⟩ := HR.out k hlt
      have RB0 : rowB f k = (fineW (f.regs.getD k 0) && (if (k : Int) < (d : Int) then placeB (f.stack.getD k 0) else zeroB (f.stack.getD k 0))) := by
        unfold rowB
        rw [HK.out]
      have Q1 := fun W => c_vfine (f.regs.getD k 0) W
      have Q2 := fun W => c_vplace (f.stack.getD k 0) W
      generalize f.regs.getD k 0 = rk at hc2 RB0 Q1
      generalize f.stack.getD k 0 = sk at hc27 RB0 Q2
      cases h1 : fineW rk
      · have RB := Lib.hid (show rowB f k = false by rw [RB0, h1]; rfl)
        simp only [h1] at Q1
        clear h1 RB0 P1
        go_wp2_with (first | (go_at_call 47; refine (Q1 _).mono ?_; rintro e w' ⟨rfl, rfl⟩))
        go_ret
        exact ⟨ret_bool (by rw [fine_row_no hf k hlt RB.out]), HU.out⟩
      simp only [h1] at Q1
      by_cases hd : k < d
      · have k1 : decide ((k : Int) < (d : Int)) = true := decide_eq_true (by omega)
        have k2 : decide ((d : Int) ≤ (k : Int)) = false := decide_eq_false (by omega)
        cases h2 : placeB sk
        · have RB := Lib.hid (show rowB f k = false by rw [RB0, h1, if_pos (by omega), h2]; rfl)
          simp only [h2] at Q2
          clear h1 h2 RB0 P1
          go_wp2_with (first | (go_at_call 47; refine (Q1 _).mono ?_; rintro e w' ⟨rfl, rfl⟩) | (go_at_call 55; refine (Q2 _).mono ?_; rintro e w' ⟨rfl, rfl⟩))
          go_ret
          exact ⟨ret_bool (by rw [fine_row_no hf k hlt RB.out]), HU.out⟩
        · have RB := Lib.hid (show rowB f k = true by rw [RB0, h1, if_pos (by omega), h2]; rfl)
          simp only [h2] at Q2
          clear h1 h2 RB0 P1
          go_wp2_with (first | (go_at_call 47; refine (Q1 _).mono ?_; rintro e w' ⟨rfl, rfl⟩) | (go_at_call 55; refine (Q2 _).mono ?_; rintro e w' ⟨rfl, rfl⟩))
          go_roundw
          case rel => exact ⟨k + 1, by omega, by go_num, fun j hj => by
            rcases Nat.lt_succ_iff_lt_or_eq.1 hj with h | rfl
            · exact HRW.out j h
            · exact RB.out, by first | rfl | trivial⟩
          case measure => simp [intOf]; omega
      · have k1 : decide ((k : Int) < (d : Int)) = false := decide_eq_false (by omega)
        have k2 : decide ((d : Int) ≤ (k : Int)) = true := decide_eq_true (by omega)
        cases h2 : zeroB sk
        · have RB := Lib.hid (show rowB f k = false by rw [RB0, h1, if_neg (by omega), h2]; rfl)
          have k3 : (sk != 0) = true := by simpa [zeroB] using h2
          clear h1 h2 RB0 P1
          go_wp2_with (first | (go_at_call 47; refine (Q1 _).mono ?_; rintro e w' ⟨rfl, rfl⟩) | (go_at_call 55; refine (Q2 _).mono ?_; rintro e w' ⟨rfl, rfl⟩))
          go_ret
          exact ⟨ret_bool (by rw [fine_row_no hf k hlt RB.out]), HU.out⟩
        · have RB := Lib.hid (show rowB f k = true by rw [RB0, h1, if_neg (by omega), h2]; rfl)
          have k3 : (sk != 0) = false := by simpa [zeroB] using h2
          clear h1 h2 RB0 P1
          go_wp2_with (first | (go_at_call 47; refine (Q1 _).mono ?_; rintro e w' ⟨rfl, rfl⟩) | (go_at_call 55; refine (Q2 _).mono ?_; rintro e w' ⟨rfl, rfl⟩))
          go_roundw
          case rel => exact ⟨k + 1, by omega, by go_num, fun j hj => by
            rcases Nat.lt_succ_iff_lt_or_eq.1 hj with h | rfl
            · exact HRW.out j h
            · exact RB.out, by first | rfl | trivial⟩
          case measure => simp [intOf]; omega
    · have hk' : 8 ≤ k := by omega
      go_wp2_with fail
      go_loopw [4] (fun i wr => ∃ k : Nat, k ≤ 16 ∧ i = .int .i64 k ∧ (∀ j, j < k → fineW (f.words.getD j 0) = true) ∧ w1 = wr) (fun i _ => 16 - (intOf i).toNat)
      case atStart => exact ⟨0, by omega, rfl, fun j h => absurd h (by omega), by first | rfl | trivial⟩
      case round =>
        obtain ⟨m, hm, rfl, hr, rfl⟩ := hrel
        have HWW := Lib.hid hr
        clear hr
        by_cases hlt : m < 16
        · have hc10 := HV.out m hlt
          have Q1 := fun W => c_vfine (f.words.getD m 0) W
          obtain ⟨rk, hrk⟩ : ∃ rk, f.words.getD m 0 = rk := ⟨_, rfl⟩
          rw [hrk] at hc10
          simp only [hrk] at Q1
          have HRK := Lib.hid hrk
          clear hrk
          cases h1 : fineW rk
          · simp only [h1] at Q1
            have RB := Lib.hid (show fineW (f.words.getD m 0) = false by rw [HRK.out, h1])
            clear h1 P1
            go_wp2_with (go_at_call 47; refine (Q1 _).mono ?_; rintro e w' ⟨rfl, rfl⟩)
            go_ret
            exact ⟨ret_bool (by rw [fine_word_no hf m hlt RB.out]), HU.out⟩
          · simp only [h1] at Q1
            have RB := Lib.hid (show fineW (f.words.getD m 0) = true by rw [HRK.out, h1])
            clear h1 P1
            go_wp2_with (go_at_call 47; refine (Q1 _).mono ?_; rintro e w' ⟨rfl, rfl⟩)
            go_roundw
            case rel => exact ⟨m + 1, by omega, by go_num, fun j hj => by
              rcases Nat.lt_succ_iff_lt_or_eq.1 hj with h | rfl
              · exact HWW.out j h
              · exact RB.out, by first | rfl | trivial⟩
            case measure => simp [intOf]; omega
        · have hk2 : 16 ≤ m := by omega
          go_wp2
          go_ret
          exact ⟨ret_bool (fine_rows hf HP.out (by rw [HK.out]; omega) (by rw [HK.out]; omega) (fun j hj => HRW.out j (by omega)) (fun j hj => HWW.out j (by omega))).symm, HU.out⟩
end Go.Proofs.Ytflpjpdgacjlcaa

namespace Go.Proofs.Ytflpjpdgacjlcaa
open Go.RowKit

theorem load_ref {w : World} {b : Nat} {f : FR} (hf : f.Ok) {t : TypeId} (h : Blk w b f.cells t) :
    (loadVar 63 ⟨b, 0, none⟩).run Try.prog w = .ok (.agg f.cells.toArray) w :=
  load_frame hf h _ _ Try.underlying63 rfl (by kernel_rfl)
theorem info_ref : (Try.prog.info? 63).map (·.size) = some 35 := by kernel_rfl
theorem ld_ref {w : World} {b : Nat} {f : FR} {t : TypeId} {ops : Array Oper} {rest : List Oper} {o : Oper} {a : Act} {Q : Exit → Act → World → Prop} (hf : f.Ok) (h : Blk w b f.cells t) (hgd : o.guard = none) (x : Operand) (ho : o.op = .load 63 x)
    (hx : a.eval x = .pointer (some ⟨b, 0, none⟩)) (hk : wpList Try.prog ops Q rest (a.put o.dst (.agg f.cells.toArray)) w) : wpList Try.prog ops Q (o :: rest) a w :=
  wpList_load_row hgd _ x ho b hx t f.cells.toArray (0, 0) _ h Try.underlying63 rfl (by rw [List.size_toArray, FR.cells_len hf]; exact info_ref) hk
theorem st_ref {w : World} {b : Nat} {f g : FR} {t : TypeId} {ops : Array Oper} {rest : List Oper} {o : Oper} {a : Act} {Q : Exit → Act → World → Prop} (hf : f.Ok) (hg : g.Ok) (h : Blk w b g.cells t) (hgd : o.guard = none) (x y : Operand) (ho : o.op = .store 63 x y)
    (hx : a.eval x = .pointer (some ⟨b, 0, none⟩)) (hy : a.eval y = .agg f.cells.toArray) (hk : wpList Try.prog ops Q rest (a.put o.dst undef) (w.setRow b f.cells.toArray)) : wpList Try.prog ops Q (o :: rest) a w :=
  wpList_store_row hgd _ x y ho b _ hx hy t g.cells.toArray h (by rw [List.size_toArray, FR.cells_len hf]; exact info_ref) (by rw [List.size_toArray, List.size_toArray, FR.cells_len hf, FR.cells_len hg]) (by
    rw [Array.all_eq_true_iff_forall_mem]
    intro v hv
    exact FR.one v (by simpa using hv)) hk
theorem results_re {fn : Func} {p t : Tmp} (h : fn.results = #[.cell p 63, .tmp t]) (tmps : Array Value) (w : World) (b : Nat) {f : FR} (hf : f.Ok) {ty : TypeId}
    (hp : tmps.getD p undef = .pointer (some ⟨b, 0, none⟩)) (hg : Blk w b f.cells ty) :
    (results fn tmps).run Try.prog w = .ok (.tuple #[.agg f.cells.toArray, tmps.getD t undef]) w := by
  have hp' : tmps[p]?.getD undef = .pointer (some ⟨b, 0, none⟩) := by simpa using hp
  simp [results, h, hp', asAddr, load_ref hf hg]
end Go.Proofs.Ytflpjpdgacjlcaa

namespace Go.Proofs.Ytflpjpdgacjlcaa
open Go.RowKit

theorem box_two (w : World) (o : Obj) (f : FR) (t : TypeId) : Blk ((w.alloc o).alloc (.cells f.cells.toArray t)) (w.heap.size + 1) f.cells t := by
  have := Blk.new (w.alloc o) f.cells t
  rwa [show (w.alloc o).heap.size = w.heap.size + 1 by simp] at this
set_option maxRecDepth 100000 in
set_option maxHeartbeats 1000000 in
theorem c_rnew (arg : Int) (w : World) :
    Calls Try.prog 48 #[.int .i64 arg] w fun e w' => e = .returned (.tuple #[.agg (newF arg).1.cells.toArray, .int .i64 (newF arg).2]) ∧ Below w.heap.size w w' := by
  have hR : Blk (w.alloc (.cells #[.int .i64 0, .bool false, .int .i64 0, .int .i64 0, .int .i64 0, .int .i64 0, .int .i64 0, .int .i64 0, .int .i64 0, .int .i64 0, .int .i64 0, .int .i64 0, .int .i64 0, .int .i64 0, .int .i64 0, .int .i64 0, .int .i64 0, .int .i64 0, .int .i64 0, .int .i64 0, .int .i64 0, .int .i64 0, .int .i64 0, .int .i64 0, .int .i64 0, .int .i64 0, .int .i64 0, .int .i64 0, .int .i64 0, .int .i64 0, .int .i64 0, .int .i64 0, .int .i64 0, .int .i64 0, .int .i64 0] 63)) w.heap.size FR.zero.cells 63 := Blk.new w FR.zero.cells 63
  have HR := Lib.hid hR
  clear hR
  have C2 := fun W => c_vfine arg W
  cases hb : fineW arg
  · have HV : newF arg = (FR.zero, 8) := if_neg (by rw [hb]; decide)
    rw [HV]
    simp only [hb] at C2
    clear HV hb
    go_enter Try.func48, Try.ntmps48
    go_wp2_with (first | (go_at_call 47; refine (C2 _).mono ?_; rintro e w' ⟨rfl, rfl⟩) | (refine st_ref FR.zero_ok FR.zero_ok HR.out rfl (.tmp 2) (.tmp 8) rfl rfl rfl ?_))
    refine bodyPost_ret (v := .tuple #[.agg FR.zero.cells.toArray, .int .i64 8]) (results_re (fn := Try.f48) (p := 2) (t := 3) rfl _ _ _ FR.zero_ok rfl (HR.out.row _)) rfl ?_
    exact ⟨rfl, below_setRow (up_alloc _ _) (Nat.le_refl _) _⟩
  · have HV : newF arg = ({ FR.zero with regs := [arg, 0, 0, 0, 0, 0, 0, 0] }, 0) := if_pos hb
    rw [HV]
    have HG : ({ FR.zero with regs := [arg, 0, 0, 0, 0, 0, 0, 0] } : FR).Ok := ⟨rfl, rfl, rfl⟩
    simp only [hb] at C2
    clear HV hb
    go_enter Try.func48, Try.ntmps48
    have hV := box_two w (.cells #[.int .i64 0, .bool false, .int .i64 0, .int .i64 0, .int .i64 0, .int .i64 0, .int .i64 0, .int .i64 0, .int .i64 0, .int .i64 0, .int .i64 0, .int .i64 0, .int .i64 0, .int .i64 0, .int .i64 0, .int .i64 0, .int .i64 0, .int .i64 0, .int .i64 0, .int .i64 0, .int .i64 0, .int .i64 0, .int .i64 0, .int .i64 0, .int .i64 0, .int .i64 0, .int .i64 0, .int .i64 0, .int .i64 0, .int .i64 0, .int .i64 0, .int .i64 0, .int .i64 0, .int .i64 0, .int .i64 0] 63) ({ FR.zero with regs := [arg, 0, 0, 0, 0, 0, 0, 0] } : FR) 63
    have HV := Lib.hid hV
    clear hV
    go_wp2_with (first | (go_at_call 47; refine (C2 _).mono ?_; rintro e w' ⟨rfl, rfl⟩) | (refine ld_ref HG HV.out rfl (.tmp 4) rfl rfl ?_) | (refine st_ref (t := 63) HG FR.zero_ok ?_ rfl (.tmp 2) (.tmp 12) rfl rfl rfl ?_; · exact (HR.out.alloc _)))
    refine bodyPost_ret (v := .tuple #[.agg ({ FR.zero with regs := [arg, 0, 0, 0, 0, 0, 0, 0] } : FR).cells.toArray, .int .i64 0]) (results_re (fn := Try.f48) (p := 2) (t := 3) rfl _ _ _ HG rfl ((HR.out.alloc _).row _)) rfl ?_
    exact ⟨rfl, below_setRow (up_trans (up_alloc _ _) (up_alloc _ _)) (Nat.le_refl _) _⟩
end Go.Proofs.Ytflpjpdgacjlcaa

namespace Go.Proofs.Ytflpjpdgacjlcaa
open Go.RowKit

set_option maxRecDepth 100000 in
theorem run_eqR {f : FR} (hf : f.Ok) (w : World) : (Op.equalIn 10000 63 (.agg f.cells.toArray) (.agg f.cells.toArray)).run Try.prog w = .ok true w := by
  have u3 := Try.underlying3
  have a3 := Try.isAgg3
  have z3 := Try.sizeOf3
  have hS : Try.prog.underlying 63 = some (.struct (Try.prog.fieldsOf 63)) := by kernel_rfl
  have hp : Try.prog.stoodInHeld 63 = false := by kernel_rfl
  have p0 : ∀ w, (part 3 f.cells.toArray 0).run Try.prog w = .ok (.int .i64 f.pc) w := part_cell Try.underlying3 _ 0 _ (by simpa using FR.c_pc f)
  have p1 : ∀ w, (part 4 f.cells.toArray 1).run Try.prog w = .ok (.bool f.bad) w := fun w => by
    have hagg : (isAgg 4).run Try.prog w = .ok false w := by
      unfold isAgg
      rw [Sem.run_bind, run_underlying Try.underlying4 w]
      rfl
    have := FR.c_bad f
    simp [part, Sem.run_bind, hagg, this]
  have p26 : ∀ w, (part 3 f.cells.toArray 26).run Try.prog w = .ok (.int .i64 f.depth) w := part_cell Try.underlying3 _ 26 _ (by simpa using FR.c_depth hf)
  have p2 : ∀ w, (part 60 f.cells.toArray 2).run Try.prog w = .ok (.agg (f.regs.map (Value.int .i64)).toArray) w := fun w => by
    rw [part_arr (n := 8) Try.underlying60 (fun w => by kernel_rfl), FR.x_regs hf]
  have p10 : ∀ w, (part 61 f.cells.toArray 10).run Try.prog w = .ok (.agg (f.words.map (Value.int .i64)).toArray) w := fun w => by
    rw [part_arr (n := 16) Try.underlying61 (fun w => by kernel_rfl), FR.x_words hf]
  have p27 : ∀ w, (part 60 f.cells.toArray 27).run Try.prog w = .ok (.agg (f.stack.map (Value.int .i64)).toArray) w := fun w => by
    rw [part_arr (n := 8) Try.underlying60 (fun w => by kernel_rfl), FR.x_stack hf]
  have q8 : ∀ (zs : List Int) w, zs.length = 8 → (Op.equalIn 9999 60 (.agg (zs.map (Value.int .i64)).toArray) (.agg (zs.map (Value.int .i64)).toArray)).run Try.prog w = .ok true w := fun zs w h => eq_arr Try.underlying60 Try.underlying3 (fun w => by kernel_rfl) zs h 9997 w
  have q16 : ∀ (zs : List Int) w, zs.length = 16 → (Op.equalIn 9999 61 (.agg (zs.map (Value.int .i64)).toArray) (.agg (zs.map (Value.int .i64)).toArray)).run Try.prog w = .ok true w := fun zs w h => eq_arr Try.underlying61 Try.underlying3 (fun w => by kernel_rfl) zs h 9997 w
  have qi : ∀ (z : Int) w, (Op.equalIn 9999 3 (.int .i64 z) (.int .i64 z)).run Try.prog w = .ok true w := fun z w => by
    rw [show (9999 : Nat) = 9998 + 1 from rfl, run_equalIn_int w 9998 3 .i64 .i64 z z Try.underlying3]
    simp
  have qb : ∀ (z : Bool) w, (Op.equalIn 9999 4 (.bool z) (.bool z)).run Try.prog w = .ok true w := fun z w => by
    rw [show (9999 : Nat) = 9998 + 1 from rfl, run_equalIn_bool' w 9998 4 z z Try.underlying4]
    simp
  rw [show (10000 : Nat) = 9999 + 1 from rfl, run_equalIn_agg w 9999 63 _ _ hS hp]
  simp only [Program.fieldsOf, Try.underlying63]
  simp [Op.eqFields, p0, p1, p2, p10, p26, p27, qi, qb, q8 _ _ hf.regs, q8 _ _ hf.stack, q16 _ _ hf.words]
end Go.Proofs.Ytflpjpdgacjlcaa

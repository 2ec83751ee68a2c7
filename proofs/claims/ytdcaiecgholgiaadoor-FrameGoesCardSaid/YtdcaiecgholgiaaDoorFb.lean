/- The contracts of package frame's Fine and fault. -/
import Derived.Test.YtdcaiecgholgiaaDoorFa
namespace Go.Proofs.YtdcaiecgholgiaaDoor
open Go.RowKit

/-- The box of a frame. -/
structure Boxed (w w1 : World) (f : FR) (t : TypeId) : Prop where
  up : Below w.heap.size w w1
  box : Blk w1 w.heap.size f.cells t
theorem boxed (w : World) (f : FR) (t : TypeId) : Boxed w (w.alloc (.cells f.cells.toArray t)) f t := ⟨up_alloc _ _, Blk.new _ _ _⟩

theorem RI.of_blk {w : World} {b o : Nat} {cs : List Value} {t : TypeId} {xs : List Int} (h : Blk w b cs t) (hx : ∀ (j : Nat) x, xs[j]? = some x → cs[o + j]? = some (.int .i64 x)) : RI w (some ⟨b, o, none⟩) xs :=
  fun j x hj => ⟨b, o, rfl, h.lt, h.cell _ _ (hx j x hj)⟩

/-- A whole frame is loaded from its block. -/
theorem load_frame {w : World} {b : Nat} {f : FR} (hf : f.Ok) {t : TypeId} (h : Blk w b f.cells t) (ty : TypeId) (d : TypeDesc) (hu : Tryd.prog.underlying ty = some d) (hd : d.isRow = true) (hi : (Tryd.prog.info? ty).map (·.size) = some 35) :
    (loadVar ty ⟨b, 0, none⟩).run Tryd.prog w = .ok (.agg f.cells.toArray) w :=
  run_loadVar_mid w b 0 ty f.cells d (fun j v hv => by rw [Nat.zero_add]; exact h.cell j v hv) hu hd (by rw [FR.cells_len hf]; exact hi)
theorem load_prog {w : World} {b : Nat} {f : FR} (hf : f.Ok) {t : TypeId} (h : Blk w b f.cells t) :
    (loadVar 26 ⟨b, 0, none⟩).run Tryd.prog w = .ok (.agg f.cells.toArray) w :=
  load_frame hf h _ _ Tryd.underlying26 rfl (by kernel_rfl)

theorem fine_regs (f : FR) : f.regs.all fineW = false → ¬ FineF f := fun h k => by
  rw [List.all_eq_true.2 k.regs] at h
  cases h
theorem fine_words (f : FR) : f.words.all fineW = false → ¬ FineF f := fun h k => by
  rw [List.all_eq_true.2 k.words] at h
  cases h

theorem RI.low {w : World} {b : Nat} {f : FR} (hf : f.Ok) {t : TypeId} (h : Blk w b f.cells t) (k : Nat) : RI w (some ⟨b, 27, none⟩) (f.stack.take k) :=
  RI.of_blk h fun j x hj => FR.c_stack hf j x (by
    rw [List.getElem?_take] at hj
    split at hj
    · exact hj
    · cases hj)
theorem RI.high {w : World} {b : Nat} {f : FR} (hf : f.Ok) {t : TypeId} (h : Blk w b f.cells t) (k : Nat) : RI w (some ⟨b, 27 + k, none⟩) (f.stack.drop k) :=
  RI.of_blk h fun j x hj => by
    rw [Nat.add_assoc]
    exact FR.c_stack hf (k + j) x (by rwa [List.getElem?_drop] at hj)

theorem len8 : Tryd.prog.arrayLen 22 = 8 := by kernel_rfl
theorem arr8 : Tryd.prog.underlying 22 = some (.array (Tryd.prog.arrayLen 22) (Tryd.prog.elem 22)) := by kernel_rfl
theorem one8 (W : World) : (sizeOf (Tryd.prog.elem 22)).run Tryd.prog W = .ok 1 W := by kernel_rfl
/-- The calls that count. -/
theorem cut_low (W : World) (b k : Nat) (hk : k ≤ 8) : (Instr.sliceAt 22 (.pointer (some ⟨b, 27, none⟩)) none (some (.int .i64 k)) none).run Tryd.prog W = .ok (.slice (some ⟨b, 27, none⟩) k 8) W := by
  rw [run_sliceAt_array_h W _ _ arr8 .i64 k (by omega) (by rw [len8]; omega), one8, len8]
  simp [slicedAt, Result.andThen, Addr.add]
/-- The others. -/
theorem cut_high (b k : Nat) (hk : k ≤ 8) : ∃ A : Option Addr, (∀ W, (Instr.sliceAt 22 (.pointer (some ⟨b, 27, none⟩)) (some (.int .i64 k)) none none).run Tryd.prog W = .ok (.slice A (8 - k) (8 - k)) W) ∧ (k < 8 → A = some ⟨b, 27 + k, none⟩) := by
  refine ⟨some (if 8 = k then ⟨b, 27, none⟩ else (⟨b, 27, none⟩ : Addr).add (k * 1)), fun W => ?_, fun h => ?_⟩
  · rw [run_sliceAt_array_l W _ _ arr8 .i64 k (by omega) (by rw [len8]; omega), one8, len8]
    simp [slicedAt, Result.andThen]
  · rw [if_neg (by omega), Nat.mul_one]
    unfold Addr.add
    split <;> simp_all
theorem RI.rest {w : World} {b : Nat} {f : FR} (hf : f.Ok) {t : TypeId} (h : Blk w b f.cells t) (k : Nat) (hk : k ≤ 8) {A : Option Addr} (hA : k < 8 → A = some ⟨b, 27 + k, none⟩) : RI w A (f.stack.drop k) := by
  by_cases h8 : k < 8
  · rw [hA h8]
    exact RI.high hf h k
  · intro j x hj
    rw [List.drop_eq_nil_of_le (by rw [hf.stack]; omega)] at hj
    simp at hj

/-- What Fine asks, one behind the other, and what it comes to. -/
theorem fine_pc (f : FR) (h : placeB f.pc = false) : fineF f = false := by unfold fineF; rw [h]; rfl
theorem fine_neg (f : FR) (h : f.depth < 0) : fineF f = false := fineF_not fun k => by have := k.d0; omega
theorem fine_big (f : FR) (h : 8 < f.depth) : fineF f = false := fineF_not fun k => by have := k.d1; omega
theorem fine_low (f : FR) (k : Nat) (hk : f.depth = k) (h : (f.stack.take k).all placeB = false) : fineF f = false := by
  unfold fineF
  rw [hk, Int.toNat_natCast, h]
  simp
theorem fine_high (f : FR) (k : Nat) (hk : f.depth = k) (h1 : placeB f.pc = true) (h2 : k ≤ 8) (h3 : f.regs.all fineW = true) (h4 : f.words.all fineW = true) (h5 : (f.stack.take k).all placeB = true) : (f.stack.drop k).all zeroB = fineF f := by
  unfold fineF
  rw [hk, Int.toNat_natCast, h1, h3, h4, h5, show decide ((0 : Int) ≤ (k : Int)) = true by simp, show decide ((k : Int) ≤ 8) = true by simp; omega]
  simp

set_option maxRecDepth 100000 in
set_option maxHeartbeats 4000000 in
theorem c_ffine {f : FR} (hf : f.Ok) (w : World) :
    Calls Tryd.prog 9 #[.agg f.cells.toArray] w fun e w' => e = .returned (.bool (fineF f)) ∧ Below w.heap.size w w' := by
  have hX := boxed w f 26
  generalize hw1 : w.alloc (.cells f.cells.toArray 26) = w1 at hX
  have HW := Lib.hid hw1
  have hz := hX.box.lt
  have c0 := hX.box.cell 0 _ (FR.c_pc f)
  have c26 := hX.box.cell 26 _ (FR.c_depth hf)
  have e0 := FR.c_pc f
  have HU := Lib.hid hX.up
  clear hw1
  have P1 := fun W => c_isPlace f.pc W
  cases hp : placeB f.pc
  · rw [fine_pc f hp]
    simp only [hp] at P1
    clear hX hp
    go_enter Tryd.func9, Tryd.ntmps9
    go_wp2_with fail
    rw [HW.out]
    go_wp2_with (go_at_call 30; refine (P1 _).mono ?_; rintro e w' ⟨rfl, rfl⟩)
    go_ret
    exact ⟨rfl, HU.out⟩
  simp only [hp] at P1
  have HP := Lib.hid hp
  clear hp
  by_cases hd0 : f.depth < 0
  · rw [fine_neg f hd0]
    have hd1 : decide (0 ≤ f.depth) = false := decide_eq_false (by omega)
    clear hX
    go_enter Tryd.func9, Tryd.ntmps9
    go_wp2_with fail
    rw [HW.out]
    go_wp2_with (go_at_call 30; refine (P1 _).mono ?_; rintro e w' ⟨rfl, rfl⟩)
    go_ret
    exact ⟨rfl, HU.out⟩
  by_cases hd8 : 8 < f.depth
  · rw [fine_big f hd8]
    have hd1 : decide (0 ≤ f.depth) = true := decide_eq_true (by omega)
    have hd2 : decide (f.depth ≤ 8) = false := decide_eq_false (by omega)
    clear hX
    go_enter Tryd.func9, Tryd.ntmps9
    go_wp2_with fail
    rw [HW.out]
    go_wp2_with (go_at_call 30; refine (P1 _).mono ?_; rintro e w' ⟨rfl, rfl⟩)
    go_ret
    exact ⟨rfl, HU.out⟩
  obtain ⟨k, hk⟩ : ∃ k : Nat, f.depth = k := ⟨f.depth.toNat, by omega⟩
  have hk8 : k ≤ 8 := by omega
  rw [hk] at c26
  have HK := Lib.hid hk
  clear hd0 hd8 hk
  have E2 : ∀ W, Below w1.heap.size w1 W → _ := fun W hW => e_fine (c := 8) (RI.of_blk (o := 2) (hX.box.up hW hz) fun j x => FR.c_reg hf j x) (by rw [hf.regs]; omega)
  simp only [hf.regs] at E2
  have hd1 : decide ((0 : Int) ≤ (k : Int)) = true := decide_eq_true (by omega)
  have hd2 : decide ((k : Int) ≤ 8) = true := decide_eq_true (by omega)
  cases hr : f.regs.all fineW
  · rw [fineF_not (fine_regs f hr)]
    simp only [hr] at E2
    have E := Lib.hid (E2 _ (Below.refl _ _))
    clear hX hr E2
    go_enter Tryd.func9, Tryd.ntmps9
    go_wp2_with fail
    rw [HW.out]
    go_wp2_with (first | (go_at_call 30; refine (P1 _).mono ?_; rintro e w' ⟨rfl, rfl⟩) | (go_at_call 31; refine E.out.mono ?_; rintro e w2 ⟨rfl, hb2⟩))
    go_ret
    exact ⟨rfl, up_trans HU.out hb2⟩
  simp only [hr] at E2
  have HR := Lib.hid hr
  clear hr
  have E := Lib.hid (E2 _ (Below.refl _ _))
  clear E2
  have E10 : ∀ W, Below w1.heap.size w1 W → _ := fun W hW => e_fine (c := 16) (RI.of_blk (o := 10) (hX.box.up hW hz) fun j x => FR.c_word hf j x) (by rw [hf.words]; omega)
  simp only [hf.words] at E10
  cases hr : f.words.all fineW
  · rw [fineF_not (fine_words f hr)]
    simp only [hr] at E10
    have E10 := Lib.hid E10
    clear hX hr
    go_enter Tryd.func9, Tryd.ntmps9
    go_wp2_with fail
    rw [HW.out]
    go_wp2_with (first | (go_at_call 30; refine (P1 _).mono ?_; rintro e w' ⟨rfl, rfl⟩) | (go_at_call 31; first | (refine E.out.mono ?_; rintro e w2 ⟨rfl, hb2⟩; have HB2 := Lib.hid hb2; have d2 := (hb2.cell (p := ⟨w.heap.size, 26, none⟩) hz).trans c26; clear hb2) | (refine (E10.out _ HB2.out).mono ?_; rintro e w3 ⟨rfl, hb3⟩; have HB3 := Lib.hid (up_trans HB2.out hb3); have d3 := (HB3.out.cell (p := ⟨w.heap.size, 26, none⟩) hz).trans c26; clear hb3)))
    go_ret
    exact ⟨rfl, up_trans HU.out HB3.out⟩
  simp only [hr] at E10
  have E10 := Lib.hid E10
  have HR2 := Lib.hid hr
  clear hr
  have hcl := fun W => cut_low W w.heap.size k hk8
  have hlk : (f.stack.take k).length = k := by rw [List.length_take, hf.stack]; omega
  have hlh : (f.stack.drop k).length = 8 - k := by rw [List.length_drop, hf.stack]
  have EL : ∀ W, Below w1.heap.size w1 W → _ := fun W hW => e_place (c := 8) (RI.low hf (hX.box.up hW hz) k) (by rw [hlk]; omega)
  simp only [hlk] at EL
  cases hr : (f.stack.take k).all placeB
  · rw [fine_low f k HK.out hr]
    simp only [hr] at EL
    have EL := Lib.hid EL
    clear hX hr hlk hlh
    go_enter Tryd.func9, Tryd.ntmps9
    go_wp2_with fail
    rw [HW.out]
    go_wp2_with (first | (go_at_call 30; refine (P1 _).mono ?_; rintro e w' ⟨rfl, rfl⟩) | (go_at_call 31; first | (refine E.out.mono ?_; rintro e w2 ⟨rfl, hb2⟩; have HB2 := Lib.hid hb2; have d2 := (hb2.cell (p := ⟨w.heap.size, 26, none⟩) hz).trans c26; clear hb2) | (refine (E10.out _ HB2.out).mono ?_; rintro e w3 ⟨rfl, hb3⟩; have HB3 := Lib.hid (up_trans HB2.out hb3); have d3 := (HB3.out.cell (p := ⟨w.heap.size, 26, none⟩) hz).trans c26; clear hb3) | (refine (EL.out _ HB3.out).mono ?_; rintro e w4 ⟨rfl, hb4⟩; have HB4 := Lib.hid (up_trans HB3.out hb4); have d4 := (HB4.out.cell (p := ⟨w.heap.size, 26, none⟩) hz).trans c26; clear hb4)))
    go_ret
    exact ⟨rfl, up_trans HU.out HB4.out⟩
  simp only [hr] at EL
  have EL := Lib.hid EL
  have HR3 := Lib.hid hr
  clear hr
  rw [← fine_high f k HK.out HP.out hk8 HR.out HR2.out HR3.out]
  obtain ⟨A, hA, hA8⟩ := cut_high w.heap.size k hk8
  have EH : ∀ W, Below w1.heap.size w1 W → _ := fun W hW => e_nought (c := 8 - k) (RI.rest hf (hX.box.up hW hz) k hk8 hA8) (by rw [hlh]; omega)
  simp only [hlh] at EH
  have EH := Lib.hid EH
  clear hX hlk hlh hA8
  go_enter Tryd.func9, Tryd.ntmps9
  go_wp2_with fail
  rw [HW.out]
  go_wp2_with (first | (go_at_call 30; refine (P1 _).mono ?_; rintro e w' ⟨rfl, rfl⟩) | (go_at_call 31; first | (refine E.out.mono ?_; rintro e w2 ⟨rfl, hb2⟩; have HB2 := Lib.hid hb2; have d2 := (hb2.cell (p := ⟨w.heap.size, 26, none⟩) hz).trans c26; clear hb2) | (refine (E10.out _ HB2.out).mono ?_; rintro e w3 ⟨rfl, hb3⟩; have HB3 := Lib.hid (up_trans HB2.out hb3); have d3 := (HB3.out.cell (p := ⟨w.heap.size, 26, none⟩) hz).trans c26; clear hb3) | (refine (EL.out _ HB3.out).mono ?_; rintro e w4 ⟨rfl, hb4⟩; have HB4 := Lib.hid (up_trans HB3.out hb4); have d4 := (HB4.out.cell (p := ⟨w.heap.size, 26, none⟩) hz).trans c26; clear hb4) | (refine (EH.out _ HB4.out).mono ?_; rintro e w5 ⟨rfl, hb5⟩; have HB5 := Lib.hid (up_trans HB4.out hb5); clear hb5)))
  go_ret
  exact ⟨rfl, up_trans HU.out HB5.out⟩

end Go.Proofs.YtdcaiecgholgiaaDoor

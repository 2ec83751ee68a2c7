/- Processes as an argument. -/
import Derived.Test.YtflpjpdgacjlcaaO1
import Derived.Test.YtflpjpdgacjlcaaPra
namespace Go.Proofs.Ytflpjpdgacjlcaa
open Go.ChangeShapes Go.WideShapes Go.Deep Go.ChangeAt Go.RowKit

instance : Inhabited PR := ⟨PR.nil 0⟩
section
variable {H : Type} {enc : TypeId × Value → H} {w : World} {base : Nat} {spare : Nat → Bool} {held : Bool}
set_option maxRecDepth 100000 in
theorem trod_frame {fu : Nat} {l : List Value} {x : DataW H × List MemPlace} (hf' : DataW.trod enc Try.prog w base spare held fu 63 l = some x) : ∃ f : FR, l = f.cells ∧ f.Ok := by
  obtain ⟨xs, m, _, _, hl, hxl, each⟩ := DataW.trod_struct Try.underlying63 hf'
  have hl35 : l.length = 35 := by rw [hl]; kernel_rfl
  have hx6 : xs.length = 6 := by rw [hxl]; rfl
  have ci : Try.prog.cellsOf 3 = 1 := by kernel_rfl
  have cb : Try.prog.cellsOf 4 = 1 := by kernel_rfl
  have c8 : Try.prog.cellsOf 60 = 8 := by kernel_rfl
  have c16 : Try.prog.cellsOf 61 = 16 := by kernel_rfl
  have e0 : DataW.trod enc Try.prog w base spare held m 3 ((l.drop 0).take 1) = some (xs[0]'(by omega)) := by
    have h := each 0 _ rfl
    rw [List.getElem?_eq_getElem (by omega)] at h
    exact (ci ▸ h : _)
  have e1 : DataW.trod enc Try.prog w base spare held m 4 ((l.drop 1).take 1) = some (xs[1]'(by omega)) := by
    have h := each 1 _ rfl
    rw [List.getElem?_eq_getElem (by omega)] at h
    exact (cb ▸ h : _)
  have e2 : DataW.trod enc Try.prog w base spare held m 60 ((l.drop 2).take 8) = some (xs[2]'(by omega)) := by
    have h := each 2 _ rfl
    rw [List.getElem?_eq_getElem (by omega)] at h
    exact (c8 ▸ h : _)
  have e3 : DataW.trod enc Try.prog w base spare held m 61 ((l.drop 10).take 16) = some (xs[3]'(by omega)) := by
    have h := each 3 _ rfl
    rw [List.getElem?_eq_getElem (by omega)] at h
    exact (c16 ▸ h : _)
  have e4 : DataW.trod enc Try.prog w base spare held m 3 ((l.drop 26).take 1) = some (xs[4]'(by omega)) := by
    have h := each 4 _ rfl
    rw [List.getElem?_eq_getElem (by omega)] at h
    exact (ci ▸ h : _)
  have e5 : DataW.trod enc Try.prog w base spare held m 60 ((l.drop 27).take 8) = some (xs[5]'(by omega)) := by
    have h := each 5 _ rfl
    rw [List.getElem?_eq_getElem (by omega)] at h
    exact (c8 ▸ h : _)
  clear each hf' hl
  obtain ⟨z0, h0, _, _⟩ := DataW.trod_int Try.underlying3 e0
  obtain ⟨z1, h1, _⟩ := DataW.trod_bool Try.underlying4 e1
  obtain ⟨z2, l2, h2⟩ := arr_list Try.underlying60 Try.underlying3 ci c8 e2
  obtain ⟨z3, l3, h3⟩ := arr_list Try.underlying61 Try.underlying3 ci c16 e3
  obtain ⟨z4, h4, _, _⟩ := DataW.trod_int Try.underlying3 e4
  obtain ⟨z5, l5, h5⟩ := arr_list Try.underlying60 Try.underlying3 ci c8 e5
  refine ⟨⟨z0, z1, z2, z3, z4, z5⟩, ?_, ⟨l2, l3, l5⟩⟩
  have cut : ∀ a b : Nat, l.drop a = (l.drop a).take b ++ l.drop (a + b) := fun a b => by
    rw [← List.drop_drop, List.take_append_drop]
  have e : l = l.drop 0 := rfl
  rw [e, cut 0 1, h0, cut (0 + 1) 1, h1, cut (0 + 1 + 1) 8, h2, cut (0 + 1 + 1 + 8) 16, h3, cut (0 + 1 + 1 + 8 + 16) 1, h4, cut (0 + 1 + 1 + 8 + 16 + 1) 8, h5, List.drop_eq_nil_of_le (by omega)]
  simp [FR.cells]
set_option maxRecDepth 100000 in
theorem trod_proc {fu : Nat} {l : List Value} {x : DataW H × List MemPlace} (hf' : DataW.trod enc Try.prog w base spare held fu 66 l = some x) : ∃ q : PR, l = prC q ∧ prK.E tt q w := by
  obtain ⟨xs, m, _, _, hl, hxl, each⟩ := DataW.trod_struct Try.underlying66 hf'
  have hl42 : l.length = 42 := by rw [hl]; kernel_rfl
  have hx8 : xs.length = 8 := by rw [hxl]; rfl
  have ci : Try.prog.cellsOf 3 = 1 := by kernel_rfl
  have cb : Try.prog.cellsOf 4 = 1 := by kernel_rfl
  have cf : Try.prog.cellsOf 63 = 35 := by kernel_rfl
  have cg : Try.prog.cellsOf 64 = 1 := by kernel_rfl
  have e0 : DataW.trod enc Try.prog w base spare held m 3 ((l.drop 0).take 1) = some (xs[0]'(by omega)) := by
    have h := each 0 _ rfl
    rw [List.getElem?_eq_getElem (by omega)] at h
    exact (ci ▸ h : _)
  have e1 : DataW.trod enc Try.prog w base spare held m 4 ((l.drop 1).take 1) = some (xs[1]'(by omega)) := by
    have h := each 1 _ rfl
    rw [List.getElem?_eq_getElem (by omega)] at h
    exact (cb ▸ h : _)
  have e2 : DataW.trod enc Try.prog w base spare held m 3 ((l.drop 2).take 1) = some (xs[2]'(by omega)) := by
    have h := each 2 _ rfl
    rw [List.getElem?_eq_getElem (by omega)] at h
    exact (ci ▸ h : _)
  have e3 : DataW.trod enc Try.prog w base spare held m 63 ((l.drop 3).take 35) = some (xs[3]'(by omega)) := by
    have h := each 3 _ rfl
    rw [List.getElem?_eq_getElem (by omega)] at h
    exact (cf ▸ h : _)
  have e4 : DataW.trod enc Try.prog w base spare held m 3 ((l.drop 38).take 1) = some (xs[4]'(by omega)) := by
    have h := each 4 _ rfl
    rw [List.getElem?_eq_getElem (by omega)] at h
    exact (ci ▸ h : _)
  have e5 : DataW.trod enc Try.prog w base spare held m 3 ((l.drop 39).take 1) = some (xs[5]'(by omega)) := by
    have h := each 5 _ rfl
    rw [List.getElem?_eq_getElem (by omega)] at h
    exact (ci ▸ h : _)
  have e6 : DataW.trod enc Try.prog w base spare held m 3 ((l.drop 40).take 1) = some (xs[6]'(by omega)) := by
    have h := each 6 _ rfl
    rw [List.getElem?_eq_getElem (by omega)] at h
    exact (ci ▸ h : _)
  have e7 : DataW.trod enc Try.prog w base spare held m 64 ((l.drop 41).take 1) = some (xs[7]'(by omega)) := by
    have h := each 7 _ rfl
    rw [List.getElem?_eq_getElem (by omega)] at h
    exact (cg ▸ h : _)
  clear each hf' hl
  obtain ⟨z0, h0, _, _⟩ := DataW.trod_int Try.underlying3 e0
  obtain ⟨z1, h1, _⟩ := DataW.trod_bool Try.underlying4 e1
  obtain ⟨z2, h2, _, _⟩ := DataW.trod_int Try.underlying3 e2
  obtain ⟨f, h3, ok⟩ := trod_frame e3
  obtain ⟨z4, h4, _, _⟩ := DataW.trod_int Try.underlying3 e4
  obtain ⟨z5, h5, _, _⟩ := DataW.trod_int Try.underlying3 e5
  obtain ⟨z6, h6, _, _⟩ := DataW.trod_int Try.underlying3 e6
  obtain ⟨A, n, c, G, h7, _, _, g1, _, g2⟩ := trod_rows gdC 5 (fun _ => True) gdC_len (by omega) Try.underlying64 (by kernel_rfl) (fun _ _ _ h => trod_gd h) e7
  refine ⟨⟨z0, z1, z2, f, ok, z4, z5, z6, A, n, c, G⟩, ?_, g1, g2⟩
  have cut : ∀ a b : Nat, l.drop a = (l.drop a).take b ++ l.drop (a + b) := fun a b => by
    rw [← List.drop_drop, List.take_append_drop]
  have e : l = l.drop 0 := rfl
  rw [e, cut 0 1, h0, cut (0 + 1) 1, h1, cut (0 + 1 + 1) 1, h2, cut (0 + 1 + 1 + 1) 35, h3, cut (0 + 1 + 1 + 1 + 35) 1, h4, cut (0 + 1 + 1 + 1 + 35 + 1) 1, h5, cut (0 + 1 + 1 + 1 + 35 + 1 + 1) 1, h6, cut (0 + 1 + 1 + 1 + 35 + 1 + 1 + 1) 1, h7, List.drop_eq_nil_of_le (by omega)]
  simp [prC]
set_option maxRecDepth 100000 in
theorem open_procs {r : Reach} {b0 : Nat} {v : Value} {d : DataW H} {ps : List MemPlace} (hval : Value.okWide Try.prog w r b0 22 v) (hd : DataW.Trod enc Try.prog w base spare held 22 v d ps) :
    ∃ (A : Option Addr) (n c : Nat) (L : List PR), v = .slice A n c ∧ n ≤ 9223372036854775807 ∧ TW prK w tt A n L := by
  obtain ⟨A, n, c, L, rfl, h1, h2, h3, h4, h5⟩ := open_rows prC 42 (fun q => prK.E tt q w) prC_len (by omega) Try.underlying22 (by kernel_rfl) (fun _ _ _ h => trod_proc h) hval hd
  refine ⟨A, n, c, L, rfl, by unfold maxLen at h2; omega, ⟨h5, h3, h4⟩⟩
end
end Go.Proofs.Ytflpjpdgacjlcaa

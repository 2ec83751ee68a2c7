/- A channel as an argument. -/
import Derived.Test.YtnmjjemkaamcfaaOT
import Derived.Test.YtnmjjemkaamcfaaJb
namespace Go.Proofs.Ytnmjjemkaamcfaa
open Go.ChangeShapes Go.WideShapes Go.ChangeAt Go.RowKit

section
variable {H : Type} {enc : TypeId × Value → H} {w : World} {base : Nat} {spare : Nat → Bool} {held : Bool}
set_option maxRecDepth 100000 in
theorem trod_line18 {m : Nat} {a b : Value} {x : DataW H × List MemPlace} (h : DataW.trod enc Try.prog w base spare held m 76 [a, b] = some x) :
    ∃ (sh : Bool) (A : Option Addr) (n c : Nat) (L : List Int), a = .bool sh ∧ b = .slice A n c ∧ LnW w (fun _ => True) A n c L := by
  obtain ⟨y0, y1, m', _, _, e0, e1⟩ := trod_struct2 Try.underlying76 h
  have ci : Try.prog.cellsOf 58 = 1 := by kernel_rfl
  have cb : Try.prog.cellsOf 4 = 1 := by kernel_rfl
  have f0 : DataW.trod enc Try.prog w base spare held m' 4 ((([a, b] : List Value).drop 0).take 1) = some y0 := (cb ▸ e0 : _)
  have f1 : DataW.trod enc Try.prog w base spare held m' 58 ((([a, b] : List Value).drop 1).take 1) = some y1 := (ci ▸ e1 : _)
  have e0' : DataW.trod enc Try.prog w base spare held m' 4 [a] = some y0 := f0
  have e1' : DataW.trod enc Try.prog w base spare held m' 58 [b] = some y1 := f1
  obtain ⟨z0, h0, _⟩ := DataW.trod_bool Try.underlying4 e0'
  obtain ⟨A, n, c, L, h1, h2, h3, h4, _, h5⟩ := trod_intl .i64 Try.underlying58 Try.underlying3 (by kernel_rfl) e1'
  exact ⟨z0, A, n, c, L, by simpa using h0, by simpa using h1, ⟨h5, h4, h2, h3⟩⟩
set_option maxRecDepth 100000 in
theorem trod_conf18 {m : Nat} {a b c d : Value} {x : DataW H × List MemPlace} (h : DataW.trod enc Try.prog w base spare held m 69 [a, b, c, d] = some x) :
    ∃ k r i o : Int, a = .int .i64 k ∧ b = .int .i64 r ∧ c = .int .i64 i ∧ d = .int .i64 o := by
  obtain ⟨xs, m', _, _, _, hxl, each⟩ := DataW.trod_struct Try.underlying69 h
  have ci : Try.prog.cellsOf 3 = 1 := by kernel_rfl
  have hx4 : xs.length = 4 := by rw [hxl]; rfl
  have e0 : DataW.trod enc Try.prog w base spare held m' 3 [a] = some (xs[0]'(by omega)) := by
    have h := each 0 _ rfl
    rw [List.getElem?_eq_getElem (by omega)] at h
    exact (ci ▸ h : _)
  have e1 : DataW.trod enc Try.prog w base spare held m' 3 [b] = some (xs[1]'(by omega)) := by
    have h := each 1 _ rfl
    rw [List.getElem?_eq_getElem (by omega)] at h
    exact (ci ▸ h : _)
  have e2 : DataW.trod enc Try.prog w base spare held m' 3 [c] = some (xs[2]'(by omega)) := by
    have h := each 2 _ rfl
    rw [List.getElem?_eq_getElem (by omega)] at h
    exact (ci ▸ h : _)
  have e3 : DataW.trod enc Try.prog w base spare held m' 3 [d] = some (xs[3]'(by omega)) := by
    have h := each 3 _ rfl
    rw [List.getElem?_eq_getElem (by omega)] at h
    exact (ci ▸ h : _)
  obtain ⟨z0, h0, _, _⟩ := DataW.trod_int Try.underlying3 e0
  obtain ⟨z1, h1, _, _⟩ := DataW.trod_int Try.underlying3 e1
  obtain ⟨z2, h2, _, _⟩ := DataW.trod_int Try.underlying3 e2
  obtain ⟨z3, h3, _, _⟩ := DataW.trod_int Try.underlying3 e3
  exact ⟨z0, z1, z2, z3, by simpa using h0, by simpa using h1, by simpa using h2, by simpa using h3⟩
set_option maxRecDepth 100000 in
theorem trod_chan {fuel : Nat} {l : List Value} {x : DataW H × List MemPlace} (hf : DataW.trod enc Try.prog w base spare held fuel 78 l = some x) :
    ∃ C M, l = chC C M ∧ ChW w (fun _ => True) C M := by
  obtain ⟨xs, m, _, _, hl, hxl, each⟩ := DataW.trod_struct Try.underlying78 hf
  have hl11 : l.length = 11 := by rw [hl]; kernel_rfl
  have hx6 : xs.length = 6 := by rw [hxl]; rfl
  have ci : Try.prog.cellsOf 3 = 1 := by kernel_rfl
  have cs : Try.prog.cellsOf 58 = 1 := by kernel_rfl
  have cc : Try.prog.cellsOf 69 = 4 := by kernel_rfl
  have cl : Try.prog.cellsOf 76 = 2 := by kernel_rfl
  obtain ⟨a0, a1, a2, a3, a4, a5, a6, a7, a8, a9, a10, rfl⟩ : ∃ a0 a1 a2 a3 a4 a5 a6 a7 a8 a9 a10, l = [a0, a1, a2, a3, a4, a5, a6, a7, a8, a9, a10] := by
    match l, hl11 with
    | [a0, a1, a2, a3, a4, a5, a6, a7, a8, a9, a10], _ => exact ⟨a0, a1, a2, a3, a4, a5, a6, a7, a8, a9, a10, rfl⟩
  have e0 : DataW.trod enc Try.prog w base spare held m 69 [a0, a1, a2, a3] = some (xs[0]'(by omega)) := by
    have h := each 0 _ rfl
    rw [List.getElem?_eq_getElem (by omega)] at h
    exact (cc ▸ h : _)
  have e1 : DataW.trod enc Try.prog w base spare held m 3 [a4] = some (xs[1]'(by omega)) := by
    have h := each 1 _ rfl
    rw [List.getElem?_eq_getElem (by omega)] at h
    exact (ci ▸ h : _)
  have e2 : DataW.trod enc Try.prog w base spare held m 58 [a5] = some (xs[2]'(by omega)) := by
    have h := each 2 _ rfl
    rw [List.getElem?_eq_getElem (by omega)] at h
    exact (cs ▸ h : _)
  have e3 : DataW.trod enc Try.prog w base spare held m 76 [a6, a7] = some (xs[3]'(by omega)) := by
    have h := each 3 _ rfl
    rw [List.getElem?_eq_getElem (by omega)] at h
    exact (cl ▸ h : _)
  have e4 : DataW.trod enc Try.prog w base spare held m 58 [a8] = some (xs[4]'(by omega)) := by
    have h := each 4 _ rfl
    rw [List.getElem?_eq_getElem (by omega)] at h
    exact (cs ▸ h : _)
  have e5 : DataW.trod enc Try.prog w base spare held m 76 [a9, a10] = some (xs[5]'(by omega)) := by
    have h := each 5 _ rfl
    rw [List.getElem?_eq_getElem (by omega)] at h
    exact (cl ▸ h : _)
  clear each hf hl
  obtain ⟨k, r, i, o, rfl, rfl, rfl, rfl⟩ := trod_conf18 e0
  obtain ⟨lv, h1, _, _⟩ := DataW.trod_int Try.underlying3 e1
  obtain ⟨vA, vn, vc, vL, h2, v2, v3, v4, _, v5⟩ := trod_intl .i64 Try.underlying58 Try.underlying3 (by kernel_rfl) e2
  obtain ⟨os, wA, wn, wc, wL, rfl, rfl, hw⟩ := trod_line18 e3
  obtain ⟨sA, sn, sc, sL, h4, s2, s3, s4, _, s5⟩ := trod_intl .i64 Try.underlying58 Try.underlying3 (by kernel_rfl) e4
  obtain ⟨is, gA, gn, gc, gL, rfl, rfl, hg⟩ := trod_line18 e5
  obtain rfl : a4 = .int .i64 lv := by simpa using h1
  obtain rfl : a5 = .slice vA vn vc := by simpa using h2
  obtain rfl : a8 = .slice sA sn sc := by simpa using h4
  exact ⟨⟨k, r, i, o, lv, vL, os, wL, sL, is, gL⟩, ⟨⟨vA, vn, vc⟩, ⟨wA, wn, wc⟩, ⟨sA, sn, sc⟩, ⟨gA, gn, gc⟩⟩, rfl, ⟨⟨v5, v4, v2, v3⟩, hw, ⟨s5, s4, s2, s3⟩, hg⟩⟩
set_option maxRecDepth 100000 in
theorem open_chan {r : Reach} {b0 : Nat} {v : Value} {d : DataW H} {ps : List MemPlace} (hval : Value.okWide Try.prog w r b0 78 v) (hd : DataW.Trod enc Try.prog w base spare held 78 v d ps) :
    ∃ (C : CP) (M : SM), v = .agg (chC C M).toArray ∧ ChW w (fun _ => True) C M := by
  obtain ⟨cs, rfl, hsz⟩ := okWide_struct Try.underlying78 hval
  obtain ⟨fuel, hf⟩ := hd
  obtain ⟨C, M, h1, h2⟩ := trod_chan (show DataW.trod enc Try.prog w base spare held fuel 78 cs.toList = some (d, ps) from hf)
  obtain ⟨l⟩ := cs
  simp only at h1
  subst h1
  exact ⟨C, M, rfl, h2⟩
end
end Go.Proofs.Ytnmjjemkaamcfaa

/- A document's barrier as an argument. -/
import Derived.Test.YtlfglibepldjpaaDoorOT
import Derived.Test.YtlfglibepldjpaaDoorBrd
import Derived.Test.YtlfglibepldjpaaDoorBrh
namespace Go.Proofs.YtlfglibepldjpaaDoor
open Go.ChangeShapes Go.WideShapes Go.ChangeAt Go.RowKit

section
variable {H : Type} {enc : TypeId × Value → H} {w : World} {base : Nat} {spare : Nat → Bool} {held : Bool}
set_option maxRecDepth 100000 in
theorem trod_conf22 {m : Nat} {a b : Value} {x : DataW H × List MemPlace} (h : DataW.trod enc Tryd.prog w base spare held m 59 [a, b] = some x) :
    ∃ (al : Bool) (l : Int), a = .bool al ∧ b = .int .i64 l := by
  obtain ⟨y0, y1, m', _, _, e0, e1⟩ := trod_struct2 Tryd.underlying59 h
  have ci : Tryd.prog.cellsOf 3 = 1 := by kernel_rfl
  have cb : Tryd.prog.cellsOf 4 = 1 := by kernel_rfl
  have f0 : DataW.trod enc Tryd.prog w base spare held m' 4 ((([a, b] : List Value).drop 0).take 1) = some y0 := (cb ▸ e0 : _)
  have f1 : DataW.trod enc Tryd.prog w base spare held m' 3 ((([a, b] : List Value).drop 1).take 1) = some y1 := (ci ▸ e1 : _)
  have e0' : DataW.trod enc Tryd.prog w base spare held m' 4 [a] = some y0 := f0
  have e1' : DataW.trod enc Tryd.prog w base spare held m' 3 [b] = some y1 := f1
  obtain ⟨z0, h0, _⟩ := DataW.trod_bool Tryd.underlying4 e0'
  obtain ⟨z1, h1, _, _⟩ := DataW.trod_int Tryd.underlying3 e1'
  exact ⟨z0, z1, by simpa using h0, by simpa using h1⟩
set_option maxRecDepth 100000 in
theorem trod_roll22 {m : Nat} {a b : Value} {x : DataW H × List MemPlace} (h : DataW.trod enc Tryd.prog w base spare held m 71 [a, b] = some x) :
    ∃ (A : Option Addr) (n c : Nat) (L : List Int) (B : Option Addr) (q k : Nat) (N : List Int), a = .slice A n c ∧ b = .slice B q k ∧ L.length = n ∧ N.length = q ∧ RD w tt 1 A n (L.map (Value.int .i64)) ∧ RD w tt 1 B q (N.map (Value.int .i64)) := by
  obtain ⟨y0, y1, m', _, _, e0, e1⟩ := trod_struct2 Tryd.underlying71 h
  have cs : Tryd.prog.cellsOf 45 = 1 := by kernel_rfl
  have f0 : DataW.trod enc Tryd.prog w base spare held m' 45 ((([a, b] : List Value).drop 0).take 1) = some y0 := (cs ▸ e0 : _)
  have f1 : DataW.trod enc Tryd.prog w base spare held m' 45 ((([a, b] : List Value).drop 1).take 1) = some y1 := (cs ▸ e1 : _)
  have e0' : DataW.trod enc Tryd.prog w base spare held m' 45 [a] = some y0 := f0
  have e1' : DataW.trod enc Tryd.prog w base spare held m' 45 [b] = some y1 := f1
  obtain ⟨A, n, c, L, h1, h2, h3, h4, _, h5⟩ := trod_intl .i64 Tryd.underlying45 Tryd.underlying3 (by kernel_rfl) e0'
  obtain ⟨B, q, k, N, k1, k2, k3, k4, _, k5⟩ := trod_intl .i64 Tryd.underlying45 Tryd.underlying3 (by kernel_rfl) e1'
  exact ⟨A, n, c, L, B, q, k, N, by simpa using h1, by simpa using k1, h4, k4, h5, k5⟩
set_option maxRecDepth 100000 in
theorem trod_dbar {fuel : Nat} {l : List Value} {x : DataW H × List MemPlace} (hf : DataW.trod enc Tryd.prog w base spare held fuel 73 l = some x) :
    ∃ (al : Bool) (lim : Int) (A : Option Addr) (n c : Nat) (L : List Int) (B : Option Addr) (q k : Nat) (N : List Int) (ph : Int), l = dbI al lim A n c B q k ph ∧ L.length = n ∧ N.length = q ∧ RD w tt 1 A n (L.map (Value.int .i64)) ∧ RD w tt 1 B q (N.map (Value.int .i64)) := by
  obtain ⟨xs, m, _, _, hl, hxl, each⟩ := DataW.trod_struct Tryd.underlying73 hf
  have hl5 : l.length = 5 := by rw [hl]; kernel_rfl
  have hx3 : xs.length = 3 := by rw [hxl]; rfl
  have ci : Tryd.prog.cellsOf 3 = 1 := by kernel_rfl
  have cc : Tryd.prog.cellsOf 59 = 2 := by kernel_rfl
  have cl : Tryd.prog.cellsOf 71 = 2 := by kernel_rfl
  obtain ⟨a0, a1, a2, a3, a4, rfl⟩ : ∃ a0 a1 a2 a3 a4, l = [a0, a1, a2, a3, a4] := by
    match l, hl5 with
    | [a0, a1, a2, a3, a4], _ => exact ⟨a0, a1, a2, a3, a4, rfl⟩
  have e0 : DataW.trod enc Tryd.prog w base spare held m 59 [a0, a1] = some (xs[0]'(by omega)) := by
    have h := each 0 _ rfl
    rw [List.getElem?_eq_getElem (by omega)] at h
    exact (cc ▸ h : _)
  have e1 : DataW.trod enc Tryd.prog w base spare held m 71 [a2, a3] = some (xs[1]'(by omega)) := by
    have h := each 1 _ rfl
    rw [List.getElem?_eq_getElem (by omega)] at h
    exact (cl ▸ h : _)
  have e2 : DataW.trod enc Tryd.prog w base spare held m 3 [a4] = some (xs[2]'(by omega)) := by
    have h := each 2 _ rfl
    rw [List.getElem?_eq_getElem (by omega)] at h
    exact (ci ▸ h : _)
  obtain ⟨al, lim, rfl, rfl⟩ := trod_conf22 e0
  obtain ⟨A, n, c, L, B, q, k, N, rfl, rfl, h4, k4, h5, k5⟩ := trod_roll22 e1
  obtain ⟨z2, h2, _, _⟩ := DataW.trod_int Tryd.underlying3 e2
  obtain rfl : a4 = .int .i64 z2 := by simpa using h2
  exact ⟨al, lim, A, n, c, L, B, q, k, N, z2, rfl, h4, k4, h5, k5⟩
set_option maxRecDepth 100000 in
theorem open_dbar {r : Reach} {b0 : Nat} {v : Value} {d : DataW H} {ps : List MemPlace} (hval : Value.okWide Tryd.prog w r b0 73 v) (hd : DataW.Trod enc Tryd.prog w base spare held 73 v d ps) :
    ∃ (al : Bool) (lim : Int) (A : Option Addr) (n c : Nat) (L : List Int) (B : Option Addr) (q k : Nat) (N : List Int) (ph : Int), v = .agg (dbI al lim A n c B q k ph).toArray ∧ L.length = n ∧ N.length = q ∧ RD w tt 1 A n (L.map (Value.int .i64)) ∧ RD w tt 1 B q (N.map (Value.int .i64)) := by
  obtain ⟨cs, rfl, hsz⟩ := okWide_struct Tryd.underlying73 hval
  obtain ⟨fuel, hf⟩ := hd
  obtain ⟨l0⟩ := cs
  obtain ⟨al, lim, A, n, c, L, B, q, k, N, ph, hl, h⟩ := trod_dbar (l := l0) hf
  subst hl
  exact ⟨al, lim, A, n, c, L, B, q, k, N, ph, rfl, h⟩
end
end Go.Proofs.YtlfglibepldjpaaDoor

/- Arguments of layer 23: tables, what barriers are to be, offers. -/
import Derived.Test.YtlfglibepldjpaaDoorOE
import Derived.Test.YtlfglibepldjpaaDoorOw
import Derived.Test.YtlfglibepldjpaaDoorBtj
namespace Go.Proofs.YtlfglibepldjpaaDoor
open Go.ChangeShapes Go.WideShapes Go.Deep Go.ChangeAt Go.RowKit

instance : Inhabited RB := ⟨⟨false, 0, none, 0, [], none, 0, [], 0⟩⟩
instance : Inhabited GD := ⟨⟨0, 0, 0, 0, 0⟩⟩
section
variable {H : Type} {enc : TypeId × Value → H} {w : World} {base : Nat} {spare : Nat → Bool} {held : Bool}
set_option maxRecDepth 100000 in
theorem open_btab {r : Reach} {b0 : Nat} {v : Value} {d : DataW H} {ps : List MemPlace} (hval : Value.okWide Tryd.prog w r b0 22 v) (hd : DataW.Trod enc Tryd.prog w base spare held 22 v d ps) :
    ∃ (A : Option Addr) (n c : Nat) (Q : List RB), v = .slice A n c ∧ n ≤ maxLen ∧ TW rB w tt A n Q := by
  obtain ⟨A, n, c, L, rfl, h1, h2, h3, h4, h5⟩ := open_rows rbC 5 (fun r => RD w tt 1 r.A r.L.length (r.L.map (Value.int .i64)) ∧ RD w tt 1 r.B r.N.length (r.N.map (Value.int .i64))) (fun _ => rfl) (by omega) Tryd.underlying22 (by kernel_rfl) (fun _ _ _ h => by
    obtain ⟨al, lim, A, n, c, L, B, q, k, N, ph, h1, h2, h3, h4, h5⟩ := trod_dbar h
    subst h2
    subst h3
    exact ⟨⟨al, lim, A, c, L, B, k, N, ph⟩, h1, h4, h5⟩) hval hd
  exact ⟨A, n, c, L, rfl, by omega, h5, h3, h4⟩
set_option maxRecDepth 100000 in
theorem open_cbs {r : Reach} {b0 : Nat} {v : Value} {d : DataW H} {ps : List MemPlace} (hval : Value.okWide Tryd.prog w r b0 54 v) (hd : DataW.Trod enc Tryd.prog w base spare held 54 v d ps) :
    ∃ (A : Option Addr) (n c : Nat) (l : List CB), v = .slice A n c ∧ l.length = n ∧ RD w tt 2 A n (l.flatMap cbC) := by
  obtain ⟨A, n, c, L, rfl, h1, h2, h3, h4, h5⟩ := open_rows cbC 2 (fun _ => True) cbC_len (by omega) Tryd.underlying54 (by kernel_rfl) (fun _ cs _ h => by
    obtain ⟨xs, m', _, _, hl, hxl, each⟩ := DataW.trod_struct Tryd.underlying59 h
    have hl2 : cs.length = 2 := by rw [hl]; kernel_rfl
    obtain ⟨a, b, rfl⟩ : ∃ a b, cs = [a, b] := by
      match cs, hl2 with
      | [a, b], _ => exact ⟨a, b, rfl⟩
    obtain ⟨al, l, rfl, rfl⟩ := trod_conf22 h
    exact ⟨(al, l), rfl, trivial⟩) hval hd
  exact ⟨A, n, c, L, rfl, h3, h5⟩
set_option maxRecDepth 100000 in
theorem trod_gd {fu : Nat} {cs : List Value} {x : DataW H × List MemPlace} (h : DataW.trod enc Tryd.prog w base spare held fu 76 cs = some x) : ∃ g : GD, cs = gdC g ∧ True := by
  obtain ⟨xs, m', _, _, hl, hxl, each⟩ := DataW.trod_struct Tryd.underlying76 h
  have hl5 : cs.length = 5 := by rw [hl]; kernel_rfl
  have ci : Tryd.prog.cellsOf 3 = 1 := by kernel_rfl
  have hx5 : xs.length = 5 := by rw [hxl]; rfl
  obtain ⟨a, b, c, d, e, rfl⟩ : ∃ a b c d e, cs = [a, b, c, d, e] := by
    match cs, hl5 with
    | [a, b, c, d, e], _ => exact ⟨a, b, c, d, e, rfl⟩
  have e0 : DataW.trod enc Tryd.prog w base spare held m' 3 [a] = some (xs[0]'(by omega)) := by
    have h := each 0 _ rfl
    rw [List.getElem?_eq_getElem (by omega)] at h
    exact (ci ▸ h : _)
  have e1 : DataW.trod enc Tryd.prog w base spare held m' 3 [b] = some (xs[1]'(by omega)) := by
    have h := each 1 _ rfl
    rw [List.getElem?_eq_getElem (by omega)] at h
    exact (ci ▸ h : _)
  have e2 : DataW.trod enc Tryd.prog w base spare held m' 3 [c] = some (xs[2]'(by omega)) := by
    have h := each 2 _ rfl
    rw [List.getElem?_eq_getElem (by omega)] at h
    exact (ci ▸ h : _)
  have e3 : DataW.trod enc Tryd.prog w base spare held m' 3 [d] = some (xs[3]'(by omega)) := by
    have h := each 3 _ rfl
    rw [List.getElem?_eq_getElem (by omega)] at h
    exact (ci ▸ h : _)
  have e4 : DataW.trod enc Tryd.prog w base spare held m' 3 [e] = some (xs[4]'(by omega)) := by
    have h := each 4 _ rfl
    rw [List.getElem?_eq_getElem (by omega)] at h
    exact (ci ▸ h : _)
  obtain ⟨z0, h0, _, _⟩ := DataW.trod_int Tryd.underlying3 e0
  obtain ⟨z1, h1, _, _⟩ := DataW.trod_int Tryd.underlying3 e1
  obtain ⟨z2, h2, _, _⟩ := DataW.trod_int Tryd.underlying3 e2
  obtain ⟨z3, h3, _, _⟩ := DataW.trod_int Tryd.underlying3 e3
  obtain ⟨z4, h4, _, _⟩ := DataW.trod_int Tryd.underlying3 e4
  obtain rfl : a = .int .i64 z0 := by simpa using h0
  obtain rfl : b = .int .i64 z1 := by simpa using h1
  obtain rfl : c = .int .i64 z2 := by simpa using h2
  obtain rfl : d = .int .i64 z3 := by simpa using h3
  obtain rfl : e = .int .i64 z4 := by simpa using h4
  exact ⟨⟨z0, z1, z2, z3, z4⟩, rfl, trivial⟩
set_option maxRecDepth 100000 in
theorem open_offer23 {r : Reach} {b0 : Nat} {v : Value} {d : DataW H} {ps : List MemPlace} (hval : Value.okWide Tryd.prog w r b0 25 v) (hd : DataW.Trod enc Tryd.prog w base spare held 25 v d ps) :
    ∃ (p : Int) (A : Option Addr) (n c : Nat) (gs : List GD) (al : Bool), v = .agg #[.int .i64 p, .slice A n c, .bool al] ∧ gs.length = n ∧ RD w (fun _ => True) 5 A n (gs.flatMap gdC) := by
  obtain ⟨cs, rfl, hsz⟩ := okWide_struct Tryd.underlying25 hval
  obtain ⟨fuel, hf⟩ := hd
  have hf' : DataW.trod enc Tryd.prog w base spare held fuel 25 cs.toList = some (d, ps) := hf
  obtain ⟨xs, m', _, _, hl, hxl, each⟩ := DataW.trod_struct Tryd.underlying25 hf'
  obtain ⟨l⟩ := cs
  simp only at hl each
  have hl3 : l.length = 3 := by rw [hl]; kernel_rfl
  have hx3 : xs.length = 3 := by rw [hxl]; rfl
  have ci : Tryd.prog.cellsOf 3 = 1 := by kernel_rfl
  have cb : Tryd.prog.cellsOf 4 = 1 := by kernel_rfl
  have cg : Tryd.prog.cellsOf 23 = 1 := by kernel_rfl
  obtain ⟨a, b, c, rfl⟩ := list_of_3 hl3
  have e0 : DataW.trod enc Tryd.prog w base spare held m' 3 [a] = some (xs[0]'(by omega)) := by
    have h := each 0 _ rfl
    rw [List.getElem?_eq_getElem (by omega)] at h
    exact (ci ▸ h : _)
  have e1 : DataW.trod enc Tryd.prog w base spare held m' 23 [b] = some (xs[1]'(by omega)) := by
    have h := each 1 _ rfl
    rw [List.getElem?_eq_getElem (by omega)] at h
    exact (cg ▸ h : _)
  have e2 : DataW.trod enc Tryd.prog w base spare held m' 4 [c] = some (xs[2]'(by omega)) := by
    have h := each 2 _ rfl
    rw [List.getElem?_eq_getElem (by omega)] at h
    exact (cb ▸ h : _)
  obtain ⟨z0, h0, _, _⟩ := DataW.trod_int Tryd.underlying3 e0
  obtain ⟨z2, h2, _⟩ := DataW.trod_bool Tryd.underlying4 e2
  obtain ⟨A, n, cc, gs, h1, _, _, h4, _, h5⟩ := trod_rows gdC 5 (fun _ => True) gdC_len (by omega) Tryd.underlying23 (by kernel_rfl) (fun _ _ _ h => trod_gd h) e1
  obtain rfl : a = .int .i64 z0 := by simpa using h0
  obtain rfl : c = .bool z2 := by simpa using h2
  obtain rfl : b = .slice A n cc := by simpa using h1
  exact ⟨z0, A, n, cc, gs, z2, rfl, h4, h5⟩
end
end Go.Proofs.YtlfglibepldjpaaDoor

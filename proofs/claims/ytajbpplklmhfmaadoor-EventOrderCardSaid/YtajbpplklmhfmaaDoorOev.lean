/- An event, and a slice of events, as arguments. -/
import Derived.Test.YtajbpplklmhfmaaDoorOG
import Derived.Test.YtajbpplklmhfmaaDoorEva
namespace Go.Proofs.YtajbpplklmhfmaaDoor
open Go.ChangeShapes Go.WideShapes Go.Deep Go.ChangeAt Go.RowKit

section
variable {H : Type} {enc : TypeId × Value → H} {w : World} {base : Nat} {spare : Nat → Bool} {held : Bool}
set_option maxRecDepth 100000 in
theorem trod_ev {fu : Nat} {cs : List Value} {x : DataW H × List MemPlace} (h : DataW.trod enc Tryd.prog w base spare held fu 23 cs = some x) : ∃ g : EV, cs = evC g ∧ True := by
  obtain ⟨xs, m', _, _, hl, hxl, each⟩ := DataW.trod_struct Tryd.underlying23 h
  have hl4 : cs.length = 4 := by rw [hl]; kernel_rfl
  have ci : Tryd.prog.cellsOf 3 = 1 := by kernel_rfl
  have hx4 : xs.length = 4 := by rw [hxl]; rfl
  obtain ⟨a, b, c, d, rfl⟩ : ∃ a b c d, cs = [a, b, c, d] := by
    match cs, hl4 with
    | [a, b, c, d], _ => exact ⟨a, b, c, d, rfl⟩
  have e0 : DataW.trod enc Tryd.prog w base spare held m' 3 [a] = some (xs[0]'(by omega)) := by
    have h := each 0 _ rfl
    rw [List.getElem?_eq_getElem (by omega)] at h
    exact (ci ▸ h : _)
  have e1 : DataW.trod enc Tryd.prog w base spare held m' 3 [b] = some (xs[1]'(by omega)) := by
    have h := each 1 _ rfl
    rw [List.getElem?_eq_getElem (by omega)] at h
    exact (ci ▸ h : _)
  have e2 : DataW.trod enc Tryd.prog w base spare held m' 3 [c] = some (xs[2]'(by omega)) := by
    have h := each 2 _ rfl
    rw [List.getElem?_eq_getElem (by omega)] at h
    exact (ci ▸ h : _)
  have e3 : DataW.trod enc Tryd.prog w base spare held m' 3 [d] = some (xs[3]'(by omega)) := by
    have h := each 3 _ rfl
    rw [List.getElem?_eq_getElem (by omega)] at h
    exact (ci ▸ h : _)
  obtain ⟨z0, h0, _, _⟩ := DataW.trod_int Tryd.underlying3 e0
  obtain ⟨z1, h1, _, _⟩ := DataW.trod_int Tryd.underlying3 e1
  obtain ⟨z2, h2, _, _⟩ := DataW.trod_int Tryd.underlying3 e2
  obtain ⟨z3, h3, _, _⟩ := DataW.trod_int Tryd.underlying3 e3
  obtain rfl : a = .int .i64 z0 := by simpa using h0
  obtain rfl : b = .int .i64 z1 := by simpa using h1
  obtain rfl : c = .int .i64 z2 := by simpa using h2
  obtain rfl : d = .int .i64 z3 := by simpa using h3
  exact ⟨⟨z0, z1, z2, z3⟩, rfl, trivial⟩
set_option maxRecDepth 100000 in
theorem open_ev {r : Reach} {b0 : Nat} {v : Value} {d : DataW H} {ps : List MemPlace} (hval : Value.okWide Tryd.prog w r b0 23 v) (hd : DataW.Trod enc Tryd.prog w base spare held 23 v d ps) :
    ∃ k o h n : Int, v = .agg #[.int .i64 k, .int .i64 o, .int .i64 h, .int .i64 n] := by
  obtain ⟨cs, rfl, hsz⟩ := okWide_struct Tryd.underlying23 hval
  obtain ⟨fuel, hf⟩ := hd
  have hf' : DataW.trod enc Tryd.prog w base spare held fuel 23 cs.toList = some (d, ps) := hf
  obtain ⟨g, hg, _⟩ := trod_ev hf'
  obtain ⟨l⟩ := cs
  obtain rfl : l = evC g := hg
  exact ⟨g.k, g.o, g.h, g.n, rfl⟩
set_option maxRecDepth 100000 in
theorem open_evs {r : Reach} {b0 : Nat} {v : Value} {d : DataW H} {ps : List MemPlace} (hval : Value.okWide Tryd.prog w r b0 39 v) (hd : DataW.Trod enc Tryd.prog w base spare held 39 v d ps) :
    ∃ (A : Option Addr) (n c : Nat) (L : List EV), v = .slice A n c ∧ L.length = n ∧ n ≤ c ∧ c ≤ maxLen ∧ RD w (fun _ => True) 4 A n (L.flatMap evC) := by
  obtain ⟨A, n, c, L, rfl, h1, h2, h3, _, h5⟩ := openG_rows evC 4 (fun _ => True) evC_len (by omega) Tryd.underlying39 (by kernel_rfl) (fun _ _ _ h => trod_ev h) hval hd
  exact ⟨A, n, c, L, rfl, h3, h1, h2, h5⟩
end
end Go.Proofs.YtajbpplklmhfmaaDoor

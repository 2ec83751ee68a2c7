/- A choice, and a slice of choices, as arguments; how long such a slice may be. -/
import Derived.Test.YtpbjfadandnhaaaOG
import Derived.Test.YtpbjfadandnhaaaPka
import Derived.SizedLaws
namespace Go.Proofs.Ytpbjfadandnhaaa
open Go.ChangeShapes Go.WideShapes Go.Deep Go.ChangeAt Go.RowKit

instance : Inhabited CH := ⟨⟨0, 0, 0⟩⟩
section
variable {H : Type} {enc : TypeId × Value → H} {w : World} {base : Nat} {spare : Nat → Bool} {held : Bool}
set_option maxRecDepth 100000 in
theorem trod_pk {fu : Nat} {cs : List Value} {x : DataW H × List MemPlace} (h : DataW.trod enc Try.prog w base spare held fu 24 cs = some x) : ∃ g : CH, cs = chC g ∧ True := by
  obtain ⟨xs, m', _, _, hl, hxl, each⟩ := DataW.trod_struct Try.underlying24 h
  have hl3 : cs.length = 3 := by rw [hl]; kernel_rfl
  have ci : Try.prog.cellsOf 3 = 1 := by kernel_rfl
  have hx3 : xs.length = 3 := by rw [hxl]; rfl
  obtain ⟨a, b, c, rfl⟩ : ∃ a b c, cs = [a, b, c] := by
    match cs, hl3 with
    | [a, b, c], _ => exact ⟨a, b, c, rfl⟩
  have e0 : DataW.trod enc Try.prog w base spare held m' 3 [a] = some (xs[0]'(by omega)) := by
    have h := each 0 _ rfl
    rw [List.getElem?_eq_getElem (by omega)] at h
    exact (ci ▸ h : _)
  have e1 : DataW.trod enc Try.prog w base spare held m' 3 [b] = some (xs[1]'(by omega)) := by
    have h := each 1 _ rfl
    rw [List.getElem?_eq_getElem (by omega)] at h
    exact (ci ▸ h : _)
  have e2 : DataW.trod enc Try.prog w base spare held m' 3 [c] = some (xs[2]'(by omega)) := by
    have h := each 2 _ rfl
    rw [List.getElem?_eq_getElem (by omega)] at h
    exact (ci ▸ h : _)
  obtain ⟨z0, h0, _, _⟩ := DataW.trod_int Try.underlying3 e0
  obtain ⟨z1, h1, _, _⟩ := DataW.trod_int Try.underlying3 e1
  obtain ⟨z2, h2, _, _⟩ := DataW.trod_int Try.underlying3 e2
  obtain rfl : a = .int .i64 z0 := by simpa using h0
  obtain rfl : b = .int .i64 z1 := by simpa using h1
  obtain rfl : c = .int .i64 z2 := by simpa using h2
  exact ⟨⟨z0, z1, z2⟩, rfl, trivial⟩
set_option maxRecDepth 100000 in
theorem open_pk {r : Reach} {b0 : Nat} {v : Value} {d : DataW H} {ps : List MemPlace} (hval : Value.okWide Try.prog w r b0 24 v) (hd : DataW.Trod enc Try.prog w base spare held 24 v d ps) :
    ∃ k o h : Int, v = .agg #[.int .i64 k, .int .i64 o, .int .i64 h] := by
  obtain ⟨cs, rfl, hsz⟩ := okWide_struct Try.underlying24 hval
  obtain ⟨fuel, hf⟩ := hd
  have hf' : DataW.trod enc Try.prog w base spare held fuel 24 cs.toList = some (d, ps) := hf
  obtain ⟨g, hg, _⟩ := trod_pk hf'
  obtain ⟨l⟩ := cs
  obtain rfl : l = chC g := hg
  exact ⟨g.k, g.v, g.w, rfl⟩
set_option maxRecDepth 100000 in
theorem open_pks {r : Reach} {b0 : Nat} {v : Value} {d : DataW H} {ps : List MemPlace} (hval : Value.okWide Try.prog w r b0 22 v) (hd : DataW.Trod enc Try.prog w base spare held 22 v d ps) :
    ∃ (A : Option Addr) (n c : Nat) (L : List CH), v = .slice A n c ∧ L.length = n ∧ n ≤ c ∧ c ≤ maxLen ∧ RD w (fun _ => True) 3 A n (L.flatMap chC) := by
  obtain ⟨A, n, c, L, rfl, h1, h2, h3, _, h5⟩ := openG_rows chC 3 (fun _ => True) chC_len (by omega) Try.underlying22 (by kernel_rfl) (fun _ _ _ h => trod_pk h) hval hd
  exact ⟨A, n, c, L, rfl, h3, h1, h2, h5⟩
/-- How long a slice of choices is that came in: no more than memory lets it be. -/
theorem reach_pks {A : Option Addr} {n c : Nat} {d : DataW H} {ps : List MemPlace} (hd : DataW.Trod enc Try.prog w base spare held 22 (.slice A n c) d ps) {ts : List TypeId} {ds : List (DataW H)}
    (hsz : (DataW.weightsEach Try.prog ts ds).all (· ≤ reachBytes) = true) (j : Nat) (ht : ts[j]? = some 22) (hj : ds[j]? = some d) : n * 24 ≤ 140737488351232 := by
  obtain ⟨fuel, hf⟩ := hd
  have hf' : DataW.trod enc Try.prog w base spare held fuel 22 [.slice A n c] = some (d, ps) := hf
  rcases Go.Deep.open_slice Try.underlying22 hf' with ⟨e, _⟩ | ⟨a, len, cap, mm, fu, D, Pl, e, _, _, _, _, e2, _⟩
  · simp only [List.cons.injEq, Value.slice.injEq, and_true] at e
    omega
  · simp only [List.cons.injEq, Value.slice.injEq, and_true] at e
    simp only [Prod.mk.injEq] at e2
    rw [e2.1] at hj
    have hb : Try.prog.bytesOf 24 = 24 := by kernel_rfl
    have h := sized_slice hsz ht hj Try.underlying22
    rw [hb, List.length_map, List.length_range] at h
    unfold reachBytes at h
    obtain ⟨_, rfl, _⟩ := e
    have h2 : n * 24 ≤ (n + (List.map (fun j => D (n + j)) (List.range (mm - n))).length) * 24 := Nat.mul_le_mul_right _ (Nat.le_add_right _ _)
    omega
end
end Go.Proofs.Ytpbjfadandnhaaa

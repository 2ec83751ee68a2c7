/- A frame as an argument: its cells are a frame's. -/
import Derived.Test.YtdcaiecgholgiaaDoorO
import Derived.Test.YtdcaiecgholgiaaDoorFm
namespace Go.Proofs.YtdcaiecgholgiaaDoor
open Go.ChangeShapes Go.WideShapes Go.ChangeAt Go.RowKit

section
variable {H : Type} {enc : TypeId × Value → H} {w : World} {base : Nat} {spare : Nat → Bool} {held : Bool}
theorem arr_list {P : Program} {n : Nat} {t e : TypeId} {k : IntKind} {fuel : Nat} {cs : List Value} {x : DataW H × List MemPlace} (ht : P.underlying t = some (.array n e)) (he : P.underlying e = some (.int k)) (hce : P.cellsOf e = 1) (hct : P.cellsOf t = n)
    (h : DataW.trod enc P w base spare held fuel t cs = some x) : ∃ zs : List Int, zs.length = n ∧ cs = zs.map (Value.int k) := by
  obtain ⟨xs, m, _, _, hcl, hxl, hel⟩ := DataW.trod_array ht h
  have key : ∀ i, i < n → ∃ z, cs[i]? = some (.int k z) := by
    intro i hi
    have h1 := hel i hi
    rw [hce, Nat.mul_one, List.getElem?_eq_getElem (by omega)] at h1
    obtain ⟨z, e1, _, _⟩ := DataW.trod_int he h1
    refine ⟨z, ?_⟩
    have h0 : ((cs.drop i).take 1)[0]? = some (.int k z) := by rw [e1]; rfl
    simpa using h0
  refine ⟨cs.map (fun v => match v with | .int _ z => z | _ => 0), by simp; omega, ?_⟩
  rw [List.map_map]
  apply List.ext_getElem?
  intro i
  by_cases hi : i < n
  · obtain ⟨z, h1⟩ := key i hi
    simp only [List.getElem?_map, h1, Option.map_some, Function.comp_apply]
  · rw [List.getElem?_eq_none (by omega), List.getElem?_eq_none (by simp; omega)]

theorem open_frame {r : Reach} {b0 : Nat} {v : Value} {d : DataW H} {ps : List MemPlace} (hval : Value.okWide Tryd.prog w r b0 25 v) (hd : DataW.Trod enc Tryd.prog w base spare held 25 v d ps) :
    ∃ f : FR, v = .agg f.cells.toArray ∧ f.Ok := by
  obtain ⟨cs, rfl, hsz⟩ := okWide_struct Tryd.underlying25 hval
  obtain ⟨fuel, hf⟩ := hd
  have hf' : DataW.trod enc Tryd.prog w base spare held fuel 25 cs.toList = some (d, ps) := hf
  obtain ⟨xs, m, _, _, hl, hxl, each⟩ := DataW.trod_struct Tryd.underlying25 hf'
  have hl35 : cs.toList.length = 35 := by rw [hl]; kernel_rfl
  have hx6 : xs.length = 6 := by rw [hxl]; rfl
  have ci : Tryd.prog.cellsOf 3 = 1 := by kernel_rfl
  have cb : Tryd.prog.cellsOf 4 = 1 := by kernel_rfl
  have c8 : Tryd.prog.cellsOf 22 = 8 := by kernel_rfl
  have c16 : Tryd.prog.cellsOf 23 = 16 := by kernel_rfl
  have e0 : DataW.trod enc Tryd.prog w base spare held m 3 ((cs.toList.drop 0).take 1) = some (xs[0]'(by omega)) := by
    have h := each 0 _ rfl
    rw [List.getElem?_eq_getElem (by omega)] at h
    exact (ci ▸ h : _)
  have e1 : DataW.trod enc Tryd.prog w base spare held m 4 ((cs.toList.drop 1).take 1) = some (xs[1]'(by omega)) := by
    have h := each 1 _ rfl
    rw [List.getElem?_eq_getElem (by omega)] at h
    exact (cb ▸ h : _)
  have e2 : DataW.trod enc Tryd.prog w base spare held m 22 ((cs.toList.drop 2).take 8) = some (xs[2]'(by omega)) := by
    have h := each 2 _ rfl
    rw [List.getElem?_eq_getElem (by omega)] at h
    exact (c8 ▸ h : _)
  have e3 : DataW.trod enc Tryd.prog w base spare held m 23 ((cs.toList.drop 10).take 16) = some (xs[3]'(by omega)) := by
    have h := each 3 _ rfl
    rw [List.getElem?_eq_getElem (by omega)] at h
    exact (c16 ▸ h : _)
  have e4 : DataW.trod enc Tryd.prog w base spare held m 3 ((cs.toList.drop 26).take 1) = some (xs[4]'(by omega)) := by
    have h := each 4 _ rfl
    rw [List.getElem?_eq_getElem (by omega)] at h
    exact (ci ▸ h : _)
  have e5 : DataW.trod enc Tryd.prog w base spare held m 22 ((cs.toList.drop 27).take 8) = some (xs[5]'(by omega)) := by
    have h := each 5 _ rfl
    rw [List.getElem?_eq_getElem (by omega)] at h
    exact (c8 ▸ h : _)
  clear each hf hf' hl
  obtain ⟨l⟩ := cs
  simp only at e0 e1 e2 e3 e4 e5 hl35
  obtain ⟨z0, h0, _, _⟩ := DataW.trod_int Tryd.underlying3 e0
  obtain ⟨z1, h1, _⟩ := DataW.trod_bool Tryd.underlying4 e1
  obtain ⟨z2, l2, h2⟩ := arr_list Tryd.underlying22 Tryd.underlying3 ci c8 e2
  obtain ⟨z3, l3, h3⟩ := arr_list Tryd.underlying23 Tryd.underlying3 ci c16 e3
  obtain ⟨z4, h4, _, _⟩ := DataW.trod_int Tryd.underlying3 e4
  obtain ⟨z5, l5, h5⟩ := arr_list Tryd.underlying22 Tryd.underlying3 ci c8 e5
  refine ⟨⟨z0, z1, z2, z3, z4, z5⟩, ?_, ⟨l2, l3, l5⟩⟩
  congr 2
  have cut : ∀ a b : Nat, l.drop a = (l.drop a).take b ++ l.drop (a + b) := fun a b => by
    rw [← List.drop_drop, List.take_append_drop]
  have e : l = l.drop 0 := rfl
  rw [e, cut 0 1, h0, cut (0 + 1) 1, h1, cut (0 + 1 + 1) 8, h2, cut (0 + 1 + 1 + 8) 16, h3, cut (0 + 1 + 1 + 8 + 16) 1, h4, cut (0 + 1 + 1 + 8 + 16 + 1) 8, h5, List.drop_eq_nil_of_le (by omega)]
  simp [FR.cells]
end
end Go.Proofs.YtdcaiecgholgiaaDoor

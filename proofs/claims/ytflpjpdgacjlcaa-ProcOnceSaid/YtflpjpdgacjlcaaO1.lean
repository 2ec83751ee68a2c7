/- Arguments opened and shut again: arrays of numbers; lists of a known length; and that the program's own switch is not set. A frame as an argument: its cells are a frame's. A slice of structs of integers, as an argument: it reads as rows of numbers. Slices of structs of any make as arguments, or as parts of them. (tab/XOD has trod_rows, open_rows too: one or the other in a seat.) Slices of structs of any make as arguments, or as parts of them: rows/XOw's texts under names of their own, for seats without Ta. A guard, and a slice of guards, as arguments. -/
import Derived.Test.YtflpjpdgacjlcaaRows
import Derived.WalkKit
import Derived.ProofKit
import Derived.OpenShut
import Derived.Handy
import Derived.Lay
import Derived.LaidMore
import Derived.SevenTiedAt
import Derived.Stop.Joined
import Derived.Lib.LaidTab
import Derived.Test.YtflpjpdgacjlcaaP3
import Derived.Test.YtflpjpdgacjlcaaP1
import Derived.Deep.Slices
import Derived.Deep.Fields
import Derived.ChangeSame
namespace Go.Proofs.Ytflpjpdgacjlcaa
open Go.ChangeShapes Go.WideShapes Go.ChangeAt Go.RowKit
theorem laidOut : laidOutB Try.prog = true := by kernel_rfl
theorem own : ownKnob Try.prog.godebug = none := by kernel_rfl

theorem list_of_1 {α : Type} {l : List α} (h : l.length = 1) : ∃ a, l = [a] := by
  match l, h with
  | [a], _ => exact ⟨a, rfl⟩
theorem list_of_2 {α : Type} {l : List α} (h : l.length = 2) : ∃ a b, l = [a, b] := by
  match l, h with
  | [a, b], _ => exact ⟨a, b, rfl⟩
theorem list_of_3 {α : Type} {l : List α} (h : l.length = 3) : ∃ a b c, l = [a, b, c] := by
  match l, h with
  | [a, b, c], _ => exact ⟨a, b, c, rfl⟩
theorem list_of_4 {α : Type} {l : List α} (h : l.length = 4) : ∃ a b c d, l = [a, b, c, d] := by
  match l, h with
  | [a, b, c, d], _ => exact ⟨a, b, c, d, rfl⟩

section
variable {H : Type} {enc : TypeId × Value → H} {P : Program} {w : World}
theorem open_arr {spare : Nat → Bool} {held : Bool} {base : Nat} {r : Reach} {b0 : Nat} {t e : TypeId} {n : Nat} {k : IntKind} {v : Value} {d : DataW H} {ps : List MemPlace}
    (ht : P.underlying t = some (.array n e)) (he : P.underlying e = some (.int k)) (hce : P.cellsOf e = 1) (hct : P.cellsOf t = n)
    (hval : Value.okWide P w r b0 t v) (hd : DataW.Trod enc P w base spare held t v d ps) :
    ∃ zs : List Int, zs.length = n ∧ v = .agg (zs.map (Value.int k)).toArray ∧ (∀ z ∈ zs, (Lit.int k z).wf = true) ∧ d = .agg (zs.map fun z => .lit (.int k z)) ∧ ps = [] := by
  unfold Value.okWide at hval
  simp only [ht] at hval
  obtain ⟨cs, rfl, hsz, _⟩ := hval
  obtain ⟨fuel, hf⟩ := hd
  have hf' : DataW.trod enc P w base spare held fuel t cs.toList = some (d, ps) := hf
  obtain ⟨xs, m, rfl, hx, hcl, hxl, hel⟩ := DataW.trod_array ht hf'
  have key : ∀ i, i < n → ∃ z, cs.toList[i]? = some (.int k z) ∧ xs[i]? = some (.lit (.int k z), []) ∧ (Lit.int k z).wf = true := by
    intro i hi
    have h1 := hel i hi
    rw [hce, Nat.mul_one, List.getElem?_eq_getElem (by omega)] at h1
    obtain ⟨z, e1, e2, e3⟩ := DataW.trod_int he h1
    refine ⟨z, ?_, ?_, e3⟩
    · have h0 : ((cs.toList.drop i).take 1)[0]? = some (.int k z) := by rw [e1]; rfl
      simpa using h0
    · rw [List.getElem?_eq_getElem (by omega), e2]
  have hcn : cs.toList.length = n := by rw [hcl, hct]
  refine ⟨cs.toList.map (fun v => match v with | .int _ z => z | _ => 0), by simpa using hcn, ?_, ?_, ?_, ?_⟩
  · congr 1
    apply Array.toList_inj.1
    rw [List.map_map]
    apply List.ext_getElem?
    intro i
    by_cases hi : i < n
    · obtain ⟨z, h1, _, _⟩ := key i hi
      simp only [List.getElem?_map, h1, Option.map_some, Function.comp_apply]
    · rw [List.getElem?_eq_none (by omega), List.getElem?_eq_none (by simp at hcn ⊢; omega)]
  · intro z hz
    obtain ⟨v, hv, rfl⟩ := List.mem_map.1 hz
    obtain ⟨i, hi, rfl⟩ := List.getElem_of_mem hv
    obtain ⟨z, h1, _, h3⟩ := key i (by omega)
    rw [List.getElem?_eq_getElem hi] at h1
    rw [Option.some.inj h1]
    exact h3
  · have hx1 := (Prod.mk.inj hx).1
    rw [hx1]
    congr 1
    apply List.ext_getElem?
    intro i
    by_cases hi : i < n
    · obtain ⟨z, h1, h2, _⟩ := key i hi
      simp only [List.getElem?_map, h1, h2, Option.map_some]
    · rw [List.getElem?_eq_none (by simp; omega), List.getElem?_eq_none (by simp at hcn ⊢; omega)]
  · have hx2 := (Prod.mk.inj hx).2
    rw [hx2, List.flatMap_eq_nil_iff]
    intro x hxm
    obtain ⟨i, hi, rfl⟩ := List.getElem_of_mem hxm
    obtain ⟨z, _, h2, _⟩ := key i (by omega)
    rw [List.getElem?_eq_getElem hi] at h2
    rw [Option.some.inj h2]
end
end Go.Proofs.Ytflpjpdgacjlcaa

namespace Go.Proofs.Ytflpjpdgacjlcaa
open Go.ChangeShapes Go.WideShapes Go.ChangeAt Go.RowKit

section
variable {H : Type} {enc : TypeId × Value → H} {w : World} {base : Nat} {spare : Nat → Bool} {held : Bool}
theorem arr_list {P : Program} {n : Nat} {t e : TypeId} {k : IntKind} {fuel : Nat} {cs : List Value} {x : DataW H × List MemPlace} (ht : P.underlying t = some (.array n e)) (he : P.underlying e = some (.int k)) (hce : P.cellsOf e = 1) (hct : P.cellsOf t = n)
    (h : DataW.trod enc P w base spare held fuel t cs = some x) : ∃ zs : List Int, zs.length = n ∧ cs = zs.map (Value.int k) := by
  obtain ⟨xs, m, _, _, hcl, hxl, hel⟩ := DataW.trod_array ht h
  have key : ∀ i, i < n → ∃ z, cs[i]? = some (.int k z) := by
    intro i hi
    have h1 := hel i hi
    rw [hce, Nat.mul_one, List.getElem?_eq_getElem (by omega)] at h1
    obtain ⟨z, e1, _, _⟩ := DataW.trod_int he h1
    refine ⟨z, ?_⟩
    have h0 : ((cs.drop i).take 1)[0]? = some (.int k z) := by rw [e1]; rfl
    simpa using h0
  refine ⟨cs.map (fun v => match v with | .int _ z => z | _ => 0), by simp; omega, ?_⟩
  rw [List.map_map]
  apply List.ext_getElem?
  intro i
  by_cases hi : i < n
  · obtain ⟨z, h1⟩ := key i hi
    simp only [List.getElem?_map, h1, Option.map_some, Function.comp_apply]
  · rw [List.getElem?_eq_none (by omega), List.getElem?_eq_none (by simp; omega)]

theorem open_frame {r : Reach} {b0 : Nat} {v : Value} {d : DataW H} {ps : List MemPlace} (hval : Value.okWide Try.prog w r b0 63 v) (hd : DataW.Trod enc Try.prog w base spare held 63 v d ps) :
    ∃ f : FR, v = .agg f.cells.toArray ∧ f.Ok := by
  obtain ⟨cs, rfl, hsz⟩ := okWide_struct Try.underlying63 hval
  obtain ⟨fuel, hf⟩ := hd
  have hf' : DataW.trod enc Try.prog w base spare held fuel 63 cs.toList = some (d, ps) := hf
  obtain ⟨xs, m, _, _, hl, hxl, each⟩ := DataW.trod_struct Try.underlying63 hf'
  have hl35 : cs.toList.length = 35 := by rw [hl]; kernel_rfl
  have hx6 : xs.length = 6 := by rw [hxl]; rfl
  have ci : Try.prog.cellsOf 3 = 1 := by kernel_rfl
  have cb : Try.prog.cellsOf 4 = 1 := by kernel_rfl
  have c8 : Try.prog.cellsOf 60 = 8 := by kernel_rfl
  have c16 : Try.prog.cellsOf 61 = 16 := by kernel_rfl
  have e0 : DataW.trod enc Try.prog w base spare held m 3 ((cs.toList.drop 0).take 1) = some (xs[0]'(by omega)) := by
    have h := each 0 _ rfl
    rw [List.getElem?_eq_getElem (by omega)] at h
    exact (ci ▸ h : _)
  have e1 : DataW.trod enc Try.prog w base spare held m 4 ((cs.toList.drop 1).take 1) = some (xs[1]'(by omega)) := by
    have h := each 1 _ rfl
    rw [List.getElem?_eq_getElem (by omega)] at h
    exact (cb ▸ h : _)
  have e2 : DataW.trod enc Try.prog w base spare held m 60 ((cs.toList.drop 2).take 8) = some (xs[2]'(by omega)) := by
    have h := each 2 _ rfl
    rw [List.getElem?_eq_getElem (by omega)] at h
    exact (c8 ▸ h : _)
  have e3 : DataW.trod enc Try.prog w base spare held m 61 ((cs.toList.drop 10).take 16) = some (xs[3]'(by omega)) := by
    have h := each 3 _ rfl
    rw [List.getElem?_eq_getElem (by omega)] at h
    exact (c16 ▸ h : _)
  have e4 : DataW.trod enc Try.prog w base spare held m 3 ((cs.toList.drop 26).take 1) = some (xs[4]'(by omega)) := by
    have h := each 4 _ rfl
    rw [List.getElem?_eq_getElem (by omega)] at h
    exact (ci ▸ h : _)
  have e5 : DataW.trod enc Try.prog w base spare held m 60 ((cs.toList.drop 27).take 8) = some (xs[5]'(by omega)) := by
    have h := each 5 _ rfl
    rw [List.getElem?_eq_getElem (by omega)] at h
    exact (c8 ▸ h : _)
  clear each hf hf' hl
  obtain ⟨l⟩ := cs
  simp only at e0 e1 e2 e3 e4 e5 hl35
  obtain ⟨z0, h0, _, _⟩ := DataW.trod_int Try.underlying3 e0
  obtain ⟨z1, h1, _⟩ := DataW.trod_bool Try.underlying4 e1
  obtain ⟨z2, l2, h2⟩ := arr_list Try.underlying60 Try.underlying3 ci c8 e2
  obtain ⟨z3, l3, h3⟩ := arr_list Try.underlying61 Try.underlying3 ci c16 e3
  obtain ⟨z4, h4, _, _⟩ := DataW.trod_int Try.underlying3 e4
  obtain ⟨z5, l5, h5⟩ := arr_list Try.underlying60 Try.underlying3 ci c8 e5
  refine ⟨⟨z0, z1, z2, z3, z4, z5⟩, ?_, ⟨l2, l3, l5⟩⟩
  congr 2
  have cut : ∀ a b : Nat, l.drop a = (l.drop a).take b ++ l.drop (a + b) := fun a b => by
    rw [← List.drop_drop, List.take_append_drop]
  have e : l = l.drop 0 := rfl
  rw [e, cut 0 1, h0, cut (0 + 1) 1, h1, cut (0 + 1 + 1) 8, h2, cut (0 + 1 + 1 + 8) 16, h3, cut (0 + 1 + 1 + 8 + 16) 1, h4, cut (0 + 1 + 1 + 8 + 16 + 1) 8, h5, List.drop_eq_nil_of_le (by omega)]
  simp [FR.cells]
end
end Go.Proofs.Ytflpjpdgacjlcaa

namespace Go.Proofs.Ytflpjpdgacjlcaa
open Go.ChangeShapes Go.WideShapes Go.Deep Go.ChangeAt Go.RowKit

section
variable {H : Type} {enc : TypeId × Value → H} {P : Program} {w : World} {base : Nat} {spare : Nat → Bool} {held : Bool}
/-- A struct of ints, a cell each, read as data: its cells are numbers of the fields' kinds. -/
theorem ints_of_struct {e : TypeId} {fs : Array Field} {fuel : Nat} {cs : List Value} {x : DataW H × List MemPlace} (ks : List IntKind) (he : P.underlying e = some (.struct fs)) (hone : oneCellFields P fs = true)
    (hks : ∀ j, j < fs.size → ∃ f k, fs[j]? = some f ∧ ks[j]? = some k ∧ P.underlying f.type = some (.int k)) (h : DataW.trod enc P w base spare held fuel e cs = some x) :
    ∀ j, j < fs.size → ∃ z : Int, ∀ k, ks[j]? = some k → cs[j]? = some (.int k z) ∧ (Lit.int k z).wf = true := by
  obtain ⟨ys, m, -, -, -, hys, each⟩ := DataW.trod_struct he h
  intro j hj
  obtain ⟨f, k, hf, hk, hu⟩ := hks j hj
  have hcell := hone_of hone j f hf
  have hread := each j f hf
  rw [hcell.1, hcell.2, List.getElem?_eq_getElem (show j < ys.length by omega)] at hread
  obtain ⟨z, hz, -, hwf⟩ := DataW.trod_int hu hread
  refine ⟨z, fun k' hk' => ?_⟩
  obtain rfl : k = k' := Option.some.inj (hk.symm.trans hk')
  refine ⟨?_, hwf⟩
  have h0 : ((cs.drop j).take 1)[0]? = some (Value.int k z) := by rw [hz]; rfl
  simpa using h0

/-- A row of numbers, of the kinds ks, as cells. -/
def rowV (ks : List IntKind) (r : List Int) : List Value := List.zipWith Value.int ks r
def RowOk (ks : List IntKind) (r : List Int) : Prop := r.length = ks.length ∧ ∀ (j : Nat) (k : IntKind) (z : Int), ks[j]? = some k → r[j]? = some z → (Lit.int k z).wf = true
theorem rowV_len (ks : List IntKind) (r : List Int) (h : r.length = ks.length) : (rowV ks r).length = ks.length := by simp [rowV, h]

theorem flat_get_of {α β : Type} (f : α → List β) (m : Nat) : ∀ (l : List α), (∀ a ∈ l, (f a).length = m) → ∀ (k j : Nat) (s : α), l[k]? = some s → j < m → (l.flatMap f)[k * m + j]? = (f s)[j]?
  | [], _, k, j, s, h, _ => by simp at h
  | a :: l, hf, 0, j, s, h, hj => by
    obtain rfl : a = s := by simpa using h
    rw [List.flatMap_cons, List.getElem?_append_left (by rw [hf a (by simp)]; omega), Nat.zero_mul, Nat.zero_add]
  | a :: l, hf, k + 1, j, s, h, hj => by
    rw [List.flatMap_cons, List.getElem?_append_right (by rw [hf a (by simp), Nat.succ_mul]; omega), hf a (by simp), show (k + 1) * m + j - m = k * m + j by rw [Nat.succ_mul]; omega]
    exact flat_get_of f m l (fun b hb => hf b (by simp [hb])) k j s (by simpa using h) hj

theorem open_structs (ks : List IntKind) {r : Reach} {b0 : Nat} {t e : TypeId} {fs : Array Field} {v : Value} {d : DataW H} {ps : List MemPlace} (ht : P.underlying t = some (.slice e)) (he : P.underlying e = some (.struct fs))
    (hone : oneCellFields P fs = true) (hC : P.cellsOf e = fs.size) (hks : ∀ j, j < fs.size → ∃ f k, fs[j]? = some f ∧ ks[j]? = some k ∧ P.underlying f.type = some (.int k)) (hkl : ks.length = fs.size) (hpos : 0 < ks.length)
    (hval : Value.okWide P w r b0 t v) (hd : DataW.Trod enc P w base spare held t v d ps) :
    ∃ (A : Option Addr) (n c : Nat) (L : List (List Int)), v = .slice A n c ∧ n ≤ c ∧ c ≤ maxLen ∧ L.length = n ∧ (∀ r ∈ L, RowOk ks r) ∧ RD w (fun _ => True) ks.length A n (L.flatMap (rowV ks)) := by
  obtain ⟨fuel, hf⟩ := hd
  unfold Value.okWide at hval
  simp only [ht] at hval
  unfold Cell.okWide at hval
  simp only [ht] at hval
  unfold Cell.ok at hval
  simp only [ht] at hval
  have hv : v = .slice none 0 0 ∨ ∃ a len cap, v = .slice (some a) len cap := by
    split at hval
    all_goals first
      | exact .inl rfl
      | exact .inr ⟨_, _, _, rfl⟩
      | (exfalso; assumption)
      | simp_all
  rcases hv with rfl | ⟨a, len, cap, rfl⟩
  · exact ⟨none, 0, 0, [], rfl, Nat.le_refl _, by unfold maxLen; omega, rfl, by simp, RD.nil _ _ _ _⟩
  · have hf' : DataW.trod enc P w base spare held fuel t [.slice (some a) len cap] = some (d, ps) := hf
    rcases Go.Deep.open_slice ht hf' with ⟨h0, _⟩ | ⟨a', len', cap', m, fu, D, Pl, h1, -, hl, hm, hmm, -, hi⟩
    · cases h0
    · cases h1
      have hlm : len ≤ m := by
        rw [hmm]
        split
        · exact hl
        · exact Nat.le_refl _
      have hrow : ∀ i, i < len → ∃ r : List Int, RowOk ks r ∧ ∀ j u, (rowV ks r)[j]? = some u → w.cell? (a.add (i * fs.size + j)) = some u := by
        intro i hil
        obtain ⟨cs, hcs, htr⟩ := hi i (by omega)
        rw [hC] at hcs
        have hat := (World.cells?_some hcs).2.2
        obtain ⟨Z, hZ⟩ := choose_lt (ints_of_struct ks he hone hks htr)
        refine ⟨(List.range fs.size).map Z, ⟨by simp [hkl], fun j k z hk hz => ?_⟩, fun j u hu => ?_⟩
        · have hjl : j < fs.size := by rw [← hkl]; exact (List.getElem?_eq_some_iff.1 hk).1
          have : Z j = z := by simpa [hjl] using hz
          subst this
          exact (hZ j hjl k hk).2
        · unfold rowV at hu
          rw [List.getElem?_zipWith] at hu
          rcases hkj : ks[j]? with _ | k
          · simp [hkj] at hu
          · have hjl : j < fs.size := by rw [← hkl]; exact (List.getElem?_eq_some_iff.1 hkj).1
            simp [hkj, hjl] at hu
            subst hu
            rw [← Go.Deep.add_add, hat j hjl]
            exact (hZ j hjl k hkj).1
      obtain ⟨R, hR⟩ := choose_lt hrow
      refine ⟨some a, len, cap, (List.range len).map R, rfl, hl, hm, by simp, ?_, ?_, ?_⟩
      · intro r hr
        obtain ⟨i, hil, rfl⟩ := List.mem_map.1 hr
        exact (hR i (List.mem_range.1 hil)).1
      · have hlen : ∀ l : List (List Int), (∀ r ∈ l, RowOk ks r) → (l.flatMap (rowV ks)).length = l.length * ks.length := by
          intro l
          induction l with
          | nil => intro _; simp
          | cons r l ih =>
            intro h
            rw [List.flatMap_cons, List.length_append, ih (fun x hx => h x (by simp [hx])), rowV_len _ _ (h r (by simp)).1, List.length_cons, Nat.succ_mul]
            omega
        rw [hlen _ (fun r hr => by obtain ⟨i, hil, rfl⟩ := List.mem_map.1 hr; exact (hR i (List.mem_range.1 hil)).1)]
        simp
      · intro hn
        have hfs : 0 < fs.size := by omega
        have hc0 : ∃ u, w.cell? (a.add (0 * fs.size + 0)) = some u := by
          have h0 := hR 0 hn
          have hlr := rowV_len ks (R 0) h0.1.1
          exact ⟨_, h0.2 0 _ (List.getElem?_eq_getElem (by omega))⟩
        obtain ⟨u0, hu0⟩ := hc0
        have hsp := World.cell?_spot hu0
        obtain ⟨b, o, sp⟩ := a
        have hsp' : sp = none := by simpa [Addr.add] using hsp
        subst hsp'
        have hadd : ∀ j, (⟨b, o, none⟩ : Addr).add j = ⟨b, o + j, none⟩ := by
          intro j
          unfold Addr.add
          split
          · next h => subst h; rfl
          · rfl
        refine ⟨b, o, rfl, trivial, World.block_lt_of_cell? w ⟨b, o, none⟩ (by rw [hadd] at hu0; simpa using hu0), fun q u hu => ?_⟩
        have hq : q = q / ks.length * ks.length + q % ks.length := by
          have := Nat.div_add_mod q ks.length
          rw [Nat.mul_comm] at this
          omega
        have hmod : q % ks.length < ks.length := Nat.mod_lt _ hpos
        have hL : ∀ r ∈ (List.range len).map R, (rowV ks r).length = ks.length := by
          intro r hr
          obtain ⟨i, hil, rfl⟩ := List.mem_map.1 hr
          exact rowV_len _ _ (hR i (List.mem_range.1 hil)).1.1
        have hqlt : q < len * ks.length := by
          have h1 := (List.getElem?_eq_some_iff.1 hu).1
          have hlen : ∀ l : List (List Int), (∀ r ∈ l, (rowV ks r).length = ks.length) → (l.flatMap (rowV ks)).length = l.length * ks.length := by
            intro l
            induction l with
            | nil => intro _; simp
            | cons r l ih =>
              intro h
              rw [List.flatMap_cons, List.length_append, ih (fun x hx => h x (by simp [hx])), h r (by simp), List.length_cons, Nat.succ_mul]
              omega
          rw [hlen _ hL] at h1
          simpa using h1
        have hdiv : q / ks.length < len := Nat.div_lt_of_lt_mul (by rw [Nat.mul_comm]; exact hqlt)
        rw [hq, flat_get_of (rowV ks) ks.length _ hL (q / ks.length) (q % ks.length) (R (q / ks.length)) (by simp [hdiv]) hmod] at hu
        have := (hR (q / ks.length) hdiv).2 _ _ hu
        rw [hadd, ← hkl, ← hq] at this
        exact this
end
end Go.Proofs.Ytflpjpdgacjlcaa

namespace Go.Proofs.Ytflpjpdgacjlcaa
open Go.ChangeShapes Go.WideShapes Go.Deep Go.ChangeAt Go.RowKit

section
variable {H : Type} {enc : TypeId × Value → H} {P : Program} {w : World} {base : Nat} {spare : Nat → Bool} {held : Bool}
/-- A slice of elements of m cells each, read as data: it reads as a list. -/
theorem trod_rows {α : Type} [Inhabited α] (f : α → List Value) (m : Nat) (good : α → Prop) (hf : ∀ a, (f a).length = m) (hpos : 0 < m) {t e : TypeId} {fuel : Nat} {cs : List Value} {x : DataW H × List MemPlace} (ht : P.underlying t = some (.slice e)) (hC : P.cellsOf e = m)
    (hel : ∀ (fu : Nat) (cs : List Value) (x : DataW H × List MemPlace), DataW.trod enc P w base spare held fu e cs = some x → ∃ a, cs = f a ∧ good a) (h : DataW.trod enc P w base spare held fuel t cs = some x) :
    ∃ (A : Option Addr) (n c : Nat) (L : List α), cs = [.slice A n c] ∧ n ≤ c ∧ c ≤ maxLen ∧ L.length = n ∧ (∀ a ∈ L, good a) ∧ RD w (fun _ => True) m A n (L.flatMap f) := by
  rcases Go.Deep.open_slice ht h with ⟨rfl, _⟩ | ⟨a, len, cap, mm, fu, D, Pl, rfl, -, hl, hm, hmm, -, hi⟩
  · exact ⟨none, 0, 0, [], rfl, Nat.le_refl _, by unfold maxLen; omega, rfl, fun a ha => absurd ha (by simp), RD.nil _ _ _ _⟩
  · have hlm : len ≤ mm := by
      rw [hmm]
      split
      · exact hl
      · exact Nat.le_refl _
    have hrow : ∀ i, i < len → ∃ q : α, good q ∧ ∀ j u, (f q)[j]? = some u → w.cell? (a.add (i * m + j)) = some u := by
      intro i hil
      obtain ⟨cs, hcs, htr⟩ := hi i (by omega)
      rw [hC] at hcs
      have hat := (World.cells?_some hcs).2.2
      obtain ⟨q, hcc, hg⟩ := hel _ _ _ htr
      refine ⟨q, hg, fun j u hu => ?_⟩
      have hj : j < m := by
        have := (List.getElem?_eq_some_iff.1 hu).1
        rwa [hf] at this
      rw [← Go.Deep.add_add, hat j hj, hcc]
      exact hu
    obtain ⟨R, hR⟩ := choose_lt hrow
    refine ⟨some a, len, cap, (List.range len).map R, rfl, hl, hm, by simp, fun q hq => ?_, ?_, fun hn => ?_⟩
    · obtain ⟨i, hil, rfl⟩ := List.mem_map.1 hq
      exact (hR i (List.mem_range.1 hil)).1
    · rw [flatN f m hf]
      simp
    · have hu0 := (hR 0 hn).2 0 _ (List.getElem?_eq_getElem (show 0 < (f (R 0)).length by rw [hf]; omega))
      have hsp := World.cell?_spot hu0
      obtain ⟨b, o, sp⟩ := a
      have hsp' : sp = none := by simpa [Addr.add] using hsp
      subst hsp'
      have hadd : ∀ j, (⟨b, o, none⟩ : Addr).add j = ⟨b, o + j, none⟩ := by
        intro j
        unfold Addr.add
        split
        · next h => subst h; rfl
        · rfl
      refine ⟨b, o, rfl, trivial, World.block_lt_of_cell? w ⟨b, o, none⟩ (by rw [hadd] at hu0; simpa using hu0), fun q u hu => ?_⟩
      have hqlt : q < len * m := by
        have h1 := (List.getElem?_eq_some_iff.1 hu).1
        rw [flatN f m hf] at h1
        simpa using h1
      have hq : q = q / m * m + q % m := by
        have := Nat.div_add_mod q m
        rw [Nat.mul_comm] at this
        omega
      have hdl : q / m < len := Nat.div_lt_of_lt_mul (by rw [Nat.mul_comm]; exact hqlt)
      rw [← hadd, hq]
      refine (hR (q / m) hdl).2 (q % m) u ?_
      have hk : ((List.range len).map R)[q / m]? = some (R (q / m)) := by simp [hdl]
      rw [← flat_get f m hf _ _ _ _ hk (Nat.mod_lt _ hpos), ← hq]
      exact hu
/-- The same, of a whole argument. -/
theorem open_rows {α : Type} [Inhabited α] (f : α → List Value) (m : Nat) (good : α → Prop) (hf : ∀ a, (f a).length = m) (hpos : 0 < m) {r : Reach} {b0 : Nat} {t e : TypeId} {v : Value} {d : DataW H} {ps : List MemPlace} (ht : P.underlying t = some (.slice e)) (hC : P.cellsOf e = m)
    (hel : ∀ (fu : Nat) (cs : List Value) (x : DataW H × List MemPlace), DataW.trod enc P w base spare held fu e cs = some x → ∃ a, cs = f a ∧ good a) (hval : Value.okWide P w r b0 t v) (hd : DataW.Trod enc P w base spare held t v d ps) :
    ∃ (A : Option Addr) (n c : Nat) (L : List α), v = .slice A n c ∧ n ≤ c ∧ c ≤ maxLen ∧ L.length = n ∧ (∀ a ∈ L, good a) ∧ RD w (fun _ => True) m A n (L.flatMap f) := by
  obtain ⟨fuel, hf'⟩ := hd
  unfold Value.okWide at hval
  simp only [ht] at hval
  unfold Cell.okWide at hval
  simp only [ht] at hval
  unfold Cell.ok at hval
  simp only [ht] at hval
  have hv : v = .slice none 0 0 ∨ ∃ a len cap, v = .slice (some a) len cap := by
    split at hval
    all_goals first
      | exact .inl rfl
      | exact .inr ⟨_, _, _, rfl⟩
      | (exfalso; assumption)
      | simp_all
  have h1 : DataW.trod enc P w base spare held fuel t [v] = some (d, ps) := by
    rcases hv with rfl | ⟨a, len, cap, rfl⟩ <;> exact hf'
  obtain ⟨A, n, c, L, e1, h2⟩ := trod_rows f m good hf hpos ht hC hel h1
  exact ⟨A, n, c, L, by simpa using e1, h2⟩
end

end Go.Proofs.Ytflpjpdgacjlcaa

namespace Go.Proofs.Ytflpjpdgacjlcaa
open Go.ChangeShapes Go.WideShapes Go.Deep Go.ChangeAt Go.RowKit

theorem flatG {α β : Type} (f : α → List β) (m : Nat) (hf : ∀ a, (f a).length = m) : ∀ l : List α, (l.flatMap f).length = l.length * m
  | [] => by simp
  | a :: l => by rw [List.flatMap_cons, List.length_append, hf, flatG f m hf l, List.length_cons, Nat.succ_mul]; omega
section
variable {H : Type} {enc : TypeId × Value → H} {P : Program} {w : World} {base : Nat} {spare : Nat → Bool} {held : Bool}
/-- A slice of elements of m cells each, read as data: it reads as a list. -/
theorem trodG_rows {α : Type} [Inhabited α] (f : α → List Value) (m : Nat) (good : α → Prop) (hf : ∀ a, (f a).length = m) (hpos : 0 < m) {t e : TypeId} {fuel : Nat} {cs : List Value} {x : DataW H × List MemPlace} (ht : P.underlying t = some (.slice e)) (hC : P.cellsOf e = m)
    (hel : ∀ (fu : Nat) (cs : List Value) (x : DataW H × List MemPlace), DataW.trod enc P w base spare held fu e cs = some x → ∃ a, cs = f a ∧ good a) (h : DataW.trod enc P w base spare held fuel t cs = some x) :
    ∃ (A : Option Addr) (n c : Nat) (L : List α), cs = [.slice A n c] ∧ n ≤ c ∧ c ≤ maxLen ∧ L.length = n ∧ (∀ a ∈ L, good a) ∧ RD w (fun _ => True) m A n (L.flatMap f) := by
  rcases Go.Deep.open_slice ht h with ⟨rfl, _⟩ | ⟨a, len, cap, mm, fu, D, Pl, rfl, -, hl, hm, hmm, -, hi⟩
  · exact ⟨none, 0, 0, [], rfl, Nat.le_refl _, by unfold maxLen; omega, rfl, fun a ha => absurd ha (by simp), RD.nil _ _ _ _⟩
  · have hlm : len ≤ mm := by
      rw [hmm]
      split
      · exact hl
      · exact Nat.le_refl _
    have hrow : ∀ i, i < len → ∃ q : α, good q ∧ ∀ j u, (f q)[j]? = some u → w.cell? (a.add (i * m + j)) = some u := by
      intro i hil
      obtain ⟨cs, hcs, htr⟩ := hi i (by omega)
      rw [hC] at hcs
      have hat := (World.cells?_some hcs).2.2
      obtain ⟨q, hcc, hg⟩ := hel _ _ _ htr
      refine ⟨q, hg, fun j u hu => ?_⟩
      have hj : j < m := by
        have := (List.getElem?_eq_some_iff.1 hu).1
        rwa [hf] at this
      rw [← Go.Deep.add_add, hat j hj, hcc]
      exact hu
    obtain ⟨R, hR⟩ := choose_lt hrow
    refine ⟨some a, len, cap, (List.range len).map R, rfl, hl, hm, by simp, fun q hq => ?_, ?_, fun hn => ?_⟩
    · obtain ⟨i, hil, rfl⟩ := List.mem_map.1 hq
      exact (hR i (List.mem_range.1 hil)).1
    · rw [flatG f m hf]
      simp
    · have hu0 := (hR 0 hn).2 0 _ (List.getElem?_eq_getElem (show 0 < (f (R 0)).length by rw [hf]; omega))
      have hsp := World.cell?_spot hu0
      obtain ⟨b, o, sp⟩ := a
      have hsp' : sp = none := by simpa [Addr.add] using hsp
      subst hsp'
      have hadd : ∀ j, (⟨b, o, none⟩ : Addr).add j = ⟨b, o + j, none⟩ := by
        intro j
        unfold Addr.add
        split
        · next h => subst h; rfl
        · rfl
      refine ⟨b, o, rfl, trivial, World.block_lt_of_cell? w ⟨b, o, none⟩ (by rw [hadd] at hu0; simpa using hu0), fun q u hu => ?_⟩
      have hqlt : q < len * m := by
        have h1 := (List.getElem?_eq_some_iff.1 hu).1
        rw [flatG f m hf] at h1
        simpa using h1
      have hq : q = q / m * m + q % m := by
        have := Nat.div_add_mod q m
        rw [Nat.mul_comm] at this
        omega
      have hdl : q / m < len := Nat.div_lt_of_lt_mul (by rw [Nat.mul_comm]; exact hqlt)
      rw [← hadd, hq]
      refine (hR (q / m) hdl).2 (q % m) u ?_
      have hk : ((List.range len).map R)[q / m]? = some (R (q / m)) := by simp [hdl]
      rw [← flat_get f m hf _ _ _ _ hk (Nat.mod_lt _ hpos), ← hq]
      exact hu
/-- The same, of a whole argument. -/
theorem openG_rows {α : Type} [Inhabited α] (f : α → List Value) (m : Nat) (good : α → Prop) (hf : ∀ a, (f a).length = m) (hpos : 0 < m) {r : Reach} {b0 : Nat} {t e : TypeId} {v : Value} {d : DataW H} {ps : List MemPlace} (ht : P.underlying t = some (.slice e)) (hC : P.cellsOf e = m)
    (hel : ∀ (fu : Nat) (cs : List Value) (x : DataW H × List MemPlace), DataW.trod enc P w base spare held fu e cs = some x → ∃ a, cs = f a ∧ good a) (hval : Value.okWide P w r b0 t v) (hd : DataW.Trod enc P w base spare held t v d ps) :
    ∃ (A : Option Addr) (n c : Nat) (L : List α), v = .slice A n c ∧ n ≤ c ∧ c ≤ maxLen ∧ L.length = n ∧ (∀ a ∈ L, good a) ∧ RD w (fun _ => True) m A n (L.flatMap f) := by
  obtain ⟨fuel, hf'⟩ := hd
  unfold Value.okWide at hval
  simp only [ht] at hval
  unfold Cell.okWide at hval
  simp only [ht] at hval
  unfold Cell.ok at hval
  simp only [ht] at hval
  have hv : v = .slice none 0 0 ∨ ∃ a len cap, v = .slice (some a) len cap := by
    split at hval
    all_goals first
      | exact .inl rfl
      | exact .inr ⟨_, _, _, rfl⟩
      | (exfalso; assumption)
      | simp_all
  have h1 : DataW.trod enc P w base spare held fuel t [v] = some (d, ps) := by
    rcases hv with rfl | ⟨a, len, cap, rfl⟩ <;> exact hf'
  obtain ⟨A, n, c, L, e1, h2⟩ := trodG_rows f m good hf hpos ht hC hel h1
  exact ⟨A, n, c, L, by simpa using e1, h2⟩
end

end Go.Proofs.Ytflpjpdgacjlcaa

namespace Go.Proofs.Ytflpjpdgacjlcaa
open Go.ChangeShapes Go.WideShapes Go.Deep Go.ChangeAt Go.RowKit

instance : Inhabited GD := ⟨⟨0, 0, 0, 0, 0⟩⟩
section
variable {H : Type} {enc : TypeId × Value → H} {w : World} {base : Nat} {spare : Nat → Bool} {held : Bool}
set_option maxRecDepth 100000 in
theorem trod_gd {fu : Nat} {cs : List Value} {x : DataW H × List MemPlace} (h : DataW.trod enc Try.prog w base spare held fu 92 cs = some x) : ∃ g : GD, cs = gdC g ∧ True := by
  obtain ⟨xs, m', _, _, hl, hxl, each⟩ := DataW.trod_struct Try.underlying92 h
  have hl5 : cs.length = 5 := by rw [hl]; kernel_rfl
  have ci : Try.prog.cellsOf 3 = 1 := by kernel_rfl
  have hx5 : xs.length = 5 := by rw [hxl]; rfl
  obtain ⟨a, b, c, d, e, rfl⟩ : ∃ a b c d e, cs = [a, b, c, d, e] := by
    match cs, hl5 with
    | [a, b, c, d, e], _ => exact ⟨a, b, c, d, e, rfl⟩
  have e0 : DataW.trod enc Try.prog w base spare held m' 3 [a] = some (xs[0]'(by omega)) := by
    have h := each 0 _ rfl
    rw [List.getElem?_eq_getElem (by omega)] at h
    exact (ci ▸ h : _)
  have e1 : DataW.trod enc Try.prog w base spare held m' 3 [b] = some (xs[1]'(by omega)) := by
    have h := each 1 _ rfl
    rw [List.getElem?_eq_getElem (by omega)] at h
    exact (ci ▸ h : _)
  have e2 : DataW.trod enc Try.prog w base spare held m' 3 [c] = some (xs[2]'(by omega)) := by
    have h := each 2 _ rfl
    rw [List.getElem?_eq_getElem (by omega)] at h
    exact (ci ▸ h : _)
  have e3 : DataW.trod enc Try.prog w base spare held m' 3 [d] = some (xs[3]'(by omega)) := by
    have h := each 3 _ rfl
    rw [List.getElem?_eq_getElem (by omega)] at h
    exact (ci ▸ h : _)
  have e4 : DataW.trod enc Try.prog w base spare held m' 3 [e] = some (xs[4]'(by omega)) := by
    have h := each 4 _ rfl
    rw [List.getElem?_eq_getElem (by omega)] at h
    exact (ci ▸ h : _)
  obtain ⟨z0, h0, _, _⟩ := DataW.trod_int Try.underlying3 e0
  obtain ⟨z1, h1, _, _⟩ := DataW.trod_int Try.underlying3 e1
  obtain ⟨z2, h2, _, _⟩ := DataW.trod_int Try.underlying3 e2
  obtain ⟨z3, h3, _, _⟩ := DataW.trod_int Try.underlying3 e3
  obtain ⟨z4, h4, _, _⟩ := DataW.trod_int Try.underlying3 e4
  obtain rfl : a = .int .i64 z0 := by simpa using h0
  obtain rfl : b = .int .i64 z1 := by simpa using h1
  obtain rfl : c = .int .i64 z2 := by simpa using h2
  obtain rfl : d = .int .i64 z3 := by simpa using h3
  obtain rfl : e = .int .i64 z4 := by simpa using h4
  exact ⟨⟨z0, z1, z2, z3, z4⟩, rfl, trivial⟩
set_option maxRecDepth 100000 in
theorem open_gd {r : Reach} {b0 : Nat} {v : Value} {d : DataW H} {ps : List MemPlace} (hval : Value.okWide Try.prog w r b0 92 v) (hd : DataW.Trod enc Try.prog w base spare held 92 v d ps) :
    ∃ k o v' r' n : Int, v = .agg #[.int .i64 k, .int .i64 o, .int .i64 v', .int .i64 r', .int .i64 n] := by
  obtain ⟨cs, rfl, hsz⟩ := okWide_struct Try.underlying92 hval
  obtain ⟨fuel, hf⟩ := hd
  have hf' : DataW.trod enc Try.prog w base spare held fuel 92 cs.toList = some (d, ps) := hf
  obtain ⟨g, hg, _⟩ := trod_gd hf'
  obtain ⟨l⟩ := cs
  obtain rfl : l = gdC g := hg
  exact ⟨g.k, g.o, g.v, g.r, g.n, rfl⟩
set_option maxRecDepth 100000 in
theorem open_gds {r : Reach} {b0 : Nat} {v : Value} {d : DataW H} {ps : List MemPlace} (hval : Value.okWide Try.prog w r b0 64 v) (hd : DataW.Trod enc Try.prog w base spare held 64 v d ps) :
    ∃ (A : Option Addr) (n c : Nat) (L : List GD), v = .slice A n c ∧ L.length = n ∧ n ≤ c ∧ c ≤ maxLen ∧ RD w (fun _ => True) 5 A n (L.flatMap gdC) := by
  obtain ⟨A, n, c, L, rfl, h1, h2, h3, _, h5⟩ := openG_rows gdC 5 (fun _ => True) gdC_len (by omega) Try.underlying64 (by kernel_rfl) (fun _ _ _ h => trod_gd h) hval hd
  exact ⟨A, n, c, L, rfl, h3, h1, h2, h5⟩
end
end Go.Proofs.Ytflpjpdgacjlcaa

/- Arguments opened and shut again: arrays of numbers; lists of a known length; and that the program's own switch is not set. Parts of an argument: a slice of integers and a bool, as cells of a struct. A channel as an argument. A slice of structs of integers, as an argument: it reads as rows of numbers. Slices of structs of any make as arguments, or as parts of them: rows/XOw's texts under names of their own, for seats without Ta. A guard, and a slice of guards, as arguments. Slices of structs as arguments, or as parts of them: a table of channels, confs, guards; an offer. A document's barrier as an argument. Slices of structs of any make as arguments, or as parts of them. (tab/XOD has trod_rows, open_rows too: one or the other in a seat.) Arguments of layer 23: tables, what barriers are to be, offers. The library's table, out of a row's laid premise. -/
import Derived.Test.YtdiiilnebepfdaaGreatDoorRows
import Derived.WalkKit
import Derived.ProofKit
import Derived.OpenShut
import Derived.Handy
import Derived.Lay
import Derived.LaidMore
import Derived.SevenTiedAt
import Derived.Stop.Joined
import Derived.Lib.LaidTab
import Derived.Test.YtdiiilnebepfdaaGreatDoorA1
import Derived.ChangeSlices
import Derived.ChangeSame
import Derived.Test.YtdiiilnebepfdaaGreatDoorC1
import Derived.Deep.Slices
import Derived.Deep.Fields
import Derived.Test.YtdiiilnebepfdaaGreatDoorC2
import Derived.Test.YtdiiilnebepfdaaGreatDoorD4
import Derived.Test.YtdiiilnebepfdaaGreatDoorD6
import Derived.Test.YtdiiilnebepfdaaGreatDoorD3
import Derived.Test.YtdiiilnebepfdaaGreatDoorD1
import Derived.Stop.LaidErr
namespace Go.Proofs.YtdiiilnebepfdaaGreatDoor
open Go.ChangeShapes Go.WideShapes Go.ChangeAt Go.RowKit
theorem laidOut : laidOutB Tryz.prog = true := by kernel_rfl
theorem own : ownKnob Tryz.prog.godebug = none := by kernel_rfl

theorem list_of_4 {α : Type} {l : List α} (h : l.length = 4) : ∃ a b c d, l = [a, b, c, d] := by
  match l, h with
  | [a, b, c, d], _ => exact ⟨a, b, c, d, rfl⟩

section
variable {H : Type} {enc : TypeId × Value → H} {P : Program} {w : World}
end
end Go.Proofs.YtdiiilnebepfdaaGreatDoor

namespace Go.Proofs.YtdiiilnebepfdaaGreatDoor
open Go.ChangeShapes Go.WideShapes Go.ChangeAt Go.RowKit

section
variable {H : Type} {enc : TypeId × Value → H} {P : Program} {w : World} {base : Nat} {spare : Nat → Bool} {held : Bool}
theorem trod_intl (k : IntKind) {t e : TypeId} {fuel : Nat} {cs : List Value} {x : DataW H × List MemPlace} (ht : P.underlying t = some (.slice e)) (he : P.underlying e = some (.int k)) (hce : P.cellsOf e = 1)
    (h : DataW.trod enc P w base spare held fuel t cs = some x) :
    ∃ (A : Option Addr) (n c : Nat) (L : List Int), cs = [.slice A n c] ∧ n ≤ c ∧ c ≤ maxLen ∧ L.length = n ∧ (∀ z ∈ L, (Lit.int k z).wf = true) ∧ RD w (fun _ => True) 1 A n (L.map (Value.int k)) := by
  rcases open_ints ht he hce h with ⟨rfl, _⟩ | ⟨a, len, cap, zs, rfl, -, hl, hm, hzl, -, hat, hwf⟩
  · exact ⟨none, 0, 0, [], rfl, Nat.le_refl _, by unfold maxLen; omega, rfl, by simp, RD.nil _ _ _ _⟩
  · have hlz : len ≤ zs.length := by
      rw [hzl]
      split
      · exact hl
      · exact Nat.le_refl _
    refine ⟨some a, len, cap, zs.take len, rfl, hl, hm, by rw [List.length_take]; omega, fun z hz => hwf z (List.mem_of_mem_take hz), by rw [List.length_map, List.length_take]; omega, fun hn => ?_⟩
    have h0 := hat 0 (by omega)
    have hsp := World.cell?_spot h0
    obtain ⟨b, o, sp⟩ := a
    have hsp' : sp = none := by simpa [Addr.add] using hsp
    subst hsp'
    have hadd : ∀ j, (⟨b, o, none⟩ : Addr).add j = ⟨b, o + j, none⟩ := by
      intro j
      unfold Addr.add
      split
      · next h => subst h; rfl
      · rfl
    refine ⟨b, o, rfl, trivial, World.block_lt_of_cell? w ⟨b, o, none⟩ (by rw [hadd] at h0; simpa using h0), fun q u hu => ?_⟩
    have hq : q < len := by
      have := (List.getElem?_eq_some_iff.1 hu).1
      simp at this
      omega
    have hz := hat q (by omega)
    rw [hadd] at hz
    rw [hz]
    simp [hq] at hu
    obtain ⟨z, hz1, rfl⟩ := hu
    simp [List.getD, hz1]
end
end Go.Proofs.YtdiiilnebepfdaaGreatDoor

namespace Go.Proofs.YtdiiilnebepfdaaGreatDoor
open Go.ChangeShapes Go.WideShapes Go.ChangeAt Go.RowKit

section
variable {H : Type} {enc : TypeId × Value → H} {w : World} {base : Nat} {spare : Nat → Bool} {held : Bool}
set_option maxRecDepth 100000 in
theorem trod_conf18 {m : Nat} {a b c d : Value} {x : DataW H × List MemPlace} (h : DataW.trod enc Tryz.prog w base spare held m 73 [a, b, c, d] = some x) :
    ∃ k r i o : Int, a = .int .i64 k ∧ b = .int .i64 r ∧ c = .int .i64 i ∧ d = .int .i64 o := by
  obtain ⟨xs, m', _, _, _, hxl, each⟩ := DataW.trod_struct Tryz.underlying73 h
  have ci : Tryz.prog.cellsOf 3 = 1 := by kernel_rfl
  have hx4 : xs.length = 4 := by rw [hxl]; rfl
  have e0 : DataW.trod enc Tryz.prog w base spare held m' 3 [a] = some (xs[0]'(by omega)) := by
    have h := each 0 _ rfl
    rw [List.getElem?_eq_getElem (by omega)] at h
    exact (ci ▸ h : _)
  have e1 : DataW.trod enc Tryz.prog w base spare held m' 3 [b] = some (xs[1]'(by omega)) := by
    have h := each 1 _ rfl
    rw [List.getElem?_eq_getElem (by omega)] at h
    exact (ci ▸ h : _)
  have e2 : DataW.trod enc Tryz.prog w base spare held m' 3 [c] = some (xs[2]'(by omega)) := by
    have h := each 2 _ rfl
    rw [List.getElem?_eq_getElem (by omega)] at h
    exact (ci ▸ h : _)
  have e3 : DataW.trod enc Tryz.prog w base spare held m' 3 [d] = some (xs[3]'(by omega)) := by
    have h := each 3 _ rfl
    rw [List.getElem?_eq_getElem (by omega)] at h
    exact (ci ▸ h : _)
  obtain ⟨z0, h0, _, _⟩ := DataW.trod_int Tryz.underlying3 e0
  obtain ⟨z1, h1, _, _⟩ := DataW.trod_int Tryz.underlying3 e1
  obtain ⟨z2, h2, _, _⟩ := DataW.trod_int Tryz.underlying3 e2
  obtain ⟨z3, h3, _, _⟩ := DataW.trod_int Tryz.underlying3 e3
  exact ⟨z0, z1, z2, z3, by simpa using h0, by simpa using h1, by simpa using h2, by simpa using h3⟩
end
end Go.Proofs.YtdiiilnebepfdaaGreatDoor

namespace Go.Proofs.YtdiiilnebepfdaaGreatDoor
open Go.ChangeShapes Go.WideShapes Go.Deep Go.ChangeAt Go.RowKit

section
variable {H : Type} {enc : TypeId × Value → H} {P : Program} {w : World} {base : Nat} {spare : Nat → Bool} {held : Bool}

end
end Go.Proofs.YtdiiilnebepfdaaGreatDoor

namespace Go.Proofs.YtdiiilnebepfdaaGreatDoor
open Go.ChangeShapes Go.WideShapes Go.Deep Go.ChangeAt Go.RowKit

section
variable {H : Type} {enc : TypeId × Value → H} {P : Program} {w : World} {base : Nat} {spare : Nat → Bool} {held : Bool}
end

end Go.Proofs.YtdiiilnebepfdaaGreatDoor

namespace Go.Proofs.YtdiiilnebepfdaaGreatDoor
open Go.ChangeShapes Go.WideShapes Go.Deep Go.ChangeAt Go.RowKit

instance : Inhabited GD := ⟨⟨0, 0, 0, 0, 0⟩⟩
section
variable {H : Type} {enc : TypeId × Value → H} {w : World} {base : Nat} {spare : Nat → Bool} {held : Bool}
set_option maxRecDepth 100000 in
theorem trod_gd {fu : Nat} {cs : List Value} {x : DataW H × List MemPlace} (h : DataW.trod enc Tryz.prog w base spare held fu 63 cs = some x) : ∃ g : GD, cs = gdC g ∧ True := by
  obtain ⟨xs, m', _, _, hl, hxl, each⟩ := DataW.trod_struct Tryz.underlying63 h
  have hl5 : cs.length = 5 := by rw [hl]; kernel_rfl
  have ci : Tryz.prog.cellsOf 3 = 1 := by kernel_rfl
  have hx5 : xs.length = 5 := by rw [hxl]; rfl
  obtain ⟨a, b, c, d, e, rfl⟩ : ∃ a b c d e, cs = [a, b, c, d, e] := by
    match cs, hl5 with
    | [a, b, c, d, e], _ => exact ⟨a, b, c, d, e, rfl⟩
  have e0 : DataW.trod enc Tryz.prog w base spare held m' 3 [a] = some (xs[0]'(by omega)) := by
    have h := each 0 _ rfl
    rw [List.getElem?_eq_getElem (by omega)] at h
    exact (ci ▸ h : _)
  have e1 : DataW.trod enc Tryz.prog w base spare held m' 3 [b] = some (xs[1]'(by omega)) := by
    have h := each 1 _ rfl
    rw [List.getElem?_eq_getElem (by omega)] at h
    exact (ci ▸ h : _)
  have e2 : DataW.trod enc Tryz.prog w base spare held m' 3 [c] = some (xs[2]'(by omega)) := by
    have h := each 2 _ rfl
    rw [List.getElem?_eq_getElem (by omega)] at h
    exact (ci ▸ h : _)
  have e3 : DataW.trod enc Tryz.prog w base spare held m' 3 [d] = some (xs[3]'(by omega)) := by
    have h := each 3 _ rfl
    rw [List.getElem?_eq_getElem (by omega)] at h
    exact (ci ▸ h : _)
  have e4 : DataW.trod enc Tryz.prog w base spare held m' 3 [e] = some (xs[4]'(by omega)) := by
    have h := each 4 _ rfl
    rw [List.getElem?_eq_getElem (by omega)] at h
    exact (ci ▸ h : _)
  obtain ⟨z0, h0, _, _⟩ := DataW.trod_int Tryz.underlying3 e0
  obtain ⟨z1, h1, _, _⟩ := DataW.trod_int Tryz.underlying3 e1
  obtain ⟨z2, h2, _, _⟩ := DataW.trod_int Tryz.underlying3 e2
  obtain ⟨z3, h3, _, _⟩ := DataW.trod_int Tryz.underlying3 e3
  obtain ⟨z4, h4, _, _⟩ := DataW.trod_int Tryz.underlying3 e4
  obtain rfl : a = .int .i64 z0 := by simpa using h0
  obtain rfl : b = .int .i64 z1 := by simpa using h1
  obtain rfl : c = .int .i64 z2 := by simpa using h2
  obtain rfl : d = .int .i64 z3 := by simpa using h3
  obtain rfl : e = .int .i64 z4 := by simpa using h4
  exact ⟨⟨z0, z1, z2, z3, z4⟩, rfl, trivial⟩
end
end Go.Proofs.YtdiiilnebepfdaaGreatDoor

namespace Go.Proofs.YtdiiilnebepfdaaGreatDoor
open Go.ChangeShapes Go.WideShapes Go.Deep Go.ChangeAt Go.RowKit

instance : Inhabited CF := ⟨⟨0, 0, 0, 0⟩⟩
section
variable {H : Type} {enc : TypeId × Value → H} {P : Program} {w : World} {base : Nat} {spare : Nat → Bool} {held : Bool}
/-- A slice of elements of m cells each, read as data: it reads as a list. -/
theorem ct_trod_rows {α : Type} [Inhabited α] (f : α → List Value) (m : Nat) (good : α → Prop) (hf : ∀ a, (f a).length = m) (hpos : 0 < m) {t e : TypeId} {fuel : Nat} {cs : List Value} {x : DataW H × List MemPlace} (ht : P.underlying t = some (.slice e)) (hC : P.cellsOf e = m)
    (hel : ∀ (fu : Nat) (cs : List Value) (x : DataW H × List MemPlace), DataW.trod enc P w base spare held fu e cs = some x → ∃ a, cs = f a ∧ good a) (h : DataW.trod enc P w base spare held fuel t cs = some x) :
    ∃ (A : Option Addr) (n c : Nat) (L : List α), cs = [.slice A n c] ∧ n ≤ c ∧ c ≤ maxLen ∧ L.length = n ∧ (∀ a ∈ L, good a) ∧ RD w (fun _ => True) m A n (L.flatMap f) := by
  rcases Go.Deep.open_slice ht h with ⟨rfl, _⟩ | ⟨a, len, cap, mm, fu, D, Pl, rfl, -, hl, hm, hmm, -, hi⟩
  · exact ⟨none, 0, 0, [], rfl, Nat.le_refl _, by unfold maxLen; omega, rfl, fun a ha => absurd ha (by simp), RD.nil _ _ _ _⟩
  · have hlm : len ≤ mm := by
      rw [hmm]
      split
      · exact hl
      · exact Nat.le_refl _
    have hrow : ∀ i, i < len → ∃ q : α, good q ∧ ∀ j u, (f q)[j]? = some u → w.cell? (a.add (i * m + j)) = some u := by
      intro i hil
      obtain ⟨cs, hcs, htr⟩ := hi i (by omega)
      rw [hC] at hcs
      have hat := (World.cells?_some hcs).2.2
      obtain ⟨q, hcc, hg⟩ := hel _ _ _ htr
      refine ⟨q, hg, fun j u hu => ?_⟩
      have hj : j < m := by
        have := (List.getElem?_eq_some_iff.1 hu).1
        rwa [hf] at this
      rw [← Go.Deep.add_add, hat j hj, hcc]
      exact hu
    obtain ⟨R, hR⟩ := choose_lt hrow
    refine ⟨some a, len, cap, (List.range len).map R, rfl, hl, hm, by simp, fun q hq => ?_, ?_, fun hn => ?_⟩
    · obtain ⟨i, hil, rfl⟩ := List.mem_map.1 hq
      exact (hR i (List.mem_range.1 hil)).1
    · rw [flat_len f m hf]
      simp
    · have hu0 := (hR 0 hn).2 0 _ (List.getElem?_eq_getElem (show 0 < (f (R 0)).length by rw [hf]; omega))
      have hsp := World.cell?_spot hu0
      obtain ⟨b, o, sp⟩ := a
      have hsp' : sp = none := by simpa [Addr.add] using hsp
      subst hsp'
      have hadd : ∀ j, (⟨b, o, none⟩ : Addr).add j = ⟨b, o + j, none⟩ := by
        intro j
        unfold Addr.add
        split
        · next h => subst h; rfl
        · rfl
      refine ⟨b, o, rfl, trivial, World.block_lt_of_cell? w ⟨b, o, none⟩ (by rw [hadd] at hu0; simpa using hu0), fun q u hu => ?_⟩
      have hqlt : q < len * m := by
        have h1 := (List.getElem?_eq_some_iff.1 hu).1
        rw [flat_len f m hf] at h1
        simpa using h1
      have hq : q = q / m * m + q % m := by
        have := Nat.div_add_mod q m
        rw [Nat.mul_comm] at this
        omega
      have hdl : q / m < len := Nat.div_lt_of_lt_mul (by rw [Nat.mul_comm]; exact hqlt)
      rw [← hadd, hq]
      refine (hR (q / m) hdl).2 (q % m) u ?_
      have hk : ((List.range len).map R)[q / m]? = some (R (q / m)) := by simp [hdl]
      rw [← flat_get f m hf _ _ _ _ hk (Nat.mod_lt _ hpos), ← hq]
      exact hu
end

section
variable {H : Type} {enc : TypeId × Value → H} {w : World} {base : Nat} {spare : Nat → Bool} {held : Bool}
set_option maxRecDepth 100000 in
theorem trod_cf {fu : Nat} {cs : List Value} {x : DataW H × List MemPlace} (h : DataW.trod enc Tryz.prog w base spare held fu 73 cs = some x) : ∃ c : CF, cs = ctCfC c ∧ True := by
  have hl : cs.length = 4 := by
    obtain ⟨xs, m, _, _, hl, _⟩ := DataW.trod_struct Tryz.underlying73 h
    rw [hl]; kernel_rfl
  obtain ⟨a, b, c, d, rfl⟩ := list_of_4 hl
  obtain ⟨k, r, i, o, rfl, rfl, rfl, rfl⟩ := trod_conf18 h
  exact ⟨⟨k, r, i, o⟩, rfl, trivial⟩
end
end Go.Proofs.YtdiiilnebepfdaaGreatDoor

namespace Go.Proofs.YtdiiilnebepfdaaGreatDoor
open Go.ChangeShapes Go.WideShapes Go.ChangeAt Go.RowKit

section
variable {H : Type} {enc : TypeId × Value → H} {w : World} {base : Nat} {spare : Nat → Bool} {held : Bool}
set_option maxRecDepth 100000 in
theorem trod_conf22 {m : Nat} {a b : Value} {x : DataW H × List MemPlace} (h : DataW.trod enc Tryz.prog w base spare held m 109 [a, b] = some x) :
    ∃ (al : Bool) (l : Int), a = .bool al ∧ b = .int .i64 l := by
  obtain ⟨y0, y1, m', _, _, e0, e1⟩ := trod_struct2 Tryz.underlying109 h
  have ci : Tryz.prog.cellsOf 3 = 1 := by kernel_rfl
  have cb : Tryz.prog.cellsOf 4 = 1 := by kernel_rfl
  have f0 : DataW.trod enc Tryz.prog w base spare held m' 4 ((([a, b] : List Value).drop 0).take 1) = some y0 := (cb ▸ e0 : _)
  have f1 : DataW.trod enc Tryz.prog w base spare held m' 3 ((([a, b] : List Value).drop 1).take 1) = some y1 := (ci ▸ e1 : _)
  have e0' : DataW.trod enc Tryz.prog w base spare held m' 4 [a] = some y0 := f0
  have e1' : DataW.trod enc Tryz.prog w base spare held m' 3 [b] = some y1 := f1
  obtain ⟨z0, h0, _⟩ := DataW.trod_bool Tryz.underlying4 e0'
  obtain ⟨z1, h1, _, _⟩ := DataW.trod_int Tryz.underlying3 e1'
  exact ⟨z0, z1, by simpa using h0, by simpa using h1⟩
end
end Go.Proofs.YtdiiilnebepfdaaGreatDoor

namespace Go.Proofs.YtdiiilnebepfdaaGreatDoor
open Go.ChangeShapes Go.WideShapes Go.Deep Go.ChangeAt Go.RowKit

section
variable {H : Type} {enc : TypeId × Value → H} {P : Program} {w : World} {base : Nat} {spare : Nat → Bool} {held : Bool}
end

end Go.Proofs.YtdiiilnebepfdaaGreatDoor

namespace Go.Proofs.YtdiiilnebepfdaaGreatDoor
open Go.ChangeShapes Go.WideShapes Go.Deep Go.ChangeAt Go.RowKit

instance : Inhabited RB := ⟨⟨false, 0, none, 0, [], none, 0, [], 0⟩⟩
section
variable {H : Type} {enc : TypeId × Value → H} {w : World} {base : Nat} {spare : Nat → Bool} {held : Bool}
end
end Go.Proofs.YtdiiilnebepfdaaGreatDoor

namespace Go.Proofs.YtdiiilnebepfdaaGreatDoor
open Go.RowKit

theorem tab_eq : (Rows.laid_math_bits_deBruijn64tab : DataW Unit) = Lib.tabData .u8 (Lib.deBruijn64tab.map fun n : Nat => (n : Int)) := by kernel_rfl
theorem tab_of {W : World} (h : laidMetH Tryz.prog [("math/bits.deBruijn64tab", Rows.laid_math_bits_deBruijn64tab)] W) : TabD W := by
  rw [MakeChecks.laidMetH_plain _ _ _ (by kernel_rfl)] at h
  rw [tab_eq] at h
  have := Lib.tabIs_of_head (g := 0) (by kernel_rfl) (by kernel_rfl) Tryz.underlying225 Tryz.underlying5 (by kernel_rfl) (by kernel_rfl) h
  intro j hj
  unfold Lib.TabIs World.var? at this
  rw [show Tryz.prog.globalNamed "math/bits.deBruijn64tab" = some 0 by kernel_rfl] at this
  simp only [Option.bind_some] at this
  split at this
  · next cs t r hh =>
    obtain rfl := Option.some.inj this
    have hl : Lib.deBruijn64tab.length = 64 := rfl
    have hg : (Lib.deBruijn64tab.map fun n : Nat => Value.int .u8 (n : Int))[j]? = some (.int .u8 (Lib.deBruijn64tab.getD j 0)) := by
      rw [List.getElem?_map, List.getElem?_eq_getElem (by omega)]
      simp [List.getD, hl, hj]
    simp only [World.cell?, hh, List.map_map]
    simpa [Function.comp_def] using hg
  · cases this
end Go.Proofs.YtdiiilnebepfdaaGreatDoor

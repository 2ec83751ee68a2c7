/- Slices of structs as arguments, or as parts of them: a table of channels, confs, guards; an offer. -/
import Derived.Test.YtnmjjemkaamcfaaOC
import Derived.Test.YtnmjjemkaamcfaaOS
import Derived.Test.YtnmjjemkaamcfaaYb
namespace Go.Proofs.Ytnmjjemkaamcfaa
open Go.ChangeShapes Go.WideShapes Go.Deep Go.ChangeAt Go.RowKit

instance : Inhabited CF := ⟨⟨0, 0, 0, 0⟩⟩
instance : Inhabited GD := ⟨⟨0, 0, 0, 0, 0⟩⟩
section
variable {H : Type} {enc : TypeId × Value → H} {P : Program} {w : World} {base : Nat} {spare : Nat → Bool} {held : Bool}
/-- A slice of elements of m cells each, read as data: it reads as a list. -/
theorem trod_rows {α : Type} [Inhabited α] (f : α → List Value) (m : Nat) (good : α → Prop) (hf : ∀ a, (f a).length = m) (hpos : 0 < m) {t e : TypeId} {fuel : Nat} {cs : List Value} {x : DataW H × List MemPlace} (ht : P.underlying t = some (.slice e)) (hC : P.cellsOf e = m)
    (hel : ∀ (fu : Nat) (cs : List Value) (x : DataW H × List MemPlace), DataW.trod enc P w base spare held fu e cs = some x → ∃ a, cs = f a ∧ good a) (h : DataW.trod enc P w base spare held fuel t cs = some x) :
    ∃ (A : Option Addr) (n c : Nat) (L : List α), cs = [.slice A n c] ∧ n ≤ c ∧ c ≤ maxLen ∧ L.length = n ∧ (∀ a ∈ L, good a) ∧ RD w (fun _ => True) m A n (L.flatMap f) := by
  rcases Go.Deep.open_slice ht h with ⟨rfl, _⟩ | ⟨a, len, cap, mm, fu, D, Pl, rfl, -, hl, hm, hmm, -, hi⟩
  · exact ⟨none, 0, 0, [], rfl, Nat.le_refl _, by unfold maxLen; omega, rfl, fun a ha => absurd ha (by simp), RD.nil _ _ _ _⟩
  · have hlm : len ≤ mm := by
      rw [hmm]
      split
      · exact hl
      · exact Nat.le_refl _
    have hrow : ∀ i, i < len → ∃ q : α, good q ∧ ∀ j u, (f q)[j]? = some u → w.cell? (a.add (i * m + j)) = some u := by
      intro i hil
      obtain ⟨cs, hcs, htr⟩ := hi i (by omega)
      rw [hC] at hcs
      have hat := (World.cells?_some hcs).2.2
      obtain ⟨q, hcc, hg⟩ := hel _ _ _ htr
      refine ⟨q, hg, fun j u hu => ?_⟩
      have hj : j < m := by
        have := (List.getElem?_eq_some_iff.1 hu).1
        rwa [hf] at this
      rw [← Go.Deep.add_add, hat j hj, hcc]
      exact hu
    obtain ⟨R, hR⟩ := choose_lt hrow
    refine ⟨some a, len, cap, (List.range len).map R, rfl, hl, hm, by simp, fun q hq => ?_, ?_, fun hn => ?_⟩
    · obtain ⟨i, hil, rfl⟩ := List.mem_map.1 hq
      exact (hR i (List.mem_range.1 hil)).1
    · rw [flat_len f m hf]
      simp
    · have hu0 := (hR 0 hn).2 0 _ (List.getElem?_eq_getElem (show 0 < (f (R 0)).length by rw [hf]; omega))
      have hsp := World.cell?_spot hu0
      obtain ⟨b, o, sp⟩ := a
      have hsp' : sp = none := by simpa [Addr.add] using hsp
      subst hsp'
      have hadd : ∀ j, (⟨b, o, none⟩ : Addr).add j = ⟨b, o + j, none⟩ := by
        intro j
        unfold Addr.add
        split
        · next h => subst h; rfl
        · rfl
      refine ⟨b, o, rfl, trivial, World.block_lt_of_cell? w ⟨b, o, none⟩ (by rw [hadd] at hu0; simpa using hu0), fun q u hu => ?_⟩
      have hqlt : q < len * m := by
        have h1 := (List.getElem?_eq_some_iff.1 hu).1
        rw [flat_len f m hf] at h1
        simpa using h1
      have hq : q = q / m * m + q % m := by
        have := Nat.div_add_mod q m
        rw [Nat.mul_comm] at this
        omega
      have hdl : q / m < len := Nat.div_lt_of_lt_mul (by rw [Nat.mul_comm]; exact hqlt)
      rw [← hadd, hq]
      refine (hR (q / m) hdl).2 (q % m) u ?_
      have hk : ((List.range len).map R)[q / m]? = some (R (q / m)) := by simp [hdl]
      rw [← flat_get f m hf _ _ _ _ hk (Nat.mod_lt _ hpos), ← hq]
      exact hu
/-- The same, of a whole argument. -/
theorem open_rows {α : Type} [Inhabited α] (f : α → List Value) (m : Nat) (good : α → Prop) (hf : ∀ a, (f a).length = m) (hpos : 0 < m) {r : Reach} {b0 : Nat} {t e : TypeId} {v : Value} {d : DataW H} {ps : List MemPlace} (ht : P.underlying t = some (.slice e)) (hC : P.cellsOf e = m)
    (hel : ∀ (fu : Nat) (cs : List Value) (x : DataW H × List MemPlace), DataW.trod enc P w base spare held fu e cs = some x → ∃ a, cs = f a ∧ good a) (hval : Value.okWide P w r b0 t v) (hd : DataW.Trod enc P w base spare held t v d ps) :
    ∃ (A : Option Addr) (n c : Nat) (L : List α), v = .slice A n c ∧ n ≤ c ∧ c ≤ maxLen ∧ L.length = n ∧ (∀ a ∈ L, good a) ∧ RD w (fun _ => True) m A n (L.flatMap f) := by
  obtain ⟨fuel, hf'⟩ := hd
  unfold Value.okWide at hval
  simp only [ht] at hval
  unfold Cell.okWide at hval
  simp only [ht] at hval
  unfold Cell.ok at hval
  simp only [ht] at hval
  have hv : v = .slice none 0 0 ∨ ∃ a len cap, v = .slice (some a) len cap := by
    split at hval
    all_goals first
      | exact .inl rfl
      | exact .inr ⟨_, _, _, rfl⟩
      | (exfalso; assumption)
      | simp_all
  have h1 : DataW.trod enc P w base spare held fuel t [v] = some (d, ps) := by
    rcases hv with rfl | ⟨a, len, cap, rfl⟩ <;> exact hf'
  obtain ⟨A, n, c, L, e1, h2⟩ := trod_rows f m good hf hpos ht hC hel h1
  exact ⟨A, n, c, L, by simpa using e1, h2⟩
end

section
variable {H : Type} {enc : TypeId × Value → H} {w : World} {base : Nat} {spare : Nat → Bool} {held : Bool}
set_option maxRecDepth 100000 in
theorem open_tab {r : Reach} {b0 : Nat} {v : Value} {d : DataW H} {ps : List MemPlace} (hval : Value.okWide Try.prog w r b0 22 v) (hd : DataW.Trod enc Try.prog w base spare held 22 v d ps) :
    ∃ (A : Option Addr) (n c : Nat) (L : List CQ), v = .slice A n c ∧ TbW w tt A n c L := by
  obtain ⟨A, n, c, L, rfl, h1, h2, h3, h4, h5⟩ := open_rows cellsQ 11 (fun q => ChW w tt q.1 q.2) cellsQ_len (by omega) Try.underlying22 (by kernel_rfl) (fun _ _ _ h => by
    obtain ⟨C, M, h1, h2⟩ := trod_chan h
    exact ⟨(C, M), h1, h2⟩) hval hd
  exact ⟨A, n, c, L, rfl, h5, h3, h1, h2, h4⟩
set_option maxRecDepth 100000 in
theorem trod_cf {fu : Nat} {cs : List Value} {x : DataW H × List MemPlace} (h : DataW.trod enc Try.prog w base spare held fu 69 cs = some x) : ∃ c : CF, cs = cfC c ∧ True := by
  have hl : cs.length = 4 := by
    obtain ⟨xs, m, _, _, hl, _⟩ := DataW.trod_struct Try.underlying69 h
    rw [hl]; kernel_rfl
  obtain ⟨a, b, c, d, rfl⟩ := list_of_4 hl
  obtain ⟨k, r, i, o, rfl, rfl, rfl, rfl⟩ := trod_conf18 h
  exact ⟨⟨k, r, i, o⟩, rfl, trivial⟩
set_option maxRecDepth 100000 in
theorem open_confs {r : Reach} {b0 : Nat} {v : Value} {d : DataW H} {ps : List MemPlace} (hval : Value.okWide Try.prog w r b0 48 v) (hd : DataW.Trod enc Try.prog w base spare held 48 v d ps) :
    ∃ (A : Option Addr) (n c : Nat) (L : List CF), v = .slice A n c ∧ L.length = n ∧ RD w (fun _ => True) 4 A n (L.flatMap cfC) := by
  obtain ⟨A, n, c, L, rfl, h1, h2, h3, h4, h5⟩ := open_rows cfC 4 (fun _ => True) cfC_len (by omega) Try.underlying48 (by kernel_rfl) (fun _ _ _ h => trod_cf h) hval hd
  exact ⟨A, n, c, L, rfl, h3, h5⟩
set_option maxRecDepth 100000 in
theorem trod_gd {fu : Nat} {cs : List Value} {x : DataW H × List MemPlace} (h : DataW.trod enc Try.prog w base spare held fu 80 cs = some x) : ∃ g : GD, cs = gdC g ∧ True := by
  obtain ⟨xs, m', _, _, hl, hxl, each⟩ := DataW.trod_struct Try.underlying80 h
  have hl5 : cs.length = 5 := by rw [hl]; kernel_rfl
  have ci : Try.prog.cellsOf 3 = 1 := by kernel_rfl
  have hx5 : xs.length = 5 := by rw [hxl]; rfl
  obtain ⟨a, b, c, d, e, rfl⟩ : ∃ a b c d e, cs = [a, b, c, d, e] := by
    match cs, hl5 with
    | [a, b, c, d, e], _ => exact ⟨a, b, c, d, e, rfl⟩
  have e0 : DataW.trod enc Try.prog w base spare held m' 3 [a] = some (xs[0]'(by omega)) := by
    have h := each 0 _ rfl
    rw [List.getElem?_eq_getElem (by omega)] at h
    exact (ci ▸ h : _)
  have e1 : DataW.trod enc Try.prog w base spare held m' 3 [b] = some (xs[1]'(by omega)) := by
    have h := each 1 _ rfl
    rw [List.getElem?_eq_getElem (by omega)] at h
    exact (ci ▸ h : _)
  have e2 : DataW.trod enc Try.prog w base spare held m' 3 [c] = some (xs[2]'(by omega)) := by
    have h := each 2 _ rfl
    rw [List.getElem?_eq_getElem (by omega)] at h
    exact (ci ▸ h : _)
  have e3 : DataW.trod enc Try.prog w base spare held m' 3 [d] = some (xs[3]'(by omega)) := by
    have h := each 3 _ rfl
    rw [List.getElem?_eq_getElem (by omega)] at h
    exact (ci ▸ h : _)
  have e4 : DataW.trod enc Try.prog w base spare held m' 3 [e] = some (xs[4]'(by omega)) := by
    have h := each 4 _ rfl
    rw [List.getElem?_eq_getElem (by omega)] at h
    exact (ci ▸ h : _)
  obtain ⟨z0, h0, _, _⟩ := DataW.trod_int Try.underlying3 e0
  obtain ⟨z1, h1, _, _⟩ := DataW.trod_int Try.underlying3 e1
  obtain ⟨z2, h2, _, _⟩ := DataW.trod_int Try.underlying3 e2
  obtain ⟨z3, h3, _, _⟩ := DataW.trod_int Try.underlying3 e3
  obtain ⟨z4, h4, _, _⟩ := DataW.trod_int Try.underlying3 e4
  obtain rfl : a = .int .i64 z0 := by simpa using h0
  obtain rfl : b = .int .i64 z1 := by simpa using h1
  obtain rfl : c = .int .i64 z2 := by simpa using h2
  obtain rfl : d = .int .i64 z3 := by simpa using h3
  obtain rfl : e = .int .i64 z4 := by simpa using h4
  exact ⟨⟨z0, z1, z2, z3, z4⟩, rfl, trivial⟩
set_option maxRecDepth 100000 in
theorem open_offer {r : Reach} {b0 : Nat} {v : Value} {d : DataW H} {ps : List MemPlace} (hval : Value.okWide Try.prog w r b0 64 v) (hd : DataW.Trod enc Try.prog w base spare held 64 v d ps) :
    ∃ (p : Int) (A : Option Addr) (n c : Nat) (gs : List GD) (al : Bool), v = .agg #[.int .i64 p, .slice A n c, .bool al] ∧ gs.length = n ∧ RD w (fun _ => True) 5 A n (gs.flatMap gdC) := by
  obtain ⟨cs, rfl, hsz⟩ := okWide_struct Try.underlying64 hval
  obtain ⟨fuel, hf⟩ := hd
  have hf' : DataW.trod enc Try.prog w base spare held fuel 64 cs.toList = some (d, ps) := hf
  obtain ⟨xs, m', _, _, hl, hxl, each⟩ := DataW.trod_struct Try.underlying64 hf'
  obtain ⟨l⟩ := cs
  simp only at hl each
  have hl3 : l.length = 3 := by rw [hl]; kernel_rfl
  have hx3 : xs.length = 3 := by rw [hxl]; rfl
  have ci : Try.prog.cellsOf 3 = 1 := by kernel_rfl
  have cb : Try.prog.cellsOf 4 = 1 := by kernel_rfl
  have cg : Try.prog.cellsOf 62 = 1 := by kernel_rfl
  obtain ⟨a, b, c, rfl⟩ := list_of_3 hl3
  have e0 : DataW.trod enc Try.prog w base spare held m' 3 [a] = some (xs[0]'(by omega)) := by
    have h := each 0 _ rfl
    rw [List.getElem?_eq_getElem (by omega)] at h
    exact (ci ▸ h : _)
  have e1 : DataW.trod enc Try.prog w base spare held m' 62 [b] = some (xs[1]'(by omega)) := by
    have h := each 1 _ rfl
    rw [List.getElem?_eq_getElem (by omega)] at h
    exact (cg ▸ h : _)
  have e2 : DataW.trod enc Try.prog w base spare held m' 4 [c] = some (xs[2]'(by omega)) := by
    have h := each 2 _ rfl
    rw [List.getElem?_eq_getElem (by omega)] at h
    exact (cb ▸ h : _)
  obtain ⟨z0, h0, _, _⟩ := DataW.trod_int Try.underlying3 e0
  obtain ⟨z2, h2, _⟩ := DataW.trod_bool Try.underlying4 e2
  obtain ⟨A, n, cc, gs, h1, _, _, h4, _, h5⟩ := trod_rows gdC 5 (fun _ => True) gdC_len (by omega) Try.underlying62 (by kernel_rfl) (fun _ _ _ h => trod_gd h) e1
  obtain rfl : a = .int .i64 z0 := by simpa using h0
  obtain rfl : c = .bool z2 := by simpa using h2
  obtain rfl : b = .slice A n cc := by simpa using h1
  exact ⟨z0, A, n, cc, gs, z2, rfl, h4, h5⟩
end
end Go.Proofs.Ytnmjjemkaamcfaa

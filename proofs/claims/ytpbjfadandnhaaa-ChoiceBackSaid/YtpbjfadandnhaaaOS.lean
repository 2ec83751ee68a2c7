/- A slice of structs of integers, as an argument: it reads as rows of numbers. -/
import Derived.Test.YtpbjfadandnhaaaO
import Derived.Test.YtpbjfadandnhaaaM
import Derived.Deep.Slices
import Derived.Deep.Fields
import Derived.ChangeSame
namespace Go.Proofs.Ytpbjfadandnhaaa
open Go.ChangeShapes Go.WideShapes Go.Deep Go.ChangeAt Go.RowKit

section
variable {H : Type} {enc : TypeId × Value → H} {P : Program} {w : World} {base : Nat} {spare : Nat → Bool} {held : Bool}
/-- A struct of ints, a cell each, read as data: its cells are numbers of the fields' kinds. -/
theorem ints_of_struct {e : TypeId} {fs : Array Field} {fuel : Nat} {cs : List Value} {x : DataW H × List MemPlace} (ks : List IntKind) (he : P.underlying e = some (.struct fs)) (hone : oneCellFields P fs = true)
    (hks : ∀ j, j < fs.size → ∃ f k, fs[j]? = some f ∧ ks[j]? = some k ∧ P.underlying f.type = some (.int k)) (h : DataW.trod enc P w base spare held fuel e cs = some x) :
    ∀ j, j < fs.size → ∃ z : Int, ∀ k, ks[j]? = some k → cs[j]? = some (.int k z) ∧ (Lit.int k z).wf = true := by
  obtain ⟨ys, m, -, -, -, hys, each⟩ := DataW.trod_struct he h
  intro j hj
  obtain ⟨f, k, hf, hk, hu⟩ := hks j hj
  have hcell := hone_of hone j f hf
  have hread := each j f hf
  rw [hcell.1, hcell.2, List.getElem?_eq_getElem (show j < ys.length by omega)] at hread
  obtain ⟨z, hz, -, hwf⟩ := DataW.trod_int hu hread
  refine ⟨z, fun k' hk' => ?_⟩
  obtain rfl : k = k' := Option.some.inj (hk.symm.trans hk')
  refine ⟨?_, hwf⟩
  have h0 : ((cs.drop j).take 1)[0]? = some (Value.int k z) := by rw [hz]; rfl
  simpa using h0

/-- A row of numbers, of the kinds ks, as cells. -/
def rowV (ks : List IntKind) (r : List Int) : List Value := List.zipWith Value.int ks r
def RowOk (ks : List IntKind) (r : List Int) : Prop := r.length = ks.length ∧ ∀ (j : Nat) (k : IntKind) (z : Int), ks[j]? = some k → r[j]? = some z → (Lit.int k z).wf = true
theorem rowV_len (ks : List IntKind) (r : List Int) (h : r.length = ks.length) : (rowV ks r).length = ks.length := by simp [rowV, h]

theorem flat_get_of {α β : Type} (f : α → List β) (m : Nat) : ∀ (l : List α), (∀ a ∈ l, (f a).length = m) → ∀ (k j : Nat) (s : α), l[k]? = some s → j < m → (l.flatMap f)[k * m + j]? = (f s)[j]?
  | [], _, k, j, s, h, _ => by simp at h
  | a :: l, hf, 0, j, s, h, hj => by
    obtain rfl : a = s := by simpa using h
    rw [List.flatMap_cons, List.getElem?_append_left (by rw [hf a (by simp)]; omega), Nat.zero_mul, Nat.zero_add]
  | a :: l, hf, k + 1, j, s, h, hj => by
    rw [List.flatMap_cons, List.getElem?_append_right (by rw [hf a (by simp), Nat.succ_mul]; omega), hf a (by simp), show (k + 1) * m + j - m = k * m + j by rw [Nat.succ_mul]; omega]
    exact flat_get_of f m l (fun b hb => hf b (by simp [hb])) k j s (by simpa using h) hj

theorem open_structs (ks : List IntKind) {r : Reach} {b0 : Nat} {t e : TypeId} {fs : Array Field} {v : Value} {d : DataW H} {ps : List MemPlace} (ht : P.underlying t = some (.slice e)) (he : P.underlying e = some (.struct fs))
    (hone : oneCellFields P fs = true) (hC : P.cellsOf e = fs.size) (hks : ∀ j, j < fs.size → ∃ f k, fs[j]? = some f ∧ ks[j]? = some k ∧ P.underlying f.type = some (.int k)) (hkl : ks.length = fs.size) (hpos : 0 < ks.length)
    (hval : Value.okWide P w r b0 t v) (hd : DataW.Trod enc P w base spare held t v d ps) :
    ∃ (A : Option Addr) (n c : Nat) (L : List (List Int)), v = .slice A n c ∧ n ≤ c ∧ c ≤ maxLen ∧ L.length = n ∧ (∀ r ∈ L, RowOk ks r) ∧ RD w (fun _ => True) ks.length A n (L.flatMap (rowV ks)) := by
  obtain ⟨fuel, hf⟩ := hd
  unfold Value.okWide at hval
  simp only [ht] at hval
  unfold Cell.okWide at hval
  simp only [ht] at hval
  unfold Cell.ok at hval
  simp only [ht] at hval
  have hv : v = .slice none 0 0 ∨ ∃ a len cap, v = .slice (some a) len cap := by
    split at hval
    all_goals first
      | exact .inl rfl
      | exact .inr ⟨_, _, _, rfl⟩
      | (exfalso; assumption)
      | simp_all
  rcases hv with rfl | ⟨a, len, cap, rfl⟩
  · exact ⟨none, 0, 0, [], rfl, Nat.le_refl _, by unfold maxLen; omega, rfl, by simp, RD.nil _ _ _ _⟩
  · have hf' : DataW.trod enc P w base spare held fuel t [.slice (some a) len cap] = some (d, ps) := hf
    rcases Go.Deep.open_slice ht hf' with ⟨h0, _⟩ | ⟨a', len', cap', m, fu, D, Pl, h1, -, hl, hm, hmm, -, hi⟩
    · cases h0
    · cases h1
      have hlm : len ≤ m := by
        rw [hmm]
        split
        · exact hl
        · exact Nat.le_refl _
      have hrow : ∀ i, i < len → ∃ r : List Int, RowOk ks r ∧ ∀ j u, (rowV ks r)[j]? = some u → w.cell? (a.add (i * fs.size + j)) = some u := by
        intro i hil
        obtain ⟨cs, hcs, htr⟩ := hi i (by omega)
        rw [hC] at hcs
        have hat := (World.cells?_some hcs).2.2
        obtain ⟨Z, hZ⟩ := choose_lt (ints_of_struct ks he hone hks htr)
        refine ⟨(List.range fs.size).map Z, ⟨by simp [hkl], fun j k z hk hz => ?_⟩, fun j u hu => ?_⟩
        · have hjl : j < fs.size := by rw [← hkl]; exact (List.getElem?_eq_some_iff.1 hk).1
          have : Z j = z := by simpa [hjl] using hz
          subst this
          exact (hZ j hjl k hk).2
        · unfold rowV at hu
          rw [List.getElem?_zipWith] at hu
          rcases hkj : ks[j]? with _ | k
          · simp [hkj] at hu
          · have hjl : j < fs.size := by rw [← hkl]; exact (List.getElem?_eq_some_iff.1 hkj).1
            simp [hkj, hjl] at hu
            subst hu
            rw [← Go.Deep.add_add, hat j hjl]
            exact (hZ j hjl k hkj).1
      obtain ⟨R, hR⟩ := choose_lt hrow
      refine ⟨some a, len, cap, (List.range len).map R, rfl, hl, hm, by simp, ?_, ?_, ?_⟩
      · intro r hr
        obtain ⟨i, hil, rfl⟩ := List.mem_map.1 hr
        exact (hR i (List.mem_range.1 hil)).1
      · have hlen : ∀ l : List (List Int), (∀ r ∈ l, RowOk ks r) → (l.flatMap (rowV ks)).length = l.length * ks.length := by
          intro l
          induction l with
          | nil => intro _; simp
          | cons r l ih =>
            intro h
            rw [List.flatMap_cons, List.length_append, ih (fun x hx => h x (by simp [hx])), rowV_len _ _ (h r (by simp)).1, List.length_cons, Nat.succ_mul]
            omega
        rw [hlen _ (fun r hr => by obtain ⟨i, hil, rfl⟩ := List.mem_map.1 hr; exact (hR i (List.mem_range.1 hil)).1)]
        simp
      · intro hn
        have hfs : 0 < fs.size := by omega
        have hc0 : ∃ u, w.cell? (a.add (0 * fs.size + 0)) = some u := by
          have h0 := hR 0 hn
          have hlr := rowV_len ks (R 0) h0.1.1
          exact ⟨_, h0.2 0 _ (List.getElem?_eq_getElem (by omega))⟩
        obtain ⟨u0, hu0⟩ := hc0
        have hsp := World.cell?_spot hu0
        obtain ⟨b, o, sp⟩ := a
        have hsp' : sp = none := by simpa [Addr.add] using hsp
        subst hsp'
        have hadd : ∀ j, (⟨b, o, none⟩ : Addr).add j = ⟨b, o + j, none⟩ := by
          intro j
          unfold Addr.add
          split
          · next h => subst h; rfl
          · rfl
        refine ⟨b, o, rfl, trivial, World.block_lt_of_cell? w ⟨b, o, none⟩ (by rw [hadd] at hu0; simpa using hu0), fun q u hu => ?_⟩
        have hq : q = q / ks.length * ks.length + q % ks.length := by
          have := Nat.div_add_mod q ks.length
          rw [Nat.mul_comm] at this
          omega
        have hmod : q % ks.length < ks.length := Nat.mod_lt _ hpos
        have hL : ∀ r ∈ (List.range len).map R, (rowV ks r).length = ks.length := by
          intro r hr
          obtain ⟨i, hil, rfl⟩ := List.mem_map.1 hr
          exact rowV_len _ _ (hR i (List.mem_range.1 hil)).1.1
        have hqlt : q < len * ks.length := by
          have h1 := (List.getElem?_eq_some_iff.1 hu).1
          have hlen : ∀ l : List (List Int), (∀ r ∈ l, (rowV ks r).length = ks.length) → (l.flatMap (rowV ks)).length = l.length * ks.length := by
            intro l
            induction l with
            | nil => intro _; simp
            | cons r l ih =>
              intro h
              rw [List.flatMap_cons, List.length_append, ih (fun x hx => h x (by simp [hx])), h r (by simp), List.length_cons, Nat.succ_mul]
              omega
          rw [hlen _ hL] at h1
          simpa using h1
        have hdiv : q / ks.length < len := Nat.div_lt_of_lt_mul (by rw [Nat.mul_comm]; exact hqlt)
        rw [hq, flat_get_of (rowV ks) ks.length _ hL (q / ks.length) (q % ks.length) (R (q / ks.length)) (by simp [hdiv]) hmod] at hu
        have := (hR (q / ks.length) hdiv).2 _ _ hu
        rw [hadd, ← hkl, ← hq] at this
        exact this
end
end Go.Proofs.Ytpbjfadandnhaaa

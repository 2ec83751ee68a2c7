/- The law QueueOrder. -/
import Derived.Test.YthakcjabeekihaaQy
import Derived.Laws.Bits64
namespace Go.Proofs.Ythakcjabeekihaa
open Go.RowKit

abbrev Pr := Int × Int
def prV (p : Pr) : List Value := [.int .u8 p.1, .int .u8 p.2]
theorem prV_len (p : Pr) : (prV p).length = 2 := rfl
def PrOk (p : Pr) : Prop := 0 ≤ p.1 ∧ p.1 ≤ 255 ∧ 0 ≤ p.2 ∧ p.2 ≤ 255
theorem RD.pr {w : World} {pl : Nat → Prop} {A : Option Addr} {n : Nat} {L : List Pr} (h : RD w pl 2 A n (L.flatMap prV)) (hn : L.length = n) (k : Nat) (hk : k < n) :
    ∃ b o s, A = some ⟨b, o, none⟩ ∧ b < w.heap.size ∧ L[k]? = some s ∧ w.cell? ⟨b, o + k * 2, none⟩ = some (.int .u8 s.1) ∧ w.cell? ⟨b, o + k * 2 + 1, none⟩ = some (.int .u8 s.2) := by
  obtain ⟨b, o, e, _, h2, h3⟩ := h.at_ (by omega)
  have hg : L[k]? = some (L[k]'(by omega)) := List.getElem?_eq_getElem (by omega)
  refine ⟨b, o, _, e, h2, hg, ?_, ?_⟩
  · exact h3 (k * 2) _ (by rw [show k * 2 = k * 2 + 0 from rfl, flat_get prV 2 prV_len L k 0 _ hg (by omega)]; rfl)
  · have := h3 (k * 2 + 1) _ (by rw [flat_get prV 2 prV_len L k 1 _ hg (by omega)]; rfl)
    rwa [← Nat.add_assoc] at this

/-- What a queue gets of the pairs. -/
def ofQ (q : Nat) (M : List Pr) : List Int := (M.filter fun p => p.1 % 4 == (q : Int)).map (·.2)
def qsOf (g : Nat → List Int) : List (List Int) := (List.range 4).map g
theorem qsOf_get (g : Nat → List Int) (q : Nat) (hq : q < 4) : (qsOf g)[q]? = some (g q) := by simp [qsOf, hq]
theorem qsOf_set (g h : Nat → List Int) (q : Nat) (r : List Int) (h1 : h q = r) (h2 : ∀ j, j ≠ q → h j = g j) : (qsOf g).set q r = qsOf h := by
  apply List.ext_getElem?
  intro i
  by_cases hi : i < 4
  · by_cases e : i = q
    · subst e
      rw [List.getElem?_set_self (by simp [qsOf, hi]), qsOf_get h i hi, h1]
    · rw [List.getElem?_set_ne (Ne.symm e), qsOf_get g i hi, qsOf_get h i hi, h2 i e]
  · rw [List.getElem?_eq_none (by simp [qsOf]; omega), List.getElem?_eq_none (by simp [qsOf]; omega)]
theorem ofQ_snoc (q : Nat) (M : List Pr) (p : Pr) : ofQ q (M ++ [p]) = if p.1 % 4 = (q : Int) then ofQ q M ++ [p.2] else ofQ q M := by
  unfold ofQ
  rw [List.filter_append]
  by_cases h : p.1 % 4 = (q : Int)
  · rw [if_pos h]; simp [h]
  · rw [if_neg h]; simp [h]
theorem ofQ_cons (q : Nat) (M : List Pr) (p : Pr) : ofQ q (p :: M) = if p.1 % 4 = (q : Int) then p.2 :: ofQ q M else ofQ q M := by
  unfold ofQ
  by_cases h : p.1 % 4 = (q : Int)
  · rw [if_pos h]; simp [h]
  · rw [if_neg h]; simp [h]
/-- The queues while they are emptied: q is the one, from pair k on. -/
def atQ (L : List Pr) (q k j : Nat) : List Int := if j < q then [] else if j = q then ofQ q (L.drop k) else ofQ j L
theorem atQ_self (L : List Pr) (q k : Nat) : atQ L q k q = ofQ q (L.drop k) := by simp [atQ]
theorem atQ_ne (L : List Pr) (q k k' j : Nat) (h : j ≠ q) : atQ L q k j = atQ L q k' j := by simp [atQ, h]
theorem atQ_end (L : List Pr) (q : Nat) : atQ L q L.length = atQ L (q + 1) 0 := by
  funext j
  by_cases h1 : j < q
  · simp [atQ, h1, show j < q + 1 by omega]
  · by_cases h2 : j = q
    · subst h2
      simp [atQ, ofQ]
    · by_cases h3 : j = q + 1
      · subst h3
        simp [atQ]
        omega
      · simp [atQ, h1, h2, h3, show ¬ j < q + 1 by omega]
theorem atQ_start (L : List Pr) : atQ L 0 0 = fun j => ofQ j L := by
  funext j
  by_cases h : j = 0
  · subst h
    simp [atQ]
  · simp [atQ, h]
theorem qs_done (L : List Pr) : qsOf (atQ L 4 0) = [[], [], [], []] := by
  simp [qsOf, List.range, List.range.loop, atQ]

/-- What holds in all the loops. -/
def OrdRel (w : World) (b : Nat) (g : Nat → List Int) (wr : World) : Prop := ∃ fr, PA wr b (qsOf g) fr ∧ fr + sumlen (qsOf g) = 60 ∧ Below w.heap.size w wr
theorem OrdRel.below {w wr w' : World} {b : Nat} {g : Nat → List Int} (h : OrdRel w b g wr) (hb : Below wr.heap.size wr w') : OrdRel w b g w' := by
  obtain ⟨fr, H, hs, up⟩ := h
  exact ⟨fr, H.below hb, hs, up_trans up hb⟩
theorem OrdRel.lt {w wr : World} {b : Nat} {g : Nat → List Int} (h : OrdRel w b g wr) : b < wr.heap.size := by
  obtain ⟨fr, H, _, _⟩ := h
  exact H.lt
theorem OrdRel.up {w wr : World} {b : Nat} {g : Nat → List Int} (h : OrdRel w b g wr) : Below w.heap.size w wr := by
  obtain ⟨fr, H, _, h⟩ := h
  exact h
theorem ord_free {w wr : World} {b : Nat} {L : List Pr} (h : OrdRel w b (atQ L 4 0) wr) : Calls Try.prog 16 #[.pointer (some ⟨b, 0, none⟩)] wr fun e w' => e = .returned (.int .i64 60) ∧ wr = w' := by
  obtain ⟨fr, H, hs, _⟩ := h
  rw [qs_done] at hs
  have hz : sumlen [[], [], [], []] = 0 := rfl
  exact z_free H 60 (by omega)
theorem ord_pop {w wr : World} {b : Nat} {g : Nat → List Int} (h : OrdRel w b g wr) (hb : w.heap.size ≤ b) (q : Nat) (hq : q < 4) (v : Int) (r : List Int) (hg : g q = v :: r) (g' : Nat → List Int) (h1 : g' q = r) (h2 : ∀ j, j ≠ q → g' j = g j) :
    Calls Try.prog 11 #[.pointer (some ⟨b, 0, none⟩), .int .i64 q] wr fun e w' => e = .returned (.tuple #[.int .i64 v, .int .i64 0]) ∧ OrdRel w b g' w' ∧ Only (· = b) wr w' := by
  obtain ⟨fr, H, hs, up⟩ := h
  have hget := qsOf_get g q hq
  rw [hg] at hget
  refine (c_pop_ok H q v r hget).mono ?_
  rintro e w' ⟨rfl, H', ho⟩
  rw [qsOf_set g g' q r h1 h2] at H'
  refine ⟨rfl, ⟨fr + 1, H', ?_, up.trans (ho.toBelow up.size fun i e => e ▸ hb)⟩, ho⟩
  have := sumlen_set (qsOf g) q (v :: r) r hget
  rw [qsOf_set g g' q r h1 h2, List.length_cons] at this
  omega
theorem ord_empty {w wr : World} {b : Nat} {g : Nat → List Int} (h : OrdRel w b g wr) (q : Nat) (hq : q < 4) (hg : g q = []) :
    Calls Try.prog 11 #[.pointer (some ⟨b, 0, none⟩), .int .i64 q] wr fun e w' => e = .returned (.tuple #[.int .i64 0, .int .i64 11]) ∧ OrdRel w b g w' := by
  have hget := qsOf_get g q hq
  rw [hg] at hget
  obtain ⟨fr, H, hs, up⟩ := h
  refine (c_pop_none H q hget).mono ?_
  rintro e w' ⟨rfl, hd⟩
  exact ⟨rfl, OrdRel.below ⟨fr, H, hs, up⟩ hd.below⟩
theorem ord_push {w wr : World} {b : Nat} {M : List Pr} (h : OrdRel w b (fun j => ofQ j M) wr) (hb : w.heap.size ≤ b) (p : Pr) (hl : sumlen (qsOf fun j => ofQ j M) < 60) :
    Calls Try.prog 13 #[.pointer (some ⟨b, 0, none⟩), .int .i64 (p.1 % 4), .int .i64 p.2] wr fun e w' => e = .returned (.int .i64 0) ∧ OrdRel w b (fun j => ofQ j (M ++ [p])) w' ∧ sumlen (qsOf fun j => ofQ j (M ++ [p])) = sumlen (qsOf fun j => ofQ j M) + 1 := by
  obtain ⟨fr, H, hs, up⟩ := h
  obtain ⟨fr, rfl⟩ : ∃ f, fr = f + 1 := ⟨fr - 1, by omega⟩
  obtain ⟨q, hq⟩ : ∃ q : Nat, p.1 % 4 = q := ⟨(p.1 % 4).toNat, by omega⟩
  have hq4 : q < 4 := by omega
  have hget := qsOf_get (fun j => ofQ j M) q hq4
  have hset := qsOf_set (fun j => ofQ j M) (fun j => ofQ j (M ++ [p])) q (ofQ q M ++ [p.2]) (by rw [ofQ_snoc, if_pos hq]) (fun j hj => by rw [ofQ_snoc, if_neg (by omega)])
  have hsum := sumlen_set (qsOf fun j => ofQ j M) q _ (ofQ q M ++ [p.2]) hget
  rw [hset, List.length_append, List.length_singleton] at hsum
  refine (z_push H (p.1 % 4) q hq p.2 _ hget _ hset).mono ?_
  rintro e w' ⟨rfl, H', ho⟩
  exact ⟨rfl, ⟨fr, H', by omega, up.trans (ho.toBelow up.size fun i e => e ▸ hb)⟩, by omega⟩
end Go.Proofs.Ythakcjabeekihaa

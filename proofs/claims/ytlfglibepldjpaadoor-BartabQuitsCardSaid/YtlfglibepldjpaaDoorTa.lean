/- Slices of structs of any make: they read as a list; one of the call's own, which may be written to in its middle. -/
import Derived.Test.YtlfglibepldjpaaDoorRm
import Derived.Test.YtlfglibepldjpaaDoorNe
import Derived.Test.YtlfglibepldjpaaDoorRld
namespace Go.Proofs.YtlfglibepldjpaaDoor
open Go.RowKit

/-- A make of elements: their cells, and what they ask of memory, where their lists may lie. -/
structure Mk (α : Type) where
  f : α → List Value
  m : Nat
  len : ∀ a, (f a).length = m
  pos : 0 < m
  one : ∀ a, ∀ u ∈ f a, u.oneCell' = true
  E : (Nat → Prop) → α → World → Prop
  only : ∀ {s : Nat → Prop} {w w' : World} {pl : Nat → Prop} {q : α}, E pl q w → Only s w w' → (∀ k, s k → ¬ pl k) → E pl q w'
  lo : ∀ {w : World} {pl pl' : Nat → Prop} {q : α}, E pl q w → (∀ b, pl b → pl' b) → E pl' q w
  lt : ∀ {w : World} {pl : Nat → Prop} {q : α}, E pl q w → E (fun b => pl b ∧ b < w.heap.size) q w
theorem Mk.below {α : Type} (K : Mk α) {w w' : World} {pl : Nat → Prop} {q : α} (h : K.E pl q w) (hb : Below w.heap.size w w') : K.E pl q w' := K.only (s := fun _ => False) h (Only.of_below hb) fun _ k => k.elim
theorem flatN {α β : Type} (f : α → List β) (m : Nat) (hf : ∀ a, (f a).length = m) : ∀ l : List α, (l.flatMap f).length = l.length * m
  | [] => by simp
  | a :: l => by rw [List.flatMap_cons, List.length_append, hf, flatN f m hf l, List.length_cons, Nat.succ_mul]; omega
theorem Mk.oneL {α : Type} (K : Mk α) (L : List α) : ∀ u ∈ L.flatMap K.f, u.oneCell' = true := by
  intro u hu
  obtain ⟨q, _, hq⟩ := List.mem_flatMap.1 hu
  exact K.one q u hq
/-- They read as a list. -/
structure TW {α : Type} (K : Mk α) (w : World) (pl : Nat → Prop) (A : Option Addr) (n : Nat) (L : List α) : Prop where
  rd : RD w pl K.m A n (L.flatMap K.f)
  len : L.length = n
  each : ∀ q ∈ L, K.E pl q w
section
variable {α : Type} {K : Mk α}
theorem TW.below {w w' : World} {pl : Nat → Prop} {A : Option Addr} {n : Nat} {L : List α} (h : TW K w pl A n L) (hb : Below w.heap.size w w') : TW K w' pl A n L := ⟨h.rd.below hb, h.len, fun q hq => K.below (h.each q hq) hb⟩
theorem TW.only {s : Nat → Prop} {w w' : World} {pl : Nat → Prop} {A : Option Addr} {n : Nat} {L : List α} (h : TW K w pl A n L) (o : Only s w w') (hs : ∀ k, s k → ¬ pl k) : TW K w' pl A n L := ⟨h.rd.only o hs, h.len, fun q hq => K.only (h.each q hq) o hs⟩
theorem TW.lo {w : World} {pl pl' : Nat → Prop} {A : Option Addr} {n : Nat} {L : List α} (h : TW K w pl A n L) (hl : ∀ b, pl b → pl' b) : TW K w pl' A n L := ⟨h.rd.lo hl, h.len, fun q hq => K.lo (h.each q hq) hl⟩
theorem TW.lt {w : World} {pl : Nat → Prop} {A : Option Addr} {n : Nat} {L : List α} (h : TW K w pl A n L) : TW K w (fun b => pl b ∧ b < w.heap.size) A n L := ⟨h.rd.lt, h.len, fun q hq => K.lt (h.each q hq)⟩
theorem TW.none (K : Mk α) (w : World) (pl : Nat → Prop) : TW K w pl none 0 [] := ⟨RD.nil _ _ _ _, rfl, fun q hq => absurd hq (by simp)⟩
/-- One element of a slice of structs: where it lies, as a range. -/
theorem RD.row' {f : α → List Value} {m : Nat} (hf : ∀ a, (f a).length = m) {w : World} {pl : Nat → Prop} {A : Option Addr} {n : Nat} {l : List α} (h : RD w pl m A n (l.flatMap f)) {k : Nat} {a : α} (ha : l[k]? = some a) (hk : k < n) :
    ∃ b o, A = some ⟨b, o, Option.none⟩ ∧ pl b ∧ b < w.heap.size ∧ w.rangeAt b (o + k * m) (f a) := by
  obtain ⟨b, o, rfl, h1, h2, h3⟩ := h.at_ (by omega)
  refine ⟨b, o, rfl, h1, h2, fun j v hv => ?_⟩
  have hj : j < m := by
    have := (List.getElem?_eq_some_iff.1 hv).1
    rwa [hf] at this
  rw [Nat.add_assoc]
  exact h3 (k * m + j) v (by rw [flat_get f m hf l k j a ha hj]; exact hv)
theorem TW.at_ {w : World} {pl : Nat → Prop} {A : Option Addr} {n : Nat} {L : List α} (h : TW K w pl A n L) (k : Nat) (hk : k < n) :
    ∃ b o q, A = some ⟨b, o, Option.none⟩ ∧ pl b ∧ b < w.heap.size ∧ L[k]? = some q ∧ w.rangeAt b (o + k * K.m) (K.f q) ∧ K.E pl q w := by
  have hkL : k < L.length := by rw [h.len]; exact hk
  have hq := List.getElem?_eq_getElem hkL
  obtain ⟨b, o, e, h1, h2, h3⟩ := RD.row' K.len h.rd hq hk
  exact ⟨b, o, L[k], e, h1, h2, hq, h3, h.each _ (List.getElem_mem hkL)⟩
end

theorem layG : ∀ (cs ds : List Value) (o j : Nat), (layL ds o cs)[j]? = if o ≤ j ∧ j < o + cs.length ∧ j < ds.length then cs[j - o]? else ds[j]?
  | [], ds, o, j => by
    unfold layL
    rw [if_neg (by simp; omega)]
  | c :: cs, ds, o, j => by
    unfold layL
    rw [layG cs (ds.set o c) (o + 1) j, List.length_set, List.length_cons]
    by_cases hj : o + 1 ≤ j ∧ j < o + 1 + cs.length ∧ j < ds.length
    · rw [if_pos hj, if_pos (by omega), show j - o = (j - (o + 1)) + 1 by omega, List.getElem?_cons_succ]
    · rw [if_neg hj, List.getElem?_set]
      by_cases ho : o = j
      · subst ho
        rw [if_pos rfl]
        by_cases hl : o < ds.length
        · rw [if_pos hl, if_pos (by omega), Nat.sub_self, List.getElem?_cons_zero]
        · rw [if_neg hl, if_neg (by omega), List.getElem?_eq_none (by omega)]
      · rw [if_neg ho, if_neg (by omega)]
theorem layN : ∀ (cs ds : List Value) (o : Nat), (layL ds o cs).length = ds.length
  | [], _, _ => rfl
  | c :: cs, ds, o => by
    unfold layL
    rw [layN cs _ _, List.length_set]
theorem lay_list {α : Type} (f : α → List Value) (m : Nat) (hf : ∀ a, (f a).length = m) (hm : 0 < m) (L : List α) (k : Nat) (q : α) (hk : k < L.length) (ex : List Value) : layL (L.flatMap f ++ ex) (k * m) (f q) = (L.set k q).flatMap f ++ ex := by
  refine List.ext_getElem? fun j => ?_
  rw [layG, hf, List.length_append, flatN f m hf]
  have hls := flatN f m hf (L.set k q)
  rw [List.length_set] at hls
  have hl0 := flatN f m hf L
  have hkm : k * m + m ≤ L.length * m := by
    have := Nat.mul_le_mul_right m (show k + 1 ≤ L.length from hk)
    rwa [Nat.succ_mul] at this
  by_cases hj : k * m ≤ j ∧ j < k * m + m
  · rw [if_pos (by omega), List.getElem?_append_left (by omega)]
    have := flat_get f m hf (L.set k q) k (j - k * m) q (by rw [List.getElem?_set, if_pos rfl, if_pos hk]) (by omega)
    rw [← this]
    congr 1
    omega
  · rw [if_neg (by omega)]
    by_cases hlt : j < L.length * m
    · rw [List.getElem?_append_left (by omega), List.getElem?_append_left (by omega)]
      have hd : j / m < L.length := Nat.div_lt_of_lt_mul (by rw [Nat.mul_comm]; exact hlt)
      have hmod := Nat.mod_lt j hm
      have hdm : j = j / m * m + j % m := by
        have := Nat.div_add_mod j m
        rw [Nat.mul_comm] at this
        omega
      have hne : k ≠ j / m := by
        intro e
        rw [e] at hj
        omega
      have h1 := flat_get f m hf L (j / m) (j % m) L[j / m] (List.getElem?_eq_getElem hd) hmod
      have h2 := flat_get f m hf (L.set k q) (j / m) (j % m) L[j / m] (by rw [List.getElem?_set, if_neg hne, List.getElem?_eq_getElem hd]) hmod
      rw [← hdm] at h1 h2
      rw [h1, h2]
    · rw [List.getElem?_append_right (by omega), List.getElem?_append_right (by omega), hls, hl0]

/-- What is not the row's block. -/
def nOwn (v : Value) : Nat → Prop := fun b => v.ownBlock ≠ some b
/-- What may turn of it. -/
def isOwn (v : Value) : Nat → Prop := fun b => v.ownBlock = some b
/-- A slice of the call's own: its row may be written to; its elements' lists lie elsewhere. -/
structure OT {α : Type} (K : Mk α) (w : World) (T : TypeId) (lo : Nat) (v : Value) (n : Nat) (L : List α) : Prop where
  own : w.ownsRow lo T K.m v n (L.flatMap K.f)
  each : ∀ q ∈ L, K.E (nOwn v) q w
section
variable {α : Type} {K : Mk α} {w w' : World} {T : TypeId} {lo n : Nat} {v : Value} {L : List α}
theorem OT.len (h : OT K w T lo v n L) : L.length = n := by
  have := h.own.1
  rw [flatN K.f K.m K.len] at this
  exact Nat.eq_of_mul_eq_mul_right K.pos this
theorem OT.nil (K : Mk α) (w : World) (T : TypeId) (lo : Nat) : OT K w T lo (.slice none 0 0) 0 [] := ⟨World.ownsRow_nil _ _ _ _, fun q hq => absurd hq (by simp)⟩
theorem OT.below (h : OT K w T lo v n L) (hb : Below w.heap.size w w') : OT K w' T lo v n L := ⟨own_below h.own hb, fun q hq => K.below (h.each q hq) hb⟩
theorem OT.only {s : Nat → Prop} (h : OT K w T lo v n L) (o : Only s w w') (h1 : ∀ g, v.ownBlock = some g → ¬ s g) (h2 : ∀ q ∈ L, K.E (nOwn v) q w') : OT K w' T lo v n L := ⟨own_keep h.own o h1, h2⟩
theorem OT.tw (h : OT K w T lo v n L) : ∃ A c, v = .slice A n c ∧ TW K w tt A n L := by
  obtain ⟨A, c, rfl, h1, h2, h3⟩ := own_slice h.own
  exact ⟨A, c, rfl, ⟨h3.lo (fun _ _ => trivial), h.len, fun q hq => K.lo (h.each q hq) (fun _ _ => trivial)⟩⟩
theorem OT.new (h : OT K w T lo v n L) : ∀ b, w.heap.size ≤ b → nOwn v b := by
  intro b hb hv
  rcases h.own.2 with ⟨rfl, _⟩ | ⟨g, cap, cur, rfl, _, hh, _⟩
  · cases hv
  · have : g = b := by simpa [Value.ownBlock] using hv
    have := lt_of_block hh
    omega
theorem OT.pos (h : OT K w T lo v n L) (hn : 0 < n) :
    ∃ g c ex, v = .slice (some ⟨g, 0, Option.none⟩) n c ∧ lo ≤ g ∧ Blk w g (L.flatMap K.f ++ ex) T ∧ (n ≤ c ∧ c ≤ maxLen ∧ (L.flatMap K.f ++ ex).length = c * K.m) := by
  rcases h.own.2 with ⟨rfl, h0⟩ | ⟨g, cap, cur, rfl, hg, hh, hc, hm, hsz, htk⟩
  · omega
  · refine ⟨g, cap, cur.toList.drop (n * K.m), rfl, hg, ?_, hc, hm, ?_⟩
    · unfold Blk
      rw [hh, ← htk, List.take_append_drop]
    · rw [← htk, List.take_append_drop]
      simpa using hsz
theorem OT.at_ (h : OT K w T lo v n L) (k : Nat) (hk : k < n) :
    ∃ g c q, v = .slice (some ⟨g, 0, Option.none⟩) n c ∧ lo ≤ g ∧ g < w.heap.size ∧ L[k]? = some q ∧ w.rangeAt g (k * K.m) (K.f q) ∧ w.there g (k * K.m) K.m ∧ K.E (nOwn v) q w := by
  obtain ⟨g, c, ex, rfl, hg, hb, hc, hm, hl⟩ := h.pos (by omega)
  have hkL : k < L.length := by rw [h.len]; exact hk
  have hlL := h.len
  have hfl := flatN K.f K.m K.len L
  have hkm : k * K.m + K.m ≤ L.length * K.m := by
    have := Nat.mul_le_mul_right K.m (show k + 1 ≤ L.length from hkL)
    rwa [Nat.succ_mul] at this
  refine ⟨g, c, L[k], rfl, hg, hb.lt, List.getElem?_eq_getElem hkL, fun j v hv => ?_, fun j hj => ?_, h.each _ (List.getElem_mem hkL)⟩
  · have hj : j < K.m := by
      have := (List.getElem?_eq_some_iff.1 hv).1
      rwa [K.len] at this
    refine hb.cell _ _ ?_
    rw [List.getElem?_append_left (by omega), flat_get K.f K.m K.len L k j L[k] (List.getElem?_eq_getElem hkL) hj]
    exact hv
  · refine ⟨?_, ?_⟩
    · rw [hb.cell']
      rw [List.getElem?_eq_getElem (by rw [List.length_append]; omega)]
      rfl
    · unfold Blk at hb
      simp [World.frozen?, hb]
end
section
variable {α : Type} {K : Mk α} {w w' : World} {T : TypeId} {lo n g c : Nat} {L : List α}
theorem slice_inj {g g' n c c' : Nat} (e : Value.slice (some ⟨g, 0, none⟩) n c = .slice (some ⟨g', 0, none⟩) n c') : g = g' ∧ c = c' := by
  injection e with e1 _ e2
  injection e1 with e1
  injection e1 with e1
  exact ⟨e1, e2⟩
theorem OT.th (h : OT K w T lo (.slice (some ⟨g, 0, none⟩) n c) n L) (k : Nat) (hk : k < n) : w.there g (k * K.m) K.m := by
  obtain ⟨g', c', _, e, _, _, _, _, ht, _⟩ := h.at_ k hk
  obtain ⟨rfl, rfl⟩ := slice_inj e
  exact ht
/-- An element is stored at its place. -/
theorem OT.put (h : OT K w T lo (.slice (some ⟨g, 0, none⟩) n c) n L) (k : Nat) (hk : k < n) (q : α) (hq : K.E (nOwn (.slice (some ⟨g, 0, none⟩) n c)) q w) :
    OT K (w.setCells g (k * K.m) (K.f q)) T lo (.slice (some ⟨g, 0, none⟩) n c) n (L.set k q) := by
  obtain ⟨g', c', ex, e, hg, hb, hc, hm, hl⟩ := h.pos (by omega)
  obtain ⟨rfl, rfl⟩ := slice_inj e
  have hkL : k < L.length := by rw [h.len]; exact hk
  have hb' := Blk.lay (K.f q) _ (k * K.m) w hb
  rw [lay_list K.f K.m K.len K.pos L k q hkL ex] at hb'
  have ho : Only (· = g) w (w.setCells g (k * K.m) (K.f q)) := only_cells _ _ _
  have hno : ∀ b, b = g → ¬ nOwn (.slice (some ⟨g, 0, none⟩) n c) b := fun b hb hn => hn (by rw [hb]; rfl)
  have hls := flatN K.f K.m K.len (L.set k q)
  rw [List.length_set, h.len] at hls
  refine ⟨⟨by rw [hls], .inr ⟨g, c, ((L.set k q).flatMap K.f ++ ex).toArray, rfl, hg, hb', hc, hm, ?_, ?_⟩⟩, fun x hx => ?_⟩
  · have hl0 := flatN K.f K.m K.len L
    rw [h.len] at hl0
    rw [List.length_append, hl0] at hl
    rw [List.size_toArray, List.length_append, hls, hl]
  · rw [← hls]
    simp
  · rcases List.mem_or_eq_of_mem_set hx with hx | rfl
    · exact K.only (h.each x hx) ho hno
    · exact K.only hq ho hno
end
/-- What append leaves of elements that lay there before. -/
theorem OT.of {α : Type} {K : Mk α} {w w' : World} {T : TypeId} {v : Value} {n : Nat} {L : List α} (h : w'.ownsRow w.heap.size T K.m v n (L.flatMap K.f)) {pl : Nat → Prop} (k : ∀ q ∈ L, K.E pl q w) (hb : Below w.heap.size w w') : OT K w' T w.heap.size v n L := by
  refine ⟨h, fun q hq => K.lo (K.below (K.lt (k q hq)) hb) fun b hb' e => ?_⟩
  have := (h.lt b e).1
  have := hb'.2
  omega
/-- A new row of one element, which append is given. -/
theorem RD.oneK {α : Type} (K : Mk α) {w : World} {q : α} {t : TypeId} {n : Nat} (hn : n = w.heap.size) : RD (w.alloc (.cells (K.f q).toArray t)) tt K.m (some ⟨n, 0, none⟩) 1 ([q].flatMap K.f) :=
  hn ▸ RD.of_blk (xs := [q].flatMap K.f) (t := t) (by simpa using Blk.new w (K.f q) t) (by rw [flatN K.f K.m K.len]; simp) trivial
/-- The row behind an append: it has grown by one, whose lists lie in none of its blocks. -/
theorem OT.app {α : Type} {K : Mk α} {w w1 w' : World} {T : TypeId} {lo : Nat} {v v' : Value} {n m : Nat} {L : List α} {q : α} (h : OT K w T lo v n L) (hb : Below w.heap.size w w1)
    (hw : w'.ownsRow lo T K.m v' m ((L ++ [q]).flatMap K.f)) (hg : w1.grownBy w' v.ownBlock) (hn : ∀ g, v'.ownBlock = some g → v.ownBlock = some g ∨ w1.heap.size ≤ g) (hq : K.E (fun b => nOwn v b) q w1) : OT K w' T lo v' m (L ++ [q]) := by
  have ho : Only (isOwn v) w1 w' := (Only.refl (isOwn v) w1).grown hg (fun k e => .inl e)
  have hno : ∀ k, isOwn v k → ¬ (nOwn v k ∧ k < w1.heap.size) := fun k h1 h2 => h2.1 h1
  have hto : ∀ b, nOwn v b ∧ b < w1.heap.size → nOwn v' b := fun b h1 e => by
    rcases hn b e with h2 | h2
    · exact h1.1 h2
    · have := h1.2
      omega
  refine ⟨hw, fun x hx => ?_⟩
  rcases List.mem_append.1 hx with hx | hx
  · exact K.lo (K.only (K.lt (K.below (h.each x hx) hb)) ho hno) hto
  · obtain rfl : x = q := by simpa using hx
    exact K.lo (K.only (K.lt hq) ho hno) hto
end Go.Proofs.YtlfglibepldjpaaDoor

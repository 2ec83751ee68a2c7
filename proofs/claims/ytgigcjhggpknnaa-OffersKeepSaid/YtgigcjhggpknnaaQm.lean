/- Lines of places and what stands in them: plain maths. -/
import Derived.WalkKit
namespace Go.Proofs.Ytgigcjhggpknnaa

abbrev Ln := Int × Int × Int
abbrev Pc := Int × Int
/-- A line's first place, its last, and how many. -/
def lnOf (c : List Nat) : Ln := ((c.headD 0 : Nat), (c.getLastD 0 : Nat), (c.length : Nat))
/-- The places c are linked in that order, and hold vs. -/
def Lk (P : List Pc) : List Nat → List Int → Prop
  | [], [] => True
  | p :: c, v :: vs => P[p]? = some (v, ((c.headD 0 : Nat) : Int)) ∧ Lk P c vs
  | _, _ => False
theorem Lk.len {P : List Pc} : ∀ {c : List Nat} {vs : List Int}, Lk P c vs → c.length = vs.length
  | [], [], _ => rfl
  | p :: c, v :: vs, h => by have := Lk.len h.2; simp [this]
  | [], _ :: _, h => by cases h
  | _ :: _, [], h => by cases h
theorem Lk.set {P : List Pc} (k : Nat) (s : Pc) : ∀ {c : List Nat} {vs : List Int}, Lk P c vs → k ∉ c → Lk (P.set k s) c vs
  | [], [], _, _ => trivial
  | p :: c, v :: vs, h, hk => by
    have h1 : k ≠ p := fun e => hk (by simp [e])
    exact ⟨by rw [List.getElem?_set_ne h1]; exact h.1, Lk.set k s h.2 (fun e => hk (by simp [e]))⟩
  | [], _ :: _, h, _ => by cases h
  | _ :: _, [], h, _ => by cases h
theorem Lk.get {P : List Pc} : ∀ {c : List Nat} {vs : List Int}, Lk P c vs → ∀ (i p : Nat) (v : Int), c[i]? = some p → vs[i]? = some v → P[p]? = some (v, (((c.drop (i + 1)).headD 0 : Nat) : Int))
  | [], [], _, i, p, v, h, _ => by simp at h
  | p :: c, v :: vs, h, 0, p', v', h1, h2 => by
    obtain rfl : p = p' := by simpa using h1
    obtain rfl : v = v' := by simpa using h2
    exact h.1
  | p :: c, v :: vs, h, i + 1, p', v', h1, h2 => by
    have := Lk.get h.2 i p' v' (by simpa using h1) (by simpa using h2)
    simpa using this
  | [], _ :: _, h, _, _, _, _, _ => by cases h
  | _ :: _, [], h, _, _, _, _, _ => by cases h
/-- One more place behind a line. -/
theorem Lk.snoc {P : List Pc} (k : Nat) (x : Int) (hP : P[k]? = some (x, 0)) : ∀ {c : List Nat} {vs : List Int}, Lk P c vs → c.Nodup → k ∉ c → ∀ z y n, c.getLast? = some z → P[z]? = some (y, n) → Lk (P.set z (y, (k : Int))) (c ++ [k]) (vs ++ [x])
  | [], [], _, _, _, z, y, n, hz, _ => by simp at hz
  | [p], [v], h, _, hk, z, y, n, hz, hy => by
    obtain rfl : p = z := by simpa using hz
    have h1 : p ≠ k := fun e => hk (by simp [e])
    have hlt := (List.getElem?_eq_some_iff.1 hy).1
    have hv := h.1
    rw [hy] at hv
    cases hv
    refine ⟨by simp [hlt], by rw [List.getElem?_set_ne h1]; exact hP, trivial⟩
  | p :: p2 :: c, v :: v2 :: vs, h, hn, hk, z, y, n, hz, hy => by
    have hz' : (p2 :: c).getLast? = some z := by simpa using hz
    have hzm : z ∈ p2 :: c := List.mem_of_getLast? hz'
    have hne : z ≠ p := fun e => (List.nodup_cons.1 hn).1 (e ▸ hzm)
    have ih := Lk.snoc k x hP h.2 (List.nodup_cons.1 hn).2 (fun e => hk (by simp [e])) z y n hz' hy
    refine ⟨?_, ih⟩
    rw [List.getElem?_set_ne hne, h.1]
    rfl
  | [], _ :: _, h, _, _, _, _, _, _, _ => by cases h
  | _ :: _, [], h, _, _, _, _, _, _, _ => by cases h
  | [_], _ :: _ :: _, h, _, _, _, _, _, _, _ => by cases h.2
  | _ :: _ :: _, [_], h, _, _, _, _, _, _, _ => by cases h.2
/-- Without its first place. -/
theorem Lk.tail {P : List Pc} {p : Nat} {c : List Nat} {v : Int} {vs : List Int} (h : Lk P (p :: c) (v :: vs)) : Lk P c vs := h.2
/-- Without a place behind another one. -/
theorem Lk.out {P : List Pc} : ∀ {c1 : List Nat} {v1 : List Int} (b p : Nat) (c2 : List Nat) (u v : Int) (v2 : List Int), c1.length = v1.length → Lk P (c1 ++ b :: p :: c2) (v1 ++ u :: v :: v2) → (c1 ++ b :: p :: c2).Nodup →
    Lk (P.set b (u, ((c2.headD 0 : Nat) : Int))) (c1 ++ b :: c2) (v1 ++ u :: v2)
  | [], [], b, p, c2, u, v, v2, _, h, hn => by
    have hlt := (List.getElem?_eq_some_iff.1 h.1).1
    have hb := (List.nodup_cons.1 hn).1
    exact ⟨by simp [hlt], Lk.set b _ h.2.2 (fun e => hb (by simp [e]))⟩
  | a :: c1, w :: v1, b, p, c2, u, v, v2, hl, h, hn => by
    have ha := (List.nodup_cons.1 hn).1
    have ih := Lk.out b p c2 u v v2 (by simpa using hl) h.2 (List.nodup_cons.1 hn).2
    have hba : b ≠ a := fun e => ha (by simp [e])
    refine ⟨?_, ih⟩
    show (P.set b _)[a]? = _
    rw [List.getElem?_set_ne hba]
    refine h.1.trans ?_
    cases c1 <;> rfl
  | [], _ :: _, _, _, _, _, _, _, hl, _, _ => by simp at hl
  | _ :: _, [], _, _, _, _, _, _, hl, _, _ => by simp at hl

abbrev Ch := Nat → List Nat
abbrev Vl := Nat → List Int
def upd {α : Type} (C : Nat → α) (l : Nat) (c : α) : Nat → α := fun m => if m = l then c else C m
theorem upd_same {α : Type} (C : Nat → α) (l : Nat) (c : α) : upd C l c l = c := by simp [upd]
theorem upd_ne {α : Type} (C : Nat → α) {l m : Nat} (c : α) (h : m ≠ l) : upd C l c m = C m := by simp [upd, h]

/-- All lines of a pool, with their places and numbers. -/
structure QPS (L : List Ln) (P : List Pc) (C : Ch) (V : Vl) : Prop where
  line : ∀ l, l < 65 → L[l]? = some (lnOf (C l))
  lk : ∀ l, l < 65 → Lk P (C l) (V l)
  rng : ∀ l, l < 65 → ∀ p ∈ C l, 1 ≤ p ∧ p < 1025
  nd : ∀ l, l < 65 → (C l).Nodup
  dj : ∀ l, l < 65 → ∀ m, m < 65 → l ≠ m → ∀ p ∈ C l, p ∉ C m
section
variable {L : List Ln} {P : List Pc} {C : Ch} {V : Vl}
theorem QPS.len (h : QPS L P C V) (l : Nat) (hl : l < 65) : (C l).length = (V l).length := (h.lk l hl).len
theorem QPS.ll (h : QPS L P C V) (l : Nat) (hl : l < 65) : l < L.length := (List.getElem?_eq_some_iff.1 (h.line l hl)).1

/-- A line without its first place. -/
theorem QPS.unlink0 (h : QPS L P C V) (l : Nat) (hl : l < 65) (p : Nat) (c : List Nat) (v : Int) (vs : List Int) (hC : C l = p :: c) (hV : V l = v :: vs) :
    QPS (L.set l (lnOf c)) P (upd C l c) (upd V l vs) ∧ ∀ m, m < 65 → p ∉ upd C l c m := by
  have hn := h.nd l hl
  rw [hC] at hn
  have hlk := h.lk l hl
  rw [hC, hV] at hlk
  have hsub : ∀ m, m < 65 → ∀ x ∈ upd C l c m, x ∈ C m := by
    intro m _ x hx
    by_cases e : m = l
    · subst e
      rw [upd_same] at hx
      rw [hC]
      simp [hx]
    · rwa [upd_ne C c e] at hx
  refine ⟨⟨?_, ?_, ?_, ?_, ?_⟩, ?_⟩
  · intro m hm
    by_cases e : m = l
    · subst e
      rw [upd_same, List.getElem?_set_self (h.ll m hm)]
    · rw [upd_ne C c e, List.getElem?_set_ne (Ne.symm e)]
      exact h.line m hm
  · intro m hm
    by_cases e : m = l
    · subst e
      rw [upd_same, upd_same]
      exact hlk.2
    · rw [upd_ne C c e, upd_ne V vs e]
      exact h.lk m hm
  · exact fun m hm x hx => h.rng m hm x (hsub m hm x hx)
  · intro m hm
    by_cases e : m = l
    · subst e
      rw [upd_same]
      exact (List.nodup_cons.1 hn).2
    · rw [upd_ne C c e]
      exact h.nd m hm
  · exact fun m hm k hk hne x hx hx2 => h.dj m hm k hk hne x (hsub m hm x hx) (hsub k hk x hx2)
  · intro m hm hx
    by_cases e : m = l
    · subst e
      rw [upd_same] at hx
      exact (List.nodup_cons.1 hn).1 hx
    · rw [upd_ne C c e] at hx
      exact h.dj l hl m hm (Ne.symm e) p (by rw [hC]; simp) hx

/-- A line without a place behind another one. -/
theorem QPS.unlink1 (h : QPS L P C V) (l : Nat) (hl : l < 65) (c1 : List Nat) (b p : Nat) (c2 : List Nat) (v1 : List Int) (u v : Int) (v2 : List Int) (hC : C l = c1 ++ b :: p :: c2) (hV : V l = v1 ++ u :: v :: v2) (he : c1.length = v1.length) :
    QPS (L.set l (lnOf (c1 ++ b :: c2))) (P.set b (u, ((c2.headD 0 : Nat) : Int))) (upd C l (c1 ++ b :: c2)) (upd V l (v1 ++ u :: v2)) ∧ ∀ m, m < 65 → p ∉ upd C l (c1 ++ b :: c2) m := by
  have hn := h.nd l hl
  rw [hC] at hn
  have hlk := h.lk l hl
  rw [hC, hV] at hlk
  have hbl : b ∈ C l := by rw [hC]; simp
  have hn2 : (c1 ++ b :: c2).Nodup ∧ p ∉ c1 ++ b :: c2 := by
    rw [List.nodup_append] at hn ⊢
    obtain ⟨n1, n2, n3⟩ := hn
    have a1 := List.nodup_cons.1 n2
    have a2 := List.nodup_cons.1 a1.2
    refine ⟨⟨n1, List.nodup_cons.2 ⟨fun e => a1.1 (by simp [e]), a2.2⟩, fun x hx y hy => n3 x hx y (by
      rcases List.mem_cons.1 hy with e | e
      · simp [e]
      · simp [e])⟩, ?_⟩
    intro hp
    rcases List.mem_append.1 hp with e | e
    · exact n3 p e p (by simp) rfl
    · rcases List.mem_cons.1 e with e | e
      · exact a1.1 (by simp [e])
      · exact a2.1 e
  have hsub : ∀ m, m < 65 → ∀ x ∈ upd C l (c1 ++ b :: c2) m, x ∈ C m := by
    intro m _ x hx
    by_cases e : m = l
    · subst e
      rw [upd_same] at hx
      rw [hC]
      rcases List.mem_append.1 hx with e | e
      · simp [e]
      · rcases List.mem_cons.1 e with e | e
        · simp [e]
        · simp [e]
    · rwa [upd_ne C _ e] at hx
  refine ⟨⟨?_, ?_, ?_, ?_, ?_⟩, ?_⟩
  · intro m hm
    by_cases e : m = l
    · subst e
      rw [upd_same, List.getElem?_set_self (h.ll m hm)]
    · rw [upd_ne C _ e, List.getElem?_set_ne (Ne.symm e)]
      exact h.line m hm
  · intro m hm
    by_cases e : m = l
    · subst e
      rw [upd_same, upd_same]
      exact Lk.out b p c2 u v v2 he hlk hn
    · rw [upd_ne C _ e, upd_ne V _ e]
      exact (h.lk m hm).set b _ (h.dj l hl m hm (Ne.symm e) b hbl)
  · exact fun m hm x hx => h.rng m hm x (hsub m hm x hx)
  · intro m hm
    by_cases e : m = l
    · subst e
      rw [upd_same]
      exact hn2.1
    · rw [upd_ne C _ e]
      exact h.nd m hm
  · exact fun m hm k hk hne x hx hx2 => h.dj m hm k hk hne x (hsub m hm x hx) (hsub k hk x hx2)
  · intro m hm hx
    by_cases e : m = l
    · subst e
      rw [upd_same] at hx
      exact hn2.2 hx
    · rw [upd_ne C _ e] at hx
      exact h.dj l hl m hm (Ne.symm e) p (by rw [hC]; simp) hx

/-- A place, which is in no line, behind an empty one. -/
theorem QPS.link0 (h : QPS L P C V) (l : Nat) (hl : l < 65) (p : Nat) (x : Int) (hp : ∀ m, m < 65 → p ∉ C m) (h1 : 1 ≤ p) (h2 : p < 1025) (hP : P.length = 1025) (hC : C l = []) :
    QPS (L.set l ((p : Int), (p : Int), 1)) (P.set p (x, 0)) (upd C l (C l ++ [p])) (upd V l (V l ++ [x])) := by
  have hV : V l = [] := List.eq_nil_of_length_eq_zero (by rw [← h.len l hl, hC]; rfl)
  rw [hC, hV]
  refine ⟨?_, ?_, ?_, ?_, ?_⟩
  · intro m hm
    by_cases e : m = l
    · subst e
      rw [upd_same, List.getElem?_set_self (h.ll m hm)]
      rfl
    · rw [upd_ne C _ e, List.getElem?_set_ne (Ne.symm e)]
      exact h.line m hm
  · intro m hm
    by_cases e : m = l
    · subst e
      rw [upd_same, upd_same]
      exact ⟨by simp [hP, h2], trivial⟩
    · rw [upd_ne C _ e, upd_ne V _ e]
      exact (h.lk m hm).set p _ (hp m hm)
  · intro m hm x hx
    by_cases e : m = l
    · subst e
      rw [upd_same] at hx
      obtain rfl : x = p := by simpa using hx
      exact ⟨h1, h2⟩
    · rw [upd_ne C _ e] at hx
      exact h.rng m hm x hx
  · intro m hm
    by_cases e : m = l
    · subst e
      rw [upd_same]
      simp
    · rw [upd_ne C _ e]
      exact h.nd m hm
  · intro m hm k hk hne x hx hx2
    by_cases e : m = l
    · subst e
      rw [upd_same] at hx
      obtain rfl : x = p := by simpa using hx
      rw [upd_ne C _ (Ne.symm hne)] at hx2
      exact hp k hk hx2
    · rw [upd_ne C _ e] at hx
      by_cases e2 : k = l
      · subst e2
        rw [upd_same] at hx2
        obtain rfl : x = p := by simpa using hx2
        exact hp m hm hx
      · rw [upd_ne C _ e2] at hx2
        exact h.dj m hm k hk hne x hx hx2

/-- A place, which is in no line, behind one that has places. -/
theorem QPS.link1 (h : QPS L P C V) (l : Nat) (hl : l < 65) (p : Nat) (x : Int) (hp : ∀ m, m < 65 → p ∉ C m) (h1 : 1 ≤ p) (h2 : p < 1025) (hP : P.length = 1025) (z : Nat) (y n : Int) (hz : (C l).getLast? = some z) (hy : P[z]? = some (y, n)) :
    QPS (L.set l (((C l).headD 0 : Nat), (p : Int), ((C l).length : Nat) + 1)) ((P.set p (x, 0)).set z (y, (p : Int))) (upd C l (C l ++ [p])) (upd V l (V l ++ [x])) := by
  have hzm : z ∈ C l := List.mem_of_getLast? hz
  have hzp : p ≠ z := fun e => hp l hl (e ▸ hzm)
  refine ⟨?_, ?_, ?_, ?_, ?_⟩
  · intro m hm
    by_cases e : m = l
    · subst e
      rw [upd_same, List.getElem?_set_self (h.ll m hm)]
      have hne : C m ≠ [] := by intro e; rw [e] at hzm; cases hzm
      obtain ⟨a, r, hr⟩ := List.exists_cons_of_ne_nil hne
      rw [hr]
      simp [lnOf, List.getLastD_eq_getLast?]
      rw [← List.cons_append, List.getLast?_concat]
      rfl
    · rw [upd_ne C _ e, List.getElem?_set_ne (Ne.symm e)]
      exact h.line m hm
  · intro m hm
    by_cases e : m = l
    · subst e
      rw [upd_same, upd_same]
      exact Lk.snoc p x (by simp [hP, h2]) ((h.lk m hm).set p _ (hp m hm)) (h.nd m hm) (hp m hm) z y n hz (by rw [List.getElem?_set_ne hzp]; exact hy)
    · rw [upd_ne C _ e, upd_ne V _ e]
      exact ((h.lk m hm).set p _ (hp m hm)).set z _ (h.dj l hl m hm (Ne.symm e) z hzm)
  · intro m hm x hx
    by_cases e : m = l
    · subst e
      rw [upd_same] at hx
      rcases List.mem_append.1 hx with e | e
      · exact h.rng m hm x e
      · obtain rfl : x = p := by simpa using e
        exact ⟨h1, h2⟩
    · rw [upd_ne C _ e] at hx
      exact h.rng m hm x hx
  · intro m hm
    by_cases e : m = l
    · subst e
      rw [upd_same, List.nodup_append]
      refine ⟨h.nd m hm, by simp, ?_⟩
      intro a ha b hb e
      obtain rfl : b = p := by simpa using hb
      exact hp m hm (e ▸ ha)
    · rw [upd_ne C _ e]
      exact h.nd m hm
  · intro m hm k hk hne x hx hx2
    by_cases e : m = l
    · subst e
      rw [upd_same] at hx
      rw [upd_ne C _ (Ne.symm hne)] at hx2
      rcases List.mem_append.1 hx with e | e
      · exact h.dj m hm k hk hne x e hx2
      · obtain rfl : x = p := by simpa using e
        exact hp k hk hx2
    · rw [upd_ne C _ e] at hx
      by_cases e2 : k = l
      · subst e2
        rw [upd_same] at hx2
        rcases List.mem_append.1 hx2 with e | e
        · exact h.dj m hm k hk hne x hx e
        · obtain rfl : x = p := by simpa using e
          exact hp m hm hx
      · rw [upd_ne C _ e2] at hx2
        exact h.dj m hm k hk hne x hx hx2
end
end Go.Proofs.Ytgigcjhggpknnaa

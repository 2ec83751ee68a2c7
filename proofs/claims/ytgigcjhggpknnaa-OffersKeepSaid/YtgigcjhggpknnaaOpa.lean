/- Plain maths of offers: what a list of them tells, and how slots and lines of handles hold it. -/
import Derived.Test.YtgigcjhggpknnaaArm
import Derived.Test.YtgigcjhggpknnaaHd
import Derived.Test.YtgigcjhggpknnaaQa
namespace Go.Proofs.Ytgigcjhggpknnaa

def isW (who : Int) (x : OF) : Bool := x.w == who
def isWN (who no : Int) (x : OF) : Bool := x.w == who && x.g.n == no
/-- The offers of a process. -/
def whoO (D : List OF) (who : Int) : List OF := D.filter (isW who)
def hasO (D : List OF) (who no : Int) : Bool := D.any (isWN who no)
def drpO (D : List OF) (who no : Int) : List OF := D.eraseP (isWN who no)
def clO (D : List OF) (who : Int) : List OF := D.filter fun x => !isW who x
def onB (k o : Int) (x : OF) : Bool := x.g.k == k && x.g.o == o
def onL (D : List OF) (k o : Int) (p : Nat) : List OF := (whoO D p).filter (onB k o)
def onO (D : List OF) (k o : Int) : List OF := (List.range 16).flatMap (onL D k o)
def oRng (who : Int) : Bool := decide (who < 0) || decide (16 ≤ who)
def olkE (who : Int) : Int := if oRng who = true then 8 else 0
def putE (room : Nat) (D : List OF) (who no : Int) : Int := if oRng who = true then 8 else if hasO D who no = true then 7 else if D.length = room then 10 else 0
def putL (room : Nat) (D : List OF) (who : Int) (g : GD) : List OF := if putE room D who g.n = 0 then D ++ [⟨who, g⟩] else D
def drpE (D : List OF) (who no : Int) : Int := if oRng who = true then 8 else if hasO D who no = true then 0 else 6

theorem oRng_no {who : Int} (h : oRng who = false) : ∃ p : Nat, who = p ∧ p < 16 := by
  unfold oRng at h
  rw [Bool.or_eq_false_iff] at h
  have h1 := of_decide_eq_false h.1
  have h2 := of_decide_eq_false h.2
  exact ⟨who.toNat, by omega, by omega⟩
theorem oRng_yes {who : Int} (h : oRng who = true) : who < 0 ∨ 16 ≤ who := by
  unfold oRng at h
  rw [Bool.or_eq_true] at h
  exact h.imp of_decide_eq_true of_decide_eq_true
theorem oRng_at {p : Nat} (h : p < 16) : oRng (p : Int) = false := by
  unfold oRng
  rw [Bool.or_eq_false_iff]
  exact ⟨decide_eq_false (by omega), decide_eq_false (by omega)⟩

theorem eraseP_app {α : Type} (P : α → Bool) : ∀ l : List α, l.eraseP P = l.take (l.findIdx P) ++ l.drop (l.findIdx P + 1)
  | [] => rfl
  | a :: l => by
    cases h : P a
    · rw [List.eraseP_cons_of_neg (by simp [h]), List.findIdx_cons, h, eraseP_app P l]
      rfl
    · rw [List.eraseP_cons_of_pos h, List.findIdx_cons, h]
      rfl
/-- What is erased is of one process: of another one nothing goes. -/
theorem who_other (P : OF → Bool) (who q : Int) (hP : ∀ x, P x = true → x.w = who) (hq : q ≠ who) : ∀ D : List OF, whoO (D.eraseP P) q = whoO D q
  | [] => rfl
  | a :: D => by
    have ih := who_other P who q hP hq D
    unfold whoO at ih ⊢
    cases h : P a
    · rw [List.eraseP_cons_of_neg (by simp [h]), List.filter_cons, List.filter_cons, ih]
    · have ha : isW q a = false := by
        unfold isW
        rw [hP a h]
        exact beq_eq_false_iff_ne.2 (Ne.symm hq)
      rw [List.eraseP_cons_of_pos h, List.filter_cons, ha]
      rfl
theorem who_same (P : OF → Bool) (who : Int) (hP : ∀ x, P x = true → x.w = who) : ∀ D : List OF, whoO (D.eraseP P) who = (whoO D who).eraseP P
  | [] => rfl
  | a :: D => by
    have ih := who_same P who hP D
    unfold whoO at ih ⊢
    cases h : P a
    · rw [List.eraseP_cons_of_neg (by simp [h]), List.filter_cons, List.filter_cons, ih]
      cases ha : isW who a
      · rfl
      · rw [if_pos rfl, if_pos rfl, List.eraseP_cons_of_neg (by simp [h])]
    · have ha : isW who a = true := by
        unfold isW
        rw [hP a h]
        exact beq_self_eq_true _
      rw [List.eraseP_cons_of_pos h, List.filter_cons, ha, if_pos rfl, List.eraseP_cons_of_pos h]
theorem wn_w {who no : Int} {x : OF} (h : isWN who no x = true) : x.w = who ∧ x.g.n = no := by
  unfold isWN at h
  rw [Bool.and_eq_true] at h
  exact ⟨eq_of_beq h.1, eq_of_beq h.2⟩
theorem who_w {D : List OF} {who : Int} {x : OF} (h : x ∈ whoO D who) : x.w = who ∧ x ∈ D := by
  unfold whoO at h
  rw [List.mem_filter] at h
  exact ⟨eq_of_beq h.2, h.1⟩
/-- Where an offer of that number is: as the process's offers have it. -/
theorem has_yes {D : List OF} {who no : Int} (h : hasO D who no = true) :
    ∃ (i : Nat) (x : OF), (whoO D who)[i]? = some x ∧ x.g.n = no ∧ (∀ y ∈ (whoO D who).take i, y.g.n ≠ no) ∧ whoO (drpO D who no) who = (whoO D who).take i ++ (whoO D who).drop (i + 1) ∧ (drpO D who no).length + 1 = D.length ∧ (∀ x ∈ drpO D who no, x ∈ D) ∧ ∀ q, q ≠ who → whoO (drpO D who no) q = whoO D q := by
  have hP : ∀ x, isWN who no x = true → x.w = who := fun x hx => (wn_w hx).1
  obtain ⟨z, hz, hzp⟩ := List.any_eq_true.1 h
  have hzw : z ∈ whoO D who := List.mem_filter.2 ⟨hz, by unfold isW; rw [(wn_w hzp).1]; exact beq_self_eq_true _⟩
  have hlt : (whoO D who).findIdx (isWN who no) < (whoO D who).length := List.findIdx_lt_length.2 ⟨z, hzw, hzp⟩
  refine ⟨_, _, List.getElem?_eq_getElem hlt, (wn_w (List.findIdx_getElem (w := hlt))).2, ?_, ?_, ?_, ?_, ?_⟩
  · intro y hy e
    obtain ⟨j, hj, rfl⟩ := List.getElem_of_mem hy
    rw [List.length_take] at hj
    have hn := List.not_of_lt_findIdx (p := isWN who no) (xs := whoO D who) (i := j) (by omega)
    rw [List.getElem_take] at e
    have hw := (who_w (List.getElem_mem (l := whoO D who) (n := j) (by omega))).1
    unfold isWN at hn
    rw [hw, e] at hn
    simp at hn
  · unfold drpO
    rw [who_same _ who hP, eraseP_app]
  · have h0 : 0 < D.length := List.length_pos_of_mem hz
    have := List.length_eraseP_of_mem hz hzp
    unfold drpO
    omega
  · intro x hx
    exact List.mem_of_mem_eraseP hx
  · intro q hq
    exact who_other _ who q hP hq D
theorem has_no {D : List OF} {who no : Int} (h : hasO D who no = false) : (∀ y ∈ whoO D who, y.g.n ≠ no) ∧ drpO D who no = D := by
  have h1 : ∀ x ∈ D, isWN who no x = false := by
    intro x hx
    have := List.any_eq_false.1 h x hx
    simpa using this
  refine ⟨fun y hy e => ?_, ?_⟩
  · obtain ⟨hw, hm⟩ := who_w hy
    have := h1 y hm
    unfold isWN at this
    rw [hw, e] at this
    simp at this
  · unfold drpO
    exact List.eraseP_of_forall_not fun x hx => by rw [h1 x hx]; decide
/-- The first one of a process goes. -/
theorem cl_step {D : List OF} {who : Int} {x : OF} {q : List OF} (h : whoO D who = x :: q) :
    whoO (D.eraseP (isW who)) who = q ∧ (D.eraseP (isW who)).length + 1 = D.length ∧ (∀ y ∈ D.eraseP (isW who), y ∈ D) ∧ (∀ p, p ≠ who → whoO (D.eraseP (isW who)) p = whoO D p) ∧ clO (D.eraseP (isW who)) who = clO D who := by
  have hP : ∀ x, isW who x = true → x.w = who := fun x hx => eq_of_beq hx
  have hm : x ∈ whoO D who := by rw [h]; exact List.mem_cons_self
  obtain ⟨hw, hmD⟩ := who_w hm
  have hx : isW who x = true := by
    unfold isW
    rw [hw]
    exact beq_self_eq_true _
  refine ⟨?_, ?_, ?_, fun p hp => who_other _ who p hP hp D, ?_⟩
  · rw [who_same _ who hP, h, List.eraseP_cons_of_pos hx]
  · have h0 : 0 < D.length := List.length_pos_of_mem hmD
    have := List.length_eraseP_of_mem hmD hx
    omega
  · exact fun y hy => List.mem_of_mem_eraseP hy
  · unfold clO
    clear h hm hmD hw
    induction D with
    | nil => rfl
    | cons a D ih =>
      cases ha : isW who a
      · rw [List.eraseP_cons_of_neg (by simp [ha]), List.filter_cons, List.filter_cons, ih]
      · rw [List.eraseP_cons_of_pos ha, List.filter_cons, ha]
        rfl
theorem cl_none {D : List OF} {who : Int} (h : whoO D who = []) : clO D who = D := by
  unfold clO
  refine List.filter_eq_self.2 fun x hx => ?_
  have := List.filter_eq_nil_iff.1 h x hx
  simpa using this
theorem cl_who (D : List OF) (who q : Int) : whoO (clO D who) q = if q = who then [] else whoO D q := by
  unfold whoO clO
  rw [List.filter_filter]
  split
  · next e =>
    subst e
    refine List.filter_eq_nil_iff.2 fun x _ => ?_
    cases isW q x <;> simp
  · next e =>
    refine List.filter_congr fun x _ => ?_
    cases hq : isW q x
    · rfl
    · have : isW who x = false := by
        unfold isW at hq ⊢
        rw [eq_of_beq hq]
        exact beq_eq_false_iff_ne.2 e
      rw [this]
      rfl
theorem who_app (D : List OF) (x : OF) (q : Int) : whoO (D ++ [x]) q = whoO D q ++ if x.w = q then [x] else [] := by
  unfold whoO
  rw [List.filter_append]
  congr 1
  by_cases h : x.w = q
  · rw [if_pos h, List.filter_cons, show isW q x = true by unfold isW; rw [h]; exact beq_self_eq_true _]
    rfl
  · rw [if_neg h, List.filter_cons, show isW q x = false by unfold isW; exact beq_eq_false_iff_ne.2 h]
    rfl
theorem who_len (D : List OF) (q : Int) : (whoO D q).length ≤ D.length := List.length_filter_le _ _

/-- The handle stands for the offer. -/
def HO (τ : List Slot) (h : Int) (x : OF) : Prop := ∃ (k b : Nat), slotF h = k ∧ I64 h ∧ τ[k]? = some (genF h, some (b, x))
theorem slot_fine {h : Int} {k : Nat} (e : slotF h = k) : fineB h = true := by
  cases hf : fineB h
  · rw [slotF_no h hf] at e
    omega
  · rfl
/-- A slot's generation tells its handle. -/
theorem handle_eq {h h' : Int} {k : Nat} (e : slotF h = k) (e' : slotF h' = k) (g : genF h = genF h') : h = h' := by
  have f := slot_fine e
  have f' := slot_fine e'
  rw [slotF_of h f] at e
  rw [slotF_of h' f'] at e'
  rw [genF_of h f, genF_of h' f'] at g
  omega
theorem handle_new (g : Int) (k : Nat) (g0 : 0 ≤ g) (g1 : g < 65535) (hk : k < 4096) : slotF (4096 * (g + 1) + k) = k ∧ genF (4096 * (g + 1) + k) = g + 1 ∧ I64 (4096 * (g + 1) + k) := by
  have f : fineB (4096 * (g + 1) + k) = true := fine_of _ (by omega) (by omega)
  rw [slotF_of _ f, genF_of _ f]
  refine ⟨by omega, by omega, by omega, by omega⟩

/-- Slots and lines of handles hold these offers; no generation is beyond M. -/
structure IV (M : Nat) (τ : List Slot) (Hs : List (List Int)) (D : List OF) : Prop where
  h16 : Hs.length = 16
  who : ∀ x ∈ D, 0 ≤ x.w ∧ x.w < 16
  mt : ∀ (p : Nat) (l : List Int), Hs[p]? = some l → l.length = (whoO D p).length ∧ ∀ (i : Nat) (h : Int) (x : OF), l[i]? = some h → (whoO D p)[i]? = some x → HO τ h x
  nd : ∀ (p : Nat) (l : List Int), Hs[p]? = some l → l.Nodup
  dj : ∀ (p q : Nat) (l m : List Int), Hs[p]? = some l → Hs[q]? = some m → p ≠ q → ∀ h ∈ l, h ∉ m
  cnt : lenT τ = D.length
  sum : sumlen Hs = D.length
  gen : ∀ s ∈ τ, 0 ≤ s.1 ∧ s.1 ≤ M
section
variable {M : Nat} {τ : List Slot} {Hs : List (List Int)} {D : List OF}
theorem IV.mono (h : IV M τ Hs D) {M' : Nat} (hM : M ≤ M') : IV M' τ Hs D :=
  ⟨h.h16, h.who, h.mt, h.nd, h.dj, h.cnt, h.sum, fun s hs => ⟨(h.gen s hs).1, by have := (h.gen s hs).2; omega⟩⟩
theorem IV.new (n : Nat) : IV 0 (List.replicate n (0, none)) (List.replicate 16 []) [] := by
  have hm : ∀ (p : Nat) (l : List Int), (List.replicate 16 ([] : List Int))[p]? = some l → l = [] := fun p l hl => List.eq_of_mem_replicate (List.mem_of_getElem? hl)
  refine ⟨by simp, fun x hx => (by cases hx), fun p l hl => ?_, fun p l hl => ?_, fun p q l m hl _ _ h hh => ?_, ?_, rfl, fun s hs => ?_⟩
  · rw [hm p l hl]
    exact ⟨rfl, fun i h x hi => by simp at hi⟩
  · rw [hm p l hl]
    exact List.nodup_nil
  · rw [hm p l hl] at hh
    cases hh
  · simp [lenT, List.countP_replicate]
  · rw [List.eq_of_mem_replicate hs]
    exact ⟨Int.le_refl _, Int.le_refl _⟩
/-- Each handle of a line stands for an offer. -/
theorem IV.of (h : IV M τ Hs D) {p : Nat} {l : List Int} (hl : Hs[p]? = some l) {z : Int} (hz : z ∈ l) : ∃ x, HO τ z x := by
  obtain ⟨i, hi, rfl⟩ := List.getElem_of_mem hz
  obtain ⟨h1, h2⟩ := h.mt p l hl
  exact ⟨_, h2 i _ _ (List.getElem?_eq_getElem hi) (List.getElem?_eq_getElem (by omega))⟩
theorem IV.line (h : IV M τ Hs D) {p : Nat} (hp : p < 16) : ∃ l, Hs[p]? = some l ∧ l.length = (whoO D p).length :=
  ⟨_, List.getElem?_eq_getElem (by rw [h.h16]; exact hp), (h.mt p _ (List.getElem?_eq_getElem (by rw [h.h16]; exact hp))).1⟩
theorem IV.put (h : IV M τ Hs D) {k b : Nat} {g : Int} (hk : τ[k]? = some (g, none)) (hM : M < 65535) (hr : τ.length ≤ 4096) {p : Nat} {l : List Int} (hl : Hs[p]? = some l) (x : OF) (hx : x.w = p) :
    IV (M + 1) (τ.set k (g + 1, some (b, x))) (Hs.set p (l ++ [4096 * (g + 1) + k])) (D ++ [x]) := by
  have hg := h.gen _ (List.mem_of_getElem? hk)
  simp only at hg
  have hkl := (List.getElem?_eq_some_iff.1 hk).1
  have hpl := (List.getElem?_eq_some_iff.1 hl).1
  have h16 := h.h16
  obtain ⟨e1, e2, e3⟩ := handle_new g k hg.1 (by omega) (by omega)
  generalize hz : 4096 * (g + 1) + (k : Int) = z at e1 e2 e3
  clear hz
  have hkeep : ∀ y o, HO τ y o → HO (τ.set k (g + 1, some (b, x))) y o := by
    rintro y o ⟨k', b', s1, s2, s3⟩
    refine ⟨k', b', s1, s2, ?_⟩
    rw [List.getElem?_set_ne]
    · exact s3
    · rintro rfl
      rw [hk] at s3
      cases s3
  have hfresh : ∀ (q : Nat) (m : List Int), Hs[q]? = some m → z ∉ m := by
    intro q m hm hzm
    obtain ⟨o, k', b', s1, s2, s3⟩ := h.of hm hzm
    obtain rfl : k = k' := by omega
    rw [hk] at s3
    cases s3
  have hnew : HO (τ.set k (g + 1, some (b, x))) z x := ⟨k, b, e1, e3, by rw [List.getElem?_set_self hkl, e2]⟩
  have hcase : ∀ (q : Nat) (m : List Int), (Hs.set p (l ++ [z]))[q]? = some m → (q = p ∧ m = l ++ [z]) ∨ (q ≠ p ∧ Hs[q]? = some m) := by
    intro q m hm
    by_cases e : q = p
    · subst e
      rw [List.getElem?_set_self hpl] at hm
      exact .inl ⟨rfl, by simpa using hm.symm⟩
    · rw [List.getElem?_set_ne (Ne.symm e)] at hm
      exact .inr ⟨e, hm⟩
  refine ⟨by rw [List.length_set]; exact h.h16, ?_, ?_, ?_, ?_, ?_, ?_, ?_⟩
  · intro y hy
    rcases List.mem_append.1 hy with hy | hy
    · exact h.who y hy
    · obtain rfl : y = x := by simpa using hy
      omega
  · intro q m hm
    rw [who_app]
    rcases hcase q m hm with ⟨rfl, rfl⟩ | ⟨e, hm⟩
    · obtain ⟨h1, h2⟩ := h.mt q l hl
      rw [if_pos hx]
      refine ⟨by simp [h1], fun i y o hy ho => ?_⟩
      rcases Nat.lt_or_ge i l.length with hi | hi
      · rw [List.getElem?_append_left hi] at hy
        rw [List.getElem?_append_left (by omega)] at ho
        exact hkeep y o (h2 i y o hy ho)
      · rw [List.getElem?_append_right hi] at hy
        rw [List.getElem?_append_right (by omega)] at ho
        obtain ⟨i0, hi0⟩ : ∃ j, i - l.length = j := ⟨_, rfl⟩
        rw [hi0] at hy
        rw [← h1, hi0] at ho
        cases i0 with
        | zero =>
          obtain rfl : z = y := by simpa using hy
          obtain rfl : x = o := by simpa using ho
          exact hnew
        | succ j => simp at hy
    · obtain ⟨h1, h2⟩ := h.mt q m hm
      rw [if_neg (by omega), List.append_nil]
      exact ⟨h1, fun i y o hy ho => hkeep y o (h2 i y o hy ho)⟩
  · intro q m hm
    rcases hcase q m hm with ⟨rfl, rfl⟩ | ⟨e, hm⟩
    · rw [List.nodup_append]
      refine ⟨h.nd q l hl, by simp, fun a ha c hc => ?_⟩
      obtain rfl : c = z := by simpa using hc
      rintro rfl
      exact hfresh q l hl ha
    · exact h.nd q m hm
  · intro q r m n hm hn hqr y hy hyn
    rcases hcase q m hm with ⟨rfl, rfl⟩ | ⟨e, hm'⟩
    · rcases hcase r n hn with ⟨rfl, rfl⟩ | ⟨e, hn'⟩
      · exact hqr rfl
      · rcases List.mem_append.1 hy with hy | hy
        · exact h.dj q r l n hl hn' hqr y hy hyn
        · obtain rfl : y = z := by simpa using hy
          exact hfresh r n hn' hyn
    · rcases hcase r n hn with ⟨rfl, rfl⟩ | ⟨e2, hn'⟩
      · rcases List.mem_append.1 hyn with hyn | hyn
        · exact h.dj q r m l hm' hl hqr y hy hyn
        · obtain rfl : y = z := by simpa using hyn
          exact hfresh q m hm' hy
      · exact h.dj q r m n hm' hn' hqr y hy hyn
  · have := lenT_set τ k (g, none) (g + 1, some (b, x)) hk
    simp at this
    rw [this, h.cnt]
    simp
  · have := sumlen_set Hs p l (l ++ [z]) hl
    have hs := h.sum
    rw [List.length_append, List.length_singleton] at this ⊢
    omega
  · intro s hs
    rcases List.mem_or_eq_of_mem_set hs with hs | rfl
    · have := h.gen s hs
      omega
    · simp only
      omega
theorem nodup_out {l : List Int} (h : l.Nodup) {i : Nat} {z : Int} (hz : l[i]? = some z) : (l.take i ++ l.drop (i + 1)).Nodup ∧ z ∉ l.take i ++ l.drop (i + 1) ∧ ∀ y ∈ l.take i, y ≠ z := by
  obtain ⟨hi, rfl⟩ := List.getElem?_eq_some_iff.1 hz
  have e : l = l.take i ++ l[i] :: l.drop (i + 1) := by rw [← List.drop_eq_getElem_cons hi, List.take_append_drop]
  generalize l[i] = z at e
  generalize hA : l.take i = A at e
  generalize hB : l.drop (i + 1) = B at e
  rw [e, List.nodup_append] at h
  obtain ⟨n1, n2, n3⟩ := h
  obtain ⟨n4, n5⟩ := List.nodup_cons.1 n2
  refine ⟨List.nodup_append.2 ⟨n1, n5, fun a ha b hb => n3 a ha b (List.mem_cons_of_mem _ hb)⟩, fun hm => ?_, fun y hy => n3 y hy z List.mem_cons_self⟩
  rcases List.mem_append.1 hm with hm | hm
  · exact n3 z hm z List.mem_cons_self rfl
  · exact n4 hm
theorem out_at {α : Type} (l : List α) (i j : Nat) : (l.take i ++ l.drop (i + 1))[j]? = if j < i ∧ j < l.length then l[j]? else if i ≤ l.length then l[j + 1]? else none := by
  rcases Nat.lt_or_ge j (l.take i).length with h | h
  · rw [List.getElem?_append_left h]
    rw [List.length_take] at h
    rw [if_pos (by omega), List.getElem?_take_of_lt (by omega)]
  · rw [List.getElem?_append_right h]
    rw [List.length_take] at h ⊢
    rw [if_neg (by omega), List.getElem?_drop]
    split
    · next hi => rw [show i + 1 + (j - min i l.length) = j + 1 by omega]
    · next hi => exact List.getElem?_eq_none (by omega)
theorem IV.out (h : IV M τ Hs D) {p : Nat} {l : List Int} (hl : Hs[p]? = some l) {i : Nat} {z : Int} (hz : l[i]? = some z) {D' : List OF}
    (hp : whoO D' p = (whoO D p).take i ++ (whoO D p).drop (i + 1)) (hq : ∀ q : Int, q ≠ p → whoO D' q = whoO D q) (hn : D'.length + 1 = D.length) (hs : ∀ x ∈ D', x ∈ D) {k : Nat} (hk : slotF z = k) :
    IV M (τ.set k (genF z, none)) (Hs.set p (l.take i ++ l.drop (i + 1))) D' := by
  have hpl := (List.getElem?_eq_some_iff.1 hl).1
  have hil := (List.getElem?_eq_some_iff.1 hz).1
  have hzl := List.mem_of_getElem? hz
  obtain ⟨h1, h2⟩ := h.mt p l hl
  obtain ⟨n1, n2, n3⟩ := nodup_out (h.nd p l hl) hz
  have hzo : HO τ z _ := h2 i z _ hz (List.getElem?_eq_getElem (by omega))
  obtain ⟨k0, b0, s1, s2, s3⟩ := hzo
  obtain rfl : k = k0 := by omega
  have hkl := (List.getElem?_eq_some_iff.1 s3).1
  have hkeep : ∀ y o, y ≠ z → HO τ y o → HO (τ.set k (genF z, none)) y o := by
    rintro y o hne ⟨k', b', t1, t2, t3⟩
    refine ⟨k', b', t1, t2, ?_⟩
    rw [List.getElem?_set_ne]
    · exact t3
    · rintro rfl
      rw [s3] at t3
      have hg : genF z = genF y := by injection t3 with e; injection e
      exact hne (handle_eq t1 s1 hg.symm)
  have hcase : ∀ (q : Nat) (m : List Int), (Hs.set p (l.take i ++ l.drop (i + 1)))[q]? = some m → (q = p ∧ m = l.take i ++ l.drop (i + 1)) ∨ (q ≠ p ∧ Hs[q]? = some m) := by
    intro q m hm
    by_cases e : q = p
    · subst e
      rw [List.getElem?_set_self hpl] at hm
      exact .inl ⟨rfl, by simpa using hm.symm⟩
    · rw [List.getElem?_set_ne (Ne.symm e)] at hm
      exact .inr ⟨e, hm⟩
  have hsub : ∀ y ∈ l.take i ++ l.drop (i + 1), y ∈ l := by
    intro y hy
    rcases List.mem_append.1 hy with hy | hy
    · exact List.mem_of_mem_take hy
    · exact List.mem_of_mem_drop hy
  refine ⟨by rw [List.length_set]; exact h.h16, fun x hx => h.who x (hs x hx), ?_, ?_, ?_, ?_, ?_, ?_⟩
  · intro q m hm
    rcases hcase q m hm with ⟨rfl, rfl⟩ | ⟨e, hm⟩
    · rw [hp]
      refine ⟨by simp [List.length_take, List.length_drop, h1], fun j y o hy ho => ?_⟩
      have hne : y ≠ z := fun e => n2 (e ▸ List.mem_of_getElem? hy)
      rw [out_at] at hy ho
      by_cases hj : j < i
      · rw [if_pos ⟨hj, by omega⟩] at hy ho
        exact hkeep y o hne (h2 j y o hy ho)
      · rw [if_neg (by omega), if_pos (by omega)] at hy ho
        exact hkeep y o hne (h2 (j + 1) y o hy ho)
    · rw [hq q (by omega)]
      obtain ⟨g1, g2⟩ := h.mt q m hm
      exact ⟨g1, fun j y o hy ho => hkeep y o (fun e2 => h.dj q p m l hm hl e y (List.mem_of_getElem? hy) (e2 ▸ hzl)) (g2 j y o hy ho)⟩
  · intro q m hm
    rcases hcase q m hm with ⟨rfl, rfl⟩ | ⟨e, hm⟩
    · exact n1
    · exact h.nd q m hm
  · intro q r m n hm hn hqr y hy hyn
    rcases hcase q m hm with ⟨rfl, rfl⟩ | ⟨e, hm'⟩
    · rcases hcase r n hn with ⟨rfl, rfl⟩ | ⟨e, hn'⟩
      · exact hqr rfl
      · exact h.dj q r l n hl hn' hqr y (hsub y hy) hyn
    · rcases hcase r n hn with ⟨rfl, rfl⟩ | ⟨e2, hn'⟩
      · exact h.dj q r m l hm' hl hqr y hy (hsub y hyn)
      · exact h.dj q r m n hm' hn' hqr y hy hyn
  · have := lenT_set τ k _ (genF z, none) s3
    simp at this
    have hc := h.cnt
    omega
  · have := sumlen_set Hs p l (l.take i ++ l.drop (i + 1)) hl
    have hs := h.sum
    have hlen : (l.take i ++ l.drop (i + 1)).length + 1 = l.length := by
      rw [List.length_append, List.length_take, List.length_drop]
      omega
    omega
  · intro s hs
    rcases List.mem_or_eq_of_mem_set hs with hs | rfl
    · exact h.gen s hs
    · have := h.gen _ (List.mem_of_getElem? s3)
      exact this
end
end Go.Proofs.Ytgigcjhggpknnaa

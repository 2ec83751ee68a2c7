/- Plain maths of rolls' steps: what one more, one less, one that waits, come to; an array of sixteen bools; whether a roll is full; pairs of small numbers as an argument's rows. -/
import Derived.Test.YtibhaiciameklaaDoorRlf
import Derived.LoopTactic
namespace Go.Proofs.YtibhaiciameklaaDoor
open Go.RowKit

def rEnr (r : RL) (q : Nat) : RL := ⟨r.m.uni (S4.only q), r.a⟩
def rRes (r : RL) (q : Nat) : RL := ⟨r.m.les (S4.only q), r.a.les (S4.only q)⟩
def rOff (r : RL) (q : Nat) : RL := ⟨r.m, if r.m.has q = true then r.a.uni (S4.only q) else r.a⟩
def rWth (r : RL) (q : Nat) : RL := ⟨r.m, r.a.les (S4.only q)⟩
theorem has_nat (s : S4) (q : Nat) (hq : q < 16) : hasL s.ints q = s.has q := hasL_rise s.has q (by omega)
theorem uni_only (s : S4) (q i : Nat) (hi : i < 256) : (s.uni (S4.only q)).has i = (s.has i || decide (i = q)) := by
  rw [uni_has _ _ _ hi, only_has _ _ hi]
  congr 1
  rw [decide_eq_decide]
  omega
theorem les_only (s : S4) (q i : Nat) (hi : i < 256) : (s.les (S4.only q)).has i = (s.has i && !decide (i = q)) := by
  rw [les_has _ _ _ hi, only_has _ _ hi]
  congr 2
  rw [decide_eq_decide]
  omega
theorem uni_in {s : S4} {q : Nat} (hq : q < 16) (h : s.has q = true) : s.uni (S4.only q) = s := S4.ext_has fun i hi => by
  rw [uni_only _ _ _ hi]
  by_cases e : i = q
  · subst e; rw [h]; simp
  · simp [e]
theorem les_out {s : S4} {q : Nat} (h : s.has q = false) : s.les (S4.only q) = s := S4.ext_has fun i hi => by
  rw [les_only _ _ _ hi]
  by_cases e : i = q
  · subst e; rw [h]; simp
  · simp [e]
theorem enr_eq {r : RL} (hf : rlFine r = true) {q : Nat} (hq : q < 16) : rlEnrol r q = (rEnr r q, if r.m.has q = true then 7 else 0) := by
  unfold rlEnrol rEnr
  rw [if_neg (by rw [err_ok hf (by omega) (by omega)]; decide), has_nat _ _ hq]
  cases h : r.m.has q
  · rw [if_neg (by decide), if_neg (by decide)]
  · rw [if_pos rfl, if_pos rfl, uni_in hq h]
theorem res_eq {r : RL} (hf : rlFine r = true) {q : Nat} (hq : q < 16) : rlResign r q = (rRes r q, if r.m.has q = true then 0 else 6) := by
  unfold rlResign rRes
  rw [if_neg (by rw [err_ok hf (by omega) (by omega)]; decide), has_nat _ _ hq]
  cases h : r.m.has q
  · rw [if_pos rfl, if_neg (by decide), les_out h, les_out (by
      cases h2 : r.a.has q
      · rfl
      · rw [((fine_has r).1 hf).2 q (by omega) h2] at h; cases h)]
  · rw [if_neg (by decide), if_pos rfl]
theorem off_eq {r : RL} (hf : rlFine r = true) {q : Nat} (hq : q < 16) : rlOffer r q = (rOff r q, if r.m.has q = true then (if r.a.has q = true then 7 else 0) else 6) := by
  unfold rlOffer rOff
  rw [if_neg (by rw [err_ok hf (by omega) (by omega)]; decide), has_nat _ _ hq, has_nat _ _ hq]
  cases h : r.m.has q
  · rw [if_pos rfl, if_neg (by decide), if_neg (by decide)]
  · rw [if_neg (by decide), if_pos rfl, if_pos rfl]
    cases h2 : r.a.has q
    · rw [if_neg (by decide), if_neg (by decide)]
    · rw [if_pos rfl, if_pos rfl, uni_in hq h2]
theorem wth_eq {r : RL} (hf : rlFine r = true) {q : Nat} (hq : q < 16) : rlWith r q = (rWth r q, r.a.has q) := by
  unfold rlWith rWth
  rw [if_neg (by rw [hf]; decide), has_nat _ _ hq]
  cases h : r.a.has q
  · rw [if_pos rfl, les_out h]
  · rw [if_neg (by decide)]
theorem enr_fine {r : RL} (hf : rlFine r = true) {q : Nat} (hq : q < 16) : rlFine (rEnr r q) = true := by
  obtain ⟨h1, h2⟩ := (fine_has r).1 hf
  refine (fine_has _).2 ⟨fun i hi h => ?_, fun i hi h => ?_⟩
  · change (r.m.uni (S4.only q)).has i = true at h
    rw [uni_only _ _ _ hi, Bool.or_eq_true, decide_eq_true_iff] at h
    rcases h with h | h
    · exact h1 i hi h
    · omega
  · change (r.m.uni (S4.only q)).has i = true
    rw [uni_only _ _ _ hi, h2 i hi h, Bool.true_or]
theorem res_fine {r : RL} (hf : rlFine r = true) (q : Nat) : rlFine (rRes r q) = true := by
  obtain ⟨h1, h2⟩ := (fine_has r).1 hf
  refine (fine_has _).2 ⟨fun i hi h => ?_, fun i hi h => ?_⟩
  · change (r.m.les (S4.only q)).has i = true at h
    rw [les_only _ _ _ hi, Bool.and_eq_true] at h
    exact h1 i hi h.1
  · change (r.a.les (S4.only q)).has i = true at h
    change (r.m.les (S4.only q)).has i = true
    rw [les_only _ _ _ hi, Bool.and_eq_true] at h
    rw [les_only _ _ _ hi, h2 i hi h.1, h.2, Bool.true_and]
theorem off_fine {r : RL} (hf : rlFine r = true) (q : Nat) : rlFine (rOff r q) = true := by
  obtain ⟨h1, h2⟩ := (fine_has r).1 hf
  refine (fine_has _).2 ⟨h1, fun i hi h => ?_⟩
  change (if r.m.has q = true then r.a.uni (S4.only q) else r.a).has i = true at h
  change r.m.has i = true
  split at h
  · next hm =>
    rw [uni_only _ _ _ hi, Bool.or_eq_true, decide_eq_true_iff] at h
    rcases h with h | h
    · exact h2 i hi h
    · rw [h]; exact hm
  · exact h2 i hi h
theorem wth_fine {r : RL} (hf : rlFine r = true) (q : Nat) : rlFine (rWth r q) = true := by
  obtain ⟨h1, h2⟩ := (fine_has r).1 hf
  refine (fine_has _).2 ⟨h1, fun i hi h => ?_⟩
  change (r.a.les (S4.only q)).has i = true at h
  rw [les_only _ _ _ hi, Bool.and_eq_true] at h
  exact h2 i hi h.1
theorem go_fine {r : RL} (hf : rlFine r = true) : rlFine ⟨r.m, S4.zero⟩ = true := by
  obtain ⟨h1, _⟩ := (fine_has r).1 hf
  exact (fine_has _).2 ⟨h1, fun i hi h => by change S4.zero.has i = true at h; rw [zero_has] at h; cases h⟩
theorem zero_fine : rlFine RL.zero = true := by kernel_rfl

/-! An array of sixteen bools. -/
def bC (f : Nat → Bool) : List Value := (List.range 16).map fun i => .bool (f i)
abbrev bF : List Value := [.bool false, .bool false, .bool false, .bool false, .bool false, .bool false, .bool false, .bool false, .bool false, .bool false, .bool false, .bool false, .bool false, .bool false, .bool false, .bool false]
theorem bC_zero : bC S4.zero.has = bF := by
  unfold bC
  rw [show (fun i => Value.bool (S4.zero.has i)) = fun _ => Value.bool false from funext fun i => by rw [zero_has]]
  rfl
theorem bC_len (f : Nat → Bool) : (bC f).length = 16 := by simp [bC]
theorem bC_get (f : Nat → Bool) (q : Nat) (hq : q < 16) : (bC f)[q]? = some (.bool (f q)) := by
  simp [bC, List.getElem?_range hq]
theorem bC_one (f : Nat → Bool) : ∀ v ∈ bC f, v.oneCell' = true := by
  intro v hv
  obtain ⟨i, _, rfl⟩ := List.mem_map.1 hv
  rfl
theorem bC_set {f g : Nat → Bool} {q : Nat} {v : Bool} (hv : g q = v) (h : ∀ i, i < 16 → i ≠ q → g i = f i) : (bC f).set q (.bool v) = bC g := by
  apply List.ext_getElem?
  intro i
  by_cases e : i < 16
  · rw [bC_get g i e, List.getElem?_set]
    by_cases hi : q = i
    · subst hi
      rw [if_pos rfl, if_pos (by rw [bC_len]; exact e), hv]
    · rw [if_neg hi, bC_get f i e, h i e (fun k => hi k.symm)]
  · rw [List.getElem?_eq_none (by rw [List.length_set, bC_len]; omega), List.getElem?_eq_none (by rw [bC_len]; omega)]
theorem bC_same {f g : Nat → Bool} (h : ∀ i, i < 16 → g i = f i) : bC f = bC g := by
  unfold bC
  exact List.map_congr_left fun i hi => by rw [h i (List.mem_range.1 hi)]
theorem in_enr (r : RL) {q : Nat} (hq : q < 16) : (bC r.m.has).set q (.bool true) = bC (rEnr r q).m.has :=
  bC_set (by show (r.m.uni (S4.only q)).has q = true; rw [uni_only _ _ _ (by omega)]; simp) (fun i hi hn => by show (r.m.uni (S4.only q)).has i = r.m.has i; rw [uni_only _ _ _ (by omega)]; simp [hn])
theorem drop_set (s : S4) {q : Nat} (hq : q < 16) : (bC s.has).set q (.bool false) = bC (s.les (S4.only q)).has :=
  bC_set (by rw [les_only _ _ _ (by omega)]; simp) (fun i hi hn => by rw [les_only _ _ _ (by omega)]; simp [hn])
theorem at_off {r : RL} (hf : rlFine r = true) {q : Nat} (hq : q < 16) : (bC r.a.has).set q (.bool (r.m.has q)) = bC (rOff r q).a.has := by
  refine bC_set ?_ (fun i hi hn => ?_)
  · show (if r.m.has q = true then r.a.uni (S4.only q) else r.a).has q = r.m.has q
    cases h : r.m.has q
    · rw [if_neg (by decide)]
      cases h2 : r.a.has q
      · rfl
      · rw [((fine_has r).1 hf).2 q (by omega) h2] at h; cases h
    · rw [if_pos rfl, uni_only _ _ _ (by omega)]; simp
  · show (if r.m.has q = true then r.a.uni (S4.only q) else r.a).has i = r.a.has i
    split
    · rw [uni_only _ _ _ (by omega)]; simp [hn]
    · rfl

/-! Whether somebody of the first j is enrolled, and all that are wait. -/
def someN (r : RL) (j : Nat) : Bool := (List.range j).any r.m.has
def allN (r : RL) (j : Nat) : Bool := (List.range j).all fun i => r.a.has i == r.m.has i
theorem some_next (r : RL) (j : Nat) : someN r (j + 1) = (someN r j || r.m.has j) := by simp [someN, List.range_succ]
theorem all_next (r : RL) (j : Nat) : allN r (j + 1) = (allN r j && (r.a.has j == r.m.has j)) := by simp [allN, List.range_succ]
theorem full_16 {r : RL} (hf : rlFine r = true) : rlFull r = (someN r 16 && allN r 16) := by
  obtain ⟨h1, h2⟩ := (fine_has r).1 hf
  unfold rlFull
  rw [hf, Bool.true_and]
  congr 1
  · rw [Bool.eq_iff_iff, Bool.not_eq_true', eqb_no]
    unfold someN
    rw [List.any_eq_true]
    constructor
    · intro hn
      apply Classical.byContradiction
      intro hno
      refine hn (S4.ext_has fun i hi => ?_)
      rw [zero_has]
      cases h : r.m.has i
      · rfl
      · exact absurd ⟨i, List.mem_range.2 (h1 i hi h), h⟩ hno
    · rintro ⟨i, hi, h⟩ e
      rw [e, zero_has] at h
      cases h
  · rw [Bool.eq_iff_iff, eqb_iff]
    unfold allN
    rw [List.all_eq_true]
    constructor
    · intro e i _
      rw [e]
      simp
    · intro h
      refine S4.ext_has fun i hi => ?_
      by_cases hl : i < 16
      · have := h i (List.mem_range.2 hl)
        simpa using this
      · have e1 : r.m.has i = false := by
          cases h3 : r.m.has i
          · rfl
          · exact absurd (h1 i hi h3) hl
        cases h4 : r.a.has i
        · exact e1.symm
        · exact (h2 i hi h4).symm
theorem full_same {r : RL} (h : rlFull r = true) : r.a = r.m := by
  unfold rlFull at h
  simp only [Bool.and_eq_true] at h
  exact eqb_iff.1 h.2.2
theorem fire_eq {r : RL} (hf : rlFine r = true) (h : rlFull r = true) : rlFire r = (⟨r.m, S4.zero⟩, r.m.ints, 0) := by
  unfold rlFire
  rw [if_neg (by rw [hf]; decide), if_neg (by rw [h]; decide), full_same h]

theorem TabD.only {S : Nat → Prop} {w w' : World} (h : TabD w) (ho : Only S w w') (hs : ¬ S 0) : TabD w' := fun j hj =>
  (World.cell?_of_block (ho.block _ (tab_lt h) hs)).trans (h j hj)
abbrev Pr := Int × Int
def prV (p : Pr) : List Value := [.int .u8 p.1, .int .u8 p.2]
def PrOk (p : Pr) : Prop := 0 ≤ p.1 ∧ p.1 ≤ 255 ∧ 0 ≤ p.2 ∧ p.2 ≤ 255
theorem RD.pr {w : World} {pl : Nat → Prop} {A : Option Addr} {n : Nat} {L : List Pr} (h : RD w pl 2 A n (L.flatMap prV)) (hn : L.length = n) (k : Nat) (hk : k < n) :
    ∃ b o p, A = some ⟨b, o, none⟩ ∧ b < w.heap.size ∧ L[k]? = some p ∧ w.cell? ⟨b, o + k * 2, none⟩ = some (.int .u8 p.1) ∧ w.cell? ⟨b, o + k * 2 + 1, none⟩ = some (.int .u8 p.2) := by
  obtain ⟨b, o, e, _, h1, h2⟩ := h.at_ (by omega)
  have hL : L[k]? = some L[k] := List.getElem?_eq_getElem (by omega)
  refine ⟨b, o, L[k], e, h1, hL, h2 (k * 2) _ ?_, ?_⟩
  · have := flat_get prV 2 (fun _ => rfl) L k 0 _ hL (by omega)
    rw [Nat.add_zero] at this
    rw [this]; rfl
  · have := flat_get prV 2 (fun _ => rfl) L k 1 _ hL (by omega)
    rw [Nat.add_assoc]
    exact h2 (k * 2 + 1) _ (by rw [this]; rfl)
end Go.Proofs.YtibhaiciameklaaDoor

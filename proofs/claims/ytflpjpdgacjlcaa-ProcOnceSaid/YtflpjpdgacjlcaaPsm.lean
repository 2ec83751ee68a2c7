/- Plain maths of the law on whoever comes and goes: what stands in the table, in what was given, in who is open. -/
import Derived.Test.YtflpjpdgacjlcaaPra
namespace Go.Proofs.Ytflpjpdgacjlcaa
open Go Go.RowKit

structure OI (L : List PR) (G O : List Int) (i : Int) : Prop where
  fine : fineT L = true
  i0 : 0 ≤ i
  modes : ∀ q ∈ L, q.live = true → q.mode = 0
  gens : ∀ q ∈ L, q.gen ≤ i
  giv : ∀ x ∈ G, ∃ (k : Nat) (q : PR) (g : Int), L[k]? = some q ∧ x = 4096 * g + k ∧ g ≤ q.gen
  opn : ∀ x, x ∈ O ↔ ∃ (k : Nat) (q : PR), L[k]? = some q ∧ q.live = true ∧ x = 4096 * q.gen + k
  nd : O.Nodup
  cnt : O.length = L.countP (·.live)

theorem fine_set {L : List PR} (h : fineT L = true) (k : Nat) {q : PR} (hq : mayP q = true) : fineT (L.set k q) = true := by
  have hl := fineT_len h
  have ha := fineT_all h
  unfold fineT
  rw [List.length_set, hl]
  simp only [decide_true, Bool.true_and, List.all_eq_true]
  intro x hx
  rcases List.mem_or_eq_of_mem_set hx with hx | rfl
  · exact ha x hx
  · exact hq
theorem lt_of_at {L : List PR} {k : Nat} {q : PR} (h : L[k]? = some q) : k < L.length := (List.getElem?_eq_some_iff.1 h).1
theorem slot_of {g : Int} {k : Nat} (hg : 1 ≤ g ∧ g ≤ 65535) (hk : k < 16) : slotF (4096 * g + k) = k ∧ genF (4096 * g + k) = g := by
  have hb : fineB (4096 * g + k) = true := fine_of _ (by omega) (by omega)
  rw [slotF_of _ hb, genF_of _ hb]
  omega
theorem find_at {L : List PR} (hf : fineT L = true) {k : Nat} {q : PR} (hk : L[k]? = some q) (hl : q.live = true) : findT L (4096 * q.gen + k) = ((k : Int), 0) ∧ handleT L k = 4096 * q.gen + k := by
  have h16 := fineT_len hf
  have hlt := lt_of_at hk
  have hm := fineT_all hf q (List.mem_of_getElem? hk)
  have hg := may_gen hm
  have hg0 := (may_live hm hl).1
  obtain ⟨s1, s2⟩ := slot_of (g := q.gen) (k := k) (by omega) (by omega)
  constructor
  · unfold findT
    rw [s1, s2, if_neg (by rw [hf]; decide), if_neg (by omega), getP_of hk, if_pos ⟨hl, rfl⟩]
  · unfold handleT
    have ht : thereT L (k : Nat) = true := by
      unfold thereT
      rw [decide_eq_true (by omega), decide_eq_true (by omega), getP_of hk, hl]
      rfl
    rw [if_pos ⟨hf, ht⟩, getP_of hk, makeH_of _ _ (by omega)]
theorem OI.find {L : List PR} {G O : List Int} {i : Int} (h : OI L G O i) {x : Int} (hx : x ∈ O) : ∃ (k : Nat) (q : PR), L[k]? = some q ∧ q.live = true ∧ x = 4096 * q.gen + k ∧ findT L x = ((k : Int), 0) ∧ handleT L k = x := by
  obtain ⟨k, q, hk, hl, rfl⟩ := (h.opn x).1 hx
  obtain ⟨a, b⟩ := find_at h.fine hk hl
  exact ⟨k, q, hk, hl, rfl, a, b⟩
theorem pls_count (p : PR → Bool) (L : List PR) : ∀ k, k ≤ L.length → (plsT p L k).length = (L.take k).countP (fun q => q.live && p q)
  | 0, _ => rfl
  | k + 1, hk => by
    have hlt : k < L.length := by omega
    have hg := List.getElem?_eq_getElem hlt
    rw [plsT_next, List.length_append, pls_count p L k (by omega), List.take_add_one, hg, List.countP_append, getP_of hg]
    congr 1
    cases hc : (L[k].live && p L[k])
    · simp [hc]
    · simp [hc]
theorem OI.handles {L : List PR} {G O : List Int} {i : Int} (h : OI L G O i) : (handlesT L).length = O.length := by
  unfold handlesT
  rw [if_pos h.fine, List.length_map, pls_count _ _ _ (by rw [fineT_len h.fine]; exact Nat.le_refl _), List.take_of_length_le (by rw [fineT_len h.fine]; exact Nat.le_refl _), h.cnt]
  refine List.countP_congr fun q hq => ?_
  cases hl : q.live
  · simp
  · simp [h.modes q hq hl]
theorem oi_start : OI (List.replicate 16 (PR.nil 0)) [] [] 0 where
  fine := by kernel_rfl
  i0 := Int.le_refl _
  modes := fun q hq _ => by rw [List.eq_of_mem_replicate hq]; rfl
  gens := fun q hq => by rw [List.eq_of_mem_replicate hq]; exact Int.le_refl _
  giv := fun x hx => absurd hx (by simp)
  opn := fun x => ⟨fun hx => absurd hx (by simp), fun ⟨k, q, hk, hl, _⟩ => by
    rw [List.eq_of_mem_replicate (List.mem_of_getElem? hk)] at hl
    cases hl⟩
  nd := List.nodup_nil
  cnt := by rw [List.countP_replicate]; rfl
theorem may_new {g arg : Int} (h0 : 0 ≤ g) (h1 : g < 65535) (hw : fineW arg = true) : mayP (PR.new (g + 1) 0 arg) = true := by
  have hF : (newF arg).1 = { FR.zero with regs := [arg, 0, 0, 0, 0, 0, 0, 0] } := by unfold newF; rw [if_pos hw]
  have hff : fineF (newF arg).1 = true := by
    rw [hF]
    unfold fineF
    simp only [FR.zero]
    rw [show ([arg, 0, 0, 0, 0, 0, 0, 0] : List Int).all fineW = fineW arg by simp [fineW]]
    rw [hw]
    rfl
  unfold mayP
  rw [show (PR.new (g + 1) 0 arg).live = true from rfl, show (PR.new (g + 1) 0 arg).gen = g + 1 from rfl, decide_eq_false (by omega), decide_eq_false (by omega), if_pos rfl]
  unfold liveP
  rw [show (PR.new (g + 1) 0 arg).gen = g + 1 from rfl, show (PR.new (g + 1) 0 arg).frm = (newF arg).1 from rfl, hff, decide_eq_true (by omega)]
  rfl
theorem may_nil {g : Int} (h0 : 0 ≤ g) (h1 : g ≤ 65535) : mayP (PR.nil g) = true := by
  unfold mayP
  rw [show (PR.nil g).gen = g from rfl, decide_eq_false (by omega), decide_eq_false (by omega)]
  rfl
theorem may_end {q : PR} (h : mayP q = true) (hl : q.live = true) (how : Int) : mayP (prEnd how q) = true := by
  have hg := may_gen h
  have k := may_live h hl
  unfold mayP
  rw [show (prEnd how q).gen = q.gen from rfl, show (prEnd how q).live = q.live from rfl, hl, decide_eq_false (by omega), decide_eq_false (by omega), if_pos rfl]
  unfold liveP
  rw [show (prEnd how q).gen = q.gen from rfl, show (prEnd how q).frm = q.frm from rfl, k.2.2.2.1, decide_eq_true k.1]
  rfl
theorem OI.later {L : List PR} {G O : List Int} {i : Int} (h : OI L G O i) : OI L G O (i + 1) :=
  ⟨h.fine, by have := h.i0; omega, h.modes, fun q hq => by have := h.gens q hq; omega, h.giv, h.opn, h.nd, h.cnt⟩

theorem oi_spawn {L : List PR} {G O : List Int} {i : Int} (h : OI L G O i) (hi : i ≤ 80) :
    ∃ L' hh ee, spawnT L 0 i = (L', hh, ee) ∧ ((ee = 0) ↔ O.length < 16) ∧ (ee = 0 → hh ∉ G ∧ OI L' (G ++ [hh]) (O ++ [hh]) (i + 1)) ∧ (ee ≠ 0 → L' = L) := by
  have h0 := h.i0
  have hw : fineW i = true := fineW_of i (by omega) (by omega)
  have h16 := fineT_len h.fine
  unfold spawnT
  rw [if_neg (by rw [h.fine]; decide), if_neg (by rw [hw]; decide)]
  by_cases hidx : prIdx isFree L < 0
  · rw [if_pos hidx]
    refine ⟨L, 0, 10, rfl, ⟨fun e => absurd e (by decide), fun hlt => ?_⟩, fun e => absurd e (by decide), fun _ => rfl⟩
    exfalso
    have hany : L.any isFree = false := by
      have := prIdx_geq isFree L
      rw [decide_eq_false (by omega)] at this
      exact this.symm
    have hall : L.countP (·.live) = L.length := List.countP_eq_length.2 fun q hq => by
      have hq' := List.any_eq_false.1 hany q hq
      have := h.gens q hq
      cases hl : q.live
      · exact absurd (by unfold isFree; rw [hl, decide_eq_true (by omega)]; rfl) hq'
      · rfl
    have := h.cnt
    omega
  · rw [if_neg hidx]
    obtain ⟨hlt, hfree⟩ := prIdx_is (p := isFree) (l := L) (by omega)
    obtain ⟨k, hk⟩ : ∃ k : Nat, prIdx isFree L = k := ⟨(prIdx isFree L).toNat, by omega⟩
    rw [hk] at hlt hfree ⊢
    have hkl : k < L.length := by omega
    have hat := List.getElem?_eq_getElem hkl
    rw [getP_of hat] at hfree
    rw [getP_of hat, Int.toNat_natCast]
    obtain ⟨q, hq⟩ : ∃ q, L[k] = q := ⟨_, rfl⟩
    rw [hq] at hat hfree ⊢
    have hmem := List.mem_of_getElem? hat
    have hlv : q.live = false := by
      unfold isFree at hfree
      simp only [Bool.and_eq_true, Bool.not_eq_true'] at hfree
      exact hfree.1
    have hge := h.gens q hmem
    have hg := may_gen (fineT_all h.fine q hmem)
    have hmk : makeH (k : Int) (q.gen + 1) = 4096 * (q.gen + 1) + k := makeH_of _ _ (by omega)
    rw [hmk]
    refine ⟨_, _, 0, rfl, ⟨fun _ => ?_, fun _ => rfl⟩, fun _ => ⟨fun hG => ?_, ?_⟩, fun e => absurd rfl e⟩
    · have hle := List.countP_le_length (p := fun q : PR => q.live) (l := L)
      have hne : L.countP (·.live) ≠ L.length := fun e => by
        have := List.countP_eq_length.1 e q hmem
        rw [hlv] at this
        cases this
      have := h.cnt
      omega
    · obtain ⟨j, r, g, hj, he, hgr⟩ := h.giv _ hG
      have hjl := lt_of_at hj
      have : j = k := by omega
      subst this
      rw [hat] at hj
      obtain rfl := Option.some.inj hj
      omega
    · have hset : ∀ (j : Nat) (r : PR), (L.set k (PR.new (q.gen + 1) 0 i))[j]? = some r → (j = k ∧ r = PR.new (q.gen + 1) 0 i) ∨ (j ≠ k ∧ L[j]? = some r) := fun j r hj => by
        by_cases e : k = j
        · subst e
          rw [List.getElem?_set_self hkl] at hj
          exact .inl ⟨rfl, (Option.some.inj hj).symm⟩
        · rw [List.getElem?_set_ne e] at hj
          exact .inr ⟨fun e' => e e'.symm, hj⟩
      refine ⟨fine_set h.fine k (may_new hg.1 (by omega) hw), by omega, fun r hr hl => ?_, fun r hr => ?_, fun x hx => ?_, fun x => ⟨fun hx => ?_, fun hx => ?_⟩, ?_, ?_⟩
      · rcases List.mem_or_eq_of_mem_set hr with hr | rfl
        · exact h.modes r hr hl
        · rfl
      · rcases List.mem_or_eq_of_mem_set hr with hr | rfl
        · have := h.gens r hr
          omega
        · show q.gen + 1 ≤ i + 1
          omega
      · rcases List.mem_append.1 hx with hx | hx
        · obtain ⟨j, r, g, hj, he, hgr⟩ := h.giv x hx
          by_cases e : k = j
          · subst e
            rw [hat] at hj
            obtain rfl := Option.some.inj hj
            exact ⟨k, _, g, List.getElem?_set_self hkl, he, by show g ≤ q.gen + 1; omega⟩
          · exact ⟨j, r, g, by rw [List.getElem?_set_ne e]; exact hj, he, hgr⟩
        · obtain rfl : x = 4096 * (q.gen + 1) + k := by simpa using hx
          exact ⟨k, _, q.gen + 1, List.getElem?_set_self hkl, rfl, Int.le_refl _⟩
      · rcases List.mem_append.1 hx with hx | hx
        · obtain ⟨j, r, hj, hl, he⟩ := (h.opn x).1 hx
          have e : k ≠ j := fun e => by
            subst e
            rw [hat] at hj
            obtain rfl := Option.some.inj hj
            rw [hlv] at hl
            cases hl
          exact ⟨j, r, by rw [List.getElem?_set_ne e]; exact hj, hl, he⟩
        · obtain rfl : x = 4096 * (q.gen + 1) + k := by simpa using hx
          exact ⟨k, _, List.getElem?_set_self hkl, rfl, rfl⟩
      · obtain ⟨j, r, hj, hl, he⟩ := hx
        rcases hset j r hj with ⟨rfl, rfl⟩ | ⟨_, hj'⟩
        · exact List.mem_append.2 (.inr (by rw [he]; exact List.mem_singleton.2 rfl))
        · exact List.mem_append.2 (.inl ((h.opn x).2 ⟨j, r, hj', hl, he⟩))
      · rw [List.nodup_append]
        refine ⟨h.nd, by simp, fun a ha b hb e => ?_⟩
        obtain rfl : b = 4096 * (q.gen + 1) + k := by simpa using hb
        subst e
        obtain ⟨j, r, hj, hl, he⟩ := (h.opn _).1 ha
        have hjl := lt_of_at hj
        have : j = k := by omega
        subst this
        rw [hat] at hj
        obtain rfl := Option.some.inj hj
        rw [hlv] at hl
        cases hl
      · rw [List.length_append, h.cnt, List.countP_set hkl, hq]
        simp only [hlv, show (PR.new (q.gen + 1) 0 i).live = true from rfl]
        simp

theorem oi_reap {L : List PR} {G O : List Int} {i : Int} (h : OI L G O i) (hi : i ≤ 80) (m : Nat) (x : Int) (hx : O[m]? = some x) :
    ∃ (k : Nat) (L1 L2 : List PR), findT L x = ((k : Int), 0) ∧ endT (prEnd i) L k = (L1, 0) ∧ reapT L1 x = (L2, i, 0) ∧ OI L2 G (O.eraseIdx m) (i + 1) := by
  obtain ⟨k, q, hk, hl, rfl, hf, hh⟩ := h.find (List.mem_of_getElem? hx)
  have hkl := lt_of_at hk
  have hmem := List.mem_of_getElem? hk
  have hmay := fineT_all h.fine q hmem
  have hg := may_gen hmay
  have hm0 := h.modes q hmem hl
  have h0 := h.i0
  have h16 := fineT_len h.fine
  have hth : thereT L (k : Nat) = true := by
    unfold thereT
    rw [decide_eq_true (by omega), decide_eq_true (by omega), getP_of hk, hl]
    rfl
  have hset1 : (L.set k (prEnd i q))[k]? = some (prEnd i q) := List.getElem?_set_self hkl
  have hf1 : fineT (L.set k (prEnd i q)) = true := fine_set h.fine k (may_end hmay hl i)
  have hfind1 := (find_at hf1 hset1 (show (prEnd i q).live = true from hl)).1
  rw [show (prEnd i q).gen = q.gen from rfl] at hfind1
  refine ⟨k, L.set k (prEnd i q), L.set k (PR.nil q.gen), hf, ?_, ?_, ?_⟩
  · unfold endT
    rw [if_neg (by rw [h.fine]; decide), if_neg (by rw [hth]; decide), getP_of hk, if_pos hm0, Int.toNat_natCast]
  · unfold reapT
    rw [hfind1]
    simp only [if_true]
    rw [getP_of hset1, if_pos (show (prEnd i q).mode = 3 from rfl), Int.toNat_natCast, List.set_set]
    rfl
  · have hml := (List.getElem?_eq_some_iff.1 hx).1
    have hxm : O[m] = 4096 * q.gen + k := (List.getElem?_eq_some_iff.1 hx).2
    have herase : ∀ y, y ∈ O.eraseIdx m ↔ y ∈ O ∧ y ≠ 4096 * q.gen + k := fun y => by
      rw [List.mem_eraseIdx_iff_getElem?]
      constructor
      · rintro ⟨j, hj, hy⟩
        refine ⟨List.mem_of_getElem? hy, fun e => hj ?_⟩
        rw [e, ← hx] at hy
        exact (List.getElem?_inj (List.getElem?_eq_some_iff.1 (hy.trans hx)).1 h.nd).1 hy
      · rintro ⟨hy, hne⟩
        obtain ⟨j, hj⟩ := List.mem_iff_getElem?.1 hy
        refine ⟨j, fun e => hne ?_, hj⟩
        rw [e, hx] at hj
        exact (Option.some.inj hj).symm
    refine ⟨fine_set h.fine k (may_nil hg.1 hg.2), by omega, fun r hr hl' => ?_, fun r hr => ?_, fun y hy => ?_, fun y => ⟨fun hy => ?_, fun hy => ?_⟩, h.nd.sublist (List.eraseIdx_sublist _ _), ?_⟩
    · rcases List.mem_or_eq_of_mem_set hr with hr | rfl
      · exact h.modes r hr hl'
      · cases hl'
    · rcases List.mem_or_eq_of_mem_set hr with hr | rfl
      · have := h.gens r hr
        omega
      · have := h.gens q hmem
        show q.gen ≤ i + 1
        omega
    · obtain ⟨j, r, g, hj, he, hgr⟩ := h.giv y hy
      by_cases e : k = j
      · subst e
        rw [hk] at hj
        obtain rfl := Option.some.inj hj
        exact ⟨k, _, g, List.getElem?_set_self hkl, he, hgr⟩
      · exact ⟨j, r, g, by rw [List.getElem?_set_ne e]; exact hj, he, hgr⟩
    · obtain ⟨hy1, hy2⟩ := (herase y).1 hy
      obtain ⟨j, r, hj, hl', he⟩ := (h.opn y).1 hy1
      have e : k ≠ j := fun e => by
        subst e
        rw [hk] at hj
        obtain rfl := Option.some.inj hj
        exact hy2 he
      exact ⟨j, r, by rw [List.getElem?_set_ne e]; exact hj, hl', he⟩
    · obtain ⟨j, r, hj, hl', he⟩ := hy
      by_cases e : k = j
      · subst e
        rw [List.getElem?_set_self hkl] at hj
        obtain rfl := Option.some.inj hj
        cases hl'
      · rw [List.getElem?_set_ne e] at hj
        refine (herase y).2 ⟨(h.opn y).2 ⟨j, r, hj, hl', he⟩, fun e' => ?_⟩
        have hjl := lt_of_at hj
        exact e (by omega)
    · have hLk : L[k] = q := (List.getElem?_eq_some_iff.1 hk).2
      rw [List.length_eraseIdx_of_lt hml, h.cnt, List.countP_set hkl, hLk]
      simp only [hl, show (PR.nil q.gen).live = false from rfl]
      simp
end Go.Proofs.Ytflpjpdgacjlcaa

/- Plain maths of a table: new ones, what guards do, what may happen, whom it hits, who leaves. -/
import Derived.Test.YtnmjjemkaamcfaaYa
namespace Go.Proofs.Ytnmjjemkaamcfaa

/-- What a channel is to be, as plain data. -/
structure CF where
  (k r i o : Int)
def cfC (c : CF) : List Value := [.int .i64 c.k, .int .i64 c.r, .int .i64 c.i, .int .i64 c.o]
theorem cfC_len (c : CF) : (cfC c).length = 4 := rfl
def cfE (c : CF) : Int := ccE c.k c.r c.i c.o
def cfN (c : CF) : CP := chNew c.k c.r c.i c.o
/-- The first one that may not be. -/
def newRun : Nat → List CF → Nat × Int
  | _, [] => (0, 0)
  | i, c :: l => if cfE c = 0 then newRun (i + 1) l else (i, cfE c)
def newR (l : List CF) : Nat × Int := if 8 < l.length then (8, 5) else newRun 0 l
def newL (l : List CF) : List CP := if (newR l).2 = 0 then l.map cfN else []
theorem newRun_step {i : Nat} {c : CF} {l : List CF} (h : cfE c = 0) : newRun i (c :: l) = newRun (i + 1) l := by
  show (if cfE c = 0 then _ else _) = _
  rw [if_pos h]
theorem newRun_stop {i : Nat} {c : CF} {l : List CF} (h : cfE c ≠ 0) : newRun i (c :: l) = (i, cfE c) := by
  show (if cfE c = 0 then _ else _) = _
  rw [if_neg h]
/-- The table behind the first k. -/
def newQ (l : List CF) (k : Nat) : List CQ := (l.take k).map (fun c => (cfN c, SM.nil)) ++ List.replicate (l.length - k) zeroQ
theorem newQ_len (l : List CF) (k : Nat) (hk : k ≤ l.length) : (newQ l k).length = l.length := by
  unfold newQ
  simp
  omega
theorem ln_take_snoc {α : Type} (L : List α) (k : Nat) (h : k < L.length) : L.take (k + 1) = L.take k ++ [L[k]] := by
  rw [List.take_add_one, List.getElem?_eq_getElem h]
  rfl
theorem newQ_next (l : List CF) (k : Nat) (hk : k < l.length) : (newQ l k).set k (cfN l[k], SM.nil) = newQ l (k + 1) := by
  unfold newQ
  have e : l.length - k = (l.length - (k + 1)) + 1 := by omega
  rw [List.set_append_right _ _ (by simp; omega)]
  have h0 : k - ((l.take k).map (fun c => (cfN c, SM.nil))).length = 0 := by simp; omega
  rw [h0, e, List.replicate_succ, List.set_cons_zero, ln_take_snoc l k hk, List.map_append, List.append_assoc]
  rfl


/-- A guard, as plain data. -/
structure GD where
  (k o v r n : Int)
def gdC (g : GD) : List Value := [.int .i64 g.k, .int .i64 g.o, .int .i64 g.v, .int .i64 g.r, .int .i64 g.n]
theorem gdC_len (g : GD) : (gdC g).length = 5 := rfl
theorem gdC_one (g : GD) : ∀ v ∈ gdC g, v.oneCell' = true := by
  intro v hv
  simp only [gdC, List.mem_cons, List.not_mem_nil, or_false] at hv
  rcases hv with rfl | rfl | rfl | rfl | rfl <;> rfl
def gdSh (C : CP) (k : Int) : Bool := bif k == 1 then C.is else C.os
def gdE1 (C : CP) (p : Int) (g : GD) : Int := bif g.k == 1 then chRecvE C p else chSendE C p g.v
def gdN1 (C : CP) (p : Int) (g : GD) : CP := bif g.k == 1 then chRecv C p else chSend C p g.v
def inT (Cs : List CP) (o : Int) : Bool := decide (0 ≤ o) && decide (o < (Cs.length : Int))
def gdE (Cs : List CP) (p : Int) (al : Bool) (g : GD) : Int :=
  if inT Cs g.o = false then 8 else if (al && gdSh (Cs.getD g.o.toNat chZero) g.k) = true then 12 else gdE1 (Cs.getD g.o.toNat chZero) p g
def gdL (Cs : List CP) (p : Int) (al : Bool) (g : GD) : List CP := if gdE Cs p al g = 0 then Cs.set g.o.toNat (gdN1 (Cs.getD g.o.toNat chZero) p g) else Cs
def gdOff (g : GD) : Bool := (g.k != 1) && (g.k != 2)
/-- What offers do, guard by guard. -/
def offRun (p : Int) (al : Bool) : List CP → Nat → List GD → List CP × Nat × Int
  | Cs, _, [] => (Cs, 0, 0)
  | Cs, i, g :: gs => if gdOff g = true then offRun p al Cs (i + 1) gs else if gdE Cs p al g = 0 then offRun p al (gdL Cs p al g) (i + 1) gs else (Cs, i, gdE Cs p al g)
theorem offRun_skip {p : Int} {al : Bool} {Cs : List CP} {i : Nat} {g : GD} {gs : List GD} (h : gdOff g = true) : offRun p al Cs i (g :: gs) = offRun p al Cs (i + 1) gs := by
  show (if gdOff g = true then _ else _) = _
  rw [if_pos h]
theorem offRun_step {p : Int} {al : Bool} {Cs : List CP} {i : Nat} {g : GD} {gs : List GD} (h : gdOff g = false) (h0 : gdE Cs p al g = 0) : offRun p al Cs i (g :: gs) = offRun p al (gdL Cs p al g) (i + 1) gs := by
  show (if gdOff g = true then _ else _) = _
  rw [if_neg (by rw [h]; decide), if_pos h0]
theorem offRun_stop {p : Int} {al : Bool} {Cs : List CP} {i : Nat} {g : GD} {gs : List GD} (h : gdOff g = false) (h0 : gdE Cs p al g ≠ 0) : offRun p al Cs i (g :: gs) = (Cs, i, gdE Cs p al g) := by
  show (if gdOff g = true then _ else _) = _
  rw [if_neg (by rw [h]; decide), if_neg h0]
/-- Its lists are at most so long. -/
def fewC (b : Nat) (C : CP) : Prop := C.V.length ≤ b ∧ C.W.length ≤ b ∧ C.S.length ≤ b ∧ C.G.length ≤ b
theorem fewC.mono {a b : Nat} {C : CP} (h : fewC a C) (hab : a ≤ b) : fewC b C := by
  unfold fewC at h ⊢
  omega
theorem fewC.recv {b : Nat} {C : CP} (h : fewC b C) (p : Int) : fewC (b + 1) (chRecv C p) := by
  unfold fewC at h ⊢
  unfold chRecv
  split
  · refine ⟨?_, ?_, ?_, ?_⟩ <;> simp <;> omega
  · omega
theorem fewC.send {b : Nat} {C : CP} (h : fewC b C) (p v : Int) : fewC (b + 1) (chSend C p v) := by
  unfold fewC at h ⊢
  unfold chSend
  split
  · refine ⟨?_, ?_, ?_, ?_⟩ <;> simp <;> omega
  · omega
theorem fewC.step {b : Nat} {C : CP} (h : fewC b C) (p : Int) (g : GD) : fewC (b + 1) (gdN1 C p g) := by
  unfold gdN1
  cases g.k == 1
  · exact h.send p g.v
  · exact h.recv p
theorem fewC.leave {b : Nat} {C : CP} (h : fewC b C) (p : Int) : fewC b (chLeave C p) := by
  obtain ⟨h1, h2, h3, h4⟩ := chLeave_few C p
  unfold fewC at h ⊢
  rw [h1]
  omega
theorem fewC.new (b : Nat) (c : CF) : fewC b (cfN c) := by
  unfold cfN chNew
  cases ccE c.k c.r c.i c.o == 0 <;> exact ⟨Nat.zero_le _, Nat.zero_le _, Nat.zero_le _, Nat.zero_le _⟩
theorem fewC.few {b : Nat} {w : World} {pl : Nat → Prop} {C : CP} {M : SM} (h : fewC b C) (hb : b ≤ 1000) (hw : ChW w pl C M) : ChFew M := ChFew.of hw (by unfold fewC at h; omega)
def fewL (b : Nat) (L : List CQ) : Prop := ∀ q ∈ L, fewC b q.1
theorem fewL.mono {a b : Nat} {L : List CQ} (h : fewL a L) (hab : a ≤ b) : fewL b L := fun q hq => (h q hq).mono hab

/-- All moves that may happen. -/
def mvL : Nat → List CP → List (Nat × Int)
  | _, [] => []
  | i, C :: l => (chWhat C).map (fun m => (i, m)) ++ mvL (i + 1) l
def mvC (m : Nat × Int) : List Value := [.int .i64 m.1, .int .i64 m.2]
theorem mvC_len (m : Nat × Int) : (mvC m).length = 2 := rfl
theorem mvL_snoc (C : CP) : ∀ (l : List CP) (i : Nat), mvL i (l ++ [C]) = mvL i l ++ (chWhat C).map (fun m => (i + l.length, m))
  | [], i => by simp [mvL]
  | D :: l, i => by
    show _ ++ mvL (i + 1) (l ++ [C]) = (_ ++ mvL (i + 1) l) ++ _
    rw [mvL_snoc C l (i + 1), List.append_assoc, List.length_cons, show i + 1 + l.length = i + (l.length + 1) by omega]
theorem mvL_len : ∀ (l : List CP) (i : Nat), (mvL i l).length ≤ 3 * l.length
  | [], _ => by simp [mvL]
  | C :: l, i => by
    have := mvL_len l (i + 1)
    have h3 := chWhat_len C
    simp only [mvL, List.length_append, List.length_map, List.length_cons]
    omega
/-- The channels by which p is hit. -/
def hitL (p : Int) : Nat → List CP → List Int
  | _, [] => []
  | i, C :: l => (if chHit C p = true then [(i : Int)] else []) ++ hitL p (i + 1) l
theorem hitL_snoc (p : Int) (C : CP) : ∀ (l : List CP) (i : Nat), hitL p i (l ++ [C]) = hitL p i l ++ (if chHit C p = true then [((i + l.length : Nat) : Int)] else [])
  | [], i => by simp [hitL]
  | D :: l, i => by
    show _ ++ hitL p (i + 1) (l ++ [C]) = (_ ++ hitL p (i + 1) l) ++ _
    rw [hitL_snoc p C l (i + 1), List.append_assoc, List.length_cons, show i + 1 + l.length = i + (l.length + 1) by omega]
theorem hitL_len (p : Int) : ∀ (l : List CP) (i : Nat), (hitL p i l).length ≤ l.length
  | [], _ => by simp [hitL]
  | C :: l, i => by
    have := hitL_len p l (i + 1)
    simp only [hitL, List.length_append, List.length_cons]
    split
    · simp only [List.length_cons, List.length_nil]; omega
    · simp only [List.length_nil]; omega
/-- What Do tells. -/
def doT (Cs : List CP) (c m : Int) : Int := if inT Cs c = false then 8 else chDoE (Cs.getD c.toNat chZero) m
theorem mem_what {C : CP} {m : Int} : m ∈ chWhat C ↔ chFine C = true ∧ chMay C m = true := by
  unfold chWhat
  cases hf : chFine C
  · simp
  · rw [if_pos rfl]
    constructor
    · intro h
      refine ⟨rfl, ?_⟩
      cases h1 : chMay C 1 <;> cases h2 : chMay C 2 <;> cases h3 : chMay C 3 <;> simp [h1, h2, h3] at h
      all_goals first
        | (subst h; assumption)
        | (rcases h with h | h <;> subst h <;> assumption)
        | (rcases h with h | h | h <;> subst h <;> assumption)
    · rintro ⟨_, h⟩
      rcases chMay_is h with rfl | rfl | rfl <;> simp [h]
theorem doE_zero {C : CP} {m : Int} : chDoE C m = 0 ↔ m ∈ chWhat C := by
  rw [mem_what]
  unfold chDoE
  cases chFine C <;> cases chMay C m <;> simp
theorem mem_mvL {x : Nat × Int} : ∀ (l : List CP) (i : Nat), x ∈ mvL i l ↔ ∃ j C, l[j]? = some C ∧ x.1 = i + j ∧ x.2 ∈ chWhat C
  | [], i => by simp [mvL]
  | C :: l, i => by
    obtain ⟨a, b⟩ := x
    rw [mvL, List.mem_append, mem_mvL l (i + 1), List.mem_map]
    constructor
    · rintro (⟨m, hm, e⟩ | ⟨j, D, h1, h2, h3⟩)
      · cases e
        exact ⟨0, C, rfl, by simp, hm⟩
      · refine ⟨j + 1, D, by simpa using h1, ?_, h3⟩
        simp only at h2 ⊢
        omega
    · rintro ⟨j, D, h1, h2, h3⟩
      rcases j with _ | j
      · obtain rfl : C = D := by simpa using h1
        refine .inl ⟨b, h3, ?_⟩
        simp only [Nat.add_zero] at h2
        rw [h2]
      · refine .inr ⟨j, D, by simpa using h1, ?_, h3⟩
        simp only at h2 ⊢
        omega
/-- A move is one of those that are told just if it can be done. -/
theorem told_iff (Cs : List CP) (c m : Int) : (mvL 0 Cs).any (fun x => (x.1 : Int) == c && x.2 == m) = (doT Cs c m == 0) := by
  apply Bool.eq_iff_iff.2
  rw [List.any_eq_true, beq_iff_eq]
  unfold doT inT
  constructor
  · rintro ⟨⟨a, b⟩, hx, he⟩
    simp only [Bool.and_eq_true, beq_iff_eq] at he
    obtain ⟨rfl, rfl⟩ := he
    obtain ⟨j, C, h1, h2, h3⟩ := (mem_mvL Cs 0).1 hx
    simp only [Nat.zero_add] at h2 h3
    subst h2
    have hj := (List.getElem?_eq_some_iff.1 h1).1
    rw [decide_eq_true (by omega), decide_eq_true (by omega), if_neg (by decide), Int.toNat_natCast, List.getD_eq_getElem?_getD, h1]
    exact doE_zero.2 h3
  · intro h
    by_cases h0 : 0 ≤ c
    · by_cases h1 : c < (Cs.length : Int)
      · rw [decide_eq_true h0, decide_eq_true h1, if_neg (by decide)] at h
        have hl : c.toNat < Cs.length := by omega
        rw [List.getD_eq_getElem?_getD, List.getElem?_eq_getElem hl] at h
        refine ⟨(c.toNat, m), (mem_mvL Cs 0).2 ⟨c.toNat, Cs[c.toNat], List.getElem?_eq_getElem hl, by simp, doE_zero.1 h⟩, ?_⟩
        simp
        omega
      · rw [decide_eq_false h1, Bool.and_false, if_pos rfl] at h
        cases h
    · rw [decide_eq_false h0, Bool.false_and, if_pos rfl] at h
      cases h
theorem ln_out {sh : Bool} {L : List Int} {p : Int} (h : lnFine sh L = true) : p ∉ lnLeaveL sh L p := by
  have hg : lnGood L = true := by
    unfold lnFine at h
    rw [Bool.and_eq_true] at h
    exact h.2
  have hn := ((lnGood_iff L).1 hg).2
  unfold lnLeaveL lnThere
  rw [h]
  by_cases hp : p ∈ L
  · rw [if_pos (by simpa using hp)]
    have hi := ixN_mem.2 hp
    have hget := ixN_get hi
    have hsplit : L = L.take (ixN L p) ++ p :: L.drop (ixN L p + 1) := by
      conv => lhs; rw [← List.take_append_drop (ixN L p) L, List.drop_eq_getElem_cons hi, hget]
    rw [hsplit] at hn
    rw [List.nodup_append] at hn
    obtain ⟨_, h2, h3⟩ := hn
    rw [List.mem_append]
    rintro (k | k)
    · exact h3 p k p (by simp) rfl
    · exact (List.nodup_cons.1 h2).1 k
  · rw [if_neg (by simpa using hp)]
    exact hp
/-- Who leaves waits nowhere. -/
theorem leave_out {C : CP} {p : Int} (h : chFine (chLeave C p) = true) : p ∉ (chLeave C p).W ∧ p ∉ (chLeave C p).G := by
  cases hf : chFine C
  · have e : chLeave C p = C := by unfold chLeave; rw [if_neg (by rw [hf]; decide)]
    rw [e, hf] at h
    cases h
  · have e : (chLeave C p).W = lnLeaveL C.os C.W p ∧ (chLeave C p).G = lnLeaveL C.is C.G p := by
      unfold chLeave
      rw [if_pos hf]
      exact ⟨rfl, rfl⟩
    rw [e.1, e.2]
    exact ⟨ln_out (chOk hf).lw, ln_out (chOk hf).lg⟩
end Go.Proofs.Ytnmjjemkaamcfaa

/- Plain maths of tables of barriers: what package bartab's calls come to. Package bartab: slices.Clone of barriers, the closures, change and one. Package bartab: change and one, whatever function is handed in. -/
import Derived.Test.YtlfglibepldjpaaDoorBrf
import Derived.Test.YtlfglibepldjpaaDoorTa
import Derived.Test.YtlfglibepldjpaaDoorBrc
import Derived.Lib.SliceRun
import Derived.Great.BuildSlice
namespace Go.Proofs.YtlfglibepldjpaaDoor

/-- A guard, as plain data. (tab/XYb has GD, gdC too: one or the other in a seat.) -/
structure GD where
  (k o v r n : Int)
def gdC (g : GD) : List Value := [.int .i64 g.k, .int .i64 g.o, .int .i64 g.v, .int .i64 g.r, .int .i64 g.n]
theorem gdC_len (g : GD) : (gdC g).length = 5 := rfl
theorem gdC_one (g : GD) : ∀ v ∈ gdC g, v.oneCell' = true := by
  intro v hv
  simp only [gdC, List.mem_cons, List.not_mem_nil, or_false] at hv
  rcases hv with rfl | rfl | rfl | rfl | rfl <;> rfl
/-- What a barrier is to be. -/
abbrev CB := Bool × Int
def cbC (c : CB) : List Value := [.bool c.1, .int .i64 c.2]
theorem cbC_len (c : CB) : (cbC c).length = 2 := rfl
theorem cbC_one (c : CB) : ∀ v ∈ cbC c, v.oneCell' = true := by
  intro v hv
  simp only [cbC, List.mem_cons, List.not_mem_nil, or_false] at hv
  rcases hv with rfl | rfl <;> rfl
def cbN (c : CB) : BR := brNew c.1 c.2

def tIn (n : Nat) (b : Int) : Bool := decide (0 ≤ b) && decide (b < (n : Int))
theorem tIn_neg {n : Nat} {b : Int} (h : b < 0) : tIn n b = false := by unfold tIn; rw [decide_eq_false (by omega)]; rfl
theorem tIn_over {n : Nat} {b : Int} (h : (n : Int) ≤ b) : tIn n b = false := by unfold tIn; rw [decide_eq_false (show ¬ b < (n : Int) by omega), Bool.and_false]
theorem tIn_at {n k : Nat} (h : k < n) : tIn n (k : Int) = true := by unfold tIn; rw [decide_eq_true (by omega), decide_eq_true (by omega)]; rfl
theorem tIn_cases (n : Nat) (b : Int) : b < 0 ∨ (0 ≤ b ∧ (n : Int) ≤ b) ∨ ∃ k : Nat, b = k ∧ k < n := by
  rcases (by omega : b < 0 ∨ (0 ≤ b ∧ (n : Int) ≤ b) ∨ (0 ≤ b ∧ b < (n : Int))) with h | h | h
  · exact .inl h
  · exact .inr (.inl h)
  · exact .inr (.inr ⟨b.toNat, by omega, by omega⟩)
/-- One barrier is changed. -/
def tOne (f : BR → BR × Int) (L : List BR) (b : Int) : List BR × Int :=
  if tIn L.length b = false then (L, 8) else if (f (L.getD b.toNat BR.zero)).2 = 0 then (L.set b.toNat (f (L.getD b.toNat BR.zero)).1, 0) else (L, (f (L.getD b.toNat BR.zero)).2)
theorem tOne_no {f : BR → BR × Int} {L : List BR} {b : Int} (h : tIn L.length b = false) : tOne f L b = (L, 8) := if_pos h
theorem getD_at {L : List BR} {k : Nat} {q : BR} (h : L[k]? = some q) : L.getD k BR.zero = q := by rw [List.getD_eq_getElem?_getD, h]; rfl
theorem getD_at' {L : List BR} {k : Nat} {q : BR} (h : L[k]? = some q) : L.getD (k : Int).toNat BR.zero = q := by rw [Int.toNat_natCast]; exact getD_at h
theorem lt_at {L : List BR} {k : Nat} {q : BR} (h : L[k]? = some q) : k < L.length := (List.getElem?_eq_some_iff.1 h).1
theorem tOne_ok {f : BR → BR × Int} {L : List BR} {k : Nat} {q R : BR} (h : L[k]? = some q) (hf : f q = (R, 0)) : tOne f L (k : Int) = (L.set k R, 0) := by
  unfold tOne
  rw [getD_at' h, hf, if_neg (by rw [tIn_at (lt_at h)]; decide), if_pos rfl, Int.toNat_natCast]
theorem tOne_err {f : BR → BR × Int} {L : List BR} {k : Nat} {q R : BR} {x : Int} (h : L[k]? = some q) (hf : f q = (R, x)) (hx : x ≠ 0) : tOne f L (k : Int) = (L, x) := by
  unfold tOne
  rw [getD_at' h, hf, if_neg (by rw [tIn_at (lt_at h)]; decide), if_neg hx]
theorem tOne_same {f : BR → BR × Int} {L : List BR} {b : Int} (h : (tOne f L b).2 ≠ 0) : (tOne f L b).1 = L := by
  unfold tOne at h ⊢
  split
  · rfl
  · next h1 =>
    rw [if_neg h1] at h
    split
    · next h2 =>
      rw [if_pos h2] at h
      exact absurd rfl h
    · rfl
theorem tOne_len (f : BR → BR × Int) (L : List BR) (b : Int) : (tOne f L b).1.length = L.length := by
  unfold tOne
  split
  · rfl
  · split
    · simp
    · rfl
/-- Who waits by guards. -/
def offR (p : Int) (al : Bool) (T : List BR) : List BR → Nat → List GD → List BR × Nat × Int
  | L, _, [] => (L, 0, 0)
  | L, i, g :: gs => if g.k ≠ 3 then offR p al T L (i + 1) gs else if (tOne (brOffer · p al) L g.o).2 = 0 then offR p al T (tOne (brOffer · p al) L g.o).1 (i + 1) gs else (T, i, (tOne (brOffer · p al) L g.o).2)
theorem offR_skip {p : Int} {al : Bool} {T L : List BR} {i : Nat} {g : GD} {gs : List GD} (h : g.k ≠ 3) : offR p al T L i (g :: gs) = offR p al T L (i + 1) gs := by
  show (if _ then _ else _) = _
  rw [if_pos h]
theorem offR_ok {p : Int} {al : Bool} {T L L2 : List BR} {i : Nat} {g : GD} {gs : List GD} (h : g.k = 3) (h2 : tOne (brOffer · p al) L g.o = (L2, 0)) : offR p al T L i (g :: gs) = offR p al T L2 (i + 1) gs := by
  show (if _ then _ else _) = _
  rw [if_neg (by rw [h]; decide), h2, if_pos rfl]
theorem offR_err {p : Int} {al : Bool} {T L L2 : List BR} {i : Nat} {g : GD} {gs : List GD} {x : Int} (h : g.k = 3) (h2 : tOne (brOffer · p al) L g.o = (L2, x)) (hx : x ≠ 0) : offR p al T L i (g :: gs) = (T, i, x) := by
  show (if _ then _ else _) = _
  rw [if_neg (by rw [h]; decide), h2, if_neg hx]
theorem offR_len (p : Int) (al : Bool) (T : List BR) (n : Nat) (hT : T.length = n) : ∀ (gs : List GD) (L : List BR) (i : Nat), L.length = n → (offR p al T L i gs).1.length = n
  | [], _, _, h => h
  | g :: gs, L, i, h => by
    show (if g.k ≠ 3 then _ else _ : List BR × Nat × Int).1.length = n
    split
    · exact offR_len p al T n hT gs L (i + 1) h
    · split
      · exact offR_len p al T n hT gs _ (i + 1) (by rw [tOne_len]; exact h)
      · exact hT
theorem offR_refused (p : Int) (al : Bool) (T : List BR) : ∀ (gs : List GD) (L : List BR) (i : Nat), (offR p al T L i gs).2.2 ≠ 0 → (offR p al T L i gs).1 = T
  | [], _, _, h => absurd rfl h
  | g :: gs, L, i, h => by
    revert h
    show (if g.k ≠ 3 then _ else _ : List BR × Nat × Int).2.2 ≠ 0 → (if g.k ≠ 3 then _ else _ : List BR × Nat × Int).1 = T
    split
    · exact offR_refused p al T gs L (i + 1)
    · split
      · exact offR_refused p al T gs _ (i + 1)
      · exact fun _ => rfl
def tLeave (L : List BR) (p : Int) : List BR := L.map (brWith · p)
def tQuit (L : List BR) (p : Int) : List BR := L.map fun b => (brResign b p).1
theorem resign_same {b : BR} {p : Int} (h : (brResign b p).2 ≠ 0) : (brResign b p).1 = b := by
  unfold brResign at h ⊢
  split
  · rfl
  · next h1 =>
    rw [if_neg h1] at h
    have h2 : (rlResign b.r p).1 = b.r := by
      have h3 : (rlResign b.r p).2 ≠ 0 := h
      unfold rlResign at h3 ⊢
      split
      · rfl
      · next h4 =>
        rw [if_neg h4] at h3
        split
        · rfl
        · next h5 =>
          rw [if_neg h5] at h3
          exact absurd rfl h3
    show b.put (rlResign b.r p).1 = b
    rw [h2]
    rfl
theorem quit_one (L : List BR) (k : Nat) (q : BR) (p : Int) (h : L[k]? = some q) : tOne (brResign · p) L (k : Int) = (L.set k (brResign q p).1, (brResign q p).2) := by
  by_cases hx : (brResign q p).2 = 0
  · rw [tOne_ok (R := (brResign q p).1) h (by rw [← hx]), hx]
  · rw [tOne_err (R := (brResign q p).1) (x := (brResign q p).2) h rfl hx, resign_same hx]
    congr 1
    refine List.ext_getElem? fun j => ?_
    rw [List.getElem?_set]
    split
    · next e =>
      subst e
      rw [if_pos (lt_at h), h]
    · rfl
/-- Which are ready. -/
def rdyL : Nat → List BR → List Int
  | _, [] => []
  | i, b :: L => (if brReady b = true then [(i : Int)] else []) ++ rdyL (i + 1) L
theorem rdyL_snoc : ∀ (L : List BR) (i : Nat) (b : BR), rdyL i (L ++ [b]) = rdyL i L ++ (if brReady b = true then [((i + L.length : Nat) : Int)] else [])
  | [], i, b => by simp [rdyL]
  | c :: L, i, b => by
    show (if brReady c = true then [(i : Int)] else []) ++ rdyL (i + 1) (L ++ [b]) = _
    rw [rdyL_snoc L (i + 1) b, ← List.append_assoc]
    congr 2
    rw [List.length_cons, show i + 1 + L.length = i + (L.length + 1) by omega]
theorem rdyL_len : ∀ (L : List BR) (i : Nat), (rdyL i L).length ≤ L.length
  | [], _ => Nat.le_refl _
  | c :: L, i => by
    have := rdyL_len L (i + 1)
    show ((if brReady c = true then [(i : Int)] else []) ++ rdyL (i + 1) L).length ≤ _
    rw [List.length_append, List.length_cons]
    split
    · simp; omega
    · simp; omega
theorem rdyL_mem : ∀ (L : List BR) (i : Nat) (x : Int), x ∈ rdyL i L ↔ ∃ k q, L[k]? = some q ∧ brReady q = true ∧ x = ((i + k : Nat) : Int)
  | [], i, x => by simp [rdyL]
  | c :: L, i, x => by
    show x ∈ (if brReady c = true then [(i : Int)] else []) ++ rdyL (i + 1) L ↔ _
    rw [List.mem_append, rdyL_mem L (i + 1) x]
    constructor
    · rintro (h | ⟨k, q, h1, h2, h3⟩)
      · split at h
        · next hc => exact ⟨0, c, rfl, hc, by simpa using h⟩
        · simp at h
      · exact ⟨k + 1, q, h1, h2, by rw [h3]; congr 1; omega⟩
    · rintro ⟨k, q, h1, h2, h3⟩
      cases k with
      | zero =>
        left
        obtain rfl : c = q := by simpa using h1
        rw [if_pos h2]
        simpa using h3
      | succ k => exact .inr ⟨k, q, by simpa using h1, h2, by rw [h3]; congr 1; omega⟩
/-- One that is fired. -/
def fireF (b : BR) : BR × Int := ((brFire b).1, (brFire b).2.2)
def fireW (L : List BR) (b : Int) : List Int := if tIn L.length b = false then [] else (brFire (L.getD b.toNat BR.zero)).2.1
theorem fireW_no {L : List BR} {b : Int} (h : tIn L.length b = false) : fireW L b = [] := if_pos h
theorem fireW_at {L : List BR} {b : Int} (h : tIn L.length b = true) : fireW L b = (brFire (L.getD b.toNat BR.zero)).2.1 := if_neg (by rw [h]; decide)
theorem fireW_len (L : List BR) (b : Int) : (fireW L b).length ≤ 256 := by
  unfold fireW
  split
  · simp
  · unfold brFire
    split
    · simp
    · split
      · simp
      · exact len_le _
theorem fire_err {b : BR} (h : (brFire b).2.2 ≠ 0) : (brFire b).2.1 = [] := by
  unfold brFire at h ⊢
  split
  · rfl
  · next h1 =>
    rw [if_neg h1] at h
    split
    · rfl
    · next h2 =>
      rw [if_neg h2] at h
      exact absurd rfl h
theorem fire_ready (b : BR) : ((brFire b).2.2 = 0) ↔ brReady b = true := by
  unfold brFire
  cases hf : brFine b
  · rw [if_pos rfl]
    have : brReady b = false := by unfold brReady; rw [hf]; rfl
    rw [this]
    simp
  · rw [if_neg (by decide)]
    cases hr : brReady b
    · rw [if_pos rfl]
      simp
    · rw [if_neg (by decide)]
      simp
/-- What is ready can be fired, and nothing else can. -/
theorem rdy_fire (L : List BR) (b : Int) : hasL (rdyL 0 L) b = decide ((tOne fireF L b).2 = 0) := by
  unfold hasL
  rw [decide_eq_decide, rdyL_mem]
  rcases tIn_cases L.length b with h | ⟨h0, h⟩ | ⟨k, rfl, h⟩
  · rw [tOne_no (tIn_neg h)]
    refine ⟨?_, fun h => absurd (show (8 : Int) = 0 from h) (by decide)⟩
    rintro ⟨k, q, _, _, h3⟩
    omega
  · rw [tOne_no (tIn_over h)]
    refine ⟨?_, fun h => absurd (show (8 : Int) = 0 from h) (by decide)⟩
    rintro ⟨k, q, h1, _, h3⟩
    have := lt_at h1
    omega
  · have hq := List.getElem?_eq_getElem h
    generalize L[k] = q at hq
    by_cases hx : (fireF q).2 = 0
    · rw [tOne_ok (R := (fireF q).1) hq (by rw [← hx])]
      refine ⟨fun _ => rfl, fun _ => ⟨k, q, hq, (fire_ready q).1 hx, by simp⟩⟩
    · rw [tOne_err (R := (fireF q).1) (x := (fireF q).2) hq rfl hx]
      refine ⟨?_, fun h => absurd h hx⟩
      rintro ⟨k', q', h1, h2, h3⟩
      have : k = k' := by omega
      subst this
      rw [hq] at h1
      injection h1 with h1
      subst h1
      exact (fire_ready q).2 h2
/-- The first one that may not be. -/
def nwRun : Nat → List CB → Nat × Int
  | _, [] => (0, 0)
  | i, c :: l => if brChk c.2 = 0 then nwRun (i + 1) l else (i, brChk c.2)
def nwR (l : List CB) : Nat × Int := if 8 < l.length then (8, 5) else nwRun 0 l
def nwL (l : List CB) : List BR := if (nwR l).2 = 0 then l.map cbN else []
theorem nwRun_step {i : Nat} {c : CB} {l : List CB} (h : brChk c.2 = 0) : nwRun i (c :: l) = nwRun (i + 1) l := by
  show (if brChk c.2 = 0 then _ else _) = _
  rw [if_pos h]
theorem nwRun_stop {i : Nat} {c : CB} {l : List CB} (h : brChk c.2 ≠ 0) : nwRun i (c :: l) = (i, brChk c.2) := by
  show (if brChk c.2 = 0 then _ else _) = _
  rw [if_neg h]
theorem take_snoc' {α : Type} (L : List α) (k : Nat) (h : k < L.length) : L.take (k + 1) = L.take k ++ [L[k]] := by
  rw [List.take_add_one, List.getElem?_eq_getElem h]
  rfl
/-- The table behind the first k. -/
def nwQ (l : List CB) (k : Nat) : List BR := (l.take k).map cbN ++ List.replicate (l.length - k) BR.zero
theorem nwQ_next (l : List CB) (k : Nat) (hk : k < l.length) : (nwQ l k).set k (cbN l[k]) = nwQ l (k + 1) := by
  unfold nwQ
  have e : l.length - k = (l.length - (k + 1)) + 1 := by omega
  rw [List.set_append_right _ _ (by simp; omega)]
  have h0 : k - ((l.take k).map cbN).length = 0 := by simp; omega
  rw [h0, e, List.replicate_succ, List.set_cons_zero, take_snoc' l k hk, List.map_append, List.append_assoc]
  rfl
theorem mapto_next {α : Type} (f : α → α) (Cs : List α) (k : Nat) (hk : k < Cs.length) : ((Cs.take k).map f ++ Cs.drop k).set k (f Cs[k]) = (Cs.take (k + 1)).map f ++ Cs.drop (k + 1) := by
  have h0 : k - ((Cs.take k).map f).length = 0 := by simp; omega
  rw [List.drop_eq_getElem_cons hk, List.set_append_right _ _ (by simp; omega), h0, List.set_cons_zero, take_snoc' Cs k hk, List.map_append, List.append_assoc]
  rfl
theorem mapto_at {α : Type} (f : α → α) (Cs : List α) (k : Nat) (hk : k < Cs.length) : ((Cs.take k).map f ++ Cs.drop k)[k]? = some Cs[k] := by
  have h0 : k - ((Cs.take k).map f).length = 0 := by simp; omega
  rw [List.getElem?_append_right (by simp; omega), h0, List.drop_eq_getElem_cons hk]
  rfl
/-- Who quits is nowhere. -/
theorem quit_no {b : BR} {p : Int} (h : brFine (brResign b p).1 = true) : hasL (brResign b p).1.r.m.ints p = false ∧ hasL (brResign b p).1.r.a.ints p = false := by
  have key : ∀ r : RL, rlFine r = true → hasL r.m.ints p = false → hasL r.a.ints p = false := by
    intro r hr hm
    rw [fine_has] at hr
    unfold hasL at hm ⊢
    rw [decide_eq_false_iff_not] at hm ⊢
    intro ha
    obtain ⟨i, h1, h2, rfl⟩ := (mem_rise r.a.has p).1 ha
    exact hm ((mem_ints r.m i h1).2 (hr.2 i h1 h2))
  have hb : brFine b = true := by
    cases hb : brFine b
    · have : (brResign b p).1 = b := by unfold brResign; rw [if_pos hb]
      rw [this, hb] at h
      cases h
    · rfl
  have hr : rlFine b.r = true := ((brFine_iff b).1 hb).1
  have e : (brResign b p).1.r = (rlResign b.r p).1 := by
    unfold brResign
    rw [if_neg (by rw [hb]; decide)]
    rfl
  rw [e]
  unfold rlResign
  rcases (by omega : (p < 0 ∨ 16 ≤ p) ∨ (0 ≤ p ∧ p < 16)) with hp | ⟨h0, h1⟩
  · rw [err_out hr hp, if_pos (by decide)]
    have hm : hasL b.r.m.ints p = false := by
      unfold hasL
      rw [decide_eq_false_iff_not]
      intro hm
      obtain ⟨i, h1, h2, rfl⟩ := (mem_rise b.r.m.has p).1 hm
      have := ((fine_has b.r).1 hr).1 i h1 h2
      omega
    exact ⟨hm, key _ hr hm⟩
  · rw [err_ok hr h0 h1, if_neg (by decide)]
    cases hm : hasL b.r.m.ints p
    · rw [if_pos rfl]
      exact ⟨hm, key _ hr hm⟩
    · rw [if_neg (by decide)]
      have off : ∀ s : S4, hasL (s.les (S4.only p)).ints p = false := by
        intro s
        rw [drop_ints]
        obtain ⟨i, rfl⟩ : ∃ i : Nat, p = i := ⟨p.toNat, by omega⟩
        rw [hasL_rise _ i (by omega)]
        simp
      exact ⟨off _, off _⟩
end Go.Proofs.YtlfglibepldjpaaDoor

namespace Go.Proofs.YtlfglibepldjpaaDoor
open Go.RowKit

/-- Barriers of the program: they ask nothing of memory. -/
def pB : Mk BR := ⟨brC, 11, fun _ => rfl, by omega, fun _ => brC_one, fun _ _ _ => True, fun _ _ _ => trivial, fun _ _ => trivial, fun _ => trivial⟩
theorem ei_bt : EI Tryd.prog 29 66 (.agg brZ.toArray) 11 88 := ⟨Tryd.underlying29, by kernel_rfl, rfl, by omega, by omega⟩
theorem eq_nil_bt (w : World) (a : Option Addr) (n c n' c' : Nat) : (binOp .eql 29 (.slice a n c) (.slice none n' c')).run Tryd.prog w = .ok (.bool a.isNone) w := Lib.run_eql_slice_nil w _ 66 a n c n' c' (by kernel_rfl)

theorem Only.rowN {s : Nat → Prop} {a b : World} (h : Only s a b) {g : Nat} (hg : s g ∨ a.heap.size ≤ g) (ds : Array Value) : Only s a (b.setRow g ds) :=
  ⟨h.os, h.tape, h.output, by simpa [World.setRow] using h.size, fun i hi hs => (setRow_other b g i ds (by
    rintro rfl
    rcases hg with hg | hg
    · exact hs hg
    · omega)).trans (h.block i hi hs)⟩

set_option maxHeartbeats 400000 in
theorem c_bclone {w : World} {pl : Nat → Prop} {A : Option Addr} {n c : Nat} {L : List BR} (h : TW pB w pl A n L) (hn : n ≤ 100000) :
    Calls Tryd.prog 35 #[.slice A n c] w fun e w' => ∃ v, e = .returned v ∧ OT pB w' 66 w.heap.size v n L ∧ Below w.heap.size w w' := by
  have hq := eq_nil_bt
  rcases A with _ | p
  · have hL : L = [] := by
      rcases Nat.eq_zero_or_pos n with h0 | h0
      · exact List.eq_nil_of_length_eq_zero (by have := h.len; omega)
      · obtain ⟨b, o, e, _⟩ := h.rd.at_ h0
        cases e
    subst hL
    obtain rfl : n = 0 := by simpa using h.len.symm
    clear h
    go_enter Tryd.func35, Tryd.ntmps35
    go_wp2
    go_ret
    exact ⟨_, rfl, OT.nil _ _ _ _, Below.refl _ _⟩
  · have HR := Lib.hid h
    have hown := World.ownsRow_made (base := w.heap.size) (e := 66) (size := 11) w #[] 0 (Nat.le_refl _) (by unfold maxLen; omega) (by simp)
    have HRD : Hid (RD (w.alloc (.cells #[] 66)) pl 11 (some p) n (L.flatMap brC)) := Lib.hid (h.rd.below (up_alloc _ _))
    have HON : Hid (∀ u ∈ L.flatMap brC, u.oneCell' = true) := Lib.hid (pB.oneL L)
    clear h
    go_enter Tryd.func35, Tryd.ntmps35
    go_wp2_with (at_builtin; refine wpList_app2 ei_bt rfl (.tmp 5) (.tmp 6) rfl (.slice (some ⟨w.heap.size, 0, none⟩) 0 0) [] rfl hown rfl HRD.out HON.out (by omega) (by simp) ?_; intro v1 w1 hown1 hg1; simp only [Nat.zero_add, List.nil_append] at hown1)
    go_ret
    have hb : Below w.heap.size w w1 := (up_alloc w (.cells #[] 66)).grown hg1 (by simp) (fun k e => by
      have : w.heap.size = k := by simpa [Value.ownBlock] using e
      omega)
    exact ⟨_, rfl, OT.of (K := pB) hown1 (pl := tt) (fun _ _ => trivial) hb, hb⟩

set_option maxRecDepth 100000 in
set_option maxHeartbeats 2000000 in
theorem c_enrol1 (b : BR) (p : Int) (g : Nat) (w : World) (hT : TabD w) (hc : Blk w g [.int .i64 p] 3) :
    Calls Tryd.prog 52 #[.agg (brC b).toArray, .pointer (some ⟨g, 0, none⟩)] w fun e w' => e = .returned (.tuple #[.agg (brC (brEnrol b p).1).toArray, .int .i64 (brEnrol b p).2]) ∧ Below w.heap.size w w' := by
  have hX := bx2_bar w (brC b) 66
  generalize hw1 : (w.alloc (.cells (brC b).toArray 66)).alloc (.cells #[.bool false, .int .i64 0, .int .u64 0, .int .u64 0, .int .u64 0, .int .u64 0, .int .u64 0, .int .u64 0, .int .u64 0, .int .u64 0, .int .i64 0] 66) = w1 at hX
  have HW := Lib.hid hw1
  have HX := Lib.hid hX
  have CR := Lib.hid (fun W (hW : Below w.heap.size w W) => c_brenrol b p W (hT.up hW))
  have cg := (hc.up hX.up hc.lt).cell 0 _ rfl
  generalize brEnrol b p = Rx at CR ⊢
  obtain ⟨R, x⟩ := Rx
  simp only at CR ⊢
  clear hT hc hX hw1
  go_enter Tryd.func52, Tryd.ntmps52
  go_upto_region 1 with fail
  rw [HW.out]
  go_wp2_with (refine ldr (b := w.heap.size) (t := 66) (cs := brC b) (.tmp 2) rfl rfl Tryd.underlying66 rfl info_bar rfl ?_ ?_; (· exact HX.out.box))
  refine (CR.out _ HX.out.up).mono ?_; rintro e w2 ⟨rfl, hb⟩
  have HA := Lib.hid (HX.out.next hb)
  clear hb cg
  go_wp2_with (refine str (b := w.heap.size + 1) (t := 66) (cs := brC R) (ds := brZ) (.tmp 3) (.tmp 8) rfl rfl rfl rfl info_bar rfl brC_one ?_ ?_; (· exact HA.out.res))
  refine bodyPost_ret (v := .tuple #[.agg (brC R).toArray, .int .i64 x]) (results_ce (fn := Tryd.f52) (p := 3) (t := 4) rfl _ _ _ rfl (HA.out.res.row _) Tryd.underlying66 rfl info_bar) rfl ?_
  exact ⟨rfl, below_setRow HA.out.up (by omega) _⟩

set_option maxRecDepth 100000 in
set_option maxHeartbeats 2000000 in
theorem c_resign1 (b : BR) (p : Int) (g : Nat) (w : World) (hT : TabD w) (hc : Blk w g [.int .i64 p] 3) :
    Calls Tryd.prog 55 #[.agg (brC b).toArray, .pointer (some ⟨g, 0, none⟩)] w fun e w' => e = .returned (.tuple #[.agg (brC (brResign b p).1).toArray, .int .i64 (brResign b p).2]) ∧ Below w.heap.size w w' := by
  have hX := bx2_bar w (brC b) 66
  generalize hw1 : (w.alloc (.cells (brC b).toArray 66)).alloc (.cells #[.bool false, .int .i64 0, .int .u64 0, .int .u64 0, .int .u64 0, .int .u64 0, .int .u64 0, .int .u64 0, .int .u64 0, .int .u64 0, .int .i64 0] 66) = w1 at hX
  have HW := Lib.hid hw1
  have HX := Lib.hid hX
  have CR := Lib.hid (fun W (hW : Below w.heap.size w W) => c_brresign b p W (hT.up hW))
  have cg := (hc.up hX.up hc.lt).cell 0 _ rfl
  generalize brResign b p = Rx at CR ⊢
  obtain ⟨R, x⟩ := Rx
  simp only at CR ⊢
  clear hT hc hX hw1
  go_enter Tryd.func55, Tryd.ntmps55
  go_upto_region 1 with fail
  rw [HW.out]
  go_wp2_with (refine ldr (b := w.heap.size) (t := 66) (cs := brC b) (.tmp 2) rfl rfl Tryd.underlying66 rfl info_bar rfl ?_ ?_; (· exact HX.out.box))
  refine (CR.out _ HX.out.up).mono ?_; rintro e w2 ⟨rfl, hb⟩
  have HA := Lib.hid (HX.out.next hb)
  clear hb cg
  go_wp2_with (refine str (b := w.heap.size + 1) (t := 66) (cs := brC R) (ds := brZ) (.tmp 3) (.tmp 8) rfl rfl rfl rfl info_bar rfl brC_one ?_ ?_; (· exact HA.out.res))
  refine bodyPost_ret (v := .tuple #[.agg (brC R).toArray, .int .i64 x]) (results_ce (fn := Tryd.f55) (p := 3) (t := 4) rfl _ _ _ rfl (HA.out.res.row _) Tryd.underlying66 rfl info_bar) rfl ?_
  exact ⟨rfl, below_setRow HA.out.up (by omega) _⟩

set_option maxRecDepth 100000 in
set_option maxHeartbeats 2000000 in
theorem c_offer1 (b : BR) (p : Int) (g : Nat) (alt : Bool) (g' : Nat) (w : World) (hT : TabD w) (hc : Blk w g [.int .i64 p] 3) (hd : Blk w g' [.bool alt] 4) :
    Calls Tryd.prog 36 #[.agg (brC b).toArray, .pointer (some ⟨g, 0, none⟩), .pointer (some ⟨g', 0, none⟩)] w fun e w' => e = .returned (.tuple #[.agg (brC (brOffer b p alt).1).toArray, .int .i64 (brOffer b p alt).2]) ∧ Below w.heap.size w w' := by
  have hX := bx2_bar w (brC b) 66
  generalize hw1 : (w.alloc (.cells (brC b).toArray 66)).alloc (.cells #[.bool false, .int .i64 0, .int .u64 0, .int .u64 0, .int .u64 0, .int .u64 0, .int .u64 0, .int .u64 0, .int .u64 0, .int .u64 0, .int .i64 0] 66) = w1 at hX
  have HW := Lib.hid hw1
  have HX := Lib.hid hX
  have CR := Lib.hid (fun W (hW : Below w.heap.size w W) => c_broffer b p alt W (hT.up hW))
  have cg := (hc.up hX.up hc.lt).cell 0 _ rfl
  have ch := (hd.up hX.up hd.lt).cell 0 _ rfl
  generalize brOffer b p alt = Rx at CR ⊢
  obtain ⟨R, x⟩ := Rx
  simp only at CR ⊢
  clear hT hc hX hw1 hd
  go_enter Tryd.func36, Tryd.ntmps36
  go_upto_region 1 with fail
  rw [HW.out]
  go_wp2_with (refine ldr (b := w.heap.size) (t := 66) (cs := brC b) (.tmp 3) rfl rfl Tryd.underlying66 rfl info_bar rfl ?_ ?_; (· exact HX.out.box))
  refine (CR.out _ HX.out.up).mono ?_; rintro e w2 ⟨rfl, hb⟩
  have HA := Lib.hid (HX.out.next hb)
  clear hb cg ch
  go_wp2_with (refine str (b := w.heap.size + 1) (t := 66) (cs := brC R) (ds := brZ) (.tmp 4) (.tmp 10) rfl rfl rfl rfl info_bar rfl brC_one ?_ ?_; (· exact HA.out.res))
  refine bodyPost_ret (v := .tuple #[.agg (brC R).toArray, .int .i64 x]) (results_ce (fn := Tryd.f36) (p := 4) (t := 5) rfl _ _ _ rfl (HA.out.res.row _) Tryd.underlying66 rfl info_bar) rfl ?_
  exact ⟨rfl, below_setRow HA.out.up (by omega) _⟩

set_option maxRecDepth 100000 in
set_option maxHeartbeats 2000000 in
theorem c_leave1 (b : BR) (p : Int) (g : Nat) (w : World) (hT : TabD w) (hc : Blk w g [.int .i64 p] 3) :
    Calls Tryd.prog 45 #[.agg (brC b).toArray, .pointer (some ⟨g, 0, none⟩)] w fun e w' => e = .returned (.agg (brC (brWith b p)).toArray) ∧ Below w.heap.size w w' := by
  have hX := bx2_bar w (brC b) 66
  generalize hw1 : (w.alloc (.cells (brC b).toArray 66)).alloc (.cells #[.bool false, .int .i64 0, .int .u64 0, .int .u64 0, .int .u64 0, .int .u64 0, .int .u64 0, .int .u64 0, .int .u64 0, .int .u64 0, .int .i64 0] 66) = w1 at hX
  have HW := Lib.hid hw1
  have HX := Lib.hid hX
  have CR := Lib.hid (fun W (hW : Below w.heap.size w W) => c_brwith b p W (hT.up hW))
  have cg := (hc.up hX.up hc.lt).cell 0 _ rfl
  generalize brWith b p = R at CR ⊢
  clear hT hc hX hw1
  go_enter Tryd.func45, Tryd.ntmps45
  go_upto_region 1 with fail
  rw [HW.out]
  go_wp2_with (refine ldr (b := w.heap.size) (t := 66) (cs := brC b) (.tmp 2) rfl rfl Tryd.underlying66 rfl info_bar rfl ?_ ?_; (· exact HX.out.box))
  refine (CR.out _ HX.out.up).mono ?_; rintro e w2 ⟨rfl, hb⟩
  have HA := Lib.hid (HX.out.next hb)
  clear hb cg
  go_wp2_with (refine str (b := w.heap.size + 1) (t := 66) (cs := brC R) (ds := brZ) (.tmp 3) (.tmp 6) rfl rfl rfl rfl info_bar rfl brC_one ?_ ?_; (· exact HA.out.res))
  refine bodyPost_ret (v := .agg (brC R).toArray) (results_c (fn := Tryd.f45) (p := 3) rfl _ _ _ rfl (HA.out.res.row _) Tryd.underlying66 rfl info_bar) rfl ?_
  exact ⟨rfl, below_setRow HA.out.up (by omega) _⟩

set_option maxRecDepth 100000 in
set_option maxHeartbeats 2000000 in
theorem c_quit1 (b : BR) (p : Int) (g : Nat) (w : World) (hT : TabD w) (hc : Blk w g [.int .i64 p] 3) :
    Calls Tryd.prog 48 #[.agg (brC b).toArray, .pointer (some ⟨g, 0, none⟩)] w fun e w' => e = .returned (.agg (brC (brResign b p).1).toArray) ∧ Below w.heap.size w w' := by
  have hX := bx2_bar w (brC b) 66
  generalize hw1 : (w.alloc (.cells (brC b).toArray 66)).alloc (.cells #[.bool false, .int .i64 0, .int .u64 0, .int .u64 0, .int .u64 0, .int .u64 0, .int .u64 0, .int .u64 0, .int .u64 0, .int .u64 0, .int .i64 0] 66) = w1 at hX
  have HW := Lib.hid hw1
  have HX := Lib.hid hX
  have CR := Lib.hid (fun W (hW : Below w.heap.size w W) => c_brresign b p W (hT.up hW))
  have cg := (hc.up hX.up hc.lt).cell 0 _ rfl
  generalize brResign b p = Rx at CR ⊢
  obtain ⟨R, x⟩ := Rx
  simp only at CR ⊢
  clear hT hc hX hw1
  go_enter Tryd.func48, Tryd.ntmps48
  go_upto_region 1 with fail
  rw [HW.out]
  go_wp2_with (refine ldr (b := w.heap.size) (t := 66) (cs := brC b) (.tmp 2) rfl rfl Tryd.underlying66 rfl info_bar rfl ?_ ?_; (· exact HX.out.box))
  refine (CR.out _ HX.out.up).mono ?_; rintro e w2 ⟨rfl, hb⟩
  have K := Lib.hid (Blk.new w2 (brC R) 66)
  have HA := Lib.hid (HX.out.next (up_trans hb (up_alloc w2 (.cells (brC R).toArray 66))))
  clear hb cg
  go_wp2_with (first | (refine snr (W := w2) (cs := brC R) (zs := brZ) (t := 66) (.tmp 4) (.tmp 10) rfl rfl rfl rfl info_bar rfl brC_one ?_ ?_ ?_; (· rfl); (· rfl)) | (refine ldr (b := w2.heap.size) (t := 66) (cs := brC R) (.tmp 4) rfl rfl Tryd.underlying66 rfl info_bar rfl ?_ ?_; (· exact K.out)) | (refine str (b := w.heap.size + 1) (t := 66) (cs := brC R) (ds := brZ) (.tmp 3) (.tmp 12) rfl rfl rfl rfl info_bar rfl brC_one ?_ ?_; (· exact HA.out.res)))
  refine bodyPost_ret (v := .agg (brC R).toArray) (results_c (fn := Tryd.f48) (p := 3) rfl _ _ _ rfl (HA.out.res.row _) Tryd.underlying66 rfl info_bar) rfl ?_
  exact ⟨rfl, below_setRow HA.out.up (by omega) _⟩

/-- What the closure of Fire leaves in the variable at g, and what may have turned. -/
def FireV (n0 : Nat) (g : Nat) (L : List Int) (w' : World) : Prop := ∃ A c, Blk w' g [.slice A L.length c] 45 ∧ RD w' (n0 ≤ ·) 1 A L.length (L.map (Value.int .i64))
set_option maxRecDepth 100000 in
set_option maxHeartbeats 2000000 in
theorem c_fire1 (b : BR) (g : Nat) (u : Value) (w : World) (hT : TabD w) (hc : Blk w g [u] 45) :
    Calls Tryd.prog 56 #[.agg (brC b).toArray, .pointer (some ⟨g, 0, none⟩)] w fun e w' => e = .returned (.tuple #[.agg (brC (fireF b).1).toArray, .int .i64 (fireF b).2]) ∧ FireV w.heap.size g (brFire b).2.1 w' ∧ Only (· = g) w w' := by
  have hX := bx2_bar w (brC b) 66
  generalize hw1 : (w.alloc (.cells (brC b).toArray 66)).alloc (.cells #[.bool false, .int .i64 0, .int .u64 0, .int .u64 0, .int .u64 0, .int .u64 0, .int .u64 0, .int .u64 0, .int .u64 0, .int .u64 0, .int .i64 0] 66) = w1 at hX
  have HW := Lib.hid hw1
  have HX := Lib.hid hX
  have CR := Lib.hid (fun W (hW : Below w.heap.size w W) => c_brfire b W (hT.up hW))
  unfold fireF
  generalize brFire b = Rx at CR ⊢
  obtain ⟨R, l, x⟩ := Rx
  have HC := Lib.hid (fun W (hW : Below w.heap.size w W) => hc.up hW hc.lt)
  have HG := Lib.hid hc.lt
  simp only at CR ⊢
  clear hT hc hX hw1
  go_enter Tryd.func56, Tryd.ntmps56
  go_upto_region 1 with fail
  rw [HW.out]
  go_wp2_with (refine ldr (b := w.heap.size) (t := 66) (cs := brC b) (.tmp 2) rfl rfl Tryd.underlying66 rfl info_bar rfl ?_ ?_; (· exact HX.out.box))
  refine (CR.out _ HX.out.up).mono ?_; rintro e w2 ⟨A, c, rfl, hr, hb⟩
  have hbig : w.heap.size + 2 ≤ w1.heap.size := HX.out.res.lt
  have K := Blk.new w2 (brC R) 66
  have hq := up_alloc w2 (.cells (brC R).toArray 66)
  have hA := HX.out.next (up_trans hb hq)
  have hg := HC.out _ hA.up
  have hr3 := hr.below hq
  have hw2 : w.heap.size + 2 ≤ w2.heap.size := by have := hb.size; omega
  generalize hw3 : w2.alloc (.cells (brC R).toArray 66) = w3 at K hA hg hr3
  have cg := hg.cell 0 _ rfl
  have fr := hg.free 0
  have hgl := HG.out
  have hK : Blk (w3.setCell ⟨g, 0, none⟩ (.slice A l.length c)) w2.heap.size (brC R) 66 := K.other ⟨g, 0, none⟩ (by simp; omega) _
  have hR : Blk (w3.setCell ⟨g, 0, none⟩ (.slice A l.length c)) (w.heap.size + 1) brZ 66 := hA.res.other ⟨g, 0, none⟩ (by simp; omega) _
  have hG := hg.set 0 (.slice A l.length c)
  have ho : Only (· = g) w (w3.setCell ⟨g, 0, none⟩ (.slice A l.length c)) := (Only.of_below hA.up).put 0 _
  have hr4 := hr3.only ((Only.refl (· = g) w3).put 0 (.slice A l.length c)) (by rintro k rfl hk; omega)
  have HW3 := Lib.hid hw3
  have HK := Lib.hid hK
  have HR := Lib.hid hR
  have HO := Lib.hid ho
  have HGB := Lib.hid hG
  have HR4 := Lib.hid hr4
  have HBG := Lib.hid hbig
  clear hb hr hbig K hq hA hg hr3 hw2 hw3 hgl hK hR hG ho hr4 HC
  go_wp2_with (first | (refine snr (W := w2) (cs := brC R) (zs := brZ) (t := 66) (.tmp 5) (.tmp 11) rfl rfl rfl rfl info_bar rfl brC_one ?_ ?_ ?_; (· rfl); (· rfl); rw [HW3.out]) | (refine ldr (b := w2.heap.size) (t := 66) (cs := brC R) (.tmp 5) rfl rfl Tryd.underlying66 rfl info_bar rfl ?_ ?_; (· exact HK.out)) | (refine str (b := w.heap.size + 1) (t := 66) (cs := brC R) (ds := brZ) (.tmp 3) (.tmp 15) rfl rfl rfl rfl info_bar rfl brC_one ?_ ?_; (· exact HR.out)))
  refine bodyPost_ret (v := .tuple #[.agg (brC R).toArray, .int .i64 x]) (results_ce (fn := Tryd.f56) (p := 3) (t := 4) rfl _ _ _ rfl (HR.out.row _) Tryd.underlying66 rfl info_bar) rfl ?_
  have hbig := HBG.out
  have hgl := HG.out
  have ho2 : Only (· = w.heap.size + 1) (w3.setCell ⟨g, 0, none⟩ (.slice A l.length c)) ((w3.setCell ⟨g, 0, none⟩ (.slice A l.length c)).setRow (w.heap.size + 1) (brC R).toArray) := (Only.refl (· = w.heap.size + 1) _).row rfl _
  exact ⟨rfl, ⟨A, c, HGB.out.only ho2 (by omega), (HR4.out.only ho2 (by rintro k rfl hk; omega)).lo (fun k hk => by omega)⟩, HO.out.rowN (.inr (by omega)) _⟩

end Go.Proofs.YtlfglibepldjpaaDoor

namespace Go.Proofs.YtlfglibepldjpaaDoor
open Go.RowKit

set_option maxRecDepth 100000 in
set_option maxHeartbeats 4000000 in
theorem c_change1 {w : World} {lo n : Nat} {v : Value} {L : List BR} (h : OT pB w 66 lo v n L) (b : Int) {F : FuncId} (hF : F = 52 ∨ F = 55 ∨ F = 56) {c1 : Value} {fB : BR → BR × Int} {s : Nat → Prop} {X : BR → World → Prop} (hs : ∀ k, s k → nOwn v k)
    (CB : ∀ q W, Below w.heap.size w W → Calls Tryd.prog F #[.agg (brC q).toArray, c1] W fun e w' => e = .returned (.tuple #[.agg (brC (fB q).1).toArray, .int .i64 (fB q).2]) ∧ Only s W w' ∧ X q w')
    (hX : ∀ q W W', X q W → Only (isOwn v) W W' → X q W') :
    Calls Tryd.prog 38 #[v, .int .i64 b, .func (.func F) #[] #[c1]] w fun e w' => e = .returned (.int .i64 (tOne fB L b).2) ∧ OT pB w' 66 lo v n (tOne fB L b).1 ∧ Only (fun k => s k ∨ isOwn v k) w w' ∧ (tIn n b = true → X (L.getD b.toNat BR.zero) w') ∧ (tIn n b = false → w = w') := by
  have hlen := h.len
  rcases tIn_cases n b with hb | ⟨hb, hb2⟩ | ⟨k, rfl, hk⟩
  · have hi : tIn n b = false := tIn_neg hb
    rw [tOne_no (by rw [hlen]; exact hi)]
    obtain ⟨A, c, rfl, _⟩ := h.tw
    have HO := Lib.hid h
    have HI := Lib.hid hi
    clear h hs CB hX hi hlen
    go_enter Tryd.func38, Tryd.ntmps38
    go_wp2
    go_ret
    exact ⟨rfl, HO.out, Only.refl _ _, fun h => (by rw [HI.out] at h; cases h), fun _ => rfl⟩
  · have hi : tIn n b = false := tIn_over hb2
    rw [tOne_no (by rw [hlen]; exact hi)]
    obtain ⟨A, c, rfl, _⟩ := h.tw
    have HO := Lib.hid h
    have HI := Lib.hid hi
    clear h hs CB hX hi hlen
    go_enter Tryd.func38, Tryd.ntmps38
    go_wp2
    go_ret
    exact ⟨rfl, HO.out, Only.refl _ _, fun h => (by rw [HI.out] at h; cases h), fun _ => rfl⟩
  · obtain ⟨g, c, q, rfl, hlo, hgl, hq, hrg, hth, _⟩ := h.at_ k hk
    have HRG : Hid (w.rangeAt g (k * 11) (brC q)) := Lib.hid hrg
    have HO := Lib.hid h
    have HQ := Lib.hid hq
    have HS := Lib.hid hs
    have HX := Lib.hid hX
    have HGL := Lib.hid hgl
    have CQ := Lib.hid (CB q w (Below.refl _ _))
    have HGD := Lib.hid (getD_at' hq)
    obtain ⟨R, x, hR⟩ : ∃ R x, fB q = (R, x) := ⟨_, _, rfl⟩
    rw [hR] at CQ
    have HR := Lib.hid hR
    have g0 : decide ((k : Int) < 0) = false := decide_eq_false (by omega)
    have g1 : decide ((k : Int) ≥ (n : Int)) = false := decide_eq_false (by omega)
    clear h hs CB hX hq hrg hth hgl hR hlen
    by_cases h0 : x = 0
    · subst h0
      have HE := Lib.hid (tOne_ok HQ.out HR.out)
      rw [HE.out]
      clear HE
      rcases hF with rfl | rfl | rfl
      all_goals
        go_enter Tryd.func38, Tryd.ntmps38
        go_wp2_with (refine lmr (b := g) (q := k * 11) (cs := brC q) (.tmp 21) rfl rfl Tryd.underlying66 rfl info_bar rfl ?_ ?_; (· exact HRG.out))
        refine CQ.out.mono ?_; rintro e w2 ⟨rfl, ho, hx⟩
        have hq := up_alloc w2 (.cells (brC R).toArray 66)
        have K := Lib.hid (Blk.new w2 (brC R) 66)
        have ho1 : OT pB w2 66 lo (.slice (some ⟨g, 0, none⟩) n c) n L := HO.out.only ho (fun g' e hs => HS.out g' hs e) (fun _ _ => trivial)
        have ho2 := ho1.below hq
        have HTH : Hid ((w2.alloc (.cells (brC R).toArray 66)).there g (k * 11) (brC R).length) := Lib.hid (ho2.th k hk)
        have HP := Lib.hid (ho2.put k hk R trivial)
        have hA : Only (isOwn (.slice (some ⟨g, 0, none⟩) n c)) w2 ((w2.alloc (.cells (brC R).toArray 66)).setCells g (k * 11) (brC R)) := ((Only.refl _ w2).alloc _).trans ((only_cells (brC R) (k * 11) _).mono fun j _ hj => by rw [hj]; rfl)
        have HXX := Lib.hid (HX.out q _ _ hx hA)
        have HOO := Lib.hid ((ho.mono fun _ _ h => Or.inl h).trans (hA.mono fun _ _ h => Or.inr h) : Only (fun k => s k ∨ isOwn (.slice (some ⟨g, 0, none⟩) n c) k) w _)
        clear ho hx hq ho1 ho2 hA
        go_wp2_with (first | (refine snr (W := w2) (cs := brC R) (zs := brZ) (t := 66) (.tmp 7) (.tmp 24) rfl rfl rfl rfl info_bar rfl brC_one ?_ ?_ ?_; (· rfl); (· rfl)) | (refine ldr (b := w2.heap.size) (t := 66) (cs := brC R) (.tmp 7) rfl rfl Tryd.underlying66 rfl info_bar rfl ?_ ?_; (· exact K.out)) | (refine smr (b := g) (q := k * 11) (cs := brC R) (.tmp 31) (.tmp 30) rfl rfl rfl rfl info_bar brC_one ?_ ?_; (· exact HTH.out)))
        go_ret
        exact ⟨rfl, HP.out, HOO.out, fun _ => (by rw [HGD.out]; exact HXX.out), fun h => (by rw [tIn_at hk] at h; cases h)⟩
    · have hx1 : (x == 0) = false := by simp [h0]
      have HE := Lib.hid (tOne_err HQ.out HR.out h0)
      rw [HE.out]
      clear HE h0
      rcases hF with rfl | rfl | rfl
      all_goals
        go_enter Tryd.func38, Tryd.ntmps38
        go_wp2_with (refine lmr (b := g) (q := k * 11) (cs := brC q) (.tmp 21) rfl rfl Tryd.underlying66 rfl info_bar rfl ?_ ?_; (· exact HRG.out))
        refine CQ.out.mono ?_; rintro e w2 ⟨rfl, ho, hx⟩
        have hq := up_alloc w2 (.cells (brC R).toArray 66)
        have ho1 : OT pB w2 66 lo (.slice (some ⟨g, 0, none⟩) n c) n L := HO.out.only ho (fun g' e hs => HS.out g' hs e) (fun _ _ => trivial)
        have HP := Lib.hid (ho1.below hq)
        have hA : Only (isOwn (.slice (some ⟨g, 0, none⟩) n c)) w2 (w2.alloc (.cells (brC R).toArray 66)) := (Only.refl _ w2).alloc _
        have HXX := Lib.hid (HX.out q _ _ hx hA)
        have HOO := Lib.hid ((ho.mono fun _ _ h => Or.inl h).trans (hA.mono fun _ _ h => Or.inr h) : Only (fun k => s k ∨ isOwn (.slice (some ⟨g, 0, none⟩) n c) k) w _)
        clear ho hx hq ho1 hA
        go_wp2_with (refine snr (W := w2) (cs := brC R) (zs := brZ) (t := 66) (.tmp 7) (.tmp 24) rfl rfl rfl rfl info_bar rfl brC_one ?_ ?_ ?_; (· rfl); (· rfl))
        go_ret
        exact ⟨rfl, HP.out, HOO.out, fun _ => (by rw [HGD.out]; exact HXX.out), fun h => (by rw [tIn_at hk] at h; cases h)⟩

set_option maxRecDepth 100000 in
set_option maxHeartbeats 4000000 in
theorem c_change2 {w : World} {lo n : Nat} {v : Value} {L : List BR} (h : OT pB w 66 lo v n L) (b : Int) {F : FuncId} (hF : F = 36) {c1 c2 : Value} {fB : BR → BR × Int} {s : Nat → Prop} {X : BR → World → Prop} (hs : ∀ k, s k → nOwn v k)
    (CB : ∀ q W, Below w.heap.size w W → Calls Tryd.prog F #[.agg (brC q).toArray, c1, c2] W fun e w' => e = .returned (.tuple #[.agg (brC (fB q).1).toArray, .int .i64 (fB q).2]) ∧ Only s W w' ∧ X q w')
    (hX : ∀ q W W', X q W → Only (isOwn v) W W' → X q W') :
    Calls Tryd.prog 38 #[v, .int .i64 b, .func (.func F) #[] #[c1, c2]] w fun e w' => e = .returned (.int .i64 (tOne fB L b).2) ∧ OT pB w' 66 lo v n (tOne fB L b).1 ∧ Only (fun k => s k ∨ isOwn v k) w w' ∧ (tIn n b = true → X (L.getD b.toNat BR.zero) w') ∧ (tIn n b = false → w = w') := by
  have hlen := h.len
  rcases tIn_cases n b with hb | ⟨hb, hb2⟩ | ⟨k, rfl, hk⟩
  · have hi : tIn n b = false := tIn_neg hb
    rw [tOne_no (by rw [hlen]; exact hi)]
    obtain ⟨A, c, rfl, _⟩ := h.tw
    have HO := Lib.hid h
    have HI := Lib.hid hi
    clear h hs CB hX hi hlen
    go_enter Tryd.func38, Tryd.ntmps38
    go_wp2
    go_ret
    exact ⟨rfl, HO.out, Only.refl _ _, fun h => (by rw [HI.out] at h; cases h), fun _ => rfl⟩
  · have hi : tIn n b = false := tIn_over hb2
    rw [tOne_no (by rw [hlen]; exact hi)]
    obtain ⟨A, c, rfl, _⟩ := h.tw
    have HO := Lib.hid h
    have HI := Lib.hid hi
    clear h hs CB hX hi hlen
    go_enter Tryd.func38, Tryd.ntmps38
    go_wp2
    go_ret
    exact ⟨rfl, HO.out, Only.refl _ _, fun h => (by rw [HI.out] at h; cases h), fun _ => rfl⟩
  · obtain ⟨g, c, q, rfl, hlo, hgl, hq, hrg, hth, _⟩ := h.at_ k hk
    have HRG : Hid (w.rangeAt g (k * 11) (brC q)) := Lib.hid hrg
    have HO := Lib.hid h
    have HQ := Lib.hid hq
    have HS := Lib.hid hs
    have HX := Lib.hid hX
    have HGL := Lib.hid hgl
    have CQ := Lib.hid (CB q w (Below.refl _ _))
    have HGD := Lib.hid (getD_at' hq)
    obtain ⟨R, x, hR⟩ : ∃ R x, fB q = (R, x) := ⟨_, _, rfl⟩
    rw [hR] at CQ
    have HR := Lib.hid hR
    have g0 : decide ((k : Int) < 0) = false := decide_eq_false (by omega)
    have g1 : decide ((k : Int) ≥ (n : Int)) = false := decide_eq_false (by omega)
    clear h hs CB hX hq hrg hth hgl hR hlen
    by_cases h0 : x = 0
    · subst h0
      have HE := Lib.hid (tOne_ok HQ.out HR.out)
      rw [HE.out]
      clear HE
      subst hF
      all_goals
        go_enter Tryd.func38, Tryd.ntmps38
        go_wp2_with (refine lmr (b := g) (q := k * 11) (cs := brC q) (.tmp 21) rfl rfl Tryd.underlying66 rfl info_bar rfl ?_ ?_; (· exact HRG.out))
        refine CQ.out.mono ?_; rintro e w2 ⟨rfl, ho, hx⟩
        have hq := up_alloc w2 (.cells (brC R).toArray 66)
        have K := Lib.hid (Blk.new w2 (brC R) 66)
        have ho1 : OT pB w2 66 lo (.slice (some ⟨g, 0, none⟩) n c) n L := HO.out.only ho (fun g' e hs => HS.out g' hs e) (fun _ _ => trivial)
        have ho2 := ho1.below hq
        have HTH : Hid ((w2.alloc (.cells (brC R).toArray 66)).there g (k * 11) (brC R).length) := Lib.hid (ho2.th k hk)
        have HP := Lib.hid (ho2.put k hk R trivial)
        have hA : Only (isOwn (.slice (some ⟨g, 0, none⟩) n c)) w2 ((w2.alloc (.cells (brC R).toArray 66)).setCells g (k * 11) (brC R)) := ((Only.refl _ w2).alloc _).trans ((only_cells (brC R) (k * 11) _).mono fun j _ hj => by rw [hj]; rfl)
        have HXX := Lib.hid (HX.out q _ _ hx hA)
        have HOO := Lib.hid ((ho.mono fun _ _ h => Or.inl h).trans (hA.mono fun _ _ h => Or.inr h) : Only (fun k => s k ∨ isOwn (.slice (some ⟨g, 0, none⟩) n c) k) w _)
        clear ho hx hq ho1 ho2 hA
        go_wp2_with (first | (refine snr (W := w2) (cs := brC R) (zs := brZ) (t := 66) (.tmp 7) (.tmp 24) rfl rfl rfl rfl info_bar rfl brC_one ?_ ?_ ?_; (· rfl); (· rfl)) | (refine ldr (b := w2.heap.size) (t := 66) (cs := brC R) (.tmp 7) rfl rfl Tryd.underlying66 rfl info_bar rfl ?_ ?_; (· exact K.out)) | (refine smr (b := g) (q := k * 11) (cs := brC R) (.tmp 31) (.tmp 30) rfl rfl rfl rfl info_bar brC_one ?_ ?_; (· exact HTH.out)))
        go_ret
        exact ⟨rfl, HP.out, HOO.out, fun _ => (by rw [HGD.out]; exact HXX.out), fun h => (by rw [tIn_at hk] at h; cases h)⟩
    · have hx1 : (x == 0) = false := by simp [h0]
      have HE := Lib.hid (tOne_err HQ.out HR.out h0)
      rw [HE.out]
      clear HE h0
      subst hF
      all_goals
        go_enter Tryd.func38, Tryd.ntmps38
        go_wp2_with (refine lmr (b := g) (q := k * 11) (cs := brC q) (.tmp 21) rfl rfl Tryd.underlying66 rfl info_bar rfl ?_ ?_; (· exact HRG.out))
        refine CQ.out.mono ?_; rintro e w2 ⟨rfl, ho, hx⟩
        have hq := up_alloc w2 (.cells (brC R).toArray 66)
        have ho1 : OT pB w2 66 lo (.slice (some ⟨g, 0, none⟩) n c) n L := HO.out.only ho (fun g' e hs => HS.out g' hs e) (fun _ _ => trivial)
        have HP := Lib.hid (ho1.below hq)
        have hA : Only (isOwn (.slice (some ⟨g, 0, none⟩) n c)) w2 (w2.alloc (.cells (brC R).toArray 66)) := (Only.refl _ w2).alloc _
        have HXX := Lib.hid (HX.out q _ _ hx hA)
        have HOO := Lib.hid ((ho.mono fun _ _ h => Or.inl h).trans (hA.mono fun _ _ h => Or.inr h) : Only (fun k => s k ∨ isOwn (.slice (some ⟨g, 0, none⟩) n c) k) w _)
        clear ho hx hq ho1 hA
        go_wp2_with (refine snr (W := w2) (cs := brC R) (zs := brZ) (t := 66) (.tmp 7) (.tmp 24) rfl rfl rfl rfl info_bar rfl brC_one ?_ ?_ ?_; (· rfl); (· rfl))
        go_ret
        exact ⟨rfl, HP.out, HOO.out, fun _ => (by rw [HGD.out]; exact HXX.out), fun h => (by rw [tIn_at hk] at h; cases h)⟩

set_option maxRecDepth 100000 in
set_option maxHeartbeats 4000000 in
theorem c_one1 {w : World} {pl : Nat → Prop} {A : Option Addr} {n c : Nat} {L : List BR} (h : TW pB w pl A n L) (hn : n ≤ 100000) (b : Int) {F : FuncId} (hF : F = 52 ∨ F = 55 ∨ F = 56) {c1 : Value} {fB : BR → BR × Int} {s : Nat → Prop} {X : Nat → BR → World → Prop} (hs : ∀ k, s k → k < w.heap.size ∧ ¬ pl k)
    (CB : ∀ n0 q W, w.heap.size ≤ n0 → n0 ≤ W.heap.size → Below w.heap.size w W → Calls Tryd.prog F #[.agg (brC q).toArray, c1] W fun e w' => e = .returned (.tuple #[.agg (brC (fB q).1).toArray, .int .i64 (fB q).2]) ∧ Only s W w' ∧ X n0 q w')
    (hX : ∀ n0 q S W W', (∀ k, S k → w.heap.size ≤ k ∧ k < n0) → X n0 q W → Only S W W' → X n0 q W') :
    Calls Tryd.prog 51 #[.slice A n c, .int .i64 b, .func (.func F) #[] #[c1]] w fun e w' => ∃ A' c', e = .returned (.tuple #[.slice A' n c', .int .i64 (tOne fB L b).2]) ∧ TW pB w' tt A' n (tOne fB L b).1 ∧ Only s w w' ∧ (tIn n b = true → ∃ n0, w.heap.size ≤ n0 ∧ X n0 (L.getD b.toNat BR.zero) w') ∧ (tIn n b = false → Below w.heap.size w w') := by
  have CC := Lib.hid (c_bclone (c := c) h hn)
  have HT := Lib.hid h
  have HS := Lib.hid hs
  have CH := Lib.hid (fun (w1 : World) (v : Value) (ho : OT pB w1 66 w.heap.size v n L) (hb : Below w.heap.size w w1) =>
    c_change1 ho b (F := F) hF (c1 := c1) (fB := fB) (s := s) (X := X w1.heap.size)
      (fun k hk e => by have := (ho.own.lt k e).1; have := (hs k hk).1; omega)
      (fun q W hW => CB w1.heap.size q W hb.size hW.size (up_trans hb hW))
      (fun q W W' hx hO => hX w1.heap.size q _ W W' (fun k e => ⟨(ho.own.lt k e).1, (ho.own.lt k e).2⟩) hx hO))
  obtain ⟨R, x, hR⟩ : ∃ R x, tOne fB L b = (R, x) := ⟨_, _, rfl⟩
  have HE := Lib.hid (tOne_same (f := fB) (L := L) (b := b))
  rw [hR] at HE CH ⊢
  clear h hs CB hX hF hR
  go_enter Tryd.func51, Tryd.ntmps51
  go_wp2_with fail
  refine CC.out.mono ?_; rintro e w1 ⟨v, rfl, ho, hb⟩
  have CG := Lib.hid (CH.out w1 v ho hb)
  have HB := Lib.hid hb
  have HV := Lib.hid (fun k (hk : isOwn v k) => ho.own.lt k hk)
  clear ho hb
  go_wp2_with fail
  refine CG.out.mono ?_; rintro e w2 ⟨rfl, ho2, hon, hx, hy⟩
  have hon2 : Only s w w2 := ⟨hon.os.trans HB.out.os, hon.tape.trans HB.out.tape, hon.output.trans HB.out.output, Nat.le_trans HB.out.size hon.size, fun i hi hn => (hon.block i (Nat.lt_of_lt_of_le hi HB.out.size) (fun hk => by
    rcases hk with hk | hk
    · exact hn hk
    · have := (HV.out i hk).1
      omega)).trans (HB.out.block i hi)⟩
  have HN := Lib.hid hon2
  have HX2 : Hid (tIn n b = true → ∃ n0, w.heap.size ≤ n0 ∧ X n0 (L.getD b.toNat BR.zero) w2) := Lib.hid (fun h => ⟨_, HB.out.size, hx h⟩)
  have HY2 : Hid (tIn n b = false → Below w.heap.size w w2) := Lib.hid (fun h => by rw [← hy h]; exact HB.out)
  have HO := Lib.hid ho2
  clear hon hon2 hx ho2 hy
  by_cases h0 : x = 0
  · subst h0
    obtain ⟨A', c', rfl, ht⟩ := HO.out.tw
    have HT2 := Lib.hid ht
    clear ht
    go_wp2_with fail
    go_ret2
    exact ⟨A', c', rfl, HT2.out, HN.out, HX2.out, HY2.out⟩
  · have hx1 : (x != 0) = true := by simp [bne, h0]
    have HL := Lib.hid (HE.out h0)
    clear h0
    go_wp2_with fail
    go_ret2
    refine ⟨A, c, rfl, ?_, HN.out, HX2.out, HY2.out⟩
    show TW pB w2 tt A n R
    rw [show R = L from HL.out]
    exact (HT.out.only HN.out (fun k hk => (HS.out k hk).2)).lo (fun _ _ => trivial)
end Go.Proofs.YtlfglibepldjpaaDoor

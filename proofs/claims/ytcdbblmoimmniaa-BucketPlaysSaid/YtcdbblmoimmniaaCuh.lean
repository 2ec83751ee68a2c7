/- The law BucketOnce: plain maths of its two arrays; its variables in memory. -/
import Derived.Test.YtcdbblmoimmniaaCuf
namespace Go.Proofs.Ytcdbblmoimmniaa
open Go.RowKit

theorem mem_set {L : List (List Int)} {k : Nat} {l x m : List Int} (hl : L[k]? = some l) (hm : m ∈ L) : m = l ∨ m ∈ L.set k x := by
  obtain ⟨j, hj, rfl⟩ := List.getElem_of_mem hm
  by_cases e : j = k
  · subst e
    rw [List.getElem?_eq_getElem hj] at hl
    exact .inl (Option.some.inj hl)
  · refine .inr (List.mem_of_getElem? (i := j) ?_)
    rw [List.getElem?_set_ne (Ne.symm e), List.getElem?_eq_getElem hj]
theorem set_mem {L : List (List Int)} {k : Nat} {l x : List Int} (hl : L[k]? = some l) : x ∈ L.set k x :=
  List.mem_of_getElem? (i := k) (List.getElem?_set_self (List.getElem?_eq_some_iff.1 hl).1)

/-- What the law's arrays tell of the buckets: when each one fell, and into which. -/
structure OI (i : Nat) (L : List (List Int)) (f g : Nat → Int) : Prop where
  zero : ∀ p : Nat, p < 16 → (f p = 0 ↔ ∀ l ∈ L, (p : Int) ∉ l)
  pos : ∀ p : Nat, p < 16 → 0 ≤ f p ∧ f p ≤ i
  inn : ∀ (k : Nat) (l : List Int), L[k]? = some l → ∀ x ∈ l, g x.toNat = k
  ris : ∀ l ∈ L, l.Pairwise fun a b => f a.toNat < f b.toNat
theorem OI.mono {i j : Nat} {L : List (List Int)} {f g : Nat → Int} (h : OI i L f g) (hij : i ≤ j) : OI j L f g :=
  ⟨h.zero, fun p hp => ⟨(h.pos p hp).1, by have := (h.pos p hp).2; omega⟩, h.inn, h.ris⟩
theorem OI.new (n : Nat) : OI 0 (List.replicate n []) (fun _ => 0) (fun _ => 0) := by
  have hm : ∀ l ∈ List.replicate n ([] : List Int), l = [] := fun l hl => List.eq_of_mem_replicate hl
  refine ⟨fun p _ => ⟨fun _ l hl => by rw [hm l hl]; simp, fun _ => rfl⟩, fun p _ => ⟨Int.le_refl _, Int.le_refl _⟩, ?_, ?_⟩
  · intro k l hl x hx
    rw [hm l (List.mem_of_getElem? hl)] at hx
    cases hx
  · intro l hl
    rw [hm l hl]
    exact List.Pairwise.nil
theorem OI.fall {i : Nat} {L : List (List Int)} {f g : Nat → Int} (h : OI i L f g) (hB : BG L) {k : Nat} {l : List Int} (hl : L[k]? = some l) {q : Nat} (hq : q < 16) (hn : ∀ m ∈ L, (q : Int) ∉ m) :
    OI (i + 1) (L.set k (l ++ [(q : Int)])) (upd f q ((i : Int) + 1)) (upd g q k) := by
  have hlt := (List.getElem?_eq_some_iff.1 hl).1
  have hlm := List.mem_of_getElem? hl
  have hx : ∀ m ∈ L, ∀ x ∈ m, x.toNat ≠ q ∧ x.toNat < 16 := by
    intro m hm x hx
    have h1 := hB.rng m hm x hx
    refine ⟨fun e => hn m hm ?_, by omega⟩
    have : (q : Int) = x := by omega
    rw [this]
    exact hx
  refine ⟨?_, ?_, ?_, ?_⟩
  · intro p hp
    by_cases e : p = q
    · subst e
      rw [upd_same]
      refine ⟨fun h0 => by omega, fun h0 => ?_⟩
      exact absurd (List.mem_append_right l (List.mem_singleton.2 rfl)) (h0 _ (set_mem hl))
    · rw [upd_ne _ _ e, h.zero p hp]
      constructor
      · intro h0 m hm hpm
        rcases List.mem_or_eq_of_mem_set hm with hm | rfl
        · exact h0 m hm hpm
        · rcases List.mem_append.1 hpm with h1 | h1
          · exact h0 l hlm h1
          · have : (p : Int) = q := by simpa using h1
            omega
      · intro h0 m hm hpm
        rcases mem_set (x := l ++ [(q : Int)]) hl hm with rfl | hm
        · exact h0 _ (set_mem hl) (List.mem_append_left _ hpm)
        · exact h0 m hm hpm
  · intro p hp
    have := h.pos p hp
    by_cases e : p = q
    · subst e
      rw [upd_same]
      omega
    · rw [upd_ne _ _ e]
      omega
  · intro j m hm x hxm
    by_cases e : j = k
    · subst e
      rw [List.getElem?_set_self hlt] at hm
      obtain rfl : l ++ [(q : Int)] = m := by simpa using hm
      rcases List.mem_append.1 hxm with h1 | h1
      · rw [upd_ne _ _ (hx l hlm x h1).1]
        exact h.inn j l hl x h1
      · obtain rfl : x = (q : Int) := by simpa using h1
        rw [Int.toNat_natCast, upd_same]
    · rw [List.getElem?_set_ne (Ne.symm e)] at hm
      rw [upd_ne _ _ (hx m (List.mem_of_getElem? hm) x hxm).1]
      exact h.inn j m hm x hxm
  · have key : ∀ m ∈ L, m.Pairwise fun a b => upd f q ((i : Int) + 1) a.toNat < upd f q ((i : Int) + 1) b.toNat := by
      intro m hm
      refine List.Pairwise.imp_of_mem ?_ (h.ris m hm)
      intro a b ha hb hab
      rwa [upd_ne _ _ (hx m hm a ha).1, upd_ne _ _ (hx m hm b hb).1]
    intro m hm
    rcases List.mem_or_eq_of_mem_set hm with hm | rfl
    · exact key m hm
    · rw [List.pairwise_append]
      refine ⟨key l hlm, List.pairwise_singleton _ _, fun a ha b hb => ?_⟩
      obtain rfl : b = (q : Int) := by simpa using hb
      have h1 := hx l hlm a ha
      have h2 := h.pos a.toNat h1.2
      rw [upd_ne _ _ h1.1, Int.toNat_natCast, upd_same]
      omega

/-- The array while a bucket's first j are seen. -/
def clN (f : Nat → Int) (l : List Int) (j : Nat) : Nat → Int := fun i => if (i : Int) ∈ l.take j then 0 else f i
def lsN (f : Nat → Int) (l : List Int) (j : Nat) : Int := if j = 0 then 0 else f (l.getD (j - 1) 0).toNat
theorem clN_zero (f : Nat → Int) (l : List Int) : clN f l 0 = f := by
  funext i
  simp [clN]
theorem clN_next (f : Nat → Int) (l : List Int) (j q : Nat) (h : l[j]? = some (q : Int)) : upd (clN f l j) q 0 = clN f l (j + 1) := by
  funext i
  unfold upd clN
  rw [take_next l j _ h]
  by_cases e : i = q
  · subst e
    simp
  · have : (i : Int) ≠ q := by omega
    simp [e, this]
theorem nodup_take {l : List Int} (h : l.Nodup) {j : Nat} {z : Int} (hz : l[j]? = some z) : z ∉ l.take j := by
  intro hm
  obtain ⟨i, hi, e⟩ := List.getElem_of_mem hm
  rw [List.length_take] at hi
  rw [List.getElem_take] at e
  obtain ⟨hj, e2⟩ := List.getElem?_eq_some_iff.1 hz
  have := (List.nodup_iff_pairwise_ne.1 h)
  rw [List.pairwise_iff_getElem] at this
  exact this i j (by omega) hj (by omega) (by rw [e, e2])
/-- Who is seen next fell later than who was seen last, into that bucket. -/
theorem OI.seen {i : Nat} {L : List (List Int)} {f g : Nat → Int} (h : OI i L f g) (hB : BG L) {k : Nat} {l : List Int} (hl : L[k]? = some l) {j q : Nat} (hj : l[j]? = some (q : Int)) :
    q < 16 ∧ clN f l j q = f q ∧ lsN f l j < f q ∧ g q = k ∧ lsN f l (j + 1) = f q := by
  have hlm := List.mem_of_getElem? hl
  have hm := List.mem_of_getElem? hj
  have hr := hB.rng l hlm _ hm
  have hq : q < 16 := by omega
  refine ⟨hq, ?_, ?_, ?_, ?_⟩
  · unfold clN
    rw [if_neg (nodup_take (hB.nd l hlm) hj)]
  · unfold lsN
    split
    · have h1 := h.pos q hq
      have h2 : f q ≠ 0 := fun e => (h.zero q hq).1 e l hlm hm
      omega
    · next h0 =>
      have hjl := (List.getElem?_eq_some_iff.1 hj)
      obtain ⟨hlt, e2⟩ := hjl
      have hp := h.ris l hlm
      rw [List.pairwise_iff_getElem] at hp
      have := hp (j - 1) j (by omega) hlt (by omega)
      rw [e2, Int.toNat_natCast] at this
      rw [List.getD_eq_getElem?_getD, List.getElem?_eq_getElem (by omega)]
      exact this
  · have := h.inn k l hl _ hm
    rwa [Int.toNat_natCast] at this
  · unfold lsN
    rw [if_neg (by omega), Nat.add_sub_cancel, List.getD_eq_getElem?_getD, hj]
    rfl
theorem OI.flush {i : Nat} {L : List (List Int)} {f g : Nat → Int} (h : OI i L f g) (hB : BG L) {k : Nat} {l : List Int} (hl : L[k]? = some l) : OI i (L.set k []) (clN f l l.length) g := by
  have hlt := (List.getElem?_eq_some_iff.1 hl).1
  have hlm := List.mem_of_getElem? hl
  have ht : l.take l.length = l := List.take_of_length_le (Nat.le_refl _)
  have hset : ∀ (j : Nat) (m : List Int), (L.set k [])[j]? = some m → m = [] ∨ (j ≠ k ∧ L[j]? = some m) := by
    intro j m hm
    by_cases e : j = k
    · subst e
      rw [List.getElem?_set_self hlt] at hm
      exact .inl (by simpa using hm.symm)
    · rw [List.getElem?_set_ne (Ne.symm e)] at hm
      exact .inr ⟨e, hm⟩
  have hoff : ∀ (j : Nat) (m : List Int), j ≠ k → L[j]? = some m → ∀ x ∈ m, clN f l l.length x.toNat = f x.toNat := by
    intro j m hj hm x hx
    unfold clN
    have h1 := hB.rng m (List.mem_of_getElem? hm) x hx
    rw [ht, if_neg]
    rw [show ((x.toNat : Nat) : Int) = x by omega]
    exact hB.dj j k m l hm hl hj x hx
  refine ⟨?_, ?_, ?_, ?_⟩
  · intro p hp
    unfold clN
    rw [ht]
    by_cases hpl : (p : Int) ∈ l
    · rw [if_pos hpl]
      refine ⟨fun _ m hm hpm => ?_, fun _ => rfl⟩
      obtain ⟨j, hj, rfl⟩ := List.getElem_of_mem hm
      rcases hset j _ (List.getElem?_eq_getElem hj) with e | ⟨hjk, hm⟩
      · rw [e] at hpm
        cases hpm
      · exact hB.dj j k _ l hm hl hjk _ hpm hpl
    · rw [if_neg hpl, h.zero p hp]
      constructor
      · intro h0 m hm hpm
        rcases List.mem_or_eq_of_mem_set hm with hm | rfl
        · exact h0 m hm hpm
        · cases hpm
      · intro h0 m hm hpm
        rcases mem_set (x := []) hl hm with rfl | hm
        · exact hpl hpm
        · exact h0 m hm hpm
  · intro p hp
    have := h.pos p hp
    unfold clN
    split
    · omega
    · exact this
  · intro j m hm x hx
    rcases hset j m hm with rfl | ⟨_, hm⟩
    · cases hx
    · exact h.inn j m hm x hx
  · intro m hm
    obtain ⟨j, hj, rfl⟩ := List.getElem_of_mem hm
    rcases hset j _ (List.getElem?_eq_getElem hj) with e | ⟨hjk, hm⟩
    · rw [e]
      exact List.Pairwise.nil
    · refine List.Pairwise.imp_of_mem ?_ (h.ris _ (List.mem_of_getElem? hm))
      intro a b ha hb hab
      rwa [hoff j _ hjk hm a ha, hoff j _ hjk hm b hb]
/-- Behind it nobody is told to be in that bucket. -/
theorem OI.none {i : Nat} {L : List (List Int)} {f g : Nat → Int} (h : OI i L f g) {k : Nat} (hl : L[k]? = some []) {q : Nat} (hq : q < 16) : f q ≤ 0 ∨ g q ≠ k := by
  by_cases h0 : f q = 0
  · exact .inl (by omega)
  · refine .inr fun e => h0 ((h.zero q hq).2 fun m hm hqm => ?_)
    obtain ⟨j, hj, rfl⟩ := List.getElem_of_mem hm
    have h1 := h.inn j _ (List.getElem?_eq_getElem hj) _ hqm
    rw [Int.toNat_natCast, e] at h1
    obtain rfl : k = j := by omega
    rw [List.getElem?_eq_getElem hj] at hl
    rw [Option.some.inj hl] at hqm
    cases hqm

/-! An array of sixteen ints. -/
def iC (f : Nat → Int) : List Value := (List.range 16).map fun i => .int .i64 (f i)
theorem iC_len (f : Nat → Int) : (iC f).length = 16 := by simp [iC]
theorem iC_get (f : Nat → Int) (q : Nat) (hq : q < 16) : (iC f)[q]? = some (.int .i64 (f q)) := by
  simp [iC, List.getElem?_range hq]
theorem iC_set (f : Nat → Int) (q : Nat) (v : Int) : (iC f).set q (.int .i64 v) = iC (upd f q v) := by
  apply List.ext_getElem?
  intro i
  by_cases e : i < 16
  · rw [iC_get _ i e, List.getElem?_set]
    by_cases hi : q = i
    · subst hi
      rw [if_pos rfl, if_pos (by rw [iC_len]; exact e), upd_same]
    · rw [if_neg hi, iC_get f i e, upd_ne _ _ (fun k => hi k.symm)]
  · rw [List.getElem?_eq_none (by rw [List.length_set, iC_len]; omega), List.getElem?_eq_none (by rw [iC_len]; omega)]
theorem iC_zero : iC (fun _ => 0) = [.int .i64 0, .int .i64 0, .int .i64 0, .int .i64 0, .int .i64 0, .int .i64 0, .int .i64 0, .int .i64 0, .int .i64 0, .int .i64 0, .int .i64 0, .int .i64 0, .int .i64 0, .int .i64 0, .int .i64 0, .int .i64 0] := rfl

/-- The table, and the two arrays at the blocks z and z + 1. -/
structure OW (w wr : World) (t s b z : Nat) (L : List (List Int)) (f g : Nat → Int) : Prop where
  T : TB wr t s b L
  att : Blk wr z (iC f) 49
  inn : Blk wr (z + 1) (iC g) 49
  up : Below w.heap.size w wr
section
variable {w wr w' : World} {t s b z : Nat} {L : List (List Int)} {f g : Nat → Int}
theorem OW.nb (h : OW w wr t s b z L f g) : z ≠ b ∧ z + 1 ≠ b := by
  obtain ⟨fr, ⟨_, _, _, _, h1⟩, _⟩ := h.T.pa
  exact ⟨h.att.ne h1.H.blk (by decide), h.inn.ne h1.H.blk (by decide)⟩
theorem OW.below (h : OW w wr t s b z L f g) (hb : Below wr.heap.size wr w') : OW w w' t s b z L f g :=
  ⟨h.T.below hb, h.att.up hb h.att.lt, h.inn.up hb h.inn.lt, up_trans h.up hb⟩
theorem OW.turn (h : OW w wr t s b z L f g) {M : List (List Int)} (hb : w.heap.size ≤ b) (hp : BPost wr t s b M w') : OW w w' t s b z M f g :=
  ⟨hp.1, h.att.only hp.2 h.nb.1, h.inn.only hp.2 h.nb.2, h.up.trans (hp.2.toBelow h.up.size fun _ e => e ▸ hb)⟩
theorem OW.putA (h : OW w wr t s b z L f g) (hz : w.heap.size ≤ z) (q : Nat) (v : Int) : OW w (wr.setCell ⟨z, q, none⟩ (.int .i64 v)) t s b z L (upd f q v) g := by
  have ho : Only (· = z) wr (wr.setCell ⟨z, q, none⟩ (.int .i64 v)) := (Only.refl _ _).put _ _
  refine ⟨h.T.only ho (h.T.tb.ne h.att (by decide)) (h.T.sb.ne h.att (by decide)) (fun e => h.nb.1 e.symm), ?_, h.inn.only ho (by omega), h.up.trans (ho.toBelow h.up.size fun _ e => e ▸ hz)⟩
  rw [← iC_set]
  exact h.att.set q _
theorem OW.putI (h : OW w wr t s b z L f g) (hz : w.heap.size ≤ z) (q : Nat) (v : Int) : OW w (wr.setCell ⟨z + 1, q, none⟩ (.int .i64 v)) t s b z L f (upd g q v) := by
  have ho : Only (· = z + 1) wr (wr.setCell ⟨z + 1, q, none⟩ (.int .i64 v)) := (Only.refl _ _).put _ _
  refine ⟨h.T.only ho (h.T.tb.ne h.inn (by decide)) (h.T.sb.ne h.inn (by decide)) (fun e => h.nb.2 e.symm), h.att.only ho (by omega), ?_, h.up.trans (ho.toBelow h.up.size fun _ e => by omega)⟩
  rw [← iC_set]
  exact h.inn.set q _
end
end Go.Proofs.Ytcdbblmoimmniaa

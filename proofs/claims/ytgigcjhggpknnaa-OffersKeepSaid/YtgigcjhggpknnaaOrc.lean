/- The law OffersKeep: plain maths of numbers; its variables in memory. -/
import Derived.Test.YtgigcjhggpknnaaOra
import Derived.Test.YtgigcjhggpknnaaNe
namespace Go.Proofs.Ytgigcjhggpknnaa
open Go.RowKit

/-- The numbers of a process's offers. -/
def numO (D : List OF) (p : Nat) : List Int := (whoO D p).map (·.g.n)
theorem num_of (D : List OF) (p : Nat) : (ofL D p).map (·.n) = numO D p := by
  unfold ofL numO
  rw [List.map_map]
  rfl
theorem num_clear (D : List OF) (q p : Nat) : numO (clO D q) p = if p = q then [] else numO D p := by
  unfold numO
  rw [cl_who]
  by_cases h : p = q
  · subst h
    rw [if_pos rfl, if_pos rfl]
    rfl
  · rw [if_neg h, if_neg (by omega)]
theorem cl_len (D : List OF) (q : Int) : (clO D q).length + (whoO D q).length = D.length := by
  unfold clO whoO
  induction D with
  | nil => rfl
  | cons a D ih =>
    rw [List.filter_cons, List.filter_cons]
    cases h : isW q a
    · simp
      omega
    · simp
      omega
theorem nodup_filter : ∀ (l : List Int) (i : Nat) (z : Int), l.Nodup → l[i]? = some z → l.filter (fun n => n != z) = l.take i ++ l.drop (i + 1)
  | [], i, z, _, h => by simp at h
  | a :: l, 0, z, hn, h => by
    obtain rfl : a = z := by simpa using h
    obtain ⟨h1, _⟩ := List.nodup_cons.1 hn
    rw [List.filter_cons, if_neg (by simp)]
    have : l.filter (fun n => n != a) = l := List.filter_eq_self.2 fun x hx => by
      have : x ≠ a := fun e => h1 (e ▸ hx)
      simpa using this
    rw [this]
    rfl
  | a :: l, i + 1, z, hn, h => by
    obtain ⟨h1, h2⟩ := List.nodup_cons.1 hn
    have hz : l[i]? = some z := by simpa using h
    have haz : a ≠ z := fun e => h1 (e ▸ List.mem_of_getElem? hz)
    rw [List.filter_cons, if_pos (by simpa using haz), nodup_filter l i z h2 hz]
    rfl
theorem num_drop {D : List OF} {q : Nat} {no : Int} (hn : (numO D q).Nodup) :
    numO (drpO D q no) q = (numO D q).filter (fun n => n != no) ∧ (∀ p : Nat, p ≠ q → numO (drpO D q no) p = numO D p) ∧ ((hasO D q no = true ∧ ((numO D q).filter (fun n => n != no)).length < (numO D q).length) ∨ (hasO D q no = false ∧ (numO D q).filter (fun n => n != no) = numO D q)) := by
  cases h : hasO D q no
  · obtain ⟨h1, h2⟩ := has_no h
    have hf : (numO D q).filter (fun n => n != no) = numO D q := List.filter_eq_self.2 fun x hx => by
      obtain ⟨y, hy, rfl⟩ := List.mem_map.1 hx
      simpa using h1 y hy
    rw [h2, hf]
    exact ⟨rfl, fun _ _ => rfl, .inr ⟨rfl, rfl⟩⟩
  · obtain ⟨i, x, hx, hxn, _, h5, _, _, h8⟩ := has_yes h
    have hz : (numO D q)[i]? = some no := by
      unfold numO
      rw [List.getElem?_map, hx]
      simp [hxn]
    have hf := nodup_filter _ i no hn hz
    have hi := (List.getElem?_eq_some_iff.1 hz).1
    refine ⟨?_, fun p hp => ?_, .inl ⟨rfl, ?_⟩⟩
    · rw [hf]
      unfold numO
      rw [h5, List.map_append, List.map_take, List.map_drop]
    · unfold numO
      rw [h8 p (by omega)]
    · rw [hf, List.length_append, List.length_take, List.length_drop]
      omega
theorem num_put (D : List OF) (q : Nat) (g : GD) (p : Nat) : numO (D ++ [⟨(q : Int), g⟩]) p = if p = q then numO D q ++ [g.n] else numO D p := by
  unfold numO
  rw [who_app]
  by_cases h : p = q
  · subst h
    rw [if_pos rfl, if_pos rfl, List.map_append]
    rfl
  · rw [if_neg (by simp; omega), if_neg h, List.append_nil]
theorem num_fresh {D : List OF} {q : Nat} {no : Int} (h : hasO D q no = false) : no ∉ numO D q := by
  intro hm
  obtain ⟨y, hy, e⟩ := List.mem_map.1 hm
  exact (has_no h).1 y hy e
theorem nodup_snoc {l : List Int} {z : Int} (h : l.Nodup) (hz : z ∉ l) : (l ++ [z]).Nodup := by
  rw [List.nodup_append]
  refine ⟨h, by simp, fun a ha b hb => ?_⟩
  obtain rfl : b = z := by simpa using hb
  rintro rfl
  exact hz ha
/-- All offers are of that kind: On tells as many as there are. -/
theorem on_all {D : List OF} (hw : ∀ x ∈ D, 0 ≤ x.w ∧ x.w < 16) {k o : Int} (hg : ∀ x ∈ D, x.g.k = k ∧ x.g.o = o) : (onO D k o).length = D.length := by
  have key : ∀ q : Nat, (rowO D k o q).length = cntO D q := by
    intro q
    induction q with
    | zero => rfl
    | succ q ih =>
      rw [row_next, cnt_next, List.length_append, ih]
      congr 1
      unfold onL
      rw [List.filter_eq_self.2 fun x hx => ?_]
      obtain ⟨h1, h2⟩ := hg x (who_w hx).2
      unfold onB
      rw [h1, h2]
      simp
  have := key 16
  rw [cnt_all D hw] at this
  exact this

theorem of_few3 (D : List OF) (who : Int) : (ofL D who).length ≤ D.length := by
  unfold ofL
  rw [List.length_map]
  exact who_len D who

/-- A process's numbers as the law keeps them: a slice's address, its capacity, the numbers. -/
abbrev DQ := Option Addr × Nat × List Int
def sliceV (d : DQ) : Value := .slice d.1 d.2.2.length d.2.1
def noQ : List DQ := List.replicate 16 (none, 0, [])
theorem own_lo {w : World} {lo lo' size n : Nat} {e : TypeId} {v : Value} {xs : List Value} (h : w.ownsRow lo e size v n xs) (hl : lo' ≤ lo) : w.ownsRow lo' e size v n xs := by
  refine ⟨h.1, ?_⟩
  rcases h.2 with h2 | ⟨g, cap, cur, hv, hg, r⟩
  · exact .inl h2
  · exact .inr ⟨g, cap, cur, hv, Nat.le_trans hl hg, r⟩
/-- A store into a block of another type leaves a table as it is. -/
theorem OT.setz {w : World} {t s a S b room M : Nat} {D : List OF} (h : OT w t s a S b room M D) {z : Nat} {cs : List Value} {T : TypeId} (hB : Blk w z cs T) (h1 : 61 ≠ T) (h2 : 73 ≠ T) (h3 : 108 ≠ T) (h4 : 93 ≠ T) (h5 : 65 ≠ T) (h6 : 104 ≠ T) (j : Nat) (v : Value) :
    OT (w.setCell ⟨z, j, none⟩ v) t s a S b room M D := by
  have ho : Only (· = z) w (w.setCell ⟨z, j, none⟩ v) := (Only.refl _ _).put _ _
  obtain ⟨τ, Hs, fr, X⟩ := h
  obtain ⟨_, _, _, _, hq⟩ := X.pa
  refine ⟨τ, Hs, fr, X.tb.only ho (X.tb.ne hB h1), X.sb.only ho (X.sb.ne hB h2), ?_, X.pa.only ho (hq.H.blk.ne hB h6), X.iv, X.rm, X.len, X.r2⟩
  exact ⟨X.at_.tab.only ho (X.at_.tab.ne hB h3), X.at_.row.only ho (X.at_.row.ne hB h4), fun y hy c e f => (X.at_.one y hy c e f).only ho ((X.at_.one y hy c e f).ne hB h5), X.at_.pos, X.at_.few⟩

/-- What the law holds: the table; at block z a slice of numbers for each process. -/
structure KW (w wr : World) (t s a S b z M : Nat) (D : List OF) (Q : List DQ) : Prop where
  T : OT wr t s a S b 60 M D
  B : Blk wr z (Q.map sliceV) 56
  q16 : Q.length = 16
  own : ∀ (p : Nat) (d : DQ), Q[p]? = some d → wr.ownsRow w.heap.size 3 1 (sliceV d) d.2.2.length (d.2.2.map (Value.int .i64))
  num : ∀ (p : Nat) (d : DQ), Q[p]? = some d → d.2.2 = numO D p
  sep : ∀ (p q : Nat) (d e : DQ) (g : Nat), Q[p]? = some d → Q[q]? = some e → p ≠ q → (sliceV d).ownBlock = some g → (sliceV e).ownBlock ≠ some g
  up : Below w.heap.size w wr
  hz : w.heap.size ≤ z
  hS : w.heap.size ≤ S
  hb : w.heap.size ≤ b
  nd : ∀ p : Nat, (numO D p).Nodup
  g5 : ∀ x ∈ D, x.g.k = 5 ∧ x.g.o = 0
section
variable {w wr w' : World} {t s a S b z M : Nat} {D : List OF} {Q : List DQ}
theorem KW.below (h : KW w wr t s a S b z M D Q) (o : Below wr.heap.size wr w') : KW w w' t s a S b z M D Q :=
  ⟨h.T.below o, h.B.up o h.B.lt, h.q16, fun p d hd => own_below (h.own p d hd) o, h.num, h.sep, up_trans h.up o, h.hz, h.hS, h.hb, h.nd, h.g5⟩
theorem KW.mono (h : KW w wr t s a S b z M D Q) {M' : Nat} (hM : M ≤ M') : KW w wr t s a S b z M' D Q :=
  ⟨h.T.mono hM, h.B, h.q16, h.own, h.num, h.sep, h.up, h.hz, h.hS, h.hb, h.nd, h.g5⟩
theorem KW.nz (h : KW w wr t s a S b z M D Q) : ¬ two S b z := h.T.nb h.B (by decide) (by decide)
theorem KW.at_ (h : KW w wr t s a S b z M D Q) {p : Nat} (hp : p < 16) : ∃ d, Q[p]? = some d ∧ wr.cell? ⟨z, p, none⟩ = some (.slice d.1 d.2.2.length d.2.1) ∧ d.2.2 = numO D p ∧ RD wr (w.heap.size ≤ ·) 1 d.1 d.2.2.length (d.2.2.map (Value.int .i64)) := by
  have hlt : p < Q.length := by rw [h.q16]; exact hp
  have hd : Q[p]? = some Q[p] := List.getElem?_eq_getElem hlt
  refine ⟨Q[p], hd, ?_, h.num p _ hd, RD.of_own (h.own p _ hd)⟩
  have := h.B.cell p (sliceV Q[p]) (by rw [List.getElem?_map, hd]; rfl)
  exact this
/-- A row's block is of ints. -/
theorem KW.blk (h : KW w wr t s a S b z M D Q) {p : Nat} {d : DQ} (hd : Q[p]? = some d) {g : Nat} (hg : (sliceV d).ownBlock = some g) : g < wr.heap.size ∧ ¬ two S b g ∧ g ≠ z := by
  obtain ⟨_, cs, hB⟩ := own_blk (h.own p d hd) g hg
  exact ⟨hB.lt, h.T.nb hB (by decide) (by decide), hB.ne h.B (by decide)⟩
/-- The table has another list, and one process's slice is another one, which is put into its place. -/
theorem KW.put {w2 : World} {M' : Nat} {E : List OF} {q : Nat} {d d' : DQ} (h : KW w wr t s a S b z M D Q) (hd : Q[q]? = some d) (hT : OT w2 t s a S b 60 M' E)
    (o : Only (fun k => two S b k ∨ (sliceV d).ownBlock = some k) wr w2) (hown : w2.ownsRow w.heap.size 3 1 (sliceV d') d'.2.2.length (d'.2.2.map (Value.int .i64)))
    (hlie : ∀ g, (sliceV d').ownBlock = some g → (sliceV d).ownBlock = some g ∨ wr.heap.size ≤ g) (hq : d'.2.2 = numO E q) (hp : ∀ p : Nat, p ≠ q → numO E p = numO D p) (hn : (numO E q).Nodup) (h5 : ∀ x ∈ E, x.g.k = 5 ∧ x.g.o = 0) :
    KW w (w2.setCell ⟨z, q, none⟩ (sliceV d')) t s a S b z M' E (Q.set q d') := by
  have hql := (List.getElem?_eq_some_iff.1 hd).1
  have hB2 : Blk w2 z (Q.map sliceV) 56 := h.B.only o (fun e => by
    rcases e with e | e
    · exact h.nz e
    · exact (h.blk hd e).2.2 rfl)
  have hoz : Only (· = z) w2 (w2.setCell ⟨z, q, none⟩ (sliceV d')) := (Only.refl _ _).put _ _
  have hcase : ∀ (p : Nat) (e : DQ), (Q.set q d')[p]? = some e → (p = q ∧ e = d') ∨ (p ≠ q ∧ Q[p]? = some e) := by
    intro p e he
    by_cases hpq : p = q
    · subst hpq
      rw [List.getElem?_set_self hql] at he
      exact .inl ⟨rfl, by simpa using he.symm⟩
    · rw [List.getElem?_set_ne (Ne.symm hpq)] at he
      exact .inr ⟨hpq, he⟩
  have hkeep : ∀ (p : Nat) (e : DQ), p ≠ q → Q[p]? = some e → w2.ownsRow w.heap.size 3 1 (sliceV e) e.2.2.length (e.2.2.map (Value.int .i64)) := by
    intro p e hpq he
    refine own_keep (h.own p e he) o fun g hg hk => ?_
    rcases hk with hk | hk
    · exact (h.blk he hg).2.1 hk
    · exact h.sep p q e d g he hd hpq hg hk
  refine ⟨hT.setz hB2 (by decide) (by decide) (by decide) (by decide) (by decide) (by decide) q _, ?_, by rw [List.length_set]; exact h.q16, ?_, ?_, ?_, ?_, h.hz, h.hS, h.hb, ?_, h5⟩
  · have := hB2.set q (sliceV d')
    rwa [← List.map_set] at this
  · intro p e he
    rcases hcase p e he with ⟨rfl, rfl⟩ | ⟨hpq, he⟩
    · refine own_keep hown hoz fun g hg hk => ?_
      obtain ⟨_, cs, hB⟩ := own_blk hown g hg
      exact hB.ne hB2 (by decide) hk
    · refine own_keep (hkeep p e hpq he) hoz fun g hg hk => ?_
      exact (h.blk he hg).2.2 hk
  · intro p e he
    rcases hcase p e he with ⟨rfl, rfl⟩ | ⟨hpq, he⟩
    · exact hq
    · rw [hp p hpq]
      exact h.num p e he
  · intro p r e f g he hf hpr hg hg2
    rcases hcase p e he with ⟨h1, h2⟩ | ⟨hpq, he'⟩
    · rcases hcase r f hf with ⟨h3, h4⟩ | ⟨hrq, hf'⟩
      · exact hpr (h1.trans h3.symm)
      · rw [h2] at hg
        rcases hlie g hg with h3 | h3
        · exact h.sep q r d f g hd hf' (fun e => hrq e.symm) h3 hg2
        · have := (h.blk hf' hg2).1
          omega
    · rcases hcase r f hf with ⟨h3, h4⟩ | ⟨hrq, hf'⟩
      · rw [h4] at hg2
        rcases hlie g hg2 with h1 | h1
        · exact h.sep p q e d g he' hd hpq hg h1
        · have := (h.blk he' hg).1
          omega
      · exact h.sep p r e f g he' hf' hpr hg hg2
  · refine (h.up.trans (o.toBelow h.up.size fun i e => ?_)).trans (hoz.toBelow (Nat.le_trans h.up.size o.size) fun i e => e ▸ h.hz)
    rcases e with (e | e) | e
    · exact e ▸ h.hS
    · exact e ▸ h.hb
    · exact (own_blk (h.own q d hd) i e).1
  · intro p
    by_cases hpq : p = q
    · subst hpq
      exact hn
    · rw [hp p hpq]
      exact h.nd p
/-- The table has turned, and its list not: no slice goes into its place. -/
theorem KW.same {w2 : World} {M' : Nat} (h : KW w wr t s a S b z M D Q) (hT : OPost wr t s a S b 60 M' D w2) : KW w w2 t s a S b z M' D Q := by
  refine ⟨hT.1, h.B.only hT.2 h.nz, h.q16, fun p d hd => own_keep (h.own p d hd) hT.2 fun g hg hk => (h.blk hd hg).2.1 hk, h.num, h.sep, ?_, h.hz, h.hS, h.hb, h.nd, h.g5⟩
  refine h.up.trans (hT.2.toBelow h.up.size fun i e => ?_)
  rcases e with e | e
  · exact e ▸ h.hS
  · exact e ▸ h.hb
end
theorem noQ_cells : noQ.map sliceV = [.slice none 0 0, .slice none 0 0, .slice none 0 0, .slice none 0 0, .slice none 0 0, .slice none 0 0, .slice none 0 0, .slice none 0 0, .slice none 0 0, .slice none 0 0, .slice none 0 0, .slice none 0 0, .slice none 0 0, .slice none 0 0, .slice none 0 0, .slice none 0 0] := rfl
theorem KW.new {w wr : World} {t s a S b z : Nat} (hT : OT wr t s a S b 60 0 []) (hB : Blk wr z (noQ.map sliceV) 56) (up : Below w.heap.size w wr) (hz : w.heap.size ≤ z) (hS : w.heap.size ≤ S) (hb : w.heap.size ≤ b) : KW w wr t s a S b z 0 [] noQ := by
  have hm : ∀ (p : Nat) (d : DQ), noQ[p]? = some d → d = (none, 0, []) := fun p d hd => List.eq_of_mem_replicate (List.mem_of_getElem? hd)
  refine ⟨hT, hB, rfl, fun p d hd => ?_, fun p d hd => ?_, fun p q d e g hd _ _ hg => ?_, up, hz, hS, hb, fun p => List.nodup_nil, fun x hx => by cases hx⟩
  · rw [hm p d hd]
    exact World.ownsRow_nil _ _ _ _
  · rw [hm p d hd]
    rfl
  · rw [hm p d hd] at hg
    simp [sliceV, Value.ownBlock] at hg
end Go.Proofs.Ytgigcjhggpknnaa

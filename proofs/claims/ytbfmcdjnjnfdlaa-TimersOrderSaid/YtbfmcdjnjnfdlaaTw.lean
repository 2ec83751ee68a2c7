/- A list that lives behind a first world; what both sides do at each call. -/
import Derived.Test.YtbfmcdjnjnfdlaaTr
import Derived.Test.YtbfmcdjnjnfdlaaTu
import Derived.Test.YtbfmcdjnjnfdlaaTv
namespace Go.Proofs.Ytbfmcdjnjnfdlaa
open Go.RowKit

/-- Blocks of other types than the list's stay. -/
def Keeps (w w' : World) : Prop := ∀ b cs ty, ty ≠ 42 → ty ≠ 63 → Blk w b cs ty → Blk w' b cs ty
theorem Keeps.of_below {w w' : World} (h : Below w.heap.size w w') : Keeps w w' := fun _ _ _ _ _ hb => hb.up h hb.lt
theorem Keeps.trans {a b c : World} (h : Keeps a b) (k : Keeps b c) : Keeps a c := fun x cs ty h1 h2 hb => k x cs ty h1 h2 (h x cs ty h1 h2 hb)
theorem Keeps.of_only {w w' : World} {t S lo : Nat} {room last : Int} {v : Value} {xs : List Tm} (h : TL w t S lo room last v xs) (ho : Only (PS S v) w w') : Keeps w w' := fun b cs ty h1 h2 hb => hb.only ho (fun k => by
  rcases k with rfl | k
  · exact hb.ne h.box h2 rfl
  · obtain ⟨_, ds, hd⟩ := own_blk h.pile.row b k
    exact hb.ne hd h1 rfl)
theorem DR.keeps {w w' : World} {lo : Nat} {u : Value} {L : List Tm} (h : DR w lo u L) (hk : Keeps w w') : DR w' lo u L := by
  refine ⟨h.1, ?_⟩
  rcases h.2 with h2 | ⟨g, cap, cur, hv, hg, hh, r⟩
  · exact .inl h2
  · refine .inr ⟨g, cap, cur, hv, hg, ?_, r⟩
    have hb : Blk w g cur.toList 45 := by unfold Blk; rw [Array.toArray_toList]; exact hh
    have := hk g cur.toList _ (by decide) (by decide) hb
    unfold Blk at this
    rwa [Array.toArray_toList] at this
theorem DR.zero {w : World} {lo : Nat} {u : Value} {L : List Tm} (h : DR w lo u L) : DR w 0 u L := own_lo h (Nat.zero_le _)

/-- The list at t, S, which was made behind w0, has the timers L; n is the last number. -/
def LV (w0 w : World) (t S rm n : Nat) (L : List Tm) : Prop :=
  ∃ v xs, TL w t S w0.heap.size rm n v xs ∧ TS L xs n ∧ Below w0.heap.size w0 w ∧ w0.heap.size ≤ S ∧ w0.heap.size ≤ t
theorem LV.below {w0 w w' : World} {t S rm n : Nat} {L : List Tm} (h : LV w0 w t S rm n L) (hb : Below w.heap.size w w') : LV w0 w' t S rm n L := by
  obtain ⟨v, xs, h1, h2, h3, h4, h5⟩ := h
  exact ⟨v, xs, h1.below hb, h2, up_trans h3 hb, h4, h5⟩
theorem LV.up {w0 w : World} {t S rm n : Nat} {L : List Tm} (h : LV w0 w t S rm n L) : Below w0.heap.size w0 w := by
  obtain ⟨v, xs, h1, h2, h3, h4, h5⟩ := h
  exact h3
theorem LV.few {w0 w : World} {t S rm n : Nat} {L : List Tm} (h : LV w0 w t S rm n L) : L.length ≤ 2000 := by
  obtain ⟨v, xs, h1, h2, _⟩ := h
  rw [← h2.len]
  exact h1.pile.few
/-- What a call on the list leaves. -/
def PostP (w0 w : World) (t S rm n : Nat) (L : List Tm) (r : Value) (e : Ending) (w' : World) : Prop := e = .returned r ∧ LV w0 w' t S rm n L ∧ Keeps w w' ∧ w.heap.size ≤ w'.heap.size
theorem LV.post {w0 w w' : World} {t S rm n n' : Nat} {L' : List Tm} {v : Value} {xs : List Tm} {r : Value} {e : Ending} (h : TL w t S w0.heap.size rm n v xs) (h3 : Below w0.heap.size w0 w) (h4 : w0.heap.size ≤ S) (h5 : w0.heap.size ≤ t)
    (d : LPost w t S w0.heap.size rm v L' n' r e w') : PostP w0 w t S rm n' L' r e w' := by
  obtain ⟨v', xs', rfl, d1, d2, d3⟩ := d
  refine ⟨rfl, ⟨v', xs', d1, d2, h3.trans (d3.toBelow h3.size fun k hk => ?_), h4, h5⟩, Keeps.of_only h d3, d3.size⟩
  rcases hk with rfl | hk
  · exact h4
  · exact (h.pile.row.lt k hk).1
theorem LV.still {w0 w w' : World} {t S rm n : Nat} {L : List Tm} {r : Value} (h : LV w0 w t S rm n L) (hb : Below w.heap.size w w') : PostP w0 w t S rm n L r (.returned r) w' := ⟨rfl, h.below hb, Keeps.of_below hb, hb.size⟩
/-- What a document's call gives. -/
def D0 (w : World) (rm n : Nat) (L : List Tm) (mk : Value → Value) (e : Ending) (w' : World) : Prop :=
  ∃ u, e = .returned (mk (.agg #[.int .i64 (rm : Int), .int .i64 (n : Int), u])) ∧ DR w' 0 u L ∧ Below w.heap.size w w'

theorem lv_new (r : Nat) (w : World) (hr : r ≤ 1024) : Calls Try.prog 7 #[.int .i64 (r : Int)] w (PostP w w (w.heap.size + 1) w.heap.size r 0 [] (.tuple #[.pointer (some ⟨w.heap.size + 1, 0, none⟩), .int .i64 0])) :=
  (c_new r w (by omega) (by omega)).mono fun _ _ ⟨a, b, c⟩ => ⟨a, ⟨_, _, b, nil_ts, c, Nat.le_refl _, by omega⟩, Keeps.of_below c, c.size⟩
theorem lv_new_d (r : Nat) (w : World) (hr : r ≤ 1024) : Calls Try.prog 8 #[.int .i64 (r : Int)] w (D0 w r 0 [] fun v => .tuple #[v, .int .i64 0]) :=
  (c_rnew r w (by omega) (by omega)).mono fun _ w' ⟨a, b⟩ => ⟨.slice none 0 0, a, DR.nil w' 0, b⟩

theorem add_both {w0 w : World} {t S rm n : Nat} {L : List Tm} (h : LV w0 w t S rm n L) (hl : L.length ≤ rm) (hrm : rm ≤ 1024) (hn : n ≤ 1000000) (a who : Int) : ∃ (m er : Int) (n' : Nat) (L' : List Tm), n' ≤ n + 1 ∧ L'.length ≤ rm ∧
    Calls Try.prog 11 #[.pointer (some ⟨t, 0, none⟩), .int .i64 a, .int .i64 who] w (PostP w0 w t S rm n' L' (.tuple #[.int .i64 m, .int .i64 er])) ∧
    ∀ W u, DR W 0 u L → Calls Try.prog 12 #[.agg #[.int .i64 (rm : Int), .int .i64 (n : Int), u], .int .i64 a, .int .i64 who] W (D0 W rm n' L' fun v => .tuple #[v, .int .i64 m, .int .i64 er]) := by
  have hf := h.few
  have h0 := h
  obtain ⟨v, xs, h1, h2, h3, h4, h5⟩ := h
  cases ha : fineC a
  · refine ⟨0, 8, n, L, by omega, hl, ?_, fun W u hu => ?_⟩
    · exact (c_add_bad h1 a who ha).mono fun _ _ ⟨e, d⟩ => by subst e; subst d; exact h0.still (Below.refl _ _)
    · obtain ⟨A, c, rfl, _⟩ := hu.slice
      exact (c_radd_bad W rm n A L.length c a who ha).mono fun _ _ ⟨e, d⟩ => ⟨_, e, hu.below d, d⟩
  · by_cases hlt : L.length < rm
    · refine ⟨(n : Int) + 1, 0, n + 1, insT L ⟨a, (n : Int) + 1, who⟩, Nat.le_refl _, by rw [insT_len]; exact hlt, ?_, fun W u hu => ?_⟩
      · exact (c_add_ok h1 h2 h3.size hlt hrm hn a who ha).mono fun _ _ d => LV.post h1 h3 h4 h5 d
      · exact (c_radd hu rm a who ha hlt hrm hn).mono fun _ _ ⟨u, e, d, b⟩ => ⟨u, e, d.zero, b⟩
    · have he : L.length = rm := by omega
      refine ⟨0, 10, n, L, by omega, hl, ?_, fun W u hu => ?_⟩
      · have h1' := h1
        rw [← he, ← h2.len] at h1'
        exact (c_add_full h1' a who ha).mono fun _ _ ⟨e, d⟩ => by subst e; exact h0.still d.below
      · obtain ⟨A, c, rfl, _⟩ := hu.slice
        have c1 := c_radd_full W n A L.length c a who ha
        rw [he] at c1
        rw [he]
        exact c1.mono fun _ _ ⟨e, d⟩ => ⟨_, e, (he ▸ hu.below d), d⟩
theorem first_no : ∀ (L : List Tm) (no : Int), (∀ x ∈ L, x.no ≠ no) ∨ ∃ i, i < L.length ∧ (gt L i).no = no ∧ ∀ k, k < i → (gt L k).no ≠ no
  | [], _ => .inl fun _ h => by cases h
  | x :: L, no => by
    by_cases hx : x.no = no
    · exact .inr ⟨0, by simp, hx, fun k hk => by omega⟩
    · rcases first_no L no with h | ⟨i, hi, h1, h2⟩
      · left
        intro y hy
        rcases List.mem_cons.1 hy with rfl | hy
        · exact hx
        · exact h y hy
      · refine .inr ⟨i + 1, by simpa using hi, h1, fun k hk => ?_⟩
        rcases k with _ | k
        · exact hx
        · exact h2 k (by omega)
theorem drop_both {w0 w : World} {t S rm n : Nat} {L : List Tm} (h : LV w0 w t S rm n L) (hl : L.length ≤ rm) (no : Int) : ∃ (er : Int) (L' : List Tm), L'.length ≤ rm ∧
    Calls Try.prog 9 #[.pointer (some ⟨t, 0, none⟩), .int .i64 no] w (PostP w0 w t S rm n L' (.int .i64 er)) ∧
    ∀ W u, DR W 0 u L → Calls Try.prog 10 #[.agg #[.int .i64 (rm : Int), .int .i64 (n : Int), u], .int .i64 no] W (D0 W rm n L' fun v => .tuple #[v, .int .i64 er]) := by
  have hf := h.few
  obtain ⟨v, xs, h1, h2, h3, h4, h5⟩ := h
  rcases first_no L no with hno | ⟨i, hi, hx, hfi⟩
  · refine ⟨6, L, hl, (c_drop_no h1 h2 no hno).mono fun _ _ d => LV.post h1 h3 h4 h5 d, fun W u hu => ?_⟩
    exact (c_rdrop_no hu hf rm n no hno).mono fun _ _ ⟨e, d⟩ => ⟨_, e, hu.below d, d⟩
  · refine ⟨0, L.eraseIdx i, by rw [List.length_eraseIdx]; split <;> omega, (c_drop_yes h1 h2 no (gt L i) (gt_some hi) hx).mono fun _ _ d => LV.post h1 h3 h4 h5 d, fun W u hu => ?_⟩
    exact (c_rdrop_yes hu hf rm n no i hi hx hfi).mono fun _ _ ⟨u, e, d, b⟩ => ⟨u, e, d.zero, b⟩

theorem lv_len {w0 w : World} {t S rm n : Nat} {L : List Tm} (h : LV w0 w t S rm n L) : Calls Try.prog 14 #[.pointer (some ⟨t, 0, none⟩)] w fun e w' => e = .returned (.int .i64 (L.length : Int)) ∧ w = w' := by
  obtain ⟨v, xs, h1, h2, _⟩ := h
  rw [← h2.len]
  exact c_llen h1
theorem lv_all {w0 w : World} {t S rm n : Nat} {L : List Tm} (h : LV w0 w t S rm n L) : Calls Try.prog 17 #[.pointer (some ⟨t, 0, none⟩)] w (RowPost w L) := by
  obtain ⟨v, xs, h1, h2, _⟩ := h
  exact c_all h1 h2
theorem lv_due {w0 w : World} {t S rm n : Nat} {L : List Tm} (h : LV w0 w t S rm n L) (now : Int) : Calls Try.prog 18 #[.pointer (some ⟨t, 0, none⟩), .int .i64 now] w (RowPost w (dueL now L)) := by
  obtain ⟨v, xs, h1, h2, _⟩ := h
  exact c_ldue h1 h2 now
theorem lv_first {w0 w : World} {t S rm n : Nat} {L : List Tm} (h : LV w0 w t S rm n L) : Calls Try.prog 13 #[.pointer (some ⟨t, 0, none⟩)] w fun e w' => e = .returned (.tuple #[tmA (gt L 0), .bool (decide (0 < L.length))]) ∧ Below w.heap.size w w' := by
  obtain ⟨v, xs, h1, h2, _⟩ := h
  refine (c_first h1).mono fun e w' d => ⟨?_, d.2⟩
  rw [d.1, h2.len]
  rcases L with _ | ⟨x, L⟩
  · rfl
  · rw [if_pos (by simp), h2.first]
    rfl
end Go.Proofs.Ytbfmcdjnjnfdlaa

/- Steps that do the same to a pool and to the document's: the law QueuePlays. -/
import Derived.Test.YthakcjabeekihaaQy
namespace Go.Proofs.Ythakcjabeekihaa
open Go.RowKit

theorem PPost.of_drew {w w' : World} {b : Nat} {Vs : List (List Int)} {fr : Nat} (h : PA w b Vs fr) (hd : Drew w w') : PPost w b Vs fr w' := by
  obtain ⟨n, rfl⟩ := hd
  exact ⟨h.below (up_drewN _ _), (Only.refl _ w).drewN n⟩
theorem PPost.same {w : World} {b : Nat} {Vs : List (List Int)} {fr : Nat} (h : PA w b Vs fr) : PPost w b Vs fr w := ⟨h, Only.refl _ w⟩

theorem first_ix (l : List Int) (x : Int) : (∀ y ∈ l, y ≠ x) ∨ ∃ i, l[i]? = some x ∧ ∀ y ∈ l.take i, y ≠ x := by
  induction l with
  | nil => exact .inl (by simp)
  | cons a l ih =>
    by_cases ha : a = x
    · exact .inr ⟨0, by simp [ha], by simp⟩
    · rcases ih with h | ⟨i, h1, h2⟩
      · exact .inl (by
          intro y hy
          rcases List.mem_cons.1 hy with rfl | hy
          · exact ha
          · exact h y hy)
      · refine .inr ⟨i + 1, by simpa using h1, ?_⟩
        intro y hy
        rw [List.take_succ_cons] at hy
        rcases List.mem_cons.1 hy with rfl | hy
        · exact ha
        · exact h2 y hy
theorem d_of {D : List DQ} {Vs : List (List Int)} (hD : numsD D = Vs) {q : Nat} {l : List Int} (hq : Vs[q]? = some l) : ∃ d, D[q]? = some d ∧ d.2.2 = l := by
  subst hD
  unfold numsD at hq
  rw [List.getElem?_map] at hq
  rcases hd : D[q]? with _ | d
  · simp [hd] at hq
  · exact ⟨d, rfl, by simpa [hd] using hq⟩
theorem d_len {D : List DQ} {Vs : List (List Int)} (hD : numsD D = Vs) : D.length = Vs.length := by
  subst hD
  simp [numsD]

/-- A step that answers r: what the program and the document do. -/
structure RemBoth (w : World) (b : Nat) (Vs : List (List Int)) (room : Nat) (q x : Int) (Ws : List (List Int)) (fr' : Nat) (r : Bool) : Prop where
  prog : Calls Try.prog 9 #[.pointer (some ⟨b, 0, none⟩), .int .i64 q, .int .i64 x] w fun e w' => e = .returned (.bool r) ∧ PPost w b Ws fr' w'
  doc : ∀ (W : World) (pl : Nat → Prop) (D : List DQ) (A : Option Addr) (c : Nat), RQ W pl D A c → numsD D = Vs → (∀ k, W.heap.size ≤ k → pl k) →
    Calls Try.prog 10 #[.agg #[.int .i64 room, .slice A D.length c], .int .i64 q, .int .i64 x] W (DPost W pl room Ws fun v => .tuple #[v, .bool r])
  sum : fr' + sumlen Ws = room
theorem rem_both {w : World} {b : Nat} {Vs : List (List Int)} {fr room : Nat} (H : PA w b Vs fr) (hr : fr + sumlen Vs = room) (q x : Int) : ∃ Ws fr' r, RemBoth w b Vs room q x Ws fr' r := by
  by_cases hq : q < 0 ∨ (Vs.length : Int) ≤ q
  · refine ⟨Vs, fr, false, (c_remove_range H q x hq).mono ?_, ?_, hr⟩
    · rintro e w' ⟨rfl, rfl⟩
      exact ⟨rfl, .same H⟩
    · intro W pl D A c R hD hp
      have := c_rremove_range R room q x (by rw [d_len hD]; exact hq)
      rw [hD] at this
      exact this
  · obtain ⟨k, rfl⟩ : ∃ k : Nat, q = k := ⟨q.toNat, by omega⟩
    obtain ⟨l, hl⟩ : ∃ l, Vs[k]? = some l := ⟨_, List.getElem?_eq_getElem (by omega)⟩
    rcases first_ix l x with hx | ⟨i, hi, hx⟩
    · refine ⟨Vs, fr, false, (c_remove_no H k x l hl hx).mono ?_, ?_, hr⟩
      · rintro e w' ⟨rfl, hd⟩
        exact ⟨rfl, .of_drew H hd⟩
      · intro W pl D A c R hD hp
        obtain ⟨d, hd, rfl⟩ := d_of hD hl
        have := c_rremove_no R hp room k x d hd hx
        rw [hD] at this
        exact this
    · refine ⟨_, fr + 1, true, c_remove_yes H k x l hl i hi hx, ?_, ?_⟩
      · intro W pl D A c R hD hp
        obtain ⟨d, hd, rfl⟩ := d_of hD hl
        have := c_rremove_yes R hp room k x d hd i hi hx
        rw [hD] at this
        exact this
      · have h1 := sumlen_set Vs k l (l.take i ++ l.drop (i + 1)) hl
        have h2 := (List.getElem?_eq_some_iff.1 hi).1
        rw [List.length_append, List.length_take, List.length_drop] at h1
        omega

structure PopBoth (w : World) (b : Nat) (Vs : List (List Int)) (room : Nat) (q : Int) (Ws : List (List Int)) (fr' : Nat) (x er : Int) : Prop where
  prog : Calls Try.prog 11 #[.pointer (some ⟨b, 0, none⟩), .int .i64 q] w fun e w' => e = .returned (.tuple #[.int .i64 x, .int .i64 er]) ∧ PPost w b Ws fr' w'
  doc : ∀ (W : World) (pl : Nat → Prop) (D : List DQ) (A : Option Addr) (c : Nat), RQ W pl D A c → numsD D = Vs → (∀ k, W.heap.size ≤ k → pl k) →
    Calls Try.prog 12 #[.agg #[.int .i64 room, .slice A D.length c], .int .i64 q] W (DPost W pl room Ws fun v => .tuple #[v, .int .i64 x, .int .i64 er])
  sum : fr' + sumlen Ws = room
theorem pop_both {w : World} {b : Nat} {Vs : List (List Int)} {fr room : Nat} (H : PA w b Vs fr) (hr : fr + sumlen Vs = room) (q : Int) : ∃ Ws fr' x er, PopBoth w b Vs room q Ws fr' x er := by
  by_cases hq : q < 0 ∨ (Vs.length : Int) ≤ q
  · refine ⟨Vs, fr, 0, 8, (c_pop_range H q hq).mono ?_, ?_, hr⟩
    · rintro e w' ⟨rfl, hd⟩
      exact ⟨rfl, .of_drew H hd⟩
    · intro W pl D A c R hD hp
      have := c_rpop_no R room q 8 rfl (fun W' hW => c_rfirst_range room q (by rw [d_len hD]; exact hq))
      rw [hD] at this
      exact this
  · obtain ⟨k, rfl⟩ : ∃ k : Nat, q = k := ⟨q.toNat, by omega⟩
    obtain ⟨l, hl⟩ : ∃ l, Vs[k]? = some l := ⟨_, List.getElem?_eq_getElem (by omega)⟩
    rcases l with _ | ⟨x, l⟩
    · refine ⟨Vs, fr, 0, 11, (c_pop_none H k hl).mono ?_, ?_, hr⟩
      · rintro e w' ⟨rfl, hd⟩
        exact ⟨rfl, .of_drew H hd⟩
      · intro W pl D A c R hD hp
        obtain ⟨d, hd, he⟩ := d_of hD hl
        have := c_rpop_no R room k 11 rfl (fun W' hW => c_rfirst_none (R.below hW) room k d hd he)
        rw [hD] at this
        exact this
    · refine ⟨_, fr + 1, x, 0, c_pop_ok H k x l hl, ?_, ?_⟩
      · intro W pl D A c R hD hp
        obtain ⟨d, hd, he⟩ := d_of hD hl
        have := c_rpop_ok R hp room k d hd x l he
        rw [hD] at this
        exact this
      · have h1 := sumlen_set Vs k (x :: l) l hl
        rw [List.length_cons] at h1
        omega

structure PushBoth (w : World) (b : Nat) (Vs : List (List Int)) (room : Nat) (q x : Int) (Ws : List (List Int)) (fr' : Nat) (er : Int) : Prop where
  prog : Calls Try.prog 13 #[.pointer (some ⟨b, 0, none⟩), .int .i64 q, .int .i64 x] w fun e w' => e = .returned (.int .i64 er) ∧ PPost w b Ws fr' w'
  doc : ∀ (W : World) (pl : Nat → Prop) (D : List DQ) (A : Option Addr) (c : Nat), RQ W pl D A c → numsD D = Vs → (∀ k, W.heap.size ≤ k → pl k) →
    Calls Try.prog 14 #[.agg #[.int .i64 room, .slice A D.length c], .int .i64 q, .int .i64 x] W (DPost W pl room Ws fun v => .tuple #[v, .int .i64 er])
  sum : fr' + sumlen Ws = room
theorem push_both {w : World} {b : Nat} {Vs : List (List Int)} {fr room : Nat} (H : PA w b Vs fr) (hr : fr + sumlen Vs = room) (h1 : room ≤ 1024) (q x : Int) : ∃ Ws fr' er, PushBoth w b Vs room q x Ws fr' er := by
  by_cases hq : q < 0 ∨ (Vs.length : Int) ≤ q
  · refine ⟨Vs, fr, 8, (c_push_range H q x hq).mono ?_, ?_, hr⟩
    · rintro e w' ⟨rfl, rfl⟩
      exact ⟨rfl, .same H⟩
    · intro W pl D A c R hD hp
      have := c_rpush_range R room q x (by rw [d_len hD]; exact hq)
      rw [hD] at this
      exact this
  · obtain ⟨k, rfl⟩ : ∃ k : Nat, q = k := ⟨q.toNat, by omega⟩
    have hk : k < Vs.length := by omega
    obtain ⟨l, hl⟩ : ∃ l, Vs[k]? = some l := ⟨_, List.getElem?_eq_getElem hk⟩
    rcases fr with _ | fr
    · refine ⟨Vs, 0, 10, (c_push_full H k x hk).mono ?_, ?_, hr⟩
      · rintro e w' ⟨rfl, rfl⟩
        exact ⟨rfl, .same H⟩
      · intro W pl D A c R hD hp
        have := c_rpush_full R room (by rw [hD]; omega) h1 k x (by rw [d_len hD]; exact hk)
        rw [hD] at this
        exact this
    · refine ⟨_, fr, 0, c_push_ok H k x l hl, ?_, ?_⟩
      · intro W pl D A c R hD hp
        obtain ⟨d, hd, rfl⟩ := d_of hD hl
        have := c_rpush_ok R hp room fr (by rw [hD]; exact hr) h1 k x d hd
        rw [hD] at this
        exact this
      · have h1 := sumlen_set Vs k l (l ++ [x]) hl
        rw [List.length_append, List.length_singleton] at h1
        omega

/-- What holds while the law plays: the pool at b, the document's in the block B9. -/
structure PR (w : World) (b B9 room : Nat) (D : List DQ) (A : Option Addr) (c fr : Nat) (wr : World) : Prop where
  H : PA wr b (numsD D) fr
  R : RQ wr (fun k => k ≠ b ∧ k ≠ B9) D A c
  box : Blk wr B9 [.int .i64 room, .slice A D.length c] 30
  sum : fr + sumlen (numsD D) = room
  up : Below w.heap.size w wr
theorem PR.below {w : World} {b B9 room : Nat} {D : List DQ} {A : Option Addr} {c fr : Nat} {wr w' : World} (h : PR w b B9 room D A c fr wr) (hb : Below wr.heap.size wr w') : PR w b B9 room D A c fr w' :=
  ⟨h.H.below hb, h.R.below hb, h.box.up hb h.box.lt, h.sum, up_trans h.up hb⟩
theorem play_store {w w4 : World} {b B9 room : Nat} {D : List DQ} {A : Option Addr} {c fr : Nat} {u v : Value} (H : PA w4 b (numsD D) fr) (R : RQ w4 (fun k => k ≠ b ∧ k ≠ B9) D A c) (B : Blk w4 B9 [u, v] 30) (sum : fr + sumlen (numsD D) = room) (up : Below w.heap.size w w4) (h9 : w.heap.size ≤ B9) (hb : b ≠ B9) :
    PR w b B9 room D A c fr ((w4.setCell ⟨B9, 0, none⟩ (.int .i64 room)).setCell ⟨B9, 1, none⟩ (.slice A D.length c)) := by
  have ho : Only (· = B9) w4 ((w4.setCell ⟨B9, 0, none⟩ (.int .i64 room)).setCell ⟨B9, 1, none⟩ (.slice A D.length c)) := ((Only.refl _ _).put _ _).put _ _
  exact ⟨H.only ho hb, R.only ho (fun k e h => h.2 e), (B.set 0 _).set 1 _, sum, up.trans (ho.toBelow up.size (fun k e => e ▸ h9))⟩
def PlayRel (w : World) (b B9 room : Nat) (wr : World) : Prop := ∃ D A c fr, PR w b B9 room D A c fr wr

abbrev Step := Int × Int × Int
def stepV (s : Step) : List Value := [.int .u8 s.1, .int .i64 s.2.1, .int .i64 s.2.2]
theorem stepV_len (s : Step) : (stepV s).length = 3 := rfl
def StepOk (p : Step) : Prop := 0 ≤ p.1 ∧ p.1 ≤ 255
theorem RD.step {w : World} {pl : Nat → Prop} {A : Option Addr} {n : Nat} {L : List Step} (h : RD w pl 3 A n (L.flatMap stepV)) (hn : L.length = n) (k : Nat) (hk : k < n) :
    ∃ b o s, A = some ⟨b, o, none⟩ ∧ b < w.heap.size ∧ L[k]? = some s ∧ w.cell? ⟨b, o + k * 3, none⟩ = some (.int .u8 s.1) ∧ w.cell? ⟨b, o + k * 3 + 1, none⟩ = some (.int .i64 s.2.1) ∧ w.cell? ⟨b, o + k * 3 + 2, none⟩ = some (.int .i64 s.2.2) := by
  obtain ⟨b, o, e, _, h2, h3⟩ := h.at_ (by omega)
  have hg : L[k]? = some (L[k]'(by omega)) := List.getElem?_eq_getElem (by omega)
  refine ⟨b, o, _, e, h2, hg, ?_, ?_, ?_⟩
  · exact h3 (k * 3) _ (by rw [show k * 3 = k * 3 + 0 from rfl, flat_get stepV 3 stepV_len L k 0 _ hg (by omega)]; rfl)
  · have := h3 (k * 3 + 1) _ (by rw [flat_get stepV 3 stepV_len L k 1 _ hg (by omega)]; rfl)
    rwa [← Nat.add_assoc] at this
  · have := h3 (k * 3 + 2) _ (by rw [flat_get stepV 3 stepV_len L k 2 _ hg (by omega)]; rfl)
    rwa [← Nat.add_assoc] at this
end Go.Proofs.Ythakcjabeekihaa

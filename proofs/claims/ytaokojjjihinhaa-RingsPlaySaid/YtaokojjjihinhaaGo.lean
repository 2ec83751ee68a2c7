/- The law RingsPlay: its words; what both sides do at a step; the ways without a loop. -/
import Derived.Test.YtaokojjjihinhaaGm
import Derived.Test.YtaokojjjihinhaaIs
namespace Go.Proofs.Ytaokojjjihinhaa
open Go.RowKit

abbrev Step := Int × Int
def stepV (s : Step) : List Value := [.int .u8 s.1, .int .i64 s.2]
theorem stepV_len (s : Step) : (stepV s).length = 2 := rfl
def StepOk (p : Step) : Prop := 0 ≤ p.1 ∧ p.1 ≤ 255
theorem step_cells {w : World} {pl : Nat → Prop} {b o n : Nat} {L : List Step} (h : RD w pl 2 (some ⟨b, o, none⟩) n (L.flatMap stepV)) (hn : L.length = n) (k : Nat) (s : Step) (hk : L[k]? = some s) :
    w.cell? ⟨b, o + k * 2, none⟩ = some (.int .u8 s.1) ∧ w.cell? ⟨b, o + k * 2 + 1, none⟩ = some (.int .i64 s.2) := by
  have hkl := (List.getElem?_eq_some_iff.1 hk).1
  obtain ⟨b', o', e, h1, h2, h3⟩ := h.at_ (by omega)
  cases e
  refine ⟨?_, ?_⟩
  · exact h3 (k * 2 + 0) _ (by rw [flat_get stepV 2 stepV_len L k 0 _ hk (by omega)]; rfl)
  · rw [Nat.add_assoc]; exact h3 (k * 2 + 1) _ (by rw [flat_get stepV 2 stepV_len L k 1 _ hk (by omega)]; rfl)

/-- What a document's call gives: a ring that reads as L, in blocks of pl. -/
def D0 (w : World) (rm : Nat) (pl : Nat → Prop) (L : List Int) (mk : Value → Value) (e : Ending) (w' : World) : Prop :=
  ∃ A c, e = .returned (mk (.agg #[.int .i64 (rm : Int), .slice A L.length c])) ∧ DI w' pl (.slice A L.length c) L ∧ Below w.heap.size w w'
theorem pop_both {w0 w : World} {t S rm : Nat} {v : Value} {L : List Int} (h : RV w0 w t S rm v L) : ∃ (y er : Int) (L' : List Int),
    Calls Try.prog 10 #[.pointer (some ⟨t, 0, none⟩)] w (PostR w0 w t S rm v L' (.tuple #[.int .i64 y, .int .i64 er])) ∧
    ∀ W pl u, DI W pl u L → Calls Try.prog 11 #[.agg #[.int .i64 (rm : Int), u]] W (D0 W rm pl L' fun a => .tuple #[a, .int .i64 y, .int .i64 er]) := by
  have hle := h.le
  rcases L with _ | ⟨x, L⟩
  · refine ⟨0, 11, [], rv_none h, fun W pl u hu => ?_⟩
    obtain ⟨A, c, rfl, h1, h2, h3⟩ := hu
    exact (c_dpop_none W rm A c).mono fun _ _ ⟨e, d⟩ => ⟨A, c, e, ⟨A, c, rfl, h1, h2, h3.below d⟩, d⟩
  · refine ⟨x, 0, L, rv_pop h, fun W pl u hu => ?_⟩
    obtain ⟨A, c, rfl, h1, h2, h3⟩ := hu
    refine (c_dpop (room := rm) h3 h1 h2 (by simp at hle; omega)).mono fun _ _ ⟨A', c', e, hn, d1, d2⟩ => ⟨A', c', e, d1, d2⟩
theorem push_both {w0 w : World} {t S rm : Nat} {v : Value} {L : List Int} (h : RV w0 w t S rm v L) (x : Int) : ∃ (er : Int) (L' : List Int),
    Calls Try.prog 12 #[.pointer (some ⟨t, 0, none⟩), .int .i64 x] w (PostR w0 w t S rm v L' (.int .i64 er)) ∧
    ∀ W pl u, (∀ b, W.heap.size ≤ b → pl b) → DI W pl u L → Calls Try.prog 13 #[.agg #[.int .i64 (rm : Int), u], .int .i64 x] W (D0 W rm pl L' fun a => .tuple #[a, .int .i64 er]) := by
  have hle := h.le
  by_cases hl : L.length = rm
  · refine ⟨10, L, rv_full h x hl, fun W pl u _ hu => ?_⟩
    obtain ⟨A, c, rfl, h1, h2, h3⟩ := hu
    have C := c_dpush_full W A L.length c x
    rw [hl] at C
    rw [hl]
    exact C.mono fun _ _ ⟨e, d⟩ => ⟨A, c, by rw [hl]; exact e, ⟨A, c, rfl, h1, h2, h3.below d⟩, d⟩
  · refine ⟨0, L ++ [x], rv_push h x (by omega), fun W pl u hp hu => ?_⟩
    obtain ⟨A, c, rfl, h1, h2, h3⟩ := hu
    refine (c_dpush h3 (by omega) hle.2 x).mono fun _ _ ⟨A', c', e, hn, d1, d2⟩ => ⟨A', c', by rw [← hn]; exact e, ?_, d2⟩
    rw [← hn]
    obtain ⟨A2, c2, e2, h4, h5, h6⟩ := d1
    exact ⟨A2, c2, e2, h4, h5, h6.lo hp⟩

/-- Blocks that are neither of the ring nor the box b7. -/
def PL (S : Nat) (v : Value) (b7 b : Nat) : Prop := NotR S v b ∧ b ≠ b7
theorem Keeps.pl {w w' : World} {S b7 : Nat} {v v' u : Value} {L : List Int} (k : Keeps w S v w' v') (h : DI w (PL S v b7) u L) : DI w' (PL S v' b7) u L := by
  obtain ⟨A, c, rfl, h1, h2, h3⟩ := h
  have h4 : RD w' (fun b => PL S v b7 b ∧ b < w.heap.size) 1 A L.length (L.map (Value.int .i64)) := h3.lt.only k.1 (fun b e hb => by
    rcases e with e | e
    · exact hb.1.1.1 e
    · exact hb.1.1.2 e)
  exact ⟨A, c, rfl, h1, h2, h4.lo fun b hb => ⟨k.2 b hb.2 hb.1.1, hb.1.2⟩⟩
theorem DI.put {w : World} {S b7 : Nat} {v u : Value} {L : List Int} (h : DI w (PL S v b7) u L) (j : Nat) (x : Value) : DI (w.setCell ⟨b7, j, none⟩ x) (PL S v b7) u L := by
  obtain ⟨A, c, rfl, h1, h2, h3⟩ := h
  exact ⟨A, c, rfl, h1, h2, h3.only ((Only.refl (· = b7) w).put j x) (fun k e e2 => e2.2 e)⟩
theorem RV.putD {w0 w : World} {t S rm b7 : Nat} {v : Value} {L : List Int} {cs : List Value} (h : RV w0 w t S rm v L) (hb : Blk w b7 cs 30) (h0 : w0.heap.size ≤ b7) (j : Nat) (x : Value) : RV w0 (w.setCell ⟨b7, j, none⟩ x) t S rm v L := by
  have hn := h.not hb (by decide) (by decide)
  refine h.only ((Only.refl (· = b7) w).put j x) (fun e => (h.tab.ne hb (by decide)) e) (fun e => hn.1 e.symm) (fun g e k => hn.2 (by rw [e, k])) (fun k e => by omega)
/-- What holds at a round's head: the ring holds what the document's ring in its box b7 reads as. -/
structure PR (w wr : World) (b7 rm : Nat) (v u : Value) (L : List Int) : Prop where
  rv : RV w wr (w.heap.size + 1) w.heap.size rm v L
  box : Blk wr b7 [.int .i64 (rm : Int), u] 30
  di : DI wr (PL w.heap.size v b7) u L
  b7 : w.heap.size ≤ b7
theorem PR.below {w wr w2 : World} {b7 rm : Nat} {v u : Value} {L : List Int} (h : PR w wr b7 rm v u L) (hb : Below wr.heap.size wr w2) : PR w w2 b7 rm v u L :=
  ⟨h.rv.below hb, h.box.up hb h.box.lt, h.di.below hb, h.b7⟩
/-- The document's ring is stored in its box. -/
theorem PR.store {w w5 : World} {b7 rm : Nat} {v u : Value} {L : List Int} {cs : List Value} (hv : RV w w5 (w.heap.size + 1) w.heap.size rm v L) (hb : Blk w5 b7 cs 30) (hc : cs.length = 2) (hu : DI w5 (PL w.heap.size v b7) u L) (h7 : w.heap.size ≤ b7) :
    PR w ((w5.setCell ⟨b7, 0, none⟩ (.int .i64 (rm : Int))).setCell ⟨b7, 1, none⟩ u) b7 rm v u L := by
  have s1 := hb.set 0 (.int .i64 (rm : Int))
  have s2 := s1.set 1 u
  refine ⟨(hv.putD hb h7 _ _).putD s1 h7 _ _, ?_, (hu.put _ _).put _ _, h7⟩
  match cs, hc with
  | [a, b], _ => exact s2
theorem PR.store1 {w w5 : World} {b7 rm : Nat} {v u u0 : Value} {L : List Int} (hv : RV w w5 (w.heap.size + 1) w.heap.size rm v L) (hb : Blk w5 b7 [.int .i64 (rm : Int), u0] 30) (hu : DI w5 (PL w.heap.size v b7) u L) (h7 : w.heap.size ≤ b7) :
    PR w (w5.setCell ⟨b7, 1, none⟩ u) b7 rm v u L :=
  ⟨hv.putD hb h7 _ _, hb.set 1 u, hu.put _ _, h7⟩
theorem PR.new {w wr : World} {b7 rm : Nat} {v : Value} {L : List Int} (hv : RV w wr (w.heap.size + 1) w.heap.size rm v L) {cs : List Value} (hb : Blk wr b7 cs 30) : ∀ b, wr.heap.size ≤ b → PL w.heap.size v b7 b := fun b h => ⟨hv.new h, fun e => by have := hb.lt; omega⟩

set_option maxHeartbeats 1000000 in
set_option maxRecDepth 100000 in
theorem l_plays_many (r : Int) (A : Option Addr) (n cp : Nat) (w : World) (hn : 100 < n) :
    Calls Try.prog 3 #[.int .i64 r, .slice A n cp] w (Alive w) := by
  have C := Lib.hid (c_alive w)
  go_enter Try.func3, Try.ntmps3
  go_wp2_with fail
  refine Calls.mono C.out ?_
  rintro e w2 ⟨rfl, hb2⟩
  have HB := Lib.hid hb2
  clear hb2
  go_wp2_with fail
  go_ret
  exact ⟨rfl, HB.out⟩
set_option maxHeartbeats 1000000 in
set_option maxRecDepth 100000 in
theorem l_plays_bad (r : Int) (A : Option Addr) (n cp : Nat) (w : World) (hn : n ≤ 100) (hr : r < 0 ∨ 1024 < r) :
    Calls Try.prog 3 #[.int .i64 r, .slice A n cp] w (Alive w) := by
  have C1 := Lib.hid (c_new_bad r w hr)
  have C2 := Lib.hid (c_dnew_bad r w hr)
  clear hr
  go_enter Try.func3, Try.ntmps3
  go_wp2_with fail
  refine Calls.mono C1.out ?_
  rintro e w' ⟨rfl, rfl⟩
  go_wp2_with fail
  refine Calls.mono C2.out ?_
  rintro e w2 ⟨rfl, hb2⟩
  have HB := Lib.hid (up_trans hb2 (up_alloc w2 (.cells #[.int .i64 0, .slice none 0 0] 30)))
  have C3 := Lib.hid (c_alive (w2.alloc (.cells #[.int .i64 0, .slice none 0 0] 30)))
  clear hb2
  go_wp2_with fail
  refine Calls.mono C3.out ?_
  rintro e w3 ⟨rfl, hb3⟩
  have HB3 := Lib.hid (up_trans HB.out hb3)
  clear hb3
  go_wp2_with fail
  go_ret
  exact ⟨rfl, HB3.out⟩
theorem k_same {w : World} {pl pl' : Nat → Prop} {n c d : Nat} {A B : Option Addr} {L : List Int} (hn : L.length = n) (h : RD w pl 1 A n (L.map (Value.int .i64))) (h' : RD w pl' 1 B n (L.map (Value.int .i64))) (hf : n ≤ 1024) :
    Calls Try.prog 16 #[.slice A n c, .slice B n d] w (DrewPost (.bool true) w) := by
  subst hn
  exact c_same h h' (by omega)
end Go.Proofs.Ytaokojjjihinhaa

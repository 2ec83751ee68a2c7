/- The law TimersPlay: the steps' words, and the ways without a loop. -/
import Derived.Test.YtbfmcdjnjnfdlaaTz
namespace Go.Proofs.Ytbfmcdjnjnfdlaa
open Go.RowKit

abbrev Step := Int × Int × Int
def stepV (s : Step) : List Value := [.int .u8 s.1, .int .i64 s.2.1, .int .i64 s.2.2]
theorem stepV_len (s : Step) : (stepV s).length = 3 := rfl
def StepOk (p : Step) : Prop := 0 ≤ p.1 ∧ p.1 ≤ 255
theorem step_cells {w : World} {pl : Nat → Prop} {b o n : Nat} {L : List Step} (h : RD w pl 3 (some ⟨b, o, none⟩) n (L.flatMap stepV)) (hn : L.length = n) (k : Nat) (s : Step) (hk : L[k]? = some s) :
    w.cell? ⟨b, o + k * 3, none⟩ = some (.int .u8 s.1) ∧ w.cell? ⟨b, o + k * 3 + 1, none⟩ = some (.int .i64 s.2.1) ∧ w.cell? ⟨b, o + k * 3 + 2, none⟩ = some (.int .i64 s.2.2) := by
  have hkl := (List.getElem?_eq_some_iff.1 hk).1
  obtain ⟨b', o', e, h1, h2, h3⟩ := h.at_ (by omega)
  cases e
  refine ⟨?_, ?_, ?_⟩
  · exact h3 (k * 3 + 0) _ (by rw [flat_get stepV 3 stepV_len L k 0 _ hk (by omega)]; rfl)
  · rw [Nat.add_assoc]; exact h3 (k * 3 + 1) _ (by rw [flat_get stepV 3 stepV_len L k 1 _ hk (by omega)]; rfl)
  · rw [Nat.add_assoc]; exact h3 (k * 3 + 2) _ (by rw [flat_get stepV 3 stepV_len L k 2 _ hk (by omega)]; rfl)

set_option maxHeartbeats 1000000 in
set_option maxRecDepth 100000 in
theorem l_plays_many (r : Int) (A : Option Addr) (n cp : Nat) (w : World) (hn : 80 < n) :
    Calls Try.prog 3 #[.int .i64 r, .slice A n cp] w (Alive w) := by
  have C := Lib.hid (c_alive w)
  go_enter Try.func3, Try.ntmps3
  go_wp2_with fail
  refine Calls.mono C.out ?_
  rintro e w2 ⟨rfl, hb2⟩
  have HB := Lib.hid hb2
  clear hb2
  go_wp2_with fail
  go_ret
  exact ⟨rfl, HB.out⟩
set_option maxHeartbeats 1000000 in
set_option maxRecDepth 100000 in
theorem l_plays_bad (r : Int) (A : Option Addr) (n cp : Nat) (w : World) (hn : n ≤ 80) (hr : r < 0 ∨ 1024 < r) :
    Calls Try.prog 3 #[.int .i64 r, .slice A n cp] w (Alive w) := by
  have C1 := Lib.hid (c_new_bad r w hr)
  have C2 := Lib.hid (c_rnew_bad r w hr)
  clear hr
  go_enter Try.func3, Try.ntmps3
  go_wp2_with fail
  refine Calls.mono C1.out ?_
  rintro e w' ⟨rfl, rfl⟩
  go_wp2_with fail
  refine Calls.mono C2.out ?_
  rintro e w2 ⟨rfl, hb2⟩
  have HB := Lib.hid (up_trans hb2 (up_alloc w2 (.cells #[.int .i64 0, .int .i64 0, .slice none 0 0] 30)))
  have C3 := Lib.hid (c_alive (w2.alloc (.cells #[.int .i64 0, .int .i64 0, .slice none 0 0] 30)))
  clear hb2
  go_wp2_with fail
  refine Calls.mono C3.out ?_
  rintro e w3 ⟨rfl, hb3⟩
  have HB3 := Lib.hid (up_trans HB.out hb3)
  clear hb3
  go_wp2_with fail
  go_ret
  exact ⟨rfl, HB3.out⟩

/-- What holds at a round's head: the list, the document's list in its box b7, and its row. -/
structure PR (w wr : World) (b7 rm k : Nat) (n : Nat) (L : List Tm) (u : Value) : Prop where
  lv : LV w wr (w.heap.size + 1) w.heap.size rm n L
  box : Blk wr b7 [.int .i64 (rm : Int), .int .i64 (n : Int), u] 30
  row : DR wr 0 u L
  len : L.length ≤ rm
  nk : n ≤ k
  b7 : w.heap.size ≤ b7
theorem PR.below {w wr w2 : World} {b7 rm k n : Nat} {L : List Tm} {u : Value} (h : PR w wr b7 rm k n L u) (hb : Below wr.heap.size wr w2) : PR w w2 b7 rm k n L u :=
  ⟨h.lv.below hb, h.box.up hb h.box.lt, h.row.below hb, h.len, h.nk, h.b7⟩
theorem PR.next {w wr w2 : World} {b7 rm k n : Nat} {L : List Tm} {u : Value} (h : PR w wr b7 rm k n L u) (hb : Below wr.heap.size wr w2) : PR w w2 b7 rm (k + 1) n L u :=
  ⟨h.lv.below hb, h.box.up hb h.box.lt, h.row.below hb, h.len, Nat.le_succ_of_le h.nk, h.b7⟩
theorem LV.put {w0 w : World} {t S rm n : Nat} {L : List Tm} (h : LV w0 w t S rm n L) {b : Nat} {cs : List Value} (hb : Blk w b cs 30) (h0 : w0.heap.size ≤ b) (j : Nat) (x : Value) : LV w0 (w.setCell ⟨b, j, none⟩ x) t S rm n L := by
  obtain ⟨v, xs, h1, h2, h3, h4, h5⟩ := h
  have n1 : b ≠ t := hb.ne h1.tab (by decide)
  have n2 : b ≠ S := hb.ne h1.box (by decide)
  refine ⟨v, xs, ⟨h1.tab.other _ (fun e => n1 e.symm) _, ⟨h1.pile.box.other _ (fun e => n2 e.symm) _, h1.pile.lt, own_keep h1.pile.row ((Only.refl (· = b) w).put j x) (fun g e k => ?_), h1.pile.ne, h1.pile.few⟩⟩, h2, h3.setCell h0 _, h4, h5⟩
  obtain ⟨_, ds, hd⟩ := own_blk h1.pile.row g e
  rw [k] at hd
  exact hb.ne hd (by decide) rfl
theorem DR.put {w : World} {lo : Nat} {u : Value} {L : List Tm} (h : DR w lo u L) {b : Nat} {cs : List Value} (hb : Blk w b cs 30) (j : Nat) (x : Value) : DR (w.setCell ⟨b, j, none⟩ x) lo u L :=
  own_keep h ((Only.refl (· = b) w).put j x) (fun g e k => by
    obtain ⟨_, ds, hd⟩ := own_blk h g e
    rw [k] at hd
    exact hb.ne hd (by decide) rfl)
/-- The document's list is stored in its box. -/
theorem PR.store {w w5 : World} {b7 rm k n : Nat} {L : List Tm} {u : Value} {cs : List Value} (hv : LV w w5 (w.heap.size + 1) w.heap.size rm n L) (hb : Blk w5 b7 cs 30) (hc : cs.length = 3) (hu : DR w5 0 u L) (hl : L.length ≤ rm) (hn : n ≤ k) (h7 : w.heap.size ≤ b7) :
    PR w (((w5.setCell ⟨b7, 0, none⟩ (.int .i64 (rm : Int))).setCell ⟨b7, 1, none⟩ (.int .i64 (n : Int))).setCell ⟨b7, 2, none⟩ u) b7 rm k n L u := by
  have s1 := hb.set 0 (.int .i64 (rm : Int))
  have s2 := s1.set 1 (.int .i64 (n : Int))
  have s3 := s2.set 2 u
  refine ⟨((hv.put hb h7 _ _).put s1 h7 _ _).put s2 h7 _ _, ?_, ((hu.put hb _ _).put s1 _ _).put s2 _ _, hl, hn, h7⟩
  match cs, hc with
  | [a, b, c], _ => exact s3
/-- What holds in the region that compares: memory has only grown, and the boxes read so. -/
def CS (w W : World) (b7 bs bx : Nat) (rm n : Int) (u : Value) (a : Int) (x : Tm) : Prop :=
  Below w.heap.size w W ∧ W.cell? ⟨b7, 0, none⟩ = some (.int .i64 rm) ∧ W.cell? ⟨b7, 1, none⟩ = some (.int .i64 n) ∧ W.cell? ⟨b7, 2, none⟩ = some u ∧ W.cell? ⟨bs, 1, none⟩ = some (.int .i64 a) ∧
    W.cell? ⟨bx, 0, none⟩ = some (.int .i64 x.at_) ∧ W.cell? ⟨bx, 1, none⟩ = some (.int .i64 x.no) ∧ W.cell? ⟨bx, 2, none⟩ = some (.int .i64 x.who)
theorem cs_S {w W : World} {b7 bs bx : Nat} {rm n d a who : Int} {u : Value} {x : Tm} (h7 : Blk w b7 [.int .i64 rm, .int .i64 n, u] 30) (hs : Blk w bs [.int .u8 d, .int .i64 a, .int .i64 who] 34)
    (hx : Blk w bx [.int .i64 x.at_, .int .i64 x.no, .int .i64 x.who] 42) (hb : Below w.heap.size w W) : CS w W b7 bs bx rm n u a x :=
  ⟨hb, (h7.up hb h7.lt).cell 0 _ rfl, (h7.up hb h7.lt).cell 1 _ rfl, (h7.up hb h7.lt).cell 2 _ rfl, (hs.up hb hs.lt).cell 1 _ rfl, (hx.up hb hx.lt).cell 0 _ rfl, (hx.up hb hx.lt).cell 1 _ rfl, (hx.up hb hx.lt).cell 2 _ rfl⟩
theorem neq_tmP (x : Tm) (w : World) : (binOp .neq 42 (.agg #[.int .i64 x.at_, .int .i64 x.no, .int .i64 x.who]) (.agg #[.int .i64 x.at_, .int .i64 x.no, .int .i64 x.who])).run Try.prog w = .ok (.bool false) w := by
  rw [run_neq_struct, in_tmP, eqB_self]
  rfl
theorem k_len {w0 w : World} {t S rm n m : Nat} {L : List Tm} (hm : L.length = m) (h : LV w0 w t S rm n L) : Calls Try.prog 14 #[.pointer (some ⟨t, 0, none⟩)] w fun e w' => e = .returned (.int .i64 (m : Int)) ∧ w = w' := hm ▸ lv_len h
def BackPost (w : World) (L : List Tm) (n : Nat) (e : Ending) (w' : World) : Prop := ∃ A c, e = .returned (.slice A n c) ∧ DR w' 0 (.slice A n c) L ∧ Below w.heap.size w w'
theorem DRPost.back {w w' : World} {L : List Tm} {n : Nat} {e : Ending} (h : DRPost w L e w') (hn : L.length = n) : BackPost w L n e w' := by
  obtain ⟨u, rfl, h1, h2⟩ := h
  obtain ⟨A, c, rfl, _⟩ := h1.slice
  subst hn
  exact ⟨A, c, rfl, h1.zero, h2⟩
theorem k_back {w : World} {lo n c : Nat} {A : Option Addr} {L : List Tm} (hn : L.length = n) (h : w.ownsRow lo 42 3 (.slice A n c) n (flatT L)) (hf : L.length ≤ 2000) :
    Calls Try.prog 16 #[.slice A n c] w (BackPost w L n) := by
  subst hn
  obtain ⟨A', c', e, _, _, hr⟩ := own_slice h
  cases e
  exact (c_back hr hf).mono fun _ _ d => d.back rfl
theorem k_same {w : World} {lo lo' n c d : Nat} {A B : Option Addr} {L : List Tm} (hn : L.length = n) (h : DR w lo (.slice A n c) L) (h' : DR w lo' (.slice B n d) L) (hf : L.length ≤ 2000) :
    Calls Try.prog 15 #[.slice A n c, .slice B n d] w (DrewPost (.bool true) w) := by
  subst hn
  exact c_same h h' hf
theorem k_rdue {w : World} {lo n m c : Nat} {A : Option Addr} {L : List Tm} (hn : L.length = n) (h : DR w lo (.slice A n c) L) (hf : L.length ≤ 2000) (room last now : Int) (hm : (dueL now L).length = m) :
    Calls Try.prog 19 #[.agg #[.int .i64 room, .int .i64 last, .slice A n c], .int .i64 now] w (BackPost w (dueL now L) m) := by
  subst hn
  exact (c_rldue h hf room last now).mono fun _ _ d => d.back hm
end Go.Proofs.Ytbfmcdjnjnfdlaa

/- alive: three timers. -/
import Derived.Test.YtbfmcdjnjnfdlaaTw
namespace Go.Proofs.Ytbfmcdjnjnfdlaa
open Go.RowKit

def aL1 : List Tm := [⟨9, 1, 1⟩]
def aL2 : List Tm := [⟨5, 2, 2⟩, ⟨9, 1, 1⟩]
def aL3 : List Tm := [⟨5, 2, 2⟩, ⟨9, 1, 1⟩, ⟨9, 3, 3⟩]
def aL4 : List Tm := [⟨9, 1, 1⟩, ⟨9, 3, 3⟩]

theorem lv_add {w0 w : World} {t S rm n n' : Nat} {L L' : List Tm} {no : Int} (h : LV w0 w t S rm n L) (hl : L.length < rm) (hrm : rm ≤ 1024) (hn : n ≤ 1000000) (a who : Int) (ha : fineC a = true) (h1 : n' = n + 1) (h2 : no = (n : Int) + 1) (h3 : L' = insT L ⟨a, no, who⟩) :
    Calls Try.prog 11 #[.pointer (some ⟨t, 0, none⟩), .int .i64 a, .int .i64 who] w (PostP w0 w t S rm n' L' (.tuple #[.int .i64 no, .int .i64 0])) := by
  subst h1 h2 h3
  obtain ⟨v, xs, d1, d2, d3, d4, d5⟩ := h
  exact (c_add_ok d1 d2 d3.size hl hrm hn a who ha).mono fun _ _ d => LV.post d1 d3 d4 d5 d
theorem lv_full {w0 w : World} {t S rm n : Nat} {L : List Tm} (h : LV w0 w t S rm n L) (hl : L.length = rm) (a who : Int) (ha : fineC a = true) :
    Calls Try.prog 11 #[.pointer (some ⟨t, 0, none⟩), .int .i64 a, .int .i64 who] w (PostP w0 w t S rm n L (.tuple #[.int .i64 0, .int .i64 10])) := by
  have h0 := h
  obtain ⟨v, xs, h1, h2, h3, h4, h5⟩ := h
  have h1' := h1
  rw [← hl, ← h2.len] at h1'
  exact (c_add_full h1' a who ha).mono fun _ _ ⟨e, d⟩ => by subst e; exact h0.still d.below
theorem lv_drop {w0 w : World} {t S rm n i : Nat} {L L' : List Tm} {x : Tm} (h : LV w0 w t S rm n L) (no : Int) (hi : L[i]? = some x) (hx : x.no = no) (hL : L' = L.eraseIdx i) :
    Calls Try.prog 9 #[.pointer (some ⟨t, 0, none⟩), .int .i64 no] w (PostP w0 w t S rm n L' (.int .i64 0)) := by
  subst hL
  obtain ⟨v, xs, h1, h2, h3, h4, h5⟩ := h
  exact (c_drop_yes h1 h2 no x hi hx).mono fun _ _ d => LV.post h1 h3 h4 h5 d
theorem lv_drop_no {w0 w : World} {t S rm n : Nat} {L : List Tm} (h : LV w0 w t S rm n L) (no : Int) (hno : ∀ x ∈ L, x.no ≠ no) :
    Calls Try.prog 9 #[.pointer (some ⟨t, 0, none⟩), .int .i64 no] w (PostP w0 w t S rm n L (.int .i64 6)) := by
  obtain ⟨v, xs, h1, h2, h3, h4, h5⟩ := h
  exact (c_drop_no h1 h2 no hno).mono fun _ _ d => LV.post h1 h3 h4 h5 d
/-- A new row of so many. -/
theorem RowPost.len {w w' : World} {L : List Tm} {e : Ending} (h : RowPost w L e w') {n : Nat} (hn : L.length = n) : ∃ A c, e = .returned (.slice A n c) ∧ w'.ownsRow w.heap.size 42 3 (.slice A n c) n (flatT L) ∧ Below w.heap.size w w' := by
  obtain ⟨v, rfl, h1, h2⟩ := h
  subst hn
  obtain ⟨A, c, rfl, _⟩ := own_slice h1
  exact ⟨A, c, rfl, h1, h2⟩

def Alive (w : World) (e : Ending) (w' : World) : Prop := e = .returned (.bool true) ∧ Below w.heap.size w w'
set_option maxHeartbeats 4000000 in
theorem c_alive (w : World) : Calls Try.prog 6 #[] w (Alive w) := by
  have C1 := Lib.hid (lv_new 3 w (by omega))
  go_enter Try.func6, Try.ntmps6
  go_wp2_with fail
  refine Calls.mono C1.out ?_
  rintro e w1 ⟨rfl, h1, _, _⟩
  have C2 := Lib.hid (lv_add (n' := 1) (L' := aL1) (no := 1) h1 (by decide) (by omega) (by omega) 9 1 (by decide) rfl rfl rfl)
  clear h1
  go_wp2_with fail
  refine Calls.mono C2.out ?_
  rintro e w2 ⟨rfl, h2, _, _⟩
  have C3 := Lib.hid (lv_add (n' := 2) (L' := aL2) (no := 2) h2 (by decide) (by omega) (by omega) 5 2 (by decide) rfl rfl rfl)
  clear h2
  go_wp2_with fail
  refine Calls.mono C3.out ?_
  rintro e w3 ⟨rfl, h3, _, _⟩
  have C4 := Lib.hid (lv_add (n' := 3) (L' := aL3) (no := 3) h3 (by decide) (by omega) (by omega) 9 3 (by decide) rfl rfl rfl)
  clear h3
  go_wp2_with fail
  refine Calls.mono C4.out ?_
  rintro e w4 ⟨rfl, h4, _, _⟩
  have C5 := Lib.hid (lv_full h4 (by decide) 9 4 (by decide))
  clear h4
  go_wp2_with fail
  refine Calls.mono C5.out ?_
  rintro e w5 ⟨rfl, h5, _, _⟩
  have C6 := Lib.hid (lv_first h5)
  have H5 := Lib.hid h5
  clear h5
  go_wp2_with fail
  refine Calls.mono C6.out ?_
  rintro e w6 ⟨rfl, hb6⟩
  have H6 := Lib.hid (H5.out.below hb6)
  clear hb6
  have ef : tmA (gt aL3 0) = .agg #[.int .i64 5, .int .i64 2, .int .i64 2] := rfl
  have eb : decide (0 < aL3.length) = true := rfl
  rw [ef, eb]
  clear ef eb
  have H7 := Lib.hid (H6.out.below (up_alloc w6 (.cells #[.int .i64 5, .int .i64 2, .int .i64 2] 42)))
  have D1 := Lib.hid (lv_due H7.out 8)
  go_wp2_with fail
  refine Calls.mono D1.out ?_
  rintro e w8 hd
  obtain ⟨A8, c8, rfl, _, hb8⟩ := hd.len (n := 1) rfl
  have H8 := Lib.hid (H7.out.below hb8)
  have D2 := Lib.hid (lv_drop (L' := aL4) (i := 0) (x := ⟨5, 2, 2⟩) H8.out 2 rfl rfl rfl)
  clear hd hb8
  go_wp2_with fail
  refine Calls.mono D2.out ?_
  rintro e w9 ⟨rfl, h9, _, _⟩
  have H9 := Lib.hid h9
  have D3 := Lib.hid (lv_drop_no h9 2 (by simp [aL4]))
  clear h9
  go_wp2_with fail
  refine Calls.mono D3.out ?_
  rintro e w10 ⟨rfl, h10, _, _⟩
  have H10 := Lib.hid h10
  have D4 := Lib.hid (lv_len h10)
  clear h10
  go_wp2_with fail
  refine Calls.mono D4.out ?_
  rintro e w' ⟨rfl, rfl⟩
  rw [show ((aL4.length : Nat) : Int) = 2 from rfl]
  have D5 := Lib.hid (lv_all H10.out)
  go_wp2_with fail
  refine Calls.mono D5.out ?_
  rintro e w11 hd
  obtain ⟨A11, c11, rfl, _, hb11⟩ := hd.len (n := 2) rfl
  have H11 := Lib.hid (H10.out.below hb11)
  have D6 := Lib.hid (lv_all H11.out)
  clear hd hb11
  go_wp2_with fail
  refine Calls.mono D6.out ?_
  rintro e w12 hd
  obtain ⟨A12, c12, rfl, hr12, hb12⟩ := hd.len (n := 2) rfl
  obtain ⟨g, c', e12, _, _, _, _⟩ := row_form hr12 (by omega)
  have eA : A12 = some ⟨g, 0, none⟩ := by injection e12
  subst eA
  obtain ⟨_, k1, _⟩ := row_cells hr12 1 (by decide)
  rw [show (gt aL4 1).no = 3 from rfl] at k1
  simp only [Nat.one_mul, Nat.reduceAdd] at k1
  have H12 := Lib.hid (H11.out.below hb12)
  clear hd hb12 hr12 e12
  go_wp2_with fail
  go_ret
  exact ⟨rfl, H12.out.up⟩
end Go.Proofs.Ytbfmcdjnjnfdlaa

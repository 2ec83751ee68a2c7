/- A list of timers in memory; its small functions; slices.Clone of its pile. -/
import Derived.Test.YtbfmcdjnjnfdlaaTk
import Derived.Test.YtbfmcdjnjnfdlaaTb
import Derived.Lib.SliceRun
namespace Go.Proofs.Ytbfmcdjnjnfdlaa
open Go.RowKit
section
variable {P : Program}
theorem wpList_app3 {w : World} {ops : Array Oper} {rest : List Oper} {o : Oper} {a : Act} {Q : Exit → Act → World → Prop} {t e : TypeId} {z : Value} {size bytes lo n : Nat} (E : EI P t e z size bytes) (hgd : o.guard = none) (s x : Operand)
    (ho : o.op = .call { callee := .builtin .append, args := #[s, x], argTypes := #[t, t] })
    (v : Value) (xs : List Value) (hs : a.eval s = v) (hown : w.ownsRow lo e size v n xs)
    {pl : Nat → Prop} {m c : Nat} {A : Option Addr} {news : List Value} (hx : a.eval x = .slice A m c) (hr : RD w pl size A m news) (h1 : ∀ u ∈ news, u.oneCell' = true) (hm : n + m ≤ 1000000) (hlo : lo ≤ w.heap.size)
    (h : ∀ v' w', w'.ownsRow lo e size v' (n + m) (xs ++ news) → w.grownBy w' v.ownBlock → (∀ g, v'.ownBlock = some g → v.ownBlock = some g ∨ w.heap.size ≤ g) → wpList P ops Q rest (a.put o.dst v') w') : wpList P ops Q (o :: rest) a w := by
  refine wpList_plain hgd fun K hK => ?_
  obtain ⟨v', w', hrun, h2, h3, h5⟩ := run_app3 E o.type hown (c := c) hr h1 hm hlo
  unfold Oper.wp execOp
  simp only [ho, resolve, invoke, builtin, Sem.run_bind, Sem.run_pure, Result.andThen_ok, List.map_toArray, List.map_cons, List.map_nil, hs, hx, hrun]
  exact hK _ _ (h v' w' h2 h3 h5)
end
theorem ei_S : EI Try.prog 49 42 (.agg #[.int .i64 0, .int .i64 0, .int .i64 0]) 3 24 where
  under := by kernel_rfl
  info := by kernel_rfl
  cells := rfl
  pos := by decide
  few := by decide
theorem flat_cells (xs : List Tm) : ∀ u ∈ flatT xs, u.oneCell' = true := by
  intro u hu
  obtain ⟨t, _, ht⟩ := List.mem_flatMap.1 hu
  simp only [tmV, List.mem_cons, List.not_mem_nil, or_false] at ht
  rcases ht with rfl | rfl | rfl <;> rfl

/-- The list at block t, its store at block S, its timers xs as the pile has them. -/
structure TL (w : World) (t S lo : Nat) (room last : Int) (v : Value) (xs : List Tm) : Prop where
  tab : Blk w t [.pointer (some ⟨S, 0, none⟩)] 58
  pile : PW w S 2 [.int .i64 room, .int .i64 last, .slice none 0 0] 63 lo v xs
theorem TL.c0 {w : World} {t S lo : Nat} {room last : Int} {v : Value} {xs : List Tm} (h : TL w t S lo room last v xs) : w.cell? ⟨t, 0, none⟩ = some (.pointer (some ⟨S, 0, none⟩)) := h.tab.cell 0 _ rfl
theorem TL.box {w : World} {t S lo : Nat} {room last : Int} {v : Value} {xs : List Tm} (h : TL w t S lo room last v xs) : Blk w S [.int .i64 room, .int .i64 last, v] 63 := h.pile.box
theorem TL.below {w w' : World} {t S lo : Nat} {room last : Int} {v : Value} {xs : List Tm} (h : TL w t S lo room last v xs) (hb : Below w.heap.size w w') : TL w' t S lo room last v xs := ⟨h.tab.up hb h.tab.lt, h.pile.below hb⟩
theorem TL.tS {w : World} {t S lo : Nat} {room last : Int} {v : Value} {xs : List Tm} (h : TL w t S lo room last v xs) : t ≠ S := h.tab.ne h.box (by decide)

set_option maxHeartbeats 400000 in
theorem c_nob {w : World} {t S lo : Nat} {room last : Int} {v : Value} {xs : List Tm} (h : TL w t S lo room last v xs) :
    Calls Try.prog 20 #[.pointer (some ⟨t, 0, none⟩)] w fun e w' => e = .returned (.bool false) ∧ w = w' := by
  have hc := h.c0
  clear h
  go_enter Try.func20, Try.ntmps20
  go_wp2
  go_ret
  exact ⟨rfl, rfl⟩
theorem c_nob_nil (w : World) : Calls Try.prog 20 #[.pointer none] w fun e w' => e = .returned (.bool true) ∧ w = w' := by
  go_enter Try.func20, Try.ntmps20
  go_wp2
  go_ret
  exact ⟨rfl, rfl⟩
theorem c_nob_own {w : World} {p : Addr} (hc : w.cell? p = some (.pointer none)) : Calls Try.prog 20 #[.pointer (some p)] w fun e w' => e = .returned (.bool true) ∧ w = w' := by
  go_enter Try.func20, Try.ntmps20
  go_wp2
  go_ret
  exact ⟨rfl, rfl⟩
set_option maxHeartbeats 400000 in
theorem c_llen {w : World} {t S lo : Nat} {room last : Int} {v : Value} {xs : List Tm} (h : TL w t S lo room last v xs) :
    Calls Try.prog 14 #[.pointer (some ⟨t, 0, none⟩)] w fun e w' => e = .returned (.int .i64 xs.length) ∧ w = w' := by
  have hc := h.c0
  have hc2 := h.box.cell 2 _ rfl
  obtain ⟨A, c, rfl, _, _⟩ := h.pile.slice
  have CN := Lib.hid (c_nob h)
  clear h
  go_enter Try.func14, Try.ntmps14
  go_wp2_with (first | (go_at_call 20; refine CN.out.mono ?_; rintro e w' ⟨rfl, rfl⟩) | (go_at_call 27; refine (c_len _ _ _ _).mono ?_; rintro e w' ⟨rfl, rfl⟩))
  go_ret
  exact ⟨rfl, rfl⟩

/-- First gives the first one, or none. -/
def FirstPost (w : World) (xs : List Tm) (e : Ending) (w' : World) : Prop :=
  e = .returned (.tuple #[if 0 < xs.length then tmA (gt xs 0) else tmA Tm.zero, .bool (decide (0 < xs.length))]) ∧ Below w.heap.size w w'
set_option maxHeartbeats 400000 in
theorem c_first {w : World} {t S lo : Nat} {room last : Int} {v : Value} {xs : List Tm} (h : TL w t S lo room last v xs) :
    Calls Try.prog 13 #[.pointer (some ⟨t, 0, none⟩)] w (FirstPost w xs) := by
  have hb1 := up_alloc w (.cells #[.int .i64 0, .int .i64 0, .int .i64 0] 42)
  have hR := Blk.new w [.int .i64 0, .int .i64 0, .int .i64 0] 42
  have h1 := h.below hb1
  generalize hw1 : w.alloc (.cells #[.int .i64 0, .int .i64 0, .int .i64 0] 42) = w1 at hb1 h1
  have hR1 : Blk w1 w.heap.size [.int .i64 0, .int .i64 0, .int .i64 0] 42 := by subst hw1; exact hR
  have CL := Lib.hid (c_llen h1)
  have HW := Lib.hid hw1
  clear hw1 hR
  rcases Nat.eq_zero_or_pos xs.length with h0 | h0
  · have r0 := hR1.cell 0 _ rfl
    have r1 := hR1.cell 1 _ rfl
    have r2 := hR1.cell 2 _ rfl
    have f0 := hR1.free 0
    have f1 := hR1.free 1
    have f2 := hR1.free 2
    rw [h0] at CL
    have H0 := Lib.hid h0
    have HB1 := Lib.hid hb1
    clear h h1 h0 hb1
    go_enter Try.func13, Try.ntmps13
    go_wp2_with fail
    rw [HW.out]
    refine Calls.mono CL.out ?_
    rintro e w' ⟨rfl, rfl⟩
    go_wp2_with fail
    refine bodyPost_ret (v := .tuple #[.agg #[.int .i64 0, .int .i64 0, .int .i64 0], .bool false]) (by simp [results, Try.results13, go_sem, r0, r1, r2]) rfl ?_
    exact ⟨by rw [H0.out]; rfl, ((HB1.out.setCell (by simp) _).setCell (by simp) _).setCell (by simp) _⟩
  · obtain ⟨n, hn⟩ : ∃ n, n = xs.length := ⟨_, rfl⟩
    have hf := h.pile.few
    have hI := row_form h1.pile.row h0
    obtain ⟨g, c, rfl, hnc, hcm, hlo, hg⟩ := hI
    have hI := row_cells h1.pile.row 0 h0
    obtain ⟨i0, i1, i2⟩ := hI
    simp only [Nat.zero_mul, Nat.zero_add] at i0 i1 i2
    have hc := h1.c0
    have hc2 := h1.box.cell 2 _ rfl
    rw [← hn] at CL hc2 h0 hf
    have HN := Lib.hid hn
    have HB1 := Lib.hid hb1
    have r0 := hR1.cell 0 _ rfl
    have r1 := hR1.cell 1 _ rfl
    have r2 := hR1.cell 2 _ rfl
    have f0 := hR1.free 0
    have f1 := hR1.free 1
    have f2 := hR1.free 2
    have hnz : ((n : Int) == 0) = false := beq_eq_false_iff_ne.2 (by omega)
    generalize ht : gt xs 0 = a at i0 i1 i2
    have HT := Lib.hid ht
    clear h h1 hb1 hn ht hcm hlo
    go_enter Try.func13, Try.ntmps13
    go_wp2_with fail
    rw [HW.out]
    refine Calls.mono CL.out ?_
    rintro e w' ⟨rfl, rfl⟩
    go_wp2_with fail
    refine bodyPost_ret (v := .tuple #[.agg #[.int .i64 a.at_, .int .i64 a.no, .int .i64 a.who], .bool true]) (by simp [results, Try.results13, go_sem, r0, r1, r2]) rfl ?_
    exact ⟨by rw [HT.out, if_pos (by rw [← HN.out]; exact h0), decide_eq_true (by rw [← HN.out]; exact h0)]; rfl, ((HB1.out.setCell (by simp) _).setCell (by simp) _).setCell (by simp) _⟩

theorem eq_nil_pile (w : World) (a : Option Addr) (n c n' c' : Nat) : (binOp .eql 61 (.slice a n c) (.slice none n' c')).run Try.prog w = .ok (.bool a.isNone) w := Lib.run_eql_slice_nil w _ 42 a n c n' c' (by kernel_rfl)
/-- A new row of timers. -/
def RowPost (w : World) (ys : List Tm) (e : Ending) (w' : World) : Prop :=
  ∃ v', e = .returned v' ∧ w'.ownsRow w.heap.size 42 3 v' ys.length (flatT ys) ∧ Below w.heap.size w w'
set_option maxHeartbeats 400000 in
theorem c_clone {w : World} {lo : Nat} {v : Value} {xs : List Tm} (h : w.ownsRow lo 42 3 v xs.length (flatT xs)) (hf : xs.length ≤ 2000) :
    Calls Try.prog 28 #[v] w (RowPost w xs) := by
  obtain ⟨A, c, rfl, _, _, hr⟩ := own_slice h
  have hq := eq_nil_pile
  rcases A with _ | p
  · have hx : xs = [] := by
      rcases Nat.eq_zero_or_pos xs.length with h0 | h0
      · exact List.eq_nil_of_length_eq_zero h0
      · obtain ⟨b, o, e, _⟩ := hr.at_ h0
        cases e
    subst hx
    clear h hr
    go_enter Try.func28, Try.ntmps28
    go_wp2
    go_ret
    exact ⟨_, rfl, World.ownsRow_nil _ _ _ _, Below.refl _ _⟩
  · have HR := Lib.hid hr
    have hown := World.ownsRow_made (base := w.heap.size) (e := 42) (size := 3) w #[] 0 (Nat.le_refl _) (by unfold maxLen; omega) (by simp)
    have hf2 := Lib.hid hf
    generalize hn : xs.length = n at *
    have HN := Lib.hid hn
    clear h hr hn
    go_enter Try.func28, Try.ntmps28
    go_wp2_with (at_builtin; refine wpList_app3 ei_T rfl (.tmp 5) (.tmp 6) rfl (.slice (some ⟨w.heap.size, 0, none⟩) 0 0) [] rfl hown rfl (HR.out.below (up_alloc _ _)) (flat_cells _) (by omega) (by simp) ?_; intro v1 w1 hown1 hg1 _; simp only [Nat.zero_add, List.nil_append] at hown1)
    go_ret
    refine ⟨_, rfl, by rw [HN.out]; exact hown1, (up_alloc w (.cells #[] 42)).grown hg1 (by simp) (fun k e => ?_)⟩
    have : w.heap.size = k := by simpa [Value.ownBlock] using e
    omega
end Go.Proofs.Ytbfmcdjnjnfdlaa

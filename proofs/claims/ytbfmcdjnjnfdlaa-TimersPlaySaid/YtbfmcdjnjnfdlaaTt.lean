/- The document's Add to no timers; its Drop. -/
import Derived.Test.YtbfmcdjnjnfdlaaTs
namespace Go.Proofs.Ytbfmcdjnjnfdlaa
open Go.RowKit

set_option maxHeartbeats 4000000 in
theorem c_radd_nil {w : World} {n : Nat} (rm : Nat) (a who : Int) (ha : fineC a = true) (hr : 0 < rm) (hrm : rm ≤ 1024) (hn : n ≤ 1000000) :
    Calls Try.prog 12 #[.agg #[.int .i64 (rm : Int), .int .i64 (n : Int), .slice none 0 0], .int .i64 a, .int .i64 who] w (DPost w rm ((n : Int) + 1) (insT [] ⟨a, (n : Int) + 1, who⟩) (fun v => .tuple #[v, .int .i64 ((n : Int) + 1), .int .i64 0])) := by
  have hX := lbox w rm n (.slice none 0 0)
  generalize hw2 : (w.alloc (.cells #[.int .i64 (rm : Int), .int .i64 (n : Int), .slice none 0 0] 30)).alloc (.cells #[.int .i64 0, .int .i64 0, .slice none 0 0] 30) = w2 at hX
  have C := c_rfine a w2
  rw [ha] at C
  have CC := Lib.hid C
  have HW := Lib.hid hw2
  have c0 := hX.box.cell 0 _ rfl
  have c1 := hX.box.cell 1 _ rfl
  have c2 := hX.box.cell 2 _ rfl
  have g1 := hX.box.free 1
  have HX := Lib.hid hX
  have hne : ((0 : Int) == (rm : Int)) = false := beq_eq_false_iff_ne.2 (by omega)
  have hne2 : ((rm : Int) == 0) = false := beq_eq_false_iff_ne.2 (by omega)
  clear hw2 C hX ha
  go_enter Try.func12, Try.ntmps12
  go_wp2_with fail
  rw [HW.out]
  refine Calls.mono CC.out ?_
  rintro e w' ⟨rfl, rfl⟩
  go_wp2_with fail
  have hB3 := HX.out.box.set 1 (.int .i64 ((n : Int) + 1))
  have hR3 := HX.out.res.other ⟨w.heap.size, 1, none⟩ (by simp) (.int .i64 ((n : Int) + 1))
  have hU3 := HX.out.up.setCell (p := ⟨w.heap.size, 1, none⟩) (Nat.le_refl _) (.int .i64 ((n : Int) + 1))
  generalize w2.setCell ⟨w.heap.size, 1, none⟩ (.int .i64 ((n : Int) + 1)) = w3 at *
  have e1 := hB3.cell 1 _ rfl
  have e2 := hB3.cell 2 _ rfl
  have hz3 := hR3.lt
  have H3 := Lib.hid hB3
  have HR3 := Lib.hid hR3
  have HU3 := Lib.hid hU3
  clear hB3 hR3 hU3 c0 c1 c2 g1
  go_loop [9] (fun i => i = .int .i64 0) (fun _ => 0)
  case atStart => rfl
  case round =>
    obtain rfl := hrel
    go_wp2_with (first
      | (at_builtin; refine wpList_app ei_R rfl (.const (.slice none 0 0)) (.tmp 46) rfl _ [] rfl (World.ownsRow_nil w3 w3.heap.size _ _) rfl (RD.nil w3 (fun _ => True) 3 none) (by simp) (by omega) (Nat.le_refl _) ?_; intro v4 w4 hown4 hb4; have k1 := (H3.out.up hb4 H3.out.lt).cell 1 _ rfl)
      | (at_builtin; refine wpList_app ei_R rfl (.tmp 48) (.tmp 54) rfl _ _ rfl (hown4.alloc _) rfl (RD.one3 rfl) (by simp [Value.oneCell']) (by omega) (by have := hb4.size; simp; omega) ?_; intro v5 w5 hown5 hb5; have hb35 := (hb4.trans ((up_alloc _ _).mono hb4.size)).trans hb5; have k2 := (H3.out.up hb35 H3.out.lt).cell 2 _ rfl)
      | (at_builtin; refine wpList_app ei_R rfl (.tmp 56) (.tmp 60) rfl _ _ rfl hown5 rfl (RD.nil w5 (fun _ => True) 3 none) (by simp) (by omega) (by have := hb35.size; exact this) ?_; intro v6 w6 hown6 hb6; have hb36 := hb35.trans hb6; have HB36 := Lib.hid hb36; obtain ⟨n6, hn6⟩ : ∃ n6, 0 + 0 + 1 + 0 = n6 := ⟨_, rfl⟩; rw [hn6] at hown6; have HOWN := Lib.hid hown6; obtain ⟨A6, c6, rfl, _, _, _⟩ := own_slice hown6; have q2 := (H3.out.up hb36 H3.out.lt).cell 2 _ rfl; have p2 := (H3.out.up hb36 H3.out.lt).free 2; clear hn6 hb36 hb35 hb6 hb5 hb4 hown4 hown5 hown6 k1 k2 e1 e2))
    go_wp2_with fail
    have h7 := (H3.out.up HB36.out H3.out.lt).set 2 (.slice A6 n6 c6)
    have r7 := (HR3.out.up HB36.out HR3.out.lt).other ⟨w.heap.size, 2, none⟩ (by simp) (.slice A6 n6 c6)
    have ho7 : Only (fun k => k = w.heap.size ∨ k = w.heap.size + 1) w6 (w6.setCell ⟨w.heap.size, 2, none⟩ (.slice A6 n6 c6)) := (Only.refl _ _).setCell (.inl (.inl rfl)) _
    generalize w6.setCell ⟨w.heap.size, 2, none⟩ (.slice A6 n6 c6) = w7 at h7 r7 ho7 ⊢
    clear q2 p2
    have q0 := h7.cell 0 _ rfl
    have q1 := h7.cell 1 _ rfl
    have q2 := h7.cell 2 _ rfl
    have r0 := r7.cell 0 _ rfl
    have r1 := r7.cell 1 _ rfl
    have r2 := r7.cell 2 _ rfl
    have f0 := r7.free 0
    have f1 := r7.free 1
    have f2 := r7.free 2
    have HO7 := Lib.hid ho7
    clear h7 r7 ho7
    go_region
    all_goals
      go_wp2_with fail
      refine bodyPost_ret (v := .tuple #[.agg #[.int .i64 (rm : Int), .int .i64 ((n : Int) + 1), .slice A6 n6 c6], .int .i64 ((n : Int) + 1), .int .i64 0]) (by simp [results, Try.results12, go_sem, r0, r1, r2]) rfl ?_
      have hown := HOWN.out
      rw [show ([] ++ ([] : List Value) ++ [Value.int .i64 a, .int .i64 ((n : Int) + 1), .int .i64 who] ++ []) = flatT (insT [] ⟨a, (n : Int) + 1, who⟩) from rfl] at hown
      exact d_end (fun v => .tuple #[v, .int .i64 ((n : Int) + 1), .int .i64 0]) HU3.out HB36.out hown hz3 ((((HO7.out.drewN 1).setCell (.inl (.inr rfl)) _).setCell (.inl (.inr rfl)) _).setCell (.inl (.inr rfl)) _)

theorem c_radd {w : World} {lo n : Nat} {u : Value} {L : List Tm} (h : DR w lo u L) (rm : Nat) (a who : Int) (ha : fineC a = true) (hr : L.length < rm) (hrm : rm ≤ 1024) (hn : n ≤ 1000000) :
    Calls Try.prog 12 #[.agg #[.int .i64 (rm : Int), .int .i64 (n : Int), u], .int .i64 a, .int .i64 who] w (DPost w rm ((n : Int) + 1) (insT L ⟨a, (n : Int) + 1, who⟩) (fun v => .tuple #[v, .int .i64 ((n : Int) + 1), .int .i64 0])) := by
  rcases h.2 with ⟨rfl, h0⟩ | ⟨g, cap, cur, rfl, _, _, hnc, hcm, _⟩
  · obtain rfl : L = [] := List.eq_nil_of_length_eq_zero h0
    exact c_radd_nil rm a who ha hr hrm hn
  · exact c_radd_some (RD.of_own h) hnc hcm rm a who ha hr hrm hn
end Go.Proofs.Ytbfmcdjnjnfdlaa

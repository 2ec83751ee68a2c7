/- The laws of clocks, walked: alive, ClockTells, ClockGoes, ClockEnds. -/
import Derived.Test.YtmbkbhagiphgnaaCb
import Derived.BigRegion
namespace Go.Proofs.Ytmbkbhagiphgnaa
open Go.RowKit

theorem b_tick (n d s : Int) (h : 0 ≤ n) (hd : 0 ≤ d) (e : n + d = s) (hs : s ≤ 1099511627776) (w : World) :
    Calls Try.prog 6 #[.int .i64 n, .int .i64 d] w fun e w' => e = .returned (.tuple #[.int .i64 s, .int .i64 0]) ∧ w = w' := by
  have c := c_tick n d w
  have hf : fineC n = true := (fineC_iff n).2 ⟨h, by omega⟩
  rw [tickV_of n d hf hd, tickE_of n d hf hd, sum_in n d h hd (by omega), e] at c
  exact c
theorem b_last (n d : Int) (h : 0 ≤ n ∧ n ≤ 1099511627776) (hd : 0 ≤ d) (hs : 1099511627776 ≤ n + d) (w : World) :
    Calls Try.prog 6 #[.int .i64 n, .int .i64 d] w fun e w' => e = .returned (.tuple #[.int .i64 1099511627776, .int .i64 0]) ∧ w = w' := by
  have c := c_tick n d w
  have hf : fineC n = true := (fineC_iff n).2 h
  rw [tickV_of n d hf hd, tickE_of n d hf hd, show clampC (n + clampC d) = 1099511627776 by unfold clampC; omega] at c
  exact c
theorem b_after (n d s : Int) (h : 0 ≤ n ∧ n ≤ 1099511627776) (e : clampC (n + clampC d) = s) (w : World) :
    Calls Try.prog 8 #[.int .i64 n, .int .i64 d] w fun e w' => e = .returned (.tuple #[.int .i64 s, .int .i64 0]) ∧ w = w' := by
  have c := c_after n d w
  have hf : fineC n = true := (fineC_iff n).2 h
  rw [afterV_of n d hf, afterE_of n hf, e] at c
  exact c
theorem b_due (n t : Int) (b : Bool) (h : 0 ≤ n ∧ n ≤ 1099511627776) (k : 0 ≤ t ∧ t ≤ 1099511627776) (e : decide (t ≤ n) = b) (w : World) :
    Calls Try.prog 12 #[.int .i64 n, .int .i64 t] w fun e w' => e = .returned (.bool b) ∧ w = w' := by
  have c := c_due n t w
  rw [show dueB n t = b by unfold dueB; rw [(fineC_iff n).2 h, (fineC_iff t).2 k, e]; simp] at c
  exact c
theorem b_left (n t s : Int) (h : 0 ≤ n ∧ n ≤ 1099511627776) (k : 0 ≤ t ∧ t ≤ 1099511627776) (e : clampC (t - n) = s) (w : World) :
    Calls Try.prog 14 #[.int .i64 n, .int .i64 t] w fun e w' => e = .returned (.int .i64 s) ∧ w = w' := by
  have c := c_left n t w
  rw [leftV_of n t ((fineC_iff n).2 h) ((fineC_iff t).2 k), e] at c
  exact c

set_option maxHeartbeats 1000000 in
theorem c_alive (w : World) : Calls Try.prog 16 #[] w fun e w' => e = .returned (.bool true) ∧ w = w' := by
  go_enter Try.func16, Try.ntmps16
  go_wp2_with fail
  refine (b_tick 5 3 8 (by decide) (by decide) (by decide) (by decide) _).mono ?_; rintro e w' ⟨rfl, rfl⟩
  go_wp2_with fail
  refine (b_after 5 (-3) 5 (by decide) (by decide) _).mono ?_; rintro e w' ⟨rfl, rfl⟩
  go_wp2_with fail
  have c := c_tick 5 (-1) w
  rw [tickV_neg 5 (-1) (by decide), tickE_neg 5 (-1) (by decide) (by decide)] at c
  refine c.mono ?_; clear c; rintro e w' ⟨rfl, rfl⟩
  go_wp2_with fail
  refine (b_due 8 8 true (by decide) (by decide) (by decide) _).mono ?_; rintro e w' ⟨rfl, rfl⟩
  go_wp2_with fail
  refine (b_due 7 8 false (by decide) (by decide) (by decide) _).mono ?_; rintro e w' ⟨rfl, rfl⟩
  go_wp2_with fail
  refine (b_left 5 8 3 (by decide) (by decide) (by decide) _).mono ?_; rintro e w' ⟨rfl, rfl⟩
  go_wp2_with fail
  refine (c_fine 0 _).mono ?_; rintro e w' ⟨rfl, rfl⟩
  rw [show fineC 0 = true from rfl]
  go_wp2
  go_ret
  exact ⟨rfl, rfl⟩

set_option maxHeartbeats 1000000 in
theorem l_tells (n d : Int) (w : World) :
    Calls Try.prog 3 #[.int .i64 n, .int .i64 d] w fun e w' => e = .returned (.bool true) ∧ Below w.heap.size w w' := by
  go_enter Try.func3, Try.ntmps3
  go_wp2_with (first
    | (go_at_call 6; refine (c_tick _ _ _).mono ?_; rintro e w' ⟨rfl, rfl⟩)
    | (go_at_call 7; refine (c_rtick _ _ _).mono ?_; rintro e w' ⟨rfl, rfl⟩)
    | (go_at_call 8; refine (c_after _ _ _).mono ?_; rintro e w' ⟨rfl, rfl⟩)
    | (go_at_call 9; refine (c_rafter _ _ _).mono ?_; rintro e w' ⟨rfl, rfl⟩)
    | (go_at_call 10; refine (c_fine _ _).mono ?_; rintro e w' ⟨rfl, rfl⟩)
    | (go_at_call 11; refine (c_rfine _ _).mono ?_; rintro e w' ⟨rfl, rfl⟩)
    | (go_at_call 12; refine (c_due _ _ _).mono ?_; rintro e w' ⟨rfl, rfl⟩)
    | (go_at_call 13; refine (c_rdue _ _ _).mono ?_; rintro e w' ⟨rfl, rfl⟩)
    | (go_at_call 14; refine (c_left _ _ _).mono ?_; rintro e w' ⟨rfl, rfl⟩)
    | (go_at_call 15; refine (c_rleft _ _ _).mono ?_; rintro e w' ⟨rfl, rfl⟩)
    | (go_at_call 16; refine (c_alive _).mono ?_; rintro e w' ⟨rfl, rfl⟩))
  go_ret
  exact ⟨rfl, Below.refl _ _⟩

set_option maxHeartbeats 1000000 in
theorem l_goes (n a b t : Int) (hn : 0 ≤ n ∧ n ≤ 4294967295) (ha : 0 ≤ a ∧ a ≤ 65535) (hb : 0 ≤ b ∧ b ≤ 65535) (ht : 0 ≤ t ∧ t ≤ 4294967295) (w : World) :
    Calls Try.prog 4 #[.int .u32 n, .agg #[.int .u16 a, .int .u16 b], .int .u32 t] w fun e w' => e = .returned (.bool true) ∧ Below w.heap.size w w' := by
  have hA0 := Blk.new w [.int .u16 a, .int .u16 b] 33
  have c0 := hA0.cell 0 _ rfl
  have c1 := hA0.cell 1 _ rfl
  clear hA0
  obtain ⟨x, hx⟩ : ∃ x, n + a = x := ⟨_, rfl⟩
  obtain ⟨y, hy⟩ : ∃ y, x + b = y := ⟨_, rfl⟩
  obtain ⟨u, hu⟩ : ∃ u, clampC (t - x) = u := ⟨_, rfl⟩
  obtain ⟨v, hv⟩ : ∃ v, clampC (t - y) = v := ⟨_, rfl⟩
  obtain ⟨d, hd⟩ : ∃ d, decide (t ≤ x) = d := ⟨_, rfl⟩
  obtain ⟨f, hf⟩ : ∃ f, decide (t ≤ y) = f := ⟨_, rfl⟩
  obtain ⟨hn0, hn1⟩ := hn
  obtain ⟨ha0, ha1⟩ := ha
  obtain ⟨hb0, hb1⟩ := hb
  obtain ⟨ht0, ht1⟩ := ht
  have T1 := Lib.hid (b_tick n a x (by omega) (by omega) hx (by omega))
  have T2 := Lib.hid (b_tick x b y (by omega) (by omega) hy (by omega))
  have T3 := Lib.hid (b_tick n (a + b) y (by omega) (by omega) (by omega) (by omega))
  have D1 := Lib.hid (b_due x t d (by omega) (by omega) hd)
  have D2 := Lib.hid (b_due y t f (by omega) (by omega) hf)
  have L1 := Lib.hid (b_left x t u (by omega) (by omega) hu)
  have L2 := Lib.hid (b_left y t v (by omega) (by omega) hv)
  have e1 : decide (y < x) = false := by rw [decide_eq_false_iff_not]; omega
  have e2 : decide (x < n) = false := by rw [decide_eq_false_iff_not]; omega
  have ub : 0 ≤ u ∧ u ≤ 4294967295 := by rw [← hu]; unfold clampC; omega
  have e5 : max 0 (u - b) = v := by rw [← hu, ← hv]; unfold clampC; omega
  have e4 : (d = true ∧ f = true ∧ decide (0 < u) = false) ∨ (d = false ∧ decide (0 < u) = true) := by
    by_cases h : t ≤ x
    · refine .inl ⟨by rw [← hd]; simpa using h, by rw [← hf, decide_eq_true_iff]; omega, ?_⟩
      rw [decide_eq_false_iff_not, ← hu]; unfold clampC; omega
    · refine .inr ⟨by rw [← hd]; simpa using h, ?_⟩
      rw [decide_eq_true_iff, ← hu]; unfold clampC; omega
  obtain ⟨ub0, ub1⟩ := ub
  have E5 := Lib.hid e5
  clear hx hy hu hv hd hf e5
  rcases e4 with ⟨rfl, rfl, e4⟩ | ⟨rfl, e4⟩
  all_goals
    go_enter Try.func4, Try.ntmps4
    go_wp2
    go_region
    go_wp2_with fail
    refine (T1.out _).mono ?_; rintro e w' ⟨rfl, rfl⟩
    go_wp2_with fail
    refine (T2.out _).mono ?_; rintro e w' ⟨rfl, rfl⟩
    go_wp2_with fail
    refine (T3.out _).mono ?_; rintro e w' ⟨rfl, rfl⟩
    go_wp2_with fail
    refine (D1.out _).mono ?_; rintro e w' ⟨rfl, rfl⟩
    go_wp2_with fail
  · refine (D2.out _).mono ?_; rintro e w' ⟨rfl, rfl⟩
    go_wp2_with fail
    refine (L1.out _).mono ?_; rintro e w' ⟨rfl, rfl⟩
    go_wp2_with fail
    refine (D1.out _).mono ?_; rintro e w' ⟨rfl, rfl⟩
    go_wp2_with fail
    refine (L2.out _).mono ?_; rintro e w' ⟨rfl, rfl⟩
    go_wp2_with fail
    refine (L1.out _).mono ?_; rintro e w' ⟨rfl, rfl⟩
    go_wp2_with fail
    all_goals first
      | (exfalso; have := E5.out; omega)
      | (refine (c_alive _).mono ?_
         rintro e w' ⟨rfl, rfl⟩
         go_wp2
         go_ret
         exact ⟨rfl, up_trans (up_alloc _ _) ⟨rfl, rfl, rfl, Nat.le_refl _, fun _ _ => rfl⟩⟩)
  · refine (L1.out _).mono ?_; rintro e w' ⟨rfl, rfl⟩
    go_wp2_with fail
    refine (D1.out _).mono ?_; rintro e w' ⟨rfl, rfl⟩
    go_wp2_with fail
    refine (L2.out _).mono ?_; rintro e w' ⟨rfl, rfl⟩
    go_wp2_with fail
    refine (L1.out _).mono ?_; rintro e w' ⟨rfl, rfl⟩
    go_wp2_with fail
    all_goals first
      | (exfalso; have := E5.out; omega)
      | (refine (c_alive _).mono ?_
         rintro e w' ⟨rfl, rfl⟩
         go_wp2
         go_ret
         exact ⟨rfl, up_trans (up_alloc _ _) ⟨rfl, rfl, rfl, Nat.le_refl _, fun _ _ => rfl⟩⟩)

set_option maxHeartbeats 1000000 in
theorem l_ends (n t : Int) (hn : 0 ≤ n ∧ n ≤ 18446744073709551615) (ht : 0 ≤ t ∧ t ≤ 18446744073709551615) (w : World) :
    Calls Try.prog 5 #[.int .u64 n, .int .u64 t] w fun e w' => e = .returned (.bool true) ∧ Below w.heap.size w w' := by
  obtain ⟨k, hk⟩ : ∃ k, n / 2 = k := ⟨_, rfl⟩
  obtain ⟨a, ha⟩ : ∃ a, t % 1099511627777 = a := ⟨_, rfl⟩
  have hk0 : 0 ≤ k := by omega
  have hk1 : k ≤ 9223372036854775807 := by omega
  have ha0 : 0 ≤ a := by omega
  have ha1 : a ≤ 1099511627776 := by omega
  have T := Lib.hid (b_last 1099511627776 k (by decide) hk0 (by omega))
  have F := Lib.hid (b_after a (1099511627776 + k % 1000) 1099511627776 ⟨ha0, ha1⟩ (by unfold clampC; omega))
  have D := Lib.hid (b_due 1099511627776 a true (by decide) ⟨ha0, ha1⟩ (by rw [decide_eq_true_iff]; exact ha1))
  have L := Lib.hid (b_left 1099511627776 a 0 (by decide) ⟨ha0, ha1⟩ (by unfold clampC; omega))
  have M := Lib.hid (b_left a 1099511627776 (1099511627776 - a) ⟨ha0, ha1⟩ (by decide) (by unfold clampC; omega))
  obtain ⟨hn0, hn1⟩ := hn
  obtain ⟨ht0, ht1⟩ := ht
  have HK := Lib.hid hk
  have HA := Lib.hid ha
  clear hk ha
  go_enter Try.func5, Try.ntmps5
  go_wp2_with fail
  rw [HK.out]
  refine (T.out _).mono ?_; rintro e w' ⟨rfl, rfl⟩
  go_wp2_with fail
  rw [HA.out]
  refine (F.out _).mono ?_; rintro e w' ⟨rfl, rfl⟩
  go_wp2_with fail
  refine (D.out _).mono ?_; rintro e w' ⟨rfl, rfl⟩
  go_wp2_with fail
  refine (L.out _).mono ?_; rintro e w' ⟨rfl, rfl⟩
  go_wp2_with fail
  refine (M.out _).mono ?_; rintro e w' ⟨rfl, rfl⟩
  go_wp2_with fail
  refine (c_alive _).mono ?_; rintro e w' ⟨rfl, rfl⟩
  go_wp2
  go_ret
  exact ⟨rfl, Below.refl _ _⟩

theorem z_goes (n a b t : Int) (hn : 0 ≤ n ∧ n ≤ 4294967295) (ha : 0 ≤ a ∧ a ≤ 65535) (hb : 0 ≤ b ∧ b ≤ 65535) (ht : 0 ≤ t ∧ t ≤ 4294967295) (w : World) :
    Calls Try.prog 4 #[.int .u32 n, .agg ([a, b].map (Value.int .u16)).toArray, .int .u32 t] w fun e w' => e = .returned (.bool true) ∧ Below w.heap.size w w' :=
  l_goes n a b t hn ha hb ht w
end Go.Proofs.Ytmbkbhagiphgnaa

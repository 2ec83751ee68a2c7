/- Package alt: its small functions, Fine. -/
import Derived.Test.YtimooelhjgnlnaaAla
import Derived.Test.YtimooelhjgnlnaaK
import Derived.Test.YtimooelhjgnlnaaRows
import Derived.WalkKit
import Derived.WalkSpells
import Derived.LoopTactic
import Derived.BigRegion
import Derived.BigQuiet
import Derived.Deep.QuietTactic
import Derived.Lib.QuietBelow
import Derived.Lib.Hide
import Derived.IntWalk
import Derived.Laws.StructEq
import Derived.Deep.CutBlock
namespace Go.Proofs.Ytimooelhjgnlnaa
open Go.RowKit

set_option maxHeartbeats 400000 in
theorem c_almay (n : Int) (w : World) : Calls Try.prog 11 #[.int .i64 n] w fun e w' => e = .returned (.bool (alMay n)) ∧ w = w' := by
  by_cases h : 1 ≤ n
  · go_enter Try.func11, Try.ntmps11
    go_wp2
    go_ret
    exact ⟨ret_bool (by simp [alMay, h]), rfl⟩
  · go_enter Try.func11, Try.ntmps11
    go_wp2
    go_ret
    exact ⟨ret_bool (by simp [alMay]; omega), rfl⟩
set_option maxHeartbeats 400000 in
theorem c_albelow (n m : Int) (w : World) : Calls Try.prog 14 #[.int .i64 n, .int .i64 m] w fun e w' => e = .returned (.bool (alIn n m)) ∧ w = w' := by
  by_cases h : 0 ≤ n
  · go_enter Try.func14, Try.ntmps14
    go_wp2
    go_ret
    exact ⟨ret_bool (by simp [alIn, h]), rfl⟩
  · go_enter Try.func14, Try.ntmps14
    go_wp2
    go_ret
    exact ⟨ret_bool (by simp [alIn]; omega), rfl⟩
set_option maxHeartbeats 400000 in
theorem c_alothers (m n d p : Int) (h1 : 1 ≤ n) (h6 : n ≤ 6) (w : World) : Calls Try.prog 12 #[.agg #[.int .i64 m, .int .i64 n, .int .i64 d, .int .i64 p]] w fun e w' => e = .returned (.int .i64 (n - 1)) ∧ Below w.heap.size w w' := by
  have HU := Lib.hid (up_alloc w (.cells #[.int .i64 m, .int .i64 n, .int .i64 d, .int .i64 p] 23))
  have HB := Blk.new w [.int .i64 m, .int .i64 n, .int .i64 d, .int .i64 p] 23
  have i1 := HB.cell 1 _ rfl
  clear HB
  go_enter Try.func12, Try.ntmps12
  go_wp2
  go_ret
  exact ⟨rfl, HU.out⟩

theorem eq_al (d : Nat) (k o h n k' o' h' n' : Int) (w : World) : (Op.equalIn (d + 2) 23 (.agg #[.int .i64 k, .int .i64 o, .int .i64 h, .int .i64 n]) (.agg #[.int .i64 k', .int .i64 o', .int .i64 h', .int .i64 n'])).run Try.prog w = .ok ((k == k') && (o == o') && (h == h') && (n == n')) w := by
  have hS : Try.prog.underlying 23 = some (.struct (Try.prog.fieldsOf 23)) := by kernel_rfl
  have hp : Try.prog.stoodInHeld 23 = false := by kernel_rfl
  have p0 : ∀ (a b c e : Int) w, (part 3 #[.int .i64 a, .int .i64 b, .int .i64 c, .int .i64 e] 0).run Try.prog w = .ok (.int .i64 a) w := fun a b c e w => by kernel_rfl
  have p1 : ∀ (a b c e : Int) w, (part 3 #[.int .i64 a, .int .i64 b, .int .i64 c, .int .i64 e] 1).run Try.prog w = .ok (.int .i64 b) w := fun a b c e w => by kernel_rfl
  have p2 : ∀ (a b c e : Int) w, (part 3 #[.int .i64 a, .int .i64 b, .int .i64 c, .int .i64 e] 2).run Try.prog w = .ok (.int .i64 c) w := fun a b c e w => by kernel_rfl
  have p3 : ∀ (a b c e : Int) w, (part 3 #[.int .i64 a, .int .i64 b, .int .i64 c, .int .i64 e] 3).run Try.prog w = .ok (.int .i64 e) w := fun a b c e w => by kernel_rfl
  have q : ∀ (x y : Int) w, (Op.equalIn (d + 1) 3 (.int .i64 x) (.int .i64 y)).run Try.prog w = .ok (x == y) w := fun x y w => run_equalIn_int w d _ .i64 .i64 x y Try.underlying3
  rw [show d + 2 = (d + 1) + 1 from rfl, run_equalIn_agg w (d + 1) 23 _ _ hS hp]
  simp only [Program.fieldsOf, Try.underlying23]
  have a0 := p0 k o h n
  have a1 := p1 k o h n
  have a2 := p2 k o h n
  have a3 := p3 k o h n
  have b0 := p0 k' o' h' n'
  have b1 := p1 k' o' h' n'
  have b2 := p2 k' o' h' n'
  have b3 := p3 k' o' h' n'
  clear p0 p1 p2 p3
  generalize (#[.int .i64 k, .int .i64 o, .int .i64 h, .int .i64 n] : Array Value) = X at a0 a1 a2 a3 ⊢
  generalize (#[.int .i64 k', .int .i64 o', .int .i64 h', .int .i64 n'] : Array Value) = Y at b0 b1 b2 b3 ⊢
  cases e0 : (k == k') <;> cases e1 : (o == o') <;> cases e2 : (h == h') <;> cases e3 : (n == n') <;> simp [Op.eqFields, a0, a1, a2, a3, b0, b1, b2, b3, q, e0, e1, e2, e3]
theorem eql_al (k o h n k' o' h' n' : Int) (w : World) : (binOp .eql 23 (.agg #[.int .i64 k, .int .i64 o, .int .i64 h, .int .i64 n]) (.agg #[.int .i64 k', .int .i64 o', .int .i64 h', .int .i64 n'])).run Try.prog w = .ok (.bool ((k == k') && (o == o') && (h == h') && (n == n'))) w := by
  rw [run_eql_struct, eq_al 9998]
  rfl

set_option maxHeartbeats 1000000 in
theorem c_alf3a (n d p : Int) (hm : alMay n = false) (w : World) : Calls Try.prog 7 #[.agg #[.int .i64 3, .int .i64 n, .int .i64 d, .int .i64 p]] w fun e w' => e = .returned (.bool (alFine 3 n d p)) ∧ Below w.heap.size w w' := by
  rw [fine_3, hm]
  have HU := Lib.hid (up_alloc w (.cells #[.int .i64 3, .int .i64 n, .int .i64 d, .int .i64 p] 23))
  have HB := Blk.new w [.int .i64 3, .int .i64 n, .int .i64 d, .int .i64 p] 23
  obtain ⟨W, hW⟩ : ∃ W, w.alloc (.cells #[.int .i64 3, .int .i64 n, .int .i64 d, .int .i64 p] 23) = W := ⟨_, rfl⟩
  have HWO := Lib.hid hW
  change Blk (w.alloc (.cells #[.int .i64 3, .int .i64 n, .int .i64 d, .int .i64 p] 23)) _ _ _ at HB
  rw [hW] at HB HU
  clear hW
  have i0 := cell_regrown (HB.cell 0 _ rfl)
  have i1 := cell_regrown (HB.cell 1 _ rfl)
  have i2 := cell_regrown (HB.cell 2 _ rfl)
  have i3 := cell_regrown (HB.cell 3 _ rfl)
  have cM := grown_call (w := W) fun V _ => same_below (c_almay n V)
  rw [hm] at cM
  clear HB hm
  go_enter Try.func7, Try.ntmps7
  go_upto_region 9 with fail
  rw [HWO.out]
  refine wp_region_quiet_below (by kernel_rfl) (by kernel_rfl) ?_
  repeat (go_big_quiet_step (exact cM _ _))
  refine wpQuiet_nil ?_
  intro _ hw'
  obtain ⟨⟨dq, osq⟩, hw''⟩ := hw'
  have HQ := Lib.hid (up_trans HU.out (hw'' ▸ below_regrown W dq osq))
  clear hw'' i0 i1 i2 i3 cM
  go_wp2
  go_ret
  exact ⟨rfl, HQ.out⟩
set_option maxHeartbeats 1000000 in
theorem c_alf3b (n d p : Int) (hm : alMay n = true) (hi : alIn p n = false) (w : World) : Calls Try.prog 7 #[.agg #[.int .i64 3, .int .i64 n, .int .i64 d, .int .i64 p]] w fun e w' => e = .returned (.bool (alFine 3 n d p)) ∧ Below w.heap.size w w' := by
  rw [fine_3, hm, hi]
  have HU := Lib.hid (up_alloc w (.cells #[.int .i64 3, .int .i64 n, .int .i64 d, .int .i64 p] 23))
  have HB := Blk.new w [.int .i64 3, .int .i64 n, .int .i64 d, .int .i64 p] 23
  obtain ⟨W, hW⟩ : ∃ W, w.alloc (.cells #[.int .i64 3, .int .i64 n, .int .i64 d, .int .i64 p] 23) = W := ⟨_, rfl⟩
  have HWO := Lib.hid hW
  change Blk (w.alloc (.cells #[.int .i64 3, .int .i64 n, .int .i64 d, .int .i64 p] 23)) _ _ _ at HB
  rw [hW] at HB HU
  clear hW
  have i0 := cell_regrown (HB.cell 0 _ rfl)
  have i1 := cell_regrown (HB.cell 1 _ rfl)
  have i2 := cell_regrown (HB.cell 2 _ rfl)
  have i3 := cell_regrown (HB.cell 3 _ rfl)
  have cM := grown_call (w := W) fun V _ => same_below (c_almay n V)
  rw [hm] at cM
  have cP := grown_call (w := W) fun V _ => same_below (c_albelow p n V)
  rw [hi] at cP
  clear HB hm hi
  go_enter Try.func7, Try.ntmps7
  go_upto_region 9 with fail
  rw [HWO.out]
  refine wp_region_quiet_below (by kernel_rfl) (by kernel_rfl) ?_
  repeat (go_big_quiet_step (first | with_reducible exact cM _ _ | with_reducible exact cP _ _))
  refine wpQuiet_nil ?_
  intro _ hw'
  obtain ⟨⟨dq, osq⟩, hw''⟩ := hw'
  have HQ := Lib.hid (up_trans HU.out (hw'' ▸ below_regrown W dq osq))
  clear hw'' i0 i1 i2 i3 cM cP
  go_wp2
  go_ret
  exact ⟨rfl, HQ.out⟩
set_option maxHeartbeats 4000000 in
theorem c_alf3c (n d p : Int) (hm : alMay n = true) (hi : alIn p n = true) (w : World) : Calls Try.prog 7 #[.agg #[.int .i64 3, .int .i64 n, .int .i64 d, .int .i64 p]] w fun e w' => e = .returned (.bool (alFine 3 n d p)) ∧ Below w.heap.size w w' := by
  rw [fine_3, hm, hi]
  have HU := Lib.hid (up_alloc w (.cells #[.int .i64 3, .int .i64 n, .int .i64 d, .int .i64 p] 23))
  have HB := Blk.new w [.int .i64 3, .int .i64 n, .int .i64 d, .int .i64 p] 23
  obtain ⟨W, hW⟩ : ∃ W, w.alloc (.cells #[.int .i64 3, .int .i64 n, .int .i64 d, .int .i64 p] 23) = W := ⟨_, rfl⟩
  have HWO := Lib.hid hW
  change Blk (w.alloc (.cells #[.int .i64 3, .int .i64 n, .int .i64 d, .int .i64 p] 23)) _ _ _ at HB
  rw [hW] at HB HU
  clear hW
  have i0 := cell_regrown (HB.cell 0 _ rfl)
  have i1 := cell_regrown (HB.cell 1 _ rfl)
  have i2 := cell_regrown (HB.cell 2 _ rfl)
  have i3 := cell_regrown (HB.cell 3 _ rfl)
  obtain ⟨n1, n6⟩ := (alMay_iff n).1 hm
  have cO := grown_call (w := W) fun V _ => c_alothers 3 n d p n1 n6 V
  have cD := grown_call (w := W) fun V _ => same_below (c_albelow d (n - 1) V)
  have cM := grown_call (w := W) fun V _ => same_below (c_almay n V)
  rw [hm] at cM
  have cP := grown_call (w := W) fun V _ => same_below (c_albelow p n V)
  rw [hi] at cP
  generalize alIn d (n - 1) = b at cD ⊢
  clear HB hm hi
  go_enter Try.func7, Try.ntmps7
  go_upto_region 9 with fail
  rw [HWO.out]
  refine wp_region_quiet_below (by kernel_rfl) (by kernel_rfl) ?_
  repeat (go_big_quiet_step (first | with_reducible exact cM _ _ | with_reducible exact cP _ _ | with_reducible exact cO _ _ | with_reducible exact cD _ _))
  refine wpQuiet_nil ?_
  intro _ hw'
  obtain ⟨⟨dq, osq⟩, hw''⟩ := hw'
  have HQ := Lib.hid (up_trans HU.out (hw'' ▸ below_regrown W dq osq))
  clear hw'' i0 i1 i2 i3 cM cP cO cD
  go_wp2
  go_ret
  exact ⟨rfl, HQ.out⟩
theorem c_alf3 (n d p : Int) (w : World) : Calls Try.prog 7 #[.agg #[.int .i64 3, .int .i64 n, .int .i64 d, .int .i64 p]] w fun e w' => e = .returned (.bool (alFine 3 n d p)) ∧ Below w.heap.size w w' := by
  cases hm : alMay n
  · exact c_alf3a n d p hm w
  · cases hi : alIn p n
    · exact c_alf3b n d p hm hi w
    · exact c_alf3c n d p hm hi w
set_option maxHeartbeats 1000000 in
theorem c_alfine (m n d p : Int) (w : World) : Calls Try.prog 7 #[.agg #[.int .i64 m, .int .i64 n, .int .i64 d, .int .i64 p]] w fun e w' => e = .returned (.bool (alFine m n d p)) ∧ Below w.heap.size w w' := by
  have HU := Lib.hid (up_alloc w (.cells #[.int .i64 m, .int .i64 n, .int .i64 d, .int .i64 p] 23))
  have HB := Blk.new w [.int .i64 m, .int .i64 n, .int .i64 d, .int .i64 p] 23
  by_cases h0 : m = 0
  · subst h0
    rw [fine_0]
    have hE := eql_al 0 n d p 0 0 0 0
    simp only [beq_self_eq_true, Bool.true_and] at hE
    have hE' : ∀ W, (binOp .eql 23 (.agg #[.int .i64 0, .int .i64 n, .int .i64 d, .int .i64 p]) (.agg #[.int .i64 0, .int .i64 0, .int .i64 0, .int .i64 0])).run Try.prog W = .ok (.bool (n == 0 && d == 0 && p == 0)) W := hE
    clear hE HB
    generalize (n == 0 && d == 0 && p == 0) = b at hE' ⊢
    go_enter Try.func7, Try.ntmps7
    go_wp2
    go_ret
    exact ⟨rfl, HU.out⟩
  · have t0 : (m == 0) = false := by simpa using h0
    by_cases h1 : m = 1
    · subst h1
      rw [fine_1]
      cases hm : alMay n
      all_goals cases hi : alIn d n
      all_goals
        go_enter Try.func7, Try.ntmps7
        go_wp2_with (first | (go_at_call 11; refine (c_almay _ _).mono ?_; rintro e w' ⟨rfl, rfl⟩; rw [hm]) | (go_at_call 14; refine (c_albelow _ _ _).mono ?_; rintro e w' ⟨rfl, rfl⟩; rw [hi]))
        go_ret
        exact ⟨rfl, HU.out⟩
    · have t1 : (m == 1) = false := by simpa using h1
      by_cases h2 : m = 2
      · subst h2
        rw [fine_2]
        have hE := eql_al 2 n d p 2 n n 0
        simp only [beq_self_eq_true, Bool.true_and] at hE
        have hE' : ∀ W, (binOp .eql 23 (.agg #[.int .i64 2, .int .i64 n, .int .i64 d, .int .i64 p]) (.agg #[.int .i64 2, .int .i64 n, .int .i64 n, .int .i64 0])).run Try.prog W = .ok (.bool (d == n && p == 0)) W := hE
        rw [Bool.and_assoc]
        clear hE
        generalize (d == n && p == 0) = b at hE' ⊢
        cases hm : alMay n
        all_goals
          go_enter Try.func7, Try.ntmps7
          go_wp2_with (go_at_call 11; refine (c_almay _ _).mono ?_; rintro e w' ⟨rfl, rfl⟩; rw [hm])
          go_ret
          exact ⟨rfl, HU.out⟩
      · have t2 : (m == 2) = false := by simpa using h2
        by_cases h3 : m = 3
        · subst h3
          clear HB HU
          exact c_alf3 n d p w
        · have t3 : (m == 3) = false := by simpa using h3
          rw [fine_no h0 h1 h2 h3]
          clear HB h0 h1 h2 h3
          go_enter Try.func7, Try.ntmps7
          go_wp2
          go_ret
          exact ⟨rfl, HU.out⟩
end Go.Proofs.Ytimooelhjgnlnaa

/- The contracts of package bitset's only, Sub. -/
import Derived.Test.YtlplfnfaoaomkaaDoorBf
import Derived.Lib.QuietBelow
import Derived.BigQuiet
import Derived.Deep.QuietTactic
import Derived.Deep.RegionHeld3
namespace Go.Proofs.YtlplfnfaoaomkaaDoor
open Go.RowKit

set_option maxHeartbeats 1000000 in
theorem only_no (x : Int) (h : x < 0 ∨ 256 ≤ x) (w : World) :
    Calls Tryd.prog 41 #[.int .i64 x] w fun e w' => e = .returned S4.zero.val ∧ Below w.heap.size w w' := by
  rcases h with h | h
  · go_enter Tryd.func41, Tryd.ntmps41
    go_wp2
    exact bodyPost_ret (v := S4.zero.val) (by simp [results, Tryd.results41, go_sem, S4.zero]) rfl ⟨rfl, ((Below.refl _ _).alloc (Nat.le_refl _) _).alloc (by simp) _⟩
  · have h0 : 0 ≤ x := by omega
    go_enter Tryd.func41, Tryd.ntmps41
    go_wp2
    exact bodyPost_ret (v := S4.zero.val) (by simp [results, Tryd.results41, go_sem, S4.zero]) rfl ⟨rfl, ((Below.refl _ _).alloc (Nat.le_refl _) _).alloc (by simp) _⟩
set_option maxHeartbeats 1000000 in
theorem only_0 (x : Int) (r : Nat) (hx : 0 ≤ x ∧ x < 256) (hq : x / 64 = 0) (hr : x % 64 = (r : Int)) (w : World) :
    Calls Tryd.prog 41 #[.int .i64 x] w fun e w' => e = .returned (.agg #[.int .u64 (IntKind.u64.wrap (2 ^ r)), .int .u64 0, .int .u64 0, .int .u64 0]) ∧ Below w.heap.size w w' := by
  obtain ⟨h0, h1⟩ := hx
  have hr1 : r < 64 := by omega
  go_enter Tryd.func41, Tryd.ntmps41
  go_wp2
  exact bodyPost_ret (v := .agg #[.int .u64 (IntKind.u64.wrap (2 ^ r)), .int .u64 0, .int .u64 0, .int .u64 0]) (by simp [results, Tryd.results41, go_sem]) rfl ⟨rfl, ((Below.refl _ _).alloc (Nat.le_refl _) _).alloc (by simp) _⟩
set_option maxHeartbeats 1000000 in
theorem only_1 (x : Int) (r : Nat) (hx : 0 ≤ x ∧ x < 256) (hq : x / 64 = 1) (hr : x % 64 = (r : Int)) (w : World) :
    Calls Tryd.prog 41 #[.int .i64 x] w fun e w' => e = .returned (.agg #[.int .u64 0, .int .u64 (IntKind.u64.wrap (2 ^ r)), .int .u64 0, .int .u64 0]) ∧ Below w.heap.size w w' := by
  obtain ⟨h0, h1⟩ := hx
  have hr1 : r < 64 := by omega
  go_enter Tryd.func41, Tryd.ntmps41
  go_wp2
  exact bodyPost_ret (v := .agg #[.int .u64 0, .int .u64 (IntKind.u64.wrap (2 ^ r)), .int .u64 0, .int .u64 0]) (by simp [results, Tryd.results41, go_sem]) rfl ⟨rfl, ((Below.refl _ _).alloc (Nat.le_refl _) _).alloc (by simp) _⟩
set_option maxHeartbeats 1000000 in
theorem only_2 (x : Int) (r : Nat) (hx : 0 ≤ x ∧ x < 256) (hq : x / 64 = 2) (hr : x % 64 = (r : Int)) (w : World) :
    Calls Tryd.prog 41 #[.int .i64 x] w fun e w' => e = .returned (.agg #[.int .u64 0, .int .u64 0, .int .u64 (IntKind.u64.wrap (2 ^ r)), .int .u64 0]) ∧ Below w.heap.size w w' := by
  obtain ⟨h0, h1⟩ := hx
  have hr1 : r < 64 := by omega
  go_enter Tryd.func41, Tryd.ntmps41
  go_wp2
  exact bodyPost_ret (v := .agg #[.int .u64 0, .int .u64 0, .int .u64 (IntKind.u64.wrap (2 ^ r)), .int .u64 0]) (by simp [results, Tryd.results41, go_sem]) rfl ⟨rfl, ((Below.refl _ _).alloc (Nat.le_refl _) _).alloc (by simp) _⟩
set_option maxHeartbeats 1000000 in
theorem only_3 (x : Int) (r : Nat) (hx : 0 ≤ x ∧ x < 256) (hq : x / 64 = 3) (hr : x % 64 = (r : Int)) (w : World) :
    Calls Tryd.prog 41 #[.int .i64 x] w fun e w' => e = .returned (.agg #[.int .u64 0, .int .u64 0, .int .u64 0, .int .u64 (IntKind.u64.wrap (2 ^ r))]) ∧ Below w.heap.size w w' := by
  obtain ⟨h0, h1⟩ := hx
  have hr1 : r < 64 := by omega
  go_enter Tryd.func41, Tryd.ntmps41
  go_wp2
  exact bodyPost_ret (v := .agg #[.int .u64 0, .int .u64 0, .int .u64 0, .int .u64 (IntKind.u64.wrap (2 ^ r))]) (by simp [results, Tryd.results41, go_sem]) rfl ⟨rfl, ((Below.refl _ _).alloc (Nat.le_refl _) _).alloc (by simp) _⟩
theorem pow_bv (r : Nat) (hr : r < 64) : IntKind.u64.wrap (2 ^ r) = ((BitVec.twoPow 64 r).toNat : Int) := by
  rw [BitVec.toNat_twoPow]
  have h : (2 : Int) ^ r = ((2 ^ r : Nat) : Int) := by simp
  have h2 : 2 ^ r < 2 ^ 64 := Nat.pow_lt_pow_right (by omega) hr
  rw [h, Nat.mod_eq_of_lt h2]
  exact wrap_nat _ h2
theorem one_val (k q r : Nat) (hk : k = 64 * q + r) (hr : r < 64) :
    (S4.one k).val = .agg #[.int .u64 ((if q = 0 then BitVec.twoPow 64 r else 0#64).toNat : Int), .int .u64 ((if q = 1 then BitVec.twoPow 64 r else 0#64).toNat : Int), .int .u64 ((if q = 2 then BitVec.twoPow 64 r else 0#64).toNat : Int), .int .u64 ((if q = 3 then BitVec.twoPow 64 r else 0#64).toNat : Int)] := by
  have h1 : k / 64 = q := by omega
  have h2 : k % 64 = r := by omega
  unfold S4.val S4.one
  rw [h1, h2]
theorem c_only (x : Int) (w : World) :
    Calls Tryd.prog 41 #[.int .i64 x] w fun e w' => e = .returned (S4.only x).val ∧ Below w.heap.size w w' := by
  unfold S4.only
  by_cases h : 0 ≤ x ∧ x < 256
  · rw [if_pos h]
    obtain ⟨k, rfl⟩ : ∃ k : Nat, x = k := ⟨x.toNat, by omega⟩
    rw [Int.toNat_natCast, one_val k (k / 64) (k % 64) (by omega) (by omega)]
    have hr : k % 64 < 64 := by omega
    have hm : (k : Int) % 64 = ((k % 64 : Nat) : Int) := by omega
    rcases (by omega : k / 64 = 0 ∨ k / 64 = 1 ∨ k / 64 = 2 ∨ k / 64 = 3) with hq | hq | hq | hq
    · have := only_0 k (k % 64) h (by omega) hm w
      rw [pow_bv _ hr] at this
      rw [hq]
      exact this
    · have := only_1 k (k % 64) h (by omega) hm w
      rw [pow_bv _ hr] at this
      rw [hq]
      exact this
    · have := only_2 k (k % 64) h (by omega) hm w
      rw [pow_bv _ hr] at this
      rw [hq]
      exact this
    · have := only_3 k (k % 64) h (by omega) hm w
      rw [pow_bv _ hr] at this
      rw [hq]
      exact this
  · rw [if_neg h]
    exact only_no x (by omega) w

theorem sub_yes {s t : S4} (h : s.les t = S4.zero) : s.sub t = true := by
  unfold S4.sub
  rw [decide_eq_true_iff]
  exact (ints_zero_iff _).1 h
theorem sub_no {s t : S4} (h : s.les t ≠ S4.zero) : s.sub t = false := by
  unfold S4.sub
  rw [decide_eq_false_iff_not]
  exact fun k => h ((ints_zero_iff _).2 k)
theorem box1 (s : S4) (w : World) : Blk (w.alloc (.cells #[.int .u64 (s.a.toNat : Int), .int .u64 (s.b.toNat : Int), .int .u64 (s.c.toNat : Int), .int .u64 (s.d.toNat : Int)] 29)) w.heap.size s.cs 29 := Blk.new w s.cs _
set_option maxHeartbeats 1000000 in
theorem c_sub (s t : S4) (w : World) :
    Calls Tryd.prog 36 #[s.val, t.val] w fun e w' => e = .returned (.bool (s.sub t)) ∧ Below w.heap.size w w' := by
  have hb := up_trans (up_alloc w (.cells s.cs.toArray 29)) (up_alloc (w.alloc (.cells s.cs.toArray 29)) (.cells t.cs.toArray 29))
  by_cases h : s.les t = S4.zero
  · have hq := run_zero h
    rw [sub_yes h]
    clear h
    go_enter Tryd.func36, Tryd.ntmps36
    go_wp2_with (first | (go_at_call 43; refine (c_less s t _).mono ?_; rintro e w' ⟨rfl, hbl⟩) | rw [hq])
    go_ret
    exact ⟨rfl, up_trans hb hbl⟩
  · have hq := run_some h
    rw [sub_no h]
    clear h
    go_enter Tryd.func36, Tryd.ntmps36
    go_wp2_with (first | (go_at_call 43; refine (c_less s t _).mono ?_; rintro e w' ⟨rfl, hbl⟩) | rw [hq])
    go_ret
    exact ⟨rfl, up_trans hb hbl⟩

theorem has_only {s : S4} {x : Int} : (s.int (S4.only x) = S4.zero) ↔ hasL s.ints x = false := by
  rw [ints_zero_iff, int_ints]
  have e : (rise fun i => s.has i && (S4.only x).has i) = rise fun i => s.has i && decide ((i : Int) = x) := rise_congr fun i hi => by rw [only_has x i hi]
  rw [e, List.length_eq_zero_iff, List.eq_nil_iff_forall_not_mem]
  unfold hasL
  rw [decide_eq_false_iff_not]
  constructor
  · intro h hx
    obtain ⟨i, h1, h2, h3⟩ := (mem_rise _ _).1 hx
    exact h x ((mem_rise _ _).2 ⟨i, h1, by simp [h2, h3], h3⟩)
  · intro h y hy
    obtain ⟨i, h1, h2, h3⟩ := (mem_rise _ _).1 hy
    simp at h2
    exact h ((mem_rise _ _).2 ⟨i, h1, h2.1, h2.2⟩)
set_option maxHeartbeats 1000000 in
theorem c_has (s : S4) (x : Int) (w : World) :
    Calls Tryd.prog 27 #[s.val, .int .i64 x] w fun e w' => e = .returned (.bool (hasL s.ints x)) ∧ Below w.heap.size w w' := by
  have hb0 := up_alloc w (.cells s.cs.toArray 29)
  have hB := box1 s w
  have cO := grown_call (w := w.alloc (.cells s.cs.toArray 29)) fun W _ => c_only x W
  have cI := grown_call (w := w.alloc (.cells s.cs.toArray 29)) fun W _ => c_inter s (S4.only x) W
  have k0 := cell_regrown (hB.cell 0 _ rfl)
  have k1 := cell_regrown (hB.cell 1 _ rfl)
  have k2 := cell_regrown (hB.cell 2 _ rfl)
  have k3 := cell_regrown (hB.cell 3 _ rfl)
  by_cases h : s.int (S4.only x) = S4.zero
  · have hq := run_zero h
    rw [has_only.1 h]
    clear h hB
    go_enter Tryd.func27, Tryd.ntmps27
    go_wp2_with fail
    refine wp_region_quiet_below (by kernel_rfl) (by kernel_rfl) ?_
    repeat (go_big_quiet_step (first | exact cO _ _ | exact cI _ _ | rw [hq]))
    refine wpQuiet_nil ?_
    intro _ hw'
    obtain ⟨⟨dq, osq⟩, hw''⟩ := hw'
    subst hw''
    go_wp2
    go_ret
    exact ⟨rfl, up_trans hb0 (below_regrown _ dq osq)⟩
  · have hq := run_some h
    rw [show hasL s.ints x = true from (Bool.eq_false_or_eq_true _).resolve_right fun k => h (has_only.2 k)]
    clear h hB
    go_enter Tryd.func27, Tryd.ntmps27
    go_wp2_with fail
    refine wp_region_quiet_below (by kernel_rfl) (by kernel_rfl) ?_
    repeat (go_big_quiet_step (first | exact cO _ _ | exact cI _ _ | rw [hq]))
    refine wpQuiet_nil ?_
    intro _ hw'
    obtain ⟨⟨dq, osq⟩, hw''⟩ := hw'
    subst hw''
    go_wp2
    go_ret
    exact ⟨rfl, up_trans hb0 (below_regrown _ dq osq)⟩

/-! In the region that ends with a store into the result's cell: the box reads as it did. -/
def Keep (r : Nat) (w W : World) : Prop := Only (· = r) w W ∧ ∃ y, Blk W r (S4.cs y) 29
theorem keep_next {r : Nat} {w W W' : World} (h : Keep r w W) (k : Below W.heap.size W W') : Keep r w W' := ⟨h.1.below_trans k, by
  obtain ⟨y, hR⟩ := h.2
  exact ⟨y, hR.up k hR.lt⟩⟩
theorem keep_put {r : Nat} {w W : World} (h : Keep r w W) (z : S4) :
    Keep r w ((((W.setCell ⟨r, 0, none⟩ (.int .u64 z.a.toNat)).setCell ⟨r, 1, none⟩ (.int .u64 z.b.toNat)).setCell ⟨r, 2, none⟩ (.int .u64 z.c.toNat)).setCell ⟨r, 3, none⟩ (.int .u64 z.d.toNat)) := ⟨(((h.1.put _ _).put _ _).put _ _).put _ _, z, by
  obtain ⟨y, hR⟩ := h.2
  exact (((hR.set 0 _).set 1 _).set 2 _).set 3 _⟩
theorem kp_S {r b : Nat} {w W : World} {s : S4} (hB : Blk w b s.cs 29) (hr : b ≠ r) (h : Keep r w W) :
    Keep r w W ∧ W.cell? ⟨b, 0, none⟩ = some (.int .u64 s.a.toNat) ∧ W.cell? ⟨b, 1, none⟩ = some (.int .u64 s.b.toNat) ∧ W.cell? ⟨b, 2, none⟩ = some (.int .u64 s.c.toNat) ∧ W.cell? ⟨b, 3, none⟩ = some (.int .u64 s.d.toNat) :=
  ⟨h, (hB.only h.1 hr).cell 0 _ rfl, (hB.only h.1 hr).cell 1 _ rfl, (hB.only h.1 hr).cell 2 _ rfl, (hB.only h.1 hr).cell 3 _ rfl⟩

set_option maxHeartbeats 1000000 in
theorem c_add (s : S4) (x : Int) (w : World) :
    Calls Tryd.prog 28 #[s.val, .int .i64 x] w fun e w' => e = .returned (s.uni (S4.only x)).val ∧ Below w.heap.size w w' := by
  have hb0 := up_trans (up_alloc w (.cells s.cs.toArray 29)) (up_alloc (w.alloc (.cells s.cs.toArray 29)) (.cells S4.zero.cs.toArray 29))
  have hB := (box1 s w).alloc (.cells S4.zero.cs.toArray 29)
  have hR := Blk.new' (w.alloc (.cells s.cs.toArray 29)) S4.zero.cs 29 (w.heap.size + 1) (by simp)
  have hne : w.heap.size ≠ w.heap.size + 1 := by omega
  generalize hw1 : (w.alloc (.cells s.cs.toArray 29)).alloc (.cells S4.zero.cs.toArray 29) = w1 at hB hb0 hR
  have hz1 : w1.heap.size = w.heap.size + 2 := by rw [← hw1]; simp
  have HZ := Lib.hid hz1
  have HW := Lib.hid (show (w.alloc (.cells s.cs.toArray 29)).alloc (.cells #[.int .u64 0, .int .u64 0, .int .u64 0, .int .u64 0] 29) = w1 from hw1)
  have K0 : Keep (w.heap.size + 1) w1 w1 := ⟨Only.refl _ _, _, hR⟩
  clear hw1 hz1 hR
  go_enter Tryd.func28, Tryd.ntmps28
  go_wp2_with fail
  rw [HW.out]
  go_region_held3 (fun W => Keep (w.heap.size + 1) w1 W ∧ W.cell? ⟨w.heap.size, 0, none⟩ = some (.int .u64 s.a.toNat) ∧ W.cell? ⟨w.heap.size, 1, none⟩ = some (.int .u64 s.b.toNat) ∧ W.cell? ⟨w.heap.size, 2, none⟩ = some (.int .u64 s.c.toNat) ∧ W.cell? ⟨w.heap.size, 3, none⟩ = some (.int .u64 s.d.toNat))
    (first | exact kp_S hB hne (keep_next K0 (up_drewN _ 1)) | exact kp_S hB hne (keep_next (And.left (by assumption)) (by assumption)) | exact kp_S hB hne (keep_put (And.left (by assumption)) _))
    (first
      | (go_at_call 41; refine (c_only x _).mono ?_; rintro e w' ⟨rfl, hbo⟩)
      | (go_at_call 42; refine (c_union s (S4.only x) _).mono ?_; rintro e w4 ⟨rfl, hbu⟩; have hk4 := keep_next (And.left (by assumption)) hbu; obtain ⟨ho4, y4, hR4⟩ := hk4; have r0 := hR4.cell 0 _ rfl; have r1 := hR4.cell 1 _ rfl; have r2 := hR4.cell 2 _ rfl; have r3 := hR4.cell 3 _ rfl; have g0 := hR4.free 0; have g1 := hR4.free 1; have g2 := hR4.free 2; have g3 := hR4.free 3))
  go_wp2
  refine bodyPost_ret (v := (s.uni (S4.only x)).val) (by simp [results, Tryd.results28, go_sem, r0, r1, r2, r3]) rfl ⟨rfl, ?_⟩
  have hl : Keep (w.heap.size + 1) w1 _ := And.left (by assumption)
  have hz := HZ.out
  exact hb0.trans (hl.1.toBelow (by omega) (fun k e => by omega))

set_option maxHeartbeats 1000000 in
theorem c_drop (s : S4) (x : Int) (w : World) :
    Calls Tryd.prog 32 #[s.val, .int .i64 x] w fun e w' => e = .returned (s.les (S4.only x)).val ∧ Below w.heap.size w w' := by
  have hb0 := up_trans (up_alloc w (.cells s.cs.toArray 29)) (up_alloc (w.alloc (.cells s.cs.toArray 29)) (.cells S4.zero.cs.toArray 29))
  have hB := (box1 s w).alloc (.cells S4.zero.cs.toArray 29)
  have hR := Blk.new' (w.alloc (.cells s.cs.toArray 29)) S4.zero.cs 29 (w.heap.size + 1) (by simp)
  have hne : w.heap.size ≠ w.heap.size + 1 := by omega
  generalize hw1 : (w.alloc (.cells s.cs.toArray 29)).alloc (.cells S4.zero.cs.toArray 29) = w1 at hB hb0 hR
  have hz1 : w1.heap.size = w.heap.size + 2 := by rw [← hw1]; simp
  have HZ := Lib.hid hz1
  have HW := Lib.hid (show (w.alloc (.cells s.cs.toArray 29)).alloc (.cells #[.int .u64 0, .int .u64 0, .int .u64 0, .int .u64 0] 29) = w1 from hw1)
  have K0 : Keep (w.heap.size + 1) w1 w1 := ⟨Only.refl _ _, _, hR⟩
  clear hw1 hz1 hR
  go_enter Tryd.func32, Tryd.ntmps32
  go_wp2_with fail
  rw [HW.out]
  go_region_held3 (fun W => Keep (w.heap.size + 1) w1 W ∧ W.cell? ⟨w.heap.size, 0, none⟩ = some (.int .u64 s.a.toNat) ∧ W.cell? ⟨w.heap.size, 1, none⟩ = some (.int .u64 s.b.toNat) ∧ W.cell? ⟨w.heap.size, 2, none⟩ = some (.int .u64 s.c.toNat) ∧ W.cell? ⟨w.heap.size, 3, none⟩ = some (.int .u64 s.d.toNat))
    (first | exact kp_S hB hne (keep_next K0 (up_drewN _ 1)) | exact kp_S hB hne (keep_next (And.left (by assumption)) (by assumption)) | exact kp_S hB hne (keep_put (And.left (by assumption)) _))
    (first
      | (go_at_call 41; refine (c_only x _).mono ?_; rintro e w' ⟨rfl, hbo⟩)
      | (go_at_call 43; refine (c_less s (S4.only x) _).mono ?_; rintro e w4 ⟨rfl, hbu⟩; have hk4 := keep_next (And.left (by assumption)) hbu; obtain ⟨ho4, y4, hR4⟩ := hk4; have r0 := hR4.cell 0 _ rfl; have r1 := hR4.cell 1 _ rfl; have r2 := hR4.cell 2 _ rfl; have r3 := hR4.cell 3 _ rfl; have g0 := hR4.free 0; have g1 := hR4.free 1; have g2 := hR4.free 2; have g3 := hR4.free 3))
  go_wp2
  refine bodyPost_ret (v := (s.les (S4.only x)).val) (by simp [results, Tryd.results32, go_sem, r0, r1, r2, r3]) rfl ⟨rfl, ?_⟩
  have hl : Keep (w.heap.size + 1) w1 _ := And.left (by assumption)
  have hz := HZ.out
  exact hb0.trans (hl.1.toBelow (by omega) (fun k e => by omega))
end Go.Proofs.YtlplfnfaoaomkaaDoor

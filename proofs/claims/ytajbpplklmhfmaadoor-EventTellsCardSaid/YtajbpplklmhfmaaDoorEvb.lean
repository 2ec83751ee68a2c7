/- Package event: letter, most, below, ranged, own, Check. -/
import Derived.Test.YtajbpplklmhfmaaDoorEva
import Derived.Test.YtajbpplklmhfmaaDoorRows
import Derived.Test.YtajbpplklmhfmaaDoorM
import Derived.WalkKit
import Derived.WalkSpells
import Derived.LoopTactic
import Derived.BigRegion
import Derived.BigQuiet
import Derived.Deep.QuietTactic
import Derived.Lib.QuietBelow
import Derived.Lib.Hide
import Derived.IntWalk
import Derived.Laws.StructEq
import Derived.Deep.CutBlock
namespace Go.Proofs.YtajbpplklmhfmaaDoor
open Go.RowKit

theorem ltr_1 : evLtr 1 = [98] := rfl
theorem ltr_c (k : Int) (h : k = 2 ∨ k = 3 ∨ k = 4) : evLtr k = [99] := by
  unfold evLtr
  rw [if_neg (by omega), if_pos h]
theorem ltr_n (k : Int) (h1 : k ≠ 1) (h : ¬ (k = 2 ∨ k = 3 ∨ k = 4)) : evLtr k = [] := by
  unfold evLtr
  rw [if_neg h1, if_neg h]
set_option maxHeartbeats 1000000 in
theorem c_evltr (k : Int) (w : World) : Calls Tryd.prog 33 #[.int .i64 k] w fun e w' => e = .returned (.string ⟨(evLtr k).toArray⟩) ∧ w = w' := by
  by_cases h1 : k = 1
  · subst h1
    rw [ltr_1]
    go_enter Tryd.func33, Tryd.ntmps33
    go_wp2
    go_ret
    exact ⟨rfl, rfl⟩
  · by_cases h : k = 2 ∨ k = 3 ∨ k = 4
    · rw [ltr_c k h]
      rcases h with rfl | rfl | rfl
      all_goals
        go_enter Tryd.func33, Tryd.ntmps33
        go_wp2
        go_ret
        exact ⟨rfl, rfl⟩
    · rw [ltr_n k h1 h]
      have t1 : (k == 1) = false := beq_eq_false_iff_ne.2 h1
      have t2 : (k == 2) = false := beq_eq_false_iff_ne.2 fun e => h (.inl e)
      have t3 : (k == 3) = false := beq_eq_false_iff_ne.2 fun e => h (.inr (.inl e))
      have t4 : (k == 4) = false := beq_eq_false_iff_ne.2 fun e => h (.inr (.inr e))
      clear h h1
      go_enter Tryd.func33, Tryd.ntmps33
      go_wp2
      go_ret
      exact ⟨rfl, rfl⟩
set_option maxHeartbeats 400000 in
theorem c_evmost (c : UInt8) (hc : c = 98 ∨ c = 99) (w : World) : Calls Tryd.prog 36 #[.string ⟨#[c]⟩] w fun e w' => e = .returned (.int .i64 8) ∧ w = w' := by
  rcases hc with rfl | rfl
  all_goals
    go_enter Tryd.func36, Tryd.ntmps36
    go_wp2
    go_ret
    exact ⟨rfl, rfl⟩
set_option maxHeartbeats 400000 in
theorem c_evbelow (n m : Int) (w : World) : Calls Tryd.prog 35 #[.int .i64 n, .int .i64 m] w fun e w' => e = .returned (.bool (evIn n m)) ∧ w = w' := by
  by_cases h : 0 ≤ n
  · go_enter Tryd.func35, Tryd.ntmps35
    go_wp2
    go_ret
    exact ⟨ret_bool (by simp [evIn, h]), rfl⟩
  · go_enter Tryd.func35, Tryd.ntmps35
    go_wp2
    go_ret
    exact ⟨ret_bool (by simp [evIn]; omega), rfl⟩

theorem rng_low {k o h n : Int} {c : UInt8} (hl : evLtr k = [c]) : evRng k o h n = evIn o 8 := by
  unfold evRng
  rw [if_neg (by rw [hl]; exact List.cons_ne_nil _ _)]
theorem rng_high {k o h n : Int} (hl : evLtr k = []) : evRng k o h n = (evIn h 16 && evIn n 6) := by
  unfold evRng
  rw [if_pos hl]
set_option maxHeartbeats 1000000 in
theorem c_evrng (k o h n : Int) (w : World) : Calls Tryd.prog 24 #[.agg #[.int .i64 k, .int .i64 o, .int .i64 h, .int .i64 n]] w fun e w' => e = .returned (.bool (evRng k o h n)) ∧ Below w.heap.size w w' := by
  have hb := up_alloc w (.cells #[.int .i64 k, .int .i64 o, .int .i64 h, .int .i64 n] 27)
  have HB := Blk.new w [.int .i64 k, .int .i64 o, .int .i64 h, .int .i64 n] 27
  have k1 := HB.cell 1 _ rfl
  have HBE := Lib.hid hb
  have CL := Lib.hid (fun W => c_evltr k W)
  rcases ltr_ways k with ⟨hl, _⟩ | ⟨hl, _⟩ | ⟨hl, _⟩
  · rw [rng_low hl]
    rw [hl] at CL
    clear HB hb hl
    go_enter Tryd.func24, Tryd.ntmps24
    go_wp2_with (go_at_call 33; refine (CL.out _).mono ?_; rintro e w' ⟨rfl, rfl⟩)
    go_quiet ((first | (go_at_call 36; exact quiet_left (c_evmost 98 (.inl rfl) _)) | (go_at_call 35; exact quiet_left (c_evbelow _ _ _))))
    go_wp2
    go_ret
    exact ⟨rfl, HBE.out.trans ((up_drewN _ _).mono HBE.out.size)⟩
  · rw [rng_low hl]
    rw [hl] at CL
    clear HB hb hl
    go_enter Tryd.func24, Tryd.ntmps24
    go_wp2_with (go_at_call 33; refine (CL.out _).mono ?_; rintro e w' ⟨rfl, rfl⟩)
    go_quiet ((first | (go_at_call 36; exact quiet_left (c_evmost 99 (.inr rfl) _)) | (go_at_call 35; exact quiet_left (c_evbelow _ _ _))))
    go_wp2
    go_ret
    exact ⟨rfl, HBE.out.trans ((up_drewN _ _).mono HBE.out.size)⟩
  · rw [rng_high hl]
    rw [hl] at CL
    clear HB hb hl k1
    cases hi : evIn h 16
    all_goals
      go_enter Tryd.func24, Tryd.ntmps24
      go_wp2_with (first | (go_at_call 33; refine (CL.out _).mono ?_; rintro e w' ⟨rfl, rfl⟩) | (go_at_call 35; refine (c_evbelow _ _ _).mono ?_; rintro e w' ⟨rfl, rfl⟩))
      go_ret
      exact ⟨rfl, HBE.out⟩

theorem oo_low {k o : Int} {c : UInt8} (hl : evLtr k = [c]) : evOo k o = o := by
  unfold evOo
  rw [if_neg (by rw [hl]; exact List.cons_ne_nil _ _)]
theorem oh_low {k o : Int} {c : UInt8} (hl : evLtr k = [c]) : evOh k o = 0 := by
  unfold evOh
  rw [if_neg (by rw [hl]; exact List.cons_ne_nil _ _)]
theorem oo_high {k o : Int} (hl : evLtr k = []) : evOo k o = 0 := by
  unfold evOo
  rw [if_pos hl]
theorem oh_high {k o : Int} (hl : evLtr k = []) : evOh k o = o := by
  unfold evOh
  rw [if_pos hl]
set_option maxHeartbeats 1000000 in
theorem c_evown (k o h n : Int) (w : World) : Calls Tryd.prog 25 #[.agg #[.int .i64 k, .int .i64 o, .int .i64 h, .int .i64 n]] w fun e w' => e = .returned (.agg #[.int .i64 k, .int .i64 (evOo k o), .int .i64 (evOh k h), .int .i64 (evOh k n)]) ∧ Below w.heap.size w w' := by
  have up : ∀ a b c d, Below w.heap.size w (((((w.alloc (.cells #[.int .i64 k, .int .i64 o, .int .i64 h, .int .i64 n] 27)).alloc (.cells #[.int .i64 a, .int .i64 b, .int .i64 c, .int .i64 d] 27))))) := fun a b c d => ((Below.refl _ w).alloc (Nat.le_refl _) _).alloc (by simp) _
  have CL := Lib.hid (fun W => c_evltr k W)
  rcases ltr_ways k with ⟨hl, _⟩ | ⟨hl, _⟩ | ⟨hl, _⟩
  · rw [oo_low hl, oh_low hl, oh_low hl]
    rw [hl] at CL
    clear hl
    go_enter Tryd.func25, Tryd.ntmps25
    go_wp2_with (go_at_call 33; refine (CL.out _).mono ?_; rintro e w' ⟨rfl, rfl⟩)
    refine bodyPost_ret (v := .agg #[.int .i64 k, .int .i64 o, .int .i64 0, .int .i64 0]) (by simp [results, Tryd.results25, go_sem]) rfl ⟨rfl, up _ _ _ _⟩
  · rw [oo_low hl, oh_low hl, oh_low hl]
    rw [hl] at CL
    clear hl
    go_enter Tryd.func25, Tryd.ntmps25
    go_wp2_with (go_at_call 33; refine (CL.out _).mono ?_; rintro e w' ⟨rfl, rfl⟩)
    refine bodyPost_ret (v := .agg #[.int .i64 k, .int .i64 o, .int .i64 0, .int .i64 0]) (by simp [results, Tryd.results25, go_sem]) rfl ⟨rfl, up _ _ _ _⟩
  · rw [oo_high hl, oh_high hl, oh_high hl]
    rw [hl] at CL
    clear hl
    go_enter Tryd.func25, Tryd.ntmps25
    go_wp2_with (go_at_call 33; refine (CL.out _).mono ?_; rintro e w' ⟨rfl, rfl⟩)
    refine bodyPost_ret (v := .agg #[.int .i64 k, .int .i64 0, .int .i64 h, .int .i64 n]) (by simp [results, Tryd.results25, go_sem]) rfl ⟨rfl, up _ _ _ _⟩

theorem eq_ev (d : Nat) (k o h n k' o' h' n' : Int) (w : World) : (Op.equalIn (d + 2) 27 (.agg #[.int .i64 k, .int .i64 o, .int .i64 h, .int .i64 n]) (.agg #[.int .i64 k', .int .i64 o', .int .i64 h', .int .i64 n'])).run Tryd.prog w = .ok ((k == k') && (o == o') && (h == h') && (n == n')) w := by
  have hS : Tryd.prog.underlying 27 = some (.struct (Tryd.prog.fieldsOf 27)) := by kernel_rfl
  have hp : Tryd.prog.stoodInHeld 27 = false := by kernel_rfl
  have p0 : ∀ (a b c e : Int) w, (part 3 #[.int .i64 a, .int .i64 b, .int .i64 c, .int .i64 e] 0).run Tryd.prog w = .ok (.int .i64 a) w := fun a b c e w => by kernel_rfl
  have p1 : ∀ (a b c e : Int) w, (part 3 #[.int .i64 a, .int .i64 b, .int .i64 c, .int .i64 e] 1).run Tryd.prog w = .ok (.int .i64 b) w := fun a b c e w => by kernel_rfl
  have p2 : ∀ (a b c e : Int) w, (part 3 #[.int .i64 a, .int .i64 b, .int .i64 c, .int .i64 e] 2).run Tryd.prog w = .ok (.int .i64 c) w := fun a b c e w => by kernel_rfl
  have p3 : ∀ (a b c e : Int) w, (part 3 #[.int .i64 a, .int .i64 b, .int .i64 c, .int .i64 e] 3).run Tryd.prog w = .ok (.int .i64 e) w := fun a b c e w => by kernel_rfl
  have q : ∀ (x y : Int) w, (Op.equalIn (d + 1) 3 (.int .i64 x) (.int .i64 y)).run Tryd.prog w = .ok (x == y) w := fun x y w => run_equalIn_int w d _ .i64 .i64 x y Tryd.underlying3
  rw [show d + 2 = (d + 1) + 1 from rfl, run_equalIn_agg w (d + 1) 27 _ _ hS hp]
  simp only [Program.fieldsOf, Tryd.underlying27]
  have a0 := p0 k o h n
  have a1 := p1 k o h n
  have a2 := p2 k o h n
  have a3 := p3 k o h n
  have b0 := p0 k' o' h' n'
  have b1 := p1 k' o' h' n'
  have b2 := p2 k' o' h' n'
  have b3 := p3 k' o' h' n'
  clear p0 p1 p2 p3
  generalize (#[.int .i64 k, .int .i64 o, .int .i64 h, .int .i64 n] : Array Value) = X at a0 a1 a2 a3 ⊢
  generalize (#[.int .i64 k', .int .i64 o', .int .i64 h', .int .i64 n'] : Array Value) = Y at b0 b1 b2 b3 ⊢
  cases e0 : (k == k') <;> cases e1 : (o == o') <;> cases e2 : (h == h') <;> cases e3 : (n == n') <;> simp [Op.eqFields, a0, a1, a2, a3, b0, b1, b2, b3, q, e0, e1, e2, e3]
theorem neq_ev (k o h n k' o' h' n' : Int) (w : World) : (binOp .neq 27 (.agg #[.int .i64 k, .int .i64 o, .int .i64 h, .int .i64 n]) (.agg #[.int .i64 k', .int .i64 o', .int .i64 h', .int .i64 n'])).run Tryd.prog w = .ok (.bool (!((k == k') && (o == o') && (h == h') && (n == n')))) w := by
  rw [run_neq_struct, eq_ev 9998]
  rfl
theorem eql_ev (k o h n k' o' h' n' : Int) (w : World) : (binOp .eql 27 (.agg #[.int .i64 k, .int .i64 o, .int .i64 h, .int .i64 n]) (.agg #[.int .i64 k', .int .i64 o', .int .i64 h', .int .i64 n'])).run Tryd.prog w = .ok (.bool ((k == k') && (o == o') && (h == h') && (n == n'))) w := by
  rw [run_eql_struct, eq_ev 9998]
  rfl

set_option maxHeartbeats 1000000 in
theorem c_evchk (k o h n : Int) (w : World) : Calls Tryd.prog 8 #[.agg #[.int .i64 k, .int .i64 o, .int .i64 h, .int .i64 n]] w fun e w' => e = .returned (.int .i64 (evChk k o h n)) ∧ Below w.heap.size w w' := by
  have HU := Lib.hid (up_alloc w (.cells #[.int .i64 k, .int .i64 o, .int .i64 h, .int .i64 n] 27))
  have HB := Lib.hid (Blk.new w [.int .i64 k, .int .i64 o, .int .i64 h, .int .i64 n] 27)
  by_cases h1 : k < 1
  · rw [evChk_out (.inl h1)]
    clear HB
    go_enter Tryd.func8, Tryd.ntmps8
    go_wp2
    go_ret
    exact ⟨rfl, HU.out⟩
  · by_cases h8 : 8 < k
    · rw [evChk_out (.inr h8)]
      clear HB
      go_enter Tryd.func8, Tryd.ntmps8
      go_wp2
      go_ret
      exact ⟨rfl, HU.out⟩
    · have CR := Lib.hid (c_evrng k o h n (w.alloc (.cells #[.int .i64 k, .int .i64 o, .int .i64 h, .int .i64 n] 27)))
      have hk : ¬ (k < 1 ∨ 8 < k) := by omega
      cases hr : evRng k o h n
      · have HX := Lib.hid (evChk_rng hk hr)
        rw [hr] at CR
        clear hk hr HB
        go_enter Tryd.func8, Tryd.ntmps8
        go_wp2_with fail
        refine CR.out.mono ?_; rintro e w2 ⟨rfl, hb2⟩
        go_wp2
        go_ret
        exact ⟨ret_int HX.out.symm, up_trans HU.out hb2⟩
      · obtain ⟨b, hb⟩ : ∃ b, evOff k o h n = b := ⟨_, rfl⟩
        have HX := Lib.hid (evChk_form hk hr b hb)
        have hn := fun W => neq_ev k o h n k (evOo k o) (evOh k h) (evOh k n) W
        have hb' : (!((k == k) && (o == evOo k o) && (h == evOh k h) && (n == evOh k n))) = b := hb
        rw [hb'] at hn
        rw [hr] at CR
        have CO := Lib.hid (fun W => c_evown k o h n W)
        clear hk hr hb hb'
        generalize evOo k o = o1 at hn CO
        generalize evOh k h = i1 at hn CO
        generalize evOh k n = n1 at hn CO
        go_enter Tryd.func8, Tryd.ntmps8
        go_wp2_with fail
        refine CR.out.mono ?_; rintro e w2 ⟨rfl, hb2⟩
        have HB2 := HB.out.up hb2 HB.out.lt
        have HU2 := Lib.hid (up_trans HU.out hb2)
        have cO := grown_call (w := w2) fun W _ => CO.out W
        have i0 := cell_regrown (HB2.cell 0 _ rfl)
        have i1 := cell_regrown (HB2.cell 1 _ rfl)
        have i2 := cell_regrown (HB2.cell 2 _ rfl)
        have i3 := cell_regrown (HB2.cell 3 _ rfl)
        clear HB2 HB HU CR CO hb2
        go_wp2_with fail
        refine wp_region_quiet_below (by kernel_rfl) (by kernel_rfl) ?_
        repeat (go_big_quiet_step (with_reducible exact cO _ _))
        refine wpQuiet_nil ?_
        intro _ hw'
        obtain ⟨⟨dq, osq⟩, hw''⟩ := hw'
        have HQ := Lib.hid (up_trans HU2.out (hw'' ▸ below_regrown w2 dq osq))
        clear hw'' i0 i1 i2 i3 cO hn
        cases b
        · go_wp2
          go_ret
          exact ⟨ret_int HX.out.symm, HQ.out⟩
        · go_wp2
          go_ret
          exact ⟨ret_int HX.out.symm, HQ.out⟩
end Go.Proofs.YtajbpplklmhfmaaDoor

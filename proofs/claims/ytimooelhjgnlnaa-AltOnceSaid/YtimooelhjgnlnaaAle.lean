/- AltOnce, walked. -/
import Derived.Test.YtimooelhjgnlnaaAld
namespace Go.Proofs.Ytimooelhjgnlnaa
open Go.RowKit

/-- The state after some are withdrawn. -/
def AlS (n j p q0 q1 q2 q3 : Int) : Prop := (j = n - 1 ∧ q0 = 0 ∧ q1 = 0 ∧ q2 = 0 ∧ q3 = 0) ∨ (j ≠ n - 1 ∧ q0 = 3 ∧ q1 = n ∧ q2 = j ∧ q3 = p)
theorem put_any (n d : Int) (h1 : 1 ≤ n) (h6 : n ≤ 6) (d0 : 0 ≤ d) (dn : d < n) : ∃ md : Int, (d + 1 ≠ n → md = 1) ∧ (d + 1 = n → md = 2) ∧ alFine md n (d + 1) 0 = true ∧ ∀ w, Calls Try.prog 6 #[.agg #[.int .i64 1, .int .i64 n, .int .i64 d, .int .i64 0]] w fun e w' => e = .returned (.tuple #[.agg #[.int .i64 md, .int .i64 n, .int .i64 (d + 1), .int .i64 0], .int .i64 d, .int .i64 0]) ∧ Below w.heap.size w w' := by
  by_cases hd : d + 1 = n
  · refine ⟨2, fun h => absurd hd h, fun _ => rfl, ?_, fun w => c_alput2 n d h1 h6 d0 dn hd w⟩
    rw [hd]
    exact stand_fine h1 h6
  · exact ⟨1, fun _ => rfl, fun h => absurd h hd, put_fine h1 h6 (by omega) (by omega), fun w => c_alput1 n d h1 h6 d0 dn hd w⟩
theorem take_any (n p : Int) (h1 : 1 ≤ n) (h6 : n ≤ 6) (p0 : 0 ≤ p) (pn : p < n) : ∃ q0 q1 q2 q3 : Int, AlS n 0 p q0 q1 q2 q3 ∧ ∀ w, Calls Try.prog 8 #[.agg #[.int .i64 2, .int .i64 n, .int .i64 n, .int .i64 0], .int .i64 p] w fun e w' => e = .returned (.tuple #[.agg #[.int .i64 q0, .int .i64 q1, .int .i64 q2, .int .i64 q3], .int .i64 0]) ∧ Below w.heap.size w w' := by
  by_cases hd : 0 = n - 1
  · exact ⟨0, 0, 0, 0, .inl ⟨hd, rfl, rfl, rfl, rfl⟩, fun w => c_altake0 n p h1 h6 p0 pn hd w⟩
  · exact ⟨3, n, 0, p, .inr ⟨hd, rfl, rfl, rfl, rfl⟩, fun w => c_altake1 n p h1 h6 p0 pn hd w⟩
theorem wd_any (n d p : Int) (h1 : 1 ≤ n) (h6 : n ≤ 6) (p0 : 0 ≤ p) (pn : p < n) (d0 : 0 ≤ d) (dn : d < n - 1) : ∃ q0 q1 q2 q3 : Int, AlS n (d + 1) p q0 q1 q2 q3 ∧ ∀ w, Calls Try.prog 9 #[.agg #[.int .i64 3, .int .i64 n, .int .i64 d, .int .i64 p]] w fun e w' => e = .returned (.tuple #[.agg #[.int .i64 q0, .int .i64 q1, .int .i64 q2, .int .i64 q3], .int .i64 (alPlace n d p), .int .i64 0]) ∧ Below w.heap.size w w' := by
  by_cases hd : d + 1 = n - 1
  · exact ⟨0, 0, 0, 0, .inl ⟨hd, rfl, rfl, rfl, rfl⟩, fun w => c_alwd0 n d p h1 h6 p0 pn d0 dn hd w⟩
  · exact ⟨3, n, d + 1, p, .inr ⟨hd, rfl, rfl, rfl, rfl⟩, fun w => c_alwd1 n d p h1 h6 p0 pn d0 dn hd w⟩
theorem Blk.set4 {w : World} {b : Nat} {x0 x1 x2 x3 : Value} {t : TypeId} (h : Blk w b [x0, x1, x2, x3] t) (y0 y1 y2 y3 : Value) : Blk ((((w.setCell ⟨b, 0, none⟩ y0).setCell ⟨b, 1, none⟩ y1).setCell ⟨b, 2, none⟩ y2).setCell ⟨b, 3, none⟩ y3) b [y0, y1, y2, y3] t :=
  (((h.set 0 y0).set 1 y1).set 2 y2).set 3 y3

set_option maxRecDepth 100000 in
set_option maxHeartbeats 4000000 in
theorem l_once (a b : Int) (a0 : 0 ≤ a) (a1 : a ≤ 255) (b0 : 0 ≤ b) (b1 : b ≤ 255) (w : World) :
    Calls Try.prog 3 #[.int .u8 a, .int .u8 b] w fun e w' => e = .returned (.bool true) ∧ Below w.heap.size w w' := by
  have hr0 := Int.emod_nonneg a (show (6 : Int) ≠ 0 by omega)
  have hr1 := Int.emod_lt_of_pos a (show (0 : Int) < 6 by omega)
  have hE := eql_al 0 0 0 0 0 0 0 0
  simp only [beq_self_eq_true, Bool.and_self] at hE
  go_enter Try.func3, Try.ntmps3
  go_upto_region 2 with fail
  generalize a % 6 = r at hr0 hr1 ⊢
  obtain ⟨n, hn⟩ : ∃ n : Int, 1 + r = n := ⟨_, rfl⟩
  rw [hn]
  have hn0 : 1 ≤ n := by omega
  have hn1 : n ≤ 6 := by omega
  have hnz : (n == 0) = false := by simp; omega
  clear hn hr0 hr1
  have hp0 := Int.emod_nonneg b (show n ≠ 0 by omega)
  have hp1 := Int.emod_lt_of_pos b (show (0 : Int) < n by omega)
  go_upto_region 3 with fail
  generalize b % n = p at hp0 hp1 ⊢
  have C1 := Lib.hid (c_albegin n hn0 hn1 w)
  go_wp2_with fail
  refine C1.out.mono ?_; rintro e w1 ⟨rfl, hb1⟩
  have HS := Lib.hid (Blk.new w1 [.int .i64 1, .int .i64 n, .int .i64 0, .int .i64 0] 23)
  have HU1 : Hid (Below w.heap.size w (w1.alloc (.cells #[.int .i64 1, .int .i64 n, .int .i64 0, .int .i64 0] 23))) := Lib.hid (hb1.alloc hb1.size _)
  have hB : w.heap.size ≤ w1.heap.size := hb1.size
  generalize hBB : w1.heap.size = B at hB HS ⊢
  clear hb1 C1
  go_wp2_with fail
  go_loopw [34] (fun i wr => ∃ (k : Nat) (md : Int), (k : Int) ≤ n ∧ i = .int .i64 k ∧ ((k : Int) ≠ n → md = 1) ∧ ((k : Int) = n → md = 2) ∧ Blk wr B [.int .i64 md, .int .i64 n, .int .i64 k, .int .i64 0] 23 ∧ Below w.heap.size w wr) (fun i _ => 7 - (intOf i).toNat)
  case atStart => exact ⟨0, 1, by omega, rfl, fun _ => rfl, fun h => by omega, HS.out, HU1.out⟩
  case round =>
    clear HS HU1
    obtain ⟨k, md, hk, rfl, m1, m2, hS, hb⟩ := hrel
    have HB := Lib.hid hb
    have HS := Lib.hid hS
    by_cases hlt : (k : Int) < n
    · obtain rfl := m1 (by omega)
      have hk0 : (0 : Int) ≤ k := by omega
      obtain ⟨md', m1', m2', hf, cp⟩ := put_any n k hn0 hn1 hk0 hlt
      have M1 := Lib.hid m1'
      have M2 := Lib.hid m2'
      have CL := Lib.hid (fun V => c_alleft1 n k hn0 hn1 hk0 hlt V)
      have CP := Lib.hid cp
      have CF := Lib.hid (fun V => c_alfine md' n (k + 1) 0 V)
      rw [hf] at CF
      have s0 := hS.cell 0 _ rfl
      have s1 := hS.cell 1 _ rfl
      have s2 := hS.cell 2 _ rfl
      have s3 := hS.cell 3 _ rfl
      clear m1 m2 m1' m2' hf cp hS hb
      go_wp2_with fail
      refine (CL.out _).mono ?_; rintro e w2 ⟨rfl, hb2⟩
      have HB2 := Lib.hid (up_trans HB.out hb2)
      have HS2 := Lib.hid (HS.out.up hb2 HS.out.lt)
      clear s0 s1 s2 s3 hb2 HB HS
      have s0 := HS2.out.cell 0 _ rfl
      have s1 := HS2.out.cell 1 _ rfl
      have s2 := HS2.out.cell 2 _ rfl
      have s3 := HS2.out.cell 3 _ rfl
      go_wp2_with fail
      refine (CP.out _).mono ?_; rintro e w3 ⟨rfl, hb3⟩
      have hb3' := up_trans HB2.out hb3
      have HB3 : Hid (Below w.heap.size w (w3.alloc (.cells #[.int .i64 md', .int .i64 n, .int .i64 (k + 1), .int .i64 0] 23))) := Lib.hid (hb3'.alloc hb3'.size _)
      have HS3 := Lib.hid ((HS2.out.up hb3 HS2.out.lt).alloc (.cells #[.int .i64 md', .int .i64 n, .int .i64 (k + 1), .int .i64 0] 23))
      have HT3 := Lib.hid (Blk.new w3 [.int .i64 md', .int .i64 n, .int .i64 (k + 1), .int .i64 0] 23)
      change Hid (Blk (w3.alloc (.cells #[.int .i64 md', .int .i64 n, .int .i64 (k + 1), .int .i64 0] 23)) _ _ _) at HT3
      clear s0 s1 s2 s3 hb3 hb3' HB2 HS2
      go_wp2_with fail
      refine (CF.out _).mono ?_; rintro e w4 ⟨rfl, hb4⟩
      have HB4 := Lib.hid (HB3.out.trans (hb4.mono HB3.out.size))
      have HS4 := Lib.hid (HS3.out.up hb4 HS3.out.lt)
      have hT4 := HT3.out.up hb4 HT3.out.lt
      have t0 := hT4.cell 0 _ rfl
      have t1 := hT4.cell 1 _ rfl
      have t2 := hT4.cell 2 _ rfl
      have t3 := hT4.cell 3 _ rfl
      have v0 := HS4.out.cell 0 _ rfl
      have v1 := HS4.out.cell 1 _ rfl
      have v2 := HS4.out.cell 2 _ rfl
      have v3 := HS4.out.cell 3 _ rfl
      have f0 := HS4.out.free 0
      have f1 := HS4.out.free 1
      have f2 := HS4.out.free 2
      have f3 := HS4.out.free 3
      clear hb4 hT4 HT3 HB3 HS3 CL CP CF
      go_wp2_with fail
      go_roundw
      case rel => exact ⟨k + 1, md', by omega, by go_num, fun h => M1.out (by omega), fun h => M2.out (by omega), HS4.out.set4 _ _ _ _, up_set4 HB4.out hB _ _ _ _⟩
      case measure => simp [intOf]; omega
    · have hkn : (k : Int) = n := by omega
      obtain rfl := m2 hkn
      rw [hkn] at HS
      obtain ⟨q0, q1, q2, q3, hA, ct⟩ := take_any n p hn0 hn1 hp0 hp1
      have HA := Lib.hid hA
      have CT := Lib.hid ct
      have s0 := HS.out.cell 0 _ rfl
      have s1 := HS.out.cell 1 _ rfl
      have s2 := HS.out.cell 2 _ rfl
      have s3 := HS.out.cell 3 _ rfl
      clear m1 m2 hS hb hA ct
      go_wp2_with fail
      refine (CT.out _).mono ?_; rintro e w2 ⟨rfl, hb2⟩
      have HB2 := Lib.hid (up_trans HB.out hb2)
      have HS2 := Lib.hid (HS.out.up hb2 HS.out.lt)
      clear s0 s1 s2 s3 hb2 HB HS CT hkn hk
      have v0 := HS2.out.cell 0 _ rfl
      have v1 := HS2.out.cell 1 _ rfl
      have v2 := HS2.out.cell 2 _ rfl
      have v3 := HS2.out.cell 3 _ rfl
      have f0 := HS2.out.free 0
      have f1 := HS2.out.free 1
      have f2 := HS2.out.free 2
      have f3 := HS2.out.free 3
      go_wp2_with fail
      go_loopw [13, 74] (fun l i wr => ∃ (j : Nat) (q0 q1 q2 q3 : Int), (j : Int) ≤ n - 1 ∧ i = .int .i64 j ∧ l = .int .i64 (alPrev n j p) ∧ AlS n j p q0 q1 q2 q3 ∧ Blk wr B [.int .i64 q0, .int .i64 q1, .int .i64 q2, .int .i64 q3] 23 ∧ Below w.heap.size w wr) (fun _ i _ => 7 - (intOf i).toNat)
      case atStart => exact ⟨0, q0, q1, q2, q3, by omega, rfl, rfl, HA.out, HS2.out.set4 _ _ _ _, up_set4 HB2.out hB _ _ _ _⟩
      case round =>
        clear f0 f1 f2 f3 v0 v1 v2 v3 HS2 HB2 HA
        obtain ⟨j, q0, q1, q2, q3, hj, rfl, rfl, hA, hS, hb⟩ := hrel
        have HB := Lib.hid hb
        have HS := Lib.hid hS
        clear hb hS
        by_cases hlt : (j : Int) < n - 1
        · rcases hA with ⟨h, _⟩ | ⟨_, e0, e1, e2, e3⟩
          · exact absurd h (by omega)
          rw [e0, e1, e2, e3] at HS
          clear e0 e1 e2 e3 q0 q1 q2 q3
          have hj0 : (0 : Int) ≤ j := by omega
          obtain ⟨q0, q1, q2, q3, hA, cw⟩ := wd_any n j p hn0 hn1 hp0 hp1 hj0 hlt
          have HA := Lib.hid hA
          have HP := Lib.hid (prev_next n j p hj0)
          obtain ⟨pf1, pf2, pf3, pf4⟩ := place_facts hp1 hj0 hlt
          have CL := Lib.hid (fun V => c_alleft3 n j p hn0 hn1 hp0 hp1 hj0 hlt V)
          generalize alPrev n j p = l at pf1 ⊢
          have CW := Lib.hid cw
          clear cw hA
          generalize alPlace n j p = y at pf1 pf2 pf3 pf4 CW HP ⊢
          have g1 : decide (l ≤ y) = false := decide_eq_false (by omega)
          have g2 : (y == p) = false := beq_eq_false_iff_ne.2 pf2
          have g3 : decide (y < 0) = false := decide_eq_false (by omega)
          have s0 := HS.out.cell 0 _ rfl
          have s1 := HS.out.cell 1 _ rfl
          have s2 := HS.out.cell 2 _ rfl
          have s3 := HS.out.cell 3 _ rfl
          clear pf1 pf2
          go_wp2_with fail
          refine (CL.out _).mono ?_; rintro e w3 ⟨rfl, hb3⟩
          have HB3 := Lib.hid (up_trans HB.out hb3)
          have HS3 := Lib.hid (HS.out.up hb3 HS.out.lt)
          clear s0 s1 s2 s3 hb3 HB HS CL
          have s0 := HS3.out.cell 0 _ rfl
          have s1 := HS3.out.cell 1 _ rfl
          have s2 := HS3.out.cell 2 _ rfl
          have s3 := HS3.out.cell 3 _ rfl
          go_wp2_with fail
          refine (CW.out _).mono ?_; rintro e w4 ⟨rfl, hb4⟩
          have hb4' := up_trans HB3.out hb4
          have HB4 : Hid (Below w.heap.size w (w4.alloc (.cells #[.int .i64 q0, .int .i64 q1, .int .i64 q2, .int .i64 q3] 23))) := Lib.hid (hb4'.alloc hb4'.size _)
          have HS4 := Lib.hid ((HS3.out.up hb4 HS3.out.lt).alloc (.cells #[.int .i64 q0, .int .i64 q1, .int .i64 q2, .int .i64 q3] 23))
          have v0 := HS4.out.cell 0 _ rfl
          have v1 := HS4.out.cell 1 _ rfl
          have v2 := HS4.out.cell 2 _ rfl
          have v3 := HS4.out.cell 3 _ rfl
          have f0 := HS4.out.free 0
          have f1 := HS4.out.free 1
          have f2 := HS4.out.free 2
          have f3 := HS4.out.free 3
          clear s0 s1 s2 s3 hb4 hb4' HB3 HS3 CW
          go_wp2_with fail
          go_roundw
          case rel => exact ⟨j + 1, q0, q1, q2, q3, by omega, by go_num, by rw [← HP.out]; rfl, HA.out, HS4.out.set4 _ _ _ _, up_set4 HB4.out hB _ _ _ _⟩
          case measure => simp [intOf]; omega
        · have hjn : (j : Int) = n - 1 := by omega
          have hA' : q0 = 0 ∧ q1 = 0 ∧ q2 = 0 ∧ q3 = 0 := by
            rcases hA with ⟨_, h⟩ | ⟨h, _⟩
            · exact h
            · exact absurd hjn h
          obtain ⟨rfl, rfl, rfl, rfl⟩ := hA'
          have CA := Lib.hid (fun V => c_alive V)
          have s0 := HS.out.cell 0 _ rfl
          have s1 := HS.out.cell 1 _ rfl
          have s2 := HS.out.cell 2 _ rfl
          have s3 := HS.out.cell 3 _ rfl
          generalize alPrev n j p = l
          clear hjn
          go_wp2_with fail
          refine (CA.out _).mono ?_; rintro e w5 ⟨rfl, hb5⟩
          have HU := Lib.hid (up_trans HB.out hb5)
          clear hb5 s0 s1 s2 s3 CA HB HS
          go_wp2
          go_ret
          exact ⟨rfl, HU.out⟩
end Go.Proofs.Ytimooelhjgnlnaa

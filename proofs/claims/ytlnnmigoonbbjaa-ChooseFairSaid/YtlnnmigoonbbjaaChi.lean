/- ChooseFair, walked; the laws as their rows want them. -/
import Derived.Test.YtlnnmigoonbbjaaChh
namespace Go.Proofs.Ytlnnmigoonbbjaa
open Go.RowKit

set_option maxRecDepth 100000 in
set_option maxHeartbeats 4000000 in
theorem l_fair (x y z : Int) (x0 : 0 ≤ x) (x1 : x ≤ 255) (y0 : 0 ≤ y) (y1 : y ≤ 255) (z0 : 0 ≤ z) (z1 : z ≤ 255) (A : Option Addr) (N c : Nat) (L : List Int) (hl : L.length = N) (w : World) (hR : RD w (fun _ => True) 1 A N (L.map (Value.int .u8))) :
    Calls Try.prog 4 #[.agg #[.int .u8 x, .int .u8 y, .int .u8 z], .slice A N c] w fun e w' => e = .returned (.bool true) ∧ Below w.heap.size w w' := by
  have HU := Lib.hid (up_alloc w (.cells #[.int .u8 x, .int .u8 y, .int .u8 z] 36))
  have hB := Blk.new w [.int .u8 x, .int .u8 y, .int .u8 z] 36
  have i1 := hB.cell 1 _ rfl
  have i2 := hB.cell 2 _ rfl
  have HR := Lib.hid hR
  have HL := Lib.hid hl
  have hr0 := Int.emod_nonneg x (show (6 : Int) ≠ 0 by omega)
  have hr1 := Int.emod_lt_of_pos x (show (0 : Int) < 6 by omega)
  clear hR hl hB
  go_enter Try.func4, Try.ntmps4
  go_wp2_with fail
  generalize x % 6 = r at hr0 hr1 ⊢
  obtain ⟨n, hn⟩ : ∃ n : Nat, 1 + r = (n : Int) := ⟨(1 + r).toNat, by omega⟩
  rw [hn]
  have hn0 : 0 < n := by omega
  have hn1 : n ≤ 6 := by omega
  have hnz : ((n : Int) == 0) = false := by simp; omega
  clear hn hr0 hr1
  have hg0 := Int.emod_nonneg y (show (n : Int) ≠ 0 by omega)
  have hg1 := Int.emod_lt_of_pos y (show (0 : Int) < (n : Int) by omega)
  have ht0 := Int.emod_nonneg z (show (n : Int) ≠ 0 by omega)
  have ht1 := Int.emod_lt_of_pos z (show (0 : Int) < (n : Int) by omega)
  go_quiet (fail)
  generalize y % (n : Int) = g at hg0 hg1 ⊢
  generalize z % (n : Int) = t at ht0 ht1 ⊢
  have HU1 := Lib.hid (up_trans HU.out (up_drewN _ nq))
  clear i1 i2
  have HT : Hid (0 ≤ t ∧ t < n) := Lib.hid ⟨ht0, ht1⟩
  clear ht0 ht1
  go_wp2_with fail
  go_loopw [7, 8, 9] (fun t p i wr => ∃ (k : Nat) (tt pp : Int), k ≤ N ∧ k ≤ 100 ∧ i = .int .i64 k ∧ t = .int .i64 tt ∧ p = .int .i64 pp ∧ 0 ≤ tt ∧ tt < n ∧ 0 ≤ pp ∧ pp + chWay tt g n ≤ n - 1 ∧ Below w.heap.size w wr) (fun _ _ i _ => N - (intOf i).toNat)
  case atStart => exact ⟨0, t, 0, Nat.zero_le _, Nat.zero_le _, rfl, rfl, rfl, HT.out.1, HT.out.2, Int.le_refl _, by have := way_bd HT.out.1 HT.out.2 hg0 hg1; omega, HU1.out⟩
  case round =>
    obtain ⟨k, tt, pp, hk, hk2, rfl, rfl, rfl, t0, t1, p0, hw, hb⟩ := hrel
    have HB := Lib.hid hb
    have hwb := way_bd t0 t1 hg0 hg1
    by_cases hlt : k < N
    · have g1 : decide ((k : Int) < N) = true := decide_eq_true (by omega)
      by_cases hlt2 : k < 100
      · have g2 : decide ((k : Int) < 100) = true := decide_eq_true (by omega)
        have hex : ∃ u, L[k]? = some u := ⟨_, List.getElem?_eq_getElem (by rw [HL.out]; exact hlt)⟩
        obtain ⟨u, hu⟩ := hex
        obtain ⟨b, o, rfl, _, _, hc⟩ := (HR.out.below hb).at_ (by omega)
        have h1 := hc k (.int .u8 u) (by rw [List.getElem?_map, hu]; rfl)
        have hF := some_fine (b := u) (g := g) (m := n) (t := tt) (d := 1) (n := n) rfl (by omega) t0 t1 (by omega) (by omega)
        have hLg := some_mem u g hg0 n hg1
        have hLl := some_len u g n
        have hl0 : 0 < (chSome u g n).length := List.length_pos_of_mem hLg
        have hE := fine_e hF hl0
        have hI := fair_is (v := (k : Int)) hF hl0
        have hnb := (chRis_ge n _ 0 (some_ris u g n (by omega) n (by omega)).1 _ hI.1)
        have CS := Lib.hid (fun W => c_some u n hn1 g W)
        have CC : Hid (∀ W A' c', RD W (fun _ => True) 1 A' (chSome u g n).length ((chSome u g n).map (Value.int .i64)) → Calls Try.prog 7 #[.agg #[.int .i64 1, .int .i64 n, .int .i64 tt, .slice A' (chSome u g n).length c'], .int .i64 k] W fun e w' => e = .returned (.tuple #[.int .i64 (chV 1 n tt (chSome u g n) k), .int .i64 0]) ∧ Below W.heap.size W w') := Lib.hid (fun W A' c' h => by
          have := c_choose (c := c') h rfl (by omega) 1 n tt k
          rwa [hE] at this)
        generalize chV 1 n tt (chSome u g n) k = a at hI hnb CC
        have hnm := (chNum_iff a n).1 hnb.2
        have hway := fun hne : a ≠ g => way_less hLg t1 hg0 hg1 hnm.1 hnm.2.1 (by omega) hne hI.2
        have htb := turn_bd hnm.1 hnm.2.1 (by omega)
        have hwt := way_bd htb.1 htb.2 hg0 hg1
        generalize chSome u g n = R at CS CC
        have a0 := hnm.1
        have a1 := hnm.2.1
        have g3 : decide (a < 0) = false := decide_eq_false (by omega)
        have g4 : decide ((n : Int) ≤ a) = false := decide_eq_false (by omega)
        have CT := Lib.hid (fun W => c_chturn a n W)
        obtain ⟨tn, htn⟩ : ∃ tn, chTurn a n = tn := ⟨_, rfl⟩
        rw [htn] at CT hway htb hwt
        have HWY := Lib.hid hway
        have HTB := Lib.hid htb
        have HWT := Lib.hid hwt
        clear hc hF hLg hLl hl0 hE hI hnb hnm hway htb hwt htn hb hu
        by_cases hag : a = g
        · have g5 : (a == g) = true := by simp [hag]
          have g6 : decide ((n : Int) ≤ 0) = false := decide_eq_false (by omega)
          clear hag
          go_wp2_with fail
          refine (CS.out _).mono ?_; rintro e w1 ⟨A', c', rfl, _, _, hR1, hb1⟩
          have HB1 := Lib.hid (up_trans HB.out hb1)
          have C := Lib.hid (CC.out w1 A' c' (hR1.lo fun _ _ => trivial))
          clear hb1 hR1
          go_wp2_with fail
          refine C.out.mono ?_; rintro e w2 ⟨rfl, hb2⟩
          have HB2 := Lib.hid (up_trans HB1.out hb2)
          clear hb2
          go_wp2_with fail
          refine (CT.out _).mono ?_; rintro e w3 ⟨rfl, rfl⟩
          go_wp2_with fail
          go_roundw
          case rel => exact ⟨k + 1, tn, 0, by omega, by omega, by go_num, rfl, rfl, HTB.out.1, HTB.out.2, by omega, by have := HWT.out; omega, HB2.out⟩
          case measure => simp [intOf]; omega
        · have g5 : (a == g) = false := beq_eq_false_iff_ne.2 hag
          have hwy := HWY.out hag
          have hwtt := HWT.out
          have g6 : decide ((n : Int) ≤ pp + 1) = false := decide_eq_false (by omega)
          have HW2 : Hid (pp + 1 + chWay tn g n ≤ n - 1) := Lib.hid (by omega)
          have pb : pp + 1 ≤ 6 := by omega
          clear hag hwy hwtt
          go_wp2_with fail
          refine (CS.out _).mono ?_; rintro e w1 ⟨A', c', rfl, _, _, hR1, hb1⟩
          have HB1 := Lib.hid (up_trans HB.out hb1)
          have C := Lib.hid (CC.out w1 A' c' (hR1.lo fun _ _ => trivial))
          clear hb1 hR1
          go_wp2_with fail
          refine C.out.mono ?_; rintro e w2 ⟨rfl, hb2⟩
          have HB2 := Lib.hid (up_trans HB1.out hb2)
          clear hb2
          go_wp2_with fail
          refine (CT.out _).mono ?_; rintro e w3 ⟨rfl, rfl⟩
          go_wp2_with fail
          go_roundw
          case rel => exact ⟨k + 1, tn, pp + 1, by omega, by omega, by go_num, rfl, rfl, HTB.out.1, HTB.out.2, by omega, HW2.out, HB2.out⟩
          case measure => simp [intOf]; omega
      · have g2 : decide ((k : Int) < 100) = false := decide_eq_false (by omega)
        clear hb
        go_wp2_with fail
        refine (c_alive _).mono ?_; rintro e w6 ⟨rfl, hb6⟩
        have HU6 := Lib.hid (up_trans HB.out hb6)
        clear hb6
        go_wp2
        go_ret
        exact ⟨rfl, HU6.out⟩
    · have g1 : decide ((k : Int) < N) = false := decide_eq_false (by omega)
      obtain rfl : k = N := by omega
      clear hb
      go_wp2_with fail
      refine (c_alive _).mono ?_; rintro e w6 ⟨rfl, hb6⟩
      have HU6 := Lib.hid (up_trans HB.out hb6)
      clear hb6
      go_wp2
      go_ret
      exact ⟨rfl, HU6.out⟩
end Go.Proofs.Ytlnnmigoonbbjaa

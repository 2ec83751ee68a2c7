/- The contracts of the document's functions on words: the same plain functions' values, and memory as it was. -/
import Derived.Test.YtfemfimhnkdemaaDoorWb
namespace Go.Proofs.YtfemfimhnkdemaaDoor
open Go.RowKit

set_option maxHeartbeats 400000 in
theorem c_vfine (a : Int) (w : World) :
    Calls Tryd.prog 17 #[.int .i64 a] w fun e w' => e = .returned (.bool (fineW a)) ∧ w = w' := by
  cases hf : fineW a
  · have H := Lib.hid (fineW_not a hf)
    clear hf
    go_enter Tryd.func17, Tryd.ntmps17
    go_wp2
    all_goals
      go_ret
      refine ⟨ret_bool ?_, rfl⟩
      have := H.out
      first
        | rfl
        | (rw [decide_eq_false_iff_not]; omega)
  · have hb := (fineW_iff a).1 hf
    obtain ⟨h0, h1⟩ := hb
    clear hf
    go_enter Tryd.func17, Tryd.ntmps17
    go_wp2
    go_ret
    exact ⟨ret_bool (by first | rfl | (rw [decide_eq_true_iff]; omega)), rfl⟩

set_option maxHeartbeats 1000000 in
theorem c_vwrap (n : Int) (w : World) :
    Calls Tryd.prog 19 #[.int .i64 n] w fun e w' => e = .returned (.int .i64 (wrapW n)) ∧ w = w' := by
  have R := Lib.hid (wrapW_rem n _ rfl)
  have hb : -4294967296 < n.tmod 4294967296 ∧ n.tmod 4294967296 < 4294967296 := ⟨Int.lt_tmod_of_pos n (by omega), Int.tmod_lt_of_pos n (by omega)⟩
  obtain ⟨hb0, hb1⟩ := hb
  go_enter Tryd.func19, Tryd.ntmps19
  go_wp2
  all_goals
    go_ret
    refine ⟨ret_int ?_, rfl⟩
    have r := R.out
    rw [r]
    clear R r
    unfold wrap64 at *
    generalize n.tmod 4294967296 = m at *
    repeat' split
    all_goals omega

set_option maxHeartbeats 400000 in
theorem c_vup (a : Int) (h0 : -2147483648 ≤ a) (h1 : a ≤ 2147483647) (w : World) :
    Calls Tryd.prog 24 #[.int .i64 a] w fun e w' => e = .returned (.int .i64 (upW a)) ∧ w = w' := by
  have U := Lib.hid (upW_of a h0 h1)
  go_enter Tryd.func24, Tryd.ntmps24
  go_wp2
  all_goals
    go_ret
    refine ⟨ret_int ?_, rfl⟩
    rw [U.out]
    split <;> omega

set_option maxHeartbeats 400000 in
theorem c_vtruth (b : Bool) (w : World) :
    Calls Tryd.prog 25 #[.bool b] w fun e w' => e = .returned (.int .i64 (if b = true then 1 else 0)) ∧ w = w' := by
  cases b
  all_goals
    go_enter Tryd.func25, Tryd.ntmps25
    go_wp2
    go_ret
    exact ⟨rfl, rfl⟩

theorem half_rem (a : Int) (h : a < 0) : a.tmod 2 = 0 ∨ a.tmod 2 = -1 := by
  have e : (-a).tmod 2 = -(a.tmod 2) := Int.neg_tmod a 2
  have p : (-a).tmod 2 = (-a) % 2 := Int.tmod_eq_emod_of_nonneg (by omega)
  omega

set_option maxHeartbeats 2000000 in
theorem c_vmoved (a : Int) (h0 : -2147483648 ≤ a) (h1 : a ≤ 2147483647) (by' : Nat) (hby : by' ≤ 31) (down : Bool) (w : World) :
    Calls Tryd.prog 23 #[.int .i64 a, .int .i64 by', .bool down] w fun e w' => e = .returned (.int .i64 (moveM down by' a)) ∧ w = w' := by
  go_enter Tryd.func23, Tryd.ntmps23
  go_wp2
  go_loop [0, 7] (fun x i => ∃ (k : Nat) (y : Int), k ≤ by' ∧ i = .int .i64 k ∧ x = .int .i64 y ∧ (-2147483648 ≤ y ∧ y ≤ 2147483647) ∧ moveM down (by' - k) y = moveM down by' a) (fun _ i => by' - (intOf i).toNat)
  case atStart => exact ⟨0, a, Nat.zero_le _, rfl, rfl, ⟨h0, h1⟩, rfl⟩
  case round =>
    obtain ⟨k, y, hk, rfl, rfl, ⟨y0, y1⟩, hm⟩ := hrel
    by_cases hlt : k < by'
    · rw [show by' - k = (by' - (k + 1)) + 1 by omega, moveM_succ] at hm
      have HM := Lib.hid hm
      clear hm
      cases down
      · go_wp2_with (go_at_call 19; refine (c_vwrap _ _).mono ?_; rintro e w' ⟨rfl, rfl⟩)
        go_round
        case rel => exact ⟨k + 1, wrapW (2 * y), by omega, by go_num, rfl, wrapW_fine _, HM.out⟩
        case measure => simp [intOf]; omega
      · have hd : stepM true y = y / 2 := rfl
        rw [hd] at HM
        have hq := Int.mul_tdiv_add_tmod y 2
        by_cases hn : y < 0
        · rcases half_rem y hn with ht | ht
          · have t0 : (y.tmod 2 != 0) = false := by rw [ht]; rfl
            have q0 : y.tdiv 2 = y / 2 := by omega
            have q1 : wrap64 (y.tdiv 2) = y / 2 := by rw [q0]; unfold wrap64; omega
            have Q0 := Lib.hid q0
            have Q1 := Lib.hid q1
            clear ht hq hd q0 q1
            go_wp2
            go_round
            case rel => exact ⟨k + 1, y / 2, by omega, by go_num, by first | rfl | (rw [Q1.out]) | (rw [Q0.out]), by omega, HM.out⟩
            case measure => simp [intOf]; omega
          · have t0 : (y.tmod 2 != 0) = true := by rw [ht]; rfl
            have q0 : y.tdiv 2 - 1 = y / 2 := by omega
            have q1 : wrap64 (wrap64 (y.tdiv 2) - 1) = y / 2 := by rw [show y.tdiv 2 = y / 2 + 1 by omega]; unfold wrap64; omega
            have q2 : wrap64 (y.tdiv 2 - 1) = y / 2 := by rw [q0]; unfold wrap64; omega
            have Q0 := Lib.hid q0
            have Q1 := Lib.hid q1
            have Q2 := Lib.hid q2
            clear ht hq hd q0 q1 q2
            go_wp2
            go_round
            case rel => exact ⟨k + 1, y / 2, by omega, by go_num, by first | rfl | (rw [Q1.out]) | (rw [Q2.out]) | (rw [Q0.out]), by omega, HM.out⟩
            case measure => simp [intOf]; omega
        · have q0 : y.tdiv 2 = y / 2 := Int.tdiv_eq_ediv_of_nonneg (by omega)
          have Q0 := Lib.hid q0
          clear hq hd q0
          go_wp2
          go_round
          case rel => exact ⟨k + 1, y / 2, by omega, by go_num, by first | rfl | (rw [Q0.out]), by omega, HM.out⟩
          case measure => simp [intOf]; omega
    · obtain rfl : k = by' := by omega
      rw [Nat.sub_self] at hm
      have HM := Lib.hid hm
      clear hm
      go_wp2
      go_ret
      exact ⟨ret_int HM.out, rfl⟩

theorem pow32 : (2 : Nat) ^ 32 = 4294967296 := by decide
theorem bits_next (kind : Int) (k x y m p T : Nat) (hk : k < 32) (h : m + p * bitsN kind (32 - k) x y = T) :
    (m + (if bitP kind x y = true then p else 0)) + p * 2 * bitsN kind (32 - (k + 1)) (x / 2) (y / 2) = T := by
  rw [show 32 - k = (32 - (k + 1)) + 1 by omega, bitsN_succ] at h
  rw [← h, Nat.mul_add, Nat.mul_assoc]
  split <;> omega
theorem bits_start (kind : Int) (X Y : Nat) : 0 + 1 * bitsN kind (32 - 0) X Y = bitsN kind 32 X Y := by rw [Nat.zero_add, Nat.one_mul]
theorem bits_end (kind : Int) (x y m p : Nat) : m + p * bitsN kind (32 - 32) x y = m := by
  rw [show bitsN kind (32 - 32) x y = 0 from rfl, Nat.mul_zero, Nat.add_zero]
theorem bits_on (kind : Int) (k x y m p T : Nat) (hk : k < 32) (h : m + p * bitsN kind (32 - k) x y = T) (hb : bitP kind x y = true) :
    (m + p) + p * 2 * bitsN kind (32 - (k + 1)) (x / 2) (y / 2) = T := by
  have := bits_next kind k x y m p T hk h
  rwa [if_pos hb] at this
theorem bits_off (kind : Int) (k x y m p T : Nat) (hk : k < 32) (h : m + p * bitsN kind (32 - k) x y = T) (hb : bitP kind x y = false) :
    m + p * 2 * bitsN kind (32 - (k + 1)) (x / 2) (y / 2) = T := by
  have := bits_next kind k x y m p T hk h
  rwa [if_neg (by rw [hb]; decide), Nat.add_zero] at this

set_option maxHeartbeats 1000000 in
theorem c_vbits (kind a b : Int) (hkind : kind = 6 ∨ kind = 7 ∨ kind = 8) (ha0 : -2147483648 ≤ a) (ha1 : a ≤ 2147483647) (hb0 : -2147483648 ≤ b) (hb1 : b ≤ 2147483647) (w : World) :
    Calls Tryd.prog 26 #[.int .i64 kind, .int .i64 a, .int .i64 b] w fun e w' => e = .returned (.int .i64 (wrapW (bitsN kind 32 (upW a) (upW b)))) ∧ w = w' := by
  have XL := Lib.hid (upW_lt a)
  have YL := Lib.hid (upW_lt b)
  go_enter Tryd.func26, Tryd.ntmps26
  go_wp2_with (go_at_call 24; refine (c_vup _ (by omega) (by omega) _).mono ?_; rintro e w' ⟨rfl, rfl⟩)
  go_loop [1, 2, 7, 8, 9] (fun u v n wo i => ∃ (k x y m p : Nat), k ≤ 32 ∧ i = .int .i64 k ∧ u = .int .i64 x ∧ v = .int .i64 y ∧ n = .int .i64 m ∧ wo = .int .i64 p ∧ p = 2 ^ k ∧ m < p ∧ x < 4294967296 ∧ y < 4294967296 ∧ m + p * bitsN kind (32 - k) x y = bitsN kind 32 (upW a) (upW b)) (fun _ _ _ _ i => 32 - (intOf i).toNat)
  case atStart => exact ⟨0, upW a, upW b, 0, 1, Nat.zero_le _, rfl, rfl, rfl, rfl, rfl, rfl, by omega, XL.out, YL.out, bits_start kind _ _⟩
  case round =>
    obtain ⟨k, x, y, m, p, hk, rfl, rfl, rfl, rfl, rfl, hp, hm, hx, hy, hs⟩ := hrel
    by_cases hlt : k < 32
    · have hp2 : p ≤ 2147483648 := by
        rw [hp]
        exact Nat.le_trans (Nat.pow_le_pow_right (by omega) (show k ≤ 31 by omega)) (by decide)
      have HP := Lib.hid (show p * 2 = 2 ^ (k + 1) by rw [hp, Nat.pow_succ])
      clear hp
      have hxc : ((x : Int) % 2 = 0 ∧ x % 2 = 0) ∨ ((x : Int) % 2 = 1 ∧ x % 2 = 1) := by omega
      have hyc : ((y : Int) % 2 = 0 ∧ y % 2 = 0) ∨ ((y : Int) % 2 = 1 ∧ y % 2 = 1) := by omega
      rcases hkind with rfl | rfl | rfl <;> rcases hxc with ⟨ex, fx⟩ | ⟨ex, fx⟩ <;> rcases hyc with ⟨ey, fy⟩ | ⟨ey, fy⟩
      · have HN := Lib.hid (bits_off 6 k x y m p _ hlt hs (by rw [bitP6, fx, fy]; rfl))
        clear hs fx fy
        go_wp2
        go_round
        case rel => exact ⟨k + 1, x / 2, y / 2, m, p * 2, by omega, by go_num, by go_num, by go_num, by go_num, by go_num, HP.out, by omega, by omega, by omega, HN.out⟩
        case measure => simp [intOf]; omega
      · have HN := Lib.hid (bits_off 6 k x y m p _ hlt hs (by rw [bitP6, fx, fy]; rfl))
        clear hs fx fy
        go_wp2
        go_round
        case rel => exact ⟨k + 1, x / 2, y / 2, m, p * 2, by omega, by go_num, by go_num, by go_num, by go_num, by go_num, HP.out, by omega, by omega, by omega, HN.out⟩
        case measure => simp [intOf]; omega
      · have HN := Lib.hid (bits_off 6 k x y m p _ hlt hs (by rw [bitP6, fx, fy]; rfl))
        clear hs fx fy
        go_wp2
        go_round
        case rel => exact ⟨k + 1, x / 2, y / 2, m, p * 2, by omega, by go_num, by go_num, by go_num, by go_num, by go_num, HP.out, by omega, by omega, by omega, HN.out⟩
        case measure => simp [intOf]; omega
      · have HN := Lib.hid (bits_on 6 k x y m p _ hlt hs (by rw [bitP6, fx, fy]; rfl))
        clear hs fx fy
        go_wp2
        go_round
        case rel => exact ⟨k + 1, x / 2, y / 2, m + p, p * 2, by omega, by go_num, by go_num, by go_num, by go_num, by go_num, HP.out, by omega, by omega, by omega, HN.out⟩
        case measure => simp [intOf]; omega
      · have HN := Lib.hid (bits_off 7 k x y m p _ hlt hs (by rw [bitP7, fx, fy]; rfl))
        clear hs fx fy
        go_wp2
        go_round
        case rel => exact ⟨k + 1, x / 2, y / 2, m, p * 2, by omega, by go_num, by go_num, by go_num, by go_num, by go_num, HP.out, by omega, by omega, by omega, HN.out⟩
        case measure => simp [intOf]; omega
      · have HN := Lib.hid (bits_on 7 k x y m p _ hlt hs (by rw [bitP7, fx, fy]; rfl))
        clear hs fx fy
        go_wp2
        go_round
        case rel => exact ⟨k + 1, x / 2, y / 2, m + p, p * 2, by omega, by go_num, by go_num, by go_num, by go_num, by go_num, HP.out, by omega, by omega, by omega, HN.out⟩
        case measure => simp [intOf]; omega
      · have HN := Lib.hid (bits_on 7 k x y m p _ hlt hs (by rw [bitP7, fx, fy]; rfl))
        clear hs fx fy
        go_wp2
        go_round
        case rel => exact ⟨k + 1, x / 2, y / 2, m + p, p * 2, by omega, by go_num, by go_num, by go_num, by go_num, by go_num, HP.out, by omega, by omega, by omega, HN.out⟩
        case measure => simp [intOf]; omega
      · have HN := Lib.hid (bits_on 7 k x y m p _ hlt hs (by rw [bitP7, fx, fy]; rfl))
        clear hs fx fy
        go_wp2
        go_round
        case rel => exact ⟨k + 1, x / 2, y / 2, m + p, p * 2, by omega, by go_num, by go_num, by go_num, by go_num, by go_num, HP.out, by omega, by omega, by omega, HN.out⟩
        case measure => simp [intOf]; omega
      · have HN := Lib.hid (bits_off 8 k x y m p _ hlt hs (by rw [bitP8, fx, fy]; rfl))
        clear hs fx fy
        go_wp2
        go_round
        case rel => exact ⟨k + 1, x / 2, y / 2, m, p * 2, by omega, by go_num, by go_num, by go_num, by go_num, by go_num, HP.out, by omega, by omega, by omega, HN.out⟩
        case measure => simp [intOf]; omega
      · have HN := Lib.hid (bits_on 8 k x y m p _ hlt hs (by rw [bitP8, fx, fy]; rfl))
        clear hs fx fy
        go_wp2
        go_round
        case rel => exact ⟨k + 1, x / 2, y / 2, m + p, p * 2, by omega, by go_num, by go_num, by go_num, by go_num, by go_num, HP.out, by omega, by omega, by omega, HN.out⟩
        case measure => simp [intOf]; omega
      · have HN := Lib.hid (bits_on 8 k x y m p _ hlt hs (by rw [bitP8, fx, fy]; rfl))
        clear hs fx fy
        go_wp2
        go_round
        case rel => exact ⟨k + 1, x / 2, y / 2, m + p, p * 2, by omega, by go_num, by go_num, by go_num, by go_num, by go_num, HP.out, by omega, by omega, by omega, HN.out⟩
        case measure => simp [intOf]; omega
      · have HN := Lib.hid (bits_off 8 k x y m p _ hlt hs (by rw [bitP8, fx, fy]; rfl))
        clear hs fx fy
        go_wp2
        go_round
        case rel => exact ⟨k + 1, x / 2, y / 2, m, p * 2, by omega, by go_num, by go_num, by go_num, by go_num, by go_num, HP.out, by omega, by omega, by omega, HN.out⟩
        case measure => simp [intOf]; omega
    · obtain rfl : k = 32 := by omega
      have e : bitsN kind 32 (upW a) (upW b) = m := by rw [← hs]; exact bits_end kind x y m p
      have E := Lib.hid e
      clear hs e
      have hp2 : p = 4294967296 := hp.trans pow32
      clear hp
      go_wp2_with (go_at_call 19; refine (c_vwrap _ _).mono ?_; rintro e w' ⟨rfl, rfl⟩)
      go_ret
      exact ⟨ret_int (by rw [E.out]), rfl⟩
end Go.Proofs.YtfemfimhnkdemaaDoor

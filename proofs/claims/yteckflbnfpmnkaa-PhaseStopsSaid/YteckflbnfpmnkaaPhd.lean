/- The laws of phases, walked: alive, PhaseTells, PhaseGoes, PhaseStops. -/
import Derived.Test.YteckflbnfpmnkaaPhg
import Derived.Test.YteckflbnfpmnkaaPhc
import Derived.BigRegion
namespace Go.Proofs.Yteckflbnfpmnkaa
open Go.RowKit

set_option maxHeartbeats 1000000 in
theorem c_alive (w : World) : Calls Try.prog 12 #[] w fun e w' => e = .returned (.bool true) ∧ w = w' := by
  have C1 := Lib.hid (fun W => c_phnext 4 5 W)
  rw [show phNext 4 5 = 5 from rfl, show phErr 4 5 = 0 from rfl] at C1
  have C2 := Lib.hid (fun W => c_phnext 5 5 W)
  rw [show phNext 5 5 = 0 from rfl, show phErr 5 5 = 14 from rfl] at C2
  have C3 := Lib.hid (fun W => c_phgoes 3 5 9 W)
  rw [show phV 3 5 9 = 5 from rfl, show phC 3 5 9 = 2 from rfl] at C3
  have C4 := Lib.hid (fun W => c_phfine 5 5 W)
  rw [show phFine 5 5 = true from rfl] at C4
  have C5 := Lib.hid (fun W => c_phfine 6 5 W)
  rw [show phFine 6 5 = false from rfl] at C5
  have C6 := Lib.hid (fun W => c_phleft 3 5 W)
  rw [show phLeft 3 5 = 2 from rfl] at C6
  go_enter Try.func12, Try.ntmps12
  go_wp2_with fail
  refine (C1.out _).mono ?_; rintro e w' ⟨rfl, rfl⟩
  go_wp2_with fail
  refine (C2.out _).mono ?_; rintro e w' ⟨rfl, rfl⟩
  go_wp2_with fail
  refine (C3.out _).mono ?_; rintro e w' ⟨rfl, rfl⟩
  go_wp2_with fail
  refine (C4.out _).mono ?_; rintro e w' ⟨rfl, rfl⟩
  go_wp2_with fail
  refine (C5.out _).mono ?_; rintro e w' ⟨rfl, rfl⟩
  go_wp2_with fail
  refine (C6.out _).mono ?_; rintro e w' ⟨rfl, rfl⟩
  go_wp2
  go_ret
  exact ⟨rfl, rfl⟩

set_option maxHeartbeats 1000000 in
theorem l_tells (n d : Int) (w : World) :
    Calls Try.prog 3 #[.int .i64 n, .int .i64 d] w fun e w' => e = .returned (.bool true) ∧ Below w.heap.size w w' := by
  go_enter Try.func3, Try.ntmps3
  go_wp2_with (first
    | (go_at_call 6; refine (c_phnext _ _ _).mono ?_; rintro e w' ⟨rfl, rfl⟩)
    | (go_at_call 7; refine (c_rnext _ _ _).mono ?_; rintro e w' ⟨rfl, rfl⟩)
    | (go_at_call 8; refine (c_phfine _ _ _).mono ?_; rintro e w' ⟨rfl, rfl⟩)
    | (go_at_call 9; refine (c_rfine _ _ _).mono ?_; rintro e w' ⟨rfl, rfl⟩)
    | (go_at_call 10; refine (c_phleft _ _ _).mono ?_; rintro e w' ⟨rfl, rfl⟩)
    | (go_at_call 11; refine (c_rleft _ _ _).mono ?_; rintro e w' ⟨rfl, rfl⟩)
    | (go_at_call 12; refine (c_alive _).mono ?_; rintro e w' ⟨rfl, rfl⟩))
  go_ret
  exact ⟨rfl, Below.refl _ _⟩

set_option maxHeartbeats 1000000 in
theorem l_goes (n d m : Int) (w : World) :
    Calls Try.prog 4 #[.int .i64 n, .int .i64 d, .int .i64 m] w fun e w' => e = .returned (.bool true) ∧ Below w.heap.size w w' := by
  go_enter Try.func4, Try.ntmps4
  go_wp2_with (first
    | (go_at_call 13; refine (c_phgoes _ _ _ _).mono ?_; rintro e w' ⟨rfl, rfl⟩)
    | (go_at_call 14; refine (c_rgoes _ _ _ _).mono ?_; rintro e w' ⟨rfl, rfl⟩)
    | (go_at_call 12; refine (c_alive _).mono ?_; rintro e w' ⟨rfl, rfl⟩))
  go_ret
  exact ⟨rfl, Below.refl _ _⟩

set_option maxHeartbeats 2000000 in
set_option maxRecDepth 100000 in
theorem st1 (a b : Int) (ha0 : 0 ≤ a) (ha1 : a ≤ 65535) (hb0 : 0 ≤ b) (hb1 : b ≤ 65535) (hca : a ≤ 1) (hcb : b ≤ 300) (w : World) :
    Calls Try.prog 5 #[.int .u16 a, .int .u16 b] w fun e w' => e = .returned (.bool true) ∧ Below w.heap.size w w' := by
  go_enter Try.func5, Try.ntmps5
  go_wp2
  go_loop [6, 16] (fun x i => ∃ (k : Nat) (q : Int), i = .int .i64 k ∧ x = .int .i64 q ∧ (k : Int) ≤ b ∧ q = min (k : Int) 1) (fun _ i => 301 - (intOf i).toNat)
  case atStart => exact ⟨0, 0, rfl, rfl, by omega, by omega⟩
  case round =>
    obtain ⟨k, q, rfl, rfl, hk, hq⟩ := hrel
    by_cases hlt : (k : Int) < b
    · by_cases hl : (k : Int) < 1
      · have hf : phFine q 1 = true := (phFine_iff _ _).2 (by omega)
        have hf' : phFine (q + 1) 1 = true := (phFine_iff _ _).2 (by omega)
        have C := Lib.hid (fun W => c_phnext q 1 W)
        rw [phNext_on hf (by omega), phErr_on hf (by omega)] at C
        have D := Lib.hid (fun W => c_phleft q 1 W)
        rw [phLeft_of hf] at D
        have E := Lib.hid (fun W => c_phleft (q + 1) 1 W)
        rw [phLeft_of hf'] at E
        have hq0 : 0 ≤ q := by omega
        have hq1 : q ≤ 65534 := by omega
        have ht : (1 - (q + 1) != 1 - q - 1) = false := by rw [bne_eq_false_iff_eq]; omega
        have HQ := Lib.hid hq
        clear hf hf' hq
        go_wp2_with fail
        refine (C.out _).mono ?_; rintro e w' ⟨rfl, rfl⟩
        go_wp2_with fail
        refine (E.out _).mono ?_; rintro e w' ⟨rfl, rfl⟩
        go_wp2_with fail
        refine (D.out _).mono ?_; rintro e w' ⟨rfl, rfl⟩
        go_wp2_with fail
        go_round
        case rel => exact ⟨k + 1, q + 1, by go_num, rfl, by omega, (by have := HQ.out; omega)⟩
        case measure => simp [intOf]; omega
      · have hf : phFine q 1 = true := (phFine_iff _ _).2 (by omega)
        have C := Lib.hid (fun W => c_phnext q 1 W)
        rw [phNext_end hf (by omega), phErr_end hf (by omega)] at C
        have HQ := Lib.hid hq
        clear hf hq
        go_wp2_with fail
        refine (C.out _).mono ?_; rintro e w' ⟨rfl, rfl⟩
        go_wp2_with fail
        go_round
        case rel => exact ⟨k + 1, q, by go_num, rfl, by omega, (by have := HQ.out; omega)⟩
        case measure => simp [intOf]; omega
    · have HQ := Lib.hid hq
      have HK := Lib.hid hk
      clear hq
      go_wp2_with fail
      all_goals first
        | (exfalso; have := HQ.out; omega)
        | (refine (c_alive _).mono ?_
           rintro e w' ⟨rfl, rfl⟩
           go_wp2
           go_ret
           exact ⟨rfl, Below.refl _ _⟩)

set_option maxHeartbeats 2000000 in
set_option maxRecDepth 100000 in
theorem st2 (a b : Int) (ha0 : 0 ≤ a) (ha1 : a ≤ 65535) (hb0 : 0 ≤ b) (hb1 : b ≤ 65535) (hca : 1 < a) (hcb : b ≤ 300) (w : World) :
    Calls Try.prog 5 #[.int .u16 a, .int .u16 b] w fun e w' => e = .returned (.bool true) ∧ Below w.heap.size w w' := by
  go_enter Try.func5, Try.ntmps5
  go_wp2
  go_loop [6, 16] (fun x i => ∃ (k : Nat) (q : Int), i = .int .i64 k ∧ x = .int .i64 q ∧ (k : Int) ≤ b ∧ q = min (k : Int) a) (fun _ i => 301 - (intOf i).toNat)
  case atStart => exact ⟨0, 0, rfl, rfl, by omega, by omega⟩
  case round =>
    obtain ⟨k, q, rfl, rfl, hk, hq⟩ := hrel
    by_cases hlt : (k : Int) < b
    · by_cases hl : (k : Int) < a
      · have hf : phFine q a = true := (phFine_iff _ _).2 (by omega)
        have hf' : phFine (q + 1) a = true := (phFine_iff _ _).2 (by omega)
        have C := Lib.hid (fun W => c_phnext q a W)
        rw [phNext_on hf (by omega), phErr_on hf (by omega)] at C
        have D := Lib.hid (fun W => c_phleft q a W)
        rw [phLeft_of hf] at D
        have E := Lib.hid (fun W => c_phleft (q + 1) a W)
        rw [phLeft_of hf'] at E
        have hq0 : 0 ≤ q := by omega
        have hq1 : q ≤ 65534 := by omega
        have ht : (a - (q + 1) != a - q - 1) = false := by rw [bne_eq_false_iff_eq]; omega
        have HQ := Lib.hid hq
        clear hf hf' hq
        go_wp2_with fail
        refine (C.out _).mono ?_; rintro e w' ⟨rfl, rfl⟩
        go_wp2_with fail
        refine (E.out _).mono ?_; rintro e w' ⟨rfl, rfl⟩
        go_wp2_with fail
        refine (D.out _).mono ?_; rintro e w' ⟨rfl, rfl⟩
        go_wp2_with fail
        go_round
        case rel => exact ⟨k + 1, q + 1, by go_num, rfl, by omega, (by have := HQ.out; omega)⟩
        case measure => simp [intOf]; omega
      · have hf : phFine q a = true := (phFine_iff _ _).2 (by omega)
        have C := Lib.hid (fun W => c_phnext q a W)
        rw [phNext_end hf (by omega), phErr_end hf (by omega)] at C
        have HQ := Lib.hid hq
        clear hf hq
        go_wp2_with fail
        refine (C.out _).mono ?_; rintro e w' ⟨rfl, rfl⟩
        go_wp2_with fail
        go_round
        case rel => exact ⟨k + 1, q, by go_num, rfl, by omega, (by have := HQ.out; omega)⟩
        case measure => simp [intOf]; omega
    · have HQ := Lib.hid hq
      have HK := Lib.hid hk
      clear hq
      go_wp2_with fail
      all_goals first
        | (exfalso; have := HQ.out; omega)
        | (refine (c_alive _).mono ?_
           rintro e w' ⟨rfl, rfl⟩
           go_wp2
           go_ret
           exact ⟨rfl, Below.refl _ _⟩)

set_option maxHeartbeats 2000000 in
set_option maxRecDepth 100000 in
theorem st3 (a b : Int) (ha0 : 0 ≤ a) (ha1 : a ≤ 65535) (hb0 : 0 ≤ b) (hb1 : b ≤ 65535) (hca : a ≤ 1) (hcb : 300 < b) (w : World) :
    Calls Try.prog 5 #[.int .u16 a, .int .u16 b] w fun e w' => e = .returned (.bool true) ∧ Below w.heap.size w w' := by
  go_enter Try.func5, Try.ntmps5
  go_wp2
  go_loop [6, 16] (fun x i => ∃ (k : Nat) (q : Int), i = .int .i64 k ∧ x = .int .i64 q ∧ (k : Int) ≤ 300 ∧ q = min (k : Int) 1) (fun _ i => 301 - (intOf i).toNat)
  case atStart => exact ⟨0, 0, rfl, rfl, by omega, by omega⟩
  case round =>
    obtain ⟨k, q, rfl, rfl, hk, hq⟩ := hrel
    by_cases hlt : (k : Int) < 300
    · by_cases hl : (k : Int) < 1
      · have hf : phFine q 1 = true := (phFine_iff _ _).2 (by omega)
        have hf' : phFine (q + 1) 1 = true := (phFine_iff _ _).2 (by omega)
        have C := Lib.hid (fun W => c_phnext q 1 W)
        rw [phNext_on hf (by omega), phErr_on hf (by omega)] at C
        have D := Lib.hid (fun W => c_phleft q 1 W)
        rw [phLeft_of hf] at D
        have E := Lib.hid (fun W => c_phleft (q + 1) 1 W)
        rw [phLeft_of hf'] at E
        have hq0 : 0 ≤ q := by omega
        have hq1 : q ≤ 65534 := by omega
        have ht : (1 - (q + 1) != 1 - q - 1) = false := by rw [bne_eq_false_iff_eq]; omega
        have HQ := Lib.hid hq
        clear hf hf' hq
        go_wp2_with fail
        refine (C.out _).mono ?_; rintro e w' ⟨rfl, rfl⟩
        go_wp2_with fail
        refine (E.out _).mono ?_; rintro e w' ⟨rfl, rfl⟩
        go_wp2_with fail
        refine (D.out _).mono ?_; rintro e w' ⟨rfl, rfl⟩
        go_wp2_with fail
        go_round
        case rel => exact ⟨k + 1, q + 1, by go_num, rfl, by omega, (by have := HQ.out; omega)⟩
        case measure => simp [intOf]; omega
      · have hf : phFine q 1 = true := (phFine_iff _ _).2 (by omega)
        have C := Lib.hid (fun W => c_phnext q 1 W)
        rw [phNext_end hf (by omega), phErr_end hf (by omega)] at C
        have HQ := Lib.hid hq
        clear hf hq
        go_wp2_with fail
        refine (C.out _).mono ?_; rintro e w' ⟨rfl, rfl⟩
        go_wp2_with fail
        go_round
        case rel => exact ⟨k + 1, q, by go_num, rfl, by omega, (by have := HQ.out; omega)⟩
        case measure => simp [intOf]; omega
    · have HQ := Lib.hid hq
      have HK := Lib.hid hk
      clear hq
      go_wp2_with fail
      all_goals first
        | (exfalso; have := HQ.out; omega)
        | (refine (c_alive _).mono ?_
           rintro e w' ⟨rfl, rfl⟩
           go_wp2
           go_ret
           exact ⟨rfl, Below.refl _ _⟩)

set_option maxHeartbeats 2000000 in
set_option maxRecDepth 100000 in
theorem st4 (a b : Int) (ha0 : 0 ≤ a) (ha1 : a ≤ 65535) (hb0 : 0 ≤ b) (hb1 : b ≤ 65535) (hca : 1 < a) (hcb : 300 < b) (w : World) :
    Calls Try.prog 5 #[.int .u16 a, .int .u16 b] w fun e w' => e = .returned (.bool true) ∧ Below w.heap.size w w' := by
  go_enter Try.func5, Try.ntmps5
  go_wp2
  go_loop [6, 16] (fun x i => ∃ (k : Nat) (q : Int), i = .int .i64 k ∧ x = .int .i64 q ∧ (k : Int) ≤ 300 ∧ q = min (k : Int) a) (fun _ i => 301 - (intOf i).toNat)
  case atStart => exact ⟨0, 0, rfl, rfl, by omega, by omega⟩
  case round =>
    obtain ⟨k, q, rfl, rfl, hk, hq⟩ := hrel
    by_cases hlt : (k : Int) < 300
    · by_cases hl : (k : Int) < a
      · have hf : phFine q a = true := (phFine_iff _ _).2 (by omega)
        have hf' : phFine (q + 1) a = true := (phFine_iff _ _).2 (by omega)
        have C := Lib.hid (fun W => c_phnext q a W)
        rw [phNext_on hf (by omega), phErr_on hf (by omega)] at C
        have D := Lib.hid (fun W => c_phleft q a W)
        rw [phLeft_of hf] at D
        have E := Lib.hid (fun W => c_phleft (q + 1) a W)
        rw [phLeft_of hf'] at E
        have hq0 : 0 ≤ q := by omega
        have hq1 : q ≤ 65534 := by omega
        have ht : (a - (q + 1) != a - q - 1) = false := by rw [bne_eq_false_iff_eq]; omega
        have HQ := Lib.hid hq
        clear hf hf' hq
        go_wp2_with fail
        refine (C.out _).mono ?_; rintro e w' ⟨rfl, rfl⟩
        go_wp2_with fail
        refine (E.out _).mono ?_; rintro e w' ⟨rfl, rfl⟩
        go_wp2_with fail
        refine (D.out _).mono ?_; rintro e w' ⟨rfl, rfl⟩
        go_wp2_with fail
        go_round
        case rel => exact ⟨k + 1, q + 1, by go_num, rfl, by omega, (by have := HQ.out; omega)⟩
        case measure => simp [intOf]; omega
      · have hf : phFine q a = true := (phFine_iff _ _).2 (by omega)
        have C := Lib.hid (fun W => c_phnext q a W)
        rw [phNext_end hf (by omega), phErr_end hf (by omega)] at C
        have HQ := Lib.hid hq
        clear hf hq
        go_wp2_with fail
        refine (C.out _).mono ?_; rintro e w' ⟨rfl, rfl⟩
        go_wp2_with fail
        go_round
        case rel => exact ⟨k + 1, q, by go_num, rfl, by omega, (by have := HQ.out; omega)⟩
        case measure => simp [intOf]; omega
    · have HQ := Lib.hid hq
      have HK := Lib.hid hk
      clear hq
      go_wp2_with fail
      all_goals first
        | (exfalso; have := HQ.out; omega)
        | (refine (c_alive _).mono ?_
           rintro e w' ⟨rfl, rfl⟩
           go_wp2
           go_ret
           exact ⟨rfl, Below.refl _ _⟩)

theorem l_stops (a b : Int) (ha : 0 ≤ a ∧ a ≤ 65535) (hb : 0 ≤ b ∧ b ≤ 65535) (w : World) :
    Calls Try.prog 5 #[.int .u16 a, .int .u16 b] w fun e w' => e = .returned (.bool true) ∧ Below w.heap.size w w' := by
  by_cases ca : a ≤ 1 <;> by_cases cb : b ≤ 300
  · exact st1 a b ha.1 ha.2 hb.1 hb.2 ca cb w
  · exact st3 a b ha.1 ha.2 hb.1 hb.2 ca (by omega) w
  · exact st2 a b ha.1 ha.2 hb.1 hb.2 (by omega) cb w
  · exact st4 a b ha.1 ha.2 hb.1 hb.2 (by omega) (by omega) w
end Go.Proofs.Yteckflbnfpmnkaa

/- The law ClaimsTell. -/
import Derived.Test.YtoimcbdajmghkaaLj
import Derived.BigQuiet
import Derived.Deep.QuietTactic
namespace Go.Proofs.Ytoimcbdajmghkaa
open Go.RowKit

set_option maxRecDepth 100000 in
set_option maxHeartbeats 4000000 in
theorem l_tell (sh : Bool) (A : Option Addr) (n c : Nat) (L : List Int) (w : World) (h : LnW w (fun _ => True) A n c L) (p : Int) :
    Calls Try.prog 3 #[.agg #[.bool sh, .slice A n c], .int .i64 p] w fun e w' => e = .returned (.bool true) ∧ Below w.heap.size w w' := by
  have hb0 := up_alloc w (.cells #[.bool sh, .slice A n c] 24)
  have hB := box_rl w sh A n c
  by_cases hn : 30 < n
  · clear h hB
    have HU := Lib.hid hb0
    have hn' : (30 : Int) < (n : Int) := by omega
    clear hb0
    go_enter Try.func3, Try.ntmps3
    go_wp2_with fail
    refine (c_alive _).mono ?_; rintro e w' ⟨rfl, hb⟩
    go_wp2
    go_ret
    exact ⟨rfl, up_trans HU.out hb⟩
  have hn' : ¬ (30 : Int) < (n : Int) := by omega
  have hn1 : n ≤ 30 := by omega
  have HLen := Lib.hid h.len
  obtain ⟨L1, hL1⟩ : ∃ x, x = lnJoinL sh L p := ⟨_, rfl⟩
  obtain ⟨er, her⟩ : ∃ x, x = lnJoinE sh L p := ⟨_, rfl⟩
  obtain ⟨L2, hL2⟩ : ∃ x, x = lnLeaveL sh L p := ⟨_, rfl⟩
  obtain ⟨th, hth⟩ : ∃ x, x = lnThere sh L p := ⟨_, rfl⟩
  obtain ⟨hd, hhd⟩ : ∃ x, x = lnHead sh L := ⟨_, rfl⟩
  obtain ⟨so, hso⟩ : ∃ x, x = lnSome sh L := ⟨_, rfl⟩
  obtain ⟨ah, hah⟩ : ∃ x, x = lnAhead sh L p := ⟨_, rfl⟩
  obtain ⟨fi, hfi⟩ : ∃ x, x = lnFine sh L := ⟨_, rfl⟩
  have HN1 : Hid (L1.length ≤ 31) := Lib.hid (by have := lnJoinL_len sh L p; rw [← hL1, h.len] at this; omega)
  have HN2 : Hid (L2.length ≤ 30) := Lib.hid (by have := lnLeaveL_len sh L p; rw [← hL2, h.len] at this; omega)
  have C1 := Lib.hid (fun W (hW : Below w.heap.size w W) => c_lnjoin (h.below hW) (by omega) (fun _ _ => trivial) sh p)
  have C2 := Lib.hid (fun W (hW : Below w.heap.size w W) => c_mjoin (h.below hW) (by omega) (fun _ _ => trivial) sh p)
  have C3 := Lib.hid (fun W (hW : Below w.heap.size w W) => c_lnleave (h.below hW) (by omega) (fun _ _ => trivial) sh p)
  have C4 := Lib.hid (fun W (hW : Below w.heap.size w W) => c_mleave (h.below hW) (by omega) (fun _ _ => trivial) sh p)
  have C5 := Lib.hid (fun W (hW : Below w.heap.size w W) => c_lnhead (h.below hW) (by omega) sh)
  have C6 := Lib.hid (fun W (hW : Below w.heap.size w W) => c_mhead (h.below hW) (by omega) sh)
  have C7 := Lib.hid (fun W (hW : Below w.heap.size w W) => c_lnahead (h.below hW) (by omega) sh p)
  have C8 := Lib.hid (fun W (hW : Below w.heap.size w W) => c_mahead (h.below hW) (by omega) sh p)
  have C9 := Lib.hid (fun W (hW : Below w.heap.size w W) => c_lnfine (h.below hW) (by omega) sh)
  have C10 := Lib.hid (fun W (hW : Below w.heap.size w W) => c_mfine (h.below hW) (by omega) sh)
  rw [← hL1, ← her] at C1 C2
  rw [← hL2, ← hth] at C3 C4
  rw [← hhd, ← hso] at C5 C6
  rw [← hah, ← hth] at C7 C8
  rw [← hfi] at C9 C10
  clear h hn hL1 her hL2 hth hhd hso hah hfi
  have HX := Lib.hid (two_up w (.cells #[.bool sh, .slice A n c] 24) (.cells #[.bool sh, .slice A n c] 26))
  have hBc := Blk.new (w.alloc (.cells #[.bool sh, .slice A n c] 24)) [.bool sh, .slice A n c] 26
  simp only [show (w.alloc (.cells #[.bool sh, .slice A n c] 24)).heap.size = w.heap.size + 1 by simp] at hBc
  have HB0 := Lib.hid (hB.alloc (.cells #[.bool sh, .slice A n c] 26))
  have HB1 := Lib.hid hBc
  clear hB hBc hb0
  go_enter Try.func3, Try.ntmps3
  go_wp2_with fail

  have HKL0 := HB0
  have HKC0 := HB1
  have HU0 := HX
  clear HB0 HB1
  refine (C1.out _ HU0.out).mono ?_
  rintro e w1 ⟨A1, n1, c1, rfl, hL1, hb1⟩
  have HV1 := Lib.hid hL1
  have HY1 := Lib.hid (up_trans hb1 (up_alloc w1 (.cells #[.bool sh, .slice A1 n1 c1] 26)))
  have HU1 := Lib.hid (up_trans HU0.out HY1.out)
  have HKL1 := Lib.hid (HKL0.out.up (HY1.out) HKL0.out.lt)
  have HKC1 := Lib.hid (HKC0.out.up (HY1.out) HKC0.out.lt)
  have HKA1 := Lib.hid (Blk.new w1 [.bool sh, .slice A1 n1 c1] 26)
  clear hL1 hb1
  have kl0 := HKL1.out.cell 0 _ rfl
  have kl1 := HKL1.out.cell 1 _ rfl
  have kc0 := HKC1.out.cell 0 _ rfl
  have kc1 := HKC1.out.cell 1 _ rfl
  have ka0 := HKA1.out.cell 0 _ rfl
  have ka1 := HKA1.out.cell 1 _ rfl
  go_wp2_with fail
  refine (C2.out _ HU1.out).mono ?_
  rintro e w2 ⟨A2, n2, c2, rfl, hL2, hb2⟩
  clear kl0 kl1 kc0 kc1 ka0 ka1
  have HV2 := Lib.hid hL2
  have HY2 := Lib.hid (up_trans hb2 (up_alloc w2 (.cells #[.bool sh, .slice A2 n2 c2] 24)))
  have HU2 := Lib.hid (up_trans HU1.out HY2.out)
  have HKL2 := Lib.hid (HKL1.out.up (HY2.out) HKL1.out.lt)
  have HKC2 := Lib.hid (HKC1.out.up (HY2.out) HKC1.out.lt)
  have HKA2 := Lib.hid (HKA1.out.up (HY2.out) HKA1.out.lt)
  have HKB2 := Lib.hid (Blk.new w2 [.bool sh, .slice A2 n2 c2] 24)
  clear hL2 hb2
  have kl0 := HKL2.out.cell 0 _ rfl
  have kl1 := HKL2.out.cell 1 _ rfl
  have kc0 := HKC2.out.cell 0 _ rfl
  have kc1 := HKC2.out.cell 1 _ rfl
  have ka0 := HKA2.out.cell 0 _ rfl
  have ka1 := HKA2.out.cell 1 _ rfl
  have kb0 := HKB2.out.cell 0 _ rfl
  have kb1 := HKB2.out.cell 1 _ rfl
  go_wp2_with fail
  refine (C3.out _ HU2.out).mono ?_
  rintro e w3 ⟨A3, n3, c3, rfl, hL3, hb3⟩
  clear kl0 kl1 kc0 kc1 ka0 ka1 kb0 kb1
  have HV3 := Lib.hid hL3
  have HY3 := Lib.hid (up_trans hb3 (up_alloc w3 (.cells #[.bool sh, .slice A3 n3 c3] 26)))
  have HU3 := Lib.hid (up_trans HU2.out HY3.out)
  have HKL3 := Lib.hid (HKL2.out.up (HY3.out) HKL2.out.lt)
  have HKC3 := Lib.hid (HKC2.out.up (HY3.out) HKC2.out.lt)
  have HKA3 := Lib.hid (HKA2.out.up (HY3.out) HKA2.out.lt)
  have HKB3 := Lib.hid (HKB2.out.up (HY3.out) HKB2.out.lt)
  have HKD3 := Lib.hid (Blk.new w3 [.bool sh, .slice A3 n3 c3] 26)
  clear hL3 hb3
  have kl0 := HKL3.out.cell 0 _ rfl
  have kl1 := HKL3.out.cell 1 _ rfl
  have kc0 := HKC3.out.cell 0 _ rfl
  have kc1 := HKC3.out.cell 1 _ rfl
  have ka0 := HKA3.out.cell 0 _ rfl
  have ka1 := HKA3.out.cell 1 _ rfl
  have kb0 := HKB3.out.cell 0 _ rfl
  have kb1 := HKB3.out.cell 1 _ rfl
  have kd0 := HKD3.out.cell 0 _ rfl
  have kd1 := HKD3.out.cell 1 _ rfl
  go_wp2_with fail
  refine (C4.out _ HU3.out).mono ?_
  rintro e w4 ⟨A4, n4, c4, rfl, hL4, hb4⟩
  clear kl0 kl1 kc0 kc1 ka0 ka1 kb0 kb1 kd0 kd1
  have HV4 := Lib.hid hL4
  have HY4 := Lib.hid (up_trans hb4 (up_alloc w4 (.cells #[.bool sh, .slice A4 n4 c4] 24)))
  have HU4 := Lib.hid (up_trans HU3.out HY4.out)
  have HKL4 := Lib.hid (HKL3.out.up (HY4.out) HKL3.out.lt)
  have HKC4 := Lib.hid (HKC3.out.up (HY4.out) HKC3.out.lt)
  have HKA4 := Lib.hid (HKA3.out.up (HY4.out) HKA3.out.lt)
  have HKB4 := Lib.hid (HKB3.out.up (HY4.out) HKB3.out.lt)
  have HKD4 := Lib.hid (HKD3.out.up (HY4.out) HKD3.out.lt)
  have HKG4 := Lib.hid (Blk.new w4 [.bool sh, .slice A4 n4 c4] 24)
  clear hL4 hb4
  have kl0 := HKL4.out.cell 0 _ rfl
  have kl1 := HKL4.out.cell 1 _ rfl
  have kc0 := HKC4.out.cell 0 _ rfl
  have kc1 := HKC4.out.cell 1 _ rfl
  have ka0 := HKA4.out.cell 0 _ rfl
  have ka1 := HKA4.out.cell 1 _ rfl
  have kb0 := HKB4.out.cell 0 _ rfl
  have kb1 := HKB4.out.cell 1 _ rfl
  have kd0 := HKD4.out.cell 0 _ rfl
  have kd1 := HKD4.out.cell 1 _ rfl
  have kg0 := HKG4.out.cell 0 _ rfl
  have kg1 := HKG4.out.cell 1 _ rfl
  go_wp2_with fail
  refine (C5.out _ HU4.out).mono ?_
  rintro e w5 ⟨rfl, hb5⟩
  clear kl0 kl1 kc0 kc1 ka0 ka1 kb0 kb1 kd0 kd1 kg0 kg1
  have HY5 := Lib.hid hb5
  have HU5 := Lib.hid (up_trans HU4.out hb5)
  have HKL5 := Lib.hid (HKL4.out.up (hb5) HKL4.out.lt)
  have HKC5 := Lib.hid (HKC4.out.up (hb5) HKC4.out.lt)
  have HKA5 := Lib.hid (HKA4.out.up (hb5) HKA4.out.lt)
  have HKB5 := Lib.hid (HKB4.out.up (hb5) HKB4.out.lt)
  have HKD5 := Lib.hid (HKD4.out.up (hb5) HKD4.out.lt)
  have HKG5 := Lib.hid (HKG4.out.up (hb5) HKG4.out.lt)
  clear hb5
  have kl0 := HKL5.out.cell 0 _ rfl
  have kl1 := HKL5.out.cell 1 _ rfl
  have kc0 := HKC5.out.cell 0 _ rfl
  have kc1 := HKC5.out.cell 1 _ rfl
  have ka0 := HKA5.out.cell 0 _ rfl
  have ka1 := HKA5.out.cell 1 _ rfl
  have kb0 := HKB5.out.cell 0 _ rfl
  have kb1 := HKB5.out.cell 1 _ rfl
  have kd0 := HKD5.out.cell 0 _ rfl
  have kd1 := HKD5.out.cell 1 _ rfl
  have kg0 := HKG5.out.cell 0 _ rfl
  have kg1 := HKG5.out.cell 1 _ rfl
  go_wp2_with fail
  refine (C6.out _ HU5.out).mono ?_
  rintro e w6 ⟨rfl, hb6⟩
  clear kl0 kl1 kc0 kc1 ka0 ka1 kb0 kb1 kd0 kd1 kg0 kg1
  have HY6 := Lib.hid hb6
  have HU6 := Lib.hid (up_trans HU5.out hb6)
  have HKL6 := Lib.hid (HKL5.out.up (hb6) HKL5.out.lt)
  have HKC6 := Lib.hid (HKC5.out.up (hb6) HKC5.out.lt)
  have HKA6 := Lib.hid (HKA5.out.up (hb6) HKA5.out.lt)
  have HKB6 := Lib.hid (HKB5.out.up (hb6) HKB5.out.lt)
  have HKD6 := Lib.hid (HKD5.out.up (hb6) HKD5.out.lt)
  have HKG6 := Lib.hid (HKG5.out.up (hb6) HKG5.out.lt)
  clear hb6
  have kl0 := HKL6.out.cell 0 _ rfl
  have kl1 := HKL6.out.cell 1 _ rfl
  have kc0 := HKC6.out.cell 0 _ rfl
  have kc1 := HKC6.out.cell 1 _ rfl
  have ka0 := HKA6.out.cell 0 _ rfl
  have ka1 := HKA6.out.cell 1 _ rfl
  have kb0 := HKB6.out.cell 0 _ rfl
  have kb1 := HKB6.out.cell 1 _ rfl
  have kd0 := HKD6.out.cell 0 _ rfl
  have kd1 := HKD6.out.cell 1 _ rfl
  have kg0 := HKG6.out.cell 0 _ rfl
  have kg1 := HKG6.out.cell 1 _ rfl
  go_wp2_with fail
  refine (C7.out _ HU6.out).mono ?_
  rintro e w7 ⟨rfl, hb7⟩
  clear kl0 kl1 kc0 kc1 ka0 ka1 kb0 kb1 kd0 kd1 kg0 kg1
  have HY7 := Lib.hid hb7
  have HU7 := Lib.hid (up_trans HU6.out hb7)
  have HKL7 := Lib.hid (HKL6.out.up (hb7) HKL6.out.lt)
  have HKC7 := Lib.hid (HKC6.out.up (hb7) HKC6.out.lt)
  have HKA7 := Lib.hid (HKA6.out.up (hb7) HKA6.out.lt)
  have HKB7 := Lib.hid (HKB6.out.up (hb7) HKB6.out.lt)
  have HKD7 := Lib.hid (HKD6.out.up (hb7) HKD6.out.lt)
  have HKG7 := Lib.hid (HKG6.out.up (hb7) HKG6.out.lt)
  clear hb7
  have kl0 := HKL7.out.cell 0 _ rfl
  have kl1 := HKL7.out.cell 1 _ rfl
  have kc0 := HKC7.out.cell 0 _ rfl
  have kc1 := HKC7.out.cell 1 _ rfl
  have ka0 := HKA7.out.cell 0 _ rfl
  have ka1 := HKA7.out.cell 1 _ rfl
  have kb0 := HKB7.out.cell 0 _ rfl
  have kb1 := HKB7.out.cell 1 _ rfl
  have kd0 := HKD7.out.cell 0 _ rfl
  have kd1 := HKD7.out.cell 1 _ rfl
  have kg0 := HKG7.out.cell 0 _ rfl
  have kg1 := HKG7.out.cell 1 _ rfl
  go_wp2_with fail
  refine (C8.out _ HU7.out).mono ?_
  rintro e w8 ⟨rfl, hb8⟩
  clear kl0 kl1 kc0 kc1 ka0 ka1 kb0 kb1 kd0 kd1 kg0 kg1
  have HY8 := Lib.hid hb8
  have HU8 := Lib.hid (up_trans HU7.out hb8)
  have HKL8 := Lib.hid (HKL7.out.up (hb8) HKL7.out.lt)
  have HKC8 := Lib.hid (HKC7.out.up (hb8) HKC7.out.lt)
  have HKA8 := Lib.hid (HKA7.out.up (hb8) HKA7.out.lt)
  have HKB8 := Lib.hid (HKB7.out.up (hb8) HKB7.out.lt)
  have HKD8 := Lib.hid (HKD7.out.up (hb8) HKD7.out.lt)
  have HKG8 := Lib.hid (HKG7.out.up (hb8) HKG7.out.lt)
  clear hb8
  have HW1 := Lib.hid (HV1.out.below (up_trans (up_alloc w1 (.cells #[.bool sh, .slice A1 n1 c1] 26)) (up_trans HY2.out (up_trans HY3.out (up_trans HY4.out (up_trans HY5.out (up_trans HY6.out (up_trans HY7.out HY8.out))))))))
  have HW2 := Lib.hid (HV2.out.below (up_trans (up_alloc w2 (.cells #[.bool sh, .slice A2 n2 c2] 24)) (up_trans HY3.out (up_trans HY4.out (up_trans HY5.out (up_trans HY6.out (up_trans HY7.out HY8.out)))))))
  have HW3 := Lib.hid (HV3.out.below (up_trans (up_alloc w3 (.cells #[.bool sh, .slice A3 n3 c3] 26)) (up_trans HY4.out (up_trans HY5.out (up_trans HY6.out (up_trans HY7.out HY8.out))))))
  have HW4 := Lib.hid (HV4.out.below (up_trans (up_alloc w4 (.cells #[.bool sh, .slice A4 n4 c4] 24)) (up_trans HY5.out (up_trans HY6.out (up_trans HY7.out HY8.out)))))
  have kl0 := cell_regrown (HKL8.out.cell 0 _ rfl)
  have kl1 := cell_regrown (HKL8.out.cell 1 _ rfl)
  have kc0 := cell_regrown (HKC8.out.cell 0 _ rfl)
  have kc1 := cell_regrown (HKC8.out.cell 1 _ rfl)
  have ka0 := cell_regrown (HKA8.out.cell 0 _ rfl)
  have ka1 := cell_regrown (HKA8.out.cell 1 _ rfl)
  have kb0 := cell_regrown (HKB8.out.cell 0 _ rfl)
  have kb1 := cell_regrown (HKB8.out.cell 1 _ rfl)
  have kd0 := cell_regrown (HKD8.out.cell 0 _ rfl)
  have kd1 := cell_regrown (HKD8.out.cell 1 _ rfl)
  have kg0 := cell_regrown (HKG8.out.cell 0 _ rfl)
  have kg1 := cell_regrown (HKG8.out.cell 1 _ rfl)
  have hn1' : n1 ≤ 1000 := by have := HW1.out.len; have := HN1.out; omega
  have hn3' : n3 ≤ 1000 := by have := HW3.out.len; have := HN2.out; omega
  have cF := grown_call (w := w8) fun W hW => C9.out W (up_trans HU8.out hW)
  have cG := grown_call (w := w8) fun W hW => C10.out W (up_trans HU8.out hW)
  have cS := grown_call (w := w8) fun W hW => c_lsame (HW1.out.below hW) (HW2.out.below hW) hn1' sh
  have cT := grown_call (w := w8) fun W hW => c_lsame (HW3.out.below hW) (HW4.out.below hW) hn3' sh
  have cA := grown_call (w := w8) fun W _ => c_alive W
  have g1 : (fi == fi) = true := by simp
  have g2 : (er == er) = true := by simp
  have g3 : (th == th) = true := by simp
  have g4 : (hd == hd) = true := by simp
  have g5 : (so == so) = true := by simp
  have g6 : (ah == ah) = true := by simp
  clear hn1' hn3'
  go_wp2_with fail
  refine wp_region_quiet_below (by kernel_rfl) (by kernel_rfl) ?_
  iterate 9 (go_big_quiet_step (first | (go_at_call 14; exact cF _ _) | (go_at_call 15; exact cG _ _) | (go_at_call 16; exact cS _ _)))
  repeat (go_big_quiet_step (first | (go_at_call 16; exact cT _ _) | (go_at_call 5; exact cA _ _)))
  refine wpQuiet_nil ?_
  intro _ hw'
  obtain ⟨⟨dq, osq⟩, hw''⟩ := hw'
  subst hw''
  go_wp2
  go_ret
  exact ⟨rfl, up_trans HU8.out (below_regrown _ dq osq)⟩
end Go.Proofs.Ytoimcbdajmghkaa

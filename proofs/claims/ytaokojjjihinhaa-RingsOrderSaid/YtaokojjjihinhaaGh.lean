/- The ring's List, where the first place is the last one of its memory. -/
import Derived.Test.YtaokojjjihinhaaGe
namespace Go.Proofs.Ytaokojjjihinhaa
open Go.RowKit

set_option maxHeartbeats 4000000 in
set_option maxRecDepth 100000 in
theorem c_list_end {w : World} {t S lo rm f : Nat} {v : Value} {L xs : List Int} (h : RW w t S lo rm f v L xs) (h1 : f + L.length ≤ xs.length) {g c : Nat} (hv : v = .slice (some ⟨g, 0, none⟩) xs.length c) (hfc : f = c) :
    Calls Try.prog 17 #[.pointer (some ⟨t, 0, none⟩)] w (IntsPost w L) := by
  have hrm := h.rm
  have hle := h.rs.le
  have hxr := h.rs.few
  obtain ⟨hfm, hL⟩ := h.rs.list
  obtain ⟨hfn, hft⟩ := h.rs.list2
  have hc := h.c0
  have hc1 := h.box.cell 1 _ rfl
  have hc2 := h.box.cell 2 _ rfl
  have hc3 := h.box.cell 3 _ rfl
  have CN := Lib.hid (c_nob h.c0)
  obtain ⟨n, hn⟩ : ∃ n, n = L.length := ⟨_, rfl⟩
  obtain ⟨m, hm⟩ : ∃ m, m = xs.length := ⟨_, rfl⟩
  have hrow := h.row
  rw [← hn] at hc2
  rw [← hn, ← hm] at hL hfm hfn hft
  rw [← hm] at hrow
  have H := Lib.hid h
  have HN := Lib.hid hn
  have HM := Lib.hid hm
  have hn1 : n ≤ 1024 := by omega
  have hm1 : m ≤ 1024 := by omega
  have hf1 : f ≤ m := by omega
  rw [← hm] at hv
  subst hv
  rw [← hn, ← hm] at h1
  obtain ⟨_, _, e0, hmc, hcm, hrd⟩ := own_slice hrow
  cases e0
  have hc64 : c ≤ 9223372036854775807 := by unfold maxLen at hcm; omega
  rw [show min (f + n) m = f + n by omega, show f + n - m = 0 by omega] at hL
  have HL := Lib.hid hL
  have en : n = 0 := by omega
  have HA : Hid (RD w (lo ≤ ·) 1 (some ⟨g, 0, none⟩) n (((xs.take (f + n)).drop f).map (Value.int .i64))) := Lib.hid (by
    have e2 : ((xs.take (f + n)).drop f).map (Value.int .i64) = [] := by
      rw [en]
      simp
    rw [e2, en]
    exact RD.nil _ _ _ _)
  have HB : Hid (RD w (lo ≤ ·) 1 (some ⟨g, 0, none⟩) 0 ((xs.take 0).map (Value.int .i64))) := Lib.hid (by
    have := hrd.take 0 (by omega)
    simpa using this)
  have g1 : (f : Int) + n ≤ m := by omega
  have g2 : ¬ ((m : Int) < (f : Int) + n) := by omega
  have g3 : (f : Int) + n - m ≤ 0 := by omega
  have g4 : ¬ ((0 : Int) < (f : Int) + n - m) := by omega
  have g5 : c = f := hfc.symm
  have g6 : (c : Int) = f := by omega
  have g7 : c - f = 0 := by omega
  clear en hfc
  clear hfm hft hrd hrow h hL hn hm hle hxr
  go_enter Try.func17, Try.ntmps17
  go_wp2_with (go_at_call 20; refine CN.out.mono ?_; rintro e w' ⟨rfl, rfl⟩)
  go_quiet (fail)
  obtain ⟨k0, hk0⟩ : ∃ k, k = nq := ⟨_, rfl⟩
  rw [← hk0]
  clear hk0
  go_wp2_with fail
  go_quiet (fail)
  all_goals
    obtain ⟨W, hW⟩ : ∃ W, W = (w.drewN k0).drewN nq := ⟨_, rfl⟩
    have HD : Hid (Below w.heap.size w W) := Lib.hid (hW ▸ up_trans (up_drewN w k0) (up_drewN _ nq))
    rw [← hW]
    have C1 := Lib.hid (c_concat (Blk.new W [.slice (some ⟨g, 0, none⟩) n 0, .slice (some ⟨g, 0, none⟩) 0 f] 28) ((HA.out.below HD.out).below (up_alloc W _)) ((HB.out.below HD.out).below (up_alloc W _)) (by omega))
    rw [HL.out] at C1
    clear hW hc hc1 hc2 hc3
    go_wp2_with fail
    all_goals
      refine Calls.mono C1.out ?_
      rintro e w2 ⟨v2, rfl, hown2, hb2⟩
      rw [← HN.out] at hown2
      have HH := Lib.hid (H.out.below (up_trans (up_trans HD.out (up_alloc W _)) hb2))
      obtain ⟨A2, c2, rfl, hl2, hm2, hp2⟩ := list_ints hown2 (up_trans HD.out (up_alloc W _)) hb2
      have HP := Lib.hid hp2
      have k2 := HH.out.box.cell 2 _ rfl
      rw [← HN.out] at k2
      have hc62 : c2 ≤ 9223372036854775807 := by unfold maxLen at hm2; omega
      clear hown2 hb2 hp2
      go_wp2_with fail
      go_quiet (fail)
      go_wp2
      go_ret
      exact HP.out _
end Go.Proofs.Ytaokojjjihinhaa

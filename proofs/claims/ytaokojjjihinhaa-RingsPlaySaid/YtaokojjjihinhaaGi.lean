/- The ring's List, of a ring without memory, and of any. -/
import Derived.Test.YtaokojjjihinhaaGf
import Derived.Test.YtaokojjjihinhaaGg
import Derived.Test.YtaokojjjihinhaaGh
namespace Go.Proofs.Ytaokojjjihinhaa
open Go.RowKit

set_option maxHeartbeats 4000000 in
set_option maxRecDepth 100000 in
theorem c_list_none {w : World} {t S lo rm f : Nat} {v : Value} {L xs : List Int} (h : RW w t S lo rm f v L xs) (hv : v = .slice none 0 0) (h0 : xs.length = 0) :
    Calls Try.prog 17 #[.pointer (some ⟨t, 0, none⟩)] w (IntsPost w L) := by
  have hrm := h.rm
  have hle := h.rs.le
  have hxr := h.rs.few
  obtain ⟨hfm, hL⟩ := h.rs.list
  obtain ⟨hfn, hft⟩ := h.rs.list2
  have hc := h.c0
  have hc1 := h.box.cell 1 _ rfl
  have hc2 := h.box.cell 2 _ rfl
  have hc3 := h.box.cell 3 _ rfl
  have CN := Lib.hid (c_nob h.c0)
  obtain ⟨n, hn⟩ : ∃ n, n = L.length := ⟨_, rfl⟩
  obtain ⟨m, hm⟩ : ∃ m, m = xs.length := ⟨_, rfl⟩
  have hrow := h.row
  rw [← hn] at hc2
  rw [← hn, ← hm] at hL hfm hfn hft
  rw [← hm] at hrow
  have H := Lib.hid h
  have HN := Lib.hid hn
  have HM := Lib.hid hm
  have hn1 : n ≤ 1024 := by omega
  have hm1 : m ≤ 1024 := by omega
  have hf1 : f ≤ m := by omega
  subst hv
  have hL0 : L = [] := by rw [← hL]; simp; omega
  have hn0 : n = 0 := by rw [hn, hL0]; rfl
  have hf0 : f = 0 := by omega
  have HA : Hid (RD w (fun _ => True) 1 none 0 (([] : List Int).map (Value.int .i64))) := Lib.hid (RD.nil _ _ _ _)
  have HL : Hid (([] : List Int) ++ [] = L) := Lib.hid hL0.symm
  subst hf0
  rw [hn0] at HN hc2
  rw [show ((0 : Nat) : Int) = 0 from rfl] at hc1 hc2
  clear hfm hft hrow h hL hn hm hle hxr hL0 hn0
  go_enter Try.func17, Try.ntmps17
  go_wp2_with (go_at_call 20; refine CN.out.mono ?_; rintro e w' ⟨rfl, rfl⟩)
  go_quiet (fail)
  obtain ⟨k0, hk0⟩ : ∃ k, k = nq := ⟨_, rfl⟩
  rw [← hk0]
  clear hk0
  go_wp2_with fail
  go_quiet (fail)
  all_goals
    obtain ⟨W, hW⟩ : ∃ W, W = (w.drewN k0).drewN nq := ⟨_, rfl⟩
    have HD : Hid (Below w.heap.size w W) := Lib.hid (hW ▸ up_trans (up_drewN w k0) (up_drewN _ nq))
    rw [← hW]
    have C1 := Lib.hid (c_concat (Blk.new W [.slice none 0 0, .slice none 0 0] 28) ((HA.out.below HD.out).below (up_alloc W _)) ((HA.out.below HD.out).below (up_alloc W _)) (by omega))
    rw [HL.out] at C1
    clear hW hc hc1 hc2 hc3
    go_wp2_with fail
    all_goals
      refine Calls.mono C1.out ?_
      rintro e w2 ⟨v2, rfl, hown2, hb2⟩
      rw [← HN.out] at hown2
      have HH := Lib.hid (H.out.below (up_trans (up_trans HD.out (up_alloc W _)) hb2))
      obtain ⟨A2, c2, rfl, hl2, hm2, hp2⟩ := list_ints hown2 (up_trans HD.out (up_alloc W _)) hb2
      have HP := Lib.hid hp2
      have k2 := HH.out.box.cell 2 _ rfl
      rw [← HN.out] at k2
      rw [show ((0 : Nat) : Int) = 0 from rfl] at k2
      have hc62 : c2 ≤ 9223372036854775807 := by unfold maxLen at hm2; omega
      clear hown2 hb2 hp2
      go_wp2_with fail
      go_quiet (fail)
      go_wp2
      go_ret
      exact HP.out _
theorem c_list {w : World} {t S lo rm f : Nat} {v : Value} {L xs : List Int} (h : RW w t S lo rm f v L xs) :
    Calls Try.prog 17 #[.pointer (some ⟨t, 0, none⟩)] w (IntsPost w L) := by
  rcases Nat.lt_or_ge xs.length (f + L.length) with h1 | h1
  · exact c_list_round h h1
  · rcases h.row.2 with ⟨hv, h0⟩ | ⟨g, c, cur, hv, _, _, hc, _⟩
    · exact c_list_none h hv h0
    · rcases Nat.lt_or_ge f c with h2 | h2
      · exact c_list_flat h h1 hv h2
      · exact c_list_end h h1 hv (by have := h.rs.list2.1; omega)
end Go.Proofs.Ytaokojjjihinhaa

/- Package choose's numbered, Turn, rising and Fine. -/
import Derived.Test.YtlnnmigoonbbjaaCha
import Derived.Test.YtlnnmigoonbbjaaI
import Derived.LoopTactic
import Derived.BigQuiet
import Derived.Deep.QuietTactic
import Derived.IntWalk
namespace Go.Proofs.Ytlnnmigoonbbjaa
open Go.RowKit

set_option maxHeartbeats 400000 in
theorem c_chnum (no m : Int) (w : World) :
    Calls Try.prog 15 #[.int .i64 no, .int .i64 m] w fun e w' => e = .returned (.bool (chNum no m)) ∧ w = w' := by
  obtain ⟨a, ha⟩ : ∃ a, decide (0 ≤ no) = a := ⟨_, rfl⟩
  obtain ⟨b, hb⟩ : ∃ b, decide (no < m) = b := ⟨_, rfl⟩
  obtain ⟨c, hc⟩ : ∃ c, decide (m ≤ 6) = c := ⟨_, rfl⟩
  have H : Hid (chNum no m = (a && (b && c))) := Lib.hid (by unfold chNum; rw [ha, hb, hc])
  cases a <;> cases b <;> cases c
  all_goals
    go_enter Try.func15, Try.ntmps15
    go_wp2
    go_ret
    exact ⟨ret_bool H.out.symm, rfl⟩

set_option maxHeartbeats 400000 in
theorem c_chturn (no m : Int) (w : World) :
    Calls Try.prog 11 #[.int .i64 no, .int .i64 m] w fun e w' => e = .returned (.int .i64 (chTurn no m)) ∧ w = w' := by
  cases h : chNum no m
  · have H : Hid (chTurn no m = 0) := Lib.hid (by unfold chTurn; rw [h]; rfl)
    have C := Lib.hid (fun W => c_chnum no m W)
    rw [h] at C
    clear h
    go_enter Try.func11, Try.ntmps11
    go_wp2_with (go_at_call 15; refine (C.out _).mono ?_; rintro e w' ⟨rfl, rfl⟩)
    go_ret
    exact ⟨ret_int H.out.symm, rfl⟩
  · obtain ⟨h0, h1, h2⟩ := (chNum_iff no m).1 h
    have C := Lib.hid (fun W => c_chnum no m W)
    rw [h] at C
    obtain ⟨q, hq⟩ : ∃ q, (no == m - 1) = q := ⟨_, rfl⟩
    have H : Hid (chTurn no m = if q = true then 0 else no + 1) := Lib.hid (by unfold chTurn; rw [h, if_pos rfl, ← hq]; simp)
    clear h
    cases q
    all_goals
      go_enter Try.func11, Try.ntmps11
      go_wp2_with (go_at_call 15; refine (C.out _).mono ?_; rintro e w' ⟨rfl, rfl⟩)
      go_ret
      exact ⟨ret_int (by rw [H.out]; first | rfl | simp), rfl⟩

set_option maxHeartbeats 1000000 in
theorem c_chris {w : World} {pl : Nat → Prop} {A : Option Addr} {n c : Nat} {L : List Int} (hR : RD w pl 1 A n (L.map (Value.int .i64))) (hl : L.length = n) (hn : n ≤ 1000) (m : Int) :
    Calls Try.prog 16 #[.slice A n c, .int .i64 m] w fun e w' => e = .returned (.bool (chRis m 0 L)) ∧ w = w' := by
  have HR := Lib.hid hR
  have HL := Lib.hid hl
  clear hR hl
  go_enter Try.func16, Try.ntmps16
  go_wp2
  go_loop [5, 10] (fun s i => ∃ k : Nat, k ≤ n ∧ i = .int .i64 k ∧ s = .int .i64 (chNxt 0 (L.take k)) ∧ chRis m 0 (L.take k) = true) (fun _ i => n - (intOf i).toNat)
  case atStart => exact ⟨0, Nat.zero_le _, rfl, rfl, rfl⟩
  case round =>
    obtain ⟨k, hk, rfl, rfl, hF⟩ := hrel
    have HF := Lib.hid hF
    have hbd := chNxt_bd m _ 0 hF (by omega) (by omega)
    by_cases hlt : k < n
    · have hex : ∃ z, L[k]? = some z := ⟨_, List.getElem?_eq_getElem (by rw [HL.out]; exact hlt)⟩
      obtain ⟨z, hz⟩ := hex
      obtain ⟨b, o, rfl, _, _, hc⟩ := HR.out.at_ (by omega)
      have h1 := hc k (.int .i64 z) (by rw [List.getElem?_map, hz]; rfl)
      have HZ := Lib.hid hz
      obtain ⟨l, hl⟩ : ∃ l, l = chNxt 0 (L.take k) := ⟨_, rfl⟩
      rw [← hl] at hbd ⊢
      have HNL := Lib.hid hl
      have C := Lib.hid (fun W => c_chnum z m W)
      clear hc hF hz hl
      by_cases hzl : z < l
      · have t1 : decide (z < l) = true := decide_eq_true hzl
        have HP : Hid (chRis m 0 L = false) := Lib.hid (ris_bad HZ.out (by rw [← HNL.out]; exact chStep_low hzl))
        clear hzl
        go_wp2
        go_ret
        exact ⟨ret_bool HP.out.symm, rfl⟩
      · have t1 : decide (z < l) = false := decide_eq_false hzl
        cases hq : chNum z m
        · have HP : Hid (chRis m 0 L = false) := Lib.hid (ris_bad HZ.out (chStep_no hq))
          rw [hq] at C
          clear hzl hq
          go_wp2_with (go_at_call 15; refine (C.out _).mono ?_; rintro e w' ⟨rfl, rfl⟩)
          go_ret
          exact ⟨ret_bool HP.out.symm, rfl⟩
        · obtain ⟨z0, z1, z2⟩ := (chNum_iff z m).1 hq
          have HP : Hid (chRis m 0 (L.take (k + 1)) = true) := Lib.hid (ris_next HZ.out HF.out (chStep_ok (by rw [← HNL.out]; omega) hq))
          have HN := Lib.hid (nxt_next HZ.out)
          rw [hq] at C
          clear hzl hq
          go_wp2_with (go_at_call 15; refine (C.out _).mono ?_; rintro e w' ⟨rfl, rfl⟩)
          go_round
          case rel => exact ⟨k + 1, by omega, by go_num, by rw [HN.out], HP.out⟩
          case measure => simp [intOf]; omega
    · have HP : Hid (chRis m 0 L = true) := Lib.hid (ris_all HL.out (by rw [← show k = n by omega]; exact hF))
      obtain rfl : k = n := by omega
      clear hF
      go_wp2
      go_ret
      exact ⟨ret_bool HP.out.symm, rfl⟩

set_option maxHeartbeats 1000000 in
theorem c_chfine {w : World} {pl : Nat → Prop} {A : Option Addr} {n c : Nat} {L : List Int} (hR : RD w pl 1 A n (L.map (Value.int .i64))) (hl : L.length = n) (hn : n ≤ 1000) (d m t : Int) :
    Calls Try.prog 9 #[.agg #[.int .i64 d, .int .i64 m, .int .i64 t, .slice A n c]] w fun e w' => e = .returned (.bool (chFine d m t L)) ∧ Below w.heap.size w w' := by
  have HU := Lib.hid (up_alloc w (.cells #[.int .i64 d, .int .i64 m, .int .i64 t, .slice A n c] 26))
  have CN := Lib.hid (fun W => c_chnum t m W)
  have CR := Lib.hid (c_chris (c := c) (hR.below (up_alloc w (.cells #[.int .i64 d, .int .i64 m, .int .i64 t, .slice A n c] 26))) hl hn m)
  obtain ⟨a, ha⟩ : ∃ a, decide (0 ≤ d) = a := ⟨_, rfl⟩
  obtain ⟨b, hb⟩ : ∃ b, decide (d < 3) = b := ⟨_, rfl⟩
  obtain ⟨p, hp⟩ : ∃ p, chNum t m = p := ⟨_, rfl⟩
  obtain ⟨q, hq⟩ : ∃ q, chRis m 0 L = q := ⟨_, rfl⟩
  have H : Hid (chFine d m t L = (a && (b && (p && q)))) := Lib.hid (by unfold chFine; rw [ha, hb, hp, hq])
  rw [hp] at CN
  rw [hq] at CR
  clear hR hl hp hq
  cases a <;> cases b <;> cases p
  all_goals
    go_enter Try.func9, Try.ntmps9
    go_wp2_with (first | (go_at_call 15; refine (CN.out _).mono ?_; rintro e w' ⟨rfl, rfl⟩) | (go_at_call 16; refine CR.out.mono ?_; rintro e w' ⟨rfl, rfl⟩))
    go_ret
    exact ⟨ret_bool (by rw [H.out]; simp), HU.out⟩
end Go.Proofs.Ytlnnmigoonbbjaa

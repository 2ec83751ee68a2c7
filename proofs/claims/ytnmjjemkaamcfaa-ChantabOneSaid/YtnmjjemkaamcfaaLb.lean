/- Package claims: process, Fine. -/
import Derived.Test.YtnmjjemkaamcfaaSi
import Derived.WalkLawsBesides
import Derived.BigQuiet
import Derived.Deep.QuietTactic
namespace Go.Proofs.Ytnmjjemkaamcfaa
open Go.RowKit

/-- A line's list: it reads as L. -/
structure LnW (w : World) (pl : Nat → Prop) (A : Option Addr) (n c : Nat) (L : List Int) : Prop where
  rd : RD w pl 1 A n (L.map (Value.int .i64))
  len : L.length = n
  nc : n ≤ c
  cm : c ≤ maxLen
theorem LnW.below {w w' : World} {pl : Nat → Prop} {A : Option Addr} {n c : Nat} {L : List Int} (h : LnW w pl A n c L) (hb : Below w.heap.size w w') : LnW w' pl A n c L := ⟨h.rd.below hb, h.len, h.nc, h.cm⟩
theorem LnW.only {s : Nat → Prop} {w w' : World} {pl : Nat → Prop} {A : Option Addr} {n c : Nat} {L : List Int} (h : LnW w pl A n c L) (o : Only s w w') (hs : ∀ k, s k → ¬ pl k) : LnW w' pl A n c L := ⟨h.rd.only o hs, h.len, h.nc, h.cm⟩
theorem LnW.lo {w : World} {pl pl' : Nat → Prop} {A : Option Addr} {n c : Nat} {L : List Int} (h : LnW w pl A n c L) (hl : ∀ b, pl b → pl' b) : LnW w pl' A n c L := ⟨h.rd.lo hl, h.len, h.nc, h.cm⟩
theorem LnW.none (w : World) (pl : Nat → Prop) : LnW w pl none 0 0 [] := ⟨RD.nil _ _ _ _, rfl, Nat.le_refl _, by unfold maxLen; omega⟩
/-- The first k of a line. -/
theorem rd_pre {w : World} {pl : Nat → Prop} {A : Option Addr} {n : Nat} {L : List Int} (h : RD w pl 1 A n (L.map (Value.int .i64))) (k : Nat) (hk : k ≤ n) : RD w pl 1 A k ((L.take k).map (Value.int .i64)) := by
  have := h.take k hk
  rwa [Nat.mul_one, ← List.map_take] at this

set_option maxHeartbeats 400000 in
theorem c_lnp (x : Int) (w : World) :
    Calls Try.prog 72 #[.int .i64 x] w fun e w' => e = .returned (.bool (lnP x)) ∧ w = w' := by
  cases hf : lnP x
  · have H := Lib.hid (lnP_no x hf)
    clear hf
    go_enter Try.func72, Try.ntmps72
    go_wp2
    all_goals
      go_ret
      refine ⟨ret_bool ?_, rfl⟩
      have := H.out
      first
        | rfl
        | (rw [decide_eq_false_iff_not]; omega)
  · obtain ⟨h0, h1⟩ := (lnP_iff x).1 hf
    clear hf
    go_enter Try.func72, Try.ntmps72
    go_wp2
    go_ret
    exact ⟨ret_bool (by first | rfl | (rw [decide_eq_true_iff]; omega)), rfl⟩

theorem box_ln (w : World) (sh : Bool) (A : Option Addr) (n c : Nat) : Blk (w.alloc (.cells #[.bool sh, .slice A n c] 71)) w.heap.size [.bool sh, .slice A n c] 71 := Blk.new w _ _

set_option maxHeartbeats 2000000 in
theorem c_lnfine {w : World} {pl : Nat → Prop} {A : Option Addr} {n c : Nat} {L : List Int} (h : LnW w pl A n c L) (hn : n ≤ 100000) (sh : Bool) :
    Calls Try.prog 51 #[.agg #[.bool sh, .slice A n c]] w fun e w' => e = .returned (.bool (lnFine sh L)) ∧ Below w.heap.size w w' := by
  have hb0 := up_alloc w (.cells #[.bool sh, .slice A n c] 71)
  have hB := box_ln w sh A n c
  generalize hw1 : w.alloc (.cells #[.bool sh, .slice A n c] 71) = w1 at hB hb0
  have HW := Lib.hid hw1
  have HR := Lib.hid (h.rd.below hb0)
  have HL := Lib.hid h.len
  have HU := Lib.hid hb0
  have hnc := h.nc
  have c0 := hB.cell 0 _ rfl
  have c1 := hB.cell 1 _ rfl
  clear h hw1 hb0
  by_cases hbad : sh = false ∧ 1 < n
  · obtain ⟨rfl, h1⟩ := hbad
    have h1' : (1 : Int) < n := by omega
    have HF : Hid (lnFine false L = false) := Lib.hid (by
      have := HL.out
      unfold lnFine
      rw [show decide (L.length < 2) = false by rw [decide_eq_false_iff_not]; omega]
      rfl)
    go_enter Try.func51, Try.ntmps51
    go_wp2_with fail
    go_ret
    exact ⟨ret_bool HF.out.symm, up_alloc _ _⟩
  · have HS : Hid ((sh || decide (L.length < 2)) = true) := Lib.hid (by
      have := HL.out
      cases sh
      · have : L.length < 2 := by
          rcases Nat.lt_or_ge 1 n with h | h
          · exact absurd ⟨rfl, h⟩ hbad
          · omega
        simpa using this
      · rfl)
    have hdec : sh = true ∨ (sh = false ∧ ¬ (1 : Int) < n) := by
      cases sh
      · exact .inr ⟨rfl, fun h => hbad ⟨rfl, by omega⟩⟩
      · exact .inl rfl
    clear hbad
    rcases hdec with rfl | ⟨rfl, hd⟩
    all_goals
      go_enter Try.func51, Try.ntmps51
      go_wp2_with fail
      rw [HW.out]
      go_loop [17] (fun i => ∃ k : Nat, k ≤ n ∧ i = .int .i64 k ∧ lnGood (L.take k) = true) (fun i => n - (intOf i).toNat)
      case atStart => exact ⟨0, Nat.zero_le _, rfl, rfl⟩
      case round =>
        obtain ⟨k, hk, rfl, hF⟩ := hrel
        have HF := Lib.hid hF
        by_cases hlt : k < n
        · have hkL : k < L.length := by rw [HL.out]; exact hlt
          obtain ⟨b, o, rfl, _, _, hc⟩ := HR.out.at_ (by omega)
          have h1 := hc k (.int .i64 L[k]) (by simp [hkL])
          have HN := Lib.hid (lnGood_step L k hkL)
          have HA := Lib.hid (rd_pre HR.out k (by omega))
          have HT : Hid (lnGood (L.take (k + 1)) = false → lnGood L = false) := Lib.hid (lnGood_take (k + 1))
          generalize L[k] = z at h1 HN
          have CP := Lib.hid (fun W => c_lnp z W)
          have CC := Lib.hid (c_contains (c := c) HA.out (by rw [List.length_take]; omega) (by omega) z)
          have hkc : k ≤ c := by omega
          clear hc hF
          obtain ⟨q1, hq1⟩ : ∃ q, q = lnP z := ⟨_, rfl⟩
          obtain ⟨q2, hq2⟩ : ∃ q, q = decide (z ∈ L.take k) := ⟨_, rfl⟩
          rw [← hq1] at CP HN
          rw [← hq2] at CC HN
          have H1 := Lib.hid hq1
          clear hq1 hq2
          cases q1
          · go_wp2_with (first | (go_at_call 72; refine (CP.out _).mono ?_; rintro e w' ⟨rfl, rfl⟩) | (go_at_call 73; refine CC.out.mono ?_; rintro e w' ⟨rfl, rfl⟩))
            go_ret
            exact ⟨ret_bool (by unfold lnFine; rw [HT.out (by rw [HN.out, HF.out]; rfl), Bool.and_false]), HU.out⟩
          · cases q2
            · go_wp2_with (first | (go_at_call 72; refine (CP.out _).mono ?_; rintro e w' ⟨rfl, rfl⟩) | (go_at_call 73; refine CC.out.mono ?_; rintro e w' ⟨rfl, rfl⟩))
              go_round
              case rel => exact ⟨k + 1, by omega, by go_num, by rw [HN.out, HF.out]; rfl⟩
              case measure => simp [intOf]; omega
            · go_wp2_with (first | (go_at_call 72; refine (CP.out _).mono ?_; rintro e w' ⟨rfl, rfl⟩) | (go_at_call 73; refine CC.out.mono ?_; rintro e w' ⟨rfl, rfl⟩))
              go_ret
              exact ⟨ret_bool (by unfold lnFine; rw [HT.out (by rw [HN.out, HF.out]; rfl), Bool.and_false]), HU.out⟩
        · have HG : Hid (lnFine _ L = true) := Lib.hid (show lnFine _ L = true by
            unfold lnFine
            rw [HS.out, ← List.take_length (l := L), HL.out, show n = k by omega, hF]
            rfl)
          obtain rfl : k = n := by omega
          clear hF
          go_wp2
          go_ret
          exact ⟨ret_bool HG.out.symm, HU.out⟩
end Go.Proofs.Ytnmjjemkaamcfaa

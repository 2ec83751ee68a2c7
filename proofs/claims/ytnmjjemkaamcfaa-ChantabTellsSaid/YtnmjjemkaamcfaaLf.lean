/- The document's At and Fine of layer 17. -/
import Derived.Test.YtnmjjemkaamcfaaLb
namespace Go.Proofs.Ytnmjjemkaamcfaa
open Go.RowKit

set_option maxHeartbeats 1000000 in
theorem c_mat {w : World} {pl : Nat → Prop} {A : Option Addr} {n c : Nat} {L : List Int} (hR : RD w pl 1 A n (L.map (Value.int .i64))) (hl : L.length = n) (hn : n ≤ 100000) (p : Int) :
    Calls Try.prog 59 #[.slice A n c, .int .i64 p] w fun e w' => e = .returned (.int .i64 (ixL L p)) ∧ w = w' := by
  have HR := Lib.hid hR
  have HL := Lib.hid hl
  clear hR hl
  go_enter Try.func59, Try.ntmps59
  go_wp2
  go_loop [5] (fun i => ∃ k : Nat, k ≤ n ∧ i = .int .i64 k ∧ ∀ j (hj : j < L.length), j < k → L[j] ≠ p) (fun i => n - (intOf i).toNat)
  case atStart => exact ⟨0, Nat.zero_le _, rfl, fun j _ h => absurd h (by omega)⟩
  case round =>
    obtain ⟨k, hk, rfl, hF⟩ := hrel
    have HF := Lib.hid hF
    clear hF
    by_cases hlt : k < n
    · have hkL : k < L.length := by rw [HL.out]; exact hlt
      obtain ⟨b, o, rfl, _, _, hc⟩ := HR.out.at_ (by omega)
      have h1 := hc k (.int .i64 L[k]) (by simp [hkL])
      clear hc
      obtain ⟨z, hz⟩ : ∃ z, z = L[k] := ⟨_, rfl⟩
      rw [← hz] at h1
      have HZ := Lib.hid hz
      clear hz
      cases he : (z == p)
      · have HE := Lib.hid he
        go_wp2
        go_round
        case rel => exact ⟨k + 1, by omega, by go_num, fun j hj hjk e => by
          rcases Nat.lt_succ_iff_lt_or_eq.1 hjk with h | rfl
          · exact HF.out j hj h e
          · rw [← HZ.out] at e
            rw [e] at HE
            have := HE.out
            simp at this⟩
        case measure => simp [intOf]; omega
      · have HQ := Lib.hid (show ixL L p = k by
          have e : z = p := by simpa using he
          have e1 : ixN L p = k := ixN_of k hkL (by rw [← HZ.out, e]) fun i hi => HF.out i (by omega) hi
          unfold ixL
          rw [e1, if_pos hkL])
        go_wp2
        go_ret
        exact ⟨ret_int HQ.out.symm, rfl⟩
    · have HQ := Lib.hid (show ixL L p = -1 from ixL_no fun hm => by
        obtain ⟨j, hj, e⟩ := List.getElem_of_mem hm
        exact HF.out j hj (by have := HL.out; omega) e)
      obtain rfl : k = n := by omega
      go_wp2
      go_ret
      exact ⟨ret_int HQ.out.symm, rfl⟩

theorem box_rl (w : World) (sh : Bool) (A : Option Addr) (n c : Nat) : Blk (w.alloc (.cells #[.bool sh, .slice A n c] 76)) w.heap.size [.bool sh, .slice A n c] 76 := Blk.new w _ _

set_option maxHeartbeats 4000000 in
theorem c_mfine {w : World} {pl : Nat → Prop} {A : Option Addr} {n c : Nat} {L : List Int} (h : LnW w pl A n c L) (hn : n ≤ 1000) (sh : Bool) :
    Calls Try.prog 77 #[.agg #[.bool sh, .slice A n c]] w fun e w' => e = .returned (.bool (lnFine sh L)) ∧ Below w.heap.size w w' := by
  have hb0 := up_alloc w (.cells #[.bool sh, .slice A n c] 76)
  have hB := box_rl w sh A n c
  generalize hw1 : w.alloc (.cells #[.bool sh, .slice A n c] 76) = w1 at hB hb0
  have HW := Lib.hid hw1
  have HR := Lib.hid (h.rd.below hb0)
  have HL := Lib.hid h.len
  have HU := Lib.hid hb0
  have c0 := hB.cell 0 _ rfl
  have c1 := hB.cell 1 _ rfl
  have HB := Lib.hid hB
  clear h hw1 hb0 hB
  go_enter Try.func77, Try.ntmps77
  go_wp2_with fail
  rw [HW.out]
  go_loopw [3] (fun i wr => ∃ k : Nat, k ≤ n ∧ i = .int .i64 k ∧ lnGood (L.take k) = true ∧ Drew w1 wr) (fun i _ => n - (intOf i).toNat)
  case atStart => exact ⟨0, Nat.zero_le _, rfl, rfl, Drew.refl _⟩
  case round =>
    obtain ⟨k, hk, rfl, hF, d, rfl⟩ := hrel
    by_cases hlt : k < n
    · have hkL : k < L.length := by rw [HL.out]; exact hlt
      obtain ⟨b, o, rfl, _, _, hc⟩ := HR.out.at_ (by omega)
      have h1 := hc k (.int .i64 L[k]) (by simp [hkL])
      have HN := Lib.hid (lnGood_step L k hkL)
      have HT : Hid (lnGood (L.take (k + 1)) = false → lnGood L = false) := Lib.hid (lnGood_take (k + 1))
      have HI := Lib.hid (ixL_first L k hkL)
      have CA := Lib.hid (fun W (hW : Below w1.heap.size w1 W) => c_mat (c := c) (HR.out.below hW) HL.out (by omega) L[k])
      have HF := Lib.hid hF
      generalize L[k] = z at h1 HN HI CA
      have hk0 : (0 : Int) ≤ k := by omega
      have hk1 : (k : Int) < n := by omega
      clear hc hF
      obtain ⟨ix, hix⟩ : ∃ ix, ix = ixL L z := ⟨_, rfl⟩
      rw [← hix] at HI CA
      obtain ⟨q, hq⟩ : ∃ q, q = decide (z ∈ L.take k) := ⟨_, rfl⟩
      rw [← hq] at HI HN
      clear hix hq
      have HQ : Hid (lnP z = false → lnFine sh L = false) := Lib.hid fun e => by unfold lnFine; rw [HT.out (by rw [HN.out, HF.out, e]; rfl), Bool.and_false]
      have HQ2 : Hid (q = true → lnFine sh L = false) := Lib.hid fun e => by unfold lnFine; rw [HT.out (by rw [HN.out, HF.out, e]; cases lnP z <;> rfl), Bool.and_false]
      have HQ3 : Hid (lnP z = true → q = false → lnGood (L.take (k + 1)) = true) := Lib.hid fun e e' => by rw [HN.out, HF.out, e, e']; rfl
      have HU2 := Lib.hid (up_trans HU.out (up_drewN w1 d))
      clear hkL hlt
      by_cases hz0 : z < 0
      · have E := Lib.hid (HQ.out (by cases e : lnP z; rfl; have := (lnP_iff z).1 e; omega))
        have g1 : decide (z < 0) = true := by rw [decide_eq_true_iff]; exact hz0
        go_wp2_with fail
        go_quiet (fail)
        go_wp2
        go_ret
        exact ⟨ret_bool E.out.symm, up_trans HU2.out (up_drewN _ _)⟩
      · have g1 : decide (z < 0) = false := by rw [decide_eq_false_iff_not]; exact hz0
        by_cases hz1 : 15 < z
        · have E := Lib.hid (HQ.out (by cases e : lnP z; rfl; have := (lnP_iff z).1 e; omega))
          have g2 : decide (15 < z) = true := by rw [decide_eq_true_iff]; exact hz1
          go_wp2_with fail
          go_quiet (fail)
          go_wp2
          go_ret
          exact ⟨ret_bool E.out.symm, up_trans HU2.out (up_drewN _ _)⟩
        · have g2 : decide (15 < z) = false := by rw [decide_eq_false_iff_not]; exact hz1
          have HPz : Hid (lnP z = true) := Lib.hid ((lnP_iff z).2 (by omega))
          cases q
          · have E := Lib.hid (HQ3.out HPz.out rfl)
            have g3 := HI.out
            go_wp2_with fail
            go_quiet ((go_at_call 59; exact (CA.out _ (up_drewN _ _)).mono fun _ _ he => ⟨he.1, _, he.2.symm⟩))
            go_wp2
            go_roundw
            case rel => exact ⟨k + 1, by omega, by go_num, E.out, _, rfl⟩
            case measure => simp [intOf]; omega
          · have E := Lib.hid (HQ2.out rfl)
            have g3 := HI.out
            go_wp2_with fail
            go_quiet ((go_at_call 59; exact (CA.out _ (up_drewN _ _)).mono fun _ _ he => ⟨he.1, _, he.2.symm⟩))
            go_wp2
            go_ret
            exact ⟨ret_bool E.out.symm, up_trans HU2.out (up_drewN _ _)⟩
    · have HG : Hid (lnGood L = true) := Lib.hid (by
        rw [← List.take_length (l := L), HL.out, show n = k by omega]
        exact hF)
      have HU2 := Lib.hid (up_trans HU.out (up_drewN w1 d))
      have c0' : (w1.drewN d).cell? ⟨w.heap.size, 0, none⟩ = some (.bool sh) := c0
      have c1' : (w1.drewN d).cell? ⟨w.heap.size, 1, none⟩ = some (.slice A n c) := c1
      obtain rfl : k = n := by omega
      clear hF hlt
      cases sh
      · by_cases h2 : k < 2
        · have hd2 : decide ((k : Int) < 2) = true := by rw [decide_eq_true_iff]; omega
          have E : Hid (lnFine false L = true) := Lib.hid (by unfold lnFine; rw [HG.out, HL.out]; simp [h2])
          go_wp2
          go_ret
          exact ⟨ret_bool E.out.symm, HU2.out⟩
        · have hd2 : decide ((k : Int) < 2) = false := by rw [decide_eq_false_iff_not]; omega
          have E : Hid (lnFine false L = false) := Lib.hid (by unfold lnFine; rw [HG.out, HL.out]; simp [h2])
          go_wp2
          go_ret
          exact ⟨ret_bool E.out.symm, HU2.out⟩
      · have E : Hid (lnFine true L = true) := Lib.hid (by unfold lnFine; rw [HG.out]; rfl)
        go_wp2
        go_ret
        exact ⟨ret_bool E.out.symm, HU2.out⟩
end Go.Proofs.Ytnmjjemkaamcfaa

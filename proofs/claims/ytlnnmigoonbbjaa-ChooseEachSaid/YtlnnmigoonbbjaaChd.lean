/- The document's Turn and Fine of layer 27. -/
import Derived.Test.YtlnnmigoonbbjaaCha
import Derived.Test.YtlnnmigoonbbjaaI
import Derived.LoopTactic
import Derived.BigQuiet
import Derived.Deep.QuietTactic
import Derived.IntWalk
namespace Go.Proofs.Ytlnnmigoonbbjaa
open Go.RowKit

set_option maxHeartbeats 1000000 in
theorem c_rturn (no m : Int) (w : World) :
    Calls Try.prog 12 #[.int .i64 no, .int .i64 m] w fun e w' => e = .returned (.int .i64 (chTurn no m)) ∧ w = w' := by
  by_cases h1 : m < 1
  · have H : Hid (chTurn no m = 0) := Lib.hid (by
      unfold chTurn
      rw [if_neg]
      intro e
      have := (chNum_iff no m).1 e
      omega)
    have t1 : decide (m < 1) = true := decide_eq_true h1
    clear h1
    go_enter Try.func12, Try.ntmps12
    go_wp2
    go_ret
    exact ⟨ret_int H.out.symm, rfl⟩
  have t1 : decide (m < 1) = false := decide_eq_false h1
  by_cases h2 : 6 < m
  · have H : Hid (chTurn no m = 0) := Lib.hid (by
      unfold chTurn
      rw [if_neg]
      intro e
      have := (chNum_iff no m).1 e
      omega)
    have t2 : decide (6 < m) = true := decide_eq_true h2
    clear h1 h2
    go_enter Try.func12, Try.ntmps12
    go_wp2
    go_ret
    exact ⟨ret_int H.out.symm, rfl⟩
  have t2 : decide (6 < m) = false := decide_eq_false h2
  by_cases h3 : no < 0
  · have H : Hid (chTurn no m = 0) := Lib.hid (by
      unfold chTurn
      rw [if_neg]
      intro e
      have := (chNum_iff no m).1 e
      omega)
    have t3 : decide (no < 0) = true := decide_eq_true h3
    clear h1 h2 h3
    go_enter Try.func12, Try.ntmps12
    go_wp2
    go_ret
    exact ⟨ret_int H.out.symm, rfl⟩
  have t3 : decide (no < 0) = false := decide_eq_false h3
  by_cases h4 : m ≤ no
  · have H : Hid (chTurn no m = 0) := Lib.hid (by
      unfold chTurn
      rw [if_neg]
      intro e
      have := (chNum_iff no m).1 e
      omega)
    have t4 : decide (m ≤ no) = true := decide_eq_true h4
    clear h1 h2 h3 h4
    go_enter Try.func12, Try.ntmps12
    go_wp2
    go_ret
    exact ⟨ret_int H.out.symm, rfl⟩
  have t4 : decide (m ≤ no) = false := decide_eq_false h4
  have H0 : chTurn no m = if no = m - 1 then 0 else no + 1 := by
    unfold chTurn
    rw [if_pos ((chNum_iff no m).2 (by omega))]
  by_cases h5 : no = m - 1
  · have H : Hid (chTurn no m = 0) := Lib.hid (by rw [H0, if_pos h5])
    have t5 : (no == m - 1) = true := by simp [h5]
    have b1 : 1 ≤ m := by omega
    have b2 : m ≤ 6 := by omega
    clear h1 h2 h3 h4 h5 H0
    go_enter Try.func12, Try.ntmps12
    go_wp2
    go_ret
    exact ⟨ret_int H.out.symm, rfl⟩
  · have H : Hid (chTurn no m = no + 1) := Lib.hid (by rw [H0, if_neg h5])
    have t5 : (no == m - 1) = false := beq_eq_false_iff_ne.2 h5
    have b1 : 1 ≤ m := by omega
    have b2 : m ≤ 6 := by omega
    have b3 : 0 ≤ no := by omega
    have b4 : no < m := by omega
    clear h1 h2 h3 h4 h5 H0
    go_enter Try.func12, Try.ntmps12
    go_wp2
    go_ret
    exact ⟨ret_int H.out.symm, rfl⟩

theorem box_ch (w : World) (d m t : Int) (A : Option Addr) (n c : Nat) : Blk (w.alloc (.cells #[.int .i64 d, .int .i64 m, .int .i64 t, .slice A n c] 24)) w.heap.size [.int .i64 d, .int .i64 m, .int .i64 t, .slice A n c] 24 := Blk.new w _ _
theorem chFine_no {d m t : Int} {L : List Int} (h : d < 0 ∨ 2 < d ∨ m < 1 ∨ 6 < m ∨ t < 0 ∨ m ≤ t) : chFine d m t L = false := by
  cases e : chFine d m t L
  · rfl
  · unfold chFine at e
    rw [Bool.and_eq_true, Bool.and_eq_true, Bool.and_eq_true, chNum_iff] at e
    simp at e
    omega
theorem chFine_ok {d m t : Int} {L : List Int} (h0 : 0 ≤ d) (h1 : d ≤ 2) (h2 : m ≤ 6) (h3 : 0 ≤ t) (h4 : t < m) : chFine d m t L = chRis m 0 L := by
  unfold chFine
  rw [(chNum_iff t m).2 ⟨h3, h4, h2⟩, decide_eq_true h0, decide_eq_true (by omega)]
  rfl
theorem nxt_prev {L : List Int} {k : Nat} {z : Int} (h : L[k]? = some z) : chNxt 0 (L.take (k + 1)) = z + 1 := nxt_next h

set_option maxHeartbeats 4000000 in
theorem c_rfine {w : World} {pl : Nat → Prop} {A : Option Addr} {n c : Nat} {L : List Int} (hR : RD w pl 1 A n (L.map (Value.int .i64))) (hl : L.length = n) (hn : n ≤ 1000) (d m t : Int) :
    Calls Try.prog 10 #[.agg #[.int .i64 d, .int .i64 m, .int .i64 t, .slice A n c]] w fun e w' => e = .returned (.bool (chFine d m t L)) ∧ Below w.heap.size w w' := by
  have hb0 := up_alloc w (.cells #[.int .i64 d, .int .i64 m, .int .i64 t, .slice A n c] 24)
  have hB := box_ch w d m t A n c
  generalize hw1 : w.alloc (.cells #[.int .i64 d, .int .i64 m, .int .i64 t, .slice A n c] 24) = w1 at hB hb0
  have HW := Lib.hid hw1
  have HR := Lib.hid (hR.below hb0)
  have HL := Lib.hid hl
  have HU := Lib.hid hb0
  have c0 := hB.cell 0 _ rfl
  have c1 := hB.cell 1 _ rfl
  have c2 := hB.cell 2 _ rfl
  have c3 := hB.cell 3 _ rfl
  clear hR hw1 hb0 hB hl
  by_cases g1 : d < 0
  · have H : Hid (chFine d m t L = false) := Lib.hid (chFine_no (by omega))
    have t1 : decide (d < 0) = true := decide_eq_true g1
    clear g1
    go_enter Try.func10, Try.ntmps10
    go_wp2_with fail
    rw [HW.out]
    go_wp2
    go_ret
    exact ⟨ret_bool H.out.symm, HU.out⟩
  have t1 : decide (d < 0) = false := decide_eq_false g1
  by_cases g2 : 2 < d
  · have H : Hid (chFine d m t L = false) := Lib.hid (chFine_no (by omega))
    have t2 : decide (2 < d) = true := decide_eq_true g2
    clear g1 g2
    go_enter Try.func10, Try.ntmps10
    go_wp2_with fail
    rw [HW.out]
    go_wp2
    go_ret
    exact ⟨ret_bool H.out.symm, HU.out⟩
  have t2 : decide (2 < d) = false := decide_eq_false g2
  by_cases g3 : m < 1
  · have H : Hid (chFine d m t L = false) := Lib.hid (chFine_no (by omega))
    have t3 : decide (m < 1) = true := decide_eq_true g3
    clear g1 g2 g3
    go_enter Try.func10, Try.ntmps10
    go_wp2_with fail
    rw [HW.out]
    go_wp2
    go_ret
    exact ⟨ret_bool H.out.symm, HU.out⟩
  have t3 : decide (m < 1) = false := decide_eq_false g3
  by_cases g4 : 6 < m
  · have H : Hid (chFine d m t L = false) := Lib.hid (chFine_no (by omega))
    have t4 : decide (6 < m) = true := decide_eq_true g4
    clear g1 g2 g3 g4
    go_enter Try.func10, Try.ntmps10
    go_wp2_with fail
    rw [HW.out]
    go_wp2
    go_ret
    exact ⟨ret_bool H.out.symm, HU.out⟩
  have t4 : decide (6 < m) = false := decide_eq_false g4
  by_cases g5 : t < 0
  · have H : Hid (chFine d m t L = false) := Lib.hid (chFine_no (by omega))
    have t5 : decide (t < 0) = true := decide_eq_true g5
    clear g1 g2 g3 g4 g5
    go_enter Try.func10, Try.ntmps10
    go_wp2_with fail
    rw [HW.out]
    go_wp2
    go_ret
    exact ⟨ret_bool H.out.symm, HU.out⟩
  have t5 : decide (t < 0) = false := decide_eq_false g5
  by_cases g6 : m ≤ t
  · have H : Hid (chFine d m t L = false) := Lib.hid (chFine_no (by omega))
    have t6 : decide (m ≤ t) = true := decide_eq_true g6
    clear g1 g2 g3 g4 g5 g6
    go_enter Try.func10, Try.ntmps10
    go_wp2_with fail
    rw [HW.out]
    go_wp2
    go_ret
    exact ⟨ret_bool H.out.symm, HU.out⟩
  have t6 : decide (m ≤ t) = false := decide_eq_false g6
  have H : Hid (chFine d m t L = chRis m 0 L) := Lib.hid (chFine_ok (by omega) (by omega) (by omega) (by omega) (by omega))
  have m0 : m ≤ 6 := by omega
  clear g1 g2 g3 g4 g5 g6
  go_enter Try.func10, Try.ntmps10
  go_wp2_with fail
  rw [HW.out]
  go_wp2_with fail
  go_loopw [3] (fun i wr => ∃ k : Nat, k ≤ n ∧ i = .int .i64 k ∧ chRis m 0 (L.take k) = true ∧ Drew w1 wr) (fun i _ => n - (intOf i).toNat)
  case atStart => exact ⟨0, Nat.zero_le _, rfl, rfl, Drew.refl _⟩
  case round =>
    obtain ⟨k, hk, rfl, hF, dd, rfl⟩ := hrel
    have HU2 := Lib.hid (up_trans HU.out (up_drewN w1 dd))
    have c1' : (w1.drewN dd).cell? ⟨w.heap.size, 1, none⟩ = some (.int .i64 m) := c1
    have c3' : (w1.drewN dd).cell? ⟨w.heap.size, 3, none⟩ = some (.slice A n c) := c3
    by_cases hlt : k < n
    · have hex : ∃ z, L[k]? = some z := ⟨_, List.getElem?_eq_getElem (by rw [HL.out]; exact hlt)⟩
      obtain ⟨z, hz⟩ := hex
      obtain ⟨b, o, rfl, _, _, hc⟩ := HR.out.at_ (by omega)
      have h1 := hc k (.int .i64 z) (by rw [List.getElem?_map, hz]; rfl)
      have h1' : (w1.drewN dd).cell? ⟨b, o + k, none⟩ = some (.int .i64 z) := h1
      have HZ := Lib.hid hz
      have HF := Lib.hid hF
      have hk0 : (0 : Int) ≤ k := by omega
      have hk1 : (k : Int) < n := by omega
      by_cases hz0 : z < 0
      · have E : Hid (chFine d m t L = false) := Lib.hid (by
          rw [H.out]
          refine ris_bad HZ.out (chStep_no ?_)
          cases e : chNum z m
          · rfl
          · have := (chNum_iff z m).1 e; omega)
        have g1 : decide (z < 0) = true := decide_eq_true hz0
        clear hc hF hz hz0
        go_wp2_with fail
        go_quiet (fail)
        go_wp2
        go_ret
        exact ⟨ret_bool E.out.symm, up_trans HU2.out (up_drewN _ _)⟩
      have g1 : decide (z < 0) = false := decide_eq_false hz0
      by_cases hz1 : m ≤ z
      · have E : Hid (chFine d m t L = false) := Lib.hid (by
          rw [H.out]
          refine ris_bad HZ.out (chStep_no ?_)
          cases e : chNum z m
          · rfl
          · have := (chNum_iff z m).1 e; omega)
        have g2 : decide (m ≤ z) = true := decide_eq_true hz1
        clear hc hF hz hz0 hz1
        go_wp2_with fail
        go_quiet (fail)
        go_wp2
        go_ret
        exact ⟨ret_bool E.out.symm, up_trans HU2.out (up_drewN _ _)⟩
      have g2 : decide (m ≤ z) = false := decide_eq_false hz1
      have HN : Hid (chNum z m = true) := Lib.hid ((chNum_iff z m).2 (by omega))
      rcases Nat.eq_zero_or_pos k with h0 | h0
      · have g3 : decide (0 < (k : Int)) = false := decide_eq_false (by omega)
        have E : Hid (chRis m 0 (L.take (k + 1)) = true) := Lib.hid (ris_next HZ.out HF.out (chStep_ok (by rw [h0]; show (0 : Int) ≤ z; omega) HN.out))
        have h00 : (k : Int) = 0 := by omega
        have HK0 := Lib.hid h00
        have g4 : decide (0 < k) = false := decide_eq_false (by omega)
        clear hc hF hz hz0 hz1 h00 h0
        go_wp2_with fail
        go_quiet (fail)
        go_wp2
        go_roundw
        case rel => exact ⟨k + 1, by omega, by go_num, E.out, _, rfl⟩
        case measure => simp [intOf]; omega
      · have hej : ∃ j : Nat, k = j + 1 := ⟨k - 1, by omega⟩
        obtain ⟨j, hj⟩ := hej
        have hey : ∃ y, L[j]? = some y := ⟨_, List.getElem?_eq_getElem (by rw [HL.out]; omega)⟩
        obtain ⟨y, hy⟩ := hey
        have h2 := hc j (.int .i64 y) (by rw [List.getElem?_map, hy]; rfl)
        have h2' : (w1.drewN dd).cell? ⟨b, o + j, none⟩ = some (.int .i64 y) := h2
        have HNx : Hid (chNxt 0 (L.take k) = y + 1) := Lib.hid (by rw [hj]; exact nxt_next hy)
        have j0 : 0 ≤ (k : Int) - 1 := by omega
        have j1 : (k : Int) - 1 < n := by omega
        have j2 : ((k : Int) - 1).toNat = j := by omega
        have g3 : decide (0 < (k : Int)) = true := decide_eq_true (by omega)
        have g3' : decide (0 < k) = true := decide_eq_true h0
        clear hc hF hz hy
        by_cases hzy : z ≤ y
        · have E : Hid (chFine d m t L = false) := Lib.hid (by
            rw [H.out]
            exact ris_bad HZ.out (chStep_low (by rw [HNx.out]; omega)))
          have g4 : decide (z ≤ y) = true := decide_eq_true hzy
          clear hz0 hz1 hzy hj
          go_wp2_with fail
          go_quiet (fail)
          go_wp2
          go_ret
          exact ⟨ret_bool E.out.symm, up_trans HU2.out (up_drewN _ _)⟩
        · have E : Hid (chRis m 0 (L.take (k + 1)) = true) := Lib.hid (ris_next HZ.out HF.out (chStep_ok (by rw [HNx.out]; omega) HN.out))
          have g4 : decide (z ≤ y) = false := decide_eq_false hzy
          clear hz0 hz1 hzy hj
          go_wp2_with fail
          go_quiet (fail)
          go_wp2
          go_roundw
          case rel => exact ⟨k + 1, by omega, by go_num, E.out, _, rfl⟩
          case measure => simp [intOf]; omega
    · have E : Hid (chFine d m t L = true) := Lib.hid (by
        rw [H.out]
        exact ris_all HL.out (by rw [← show k = n by omega]; exact hF))
      obtain rfl : k = n := by omega
      clear hF
      go_wp2
      go_ret
      exact ⟨ret_bool E.out.symm, HU2.out⟩
end Go.Proofs.Ytlnnmigoonbbjaa

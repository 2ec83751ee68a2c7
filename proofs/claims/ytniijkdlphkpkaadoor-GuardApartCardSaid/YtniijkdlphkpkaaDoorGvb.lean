/- Package guard's small functions: what is wrong with one field, and which of some errors is named first. -/
import Derived.Test.YtniijkdlphkpkaaDoorGva
import Derived.Test.YtniijkdlphkpkaaDoorWe
import Derived.Test.YtniijkdlphkpkaaDoorCf
import Derived.Test.YtniijkdlphkpkaaDoorM
import Derived.LoopTactic
namespace Go.Proofs.YtniijkdlphkpkaaDoor
open Go.RowKit

set_option maxHeartbeats 400000 in
theorem c_gown (b : Bool) (w : World) : Calls Tryd.prog 37 #[.bool b] w fun e w' => e = .returned (.int .i64 (ownE b)) ∧ w = w' := by
  cases b
  all_goals
    go_enter Tryd.func37, Tryd.ntmps37
    go_wp2
    go_ret
    exact ⟨rfl, rfl⟩
set_option maxHeartbeats 400000 in
theorem c_goth (n : Int) (w : World) : Calls Tryd.prog 39 #[.int .i64 n] w fun e w' => e = .returned (.int .i64 (othE n)) ∧ w = w' := by
  have H := Lib.hid (show othE n = if n = 0 then 0 else 3 from rfl)
  by_cases h : n = 0
  · subst h
    go_enter Tryd.func39, Tryd.ntmps39
    go_wp2
    go_ret
    exact ⟨rfl, rfl⟩
  · rw [if_neg h] at H
    have hn : (n != 0) = true := by simpa [bne] using h
    clear h
    go_enter Tryd.func39, Tryd.ntmps39
    go_wp2
    go_ret
    exact ⟨ret_int H.out.symm, rfl⟩
set_option maxHeartbeats 400000 in
theorem c_gbelow (n m : Int) (w : World) : Calls Tryd.prog 38 #[.int .i64 n, .int .i64 m] w fun e w' => e = .returned (.bool (inB n m)) ∧ w = w' := by
  by_cases h : 0 ≤ n
  · go_enter Tryd.func38, Tryd.ntmps38
    go_wp2
    go_ret
    exact ⟨ret_bool (by simp [inB, h]), rfl⟩
  · go_enter Tryd.func38, Tryd.ntmps38
    go_wp2
    go_ret
    exact ⟨ret_bool (by simp [inB]; omega), rfl⟩

set_option maxHeartbeats 1000000 in
theorem c_eindex {w : World} {pl : Nat → Prop} {A : Option Addr} {n c : Nat} {L : List Int} (hR : RD w pl 1 A n (L.map (Value.int .i64))) (hl : L.length = n) (hn : n ≤ 100000) (p : Int) :
    Calls Tryd.prog 49 #[.slice A n c, .int .i64 p] w fun e w' => (∃ j : Int, e = .returned (.int .i64 j) ∧ decide (0 ≤ j) = decide (p ∈ L)) ∧ w = w' := by
  have HR := Lib.hid hR
  have HL := Lib.hid hl
  clear hR hl
  go_enter Tryd.func49, Tryd.ntmps49
  go_wp2
  go_loop [8] (fun i => ∃ k : Nat, k ≤ n ∧ i = .int .i64 k ∧ ∀ j (hj : j < L.length), j < k → L[j] ≠ p) (fun i => n - (intOf i).toNat)
  case atStart => exact ⟨0, Nat.zero_le _, rfl, fun j _ h => absurd h (by omega)⟩
  case round =>
    obtain ⟨k, hk, rfl, hF⟩ := hrel
    have HF := Lib.hid hF
    clear hF
    by_cases hlt : k < n
    · have hkL : k < L.length := by rw [HL.out]; exact hlt
      obtain ⟨b, o, rfl, _, _, hc⟩ := HR.out.at_ (by omega)
      have h1 := hc k (.int .i64 L[k]) (by simp [hkL])
      clear hc
      obtain ⟨z, hz⟩ : ∃ z, z = L[k] := ⟨_, rfl⟩
      rw [← hz] at h1
      have HZ := Lib.hid hz
      clear hz
      cases he : (p == z)
      · have HE := Lib.hid he
        go_wp2
        go_round
        case rel => exact ⟨k + 1, by omega, by go_num, fun j hj hjk e => by
          rcases Nat.lt_succ_iff_lt_or_eq.1 hjk with h | rfl
          · exact HF.out j hj h e
          · rw [← HZ.out] at e
            rw [e] at HE
            have := HE.out
            simp at this⟩
        case measure => simp [intOf]; omega
      · have HQ := Lib.hid (show p ∈ L by
          have e : p = z := by simpa using he
          rw [e, HZ.out]
          exact List.getElem_mem hkL)
        go_wp2
        go_ret
        exact ⟨⟨(k : Int), rfl, by simp [HQ.out]⟩, rfl⟩
    · have HQ := Lib.hid (show ¬ p ∈ L from fun hm => by
        obtain ⟨j, hj, e⟩ := List.getElem_of_mem hm
        exact HF.out j hj (by have := HL.out; omega) e)
      obtain rfl : k = n := by omega
      go_wp2
      go_ret
      exact ⟨⟨-1, rfl, by simp [HQ.out]⟩, rfl⟩

set_option maxHeartbeats 400000 in
theorem c_econtains {w : World} {pl : Nat → Prop} {A : Option Addr} {n c : Nat} {L : List Int} (hR : RD w pl 1 A n (L.map (Value.int .i64))) (hl : L.length = n) (hn : n ≤ 100000) (p : Int) :
    Calls Tryd.prog 36 #[.slice A n c, .int .i64 p] w fun e w' => e = .returned (.bool (decide (p ∈ L))) ∧ w = w' := by
  have C := Lib.hid (c_eindex (c := c) hR hl hn p)
  clear hR hl
  go_enter Tryd.func36, Tryd.ntmps36
  go_wp2_with (go_at_call 49; refine C.out.mono ?_; rintro e w' ⟨⟨j, rfl, hj⟩, rfl⟩; have HJ := Lib.hid hj; clear hj)
  go_ret
  exact ⟨ret_bool HJ.out, rfl⟩

/-- Which of the errors is named first. -/
theorem first_8 {l : List Int} (h : decide (8 ∈ l) = true) : firstE l = 8 := if_pos (of_decide_eq_true h)
theorem first_3 {l : List Int} (h : decide (8 ∈ l) = false) (h3 : decide (3 ∈ l) = true) : firstE l = 3 := by unfold firstE; rw [if_neg (of_decide_eq_false h), if_pos (of_decide_eq_true h3)]
theorem first_0 {l : List Int} (h : decide (8 ∈ l) = false) (h3 : decide (3 ∈ l) = false) : firstE l = 0 := by unfold firstE; rw [if_neg (of_decide_eq_false h), if_neg (of_decide_eq_false h3)]
set_option maxHeartbeats 1000000 in
theorem c_gfirst {w : World} {pl : Nat → Prop} {A : Option Addr} {n c : Nat} {L : List Int} (hR : RD w pl 1 A n (L.map (Value.int .i64))) (hl : L.length = n) (hn : n ≤ 100000) :
    Calls Tryd.prog 22 #[.slice A n c] w fun e w' => e = .returned (.int .i64 (firstE L)) ∧ Below w.heap.size w w' := by
  have C := Lib.hid (fun W (hW : Below w.heap.size w W) (p : Int) => c_econtains (c := c) (hR.below hW) hl hn p)
  have C1 := Lib.hid (C.out (w.alloc (.cells #[.int .i64 8, .int .i64 3] 24)) (up_alloc _ _))
  have HU := Lib.hid (up_alloc w (.cells #[.int .i64 8, .int .i64 3] 24))
  have KB := Blk.new w [.int .i64 8, .int .i64 3] 24
  have k0 := KB.cell 0 _ rfl
  have k1 := KB.cell 1 _ rfl
  clear hR hl KB
  have H8 := Lib.hid (@first_8 L)
  have H3 := Lib.hid (@first_3 L)
  have H0 := Lib.hid (@first_0 L)
  go_enter Tryd.func22, Tryd.ntmps22
  go_wp2
  go_loop [7] (fun i => i = .int .i64 0 ∨ (i = .int .i64 1 ∧ decide (8 ∈ L) = false) ∨ (i = .int .i64 2 ∧ decide (8 ∈ L) = false ∧ decide (3 ∈ L) = false)) (fun i => 2 - (intOf i).toNat)
  case atStart => exact .inl rfl
  case round =>
    rcases hrel with rfl | ⟨rfl, h8⟩ | ⟨rfl, h8, h3⟩
    · cases h8 : decide ((8 : Int) ∈ L)
      · have c1 := C1.out 8
        rw [h8] at c1
        have HH := Lib.hid h8
        clear h8
        go_wp2_with (go_at_call 36; refine c1.mono ?_; rintro e w' ⟨rfl, rfl⟩)
        go_round
        case rel => exact .inr (.inl ⟨rfl, by first | exact HH.out | trivial⟩)
        case measure => simp [intOf]
      · have c1 := C1.out 8
        rw [h8] at c1
        have HH := Lib.hid (H8.out h8)
        clear h8
        go_wp2_with (go_at_call 36; refine c1.mono ?_; rintro e w' ⟨rfl, rfl⟩)
        go_ret
        exact ⟨ret_int HH.out.symm, HU.out⟩
    · cases h3 : decide ((3 : Int) ∈ L)
      · have c1 := C1.out 3
        rw [h3] at c1
        have HH := Lib.hid h8
        have HI := Lib.hid h3
        clear h8 h3
        go_wp2_with (go_at_call 36; refine c1.mono ?_; rintro e w' ⟨rfl, rfl⟩)
        go_round
        case rel => exact .inr (.inr ⟨rfl, HH.out, by first | exact HI.out | trivial⟩)
        case measure => simp [intOf]
      · have c1 := C1.out 3
        rw [h3] at c1
        have HH := Lib.hid (H3.out h8 h3)
        clear h8 h3
        go_wp2_with (go_at_call 36; refine c1.mono ?_; rintro e w' ⟨rfl, rfl⟩)
        go_ret
        exact ⟨ret_int HH.out.symm, HU.out⟩
    · have HH := Lib.hid (H0.out h8 h3)
      clear h8 h3
      go_wp2
      go_ret
      exact ⟨ret_int HH.out.symm, HU.out⟩
end Go.Proofs.YtniijkdlphkpkaaDoor

/- The heap's up and down. -/
import Derived.Test.YtbfmcdjnjnfdlaaTh
namespace Go.Proofs.Ytbfmcdjnjnfdlaa
open Go.RowKit

theorem PW.below {w w' : World} {q o : Nat} {cs : List Value} {tq : TypeId} {lo : Nat} {v : Value} {xs : List Tm} (h : PW w q o cs tq lo v xs) (hb : Below w.heap.size w w') : PW w' q o cs tq lo v xs :=
  ⟨h.box.up hb h.box.lt, h.lt, own_below h.row hb, h.ne, h.few⟩
theorem PW.swapped {w w' : World} {q o : Nat} {cs : List Value} {tq : TypeId} {lo : Nat} {v : Value} {xs ys : List Tm} {e : Ending} (h : PW w q o cs tq lo v xs) (d : SwapPost w lo v xs.length ys e w') (hl : ys.length = xs.length) : PW w' q o cs tq lo v ys ∧ Only (PS q v) w w' :=
  ⟨⟨h.box.only d.2.2 (fun e => h.qg q e rfl), h.lt, by rw [hl]; exact d.2.1, h.ne, by rw [hl]; exact h.few⟩, d.2.2.mono fun _ _ e => .inr e⟩
theorem PW.low {w : World} {q o : Nat} {cs : List Value} {tq : TypeId} {lo : Nat} {v : Value} {xs : List Tm} (h : PW w q o cs tq lo v xs) (i j : Nat) (hi : i < xs.length) (hj : j < xs.length) {b : Bool} (e : ltB (gt xs i) (gt xs j) = b) :
    Calls Try.prog 56 #[v, .int .i64 i, .int .i64 j] w fun e w' => e = .returned (.bool b) ∧ Below w.heap.size w w' := e ▸ c_less h.row h.few i j hi hj
theorem PW.swp {w : World} {q o : Nat} {cs : List Value} {tq : TypeId} {lo : Nat} {v : Value} {xs : List Tm} (h : PW w q o cs tq lo v xs) (i j : Nat) (hi : i < xs.length) (hj : j < xs.length) :
    Calls Try.prog 57 #[v, .int .i64 i, .int .i64 j] w fun e w' => e = .returned (.tuple #[]) ∧ PW w' q o cs tq lo v (swapL xs i j) ∧ Only (PS q v) w w' :=
  (c_swap h.row h.few i j hi hj).mono fun _ _ d => ⟨d.1, h.swapped d (swapL_len xs i j)⟩

/-- The pile's slice stays; its timers are ys. -/
def StayPost (w : World) (q o : Nat) (cs : List Value) (tq : TypeId) (lo : Nat) (v : Value) (R : List Tm → Prop) (r : Value) (e : Ending) (w' : World) : Prop :=
  ∃ ys, e = .returned r ∧ R ys ∧ PW w' q o cs tq lo v ys ∧ Only (PS q v) w w'

theorem up_tail {n i j : Nat} {xs ys : List Tm} (ht : ∀ k, n ≤ k → gt ys k = gt xs k) (hi : i < n) (hj : j < n) (hn : n ≤ ys.length) : ∀ k, n ≤ k → gt (swapL ys i j) k = gt xs k := fun k hk => by
  rw [swapL_o (by omega) (by omega) (by omega) (by omega)]
  exact ht k hk
set_option maxHeartbeats 2000000 in
theorem c_up {w : World} {q o : Nat} {cs : List Value} {tq : TypeId} {lo : Nat} {v : Value} {xs : List Tm} (h : PW w q o cs tq lo v xs) (n j : Nat) (hn : n ≤ xs.length) (hj : j < n) (hu : UpTo n j xs) :
    Calls Try.prog 35 #[.iface 67 (.pointer (some ⟨q, o, none⟩)), .int .i64 j] w (StayPost w q o cs tq lo v (fun ys => ys.Perm xs ∧ Heap n ys ∧ ∀ k, n ≤ k → gt ys k = gt xs k) (.tuple #[])) := by
  have hf := h.few
  have H := Lib.hid h
  have HU := Lib.hid hu
  have hfn : n ≤ 2000 := by omega
  have HN := Lib.hid hn
  clear h hu hf hn
  go_enter Try.func35, Try.ntmps35
  go_wp2
  go_loopw [1] (fun jv wr => ∃ (k : Nat) (ys : List Tm), jv = .int .i64 k ∧ k < n ∧ ys.length = xs.length ∧ ys.Perm xs ∧ (∀ k, n ≤ k → gt ys k = gt xs k) ∧ UpTo n k ys ∧ PW wr q o cs tq lo v ys ∧ Only (PS q v) w wr) (fun jv _ => (intOf jv).toNat)
  case atStart => exact ⟨j, xs, rfl, hj, rfl, List.Perm.refl _, fun _ _ => rfl, HU.out, H.out, Only.refl _ _⟩
  case round =>
    obtain ⟨k, ys, rfl, hk, hl, hp, ht, hu, hw, ho⟩ := hrel
    have HW := Lib.hid hw
    have HO := Lib.hid ho
    have HP := Lib.hid hp
    have HU := Lib.hid hu
    have HT := Lib.hid ht
    have hln : n ≤ ys.length := by rw [hl]; exact HN.out
    have HLN := Lib.hid hln
    have HL := Lib.hid hl
    clear hw ho hp hu hl ht hln
    rcases Nat.eq_zero_or_pos k with rfl | hk0
    · rw [show ((0 : Nat) : Int) = 0 from rfl]
      go_wp2
      go_end0
      exact ⟨ys, rfl, ⟨HP.out, HU.out.zero, HT.out⟩, HW.out, HO.out⟩
    · obtain ⟨i, hi⟩ : ∃ i : Nat, par k = i := ⟨_, rfl⟩
      have hdiv : ((k : Int) - 1) / 2 = (i : Int) := by unfold par at hi; omega
      have hik : i < k := by unfold par at hi; omega
      have hne : ((i : Int) == (k : Int)) = false := beq_eq_false_iff_ne.2 (by omega)
      have HI := Lib.hid hi
      clear hi
      have hml := m_less HW.out.cell
      cases hb : ltB (gt ys k) (gt ys i)
      · have C := Lib.hid (HW.out.low k i (by have := HLN.out; omega) (by have := HLN.out; omega) hb)
        have HB := Lib.hid hb
        clear hb
        go_wp2_with (go_at_call 56; refine C.out.mono ?_; rintro e w1 ⟨rfl, hb1⟩; have HB1 := Lib.hid hb1; clear hb1)
        go_end0
        exact ⟨ys, rfl, ⟨HP.out, HU.out.stop (by rw [HI.out]; exact le_of_no HB.out), HT.out⟩, HW.out.below HB1.out, HO.out.below_trans HB1.out⟩
      · have C := Lib.hid (HW.out.low k i (by have := HLN.out; omega) (by have := HLN.out; omega) hb)
        have HB := Lib.hid hb
        clear hb
        go_wp2_with (first
          | (go_at_call 56; refine C.out.mono ?_; rintro e w1 ⟨rfl, hb1⟩; have HB1 := Lib.hid hb1; have hms := m_swap (HW.out.below hb1).cell; have CS := Lib.hid ((HW.out.below hb1).swp i k (by have := HLN.out; omega) (by have := HLN.out; omega)); clear hb1 hml)
          | (go_at_call 57; refine CS.out.mono ?_; rintro e w2 ⟨rfl, hp2, ho2⟩; have HP2 := Lib.hid hp2; have HO2 := Lib.hid ho2; clear hp2 ho2 hms))
        go_roundw
        case rel => exact ⟨i, _, rfl, by omega, (swapL_len _ _ _).trans HL.out, (swapL_perm (by have := HLN.out; omega) (by have := HLN.out; omega)).trans HP.out, up_tail HT.out (by omega) (by omega) HLN.out, HU.out.step HLN.out hk0 hk HI.out (lt_of_yes HB.out), HP2.out, (HO.out.below_trans HB1.out).trans HO2.out⟩
        case measure => simp [intOf]; omega
end Go.Proofs.Ytbfmcdjnjnfdlaa

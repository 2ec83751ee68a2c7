/- The heap's down. -/
import Derived.Test.YtbfmcdjnjnfdlaaTi
namespace Go.Proofs.Ytbfmcdjnjnfdlaa
open Go.RowKit

/-- What down leaves: its timers are ys; b tells whether it went down. -/
def DownPost (w : World) (q o : Nat) (cs : List Value) (tq : TypeId) (lo : Nat) (v : Value) (n i0 : Nat) (xs : List Tm) (e : Ending) (w' : World) : Prop :=
  ∃ (b : Bool) (ys : List Tm), e = .returned (.bool b) ∧ ys.Perm xs ∧ ys.length = xs.length ∧ (∀ k, n ≤ k → gt ys k = gt xs k) ∧ ((b = true ∧ Heap n ys) ∨ (b = false ∧ UpTo n i0 ys)) ∧ PW w' q o cs tq lo v ys ∧ Only (PS q v) w w'
theorem down_post {w w' : World} {q o : Nat} {cs : List Value} {tq : TypeId} {lo : Nat} {v : Value} {n i0 k : Nat} {xs ys : List Tm} (hp : ys.Perm xs) (hl : ys.length = xs.length) (ht : ∀ k, n ≤ k → gt ys k = gt xs k) (hd : DownTo n i0 k ys)
    (hc : ∀ j, 0 < j → j < n → par j = k → leT (gt ys k) (gt ys j)) (hw : PW w' q o cs tq lo v ys) (ho : Only (PS q v) w w') : DownPost w q o cs tq lo v n i0 xs (.returned (.bool (decide (i0 < k)))) w' := by
  have hs := hd.stop hc
  have hge := hd.ge
  by_cases e : k = i0
  · refine ⟨false, ys, ?_, hp, hl, ht, .inr ⟨rfl, hs.2 e⟩, hw, ho⟩
    rw [decide_eq_false (by omega)]
  · refine ⟨true, ys, ?_, hp, hl, ht, .inl ⟨rfl, hs.1 e⟩, hw, ho⟩
    rw [decide_eq_true (by omega)]
theorem down_tail {n i j : Nat} {xs ys : List Tm} (ht : ∀ k, n ≤ k → gt ys k = gt xs k) (hi : i < n) (hj : j < n) (hn : n ≤ ys.length) : ∀ k, n ≤ k → gt (swapL ys i j) k = gt xs k := fun k hk => by
  rw [swapL_o (by omega) (by omega) (by omega) (by omega)]
  exact ht k hk
theorem kid {k j : Nat} (h0 : 0 < j) (h : par j = k) : j = 2 * k + 1 ∨ j = 2 * k + 2 := by unfold par at h; omega
theorem kid1 (k : Nat) : par (2 * k + 1) = k := by unfold par; omega
theorem kid2 (k : Nat) : par (2 * k + 2) = k := by unfold par; omega

theorem kids_of {n k a b : Nat} {ys : List Tm} {t : Tm} (ha : a = 2 * k + 1) (hb : b = a + 1) (pa : leT t (gt ys a)) (pb : b < n → leT t (gt ys b)) : ∀ j, 0 < j → j < n → par j = k → leT t (gt ys j) := fun j h0 hj hp => by
  rcases kid h0 hp with e | e
  · rw [e, ← ha]; exact pa
  · have e' : j = b := by omega
    rw [e']; exact pb (by omega)

set_option maxHeartbeats 4000000 in
theorem c_down {w : World} {q o : Nat} {cs : List Value} {tq : TypeId} {lo : Nat} {v : Value} {xs : List Tm} (h : PW w q o cs tq lo v xs) (i0 n : Nat) (hn : n ≤ xs.length) (hi : i0 ≤ n) (hd : DownTo n i0 i0 xs) :
    Calls Try.prog 34 #[.iface 67 (.pointer (some ⟨q, o, none⟩)), .int .i64 i0, .int .i64 n] w (DownPost w q o cs tq lo v n i0 xs) := by
  have hf := h.few
  have H := Lib.hid h
  have HD := Lib.hid hd
  have hfn : n ≤ 2000 := by omega
  have HN := Lib.hid hn
  clear h hd hf hn
  go_enter Try.func34, Try.ntmps34
  go_wp2
  go_loopw [7] (fun iv wr => ∃ (k : Nat) (ys : List Tm), iv = .int .i64 k ∧ k ≤ n ∧ ys.length = xs.length ∧ ys.Perm xs ∧ (∀ k, n ≤ k → gt ys k = gt xs k) ∧ DownTo n i0 k ys ∧ PW wr q o cs tq lo v ys ∧ Only (PS q v) w wr) (fun iv _ => n - (intOf iv).toNat)
  case atStart => exact ⟨i0, xs, rfl, hi, rfl, List.Perm.refl _, fun _ _ => rfl, HD.out, H.out, Only.refl _ _⟩
  case round =>
    obtain ⟨k, ys, rfl, hk, hl, hp, ht, hd, hw, ho⟩ := hrel
    have HW := Lib.hid hw
    have HO := Lib.hid ho
    have HP := Lib.hid hp
    have HD' := Lib.hid hd
    have HL := Lib.hid hl
    have HT := Lib.hid ht
    have hln : n ≤ ys.length := by rw [HL.out]; exact HN.out
    have HLN := Lib.hid hln
    clear hw ho hp hd hl ht hln
    obtain ⟨a, ha⟩ : ∃ a : Nat, a = 2 * k + 1 := ⟨_, rfl⟩
    obtain ⟨b, hb⟩ : ∃ b : Nat, b = a + 1 := ⟨_, rfl⟩
    have e1 : 2 * (k : Int) + 1 = (a : Int) := by omega
    have e2 : (a : Int) + 1 = (b : Int) := by omega
    have h1 : a ≤ 2 * k + 1 := by omega
    have h2 : 2 * k + 1 ≤ a := by omega
    have h3 : b ≤ a + 1 := by omega
    have h4 : a + 1 ≤ b := by omega
    have HA := Lib.hid ha
    have HB := Lib.hid hb
    clear ha hb
    have hml := m_less HW.out.cell
    by_cases han : a < n
    · by_cases hbn : b < n
      · cases hba : ltB (gt ys b) (gt ys a)
        · have C := Lib.hid (HW.out.low b a (by have := HLN.out; omega) (by have := HLN.out; omega) hba)
          have BA := Lib.hid hba
          clear hba
          cases hjk : ltB (gt ys a) (gt ys k)
          · have JK := Lib.hid hjk
            clear hjk
            go_wp2_with fail
            refine Calls.mono C.out ?_
            rintro e w1 ⟨rfl, hb1⟩
            have HB1 := Lib.hid hb1
            clear hb1 hml
            have hml1 := m_less (HW.out.below HB1.out).cell
            have C2 := Lib.hid ((HW.out.below HB1.out).low a k (by have := HLN.out; omega) (by have := HLN.out; omega) JK.out)
            go_wp2_with fail
            refine Calls.mono C2.out ?_
            rintro e w2 ⟨rfl, hb2⟩
            have HB2 := Lib.hid hb2
            clear hb2 hml1
            go_wp2_with fail
            go_ret
            exact down_post HP.out HL.out HT.out HD'.out (kids_of HA.out HB.out (le_of_no JK.out) (fun _ => (le_of_no JK.out).trans (le_of_no BA.out))) ((HW.out.below HB1.out).below HB2.out) ((HO.out.below_trans HB1.out).below_trans HB2.out)
          · have JK := Lib.hid hjk
            clear hjk
            go_wp2_with fail
            refine Calls.mono C.out ?_
            rintro e w1 ⟨rfl, hb1⟩
            have HB1 := Lib.hid hb1
            clear hb1 hml
            have hml1 := m_less (HW.out.below HB1.out).cell
            have C2 := Lib.hid ((HW.out.below HB1.out).low a k (by have := HLN.out; omega) (by have := HLN.out; omega) JK.out)
            go_wp2_with fail
            refine Calls.mono C2.out ?_
            rintro e w2 ⟨rfl, hb2⟩
            have HB2 := Lib.hid hb2
            clear hb2 hml1
            have hms := m_swap ((HW.out.below HB1.out).below HB2.out).cell
            have CS := Lib.hid (((HW.out.below HB1.out).below HB2.out).swp k a (by have := HLN.out; omega) (by have := HLN.out; omega))
            go_wp2_with fail
            refine Calls.mono CS.out ?_
            rintro e w3 ⟨rfl, hp3, ho3⟩
            have HP3 := Lib.hid hp3
            have HO3 := Lib.hid ho3
            clear hp3 ho3 hms
            go_wp2_with fail
            go_roundw
            case rel => exact ⟨a, _, rfl, by omega, (swapL_len _ _ _).trans HL.out, (swapL_perm (by have := HLN.out; omega) (by have := HLN.out; omega)).trans HP.out, down_tail HT.out (by omega) (by omega) HLN.out, HD'.out.step HLN.out (by omega) (by omega) (by unfold par; omega) (lt_of_yes JK.out) (kids_of HA.out HB.out (leT.refl _) (fun _ => le_of_no BA.out)), HP3.out, ((HO.out.below_trans HB1.out).below_trans HB2.out).trans HO3.out⟩
            case measure => simp [intOf]; omega
        · have C := Lib.hid (HW.out.low b a (by have := HLN.out; omega) (by have := HLN.out; omega) hba)
          have BA := Lib.hid hba
          clear hba
          cases hjk : ltB (gt ys b) (gt ys k)
          · have JK := Lib.hid hjk
            clear hjk
            go_wp2_with fail
            refine Calls.mono C.out ?_
            rintro e w1 ⟨rfl, hb1⟩
            have HB1 := Lib.hid hb1
            clear hb1 hml
            have hml1 := m_less (HW.out.below HB1.out).cell
            have C2 := Lib.hid ((HW.out.below HB1.out).low b k (by have := HLN.out; omega) (by have := HLN.out; omega) JK.out)
            go_wp2_with fail
            refine Calls.mono C2.out ?_
            rintro e w2 ⟨rfl, hb2⟩
            have HB2 := Lib.hid hb2
            clear hb2 hml1
            go_wp2_with fail
            go_ret
            exact down_post HP.out HL.out HT.out HD'.out (kids_of HA.out HB.out ((le_of_no JK.out).trans (lt_of_yes BA.out).le) (fun _ => le_of_no JK.out)) ((HW.out.below HB1.out).below HB2.out) ((HO.out.below_trans HB1.out).below_trans HB2.out)
          · have JK := Lib.hid hjk
            clear hjk
            go_wp2_with fail
            refine Calls.mono C.out ?_
            rintro e w1 ⟨rfl, hb1⟩
            have HB1 := Lib.hid hb1
            clear hb1 hml
            have hml1 := m_less (HW.out.below HB1.out).cell
            have C2 := Lib.hid ((HW.out.below HB1.out).low b k (by have := HLN.out; omega) (by have := HLN.out; omega) JK.out)
            go_wp2_with fail
            refine Calls.mono C2.out ?_
            rintro e w2 ⟨rfl, hb2⟩
            have HB2 := Lib.hid hb2
            clear hb2 hml1
            have hms := m_swap ((HW.out.below HB1.out).below HB2.out).cell
            have CS := Lib.hid (((HW.out.below HB1.out).below HB2.out).swp k b (by have := HLN.out; omega) (by have := HLN.out; omega))
            go_wp2_with fail
            refine Calls.mono CS.out ?_
            rintro e w3 ⟨rfl, hp3, ho3⟩
            have HP3 := Lib.hid hp3
            have HO3 := Lib.hid ho3
            clear hp3 ho3 hms
            go_wp2_with fail
            go_roundw
            case rel => exact ⟨b, _, rfl, by omega, (swapL_len _ _ _).trans HL.out, (swapL_perm (by have := HLN.out; omega) (by have := HLN.out; omega)).trans HP.out, down_tail HT.out (by omega) (by omega) HLN.out, HD'.out.step HLN.out (by omega) (by omega) (by unfold par; omega) (lt_of_yes JK.out) (kids_of HA.out HB.out (lt_of_yes BA.out).le (fun _ => leT.refl _)), HP3.out, ((HO.out.below_trans HB1.out).below_trans HB2.out).trans HO3.out⟩
            case measure => simp [intOf]; omega
      · have hbn' : n ≤ b := by omega
        have HBN := Lib.hid hbn
        clear hbn
        cases hjk : ltB (gt ys a) (gt ys k)
        · have JK := Lib.hid hjk
          clear hjk
          have C2 := Lib.hid (HW.out.low a k (by have := HLN.out; omega) (by have := HLN.out; omega) JK.out)
          go_wp2_with fail
          refine Calls.mono C2.out ?_
          rintro e w2 ⟨rfl, hb2⟩
          have HB2 := Lib.hid hb2
          clear hb2 hml
          go_wp2_with fail
          go_ret
          exact down_post HP.out HL.out HT.out HD'.out (kids_of HA.out HB.out (le_of_no JK.out) (fun h => absurd h HBN.out)) (HW.out.below HB2.out) (HO.out.below_trans HB2.out)
        · have JK := Lib.hid hjk
          clear hjk
          have C2 := Lib.hid (HW.out.low a k (by have := HLN.out; omega) (by have := HLN.out; omega) JK.out)
          go_wp2_with fail
          refine Calls.mono C2.out ?_
          rintro e w2 ⟨rfl, hb2⟩
          have HB2 := Lib.hid hb2
          clear hb2 hml
          have hms := m_swap (HW.out.below HB2.out).cell
          have CS := Lib.hid ((HW.out.below HB2.out).swp k a (by have := HLN.out; omega) (by have := HLN.out; omega))
          go_wp2_with fail
          refine Calls.mono CS.out ?_
          rintro e w3 ⟨rfl, hp3, ho3⟩
          have HP3 := Lib.hid hp3
          have HO3 := Lib.hid ho3
          clear hp3 ho3 hms
          go_wp2_with fail
          go_roundw
          case rel => exact ⟨a, _, rfl, by omega, (swapL_len _ _ _).trans HL.out, (swapL_perm (by have := HLN.out; omega) (by have := HLN.out; omega)).trans HP.out, down_tail HT.out (by omega) (by omega) HLN.out, HD'.out.step HLN.out (by omega) (by omega) (by unfold par; omega) (lt_of_yes JK.out) (kids_of HA.out HB.out (leT.refl _) (fun h => absurd h HBN.out)), HP3.out, (HO.out.below_trans HB2.out).trans HO3.out⟩
          case measure => simp [intOf]; omega
    · have han' : n ≤ a := by omega
      clear han
      go_wp2_with fail
      go_ret
      exact down_post HP.out HL.out HT.out HD'.out (fun j h0 hj hp => by have := kid h0 hp; omega) HW.out HO.out
end Go.Proofs.Ytbfmcdjnjnfdlaa

/- The contracts of the functions that read a handle out of a text: package handle's and the document's. -/
import Derived.Test.YtmdpcpefkenicaaDoorHt
import Derived.Test.YtmdpcpefkenicaaDoorHp
import Derived.Lib.Strings
namespace Go.Proofs.YtmdpcpefkenicaaDoor
open Go.RowKit

set_option maxHeartbeats 1000000 in
theorem c_plain (s : ByteArray) (hs : s.size ≤ 1000000) (w : World) :
    Calls Tryd.prog 25 #[.string s] w fun e w' => e = .returned (.tuple #[.int .i64 (plainV s.data.toList), .bool (plainB s.data.toList)]) ∧ w = w' := by
  have hll : s.data.toList.length = s.size := by simp
  by_cases h0 : 0 < s.size
  · have hE1 : ¬ s.toList = [] := by
      rw [ByteArray.toList_eq]
      intro e
      rw [e, List.length_nil] at hll
      omega
    have hE2 : s.toList.isEmpty = false := by
      cases e : s.toList with
      | nil => exact absurd e hE1
      | cons c l => rfl
    have hne : s.data.toList ≠ [] := by intro e; rw [e] at hll; simp at hll; omega
    have hh : s.data.toList.headD 0 = s[0] := by
      have := drop_cons s 0 h0
      rw [List.drop_zero] at this
      rw [this]
      rfl
    by_cases h1 : (s[0] == 48) = true ∧ 1 < s.size
    · have e48 : s[0] = 48 := by simpa using h1.1
      have hP := plain_zero s.data.toList (by rw [hh]; exact h1.1) (by rw [hll]; exact h1.2)
      rw [plainV_no _ hP, hP]
      have hb : ((s[0].toNat : Int) == 48) = true := by rw [e48]; rfl
      have h2 := h1.2
      clear hh h1 e48 hne hll hP
      go_enter Tryd.func25, Tryd.ntmps25
      go_wp2
      go_ret2
      exact ⟨rfl, rfl⟩
    · have hP := plain_else s.data.toList hne (by
        rw [hh]
        cases e : (s[0] == 48)
        · exact .inl rfl
        · exact .inr (by rw [hll]; by_cases h3 : 1 < s.size
                         · exact absurd ⟨e, h3⟩ h1
                         · omega))
      have hb : (¬ (s[0].toNat : Int) = 48) ∨ s.size ≤ 1 := by
        by_cases h3 : 1 < s.size
        · refine .inl fun e => h1 ⟨?_, h3⟩
          rw [beq_iff_eq]
          exact UInt8.toNat_inj.1 (by have : (48 : UInt8).toNat = 48 := rfl; omega)
        · exact .inr (by omega)
      have HP := Lib.hid hP
      have HL := Lib.hid hll
      clear hh h1 hne hll hP
      have core : (((s[0].toNat : Int) == 48) = false ∨ ((((s[0].toNat : Int) == 48) = true) ∧ s.size ≤ 1)) := by
        cases e : ((s[0].toNat : Int) == 48)
        · exact .inl rfl
        · rcases hb with hb | hb
          · exact absurd (by simpa using e) hb
          · exact .inr ⟨rfl, hb⟩
      clear hb
      rcases core with hb | ⟨hb, hb2⟩
      all_goals
        go_enter Tryd.func25, Tryd.ntmps25
        go_wp2
        go_loop [4, 5] (fun n i => ∃ k : Nat, k ≤ s.size ∧ i = .int .i64 k ∧ (s.data.toList.take k).all isDig = true ∧ n = .int .i64 (numV 1000000000 0 (s.data.toList.take k))) (fun _ i => s.size - (intOf i).toNat)
        case atStart => exact ⟨0, Nat.zero_le _, rfl, rfl, rfl⟩
        case round =>
          obtain ⟨k, hk, rfl, hall, rfl⟩ := hrel
          obtain ⟨hn0, hn1⟩ := numV_bd (s.data.toList.take k) 0 (by omega) (by omega) hall
          have HA := Lib.hid hall
          clear hall
          by_cases hlt : k < s.size
          · have HS := Lib.hid (take_snoc s k hlt)
            by_cases hd : 48 ≤ (s[k].toNat : Int) ∧ (s[k].toNat : Int) ≤ 57
            · obtain ⟨d0, d1⟩ := hd
              have hdig : isDig s[k] = true := decide_eq_true (by omega)
              have HD := Lib.hid hdig
              clear hdig
              go_wp2
              go_round
              case rel =>
                refine ⟨k + 1, by omega, by go_num, ?_, ?_⟩
                · rw [HS.out, List.all_append, HA.out, Bool.true_and]
                  simp [HD.out]
                · rw [HS.out, numV_app]
                  rfl
              case measure => simp [intOf]; omega
            · have hnd : s.data.toList.all isDig = false := by
                rw [List.all_eq_false]
                refine ⟨s[k], ?_, ?_⟩
                · have := drop_cons s k hlt
                  exact List.mem_of_mem_drop (i := k) (by rw [this]; exact List.mem_cons_self)
                · intro hh
                  have := of_decide_eq_true hh
                  omega
              have hP2 : plainB s.data.toList = false := by rw [HP.out]; exact hnd
              have HV := Lib.hid (plainV_no _ hP2)
              have HP2 := Lib.hid hP2
              have HN := Lib.hid hd
              clear hnd hP2 hd
              go_wp2
              all_goals first
                | (go_ret2; exact ⟨ret_ib HV.out.symm HP2.out.symm, rfl⟩)
                | (exfalso; have := HN.out; omega)
          · obtain rfl : k = s.size := by omega
            have hall2 : s.data.toList.all isDig = true := by
              have := HA.out
              rwa [List.take_of_length_le (by rw [HL.out]; exact Nat.le_refl _)] at this
            have hP2 : plainB s.data.toList = true := by rw [HP.out]; exact hall2
            have HV := Lib.hid (plainV_of _ hP2)
            have HP2 := Lib.hid hP2
            clear hall2 hP2
            go_wp2
            go_ret2
            exact ⟨ret_ib (by rw [HV.out, List.take_of_length_le (by rw [HL.out]; exact Nat.le_refl _)]) HP2.out.symm, rfl⟩
  · have hl0 : s.data.toList = [] := List.eq_nil_of_length_eq_zero (by omega)
    have hP : plainB s.data.toList = false := by rw [hl0]; rfl
    rw [plainV_no _ hP, hP]
    have hE1 : s.toList = [] := by rw [ByteArray.toList_eq]; exact hl0
    clear hl0 hP hll
    go_enter Tryd.func25, Tryd.ntmps25
    go_wp2
    go_ret2
    exact ⟨rfl, rfl⟩

theorem c_plainL (s : ByteArray) (l : List UInt8) (hl : s.data.toList = l) (hs : s.size ≤ 1000000) (w : World) :
    Calls Tryd.prog 25 #[.string s] w fun e w' => e = .returned (.tuple #[.int .i64 (plainV l), .bool (plainB l)]) ∧ w = w' := by
  subst hl
  exact c_plain s hs w

set_option maxHeartbeats 1000000 in
theorem c_rparse (s : ByteArray) (hs : s.size ≤ 1000000) (w : World) :
    Calls Tryd.prog 21 #[.string s] w fun e w' => e = .returned (.tuple #[.int .i64 (parseH s.data.toList), .int .i64 (parseE s.data.toList)]) ∧ w = w' := by
  have hll : s.data.toList.length = s.size := by simp
  have HL := Lib.hid hll
  clear hll
  go_enter Tryd.func21, Tryd.ntmps21
  go_wp2
  go_loop [4] (fun i => ∃ k : Nat, k ≤ s.size ∧ i = .int .i64 k ∧ (s.data.toList.take k).all (· != 46) = true) (fun i => s.size - (intOf i).toNat)
  case atStart => exact ⟨0, Nat.zero_le _, rfl, rfl⟩
  case round =>
    obtain ⟨k, hk, rfl, hall⟩ := hrel
    have HA := Lib.hid hall
    clear hall
    by_cases hlt : k < s.size
    · by_cases h46 : s[k] = 46
      · have e0 := drop_cons s k hlt
        have e1 : headP s.data.toList = s.data.toList.take k := headP_at _ k HA.out (.inr ⟨_, by rw [e0, h46]⟩)
        have e2 : (headP s.data.toList).length = k := by rw [e1, List.length_take, HL.out]; omega
        have e3 : tailP s.data.toList = s.data.toList.drop (k + 1) := by unfold tailP; rw [e2]
        have hmid := parseB_mid s.data.toList (by rw [e2, HL.out]; exact hlt)
        have x1 : (s.extract 0 k).data.toList = headP s.data.toList := by rw [Lib.extract_data, e1]; simp
        have x2 : (s.extract (k + 1) s.size).data.toList = tailP s.data.toList := by
          rw [Lib.extract_data, e3]
          exact List.take_of_length_le (by rw [List.length_drop, HL.out]; omega)
        have y1 : (s.extract 0 k).size ≤ 1000000 := by rw [ByteArray.size_extract]; omega
        have y2 : (s.extract (k + 1) s.size).size ≤ 1000000 := by rw [ByteArray.size_extract]; omega
        have hb1 : ((s[k].toNat : Int) == 46) = true := by rw [h46]; rfl
        have hb2 : ((s[k].toNat : Int) != 46) = false := by rw [h46]; rfl
        have HM := Lib.hid hmid
        have X1 := Lib.hid x1
        have X2 := Lib.hid x2
        have Y1 := Lib.hid y1
        have Y2 := Lib.hid y2
        clear e0 e1 e2 e3 hmid x1 x2 y1 y2 h46
        cases hp1 : plainB (headP s.data.toList)
        · have hP : parseB s.data.toList = false := by rw [HM.out, hp1]; rfl
          have PH := Lib.hid (parseH_no _ hP)
          have PE := Lib.hid (parseE_no _ hP)
          clear hP
          go_wp2_with fail
          refine (c_plainL _ _ X1.out Y1.out _).mono ?_
          rintro e w' ⟨rfl, rfl⟩
          go_wp2_with fail
          refine (c_plainL _ _ X2.out Y2.out _).mono ?_
          rintro e w' ⟨rfl, rfl⟩
          go_wp2
          go_ret2
          exact ⟨ret_int2 PH.out.symm PE.out.symm, rfl⟩
        · cases hp2 : plainB (tailP s.data.toList)
          · have hP : parseB s.data.toList = false := by rw [HM.out, hp1, hp2]; rfl
            have PH := Lib.hid (parseH_no _ hP)
            have PE := Lib.hid (parseE_no _ hP)
            clear hP
            go_wp2_with fail
            refine (c_plainL _ _ X1.out Y1.out _).mono ?_
            rintro e w' ⟨rfl, rfl⟩
            go_wp2_with fail
            refine (c_plainL _ _ X2.out Y2.out _).mono ?_
            rintro e w' ⟨rfl, rfl⟩
            go_wp2
            go_ret2
            exact ⟨ret_int2 PH.out.symm PE.out.symm, rfl⟩
          · have hP : parseB s.data.toList = true := by rw [HM.out, hp1, hp2]; rfl
            have PH := Lib.hid (parseH_of _ hP)
            have PE := Lib.hid (parseE_of _ hP)
            clear hP
            go_wp2_with fail
            refine (c_plainL _ _ X1.out Y1.out _).mono ?_
            rintro e w' ⟨rfl, rfl⟩
            go_wp2_with fail
            refine (c_plainL _ _ X2.out Y2.out _).mono ?_
            rintro e w' ⟨rfl, rfl⟩
            go_wp2_with fail
            refine (c_rmake _ _ _).mono ?_
            rintro e w' ⟨rfl, rfl⟩
            go_wp2
            go_ret2
            exact ⟨ret_int2 PH.out.symm PE.out.symm, rfl⟩
      · have hne : s[k].toNat ≠ 46 := fun hh => h46 (UInt8.toNat_inj.1 (by have : (46 : UInt8).toNat = 46 := rfl; omega))
        have hb1 : ((s[k].toNat : Int) == 46) = false := beq_eq_false_iff_ne.2 (by omega)
        have hb2 : ((s[k].toNat : Int) != 46) = true := by rw [bne_iff_ne]; omega
        have HS := Lib.hid (take_snoc s k hlt)
        have HN := Lib.hid h46
        clear hne h46
        go_wp2
        go_round
        case rel =>
          refine ⟨k + 1, by omega, by go_num, ?_⟩
          rw [HS.out, List.all_append, HA.out, Bool.true_and]
          simpa using HN.out
        case measure => simp [intOf]; omega
    · obtain rfl : k = s.size := by omega
      have e1 : headP s.data.toList = s.data.toList := by
        have e2 : s.data.toList.take s.size = s.data.toList := List.take_of_length_le (by rw [HL.out]; exact Nat.le_refl _)
        have e3 := headP_at s.data.toList s.size HA.out (.inl (List.drop_of_length_le (by rw [HL.out]; exact Nat.le_refl _)))
        rwa [e2] at e3
      have hP := parseB_none _ e1
      have PH := Lib.hid (parseH_no _ hP)
      have PE := Lib.hid (parseE_no _ hP)
      clear hP e1
      go_wp2
      go_ret2
      exact ⟨ret_int2 PH.out.symm PE.out.symm, rfl⟩
end Go.Proofs.YtmdpcpefkenicaaDoor

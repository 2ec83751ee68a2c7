/- The contract of the document's Parse of words. -/
import Derived.Test.YtfemfimhnkdemaaDoorWp
namespace Go.Proofs.YtfemfimhnkdemaaDoor
open Go.RowKit

theorem c_plainT (s : ByteArray) (l : List UInt8) (hl : s.data.toList = l) (hs : s.size ≤ 1000000) (w : World) :
    Calls Tryd.prog 32 #[.string s] w fun e w' => e = .returned (.tuple #[.int .i64 (plainV l), .bool (plainB l)]) ∧ w = w' := by
  subst hl
  exact c_plain s hs w

/-- A text of digits without noughts ahead that is longer than ten is above all words. -/
theorem long_num (l : List UInt8) (h : plainB l = true) (hl : 10 < l.length) : 10000000000 ≤ numN 0 l := by
  cases l with
  | nil => cases h
  | cons c r =>
    have hd : isDig c = true := by
      have := plain_all _ h
      rw [List.all_cons, Bool.and_eq_true] at this
      exact this.1
    have hd2 := (isDig_iff c).1 hd
    have hc : c ≠ 48 := by
      intro e
      rw [plain_zero (c :: r) (by rw [List.headD_cons, e]; rfl) (by omega)] at h
      cases h
    have hc2 : c.toNat ≠ 48 := fun e => hc (UInt8.toNat_inj.1 e)
    rw [numN_cons]
    have h1 := numN_le r (10 * 0 + (c.toNat - 48))
    rw [List.length_cons] at hl
    have h2 : (10 : Nat) ^ 10 ≤ 10 ^ r.length := Nat.pow_le_pow_right (by omega) (by omega)
    have h3 : 10 ^ r.length ≤ (10 * 0 + (c.toNat - 48)) * 10 ^ r.length := Nat.le_mul_of_pos_left _ (by omega)
    have h4 : (10 : Nat) ^ 10 = 10000000000 := by decide
    omega
theorem short_num (l : List UInt8) (h : l.all isDig = true) (hl : l.length ≤ 10) : numN 0 l < 10000000000 := by
  have h1 := numN_lt l 0 h
  have h2 : (10 : Nat) ^ l.length ≤ 10 ^ 10 := Nat.pow_le_pow_right (by omega) hl
  have h4 : (10 : Nat) ^ 10 = 10000000000 := by decide
  omega

set_option maxHeartbeats 2000000 in
theorem c_vparse (s : ByteArray) (hs : s.size ≤ 1000000) (w : World) :
    Calls Tryd.prog 21 #[.string s] w fun e w' => e = .returned (.tuple #[.int .i64 (parseWV s.data.toList), .int .i64 (parseWE s.data.toList)]) ∧ w = w' := by
  by_cases h0 : 0 < s.size
  · have hcons : s.data.toList = s[0] :: s.data.toList.drop 1 := by
      have := drop_cons s 0 h0
      rwa [List.drop_zero] at this
    by_cases h45 : s[0] = 45
    · have hb : ((s[0].toNat : Int) == 45) = true := by rw [h45]; rfl
      have h1 := pre_minus (s.data.toList.drop 1)
      rw [show (45 : UInt8) :: s.data.toList.drop 1 = s.data.toList by rw [← h45]; exact hcons.symm] at h1
      have HB := Lib.hid h1.1
      have ht : (s.extract 1 s.size).data.toList = Lib.trimPrefix s.data.toList [45] := by
        rw [Lib.extract_data, h1.2]
        exact List.take_of_length_le (by simp)
      have hts : (s.extract 1 s.size).size ≤ 1000000 := by rw [ByteArray.size_extract]; omega
      obtain ⟨t, hT⟩ : ∃ t, s.extract 1 s.size = t := ⟨_, rfl⟩
      rw [hT] at ht hts
      have HT := Lib.hid ht
      have HE := Lib.hid hT
      clear hT ht h1 hcons h45
      go_enter Tryd.func21, Tryd.ntmps21
      go_wp2_with fail
      rw [HE.out]
      refine (c_plainT t _ HT.out (by omega) _).mono ?_
      rintro e w' ⟨rfl, rfl⟩
      cases hp : plainB (Lib.trimPrefix s.data.toList [45])
      · have hr := parseW_no s.data.toList (by unfold readB; rw [hp]; rfl)
        have HR := Lib.hid hr
        clear hr
        go_wp2
        go_ret2
        exact ⟨ret_int2 HR.out.1.symm HR.out.2.symm, rfl⟩
      · have htl : (t.toList == [48]) = (Lib.trimPrefix s.data.toList [45] == [48]) := by rw [ByteArray.toList_eq, HT.out]
        cases hq : (Lib.trimPrefix s.data.toList [45] == [48])
        rotate_left
        · rw [hq] at htl
          have hr := parseW_no s.data.toList (by unfold readB; rw [hp, HB.out, hq]; rfl)
          have HR := Lib.hid hr
          clear hr hq
          go_wp2
          go_ret2
          exact ⟨ret_int2 HR.out.1.symm HR.out.2.symm, rfl⟩
        rw [hq] at htl
        have RB := Lib.hid (show readB s.data.toList = true by unfold readB; rw [hp, HB.out, hq]; rfl)
        clear hq
        have RV := Lib.hid (show readV s.data.toList = -(numN 0 (Lib.trimPrefix s.data.toList [45]) : Int) by unfold readV; rw [HB.out]; rfl)
        have HA := Lib.hid (plain_all _ hp)
        have HS := Lib.hid (show (Lib.trimPrefix s.data.toList [45]).length = t.size by rw [← HT.out]; simp)
        by_cases h10 : 10 < t.size
        · have hL := long_num _ hp (by rw [HS.out]; exact h10)
          have hr := parseW_out s.data.toList RB.out (fineW_no _ (by rw [RV.out]; omega))
          have HR := Lib.hid hr
          clear hr hL hp
          go_wp2
          go_ret2
          exact ⟨ret_int2 HR.out.1.symm HR.out.2.symm, rfl⟩
        · clear hp
          go_wp2
          go_loop [7, 8] (fun n i => ∃ k m : Nat, k ≤ t.size ∧ i = .int .i64 k ∧ n = .int .i64 m ∧ numN 0 ((Lib.trimPrefix s.data.toList [45]).take k) = m) (fun _ i => t.size - (intOf i).toNat)
          case atStart => exact ⟨0, 0, Nat.zero_le _, rfl, rfl, rfl⟩
          case round =>
            obtain ⟨k, m, hk, rfl, rfl, hm⟩ := hrel
            have hmb : m < 10000000000 := by
              rw [← hm]
              refine short_num _ ?_ (by rw [List.length_take]; have := HS.out; omega)
              rw [List.all_eq_true]
              exact fun x hx => List.all_eq_true.1 HA.out x (List.mem_of_mem_take hx)
            by_cases hlt : k < t.size
            · have hd : isDig t[k] = true := by
                refine List.all_eq_true.1 HA.out _ ?_
                rw [← HT.out]
                exact List.mem_of_mem_drop (i := k) (by rw [drop_cons t k hlt]; exact List.mem_cons_self)
              have hd2 := (isDig_iff t[k]).1 hd
              obtain ⟨d0, d1⟩ : 48 ≤ (t[k].toNat : Int) ∧ (t[k].toNat : Int) ≤ 57 := by omega
              have hn : numN 0 ((Lib.trimPrefix s.data.toList [45]).take (k + 1)) = 10 * m + (t[k].toNat - 48) := by
                rw [← HT.out, take_snoc t k hlt, numN_app, HT.out, hm]
                rfl
              have HN := Lib.hid hn
              clear hn hm hd hd2
              go_wp2
              go_round
              case rel => exact ⟨k + 1, 10 * m + (t[k].toNat - 48), by omega, by go_num, by first | go_num | (refine congrArg (Value.int .i64) ?_; omega), HN.out⟩
              case measure => simp [intOf]; omega
            · obtain rfl : k = t.size := by omega
              rw [List.take_of_length_le (by rw [HS.out]; exact Nat.le_refl _)] at hm
              have hv : readV s.data.toList = -(m : Int) := by rw [RV.out, hm]
              cases hf : fineW (-(m : Int))
              · have hr := parseW_out s.data.toList RB.out (by rw [hv]; exact hf)
                have HR := Lib.hid hr
                clear hr hm hv
                go_wp2_with (go_at_call 17; refine (c_vfine _ _).mono ?_; rintro e w' ⟨rfl, rfl⟩)
                go_ret2
                exact ⟨ret_int2 HR.out.1.symm HR.out.2.symm, rfl⟩
              · have hr := parseW_on s.data.toList RB.out (by rw [hv]; exact hf)
                rw [hv] at hr
                have HR := Lib.hid hr
                clear hr hm hv
                go_wp2_with (go_at_call 17; refine (c_vfine _ _).mono ?_; rintro e w' ⟨rfl, rfl⟩)
                go_ret2
                exact ⟨ret_int2 HR.out.1.symm HR.out.2.symm, rfl⟩
    · have hb : ((s[0].toNat : Int) == 45) = false := beq_eq_false_iff_ne.2 fun h3 => h45 (UInt8.toNat_inj.1 (by have : (45 : UInt8).toNat = 45 := rfl; omega))
      have h1 := pre_other s[0] (s.data.toList.drop 1) h45
      rw [← hcons] at h1
      have HB := Lib.hid h1.1
      have HT := Lib.hid h1.2.symm
      clear h1 hcons h45
      go_enter Tryd.func21, Tryd.ntmps21
      go_wp2_with fail
      refine (c_plainT s _ HT.out (by omega) _).mono ?_
      rintro e w' ⟨rfl, rfl⟩
      cases hp : plainB (Lib.trimPrefix s.data.toList [45])
      · have hr := parseW_no s.data.toList (by unfold readB; rw [hp]; rfl)
        have HR := Lib.hid hr
        clear hr
        go_wp2
        go_ret2
        exact ⟨ret_int2 HR.out.1.symm HR.out.2.symm, rfl⟩
      · have RB := Lib.hid (show readB s.data.toList = true by unfold readB; rw [hp, HB.out]; rfl)
        have RV := Lib.hid (show readV s.data.toList = (numN 0 (Lib.trimPrefix s.data.toList [45]) : Int) by unfold readV; rw [HB.out]; rfl)
        have HA := Lib.hid (plain_all _ hp)
        have HS := Lib.hid (show (Lib.trimPrefix s.data.toList [45]).length = s.size by rw [← HT.out]; simp)
        by_cases h10 : 10 < s.size
        · have hL := long_num _ hp (by rw [HS.out]; exact h10)
          have hr := parseW_out s.data.toList RB.out (fineW_no _ (by rw [RV.out]; omega))
          have HR := Lib.hid hr
          clear hr hL hp
          go_wp2
          go_ret2
          exact ⟨ret_int2 HR.out.1.symm HR.out.2.symm, rfl⟩
        · clear hp
          go_wp2
          go_loop [7, 8] (fun n i => ∃ k m : Nat, k ≤ s.size ∧ i = .int .i64 k ∧ n = .int .i64 m ∧ numN 0 ((Lib.trimPrefix s.data.toList [45]).take k) = m) (fun _ i => s.size - (intOf i).toNat)
          case atStart => exact ⟨0, 0, Nat.zero_le _, rfl, rfl, rfl⟩
          case round =>
            obtain ⟨k, m, hk, rfl, rfl, hm⟩ := hrel
            have hmb : m < 10000000000 := by
              rw [← hm]
              refine short_num _ ?_ (by rw [List.length_take]; have := HS.out; omega)
              rw [List.all_eq_true]
              exact fun x hx => List.all_eq_true.1 HA.out x (List.mem_of_mem_take hx)
            by_cases hlt : k < s.size
            · have hd : isDig s[k] = true := by
                refine List.all_eq_true.1 HA.out _ ?_
                rw [← HT.out]
                exact List.mem_of_mem_drop (i := k) (by rw [drop_cons s k hlt]; exact List.mem_cons_self)
              have hd2 := (isDig_iff s[k]).1 hd
              obtain ⟨d0, d1⟩ : 48 ≤ (s[k].toNat : Int) ∧ (s[k].toNat : Int) ≤ 57 := by omega
              have hn : numN 0 ((Lib.trimPrefix s.data.toList [45]).take (k + 1)) = 10 * m + (s[k].toNat - 48) := by
                rw [← HT.out, take_snoc s k hlt, numN_app, HT.out, hm]
                rfl
              have HN := Lib.hid hn
              clear hn hm hd hd2
              go_wp2
              go_round
              case rel => exact ⟨k + 1, 10 * m + (s[k].toNat - 48), by omega, by go_num, by first | go_num | (refine congrArg (Value.int .i64) ?_; omega), HN.out⟩
              case measure => simp [intOf]; omega
            · obtain rfl : k = s.size := by omega
              rw [List.take_of_length_le (by rw [HS.out]; exact Nat.le_refl _)] at hm
              have hv : readV s.data.toList = (m : Int) := by rw [RV.out, hm]
              cases hf : fineW ((m : Int))
              · have hr := parseW_out s.data.toList RB.out (by rw [hv]; exact hf)
                have HR := Lib.hid hr
                clear hr hm hv
                go_wp2_with (go_at_call 17; refine (c_vfine _ _).mono ?_; rintro e w' ⟨rfl, rfl⟩)
                go_ret2
                exact ⟨ret_int2 HR.out.1.symm HR.out.2.symm, rfl⟩
              · have hr := parseW_on s.data.toList RB.out (by rw [hv]; exact hf)
                rw [hv] at hr
                have HR := Lib.hid hr
                clear hr hm hv
                go_wp2_with (go_at_call 17; refine (c_vfine _ _).mono ?_; rintro e w' ⟨rfl, rfl⟩)
                go_ret2
                exact ⟨ret_int2 HR.out.1.symm HR.out.2.symm, rfl⟩
  · have hl0 : s.data.toList = [] := List.eq_nil_of_length_eq_zero (by rw [show s.data.toList.length = s.size by simp]; omega)
    rw [hl0]
    have HL := Lib.hid hl0
    clear hl0
    go_enter Tryd.func21, Tryd.ntmps21
    go_wp2_with fail
    refine (c_plainT s _ HL.out (by omega) _).mono ?_
    rintro e w' ⟨rfl, rfl⟩
    have hp : plainB [] = false := rfl
    go_wp2
    go_ret2
    exact ⟨rfl, rfl⟩
end Go.Proofs.YtfemfimhnkdemaaDoor

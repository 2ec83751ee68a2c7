/- The contracts of what reads a word out of a text: package word's, over the library's ParseInt, and the document's. -/
import Derived.Test.YtajbpplklmhfmaaDoorWta
import Derived.LoopTactic
import Derived.Outline
namespace Go.Proofs.YtajbpplklmhfmaaDoor
open Go.RowKit

theorem all_not (s : ByteArray) (pos : Nat) (hp : pos < s.size) (h : isDig s[pos] = false) : s.data.toList.all isDig = false := by
  rw [List.all_eq_false]
  refine ⟨s[pos], ?_, by rw [h]; decide⟩
  exact List.mem_of_mem_drop (i := pos) (by rw [drop_cons s pos hp]; exact List.mem_cons_self)

set_option maxHeartbeats 2000000 in
theorem c_wplain (s : ByteArray) (w : World) :
    Calls Tryd.prog 61 #[.string s] w fun e w' => e = .returned (.bool (plainB s.data.toList)) ∧ Below w.heap.size w w' := by
  have hll : s.data.toList.length = s.size := by simp
  have htl : s.toList = s.data.toList := ByteArray.toList_eq s
  by_cases h0 : 0 < s.size
  · have hne : s.data.toList ≠ [] := by intro e; rw [e] at hll; simp at hll; omega
    have hE1 : ¬ s.toList = [] := by rw [htl]; exact hne
    have hE2 : s.toList.isEmpty = false := by
      cases e : s.toList with
      | nil => exact absurd e hE1
      | cons c l => rfl
    have hcons : s.data.toList = s[0] :: s.data.toList.drop 1 := by
      have := drop_cons s 0 h0
      rwa [List.drop_zero] at this
    have hh : s.data.toList.headD 0 = s[0] := by rw [hcons]; rfl
    by_cases h1 : (s[0] == 48) = true ∧ 1 < s.size
    · have e48 : s[0] = 48 := by simpa using h1.1
      have hP := plain_zero s.data.toList (by rw [hh]; exact h1.1) (by rw [hll]; exact h1.2)
      rw [hP]
      have hb : ((s[0].toNat : Int) == 48) = true := by rw [e48]; rfl
      have hb' : (s[0].toNat : Int) = 48 := by rw [e48]; rfl
      have hq : (s.toList == [48]) = false := by
        rw [beq_eq_false_iff_ne, htl]
        intro e
        rw [e] at hll
        have := h1.2
        simp at hll
        omega
      clear hh h1 e48 hne hll hP htl hcons
      go_enter Tryd.func61, Tryd.ntmps61
      go_wp2
      go_ret
      exact ⟨rfl, Below.refl _ _⟩
    · have hP := plain_else s.data.toList hne (by
        rw [hh]
        cases e : (s[0] == 48)
        · exact .inl rfl
        · exact .inr (by rw [hll]; by_cases h3 : 1 < s.size
                         · exact absurd ⟨e, h3⟩ h1
                         · omega))
      have core : (((s[0].toNat : Int) == 48) = false ∧ ¬ (s[0].toNat : Int) = 48) ∨ ((((s[0].toNat : Int) == 48) = true ∧ (s[0].toNat : Int) = 48) ∧ (s.toList == [48]) = true) := by
        by_cases e : s[0] = 48
        · refine .inr ⟨by rw [e]; exact ⟨rfl, rfl⟩, ?_⟩
          have h3 : s.size = 1 := by
            by_cases h3 : 1 < s.size
            · exact absurd ⟨by rw [e]; rfl, h3⟩ h1
            · omega
          rw [htl, hcons, e, List.drop_of_length_le (by omega)]
          rfl
        · refine .inl ⟨beq_eq_false_iff_ne.2 fun h3 => e (UInt8.toNat_inj.1 (by have : (48 : UInt8).toNat = 48 := rfl; omega)), fun h3 => e (UInt8.toNat_inj.1 (by have : (48 : UInt8).toNat = 48 := rfl; omega))⟩
      have HP := Lib.hid hP
      have HL := Lib.hid hll
      have hst : (w.iter s 0).heap[w.heap.size]? = some (.stringIter s 0) := by
        have h5 := World.iter_heap w s 0
        simpa using h5
      have HST := Lib.hid hst
      have hbs : Below w.heap.size w (w.iter s 0) := (Below.refl _ w).alloc (Nat.le_refl _) _
      have HBS := Lib.hid hbs
      clear hh h1 hne hll hP htl hcons hst hbs
      rcases core with ⟨hb, hb'⟩ | ⟨⟨hb, hb'⟩, hq⟩
      all_goals
        go_enter Tryd.func61, Tryd.ntmps61
        go_wp2
        go_loopw [4] (fun _ wr => ∃ pos : Nat, pos ≤ s.size ∧ wr.heap[w.heap.size]? = some (.stringIter s pos) ∧ Below w.heap.size w wr ∧ (s.data.toList.take pos).all isDig = true) (fun _ wr => s.size - wr.iterPos w.heap.size)
        case atStart => exact ⟨0, Nat.zero_le _, HST.out, HBS.out, rfl⟩
        case round =>
          clear HST HBS
          obtain ⟨pos, hps, hk, hbl, hall⟩ := hrel
          have hmu : wr.iterPos w.heap.size = pos := iterPos_of hk
          have HMU := Lib.hid hmu
          have HA := Lib.hid hall
          clear hmu hall
          by_cases hp : pos < s.size
          · by_cases h128 : (s[pos]'hp).toNat < 128
            · have hnext : ∀ ty, (Instr.next (.pointer (some ⟨w.heap.size, 0, none⟩)) true ty).run Tryd.prog wr = _ := fun ty => Lib.run_next_ascii_at wr w.heap.size s pos ty hk hp h128
              have hk1 := Lib.iterAt_heap wr w.heap.size s pos (pos + 1) hk
              have hbl1 : Below w.heap.size w (wr.iterAt w.heap.size s (pos + 1)) := Lib.below_iterAt hbl (by omega) s (pos + 1)
              generalize wr.iterAt w.heap.size s (pos + 1) = W1 at hnext hk1 hbl1
              have HK1 := Lib.hid hk1
              clear hk1 hk hbl
              by_cases hd : 48 ≤ (s[pos].toNat : Int) ∧ (s[pos].toNat : Int) ≤ 57
              · obtain ⟨d0, d1⟩ := hd
                have HD := Lib.hid ((isDig_iff s[pos]).2 (by omega))
                have HS := Lib.hid (take_snoc s pos hp)
                go_wp2
                go_roundw
                case rel =>
                  refine ⟨pos + 1, by omega, HK1.out, hbl1, ?_⟩
                  rw [HS.out, List.all_append, HA.out, Bool.true_and]
                  simp [HD.out]
                case measure =>
                  rw [HMU.out, iterPos_of HK1.out]
                  omega
              · have hR : plainB s.data.toList = false := by
                  rw [HP.out]
                  refine all_not s pos hp ?_
                  cases e : isDig s[pos]
                  · rfl
                  · have := (isDig_iff s[pos]).1 e
                    omega
                have HR := Lib.hid hR
                have HN := Lib.hid hd
                clear hR hd
                go_wp2
                all_goals first
                  | (go_ret; exact ⟨ret_bool HR.out.symm, hbl1⟩)
                  | (exfalso; have := HN.out; omega)
            · have hdec := (decode_high s pos hp (by omega)).1
              have hdle := decode_le s pos
              have hnext : ∀ ty, (Instr.next (.pointer (some ⟨w.heap.size, 0, none⟩)) true ty).run Tryd.prog wr = _ := fun ty => Lib.run_next_any_at wr w.heap.size s pos ty hk hp
              have hbl1 : Below w.heap.size w (wr.iterAt w.heap.size s (pos + (Utf8.decode s pos).2)) := Lib.below_iterAt hbl (by omega) s (pos + (Utf8.decode s pos).2)
              generalize wr.iterAt w.heap.size s (pos + (Utf8.decode s pos).2) = W1 at hnext hbl1
              have hR : plainB s.data.toList = false := by
                rw [HP.out]
                refine all_not s pos hp ?_
                cases e : isDig s[pos]
                · rfl
                · have := (isDig_iff s[pos]).1 e
                  omega
              have HR := Lib.hid hR
              obtain ⟨r, hr⟩ : ∃ r : Int, r = (Utf8.decode s pos).1 := ⟨_, rfl⟩
              rw [← hr] at hnext
              have hr1 : 128 ≤ r := by omega
              have hr2 : r ≤ 2147483647 := by omega
              clear hr hdec hdle hR hk hbl
              go_wp2
              go_ret
              exact ⟨ret_bool HR.out.symm, hbl1⟩
          · have hnext : ∀ ty, (Instr.next (.pointer (some ⟨w.heap.size, 0, none⟩)) true ty).run Tryd.prog wr = _ := fun ty => Lib.run_next_end_at wr w.heap.size s pos ty hk hp
            have hR : plainB s.data.toList = true := by
              have := HA.out
              rw [List.take_of_length_le (by rw [HL.out]; omega)] at this
              rw [HP.out]; exact this
            have HR := Lib.hid hR
            clear hR hk
            go_wp2
            go_ret
            exact ⟨ret_bool HR.out.symm, hbl⟩
  · have hl0 : s.data.toList = [] := List.eq_nil_of_length_eq_zero (by omega)
    have hP : plainB s.data.toList = false := by rw [hl0]; rfl
    rw [hP]
    have hE1 : s.toList = [] := by rw [ByteArray.toList_eq]; exact hl0
    clear hl0 hP hll htl
    go_enter Tryd.func61, Tryd.ntmps61
    go_wp2
    go_ret
    exact ⟨rfl, Below.refl _ _⟩

/- What a text is read as. -/
def readB (l : List UInt8) : Bool := plainB (Lib.trimPrefix l [45]) && !(Lib.hasPrefix l [45] && Lib.trimPrefix l [45] == [48])
def readV (l : List UInt8) : Int := if Lib.hasPrefix l [45] = true then -(numN 0 (Lib.trimPrefix l [45]) : Int) else (numN 0 (Lib.trimPrefix l [45]) : Int)
def parseWV (l : List UInt8) : Int := if readB l = true then (if fineW (readV l) = true then readV l else 0) else 0
def parseWE (l : List UInt8) : Int := if readB l = true then (if fineW (readV l) = true then 0 else 8) else 3
theorem parseW_no (l : List UInt8) (h : readB l = false) : parseWV l = 0 ∧ parseWE l = 3 := ⟨if_neg (by rw [h]; decide), if_neg (by rw [h]; decide)⟩
theorem parseW_out (l : List UInt8) (h : readB l = true) (h' : fineW (readV l) = false) : parseWV l = 0 ∧ parseWE l = 8 := by
  unfold parseWV parseWE
  rw [if_pos h, if_pos h, h']
  exact ⟨rfl, rfl⟩
theorem parseW_on (l : List UInt8) (h : readB l = true) (h' : fineW (readV l) = true) : parseWV l = readV l ∧ parseWE l = 0 := by
  unfold parseWV parseWE
  rw [if_pos h, if_pos h, if_pos h', if_pos h']
  exact ⟨rfl, rfl⟩
theorem pre_minus (r : List UInt8) : Lib.hasPrefix (45 :: r) [45] = true ∧ Lib.trimPrefix (45 :: r) [45] = r := by
  have h : Lib.hasPrefix (45 :: r) [45] = true := by simp [Lib.hasPrefix]
  refine ⟨h, ?_⟩
  unfold Lib.trimPrefix
  rw [if_pos h]
  rfl
theorem pre_other (c : UInt8) (r : List UInt8) (hc : c ≠ 45) : Lib.hasPrefix (c :: r) [45] = false ∧ Lib.trimPrefix (c :: r) [45] = c :: r := by
  have h : Lib.hasPrefix (c :: r) [45] = false := by
    unfold Lib.hasPrefix
    simp only [List.isPrefixOf, Bool.and_true]
    exact beq_eq_false_iff_ne.2 fun e => hc e.symm
  refine ⟨h, ?_⟩
  unfold Lib.trimPrefix
  rw [h]
  rfl
theorem puM : ∀ (l : List UInt8) (acc : Nat), l.all isDig = true → acc ≤ 4294967295 →
    Lib.parseUintM 4294967295 acc l = if numN acc l ≤ 4294967295 then .ok (numN acc l) else .range
  | [], acc, _, h => by rw [numN_nil, if_pos h]; rfl
  | c :: l, acc, ha, h => by
    rw [List.all_cons, Bool.and_eq_true] at ha
    have hc := (isDig_iff c).1 ha.1
    rw [Lib.parseUintM, if_pos hc, if_neg (by omega), numN_cons]
    by_cases h2 : 4294967295 < acc * 10 + (c.toNat - 48)
    · rw [if_pos h2, if_neg]
      have := numN_ge l (10 * acc + (c.toNat - 48))
      omega
    · rw [if_neg h2, puM l _ ha.2 (by omega), Nat.mul_comm acc 10]
theorem puB (l : List UInt8) (h : plainB l = true) : Lib.parseUintB 32 l = if numN 0 l ≤ 4294967295 then .ok (numN 0 l) else .range := by
  have hne : ¬ l = [] := by intro e; rw [e] at h; cases h
  unfold Lib.parseUintB
  rw [if_neg hne]
  exact puM l 0 (plain_all l h) (by omega)
theorem pi_of (l : List UInt8) (h : readB l = true) : Lib.parseIntB 32 l = if fineW (readV l) = true then .ok (readV l) else .range := by
  have hp : plainB (Lib.trimPrefix l [45]) = true := by
    unfold readB at h
    rw [Bool.and_eq_true] at h
    exact h.1
  cases l with
  | nil => cases hp
  | cons c r =>
    by_cases hc : c = 45
    · subst hc
      unfold readV
      rw [(pre_minus r).1, (pre_minus r).2] at *
      rw [if_pos rfl, Lib.parseIntB_minus, puB r hp]
      have e31 : (2 : Nat) ^ (32 - 1) = 2147483648 := by decide
      rw [e31]
      by_cases h1 : numN 0 r ≤ 2147483648
      · rw [if_pos (show numN 0 r ≤ 4294967295 by omega), fineW_of _ (by omega) (by omega), if_pos rfl]
        exact if_neg (by omega)
      · rw [fineW_no (-(numN 0 r : Int)) (by omega)]
        by_cases h2 : numN 0 r ≤ 4294967295
        · rw [if_pos h2]
          exact if_pos (by omega)
        · rw [if_neg h2]
          rfl
    · unfold readV
      rw [(pre_other c r hc).1, (pre_other c r hc).2] at *
      have hd : isDig c = true := by
        have := plain_all _ hp
        rw [List.all_cons, Bool.and_eq_true] at this
        exact this.1
      have hd2 := (isDig_iff c).1 hd
      simp only [Bool.false_eq_true, if_false]
      rw [Lib.parseIntB_plain 32 c r (by omega) (by omega), puB _ hp]
      have e31 : (2 : Nat) ^ (32 - 1) = 2147483648 := by decide
      rw [e31]
      by_cases h1 : numN 0 (c :: r) < 2147483648
      · rw [if_pos (show numN 0 (c :: r) ≤ 4294967295 by omega), fineW_of _ (by omega) (by omega), if_pos rfl]
        exact if_neg (by omega)
      · rw [fineW_no (numN 0 (c :: r) : Int) (by omega)]
        by_cases h2 : numN 0 (c :: r) ≤ 4294967295
        · rw [if_pos h2]
          exact if_pos (by omega)
        · rw [if_neg h2]
          rfl

theorem c_wplainL (l : List UInt8) (w : World) :
    Calls Tryd.prog 61 #[.string ⟨l.toArray⟩] w fun e w' => e = .returned (.bool (plainB l)) ∧ Below w.heap.size w w' := c_wplain ⟨l.toArray⟩ w
theorem c_pint_ok (s : ByteArray) (hs : s.size ≤ 1000000) (h : readB s.data.toList = true) (h' : fineW (readV s.data.toList) = true) (w : World) :
    Calls Tryd.prog 62 #[.string s, .int .i64 10, .int .i64 32] w fun e w' => e = .returned (.tuple #[.int .i64 (readV s.data.toList), .nilIface]) ∧ Below w.heap.size w w' := by
  have hp := pi_of _ h
  rw [if_pos h'] at hp
  refine (Tryd.strconv_ParseInt_10_at32_ok s (by omega) _ hp w).mono ?_
  rintro e w' ⟨rfl, hw⟩
  refine ⟨rfl, ?_⟩
  rcases hw with rfl | ⟨t, rfl⟩
  · exact Below.refl _ _
  · exact Lib.bytesWorld_below _ _ _
theorem c_pint_range (s : ByteArray) (hs : s.size ≤ 1000000) (h : readB s.data.toList = true) (h' : fineW (readV s.data.toList) = false) (w : World) (hv : EnvW w) :
    Calls Tryd.prog 62 #[.string s, .int .i64 10, .int .i64 32] w fun e w' => ∃ n t p, e = .returned (.tuple #[.int .i64 n, .iface t p]) ∧ Below w.heap.size w w' := by
  have hp := pi_of _ h
  rw [if_neg (by rw [h']; decide)] at hp
  obtain ⟨tp, p, he⟩ := hv.err
  refine (Tryd.strconv_ParseInt_10_at32_range_var s (by omega) hp tp p w he).mono ?_
  rintro e w' ⟨N, rfl, _, _, hb⟩
  exact ⟨_, _, _, rfl, hb⟩

set_option maxHeartbeats 1000000 in
theorem c_wparse (s : ByteArray) (hs : s.size ≤ 1000000) (w : World) (hv : EnvW w) :
    Calls Tryd.prog 49 #[.string s] w fun e w' => e = .returned (.tuple #[.int .i64 (parseWV s.data.toList), .int .i64 (parseWE s.data.toList)]) ∧ Below w.heap.size w w' := by
  cases hp : plainB (Lib.trimPrefix s.data.toList [45])
  · have hr := parseW_no s.data.toList (by unfold readB; rw [hp]; rfl)
    rw [hr.1, hr.2]
    clear hr
    go_enter Tryd.func49, Tryd.ntmps49
    go_wp2_with (first | (go_at_call 38; refine (Tryd.strings_CutPrefix _ _ _).mono ?_; rintro e w' ⟨rfl, rfl⟩) | (go_at_call 61; refine (c_wplainL _ _).mono ?_; rintro e w' ⟨rfl, hb1⟩))
    go_ret2
    exact ⟨rfl, hb1⟩
  · have hq : (Lib.hasPrefix s.data.toList [45] = true ∧ (Lib.trimPrefix s.data.toList [45] == [48]) = true) ∨ readB s.data.toList = true := by
      unfold readB
      rw [hp]
      cases Lib.hasPrefix s.data.toList [45] <;> cases (Lib.trimPrefix s.data.toList [45] == [48]) <;> simp
    rcases hq with ⟨h1, h2⟩ | hr
    · have hr := parseW_no s.data.toList (by unfold readB; rw [hp, h1, h2]; rfl)
      rw [hr.1, hr.2]
      clear hr
      go_enter Tryd.func49, Tryd.ntmps49
      go_wp2_with (first | (go_at_call 38; refine (Tryd.strings_CutPrefix _ _ _).mono ?_; rintro e w' ⟨rfl, rfl⟩) | (go_at_call 61; refine (c_wplainL _ _).mono ?_; rintro e w' ⟨rfl, hb1⟩))
      go_ret2
      exact ⟨rfl, hb1⟩
    · have hq : Lib.hasPrefix s.data.toList [45] = false ∨ (Lib.hasPrefix s.data.toList [45] = true ∧ (Lib.trimPrefix s.data.toList [45] == [48]) = false) := by
        have h := hr
        unfold readB at h
        rw [hp] at h
        revert h
        cases Lib.hasPrefix s.data.toList [45] <;> cases (Lib.trimPrefix s.data.toList [45] == [48]) <;> simp
      have HR := Lib.hid hr
      clear hr
      cases hf : fineW (readV s.data.toList)
      · have hz := parseW_out s.data.toList HR.out hf
        rw [hz.1, hz.2]
        clear hz
        have HF := Lib.hid hf
        clear hf
        rcases hq with h1 | ⟨h1, h2⟩
        all_goals
          go_enter Tryd.func49, Tryd.ntmps49
          go_wp2_with (first | (go_at_call 38; refine (Tryd.strings_CutPrefix _ _ _).mono ?_; rintro e w' ⟨rfl, rfl⟩) | (go_at_call 61; refine (c_wplainL _ _).mono ?_; rintro e w1 ⟨rfl, hb1⟩) | (go_at_call 62; refine (c_pint_range _ hs HR.out HF.out _ (hv.up hb1)).mono ?_; rintro e w2 ⟨n, t, p, rfl, hb2⟩))
          go_ret2
          exact ⟨rfl, up_trans hb1 hb2⟩
      · have hz := parseW_on s.data.toList HR.out hf
        rw [hz.1, hz.2]
        clear hz
        have HF := Lib.hid hf
        clear hf
        rcases hq with h1 | ⟨h1, h2⟩
        all_goals
          go_enter Tryd.func49, Tryd.ntmps49
          go_wp2_with (first | (go_at_call 38; refine (Tryd.strings_CutPrefix _ _ _).mono ?_; rintro e w' ⟨rfl, rfl⟩) | (go_at_call 61; refine (c_wplainL _ _).mono ?_; rintro e w1 ⟨rfl, hb1⟩) | (go_at_call 62; refine (c_pint_ok _ hs HR.out HF.out _).mono ?_; rintro e w2 ⟨rfl, hb2⟩))
          go_ret2
          exact ⟨rfl, up_trans hb1 hb2⟩
end Go.Proofs.YtajbpplklmhfmaaDoor

/- The contracts of the document's Digits and Plain (layer 1's helpers, which later layers' answers call too). -/
import Derived.Test.YtajbpplklmhfmaaDoorRows
import Derived.Test.YtajbpplklmhfmaaDoorK
import Derived.Test.YtajbpplklmhfmaaDoorDm
import Derived.WalkKit
import Derived.WalkSpells
import Derived.WalkLawsBesides
import Derived.BigQuiet
import Derived.Deep.QuietTactic
import Derived.Lib.Hide
import Derived.Lib.Strings
import Derived.IntWalk
namespace Go.Proofs.YtajbpplklmhfmaaDoor
open Go.RowKit

set_option maxHeartbeats 400000 in
theorem c_digits (n : Nat) (hn : n ≤ 4294967295) (w : World) :
    Calls Tryd.prog 23 #[.int .i64 n] w fun e w' => e = .returned (.string ⟨(Lib.decDigits n).toArray⟩) ∧ Below w.heap.size w w' := by
  have kc := fun (W : World) (v : Int) => conv_byte1 (P := Tryd.prog) 68 9 5 Tryd.underlying68 Tryd.underlying5 Tryd.underlying9 W v 1
  have hlen := dg_len10 n hn
  go_enter Tryd.func23, Tryd.ntmps23
  go_wp2
  go_loopw [0, 3] (fun a s wr => ∃ (m : Nat) (acc : List UInt8), m ≤ 4294967295 ∧ Lib.decDigits m ++ acc = Lib.decDigits n ∧ a = .int .i64 m ∧ s = .string ⟨acc.toArray⟩ ∧ Below w.heap.size w wr) (fun a _ _ => (intOf a).toNat)
  case atStart => exact ⟨n, [], hn, by simp, rfl, rfl, Below.refl _ _⟩
  case round =>
    obtain ⟨m, acc, hm, hacc, rfl, rfl, hb⟩ := hrel
    have hl : acc.length ≤ 10 := by
      have e := congrArg List.length hacc
      rw [List.length_append] at e
      omega
    have H := Lib.hid hacc
    clear hacc
    by_cases h9 : 9 < m
    · go_wp2
      go_roundw
      case rel =>
        refine ⟨m / 10, UInt8.ofNat (48 + m % 10) :: acc, by omega, by rw [dg_step m h9]; exact H.out, by go_num, ?_, hb.alloc hb.size _⟩
        rw [bytes_push]
        simp [UInt8.ofNat_add]
      case measure => simp [intOf]; omega
    · go_wp2
      go_ret
      refine ⟨ret_str ?_, hb.alloc hb.size _⟩
      rw [← H.out, ← dg_last m h9, bytes_push]
      simp [UInt8.ofNat_add]

set_option maxHeartbeats 1000000 in
theorem c_plain (s : ByteArray) (hs : s.size ≤ 1000000) (w : World) :
    Calls Tryd.prog 29 #[.string s] w fun e w' => e = .returned (.tuple #[.int .i64 (plainV s.data.toList), .bool (plainB s.data.toList)]) ∧ w = w' := by
  have hll : s.data.toList.length = s.size := by simp
  by_cases h0 : 0 < s.size
  · have hE1 : ¬ s.toList = [] := by
      rw [ByteArray.toList_eq]
      intro e
      rw [e, List.length_nil] at hll
      omega
    have hE2 : s.toList.isEmpty = false := by
      cases e : s.toList with
      | nil => exact absurd e hE1
      | cons c l => rfl
    have hne : s.data.toList ≠ [] := by intro e; rw [e] at hll; simp at hll; omega
    have hh : s.data.toList.headD 0 = s[0] := by
      have := drop_cons s 0 h0
      rw [List.drop_zero] at this
      rw [this]
      rfl
    by_cases h1 : (s[0] == 48) = true ∧ 1 < s.size
    · have e48 : s[0] = 48 := by simpa using h1.1
      have hP := plain_zero s.data.toList (by rw [hh]; exact h1.1) (by rw [hll]; exact h1.2)
      rw [plainV_no _ hP, hP]
      have hb : ((s[0].toNat : Int) == 48) = true := by rw [e48]; rfl
      have h2 := h1.2
      clear hh h1 e48 hne hll hP
      go_enter Tryd.func29, Tryd.ntmps29
      go_wp2
      go_ret2
      exact ⟨rfl, rfl⟩
    · have hP := plain_else s.data.toList hne (by
        rw [hh]
        cases e : (s[0] == 48)
        · exact .inl rfl
        · exact .inr (by rw [hll]; by_cases h3 : 1 < s.size
                         · exact absurd ⟨e, h3⟩ h1
                         · omega))
      have hb : (¬ (s[0].toNat : Int) = 48) ∨ s.size ≤ 1 := by
        by_cases h3 : 1 < s.size
        · refine .inl fun e => h1 ⟨?_, h3⟩
          rw [beq_iff_eq]
          exact UInt8.toNat_inj.1 (by have : (48 : UInt8).toNat = 48 := rfl; omega)
        · exact .inr (by omega)
      have HP := Lib.hid hP
      have HL := Lib.hid hll
      clear hh h1 hne hll hP
      have core : (((s[0].toNat : Int) == 48) = false ∨ ((((s[0].toNat : Int) == 48) = true) ∧ s.size ≤ 1)) := by
        cases e : ((s[0].toNat : Int) == 48)
        · exact .inl rfl
        · rcases hb with hb | hb
          · exact absurd (by simpa using e) hb
          · exact .inr ⟨rfl, hb⟩
      clear hb
      rcases core with hb | ⟨hb, hb2⟩
      all_goals
        go_enter Tryd.func29, Tryd.ntmps29
        go_wp2
        go_loop [4, 5] (fun n i => ∃ k : Nat, k ≤ s.size ∧ i = .int .i64 k ∧ (s.data.toList.take k).all isDig = true ∧ n = .int .i64 (numV 1000000000 0 (s.data.toList.take k))) (fun _ i => s.size - (intOf i).toNat)
        case atStart => exact ⟨0, Nat.zero_le _, rfl, rfl, rfl⟩
        case round =>
          obtain ⟨k, hk, rfl, hall, rfl⟩ := hrel
          obtain ⟨hn0, hn1⟩ := numV_bd (s.data.toList.take k) 0 (by omega) (by omega) hall
          have HA := Lib.hid hall
          clear hall
          by_cases hlt : k < s.size
          · have HS := Lib.hid (take_snoc s k hlt)
            by_cases hd : 48 ≤ (s[k].toNat : Int) ∧ (s[k].toNat : Int) ≤ 57
            · obtain ⟨d0, d1⟩ := hd
              have hdig : isDig s[k] = true := decide_eq_true (by omega)
              have HD := Lib.hid hdig
              clear hdig
              go_wp2
              go_round
              case rel =>
                refine ⟨k + 1, by omega, by go_num, ?_, ?_⟩
                · rw [HS.out, List.all_append, HA.out, Bool.true_and]
                  simp [HD.out]
                · rw [HS.out, numV_app]
                  refine congrArg (Value.int .i64) ?_
                  show _ = numF 1000000000 (numV 1000000000 0 (List.take k s.data.toList)) s[k]
                  unfold numF
                  split <;> omega
              case measure => simp [intOf]; omega
            · have hnd : s.data.toList.all isDig = false := by
                rw [List.all_eq_false]
                refine ⟨s[k], ?_, ?_⟩
                · have := drop_cons s k hlt
                  exact List.mem_of_mem_drop (i := k) (by rw [this]; exact List.mem_cons_self)
                · intro hh
                  have := of_decide_eq_true hh
                  omega
              have hP2 : plainB s.data.toList = false := by rw [HP.out]; exact hnd
              have HV := Lib.hid (plainV_no _ hP2)
              have HP2 := Lib.hid hP2
              have HN := Lib.hid hd
              clear hnd hP2 hd
              go_wp2
              all_goals first
                | (go_ret2; exact ⟨ret_ib HV.out.symm HP2.out.symm, rfl⟩)
                | (exfalso; have := HN.out; omega)
          · obtain rfl : k = s.size := by omega
            have hall2 : s.data.toList.all isDig = true := by
              have := HA.out
              rwa [List.take_of_length_le (by rw [HL.out]; exact Nat.le_refl _)] at this
            have hP2 : plainB s.data.toList = true := by rw [HP.out]; exact hall2
            have HV := Lib.hid (plainV_of _ hP2)
            have HP2 := Lib.hid hP2
            clear hall2 hP2
            go_wp2
            go_ret2
            exact ⟨ret_ib (by rw [HV.out, List.take_of_length_le (by rw [HL.out]; exact Nat.le_refl _)]) HP2.out.symm, rfl⟩
  · have hl0 : s.data.toList = [] := List.eq_nil_of_length_eq_zero (by omega)
    have hP : plainB s.data.toList = false := by rw [hl0]; rfl
    rw [plainV_no _ hP, hP]
    have hE1 : s.toList = [] := by rw [ByteArray.toList_eq]; exact hl0
    clear hl0 hP hll
    go_enter Tryd.func29, Tryd.ntmps29
    go_wp2
    go_ret2
    exact ⟨rfl, rfl⟩

theorem c_plainL (s : ByteArray) (l : List UInt8) (hl : s.data.toList = l) (hs : s.size ≤ 1000000) (w : World) :
    Calls Tryd.prog 29 #[.string s] w fun e w' => e = .returned (.tuple #[.int .i64 (plainV l), .bool (plainB l)]) ∧ w = w' := by
  subst hl
  exact c_plain s hs w

end Go.Proofs.YtajbpplklmhfmaaDoor

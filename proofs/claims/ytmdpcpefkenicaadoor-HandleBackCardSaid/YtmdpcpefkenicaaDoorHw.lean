/- The contracts of package handle's functions and of the document's answers for them: each gives the plain function's value, and leaves memory as it was or only grown. -/
import Derived.Test.YtmdpcpefkenicaaDoorRows
import Derived.Test.YtmdpcpefkenicaaDoorK
import Derived.Test.YtmdpcpefkenicaaDoorHm
import Derived.WalkKit
import Derived.WalkSpells
import Derived.WalkLawsBesides
import Derived.BigQuiet
import Derived.Deep.QuietTactic
import Derived.Lib.Hide
import Derived.IntWalk
namespace Go.Proofs.YtmdpcpefkenicaaDoor
open Go.RowKit

/-- A number that an int holds. -/
def I64 (x : Int) : Prop := -9223372036854775808 ≤ x ∧ x ≤ 9223372036854775807

set_option maxHeartbeats 400000 in
theorem c_make (s g : Int) (w : World) :
    Calls Tryd.prog 7 #[.int .i64 s, .int .i64 g] w fun e w' => e = .returned (.tuple #[.int .i64 (makeH s g), .int .i64 (makeE s g)]) ∧ w = w' := by
  by_cases h : 0 ≤ s ∧ s ≤ 4095 ∧ 1 ≤ g ∧ g ≤ 65535
  · rw [makeH_of s g h, makeE_of s g h]
    obtain ⟨h0, h1, h2, h3⟩ := h
    go_enter Tryd.func7, Tryd.ntmps7
    go_wp2
    go_ret2
    exact ⟨rfl, rfl⟩
  · rw [makeH_no s g (by omega), makeE_no s g (by omega)]
    have hh : ¬ (0 ≤ s ∧ s ≤ 4095 ∧ 1 ≤ g ∧ g ≤ 65535) := h
    have H := Lib.hid hh
    clear h hh
    go_enter Tryd.func7, Tryd.ntmps7
    go_wp2
    all_goals first
      | (go_ret2; exact ⟨rfl, rfl⟩)
      | (exfalso; have := H.out; omega)

set_option maxHeartbeats 400000 in
theorem c_rmake (s g : Int) (w : World) :
    Calls Tryd.prog 8 #[.int .i64 s, .int .i64 g] w fun e w' => e = .returned (.tuple #[.int .i64 (makeH s g), .int .i64 (makeE s g)]) ∧ w = w' := by
  by_cases h : 0 ≤ s ∧ s ≤ 4095 ∧ 1 ≤ g ∧ g ≤ 65535
  · rw [makeH_of s g h, makeE_of s g h]
    obtain ⟨h0, h1, h2, h3⟩ := h
    go_enter Tryd.func8, Tryd.ntmps8
    go_wp2
    go_ret2
    exact ⟨rfl, rfl⟩
  · rw [makeH_no s g (by omega), makeE_no s g (by omega)]
    have hh : ¬ (0 ≤ s ∧ s ≤ 4095 ∧ 1 ≤ g ∧ g ≤ 65535) := h
    have H := Lib.hid hh
    clear h hh
    go_enter Tryd.func8, Tryd.ntmps8
    go_wp2
    all_goals first
      | (go_ret2; exact ⟨rfl, rfl⟩)
      | (exfalso; have := H.out; omega)

set_option maxHeartbeats 400000 in
theorem c_fine (h : Int) (hw : I64 h) (w : World) :
    Calls Tryd.prog 14 #[.int .i64 h] w fun e w' => e = .returned (.bool (fineB h)) ∧ w = w' := by
  cases hf : fineB h
  · have hq : wrap64 (h.tdiv 4096) < 1 ∨ 65535 < wrap64 (h.tdiv 4096) := by
      unfold I64 at hw
      have e : wrap64 (h.tdiv 4096) = h.tdiv 4096 := (IntWalk.i64_left _).symm.trans (IntWalk.i64_quo' h 4096 ⟨hw.1, hw.2, by omega⟩)
      rcases fine_not h hf with a | a
      · exact .inl (quo_low h _ e a)
      · exact .inr (quo_high h _ e a)
    have H := Lib.hid hq
    clear hq hf
    generalize hW : wrap64 (h.tdiv 4096) = q at H
    go_enter Tryd.func14, Tryd.ntmps14
    go_wp2
    all_goals
      go_ret
      refine ⟨ret_bool ?_, rfl⟩
      have := H.out
      first
        | rfl
        | (rw [decide_eq_false_iff_not]; omega)
  · have hb := (fine_iff h).1 hf
    obtain ⟨h0, h1⟩ := hb
    clear hf hw
    go_enter Tryd.func14, Tryd.ntmps14
    go_wp2
    go_ret
    exact ⟨ret_bool (by first | rfl | (rw [decide_eq_true_iff]; omega)), rfl⟩

set_option maxHeartbeats 400000 in
theorem c_rfine (h : Int) (w : World) :
    Calls Tryd.prog 15 #[.int .i64 h] w fun e w' => e = .returned (.bool (fineB h)) ∧ w = w' := by
  cases hf : fineB h
  · have H := Lib.hid (fine_not h hf)
    clear hf
    go_enter Tryd.func15, Tryd.ntmps15
    go_wp2
    all_goals
      go_ret
      refine ⟨ret_bool ?_, rfl⟩
      have := H.out
      first
        | rfl
        | (rw [decide_eq_false_iff_not]; omega)
  · have hb := (fine_iff h).1 hf
    obtain ⟨h0, h1⟩ := hb
    clear hf
    go_enter Tryd.func15, Tryd.ntmps15
    go_wp2
    go_ret
    exact ⟨ret_bool (by first | rfl | (rw [decide_eq_true_iff]; omega)), rfl⟩

set_option maxHeartbeats 400000 in
theorem c_slot (h : Int) (hw : I64 h) (w : World) :
    Calls Tryd.prog 16 #[.int .i64 h] w fun e w' => e = .returned (.int .i64 (slotF h)) ∧ w = w' := by
  cases hf : fineB h
  · rw [slotF_no h hf]
    have H := Lib.hid hw
    clear hw
    go_enter Tryd.func16, Tryd.ntmps16
    go_wp2_with (go_at_call 14; refine (c_fine _ H.out _).mono ?_; rintro e w' ⟨rfl, rfl⟩)
    go_ret
    exact ⟨rfl, rfl⟩
  · rw [slotF_of h hf]
    obtain ⟨h0, h1⟩ := (fine_iff h).1 hf
    have H := Lib.hid hw
    clear hw
    go_enter Tryd.func16, Tryd.ntmps16
    go_wp2_with (go_at_call 14; refine (c_fine _ H.out _).mono ?_; rintro e w' ⟨rfl, rfl⟩)
    go_ret
    exact ⟨rfl, rfl⟩

set_option maxHeartbeats 400000 in
theorem c_gen (h : Int) (hw : I64 h) (w : World) :
    Calls Tryd.prog 18 #[.int .i64 h] w fun e w' => e = .returned (.int .i64 (genF h)) ∧ w = w' := by
  cases hf : fineB h
  · rw [genF_no h hf]
    have H := Lib.hid hw
    clear hw
    go_enter Tryd.func18, Tryd.ntmps18
    go_wp2_with (go_at_call 14; refine (c_fine _ H.out _).mono ?_; rintro e w' ⟨rfl, rfl⟩)
    go_ret
    exact ⟨rfl, rfl⟩
  · rw [genF_of h hf]
    obtain ⟨h0, h1⟩ := (fine_iff h).1 hf
    have H := Lib.hid hw
    clear hw
    go_enter Tryd.func18, Tryd.ntmps18
    go_wp2_with (go_at_call 14; refine (c_fine _ H.out _).mono ?_; rintro e w' ⟨rfl, rfl⟩)
    go_ret
    exact ⟨rfl, rfl⟩

set_option maxHeartbeats 400000 in
theorem c_rslot (h : Int) (w : World) :
    Calls Tryd.prog 17 #[.int .i64 h] w fun e w' => e = .returned (.int .i64 (slotF h)) ∧ w = w' := by
  cases hf : fineB h
  · rw [slotF_no h hf]
    go_enter Tryd.func17, Tryd.ntmps17
    go_wp2_with (go_at_call 15; refine (c_rfine _ _).mono ?_; rintro e w' ⟨rfl, rfl⟩)
    go_ret
    exact ⟨rfl, rfl⟩
  · rw [slotF_of h hf]
    obtain ⟨h0, h1⟩ := (fine_iff h).1 hf
    go_enter Tryd.func17, Tryd.ntmps17
    go_wp2_with (go_at_call 15; refine (c_rfine _ _).mono ?_; rintro e w' ⟨rfl, rfl⟩)
    go_ret
    exact ⟨ret_int (by omega), rfl⟩

set_option maxHeartbeats 400000 in
theorem c_rgen (h : Int) (w : World) :
    Calls Tryd.prog 19 #[.int .i64 h] w fun e w' => e = .returned (.int .i64 (genF h)) ∧ w = w' := by
  cases hf : fineB h
  · rw [genF_no h hf]
    go_enter Tryd.func19, Tryd.ntmps19
    go_wp2_with (go_at_call 15; refine (c_rfine _ _).mono ?_; rintro e w' ⟨rfl, rfl⟩)
    go_ret
    exact ⟨rfl, rfl⟩
  · rw [genF_of h hf]
    obtain ⟨h0, h1⟩ := (fine_iff h).1 hf
    go_enter Tryd.func19, Tryd.ntmps19
    go_wp2_with (go_at_call 15; refine (c_rfine _ _).mono ?_; rintro e w' ⟨rfl, rfl⟩)
    go_ret
    exact ⟨rfl, rfl⟩


set_option maxHeartbeats 400000 in
theorem c_next (h : Int) (hw : I64 h) (w : World) :
    Calls Tryd.prog 10 #[.int .i64 h] w fun e w' => e = .returned (.tuple #[.int .i64 (nextH h), .int .i64 (nextE h)]) ∧ w = w' := by
  have H := Lib.hid hw
  clear hw
  cases hf : fineB h
  · rw [nextH_no h hf, nextE_no h hf]
    go_enter Tryd.func10, Tryd.ntmps10
    go_wp2_with (go_at_call 14; refine (c_fine _ H.out _).mono ?_; rintro e w' ⟨rfl, rfl⟩)
    go_ret2
    exact ⟨rfl, rfl⟩
  · have hg := genF_of h hf
    by_cases hk : h / 4096 = 65535
    · rw [nextH_end h hf hk, nextE_end h hf hk]
      rw [hk] at hg
      clear hk
      go_enter Tryd.func10, Tryd.ntmps10
      go_wp2_with (first | (go_at_call 14; refine (c_fine _ H.out _).mono ?_; rintro e w' ⟨rfl, rfl⟩) | (go_at_call 18; refine (c_gen _ H.out _).mono ?_; rintro e w' ⟨rfl, rfl⟩))
      go_ret2
      exact ⟨rfl, rfl⟩
    · rw [nextH_on h hf hk, nextE_on h hf hk]
      obtain ⟨h0, h1⟩ := (fine_iff h).1 hf
      have hb : (genF h == 65535) = false := by rw [hg]; simpa using hk
      clear hk hg
      go_enter Tryd.func10, Tryd.ntmps10
      go_wp2_with (first | (go_at_call 14; refine (c_fine _ H.out _).mono ?_; rintro e w' ⟨rfl, rfl⟩) | (go_at_call 18; refine (c_gen _ H.out _).mono ?_; rintro e w' ⟨rfl, rfl⟩))
      go_ret2
      exact ⟨rfl, rfl⟩

set_option maxHeartbeats 400000 in
theorem c_rnext (h : Int) (w : World) :
    Calls Tryd.prog 11 #[.int .i64 h] w fun e w' => e = .returned (.tuple #[.int .i64 (nextH h), .int .i64 (nextE h)]) ∧ w = w' := by
  cases hf : fineB h
  · rw [nextH_no h hf, nextE_no h hf]
    go_enter Tryd.func11, Tryd.ntmps11
    go_wp2_with (go_at_call 15; refine (c_rfine _ _).mono ?_; rintro e w' ⟨rfl, rfl⟩)
    go_ret2
    exact ⟨rfl, rfl⟩
  · have hg := genF_of h hf
    by_cases hk : h / 4096 = 65535
    · rw [nextH_end h hf hk, nextE_end h hf hk]
      rw [hk] at hg
      clear hk
      go_enter Tryd.func11, Tryd.ntmps11
      go_wp2_with (first | (go_at_call 15; refine (c_rfine _ _).mono ?_; rintro e w' ⟨rfl, rfl⟩) | (go_at_call 19; refine (c_rgen _ _).mono ?_; rintro e w' ⟨rfl, rfl⟩))
      go_ret2
      exact ⟨rfl, rfl⟩
    · rw [nextH_on h hf hk, nextE_on h hf hk]
      obtain ⟨h0, h1⟩ := (fine_iff h).1 hf
      have hb : (genF h == 65535) = false := by rw [hg]; simpa using hk
      have hgb : 1 ≤ genF h ∧ genF h ≤ 65534 := by rw [hg]; omega
      obtain ⟨g0, g1⟩ := hgb
      have hs := slotF_of h hf
      have hv : makeH (slotF h) (genF h + 1) = h + 4096 := by rw [makeH_of _ _ (by rw [hs]; omega), hs, hg]; omega
      have he : makeE (slotF h) (genF h + 1) = 0 := makeE_of _ _ (by rw [hs]; omega)
      have HV := Lib.hid hv
      have HE := Lib.hid he
      clear hk hg hs hv he
      go_enter Tryd.func11, Tryd.ntmps11
      go_wp2_with (first | (go_at_call 15; refine (c_rfine _ _).mono ?_; rintro e w' ⟨rfl, rfl⟩) | (go_at_call 19; refine (c_rgen _ _).mono ?_; rintro e w' ⟨rfl, rfl⟩) | (go_at_call 17; refine (c_rslot _ _).mono ?_; rintro e w' ⟨rfl, rfl⟩) | (go_at_call 8; refine (c_rmake _ _ _).mono ?_; rintro e w' ⟨rfl, rfl⟩))
      go_ret2
      exact ⟨ret_int2 HV.out HE.out, rfl⟩

set_option maxHeartbeats 400000 in
theorem c_digits (n : Nat) (hn : n ≤ 1000000000) (w : World) :
    Calls Tryd.prog 23 #[.int .i64 n] w fun e w' => e = .returned (.string ⟨(Lib.decDigits n).toArray⟩) ∧ Below w.heap.size w w' := by
  have kc := fun (W : World) (v : Int) => conv_byte1 (P := Tryd.prog) 50 9 5 Tryd.underlying50 Tryd.underlying5 Tryd.underlying9 W v 1
  have hlen := digits_len20 n hn
  go_enter Tryd.func23, Tryd.ntmps23
  go_wp2
  go_loopw [0, 3] (fun a s wr => ∃ (m : Nat) (acc : List UInt8), m ≤ 1000000000 ∧ Lib.decDigits m ++ acc = Lib.decDigits n ∧ a = .int .i64 m ∧ s = .string ⟨acc.toArray⟩ ∧ Below w.heap.size w wr) (fun a _ _ => (intOf a).toNat)
  case atStart => exact ⟨n, [], hn, by simp, rfl, rfl, Below.refl _ _⟩
  case round =>
    obtain ⟨m, acc, hm, hacc, rfl, rfl, hb⟩ := hrel
    have hl : acc.length ≤ 10 := by
      have e := congrArg List.length hacc
      rw [List.length_append] at e
      omega
    have H := Lib.hid hacc
    clear hacc
    by_cases h9 : 9 < m
    · go_wp2
      go_roundw
      case rel =>
        refine ⟨m / 10, UInt8.ofNat (48 + m % 10) :: acc, by omega, by rw [digits_step m h9]; exact H.out, by go_num, ?_, hb.alloc hb.size _⟩
        rw [bytes_push]
        simp [UInt8.ofNat_add]
      case measure => simp [intOf]; omega
    · go_wp2
      go_ret
      refine ⟨ret_str ?_, hb.alloc hb.size _⟩
      rw [← H.out, ← digits_last m h9, bytes_push]
      simp [UInt8.ofNat_add]
end Go.Proofs.YtmdpcpefkenicaaDoor

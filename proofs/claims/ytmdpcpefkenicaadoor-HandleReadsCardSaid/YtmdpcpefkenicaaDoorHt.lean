/- The contracts of a handle's text: package handle's, over the library's numerals, and the document's. -/
import Derived.Test.YtmdpcpefkenicaaDoorHw
import Derived.Test.YtmdpcpefkenicaaDoorShelf
import Derived.Lib.AppendIntMem
namespace Go.Proofs.YtmdpcpefkenicaaDoor
open Go.RowKit

/-- The library's table of powers of ten lies as its text lays it. -/
def Tab (w : World) : Prop := Lib.TabIs Tryd.prog w "internal/strconv.uint64pow10" .u64 Lib.pow10Tab
theorem tab_up {w w' : World} (h : Tab w) (hb : Below w.heap.size w w') : Tab w' := Lib.tabBelow_of_tabIs h w' hb

theorem c_itoa (n : Int) (h0 : 0 ≤ n) (h1 : n ≤ 1000000000) (w : World) (ht : Tab w) :
    Calls Tryd.prog 22 #[.int .i64 n] w fun e w' => e = .returned (.string ⟨(Lib.decDigits n.toNat).toArray⟩) ∧ Below w.heap.size w w' := by
  refine (Tryd.strconv_Itoa n (by omega) (by omega) w ht).mono ?_
  rintro e w' ⟨rfl, k, os, rfl⟩
  refine ⟨?_, Lib.below_grow _ w (Nat.le_refl _) k os⟩
  unfold Lib.itoa
  rw [if_neg (by omega)]

theorem c_digitsI (n : Int) (h0 : 0 ≤ n) (h1 : n ≤ 1000000000) (w : World) :
    Calls Tryd.prog 23 #[.int .i64 n] w fun e w' => e = .returned (.string ⟨(Lib.decDigits n.toNat).toArray⟩) ∧ Below w.heap.size w w' := by
  obtain ⟨m, rfl⟩ := Int.eq_ofNat_of_zero_le h0
  exact c_digits m (by omega) w

theorem bytes_text (a b : List UInt8) : (⟨a.toArray⟩ : ByteArray) ++ ⟨#[46]⟩ ++ ⟨b.toArray⟩ = ⟨(a ++ 46 :: b).toArray⟩ := by
  apply ByteArray.ext
  simp

set_option maxHeartbeats 400000 in
theorem c_text (h : Int) (hw : I64 h) (w : World) (ht : Tab w) :
    Calls Tryd.prog 12 #[.int .i64 h] w fun e w' => e = .returned (.tuple #[.string ⟨(textL h).toArray⟩, .int .i64 (textE h)]) ∧ Below w.heap.size w w' := by
  have H := Lib.hid hw
  clear hw
  cases hf : fineB h
  · rw [textL_no h hf, textE_no h hf]
    go_enter Tryd.func12, Tryd.ntmps12
    go_wp2_with (go_at_call 14; refine (c_fine _ H.out _).mono ?_; rintro e w' ⟨rfl, rfl⟩)
    go_ret2
    exact ⟨rfl, Below.refl _ _⟩
  · rw [textL_of h hf, textE_of h hf]
    obtain ⟨h0, h1⟩ := (fine_iff h).1 hf
    have hs := slotF_of h hf
    have hg := genF_of h hf
    have hl1 := digits_len20 (h % 4096).toNat (by omega)
    have hl2 := digits_len20 (h / 4096).toNat (by omega)
    go_enter Tryd.func12, Tryd.ntmps12
    go_wp2_with (first | (go_at_call 14; refine (c_fine _ H.out _).mono ?_; rintro e w' ⟨rfl, rfl⟩) | (go_at_call 16; refine (c_slot _ H.out _).mono ?_; rintro e w' ⟨rfl, rfl⟩))
    refine (c_itoa _ (by omega) (by omega) _ ht).mono ?_
    rintro e w1 ⟨rfl, hb1⟩
    have ht1 := tab_up ht hb1
    go_wp2_with (go_at_call 18; refine (c_gen _ H.out _).mono ?_; rintro e w' ⟨rfl, rfl⟩)
    refine (c_itoa _ (by omega) (by omega) _ ht1).mono ?_
    rintro e w2 ⟨rfl, hb2⟩
    go_wp2
    go_ret2
    exact ⟨ret_str2 (bytes_text _ _) rfl, up_trans hb1 hb2⟩

set_option maxHeartbeats 400000 in
theorem c_rtext (h : Int) (w : World) :
    Calls Tryd.prog 13 #[.int .i64 h] w fun e w' => e = .returned (.tuple #[.string ⟨(textL h).toArray⟩, .int .i64 (textE h)]) ∧ Below w.heap.size w w' := by
  cases hf : fineB h
  · rw [textL_no h hf, textE_no h hf]
    go_enter Tryd.func13, Tryd.ntmps13
    go_wp2_with (go_at_call 15; refine (c_rfine _ _).mono ?_; rintro e w' ⟨rfl, rfl⟩)
    go_ret2
    exact ⟨rfl, Below.refl _ _⟩
  · rw [textL_of h hf, textE_of h hf]
    obtain ⟨h0, h1⟩ := (fine_iff h).1 hf
    have hs := slotF_of h hf
    have hg := genF_of h hf
    have hl1 := digits_len20 (h % 4096).toNat (by omega)
    have hl2 := digits_len20 (h / 4096).toNat (by omega)
    go_enter Tryd.func13, Tryd.ntmps13
    go_wp2_with (first | (go_at_call 15; refine (c_rfine _ _).mono ?_; rintro e w' ⟨rfl, rfl⟩) | (go_at_call 17; refine (c_rslot _ _).mono ?_; rintro e w' ⟨rfl, rfl⟩))
    refine (c_digitsI _ (by omega) (by omega) _).mono ?_
    rintro e w1 ⟨rfl, hb1⟩
    go_wp2_with (go_at_call 19; refine (c_rgen _ _).mono ?_; rintro e w' ⟨rfl, rfl⟩)
    refine (c_digitsI _ (by omega) (by omega) _).mono ?_
    rintro e w2 ⟨rfl, hb2⟩
    go_wp2
    go_ret2
    exact ⟨ret_str2 (bytes_text _ _) rfl, up_trans hb1 hb2⟩
end Go.Proofs.YtmdpcpefkenicaaDoor

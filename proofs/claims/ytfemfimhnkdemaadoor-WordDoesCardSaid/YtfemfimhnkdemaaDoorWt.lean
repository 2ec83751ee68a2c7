/- The contracts of a word's text: package word's, over the library's numerals, and the document's; and what the library's variables hold. -/
import Derived.Test.YtfemfimhnkdemaaDoorWd
import Derived.Test.YtfemfimhnkdemaaDoorDc
import Derived.Test.YtfemfimhnkdemaaDoorShelf
import Derived.Lib.AppendIntMem
import Derived.Lib.SmallJoins
namespace Go.Proofs.YtfemfimhnkdemaaDoor
open Go.RowKit

/-- The library's table of powers of ten lies as its text lays it, and its variable ErrRange holds an error. -/
structure EnvW (w : World) : Prop where
  tab : Lib.TabIs Tryd.prog w "internal/strconv.uint64pow10" .u64 Lib.pow10Tab
  err : ∃ tp p, w.var? Tryd.prog "strconv.ErrRange" = some #[.iface tp p]
theorem EnvW.up {w w' : World} (h : EnvW w) (hb : Below w.heap.size w w') : EnvW w' := by
  obtain ⟨ht, tp, p, he⟩ := h
  exact ⟨Lib.tabBelow_of_tabIs ht w' hb, tp, p, Joins.var_stays (g := 1) (by kernel_rfl) he hb (Nat.le_refl _)⟩

theorem c_itoa (n : Int) (h0 : -9223372036854775808 ≤ n) (h1 : n ≤ 9223372036854775807) (w : World) (ht : EnvW w) :
    Calls Tryd.prog 27 #[.int .i64 n] w fun e w' => e = .returned (.string ⟨(Lib.itoa n).toArray⟩) ∧ Below w.heap.size w w' := by
  refine (Tryd.strconv_Itoa n h0 h1 w ht.tab).mono ?_
  rintro e w' ⟨rfl, k, os, rfl⟩
  exact ⟨rfl, Lib.below_grow _ w (Nat.le_refl _) k os⟩

def textW (n : Int) : List UInt8 := if fineW n = true then Lib.itoa n else []
theorem textW_of (n : Int) (h : fineW n = true) : textW n = Lib.itoa n := if_pos h
theorem textW_no (n : Int) (h : fineW n = false) : textW n = [] := if_neg (by rw [h]; decide)
theorem itoa_neg (n : Int) (h : n < 0) : Lib.itoa n = 45 :: Lib.decDigits (-n).toNat := by
  unfold Lib.itoa
  rw [if_pos h]
  congr 2
  omega
theorem itoa_pos (n : Int) (h : 0 ≤ n) : Lib.itoa n = Lib.decDigits n.toNat := by
  unfold Lib.itoa
  rw [if_neg (by omega)]

set_option maxHeartbeats 400000 in
theorem c_wtext (n : Int) (w : World) (ht : EnvW w) :
    Calls Tryd.prog 14 #[.int .i64 n] w fun e w' => e = .returned (.tuple #[.string ⟨(textW n).toArray⟩, .int .i64 (oneE n)]) ∧ Below w.heap.size w w' := by
  cases hf : fineW n
  · rw [textW_no n hf, oneE_no n hf]
    go_enter Tryd.func14, Tryd.ntmps14
    go_wp2_with (go_at_call 16; refine (c_wfine _ _).mono ?_; rintro e w' ⟨rfl, rfl⟩)
    go_ret2
    exact ⟨rfl, Below.refl _ _⟩
  · rw [textW_of n hf, oneE_of n hf]
    obtain ⟨h0, h1⟩ := (fineW_iff n).1 hf
    go_enter Tryd.func14, Tryd.ntmps14
    go_wp2_with (first | (go_at_call 16; refine (c_wfine _ _).mono ?_; rintro e w' ⟨rfl, rfl⟩) | (go_at_call 27; refine (c_itoa _ (by omega) (by omega) _ ht).mono ?_; rintro e w1 ⟨rfl, hb1⟩))
    go_ret2
    exact ⟨rfl, hb1⟩

theorem c_digitsZ (n : Int) (h0 : 0 ≤ n) (h1 : n ≤ 4294967295) (w : World) :
    Calls Tryd.prog 28 #[.int .i64 n] w fun e w' => e = .returned (.string ⟨(Lib.decDigits n.toNat).toArray⟩) ∧ Below w.heap.size w w' := by
  obtain ⟨m, rfl⟩ := Int.eq_ofNat_of_zero_le h0
  exact c_digits m (by omega) w

set_option maxHeartbeats 400000 in
theorem c_vtext (n : Int) (w : World) :
    Calls Tryd.prog 15 #[.int .i64 n] w fun e w' => e = .returned (.tuple #[.string ⟨(textW n).toArray⟩, .int .i64 (oneE n)]) ∧ Below w.heap.size w w' := by
  cases hf : fineW n
  · rw [textW_no n hf, oneE_no n hf]
    go_enter Tryd.func15, Tryd.ntmps15
    go_wp2_with (go_at_call 17; refine (c_vfine _ _).mono ?_; rintro e w' ⟨rfl, rfl⟩)
    go_ret2
    exact ⟨rfl, Below.refl _ _⟩
  · rw [textW_of n hf, oneE_of n hf]
    obtain ⟨h0, h1⟩ := (fineW_iff n).1 hf
    by_cases hn : n < 0
    · rw [itoa_neg n hn]
      have hl := dg_len10 (-n).toNat (by omega)
      go_enter Tryd.func15, Tryd.ntmps15
      go_wp2_with (first | (go_at_call 17; refine (c_vfine _ _).mono ?_; rintro e w' ⟨rfl, rfl⟩) | (go_at_call 28; refine (c_digitsZ _ (by omega) (by omega) _).mono ?_; rintro e w1 ⟨rfl, hb1⟩))
      go_ret2
      exact ⟨ret_str2 (bytes_push _ _) rfl, hb1⟩
    · rw [itoa_pos n (by omega)]
      go_enter Tryd.func15, Tryd.ntmps15
      go_wp2_with (first | (go_at_call 17; refine (c_vfine _ _).mono ?_; rintro e w' ⟨rfl, rfl⟩) | (go_at_call 28; refine (c_digitsZ _ (by omega) (by omega) _).mono ?_; rintro e w1 ⟨rfl, hb1⟩))
      go_ret2
      exact ⟨rfl, hb1⟩
end Go.Proofs.YtfemfimhnkdemaaDoor

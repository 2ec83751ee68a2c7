/- The contract of a word's text, package word's, over the library's numerals; and what the library's variables hold. -/
import Derived.Test.YtajbpplklmhfmaaDoorWe
import Derived.Test.YtajbpplklmhfmaaDoorDm
import Derived.Test.YtajbpplklmhfmaaDoorShelf
import Derived.WalkKit
import Derived.WalkSpells
import Derived.WalkLawsBesides
import Derived.BigQuiet
import Derived.Deep.QuietTactic
import Derived.Lib.Hide
import Derived.Lib.Strings
import Derived.IntWalk
import Derived.Lib.AppendIntMem
import Derived.Lib.SmallJoins
namespace Go.Proofs.YtajbpplklmhfmaaDoor
open Go.RowKit

/-- The library's table of powers of ten lies as its text lays it, and its variable ErrRange holds an error. -/
structure EnvW (w : World) : Prop where
  tab : Lib.TabIs Tryd.prog w "internal/strconv.uint64pow10" .u64 Lib.pow10Tab
  err : ∃ tp p, w.var? Tryd.prog "strconv.ErrRange" = some #[.iface tp p]
theorem EnvW.up {w w' : World} (h : EnvW w) (hb : Below w.heap.size w w') : EnvW w' := by
  obtain ⟨ht, tp, p, he⟩ := h
  exact ⟨Lib.tabBelow_of_tabIs ht w' hb, tp, p, Joins.var_stays (g := 3) (by kernel_rfl) he hb (Nat.le_refl _)⟩

theorem c_itoa (n : Int) (h0 : -9223372036854775808 ≤ n) (h1 : n ≤ 9223372036854775807) (w : World) (ht : EnvW w) :
    Calls Tryd.prog 55 #[.int .i64 n] w fun e w' => e = .returned (.string ⟨(Lib.itoa n).toArray⟩) ∧ Below w.heap.size w w' := by
  refine (Tryd.strconv_Itoa n h0 h1 w ht.tab).mono ?_
  rintro e w' ⟨rfl, k, os, rfl⟩
  exact ⟨rfl, Lib.below_grow _ w (Nat.le_refl _) k os⟩

def textW (n : Int) : List UInt8 := if fineW n = true then Lib.itoa n else []
theorem textW_of (n : Int) (h : fineW n = true) : textW n = Lib.itoa n := if_pos h
theorem textW_no (n : Int) (h : fineW n = false) : textW n = [] := if_neg (by rw [h]; decide)
theorem itoa_neg (n : Int) (h : n < 0) : Lib.itoa n = 45 :: Lib.decDigits (-n).toNat := by
  unfold Lib.itoa
  rw [if_pos h]
  congr 2
  omega
theorem itoa_pos (n : Int) (h : 0 ≤ n) : Lib.itoa n = Lib.decDigits n.toNat := by
  unfold Lib.itoa
  rw [if_neg (by omega)]

set_option maxHeartbeats 400000 in
theorem c_wtext (n : Int) (w : World) (ht : EnvW w) :
    Calls Tryd.prog 45 #[.int .i64 n] w fun e w' => e = .returned (.tuple #[.string ⟨(textW n).toArray⟩, .int .i64 (oneE n)]) ∧ Below w.heap.size w w' := by
  cases hf : fineW n
  · rw [textW_no n hf, oneE_no n hf]
    go_enter Tryd.func45, Tryd.ntmps45
    go_wp2_with (go_at_call 54; refine (c_wfine _ _).mono ?_; rintro e w' ⟨rfl, rfl⟩)
    go_ret2
    exact ⟨rfl, Below.refl _ _⟩
  · rw [textW_of n hf, oneE_of n hf]
    obtain ⟨h0, h1⟩ := (fineW_iff n).1 hf
    go_enter Tryd.func45, Tryd.ntmps45
    go_wp2_with (first | (go_at_call 54; refine (c_wfine _ _).mono ?_; rintro e w' ⟨rfl, rfl⟩) | (go_at_call 55; refine (c_itoa _ (by omega) (by omega) _ ht).mono ?_; rintro e w1 ⟨rfl, hb1⟩))
    go_ret2
    exact ⟨rfl, hb1⟩
end Go.Proofs.YtajbpplklmhfmaaDoor

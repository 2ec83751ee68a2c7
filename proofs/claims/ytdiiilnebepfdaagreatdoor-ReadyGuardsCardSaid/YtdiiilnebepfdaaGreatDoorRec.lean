/- Package ready: woken, when, moved, timed, the small closures. -/
import Derived.Test.YtdiiilnebepfdaaGreatDoorReb
import Derived.WalkKit
import Derived.WalkSpells
import Derived.LoopTactic
import Derived.BigRegion
import Derived.IntWalk
import Derived.Laws.BitsLemmas
namespace Go.Proofs.YtdiiilnebepfdaaGreatDoor
open Go.RowKit

set_option maxHeartbeats 400000 in
theorem c_woken (k h n : Int) (w : World) :
    Calls Tryz.prog 59 #[.int .i64 k, .int .i64 h, .int .i64 n] w fun e w' => e = .returned (.agg #[.int .i64 k, .int .i64 0, .int .i64 h, .int .i64 n]) ∧ Below w.heap.size w w' := by
  have up : Below w.heap.size w (w.alloc (.cells #[.int .i64 k, .int .i64 0, .int .i64 h, .int .i64 n] 32)) := up_alloc w _
  go_enter Tryz.func59, Tryz.ntmps59
  go_wp2
  exact bodyPost_ret (v := .agg #[.int .i64 k, .int .i64 0, .int .i64 h, .int .i64 n]) (by simp [results, Tryz.results59, go_sem]) rfl ⟨rfl, up⟩

theorem two_ev (w : World) (xs ys : Array Value) (t u : TypeId) : Below w.heap.size w ((w.alloc (.cells xs t)).alloc (.cells ys u)) := up_trans (up_alloc _ _) (up_alloc _ _)
set_option maxHeartbeats 400000 in
theorem c_when (b : Bool) (k o h n : Int) (w : World) :
    Calls Tryz.prog 56 #[.bool b, .agg #[.int .i64 k, .int .i64 o, .int .i64 h, .int .i64 n]] w (EvPost w (bif b then some ⟨k, o, h, n⟩ else none)) := by
  cases b
  · go_enter Tryz.func56, Tryz.ntmps56
    go_wp2
    exact bodyPost_ret (v := .tuple #[.agg #[.int .i64 0, .int .i64 0, .int .i64 0, .int .i64 0], .bool false]) (by simp [results, Tryz.results56, go_sem]) rfl ⟨rfl, two_ev _ _ _ _ _⟩
  · go_enter Tryz.func56, Tryz.ntmps56
    go_wp2
    exact bodyPost_ret (v := .tuple #[.agg #[.int .i64 k, .int .i64 o, .int .i64 h, .int .i64 n], .bool true]) (by simp [results, Tryz.results56, go_sem]) rfl ⟨rfl, two_ev _ _ _ _ _⟩

set_option maxHeartbeats 400000 in
theorem c_moved (c m : Int) (hm : m = 1 ∨ m = 2 ∨ m = 3) (w : World) :
    Calls Tryz.prog 83 #[.int .i64 c, .int .i64 m] w fun e w' => e = .returned (.agg #[.int .i64 (1 + m), .int .i64 c, .int .i64 0, .int .i64 0]) ∧ Below w.heap.size w w' := by
  rcases hm with rfl | rfl | rfl
  · go_enter Tryz.func83, Tryz.ntmps83
    go_wp2
    exact bodyPost_ret (v := .agg #[.int .i64 2, .int .i64 c, .int .i64 0, .int .i64 0]) (by simp [results, Tryz.results83, go_sem]) rfl ⟨rfl, two_ev _ _ _ _ _⟩
  · go_enter Tryz.func83, Tryz.ntmps83
    go_wp2
    exact bodyPost_ret (v := .agg #[.int .i64 3, .int .i64 c, .int .i64 0, .int .i64 0]) (by simp [results, Tryz.results83, go_sem]) rfl ⟨rfl, two_ev _ _ _ _ _⟩
  · go_enter Tryz.func83, Tryz.ntmps83
    go_wp2
    exact bodyPost_ret (v := .agg #[.int .i64 4, .int .i64 c, .int .i64 0, .int .i64 0]) (by simp [results, Tryz.results83, go_sem]) rfl ⟨rfl, two_ev _ _ _ _ _⟩

theorem i64_and7 (n : Int) : bits BinOp.and IntKind.i64 n 7 = n % 8 := by
  have h7 : (BitVec.ofInt 64 7).toNat = 2 ^ 3 - 1 := by decide
  have key : (BitVec.ofInt 64 n &&& BitVec.ofInt 64 7).toNat = (n % ((2 ^ 64 : Nat) : Int)).toNat % 2 ^ 3 := by
    rw [BitVec.toNat_and, BitVec.toNat_ofInt, h7, Nat.and_two_pow_sub_one_eq_mod]
  show IntKind.i64.wrap ((BitVec.ofInt 64 n &&& BitVec.ofInt 64 7).toNat : Nat) = n % 8
  rw [key, IntKind.wrap_i64]
  omega
set_option maxHeartbeats 400000 in
theorem c_timed (own who no : Int) (ho : 0 ≤ own ∧ own ≤ 9223372036854775807) (hn : 0 ≤ no ∧ no ≤ 5) (w : World) :
    Calls Tryz.prog 100 #[.int .i64 own, .int .i64 who, .int .i64 no] w fun e w' => e = .returned (.bool (own == 8 * who + no)) ∧ w = w' := by
  obtain ⟨x, hx⟩ : ∃ x, own % 8 = x := ⟨_, rfl⟩
  obtain ⟨y, hy⟩ : ∃ y, no % 8 = y := ⟨_, rfl⟩
  have e1 : bits BinOp.and IntKind.i64 own 7 = x := (i64_and7 own).trans hx
  have e2 : bits BinOp.and IntKind.i64 no 7 = y := (i64_and7 no).trans hy
  have HX := Lib.hid hx
  have HY := Lib.hid hy
  clear hx hy
  cases ht : (x == y)
  · have HE : Hid ((own == 8 * who + no) = false) := Lib.hid (by
      have h1 := HX.out
      have h2 := HY.out
      have h3 : x ≠ y := by simpa using ht
      rw [beq_eq_false_iff_ne]
      omega)
    go_enter Tryz.func100, Tryz.ntmps100
    go_wp2
    go_ret
    exact ⟨ret_bool HE.out.symm, rfl⟩
  · have HE : Hid ((own == 8 * who + no) = (own / 8 - no / 8 == who)) := Lib.hid (by
      have h1 := HX.out
      have h2 := HY.out
      have h3 : x = y := by simpa using ht
      apply Bool.eq_iff_iff.2
      rw [beq_iff_eq, beq_iff_eq]
      omega)
    go_enter Tryz.func100, Tryz.ntmps100
    go_wp2
    go_ret
    exact ⟨ret_bool HE.out.symm, rfl⟩


set_option maxHeartbeats 400000 in
theorem c_fires1 (b : Int) (w : World) :
    Calls Tryz.prog 79 #[.int .i64 b] w (EvPost w (some ⟨1, b, 0, 0⟩)) := by
  go_enter Tryz.func79, Tryz.ntmps79
  go_wp2
  exact bodyPost_ret (v := .tuple #[.agg #[.int .i64 1, .int .i64 b, .int .i64 0, .int .i64 0], .bool true]) (by simp [results, Tryz.results79, go_sem]) rfl ⟨rfl, up_alloc w (.cells #[.int .i64 1, .int .i64 b, .int .i64 0, .int .i64 0] 32)⟩

set_option maxHeartbeats 1000000 in
theorem c_moves1 (c m : Int) (hm : m = 1 ∨ m = 2 ∨ m = 3) (w : World) :
    Calls Tryz.prog 82 #[.agg #[.int .i64 c, .int .i64 m]] w (EvPost w (some ⟨1 + m, c, 0, 0⟩)) := by
  have hX := bx2 w [.int .i64 c, .int .i64 m] 159 evZC 32
  have CM := Lib.hid (fun W => c_moved c m hm W)
  have c0 := hX.box.cell 0 _ rfl
  have c1 := hX.box.cell 1 _ rfl
  have HX := Lib.hid hX
  clear hX hm
  go_enter Tryz.func82, Tryz.ntmps82
  go_wp2_with fail
  refine (CM.out _).mono ?_; rintro e w2 ⟨rfl, hb⟩
  have HA := Lib.hid (HX.out.next hb)
  clear hb c0 c1
  go_wp2_with (refine str (b := w.heap.size + 1) (t := 32) (cs := [.int .i64 (1 + m), .int .i64 c, .int .i64 0, .int .i64 0]) (ds := evZC) (.tmp 2) (.tmp 8) rfl rfl rfl rfl info_ev4 rfl (evC_one ⟨1 + m, c, 0, 0⟩) ?_ ?_; (· exact HA.out.res))
  refine bodyPost_ret (v := .tuple #[.agg #[.int .i64 (1 + m), .int .i64 c, .int .i64 0, .int .i64 0], .bool true]) (results_ce (fn := Tryz.f82) (p := 2) (t := 3) rfl _ _ _ rfl (HA.out.res.row _) Tryz.underlying32 rfl info_ev4) rfl ?_
  exact ⟨rfl, below_setRow HA.out.up (by omega) _⟩

set_option maxHeartbeats 400000 in
theorem c_which1 (g : GD) (b : Nat) (no : Int) (t : TypeId) (w : World) (hB : Blk w b [.int .i64 no] t) :
    Calls Tryz.prog 22 #[.agg #[.int .i64 g.k, .int .i64 g.o, .int .i64 g.v, .int .i64 g.r, .int .i64 g.n], .pointer (some ⟨b, 0, none⟩)] w fun e w' => e = .returned (.bool (g.n == no)) ∧ Below w.heap.size w w' := by
  have i0 := (hB.alloc (.cells #[.int .i64 g.k, .int .i64 g.o, .int .i64 g.v, .int .i64 g.r, .int .i64 g.n] 63)).cell 0 _ rfl
  have HU := Lib.hid (up_alloc w (.cells #[.int .i64 g.k, .int .i64 g.o, .int .i64 g.v, .int .i64 g.r, .int .i64 g.n] 63))
  clear hB
  go_enter Tryz.func22, Tryz.ntmps22
  go_wp2
  go_ret
  exact ⟨rfl, HU.out⟩
set_option maxHeartbeats 400000 in
theorem c_wanted1 (h : Int) (A : Option Addr) (n c b : Nat) (who : Int) (t : TypeId) (w : World) (hB : Blk w b [.int .i64 who] t) :
    Calls Tryz.prog 52 #[.agg #[.int .i64 h, .slice A n c], .pointer (some ⟨b, 0, none⟩)] w fun e w' => e = .returned (.bool (h == who)) ∧ Below w.heap.size w w' := by
  have i0 := (hB.alloc (.cells #[.int .i64 h, .slice A n c] 61)).cell 0 _ rfl
  have HU := Lib.hid (up_alloc w (.cells #[.int .i64 h, .slice A n c] 61))
  clear hB
  go_enter Tryz.func52, Tryz.ntmps52
  go_wp2
  go_ret
  exact ⟨rfl, HU.out⟩
set_option maxHeartbeats 1000000 in
theorem c_due1 (t : Tm) (b0 b1 b2 : Nat) (who no : Int) (V : VQ) (w : World) (h0 : Blk w b0 [.int .i64 who] 3) (h1 : Blk w b1 [.int .i64 no] 3) (h2 : Blk w b2 (vC V) 40)
    (ho : 0 ≤ t.who ∧ t.who ≤ 9223372036854775807) (hn : 0 ≤ no ∧ no ≤ 5) :
    Calls Tryz.prog 99 #[.agg #[.int .i64 t.at_, .int .i64 t.no, .int .i64 t.who], .pointer (some ⟨b0, 0, none⟩), .pointer (some ⟨b1, 0, none⟩), .pointer (some ⟨b2, 0, none⟩)] w fun e w' => e = .returned (.bool ((t.who == 8 * who + no) && dueB V.now t.at_)) ∧ Below w.heap.size w w' := by
  have i0 := (h0.alloc (.cells #[.int .i64 t.at_, .int .i64 t.no, .int .i64 t.who] 82)).cell 0 _ rfl
  have i1 := (h1.alloc (.cells #[.int .i64 t.at_, .int .i64 t.no, .int .i64 t.who] 82)).cell 0 _ rfl
  have i2 := (h2.alloc (.cells #[.int .i64 t.at_, .int .i64 t.no, .int .i64 t.who] 82)).cell 0 (.int .i64 V.now) rfl
  have HU := Lib.hid (up_alloc w (.cells #[.int .i64 t.at_, .int .i64 t.no, .int .i64 t.who] 82))
  have CT := Lib.hid (fun W => c_timed t.who who no ho hn W)
  have CD := Lib.hid (fun W => c_due V.now t.at_ W)
  generalize (t.who == 8 * who + no) = p at CT ⊢
  generalize dueB V.now t.at_ = q at CD ⊢
  clear h0 h1 h2 ho hn
  cases p
  all_goals
    go_enter Tryz.func99, Tryz.ntmps99
    go_wp2_with (first | (go_at_call 100; refine (CT.out _).mono ?_; rintro e w2 ⟨rfl, rfl⟩) | (go_at_call 88; refine (CD.out _).mono ?_; rintro e w3 ⟨rfl, rfl⟩))
    go_ret
    exact ⟨ret_bool (by simp), HU.out⟩
end Go.Proofs.YtdiiilnebepfdaaGreatDoor

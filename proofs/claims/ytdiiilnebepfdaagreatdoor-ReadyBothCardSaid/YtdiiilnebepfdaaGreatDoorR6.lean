/- In a region that draws: boxes by their places, and an answer's cell in whatever state. Package ready: woken, when, moved, timed, the small closures. Package ready: only's and dues' closures. slices.IndexFunc over package ready's closures; due; wanted. -/
import Derived.Test.YtdiiilnebepfdaaGreatDoorA1
import Derived.Test.YtdiiilnebepfdaaGreatDoorR1
import Derived.WalkKit
import Derived.WalkSpells
import Derived.LoopTactic
import Derived.BigRegion
import Derived.IntWalk
import Derived.Laws.BitsLemmas
import Derived.BigQuiet
import Derived.Deep.QuietTactic
namespace Go.Proofs.YtdiiilnebepfdaaGreatDoor
open Go.RowKit

structure BL (w : World) (KS : List (Nat × List Value × TypeId)) (r k : Nat) (t : TypeId) (W : World) : Prop where
  up : Below w.heap.size w W
  bx : ∀ x ∈ KS, Blk W x.1 x.2.1 x.2.2
  no : ∀ x ∈ KS, x.1 ≠ r
  lo : w.heap.size ≤ r
  res : ∃ ds : List Value, ds.length = k ∧ Blk W r ds t
theorem BL.ka {w : World} {KS : List (Nat × List Value × TypeId)} {r k : Nat} {t : TypeId} {W : World} (h : BL w KS r k t W) (i : Nat) {b : Nat} {cs : List Value} {u : TypeId} (hi : KS[i]? = some (b, cs, u)) : Blk W b cs u := h.bx _ (List.mem_of_getElem? hi)
theorem BL.next {w : World} {KS : List (Nat × List Value × TypeId)} {r k : Nat} {t : TypeId} {W W' : World} (h : BL w KS r k t W) (hb : Below W.heap.size W W') : BL w KS r k t W' :=
  ⟨up_trans h.up hb, fun x hx => (h.bx x hx).up hb (h.bx x hx).lt, h.no, h.lo, by
    obtain ⟨ds, h1, h2⟩ := h.res
    exact ⟨ds, h1, h2.up hb h2.lt⟩⟩
theorem BL.put {w : World} {KS : List (Nat × List Value × TypeId)} {r k : Nat} {t : TypeId} {W : World} (h : BL w KS r k t W) (ds : List Value) (hl : ds.length = k) : BL w KS r k t (W.setRow r ds.toArray) :=
  ⟨below_setRow h.up h.lo _, fun x hx => (h.bx x hx).rowOther (h.no x hx) _, h.no, h.lo, by
    obtain ⟨es, _, h2⟩ := h.res
    exact ⟨ds, hl, h2.row ds⟩⟩
theorem BL.var {w : World} {KS : List (Nat × List Value × TypeId)} {r k : Nat} {t : TypeId} {W : World} (h : BL w KS r k t W) {b : Nat} {cs : List Value} {u : TypeId} (hk : Blk W b cs u) (hb : b ≠ r) : BL w ((b, cs, u) :: KS) r k t W :=
  ⟨h.up, fun x hx => (List.mem_cons.1 hx).elim (fun e => by rw [e]; exact hk) (h.bx x), fun x hx => (List.mem_cons.1 hx).elim (fun e => by rw [e]; exact hb) (h.no x), h.lo, h.res⟩
/-- A fresh variable. -/
theorem BL.new {w : World} {KS : List (Nat × List Value × TypeId)} {r k : Nat} {t : TypeId} {W : World} (h : BL w KS r k t W) (cs : List Value) (u : TypeId) : BL w ((W.heap.size, cs, u) :: KS) r k t (W.alloc (.cells cs.toArray u)) :=
  (h.next (up_alloc _ _)).var (Blk.new W cs u) (by
    obtain ⟨ds, _, h2⟩ := h.res
    have := h2.lt
    omega)
/-- The entry: a result's cell alone; boxes come behind. -/
theorem bl1 (w : World) (cs : List Value) (u : TypeId) (zs : List Value) (t : TypeId) : BL w [(w.heap.size, cs, u)] (w.heap.size + 1) zs.length t ((w.alloc (.cells cs.toArray u)).alloc (.cells zs.toArray t)) := by
  have h := bx2 w cs u zs t
  exact ⟨h.up, fun x hx => by
    obtain rfl : x = (w.heap.size, cs, u) := by simpa using hx
    exact h.box, fun x hx => by
    obtain rfl : x = (w.heap.size, cs, u) := by simpa using hx
    show w.heap.size ≠ _
    omega, by omega, zs, rfl, h.res⟩
theorem bl2 (w : World) (cs : List Value) (u : TypeId) (ds : List Value) (v : TypeId) (zs : List Value) (t : TypeId) : BL w [(w.heap.size, cs, u), (w.heap.size + 1, ds, v)] (w.heap.size + 2) zs.length t (((w.alloc (.cells cs.toArray u)).alloc (.cells ds.toArray v)).alloc (.cells zs.toArray t)) := by
  have h := bx2 w cs u ds v
  have hs : ((w.alloc (.cells cs.toArray u)).alloc (.cells ds.toArray v)).heap.size = w.heap.size + 2 := by simp
  have k := Blk.new ((w.alloc (.cells cs.toArray u)).alloc (.cells ds.toArray v)) zs t
  rw [hs] at k
  have n := h.next (up_alloc _ (.cells zs.toArray t))
  refine ⟨n.up, fun x hx => ?_, fun x hx => ?_, by omega, zs, rfl, k⟩
  · simp only [List.mem_cons, List.not_mem_nil, or_false] at hx
    rcases hx with rfl | rfl
    · exact n.box
    · exact n.res
  · simp only [List.mem_cons, List.not_mem_nil, or_false] at hx
    rcases hx with rfl | rfl
    · show w.heap.size ≠ _; omega
    · show w.heap.size + 1 ≠ _; omega
end Go.Proofs.YtdiiilnebepfdaaGreatDoor

namespace Go.Proofs.YtdiiilnebepfdaaGreatDoor
open Go.RowKit

set_option maxHeartbeats 400000 in
theorem c_woken (k h n : Int) (w : World) :
    Calls Tryz.prog 59 #[.int .i64 k, .int .i64 h, .int .i64 n] w fun e w' => e = .returned (.agg #[.int .i64 k, .int .i64 0, .int .i64 h, .int .i64 n]) ∧ Below w.heap.size w w' := by
  have up : Below w.heap.size w (w.alloc (.cells #[.int .i64 k, .int .i64 0, .int .i64 h, .int .i64 n] 32)) := up_alloc w _
  go_enter Tryz.func59, Tryz.ntmps59
  go_wp2
  exact bodyPost_ret (v := .agg #[.int .i64 k, .int .i64 0, .int .i64 h, .int .i64 n]) (by simp [results, Tryz.results59, go_sem]) rfl ⟨rfl, up⟩

theorem two_ev (w : World) (xs ys : Array Value) (t u : TypeId) : Below w.heap.size w ((w.alloc (.cells xs t)).alloc (.cells ys u)) := up_trans (up_alloc _ _) (up_alloc _ _)
set_option maxHeartbeats 400000 in
theorem c_when (b : Bool) (k o h n : Int) (w : World) :
    Calls Tryz.prog 56 #[.bool b, .agg #[.int .i64 k, .int .i64 o, .int .i64 h, .int .i64 n]] w (EvPost w (bif b then some ⟨k, o, h, n⟩ else none)) := by
  cases b
  · go_enter Tryz.func56, Tryz.ntmps56
    go_wp2
    exact bodyPost_ret (v := .tuple #[.agg #[.int .i64 0, .int .i64 0, .int .i64 0, .int .i64 0], .bool false]) (by simp [results, Tryz.results56, go_sem]) rfl ⟨rfl, two_ev _ _ _ _ _⟩
  · go_enter Tryz.func56, Tryz.ntmps56
    go_wp2
    exact bodyPost_ret (v := .tuple #[.agg #[.int .i64 k, .int .i64 o, .int .i64 h, .int .i64 n], .bool true]) (by simp [results, Tryz.results56, go_sem]) rfl ⟨rfl, two_ev _ _ _ _ _⟩

set_option maxHeartbeats 400000 in
theorem c_moved (c m : Int) (hm : m = 1 ∨ m = 2 ∨ m = 3) (w : World) :
    Calls Tryz.prog 83 #[.int .i64 c, .int .i64 m] w fun e w' => e = .returned (.agg #[.int .i64 (1 + m), .int .i64 c, .int .i64 0, .int .i64 0]) ∧ Below w.heap.size w w' := by
  rcases hm with rfl | rfl | rfl
  · go_enter Tryz.func83, Tryz.ntmps83
    go_wp2
    exact bodyPost_ret (v := .agg #[.int .i64 2, .int .i64 c, .int .i64 0, .int .i64 0]) (by simp [results, Tryz.results83, go_sem]) rfl ⟨rfl, two_ev _ _ _ _ _⟩
  · go_enter Tryz.func83, Tryz.ntmps83
    go_wp2
    exact bodyPost_ret (v := .agg #[.int .i64 3, .int .i64 c, .int .i64 0, .int .i64 0]) (by simp [results, Tryz.results83, go_sem]) rfl ⟨rfl, two_ev _ _ _ _ _⟩
  · go_enter Tryz.func83, Tryz.ntmps83
    go_wp2
    exact bodyPost_ret (v := .agg #[.int .i64 4, .int .i64 c, .int .i64 0, .int .i64 0]) (by simp [results, Tryz.results83, go_sem]) rfl ⟨rfl, two_ev _ _ _ _ _⟩

theorem i64_and7 (n : Int) : bits BinOp.and IntKind.i64 n 7 = n % 8 := by
  have h7 : (BitVec.ofInt 64 7).toNat = 2 ^ 3 - 1 := by decide
  have key : (BitVec.ofInt 64 n &&& BitVec.ofInt 64 7).toNat = (n % ((2 ^ 64 : Nat) : Int)).toNat % 2 ^ 3 := by
    rw [BitVec.toNat_and, BitVec.toNat_ofInt, h7, Nat.and_two_pow_sub_one_eq_mod]
  show IntKind.i64.wrap ((BitVec.ofInt 64 n &&& BitVec.ofInt 64 7).toNat : Nat) = n % 8
  rw [key, IntKind.wrap_i64]
  omega
set_option maxHeartbeats 400000 in
theorem c_timed (own who no : Int) (ho : 0 ≤ own ∧ own ≤ 9223372036854775807) (hn : 0 ≤ no ∧ no ≤ 5) (w : World) :
    Calls Tryz.prog 100 #[.int .i64 own, .int .i64 who, .int .i64 no] w fun e w' => e = .returned (.bool (own == 8 * who + no)) ∧ w = w' := by
  obtain ⟨x, hx⟩ : ∃ x, own % 8 = x := ⟨_, rfl⟩
  obtain ⟨y, hy⟩ : ∃ y, no % 8 = y := ⟨_, rfl⟩
  have e1 : bits BinOp.and IntKind.i64 own 7 = x := (i64_and7 own).trans hx
  have e2 : bits BinOp.and IntKind.i64 no 7 = y := (i64_and7 no).trans hy
  have HX := Lib.hid hx
  have HY := Lib.hid hy
  clear hx hy
  cases ht : (x == y)
  · have HE : Hid ((own == 8 * who + no) = false) := Lib.hid (by
      have h1 := HX.out
      have h2 := HY.out
      have h3 : x ≠ y := by simpa using ht
      rw [beq_eq_false_iff_ne]
      omega)
    go_enter Tryz.func100, Tryz.ntmps100
    go_wp2
    go_ret
    exact ⟨ret_bool HE.out.symm, rfl⟩
  · have HE : Hid ((own == 8 * who + no) = (own / 8 - no / 8 == who)) := Lib.hid (by
      have h1 := HX.out
      have h2 := HY.out
      have h3 : x = y := by simpa using ht
      apply Bool.eq_iff_iff.2
      rw [beq_iff_eq, beq_iff_eq]
      omega)
    go_enter Tryz.func100, Tryz.ntmps100
    go_wp2
    go_ret
    exact ⟨ret_bool HE.out.symm, rfl⟩

set_option maxHeartbeats 400000 in
theorem c_fires1 (b : Int) (w : World) :
    Calls Tryz.prog 79 #[.int .i64 b] w (EvPost w (some ⟨1, b, 0, 0⟩)) := by
  go_enter Tryz.func79, Tryz.ntmps79
  go_wp2
  exact bodyPost_ret (v := .tuple #[.agg #[.int .i64 1, .int .i64 b, .int .i64 0, .int .i64 0], .bool true]) (by simp [results, Tryz.results79, go_sem]) rfl ⟨rfl, up_alloc w (.cells #[.int .i64 1, .int .i64 b, .int .i64 0, .int .i64 0] 32)⟩

set_option maxHeartbeats 1000000 in
theorem c_moves1 (c m : Int) (hm : m = 1 ∨ m = 2 ∨ m = 3) (w : World) :
    Calls Tryz.prog 82 #[.agg #[.int .i64 c, .int .i64 m]] w (EvPost w (some ⟨1 + m, c, 0, 0⟩)) := by
  have hX := bx2 w [.int .i64 c, .int .i64 m] 159 evZC 32
  have CM := Lib.hid (fun W => c_moved c m hm W)
  have c0 := hX.box.cell 0 _ rfl
  have c1 := hX.box.cell 1 _ rfl
  have HX := Lib.hid hX
  clear hX hm
  go_enter Tryz.func82, Tryz.ntmps82
  go_wp2_with fail
  refine (CM.out _).mono ?_; rintro e w2 ⟨rfl, hb⟩
  have HA := Lib.hid (HX.out.next hb)
  clear hb c0 c1
  go_wp2_with (refine str (b := w.heap.size + 1) (t := 32) (cs := [.int .i64 (1 + m), .int .i64 c, .int .i64 0, .int .i64 0]) (ds := evZC) (.tmp 2) (.tmp 8) rfl rfl rfl rfl info_ev4 rfl (evC_one ⟨1 + m, c, 0, 0⟩) ?_ ?_; (· exact HA.out.res))
  refine bodyPost_ret (v := .tuple #[.agg #[.int .i64 (1 + m), .int .i64 c, .int .i64 0, .int .i64 0], .bool true]) (results_ce (fn := Tryz.f82) (p := 2) (t := 3) rfl _ _ _ rfl (HA.out.res.row _) Tryz.underlying32 rfl info_ev4) rfl ?_
  exact ⟨rfl, below_setRow HA.out.up (by omega) _⟩

set_option maxHeartbeats 400000 in
theorem c_which1 (g : GD) (b : Nat) (no : Int) (t : TypeId) (w : World) (hB : Blk w b [.int .i64 no] t) :
    Calls Tryz.prog 22 #[.agg #[.int .i64 g.k, .int .i64 g.o, .int .i64 g.v, .int .i64 g.r, .int .i64 g.n], .pointer (some ⟨b, 0, none⟩)] w fun e w' => e = .returned (.bool (g.n == no)) ∧ Below w.heap.size w w' := by
  have i0 := (hB.alloc (.cells #[.int .i64 g.k, .int .i64 g.o, .int .i64 g.v, .int .i64 g.r, .int .i64 g.n] 63)).cell 0 _ rfl
  have HU := Lib.hid (up_alloc w (.cells #[.int .i64 g.k, .int .i64 g.o, .int .i64 g.v, .int .i64 g.r, .int .i64 g.n] 63))
  clear hB
  go_enter Tryz.func22, Tryz.ntmps22
  go_wp2
  go_ret
  exact ⟨rfl, HU.out⟩
set_option maxHeartbeats 400000 in
theorem c_wanted1 (h : Int) (A : Option Addr) (n c b : Nat) (who : Int) (t : TypeId) (w : World) (hB : Blk w b [.int .i64 who] t) :
    Calls Tryz.prog 52 #[.agg #[.int .i64 h, .slice A n c], .pointer (some ⟨b, 0, none⟩)] w fun e w' => e = .returned (.bool (h == who)) ∧ Below w.heap.size w w' := by
  have i0 := (hB.alloc (.cells #[.int .i64 h, .slice A n c] 61)).cell 0 _ rfl
  have HU := Lib.hid (up_alloc w (.cells #[.int .i64 h, .slice A n c] 61))
  clear hB
  go_enter Tryz.func52, Tryz.ntmps52
  go_wp2
  go_ret
  exact ⟨rfl, HU.out⟩
set_option maxHeartbeats 1000000 in
theorem c_due1 (t : Tm) (b0 b1 b2 : Nat) (who no : Int) (V : VQ) (w : World) (h0 : Blk w b0 [.int .i64 who] 3) (h1 : Blk w b1 [.int .i64 no] 3) (h2 : Blk w b2 (vC V) 40)
    (ho : 0 ≤ t.who ∧ t.who ≤ 9223372036854775807) (hn : 0 ≤ no ∧ no ≤ 5) :
    Calls Tryz.prog 99 #[.agg #[.int .i64 t.at_, .int .i64 t.no, .int .i64 t.who], .pointer (some ⟨b0, 0, none⟩), .pointer (some ⟨b1, 0, none⟩), .pointer (some ⟨b2, 0, none⟩)] w fun e w' => e = .returned (.bool ((t.who == 8 * who + no) && dueB V.now t.at_)) ∧ Below w.heap.size w w' := by
  have i0 := (h0.alloc (.cells #[.int .i64 t.at_, .int .i64 t.no, .int .i64 t.who] 82)).cell 0 _ rfl
  have i1 := (h1.alloc (.cells #[.int .i64 t.at_, .int .i64 t.no, .int .i64 t.who] 82)).cell 0 _ rfl
  have i2 := (h2.alloc (.cells #[.int .i64 t.at_, .int .i64 t.no, .int .i64 t.who] 82)).cell 0 (.int .i64 V.now) rfl
  have HU := Lib.hid (up_alloc w (.cells #[.int .i64 t.at_, .int .i64 t.no, .int .i64 t.who] 82))
  have CT := Lib.hid (fun W => c_timed t.who who no ho hn W)
  have CD := Lib.hid (fun W => c_due V.now t.at_ W)
  generalize (t.who == 8 * who + no) = p at CT ⊢
  generalize dueB V.now t.at_ = q at CD ⊢
  clear h0 h1 h2 ho hn
  cases p
  all_goals
    go_enter Tryz.func99, Tryz.ntmps99
    go_wp2_with (first | (go_at_call 100; refine (CT.out _).mono ?_; rintro e w2 ⟨rfl, rfl⟩) | (go_at_call 88; refine (CD.out _).mono ?_; rintro e w3 ⟨rfl, rfl⟩))
    go_ret
    exact ⟨ret_bool (by simp), HU.out⟩
end Go.Proofs.YtdiiilnebepfdaaGreatDoor

namespace Go.Proofs.YtdiiilnebepfdaaGreatDoor
open Go.RowKit

set_option maxRecDepth 100000 in
set_option maxHeartbeats 2000000 in
theorem c_only1 (x : EV) (b : Nat) (k : Int) (w : World) (hB : Blk w b [.int .i64 k] 3) :
    Calls Tryz.prog 85 #[.agg (evC x).toArray, .pointer (some ⟨b, 0, none⟩)] w fun e w' => e = .returned (.tuple #[.agg (evC x).toArray, .bool (x.k == k)]) ∧ Below w.heap.size w w' := by
  have hX := (bl1 w (evC x) 32 evZC 32).var ((hB.alloc _).alloc _) (by have := hB.lt; omega)
  generalize hw1 : (w.alloc (.cells (evC x).toArray 32)).alloc (.cells evZC.toArray 32) = w1 at hX
  have HW := Lib.hid (show (w.alloc (.cells (evC x).toArray 32)).alloc (.cells #[.int .i64 0, .int .i64 0, .int .i64 0, .int .i64 0] 32) = w1 from hw1)
  have HX := Lib.hid hX
  clear hB hX hw1
  go_enter Tryz.func85, Tryz.ntmps85
  go_upto_region 1 with fail
  rw [HW.out]
  refine wp_region_held_drew (S := BL w [(b, [.int .i64 k], 3), (w.heap.size, evC x, 32)] (w.heap.size + 1) 4 32) (by kernel_rfl) (HX.out.next (up_drewN _ 1)) (fun hHeld => ?_)
  refine wpAnyH_take (i := 0) (oi := ?_) (v := (.agg (evC x).toArray)) ?_ (by kernel_rfl) (by kernel_rfl) (by kernel_rfl) ?_ (Or.inl ⟨?_, ?_⟩) hHeld ?_
  rotate_left 1
  · conv => lhs; simp only [List.getElem?_toArray, List.getElem?_cons_succ, List.getElem?_cons_zero]
  · exact fun _ _ _ h => h
  · rfl
  · intro W hSw
    exact tk_load rfl rfl (load_row (hSw.ka 1 rfl) Tryz.underlying32 rfl info_ev4)
  try simp only [Act.put, List.setIfInBounds_toArray, List.set_cons_zero, List.set_cons_succ]
  refine wpAnyH_take (i := 1) (oi := ?_) (v := ?_) ?_ (by kernel_rfl) (by kernel_rfl) (by kernel_rfl) ?_ (Or.inl ⟨?_, ?_⟩) hHeld ?_
  rotate_left 2
  · conv => lhs; simp only [List.getElem?_toArray, List.getElem?_cons_succ, List.getElem?_cons_zero]
  · exact fun _ _ _ h => h
  · rfl
  · intro W hSw
    go_simp
    try with_reducible rfl
  try simp only [Act.put, List.setIfInBounds_toArray, List.set_cons_zero, List.set_cons_succ]
  refine wpAnyH_take (i := 2) (oi := ?_) (v := ?_) ?_ (by kernel_rfl) (by kernel_rfl) (by kernel_rfl) ?_ (Or.inl ⟨?_, ?_⟩) hHeld ?_
  rotate_left 2
  · conv => lhs; simp only [List.getElem?_toArray, List.getElem?_cons_succ, List.getElem?_cons_zero]
  · exact fun _ _ _ h => h
  · rfl
  · intro W hSw
    have f0 := (hSw.ka 1 rfl).cell 0 _ rfl
    go_simp
    try with_reducible rfl
  try simp only [Act.put, List.setIfInBounds_toArray, List.set_cons_zero, List.set_cons_succ]
  refine wpAnyH_take (i := 3) (oi := ?_) (v := ?_) ?_ (by kernel_rfl) (by kernel_rfl) (by kernel_rfl) ?_ (Or.inl ⟨?_, ?_⟩) hHeld ?_
  rotate_left 2
  · conv => lhs; simp only [List.getElem?_toArray, List.getElem?_cons_succ, List.getElem?_cons_zero]
  · exact fun _ _ _ h => h
  · rfl
  · intro W hSw
    have f0 := (hSw.ka 0 rfl).cell 0 _ rfl
    go_simp
    try with_reducible rfl
  try simp only [Act.put, List.setIfInBounds_toArray, List.set_cons_zero, List.set_cons_succ]
  refine wpAnyH_take (i := 4) (oi := ?_) (v := ?_) ?_ (by kernel_rfl) (by kernel_rfl) (by kernel_rfl) ?_ (Or.inl ⟨?_, ?_⟩) hHeld ?_
  rotate_left 2
  · conv => lhs; simp only [List.getElem?_toArray, List.getElem?_cons_succ, List.getElem?_cons_zero]
  · exact fun _ _ _ h => h
  · rfl
  · intro W hSw
    go_simp
    try with_reducible rfl
  try simp only [Act.put, List.setIfInBounds_toArray, List.set_cons_zero, List.set_cons_succ]
  obtain ⟨ds, hds, hres⟩ := hHeld.res
  refine wpAnyH_ready (rs := [5]) (by kernel_rfl) (by simp) ?_
  refine AllReadyH.cons (o := ?_) ?_ (fun K hK => ?_) AllReadyH.nil
  rotate_left 1
  · conv => lhs; simp only [List.getElem?_toArray, List.getElem?_cons_succ, List.getElem?_cons_zero]
  rw [if_pos (by rfl)]
  refine wp_store_row 32 (.tmp 3) (.tmp 5) rfl (w.heap.size + 1) (evC x).toArray rfl rfl 32 ds.toArray hres info_ev4 (by rw [List.size_toArray, List.size_toArray, hds]; rfl) (al_one (evC_one x)) ?_
  refine hK.out _ _ (hHeld.put (evC x) rfl) (fun hHeld => ?_)
  clear hK K
  refine wpAnyH_take (i := 6) (oi := ?_) (v := ?_) ?_ (by kernel_rfl) (by kernel_rfl) (by kernel_rfl) ?_ (Or.inl ⟨?_, ?_⟩) hHeld ?_
  rotate_left 2
  · conv => lhs; simp only [List.getElem?_toArray, List.getElem?_cons_succ, List.getElem?_cons_zero]
  · exact fun _ _ _ h => h
  · rfl
  · intro W hSw
    go_simp
    try with_reducible rfl
  try simp only [Act.put, List.setIfInBounds_toArray, List.set_cons_zero, List.set_cons_succ]
  refine wpAnyH_done (by kernel_rfl) ?_ _
  go_wp2_with fail
  refine bodyPost_ret (v := .tuple #[.agg (evC x).toArray, .bool (x.k == k)]) (results_ce (fn := Tryz.f85) (p := 3) (t := 4) rfl _ _ _ rfl (hres.row _) Tryz.underlying32 rfl info_ev4) rfl ?_
  exact ⟨rfl, hHeld.up⟩

theorem t8_div (x : Int) (h : 0 ≤ x) : x.tdiv 8 = x / 8 := Int.tdiv_eq_ediv_of_nonneg h
theorem t8_mod (x : Int) (h : 0 ≤ x) : x.tmod 8 = x % 8 := Int.tmod_eq_emod_of_nonneg h
set_option maxRecDepth 100000 in
set_option maxHeartbeats 2000000 in
theorem c_dues1 (t : Tm) (ht : 0 ≤ t.who ∧ t.who ≤ 9223372036854775807) (b : Nat) (V : VQ) (w : World) (hB : Blk w b (vC V) 40) :
    Calls Tryz.prog 87 #[.agg (tmV t).toArray, .pointer (some ⟨b, 0, none⟩)] w fun e w' => e = .returned (.tuple #[.agg (evC ⟨6, 0, t.who / 8, t.who % 8⟩).toArray, .bool (dueB V.now t.at_)]) ∧ Below w.heap.size w w' := by
  have hX := (bl1 w (tmV t) 82 evZC 32).var ((hB.alloc _).alloc _) (by have := hB.lt; omega)
  generalize hw1 : (w.alloc (.cells (tmV t).toArray 82)).alloc (.cells evZC.toArray 32) = w1 at hX
  have HW := Lib.hid (show (w.alloc (.cells (tmV t).toArray 82)).alloc (.cells #[.int .i64 0, .int .i64 0, .int .i64 0, .int .i64 0] 32) = w1 from hw1)
  have HX := Lib.hid hX
  have CW := Lib.hid (fun W => c_woken 6 (t.who / 8) (t.who % 8) W)
  have CD := Lib.hid (fun W => c_due V.now t.at_ W)
  generalize dueB V.now t.at_ = q at CD ⊢
  obtain ⟨d, hd⟩ : ∃ d, t.who / 8 = d := ⟨_, rfl⟩
  obtain ⟨m, hm⟩ : ∃ m, t.who % 8 = m := ⟨_, rfl⟩
  have e1 : IntKind.i64.wrap (t.who.tdiv 8) = d := by
    rw [t8_div _ ht.1, IntWalk.i64_in _ (by omega), hd]
  have e2 : t.who.tmod 8 = m := (t8_mod _ ht.1).trans hm
  rw [hd, hm] at CW ⊢
  clear hd hm ht
  clear hB hX hw1
  go_enter Tryz.func87, Tryz.ntmps87
  go_upto_region 1 with fail
  rw [HW.out]
  refine wp_region_held_drew (S := BL w [(b, vC V, 40), (w.heap.size, tmV t, 82)] (w.heap.size + 1) 4 32) (by kernel_rfl) (HX.out.next (up_drewN _ 1)) (fun hHeld => ?_)
  refine wpAnyH_take (i := 0) (oi := ?_) (v := ?_) ?_ (by kernel_rfl) (by kernel_rfl) (by kernel_rfl) ?_ (Or.inl ⟨?_, ?_⟩) hHeld ?_
  rotate_left 2
  · conv => lhs; simp only [List.getElem?_toArray, List.getElem?_cons_succ, List.getElem?_cons_zero]
  · exact fun _ _ _ h => h
  · rfl
  · intro W hSw
    go_simp
    try with_reducible rfl
  try simp only [Act.put, List.setIfInBounds_toArray, List.set_cons_zero, List.set_cons_succ]
  refine wpAnyH_take (i := 1) (oi := ?_) (v := ?_) ?_ (by kernel_rfl) (by kernel_rfl) (by kernel_rfl) ?_ (Or.inl ⟨?_, ?_⟩) hHeld ?_
  rotate_left 2
  · conv => lhs; simp only [List.getElem?_toArray, List.getElem?_cons_succ, List.getElem?_cons_zero]
  · exact fun _ _ _ h => h
  · rfl
  · intro W hSw
    have f0 := (hSw.ka 1 rfl).cell 2 _ rfl
    go_simp
    try with_reducible rfl
  try simp only [Act.put, List.setIfInBounds_toArray, List.set_cons_zero, List.set_cons_succ]
  refine wpAnyH_take (i := 2) (oi := ?_) (v := ?_) ?_ (by kernel_rfl) (by kernel_rfl) (by kernel_rfl) ?_ (Or.inl ⟨?_, ?_⟩) hHeld ?_
  rotate_left 2
  · conv => lhs; simp only [List.getElem?_toArray, List.getElem?_cons_succ, List.getElem?_cons_zero]
  · exact fun _ _ _ h => h
  · rfl
  · intro W hSw
    go_simp
    try with_reducible rfl
  try simp only [Act.put, List.setIfInBounds_toArray, List.set_cons_zero, List.set_cons_succ]
  refine wpAnyH_take (i := 3) (oi := ?_) (v := ?_) ?_ (by kernel_rfl) (by kernel_rfl) (by kernel_rfl) ?_ (Or.inl ⟨?_, ?_⟩) hHeld ?_
  rotate_left 2
  · conv => lhs; simp only [List.getElem?_toArray, List.getElem?_cons_succ, List.getElem?_cons_zero]
  · exact fun _ _ _ h => h
  · rfl
  · intro W hSw
    go_simp
    try with_reducible rfl
  try simp only [Act.put, List.setIfInBounds_toArray, List.set_cons_zero, List.set_cons_succ]
  refine wpAnyH_take (i := 4) (oi := ?_) (v := ?_) ?_ (by kernel_rfl) (by kernel_rfl) (by kernel_rfl) ?_ (Or.inl ⟨?_, ?_⟩) hHeld ?_
  rotate_left 2
  · conv => lhs; simp only [List.getElem?_toArray, List.getElem?_cons_succ, List.getElem?_cons_zero]
  · exact fun _ _ _ h => h
  · rfl
  · intro W hSw
    have f0 := (hSw.ka 1 rfl).cell 2 _ rfl
    go_simp
    try with_reducible rfl
  try simp only [Act.put, List.setIfInBounds_toArray, List.set_cons_zero, List.set_cons_succ]
  refine wpAnyH_take (i := 5) (oi := ?_) (v := ?_) ?_ (by kernel_rfl) (by kernel_rfl) (by kernel_rfl) ?_ (Or.inl ⟨?_, ?_⟩) hHeld ?_
  rotate_left 2
  · conv => lhs; simp only [List.getElem?_toArray, List.getElem?_cons_succ, List.getElem?_cons_zero]
  · exact fun _ _ _ h => h
  · rfl
  · intro W hSw
    go_simp
    try with_reducible rfl
  try simp only [Act.put, List.setIfInBounds_toArray, List.set_cons_zero, List.set_cons_succ]
  refine wpAnyH_take (i := 7) (oi := ?_) (v := ?_) ?_ (by kernel_rfl) (by kernel_rfl) (by kernel_rfl) ?_ (Or.inl ⟨?_, ?_⟩) hHeld ?_
  rotate_left 2
  · conv => lhs; simp only [List.getElem?_toArray, List.getElem?_cons_succ, List.getElem?_cons_zero]
  · exact fun _ _ _ h => h
  · rfl
  · intro W hSw
    go_simp
    try with_reducible rfl
  try simp only [Act.put, List.setIfInBounds_toArray, List.set_cons_zero, List.set_cons_succ]
  refine wpAnyH_take (i := 8) (oi := ?_) (v := ?_) ?_ (by kernel_rfl) (by kernel_rfl) (by kernel_rfl) ?_ (Or.inl ⟨?_, ?_⟩) hHeld ?_
  rotate_left 2
  · conv => lhs; simp only [List.getElem?_toArray, List.getElem?_cons_succ, List.getElem?_cons_zero]
  · exact fun _ _ _ h => h
  · rfl
  · intro W hSw
    have f0 := (hSw.ka 0 rfl).cell 0 _ rfl
    go_simp
    try with_reducible rfl
  try simp only [Act.put, List.setIfInBounds_toArray, List.set_cons_zero, List.set_cons_succ]
  refine wpAnyH_take (i := 9) (oi := ?_) (v := ?_) ?_ (by kernel_rfl) (by kernel_rfl) (by kernel_rfl) ?_ (Or.inl ⟨?_, ?_⟩) hHeld ?_
  rotate_left 2
  · conv => lhs; simp only [List.getElem?_toArray, List.getElem?_cons_succ, List.getElem?_cons_zero]
  · exact fun _ _ _ h => h
  · rfl
  · intro W hSw
    go_simp
    try with_reducible rfl
  try simp only [Act.put, List.setIfInBounds_toArray, List.set_cons_zero, List.set_cons_succ]
  refine wpAnyH_take (i := 10) (oi := ?_) (v := ?_) ?_ (by kernel_rfl) (by kernel_rfl) (by kernel_rfl) ?_ (Or.inl ⟨?_, ?_⟩) hHeld ?_
  rotate_left 2
  · conv => lhs; simp only [List.getElem?_toArray, List.getElem?_cons_succ, List.getElem?_cons_zero]
  · exact fun _ _ _ h => h
  · rfl
  · intro W hSw
    have f0 := (hSw.ka 1 rfl).cell 0 _ rfl
    go_simp
    try with_reducible rfl
  try simp only [Act.put, List.setIfInBounds_toArray, List.set_cons_zero, List.set_cons_succ]
  refine wpAnyH_ready (rs := [6]) (by kernel_rfl) (by simp) ?_
  refine AllReadyH.cons (o := ?_) ?_ (fun K hK => ?_) AllReadyH.nil
  rotate_left 1
  · conv => lhs; simp only [List.getElem?_toArray, List.getElem?_cons_succ, List.getElem?_cons_zero]
  go_simp
  refine (CW.out _).mono ?_
  rintro e wA ⟨rfl, hb⟩
  go_wp2_with fail
  refine hK.out _ _ (hHeld.next hb) (fun hHeld => ?_)
  clear hK K
  try simp only [Act.put, List.setIfInBounds_toArray, List.set_cons_zero, List.set_cons_succ]
  refine wpAnyH_ready (rs := [11]) (by kernel_rfl) (by simp) ?_
  refine AllReadyH.cons (o := ?_) ?_ (fun K hK => ?_) AllReadyH.nil
  rotate_left 1
  · conv => lhs; simp only [List.getElem?_toArray, List.getElem?_cons_succ, List.getElem?_cons_zero]
  go_simp
  refine (CD.out _).mono ?_
  rintro e wA ⟨rfl, rfl⟩
  go_wp2_with fail
  refine hK.out _ _ (hHeld) (fun hHeld => ?_)
  clear hK K
  try simp only [Act.put, List.setIfInBounds_toArray, List.set_cons_zero, List.set_cons_succ]
  obtain ⟨ds, hds, hres⟩ := hHeld.res
  refine wpAnyH_ready (rs := [12]) (by kernel_rfl) (by simp) ?_
  refine AllReadyH.cons (o := ?_) ?_ (fun K hK => ?_) AllReadyH.nil
  rotate_left 1
  · conv => lhs; simp only [List.getElem?_toArray, List.getElem?_cons_succ, List.getElem?_cons_zero]
  rw [if_pos (by rfl)]
  refine wp_store_row 32 (.tmp 3) (.tmp 11) rfl (w.heap.size + 1) (evC ⟨6, 0, d, m⟩).toArray rfl rfl 32 ds.toArray hres info_ev4 (by rw [List.size_toArray, List.size_toArray, hds]; rfl) (al_one (evC_one _)) ?_
  refine hK.out _ _ (hHeld.put (evC ⟨6, 0, d, m⟩) rfl) (fun hHeld => ?_)
  clear hK K
  refine wpAnyH_take (i := 13) (oi := ?_) (v := ?_) ?_ (by kernel_rfl) (by kernel_rfl) (by kernel_rfl) ?_ (Or.inl ⟨?_, ?_⟩) hHeld ?_
  rotate_left 2
  · conv => lhs; simp only [List.getElem?_toArray, List.getElem?_cons_succ, List.getElem?_cons_zero]
  · exact fun _ _ _ h => h
  · rfl
  · intro W hSw
    go_simp
    try with_reducible rfl
  try simp only [Act.put, List.setIfInBounds_toArray, List.set_cons_zero, List.set_cons_succ]
  refine wpAnyH_done (by kernel_rfl) ?_ _
  go_wp2_with fail
  refine bodyPost_ret (v := .tuple #[.agg (evC ⟨6, 0, d, m⟩).toArray, .bool q]) (results_ce (fn := Tryz.f87) (p := 3) (t := 4) rfl _ _ _ rfl (hres.row _) Tryz.underlying32 rfl info_ev4) rfl ?_
  exact ⟨rfl, hHeld.up⟩
end Go.Proofs.YtdiiilnebepfdaaGreatDoor

namespace Go.Proofs.YtdiiilnebepfdaaGreatDoor
open Go.RowKit

/-- slices.IndexFunc's answer. -/
def ixF {α : Type} (p : α → Bool) (l : List α) : Int := if l.any p = true then (l.findIdx p : Int) else -1
theorem ixF_no {α : Type} {p : α → Bool} {l : List α} (h : l.any p = false) : ixF p l = -1 := if_neg (by rw [h]; decide)
theorem ixF_at {α : Type} {p : α → Bool} {l : List α} {k : Nat} {g : α} (hg : l[k]? = some g) (h0 : (l.take k).any p = false) (h : p g = true) : ixF p l = k := by
  obtain ⟨hk, he⟩ := List.getElem?_eq_some_iff.1 hg
  have ha : l.any p = true := List.any_eq_true.2 ⟨g, List.mem_of_getElem? hg, h⟩
  unfold ixF
  rw [if_pos ha]
  have hx : l.findIdx p = k := by
    rw [List.findIdx_eq hk]
    refine ⟨by rw [he]; exact h, fun j hj => ?_⟩
    rw [List.any_eq_false] at h0
    have := h0 (l[j]'(by omega)) (by
      rw [List.mem_take_iff_getElem]
      exact ⟨j, by omega, rfl⟩)
    simpa using this
  rw [hx]
theorem ixF_geq {α : Type} (p : α → Bool) (l : List α) : decide (0 ≤ ixF p l) = l.any p := by
  unfold ixF
  cases l.any p <;> simp
theorem anyN {α : Type} {p : α → Bool} {l : List α} {k : Nat} {g : α} (hg : l[k]? = some g) (h0 : (l.take k).any p = false) (h : p g = false) : (l.take (k + 1)).any p = false := by
  rw [List.take_add_one, hg, List.any_append, h0]
  simp [h]
theorem info_wt : (Tryz.prog.info? 61).map (·.size) = some 2 := by kernel_rfl
theorem info_tm : (Tryz.prog.info? 82).map (·.size) = some 3 := by kernel_rfl
theorem tmV_len (t : Tm) : (tmV t).length = 3 := rfl
theorem wqC_len (q : WQ) : (wqC q).length = 2 := rfl

set_option maxHeartbeats 2000000 in
theorem c_ixG {p : GD → Bool} {w : World} {pl : Nat → Prop} {A : Option Addr} {n c : Nat} {L : List GD} (hR : RD w pl 5 A n (L.flatMap gdC)) (hl : L.length = n) (hn : n ≤ 100000) {c1 : Value}
    (hS : ∀ x ∈ L, ∀ W, Below w.heap.size w W → Calls Tryz.prog 22 #[.agg (gdC x).toArray, c1] W fun e w' => e = .returned (.bool (p x)) ∧ Below W.heap.size W w') :
    Calls Tryz.prog 21 #[.slice A n c, .func (.func 22) #[] #[c1]] w fun e w' => e = .returned (.int .i64 (ixF p L)) ∧ Below w.heap.size w w' := by
  have HR := Lib.hid hR
  have HL := Lib.hid hl
  have HS := Lib.hid hS
  clear hR hl hS
  go_enter Tryz.func21, Tryz.ntmps21
  go_wp2
  go_loopw [8] (fun i wr => ∃ k : Nat, k ≤ n ∧ i = .int .i64 k ∧ (L.take k).any p = false ∧ Below w.heap.size w wr) (fun i _ => n - (intOf i).toNat)
  case atStart => exact ⟨0, Nat.zero_le _, rfl, rfl, Below.refl _ _⟩
  case round =>
    obtain ⟨k, hk, rfl, hF, hbw⟩ := hrel
    have HF := Lib.hid hF
    have HB := Lib.hid hbw
    clear hF
    by_cases hlt : k < n
    · have hex : ∃ g, L[k]? = some g := ⟨_, List.getElem?_eq_getElem (by rw [HL.out]; exact hlt)⟩
      obtain ⟨g, hg⟩ := hex
      obtain ⟨b, o, rfl, _, _, hrg⟩ := RD.row' gdC_len (HR.out.below hbw) hg hlt
      have HRG := Lib.hid hrg
      have HG := Lib.hid hg
      have C := HS.out g (List.mem_of_getElem? hg) wr hbw
      obtain ⟨x, hx⟩ : ∃ x, p g = x := ⟨_, rfl⟩
      rw [hx] at C
      have HX := Lib.hid hx
      have CC := Lib.hid C
      clear hg hbw hx C hrg
      cases x
      · go_wp2_with (refine lmr (b := b) (q := o + k * 5) (cs := gdC g) (.tmp 14) rfl rfl Tryz.underlying63 rfl info_gd5 rfl ?_ ?_; (· exact HRG.out))
        refine CC.out.mono ?_; rintro e w2 ⟨rfl, hb2⟩
        have HB2 := Lib.hid (up_trans HB.out hb2)
        have HN := Lib.hid (anyN HG.out HF.out HX.out)
        clear hb2
        go_wp2
        go_roundw
        case rel => exact ⟨k + 1, by omega, by go_num, HN.out, HB2.out⟩
        case measure => simp [intOf]; omega
      · go_wp2_with (refine lmr (b := b) (q := o + k * 5) (cs := gdC g) (.tmp 14) rfl rfl Tryz.underlying63 rfl info_gd5 rfl ?_ ?_; (· exact HRG.out))
        refine CC.out.mono ?_; rintro e w2 ⟨rfl, hb2⟩
        have HB2 := Lib.hid (up_trans HB.out hb2)
        have HN := Lib.hid (ixF_at HG.out HF.out HX.out)
        clear hb2
        go_wp2
        go_ret
        exact ⟨ret_int HN.out.symm, HB2.out⟩
    · obtain rfl : k = n := by omega
      have HN := Lib.hid (show ixF p L = -1 from ixF_no (by
        have := HF.out
        rwa [List.take_of_length_le (by rw [HL.out]; exact Nat.le_refl _)] at this))
      clear hbw
      go_wp2
      go_ret
      exact ⟨ret_int HN.out.symm, HB.out⟩

set_option maxHeartbeats 2000000 in
theorem c_ixW {p : WQ → Bool} {w : World} {pl : Nat → Prop} {A : Option Addr} {n c : Nat} {L : List WQ} (hR : RD w pl 2 A n (L.flatMap wqC)) (hl : L.length = n) (hn : n ≤ 100000) {c1 : Value}
    (hS : ∀ x ∈ L, ∀ W, Below w.heap.size w W → Calls Tryz.prog 52 #[.agg (wqC x).toArray, c1] W fun e w' => e = .returned (.bool (p x)) ∧ Below W.heap.size W w') :
    Calls Tryz.prog 51 #[.slice A n c, .func (.func 52) #[] #[c1]] w fun e w' => e = .returned (.int .i64 (ixF p L)) ∧ Below w.heap.size w w' := by
  have HR := Lib.hid hR
  have HL := Lib.hid hl
  have HS := Lib.hid hS
  clear hR hl hS
  go_enter Tryz.func51, Tryz.ntmps51
  go_wp2
  go_loopw [8] (fun i wr => ∃ k : Nat, k ≤ n ∧ i = .int .i64 k ∧ (L.take k).any p = false ∧ Below w.heap.size w wr) (fun i _ => n - (intOf i).toNat)
  case atStart => exact ⟨0, Nat.zero_le _, rfl, rfl, Below.refl _ _⟩
  case round =>
    obtain ⟨k, hk, rfl, hF, hbw⟩ := hrel
    have HF := Lib.hid hF
    have HB := Lib.hid hbw
    clear hF
    by_cases hlt : k < n
    · have hex : ∃ g, L[k]? = some g := ⟨_, List.getElem?_eq_getElem (by rw [HL.out]; exact hlt)⟩
      obtain ⟨g, hg⟩ := hex
      obtain ⟨b, o, rfl, _, _, hrg⟩ := RD.row' wqC_len (HR.out.below hbw) hg hlt
      have HRG := Lib.hid hrg
      have HG := Lib.hid hg
      have C := HS.out g (List.mem_of_getElem? hg) wr hbw
      obtain ⟨x, hx⟩ : ∃ x, p g = x := ⟨_, rfl⟩
      rw [hx] at C
      have HX := Lib.hid hx
      have CC := Lib.hid C
      clear hg hbw hx C hrg
      cases x
      · go_wp2_with (refine lmr (b := b) (q := o + k * 2) (cs := wqC g) (.tmp 14) rfl rfl Tryz.underlying61 rfl info_wt rfl ?_ ?_; (· exact HRG.out))
        refine CC.out.mono ?_; rintro e w2 ⟨rfl, hb2⟩
        have HB2 := Lib.hid (up_trans HB.out hb2)
        have HN := Lib.hid (anyN HG.out HF.out HX.out)
        clear hb2
        go_wp2
        go_roundw
        case rel => exact ⟨k + 1, by omega, by go_num, HN.out, HB2.out⟩
        case measure => simp [intOf]; omega
      · go_wp2_with (refine lmr (b := b) (q := o + k * 2) (cs := wqC g) (.tmp 14) rfl rfl Tryz.underlying61 rfl info_wt rfl ?_ ?_; (· exact HRG.out))
        refine CC.out.mono ?_; rintro e w2 ⟨rfl, hb2⟩
        have HB2 := Lib.hid (up_trans HB.out hb2)
        have HN := Lib.hid (ixF_at HG.out HF.out HX.out)
        clear hb2
        go_wp2
        go_ret
        exact ⟨ret_int HN.out.symm, HB2.out⟩
    · obtain rfl : k = n := by omega
      have HN := Lib.hid (show ixF p L = -1 from ixF_no (by
        have := HF.out
        rwa [List.take_of_length_le (by rw [HL.out]; exact Nat.le_refl _)] at this))
      clear hbw
      go_wp2
      go_ret
      exact ⟨ret_int HN.out.symm, HB.out⟩

set_option maxHeartbeats 2000000 in
theorem c_ixT {p : Tm → Bool} {w : World} {pl : Nat → Prop} {A : Option Addr} {n c : Nat} {L : List Tm} (hR : RD w pl 3 A n (L.flatMap tmV)) (hl : L.length = n) (hn : n ≤ 100000) {c1 : Value} {c2 : Value} {c3 : Value}
    (hS : ∀ x ∈ L, ∀ W, Below w.heap.size w W → Calls Tryz.prog 99 #[.agg (tmV x).toArray, c1, c2, c3] W fun e w' => e = .returned (.bool (p x)) ∧ Below W.heap.size W w') :
    Calls Tryz.prog 126 #[.slice A n c, .func (.func 99) #[] #[c1, c2, c3]] w fun e w' => e = .returned (.int .i64 (ixF p L)) ∧ Below w.heap.size w w' := by
  have HR := Lib.hid hR
  have HL := Lib.hid hl
  have HS := Lib.hid hS
  clear hR hl hS
  go_enter Tryz.func126, Tryz.ntmps126
  go_wp2
  go_loopw [8] (fun i wr => ∃ k : Nat, k ≤ n ∧ i = .int .i64 k ∧ (L.take k).any p = false ∧ Below w.heap.size w wr) (fun i _ => n - (intOf i).toNat)
  case atStart => exact ⟨0, Nat.zero_le _, rfl, rfl, Below.refl _ _⟩
  case round =>
    obtain ⟨k, hk, rfl, hF, hbw⟩ := hrel
    have HF := Lib.hid hF
    have HB := Lib.hid hbw
    clear hF
    by_cases hlt : k < n
    · have hex : ∃ g, L[k]? = some g := ⟨_, List.getElem?_eq_getElem (by rw [HL.out]; exact hlt)⟩
      obtain ⟨g, hg⟩ := hex
      obtain ⟨b, o, rfl, _, _, hrg⟩ := RD.row' tmV_len (HR.out.below hbw) hg hlt
      have HRG := Lib.hid hrg
      have HG := Lib.hid hg
      have C := HS.out g (List.mem_of_getElem? hg) wr hbw
      obtain ⟨x, hx⟩ : ∃ x, p g = x := ⟨_, rfl⟩
      rw [hx] at C
      have HX := Lib.hid hx
      have CC := Lib.hid C
      clear hg hbw hx C hrg
      cases x
      · go_wp2_with (refine lmr (b := b) (q := o + k * 3) (cs := tmV g) (.tmp 14) rfl rfl Tryz.underlying82 rfl info_tm rfl ?_ ?_; (· exact HRG.out))
        refine CC.out.mono ?_; rintro e w2 ⟨rfl, hb2⟩
        have HB2 := Lib.hid (up_trans HB.out hb2)
        have HN := Lib.hid (anyN HG.out HF.out HX.out)
        clear hb2
        go_wp2
        go_roundw
        case rel => exact ⟨k + 1, by omega, by go_num, HN.out, HB2.out⟩
        case measure => simp [intOf]; omega
      · go_wp2_with (refine lmr (b := b) (q := o + k * 3) (cs := tmV g) (.tmp 14) rfl rfl Tryz.underlying82 rfl info_tm rfl ?_ ?_; (· exact HRG.out))
        refine CC.out.mono ?_; rintro e w2 ⟨rfl, hb2⟩
        have HB2 := Lib.hid (up_trans HB.out hb2)
        have HN := Lib.hid (ixF_at HG.out HF.out HX.out)
        clear hb2
        go_wp2
        go_ret
        exact ⟨ret_int HN.out.symm, HB2.out⟩
    · obtain rfl : k = n := by omega
      have HN := Lib.hid (show ixF p L = -1 from ixF_no (by
        have := HF.out
        rwa [List.take_of_length_le (by rw [HL.out]; exact Nat.le_refl _)] at this))
      clear hbw
      go_wp2
      go_ret
      exact ⟨ret_int HN.out.symm, HB.out⟩

set_option maxHeartbeats 1000000 in
theorem c_ctT {p : Tm → Bool} {w : World} {pl : Nat → Prop} {A : Option Addr} {n c : Nat} {L : List Tm} (hR : RD w pl 3 A n (L.flatMap tmV)) (hl : L.length = n) (hn : n ≤ 100000) {c1 c2 c3 : Value}
    (hS : ∀ x ∈ L, ∀ W, Below w.heap.size w W → Calls Tryz.prog 99 #[.agg (tmV x).toArray, c1, c2, c3] W fun e w' => e = .returned (.bool (p x)) ∧ Below W.heap.size W w') :
    Calls Tryz.prog 98 #[.slice A n c, .func (.func 99) #[] #[c1, c2, c3]] w fun e w' => e = .returned (.bool (L.any p)) ∧ Below w.heap.size w w' := by
  have C := Lib.hid (c_ixT (c := c) hR hl hn hS)
  have HG := Lib.hid (ixF_geq p L)
  clear hR hl hS
  go_enter Tryz.func98, Tryz.ntmps98
  go_wp2_with fail
  refine C.out.mono ?_; rintro e w2 ⟨rfl, hb2⟩
  go_wp2
  go_ret
  exact ⟨ret_bool HG.out, hb2⟩

/-- Three boxes. -/
theorem box3 (w : World) (xs ys zs : List Value) (t u v : TypeId) :
    Blk (((w.alloc (.cells xs.toArray t)).alloc (.cells ys.toArray u)).alloc (.cells zs.toArray v)) w.heap.size xs t ∧ Blk (((w.alloc (.cells xs.toArray t)).alloc (.cells ys.toArray u)).alloc (.cells zs.toArray v)) (w.heap.size + 1) ys u ∧ Blk (((w.alloc (.cells xs.toArray t)).alloc (.cells ys.toArray u)).alloc (.cells zs.toArray v)) (w.heap.size + 2) zs v ∧
      Below w.heap.size w (((w.alloc (.cells xs.toArray t)).alloc (.cells ys.toArray u)).alloc (.cells zs.toArray v)) := by
  have h := bl2 w xs t ys u zs v
  have k := Blk.new ((w.alloc (.cells xs.toArray t)).alloc (.cells ys.toArray u)) zs v
  rw [show ((w.alloc (.cells xs.toArray t)).alloc (.cells ys.toArray u)).heap.size = w.heap.size + 2 by simp] at k
  exact ⟨h.ka 0 rfl, h.ka 1 rfl, k, h.up⟩
set_option maxHeartbeats 2000000 in
theorem c_rddue {V : VQ} {w : World} (h : VW w V) (hf : Few V) (ht : ∀ t ∈ V.Tq, t.who ≤ 9223372036854775807) (who no : Int) (hn : 0 ≤ no ∧ no ≤ 5) :
    Calls Tryz.prog 58 #[.agg (vC V).toArray, .int .i64 who, .int .i64 no] w fun e w' => e = .returned (.bool (rdDue V.now V.Tq who no)) ∧ Below w.heap.size w w' := by
  obtain ⟨k0, k1, k2, hU⟩ := box3 w (vC V) [.int .i64 who] [.int .i64 no] 40 3 3
  generalize hw1 : ((w.alloc (.cells (vC V).toArray 40)).alloc (.cells [Value.int .i64 who].toArray 3)).alloc (.cells [Value.int .i64 no].toArray 3) = w1 at k0 k1 k2 hU
  have HW := Lib.hid (show ((w.alloc (.cells (vC V).toArray 40)).alloc (.cells #[.int .i64 who] 3)).alloc (.cells #[.int .i64 no] 3) = w1 from hw1)
  have CC := Lib.hid (c_ctT (w := w1) (c := V.Tc) (p := fun t => (t.who == 8 * who + no) && dueB V.now t.at_) (h.below hU).r.tm rfl (by have := hf.tm; omega)
    (c1 := .pointer (some ⟨w.heap.size + 1, 0, none⟩)) (c2 := .pointer (some ⟨w.heap.size + 2, 0, none⟩)) (c3 := .pointer (some ⟨w.heap.size, 0, none⟩))
    (fun x hx W hW => c_due1 x (w.heap.size + 1) (w.heap.size + 2) w.heap.size who no V W (k1.up hW k1.lt) (k2.up hW k2.lt) (k0.up hW k0.lt) ⟨hf.tw x hx, ht x hx⟩ hn))
  have HU := Lib.hid hU
  have c4 : w1.cell? ⟨w.heap.size, 4, none⟩ = some (.slice V.TA V.Tq.length V.Tc) := k0.cell 4 _ rfl
  clear h hf ht k0 k1 k2 hU hw1
  go_enter Tryz.func58, Tryz.ntmps58
  go_upto_region 1 with fail
  rw [HW.out]
  go_wp2_with fail
  refine CC.out.mono ?_; rintro e w2 ⟨rfl, hb⟩
  have HB := Lib.hid (up_trans HU.out hb)
  clear hb
  go_wp2
  go_ret
  exact ⟨rfl, HB.out⟩

/-- The guards that a process waits for, where they lie. -/
def WsPost (V : VQ) (w : World) (gs : List GD) (e : Ending) (w' : World) : Prop := ∃ A c, e = .returned (.slice A gs.length c) ∧ (∀ W, VR W V → RD W tt 5 A gs.length (gs.flatMap gdC)) ∧ Below w.heap.size w w'
theorem ws_none {V : VQ} {who : Int} (h : (V.Wq.any fun q => q.h == who) = false) : rdWs V.p who = [] := by
  have : (V.Wq.map WQ.p).find? (fun x => x.1 == who) = none := by
    rw [List.find?_eq_none]
    intro x hx
    obtain ⟨q, hq, rfl⟩ := List.mem_map.1 hx
    rw [List.any_eq_false] at h
    exact h q hq
  show (((V.Wq.map WQ.p).find? fun x => x.1 == who).map Prod.snd).getD [] = []
  rw [this]
  rfl
theorem ws_at {V : VQ} {who : Int} (h : (V.Wq.any fun q => q.h == who) = true) : ∃ k q, ixF (fun q : WQ => q.h == who) V.Wq = (k : Nat) ∧ k < V.Wq.length ∧ V.Wq[k]? = some q ∧ rdWs V.p who = q.gs ∧ q ∈ V.Wq ∧ q.h = who := by
  have hlt : V.Wq.findIdx (fun q => q.h == who) < V.Wq.length := List.findIdx_lt_length_of_exists (by
    obtain ⟨x, hx, hp⟩ := List.any_eq_true.1 h
    exact ⟨x, hx, hp⟩)
  have hp := List.findIdx_getElem (w := hlt)
  refine ⟨_, V.Wq[V.Wq.findIdx (fun q => q.h == who)]'hlt, if_pos h, hlt, List.getElem?_eq_getElem hlt, ?_, List.getElem_mem hlt, by simpa using hp⟩
  have key : ∀ (l : List WQ) (hl : l.findIdx (fun q => q.h == who) < l.length), (l.map WQ.p).find? (fun x => x.1 == who) = some (WQ.p (l[l.findIdx (fun q => q.h == who)]'hl)) := by
    intro l
    induction l with
    | nil => intro hl; exact absurd hl (by simp)
    | cons a l ih =>
      intro hl
      cases ha : (a.h == who)
      · have h1 : (a :: l).findIdx (fun q => q.h == who) = l.findIdx (fun q => q.h == who) + 1 := by rw [List.findIdx_cons, ha]; rfl
        have h2 : ((a :: l).map WQ.p).find? (fun x => x.1 == who) = (l.map WQ.p).find? (fun x => x.1 == who) := by
          rw [List.map_cons, List.find?_cons_of_neg]
          show ¬ (a.h == who) = true
          rw [ha]
          decide
        have hl' : l.findIdx (fun q => q.h == who) < l.length := by rw [h1] at hl; simpa using hl
        rw [h2, ih hl']
        simp only [h1, List.getElem_cons_succ]
      · have h1 : (a :: l).findIdx (fun q => q.h == who) = 0 := by rw [List.findIdx_cons, ha]; rfl
        rw [List.map_cons, List.find?_cons_of_pos (by exact ha)]
        simp only [h1, List.getElem_cons_zero]
  show (((V.Wq.map WQ.p).find? fun x => x.1 == who).map Prod.snd).getD [] = _
  rw [key _ hlt]
  rfl
set_option maxHeartbeats 2000000 in
theorem c_wtd {V : VQ} {w : World} (h : VW w V) (hf : Few V) (who : Int) :
    Calls Tryz.prog 20 #[.agg (vC V).toArray, .int .i64 who] w (WsPost V w (rdWs V.p who)) := by
  have h2 := bx2 w (vC V) 40 [.int .i64 who] 3
  generalize hw1 : (w.alloc (.cells (vC V).toArray 40)).alloc (.cells [Value.int .i64 who].toArray 3) = w1 at h2
  have HW := Lib.hid (show (w.alloc (.cells (vC V).toArray 40)).alloc (.cells #[.int .i64 who] 3) = w1 from hw1)
  have k0 := h2.box
  have k1 := h2.res
  have hU := h2.up
  have CC := Lib.hid (c_ixW (w := w1) (c := V.Wc) (p := fun q => q.h == who) (h.below hU).r.wt.rd rfl (by have := hf.wt; omega)
    (c1 := .pointer (some ⟨w.heap.size + 1, 0, none⟩))
    (fun x hx W hW => c_wanted1 x.h x.A x.gs.length x.c (w.heap.size + 1) who 3 W (k1.up hW k1.lt)))
  have HX := Lib.hid h2
  have HV := Lib.hid (fun W (hW : Below w.heap.size w W) => (h.below hW).r.wt)
  have c3 : w1.cell? ⟨w.heap.size, 3, none⟩ = some (.slice V.WA V.Wq.length V.Wc) := k0.cell 3 _ rfl
  cases ha : V.Wq.any fun q => q.h == who
  · have HN := Lib.hid (ws_none ha)
    have HI := Lib.hid (ixF_no ha)
    rw [HN.out]
    rw [HI.out] at CC
    clear h hf k0 k1 hU hw1 h2 ha HN HI
    go_enter Tryz.func20, Tryz.ntmps20
    go_upto_region 1 with fail
    rw [HW.out]
    go_wp2_with fail
    refine CC.out.mono ?_; rintro e w2 ⟨rfl, hb⟩
    have HB := Lib.hid (up_trans HX.out.up hb)
    clear hb
    go_wp2
    go_ret
    exact ⟨none, 0, rfl, fun _ _ => RD.nil _ _ _ _, HB.out⟩
  · obtain ⟨k, q, hi, hk, hq, hg, hm, hh⟩ := ws_at ha
    rw [hg]
    rw [hi] at CC
    have HK := Lib.hid hk
    have HQ := Lib.hid hq
    have HE : Hid (∀ W, VR W V → RD W tt 5 q.A q.gs.length (q.gs.flatMap gdC)) := Lib.hid (fun W hW => hW.wt.each q hm)
    have hk2 : (k : Int) < (V.Wq.length : Int) := by omega
    have hk3 : k ≤ 16 := by have := hf.wt; omega
    clear h hf k0 k1 hU hw1 h2 ha hi hg hm hh hq
    go_enter Tryz.func20, Tryz.ntmps20
    go_upto_region 1 with fail
    rw [HW.out]
    go_wp2_with fail
    refine CC.out.mono ?_; rintro e w2 ⟨rfl, hb⟩
    have hB := up_trans HX.out.up hb
    have hT := HV.out _ hB
    obtain ⟨b, o, q', hA, _, hbl, hq', hrg, hE⟩ := hT.at_ k hk
    obtain rfl : q' = q := by
      have h1 := hq'
      rw [HQ.out] at h1
      exact (Option.some.inj h1).symm
    rw [hA]
    rw [hA] at c3
    have d3 : w2.cell? ⟨w.heap.size, 3, none⟩ = some (.slice (some ⟨b, o, none⟩) V.Wq.length V.Wc) := by
      rw [← hA]
      exact (HX.out.next hb).box.cell 3 _ rfl
    have d1 : w2.cell? ⟨b, o + k * 2 + 1, none⟩ = some (.slice q'.A q'.gs.length q'.c) := hrg 1 _ rfl
    have HB := Lib.hid hB
    clear hb hB hT hA hbl hq' hrg hE c3
    go_wp2
    go_ret
    exact ⟨q'.A, q'.c, rfl, HE.out, HB.out⟩
end Go.Proofs.YtdiiilnebepfdaaGreatDoor

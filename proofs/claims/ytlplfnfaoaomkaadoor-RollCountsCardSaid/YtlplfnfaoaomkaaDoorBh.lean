/- The contract of package bitset's All: a sequence that hands out the set's ids, rising, as long as it is asked to go on. -/
import Derived.RangeFuncNested
import Derived.RangeFuncBound
import Derived.RangeFuncCalls
import Derived.RangeFuncLeaves
import Derived.Shelf.Abstract
import Derived.Shelf.RegionOpen
import Derived.WalkKit
import Derived.OwnWalkIn
import Derived.TacticsInMore
import Derived.LoopNIn
import Derived.LoopIn
import Derived.Test.YtlplfnfaoaomkaaDoorBe
import Derived.Test.YtlplfnfaoaomkaaDoorI
namespace Go.Proofs.YtlplfnfaoaomkaaDoor
open Go.RowKit Go.Shelf
attribute [local go_sem] Oper.semAt_some

theorem tab_lt {w : World} (h : TabD w) : 0 < w.heap.size := by
  have := h 0 (by omega)
  apply Nat.lt_of_not_le
  intro hle
  have hn : w.heap[0]? = none := Array.getElem?_eq_none hle
  simp [World.cell?, hn] at this
theorem tab_below {w w' : World} {n₀ : Nat} (h : TabD w) (hn : 0 < n₀) (hb : Below n₀ w w') : TabD w' := fun j hj => (hb.cell (p := ⟨0, j, none⟩) hn).trans (h j hj)
theorem wide_deep {p : Prop} : Fence.wide.depth.isSome = true → p := fun h => by simp [Fence.wide] at h
theorem and_pred (m : Nat) (h0 : m ≠ 0) (h : m < 18446744073709551616) : bits .and .u64 (m : Int) ((m : Int) - 1) = ((m &&& (m - 1) : Nat) : Int) := by
  have e : (m : Int) - 1 = ((m - 1 : Nat) : Int) := by omega
  rw [e]
  exact and_c m (m - 1) (by omega) h
theorem upTo_pre (s : S4) (k : Nat) (hk : k ≤ 4) : upTo s k <+: s.ints := by
  have h : ∀ j, upTo s k <+: upTo s (k + j) := by
    intro j
    induction j with
    | zero => exact List.prefix_refl _
    | succ j ih => exact ih.trans ⟨_, (upTo_succ s (k + j)).symm⟩
  have := h (4 - k)
  rwa [show k + (4 - k) = 4 by omega, upTo_4] at this

set_option maxRecDepth 100000 in
set_option maxHeartbeats 2000000 in
theorem all1_in (n : Nat) (l Bn n₀ : Nat) (hn₀ : 0 < n₀) (s : S4) (J Jx : List Int → World → Prop)
    (hY : ∀ pre x W, J pre W → pre.length < 256 → YieldAt Fence.wide (n - 1) Tryd.prog l #[.int .i64 x] W fun e W' =>
      (e = .returned (.bool true) ∧ J (pre ++ [x]) W' ∧ Below n₀ W W') ∨ (e = .returned (.bool false) ∧ Jx (pre ++ [x]) W'))
    (W : World) (hB : Blk W Bn s.cs 29) (hT : TabD W) (h0 : J [] W) :
    CallsIn Fence.wide n Tryd.prog 45 #[.func (.yield l) #[] #[], .pointer (some ⟨Bn, 0, none⟩)] W fun e W' => (∃ v, e = .returned v) ∧
      ((∃ ys, ys = s.ints ∧ J ys W') ∨ (∃ pre, pre <+: s.ints ∧ Jx pre W')) := by
  have c0 := hB.cell 0 _ rfl
  have c1 := hB.cell 1 _ rfl
  have c2 := hB.cell 2 _ rfl
  have c3 := hB.cell 3 _ rfl
  refine callsIn_of_wp Tryd.func45 rfl trivial ?_ rfl
  simp only [Tryd.ntmps45, List.size_toArray, List.length_cons, List.length_nil, Nat.reduceAdd, Nat.reduceSub, Array.replicate_succ, Array.replicate_zero, List.push_toArray, List.append_toArray, List.nil_append, List.cons_append]
  gi_wp2
  gi_loopw [6] (fun i wr => ∃ k : Nat, k ≤ 4 ∧ i = .int .i64 k ∧ J (upTo s k) wr ∧ Below n₀ W wr) (fun i _ => 4 - (intOf i).toNat)
  case atStart => exact ⟨0, Nat.zero_le _, rfl, h0, Below.refl _ _⟩
  case round =>
    obtain ⟨k, hk, rfl, hJs, hnx⟩ := hrel
    by_cases hlt : k < 4
    · have ix := ix_w s k hlt
      have hq4 : decide ((k : Int) < 4) = true := decide_eq_true (by omega)
      have hsu := upTo_succ s k
      have hul := upTo_le s (k + 1)
      have hpr := upTo_pre s (k + 1) (by omega)
      have hwl := w_lt s k
      generalize hUe : upTo s (k + 1) = U at hsu hul hpr
      have HUE := Lib.hid hUe
      clear hUe
      generalize (s.w k).toNat = N at ix hsu hwl
      have HU := Lib.hid hsu
      clear hsu
      gi_wp2
      gi_loopw [4] (fun nv wr => ∃ (m : Nat) (pre : List Int), nv = .int .u64 m ∧ m < 18446744073709551616 ∧ Hid (U = pre ++ wordIds k m) ∧ J pre wr ∧ Below n₀ W wr) (fun nv _ => (intOf nv).toNat)
      case atStart => exact ⟨N, upTo s k, rfl, hwl, HU, hJs, hnx⟩
      case round =>
        obtain ⟨m, pre, rfl, hm, HP, hJp, hnp⟩ := hrel
        by_cases h00 : m = 0
        · subst h00
          obtain rfl : U = pre := by rw [HP.out, wordIds_zero, List.append_nil]
          rw [show ((0 : Nat) : Int) = 0 from rfl]
          gi_wp2
          go_roundw
          case rel => exact ⟨k + 1, by omega, by go_num, by rw [HUE.out]; exact hJp, hnp⟩
          case measure => simp [intOf]; omega
        · obtain ⟨hz, hnext⟩ := low_next m h00 hm
          have htz := c_tz m hm h00
          have HNX := Lib.hid (wordIds_next k m h00 hm)
          have hlen : pre.length < 256 := by
            have := congrArg List.length HP.out
            rw [HNX.out] at this
            simp at this
            omega
          clear hnext
          generalize Lib.ctz 64 m = z at hz htz HNX
          have hand := and_pred m h00 hm
          have hml := clr_lt m h00
          have hne : ((m : Int) != 0) = true := by simp; omega
          have hm1 : (1 : Int) ≤ m := by omega
          have hm2 : (m : Int) < 18446744073709551616 := by omega
          generalize m &&& (m - 1) = m' at hand hml HNX
          obtain ⟨fn, tmps, assign, body, hy, hR⟩ := hY pre (64 * (k : Int) + (z : Int)) wr hJp hlen
          gi_wp2
          refine ⟨trivial, wide_deep, ?_⟩
          refine (callsIn_wide.2 (htz _ (tab_below hT hn₀ hnp))).mono ?_
          rintro e w' ⟨rfl, rfl⟩
          gi_wp2
          refine ⟨wide_deep, hR.mono ?_⟩
          rintro e W3 (⟨rfl, hJ3, hk3⟩ | ⟨rfl, hJx3⟩)
          · gi_wp2
            go_roundw
            case rel => exact ⟨m', pre ++ [64 * (k : Int) + (z : Int)], rfl, by omega, Lib.hid (by rw [HP.out, HNX.out, List.append_assoc]; rfl), hJ3, hnp.trans hk3⟩
            case measure => simp [intOf]; omega
          · gi_wp2
            refine bodyPost_ret (results_none rfl _ _ _) rfl ?_
            exact ⟨⟨_, rfl⟩, .inr ⟨pre ++ [64 * (k : Int) + (z : Int)], List.IsPrefix.trans ⟨_, by rw [HP.out, HNX.out, List.append_assoc]; rfl⟩ hpr, hJx3⟩⟩
    · obtain rfl : k = 4 := by omega
      rw [upTo_4] at hJs
      gi_wp2
      go_end0
      exact ⟨⟨_, rfl⟩, .inl ⟨_, rfl, hJs⟩⟩

set_option maxHeartbeats 1000000 in
theorem all_in (n : Nat) (s : S4) (w : World) :
    CallsIn Fence.wide n Tryd.prog 44 #[s.val] w fun e w' => e = .returned (.func (.func 45) #[] #[.pointer (some ⟨w.heap.size, 0, none⟩)]) ∧ w' = w.alloc (.cells s.cs.toArray 29) := by
  refine callsIn_of_wp Tryd.func44 rfl trivial ?_ rfl
  simp only [Tryd.ntmps44, List.size_toArray, List.length_cons, List.length_nil, Nat.reduceAdd, Nat.reduceSub, Array.replicate_succ, Array.replicate_zero, List.push_toArray, List.append_toArray, List.nil_append, List.cons_append]
  gi_wp2
  go_ret
  exact ⟨rfl, rfl⟩
theorem c_all (s : S4) (w : World) :
    Calls Tryd.prog 44 #[s.val] w fun e w' => e = .returned (.func (.func 45) #[] #[.pointer (some ⟨w.heap.size, 0, none⟩)]) ∧ w' = w.alloc (.cells s.cs.toArray 29) :=
  callsIn_wide.1 (all_in 3 s w)
theorem all_stops (n : Nat) (Bn n₀ : Nat) (s : S4) (w : World) (hn₀ : n₀ ≤ w.heap.size) (hg : 0 < n₀) (hB : Blk w Bn s.cs 29) (hT : TabD w) :
    SeqStopsK Fence.wide n Tryd.prog 45 #[.pointer (some ⟨Bn, 0, none⟩)] (fun x : Int => #[Value.int .i64 x]) (Below n₀) (fun ys => ys = s.ints) (fun pre => pre <+: s.ints) 256 w := fun l J Jx W hW _ _ hY h0 =>
  all1_in n l Bn n₀ hg s J Jx hY W (hB.up hW hB.lt) (tab_below hT (by omega) hW) h0
end Go.Proofs.YtlplfnfaoaomkaaDoor

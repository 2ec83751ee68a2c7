/- The contract of package bitset's All: a sequence that hands out the set's ids, rising, as long as it is asked to go on. The contracts of package bitset's List and Next: they range over All. The contract of package bitset's Next: it ranges over All till an id is not below the number. Package bitset's calls whose answers are letters: Sub, Next, Has. -/
import Derived.RangeFuncNested
import Derived.RangeFuncBound
import Derived.RangeFuncCalls
import Derived.RangeFuncLeaves
import Derived.Shelf.Abstract
import Derived.Shelf.RegionOpen
import Derived.WalkKit
import Derived.OwnWalkIn
import Derived.TacticsInMore
import Derived.LoopNIn
import Derived.LoopIn
import Derived.Test.YtlfglibepldjpaaDoorBxa
import Derived.Test.YtlfglibepldjpaaDoorI
import Derived.Maps.AppendAt
import Derived.RangeFuncBox
namespace Go.Proofs.YtlfglibepldjpaaDoor
open Go.RowKit Go.Shelf
attribute [local go_sem] Oper.semAt_some

theorem tab_lt {w : World} (h : TabD w) : 0 < w.heap.size := by
  have := h 0 (by omega)
  apply Nat.lt_of_not_le
  intro hle
  have hn : w.heap[0]? = none := Array.getElem?_eq_none hle
  simp [World.cell?, hn] at this
theorem tab_below {w w' : World} {n₀ : Nat} (h : TabD w) (hn : 0 < n₀) (hb : Below n₀ w w') : TabD w' := fun j hj => (hb.cell (p := ⟨0, j, none⟩) hn).trans (h j hj)
theorem wide_deep {p : Prop} : Fence.wide.depth.isSome = true → p := fun h => by simp [Fence.wide] at h
theorem and_pred (m : Nat) (h0 : m ≠ 0) (h : m < 18446744073709551616) : bits .and .u64 (m : Int) ((m : Int) - 1) = ((m &&& (m - 1) : Nat) : Int) := by
  have e : (m : Int) - 1 = ((m - 1 : Nat) : Int) := by omega
  rw [e]
  exact and_c m (m - 1) (by omega) h
theorem upTo_pre (s : S4) (k : Nat) (hk : k ≤ 4) : upTo s k <+: s.ints := by
  have h : ∀ j, upTo s k <+: upTo s (k + j) := by
    intro j
    induction j with
    | zero => exact List.prefix_refl _
    | succ j ih => exact ih.trans ⟨_, (upTo_succ s (k + j)).symm⟩
  have := h (4 - k)
  rwa [show k + (4 - k) = 4 by omega, upTo_4] at this

set_option maxRecDepth 100000 in
set_option maxHeartbeats 2000000 in
theorem all1_in (n : Nat) (l Bn n₀ : Nat) (hn₀ : 0 < n₀) (s : S4) (J Jx : List Int → World → Prop)
    (hY : ∀ pre x W, J pre W → pre.length < 256 → YieldAt Fence.wide (n - 1) Tryd.prog l #[.int .i64 x] W fun e W' =>
      (e = .returned (.bool true) ∧ J (pre ++ [x]) W' ∧ Below n₀ W W') ∨ (e = .returned (.bool false) ∧ Jx (pre ++ [x]) W'))
    (W : World) (hB : Blk W Bn s.cs 62) (hT : TabD W) (h0 : J [] W) :
    CallsIn Fence.wide n Tryd.prog 108 #[.func (.yield l) #[] #[], .pointer (some ⟨Bn, 0, none⟩)] W fun e W' => (∃ v, e = .returned v) ∧
      ((∃ ys, ys = s.ints ∧ J ys W') ∨ (∃ pre, pre <+: s.ints ∧ Jx pre W')) := by
  have c0 := hB.cell 0 _ rfl
  have c1 := hB.cell 1 _ rfl
  have c2 := hB.cell 2 _ rfl
  have c3 := hB.cell 3 _ rfl
  refine callsIn_of_wp Tryd.func108 rfl trivial ?_ rfl
  simp only [Tryd.ntmps108, List.size_toArray, List.length_cons, List.length_nil, Nat.reduceAdd, Nat.reduceSub, Array.replicate_succ, Array.replicate_zero, List.push_toArray, List.append_toArray, List.nil_append, List.cons_append]
  gi_wp2
  gi_loopw [6] (fun i wr => ∃ k : Nat, k ≤ 4 ∧ i = .int .i64 k ∧ J (upTo s k) wr ∧ Below n₀ W wr) (fun i _ => 4 - (intOf i).toNat)
  case atStart => exact ⟨0, Nat.zero_le _, rfl, h0, Below.refl _ _⟩
  case round =>
    obtain ⟨k, hk, rfl, hJs, hnx⟩ := hrel
    by_cases hlt : k < 4
    · have ix := ix_w s k hlt
      have hq4 : decide ((k : Int) < 4) = true := decide_eq_true (by omega)
      have hsu := upTo_succ s k
      have hul := upTo_le s (k + 1)
      have hpr := upTo_pre s (k + 1) (by omega)
      have hwl := w_lt s k
      generalize hUe : upTo s (k + 1) = U at hsu hul hpr
      have HUE := Lib.hid hUe
      clear hUe
      generalize (s.w k).toNat = N at ix hsu hwl
      have HU := Lib.hid hsu
      clear hsu
      gi_wp2
      gi_loopw [4] (fun nv wr => ∃ (m : Nat) (pre : List Int), nv = .int .u64 m ∧ m < 18446744073709551616 ∧ Hid (U = pre ++ wordIds k m) ∧ J pre wr ∧ Below n₀ W wr) (fun nv _ => (intOf nv).toNat)
      case atStart => exact ⟨N, upTo s k, rfl, hwl, HU, hJs, hnx⟩
      case round =>
        obtain ⟨m, pre, rfl, hm, HP, hJp, hnp⟩ := hrel
        by_cases h00 : m = 0
        · subst h00
          obtain rfl : U = pre := by rw [HP.out, wordIds_zero, List.append_nil]
          rw [show ((0 : Nat) : Int) = 0 from rfl]
          gi_wp2
          go_roundw
          case rel => exact ⟨k + 1, by omega, by go_num, by rw [HUE.out]; exact hJp, hnp⟩
          case measure => simp [intOf]; omega
        · obtain ⟨hz, hnext⟩ := low_next m h00 hm
          have htz := c_tz m hm h00
          have HNX := Lib.hid (wordIds_next k m h00 hm)
          have hlen : pre.length < 256 := by
            have := congrArg List.length HP.out
            rw [HNX.out] at this
            simp at this
            omega
          clear hnext
          generalize Lib.ctz 64 m = z at hz htz HNX
          have hand := and_pred m h00 hm
          have hml := clr_lt m h00
          have hne : ((m : Int) != 0) = true := by simp; omega
          have hm1 : (1 : Int) ≤ m := by omega
          have hm2 : (m : Int) < 18446744073709551616 := by omega
          generalize m &&& (m - 1) = m' at hand hml HNX
          obtain ⟨fn, tmps, assign, body, hy, hR⟩ := hY pre (64 * (k : Int) + (z : Int)) wr hJp hlen
          gi_wp2
          refine ⟨trivial, wide_deep, ?_⟩
          refine (callsIn_wide.2 (htz _ (tab_below hT hn₀ hnp))).mono ?_
          rintro e w' ⟨rfl, rfl⟩
          gi_wp2
          refine ⟨wide_deep, hR.mono ?_⟩
          rintro e W3 (⟨rfl, hJ3, hk3⟩ | ⟨rfl, hJx3⟩)
          · gi_wp2
            go_roundw
            case rel => exact ⟨m', pre ++ [64 * (k : Int) + (z : Int)], rfl, by omega, Lib.hid (by rw [HP.out, HNX.out, List.append_assoc]; rfl), hJ3, hnp.trans hk3⟩
            case measure => simp [intOf]; omega
          · gi_wp2
            refine bodyPost_ret (results_none rfl _ _ _) rfl ?_
            exact ⟨⟨_, rfl⟩, .inr ⟨pre ++ [64 * (k : Int) + (z : Int)], List.IsPrefix.trans ⟨_, by rw [HP.out, HNX.out, List.append_assoc]; rfl⟩ hpr, hJx3⟩⟩
    · obtain rfl : k = 4 := by omega
      rw [upTo_4] at hJs
      gi_wp2
      go_end0
      exact ⟨⟨_, rfl⟩, .inl ⟨_, rfl, hJs⟩⟩

set_option maxHeartbeats 1000000 in
theorem all_in (n : Nat) (s : S4) (w : World) :
    CallsIn Fence.wide n Tryd.prog 103 #[s.val] w fun e w' => e = .returned (.func (.func 108) #[] #[.pointer (some ⟨w.heap.size, 0, none⟩)]) ∧ w' = w.alloc (.cells s.cs.toArray 62) := by
  refine callsIn_of_wp Tryd.func103 rfl trivial ?_ rfl
  simp only [Tryd.ntmps103, List.size_toArray, List.length_cons, List.length_nil, Nat.reduceAdd, Nat.reduceSub, Array.replicate_succ, Array.replicate_zero, List.push_toArray, List.append_toArray, List.nil_append, List.cons_append]
  gi_wp2
  go_ret
  exact ⟨rfl, rfl⟩
theorem c_all (s : S4) (w : World) :
    Calls Tryd.prog 103 #[s.val] w fun e w' => e = .returned (.func (.func 108) #[] #[.pointer (some ⟨w.heap.size, 0, none⟩)]) ∧ w' = w.alloc (.cells s.cs.toArray 62) :=
  callsIn_wide.1 (all_in 3 s w)
theorem all_stops (n : Nat) (Bn n₀ : Nat) (s : S4) (w : World) (hn₀ : n₀ ≤ w.heap.size) (hg : 0 < n₀) (hB : Blk w Bn s.cs 62) (hT : TabD w) :
    SeqStopsK Fence.wide n Tryd.prog 108 #[.pointer (some ⟨Bn, 0, none⟩)] (fun x : Int => #[Value.int .i64 x]) (Below n₀) (fun ys => ys = s.ints) (fun pre => pre <+: s.ints) 256 w := fun l J Jx W hW _ _ hY h0 =>
  all1_in n l Bn n₀ hg s J Jx hY W (hB.up hW hB.lt) (tab_below hT (by omega) hW) h0
end Go.Proofs.YtlfglibepldjpaaDoor

namespace Go.Proofs.YtlfglibepldjpaaDoor
open Go.RowKit Go.Shelf
attribute [local go_sem] Oper.semAt_some

theorem info_int : (Tryd.prog.info? 3).map (fun i => (i.zero, i.size, i.bytes)) = some (some (.int .i64 0), 1, 8) := by kernel_rfl

set_option maxRecDepth 100000 in
set_option maxHeartbeats 2000000 in
theorem list_in (n : Nat) (hn : 3 ≤ n) (s : S4) (w : World) (hT : TabD w) :
    CallsIn Fence.wide n Tryd.prog 99 #[s.val] w fun e W' => ∃ v, e = .returned v ∧ W'.ownsRow w.heap.size 3 1 v s.ints.length (s.ints.map (Value.int .i64)) ∧ Below w.heap.size w W' := by
  have h1 : 1 ≤ n := by omega
  have hg := tab_lt hT
  obtain ⟨i0, hi, hz0, hz1, hz2⟩ := info_parts info_int
  refine callsIn_of_wp_marks Tryd.func99 rfl trivial ?_ rfl
  simp only [Tryd.ntmps99, List.size_toArray, List.length_cons, List.length_nil, Nat.reduceAdd, Nat.reduceSub, Array.replicate_succ, Array.replicate_zero, List.push_toArray, List.append_toArray, List.nil_append, List.cons_append]
  gi_wp2
  refine ⟨trivial, (all_in _ s _).mono ?_⟩
  rintro e w' ⟨rfl, rfl⟩
  gi_wp2
  have bO := Boxed.new (w.alloc (.cells s.cs.toArray 62)) 45 (.slice none 0 0)
  rw [World.size_alloc] at bO
  have bN := Blk.new' ((w.alloc (.cells s.cs.toArray 62)).alloc (.cells #[.slice none 0 0] 45)) s.cs 62 (w.heap.size + 1 + 1) (by simp)
  have hB0 : Below w.heap.size w (((w.alloc (.cells s.cs.toArray 62)).alloc (.cells #[.slice none 0 0] 45)).alloc (.cells s.cs.toArray 62)) := (((Below.refl _ w).alloc (Nat.le_refl _) _).alloc (by simp) _).alloc (by simp; omega) _
  refine wpIn_rangeFunc_ownG rfl h1 (gf := 108) (lb := #[.pointer (some ⟨w.heap.size + 1 + 1, 0, none⟩)]) rfl trivial (enters_of Tryd.func108 (by kernel_rfl) rfl)
    (all_stops (n - 1) (w.heap.size + 1 + 1) w.heap.size s _ (by simp; omega) hg bN (tab_below hT hg hB0)) belowK_t (belowK_b (by simp; omega)) (Below.refl _ _) (fun _ => rfl)
    (fun pre W => (∃ v, Boxed W (w.heap.size + 1) 45 v ∧ W.ownsRow w.heap.size 3 1 v pre.length (pre.map (Value.int .i64)) ∧ True) ∧ Below w.heap.size w W)
    (fun _ _ _ => False)
    (OwnFrom.and (Own.from (holdsRow_own w.heap.size (w.heap.size + 1) 45 3 1 (fun pre : List Int => pre.length) (fun pre => pre.map (Value.int .i64)) (fun _ _ => True)) _) (ownFrom_below (Nat.le_refl _) (by simp; omega)))
    (fun _ _ _ _ _ hs _ _ => hs)
    ⟨⟨_, bO.alloc _, World.ownsRow_nil _ _ _ _, trivial⟩, hB0⟩
    (fun x => { tmps := #[s.val, .pointer (some ⟨w.heap.size, 0, none⟩), .slice none 0 0, .pointer (some ⟨w.heap.size + 1, 0, none⟩), .int .i64 x, s.val, .func (.func 108) #[] #[.pointer (some ⟨w.heap.size + 1 + 1, 0, none⟩)], .int .i64 x, undef, undef, undef, undef, undef], defers := [] }) ?assign ?body ?done ?stop
  case assign =>
    intro l x W K hK
    gi_wp2
    exact hK
  case body =>
    rintro l pre x W ⟨⟨v, hv, hrow, -⟩, hB⟩ hlt
    have hc := hv.cell
    gi_wp2_with (gi_at_builtin; refine wpListIn_append_own _ rfl _ _ 45 rfl w.heap.size 3 i0 (.int .i64 0) 1 8 Tryd.underlying45 hi hz0 hz1 hz2 rfl (by decide) _ _ _ rfl (hrow.alloc _) ⟨W.heap.size, 0, none⟩ 1 1 [.int .i64 x] rfl rfl (cell_one_new _ _ _) (by simp [Value.oneCell']) (by unfold maxLen; omega) (by omega) (by have := hB.size; simp; omega) ?_; intro v' w1 hown' hgrow _; obtain ⟨g', cap', rfl⟩ := ownsRow_succ hown'; obtain ⟨hv1, hv2, hr2, hk2, hb2⟩ := hv.appended (by decide) hrow hB.size (by omega) hown' hgrow; have hc1 := hv1.cell; have hf1 := hv1.frozen)
    exact ⟨hk2.from _, hb2, ⟨_, hv2, by simpa using hr2, trivial⟩, hB.trans hb2⟩
  case done =>
    rintro D ys W hD rfl ⟨⟨v, hv, hrow, -⟩, hB⟩ hK
    have hc := hv.cell
    gi_wp2
    refine ⟨by simp, .inl ⟨_, _, rfl, run_takeDeferred hK, ?_⟩⟩
    exact ⟨_, results_tmp rfl _ _ _, v, rfl, ownsRow_putObj hrow _ hK rfl, hB.trans (belowK_b (w := w) (Nat.le_refl _) W D _ _ (by simp at hD; omega) hK rfl rfl)⟩
  case stop =>
    rintro D c pre W _ _ h _
    exact h.elim
theorem c_list (s : S4) (w : World) (hT : TabD w) : Calls Tryd.prog 99 #[s.val] w (IntsPost w s.ints) :=
  (callsIn_wide.1 (list_in 3 (by omega) s w hT)).mono fun _ _ ⟨_, he, ho, hb⟩ => he ▸ IntsPost.of ho hb
end Go.Proofs.YtlfglibepldjpaaDoor

namespace Go.Proofs.YtlfglibepldjpaaDoor
open Go.RowKit Go.Shelf
attribute [local go_sem] Oper.semAt_some

def NextPost (L : List Int) (x : Int) (w : World) (e : Ending) (w' : World) : Prop := e = .returned (.tuple #[.int .i64 (nextL L x).1, .bool (nextL L x).2]) ∧ Below w.heap.size w w'

set_option maxRecDepth 100000 in
set_option maxHeartbeats 2000000 in
theorem next_in (n : Nat) (hn : 3 ≤ n) (s : S4) (from_ : Int) (w : World) (hT : TabD w) :
    CallsIn Fence.wide n Tryd.prog 88 #[s.val, .int .i64 from_] w (NextPost s.ints from_ w) := by
  have h1 : 1 ≤ n := by omega
  have hg := tab_lt hT
  refine callsIn_of_wp_marks Tryd.func88 rfl trivial ?_ rfl
  simp only [Tryd.ntmps88, List.size_toArray, List.length_cons, List.length_nil, Nat.reduceAdd, Nat.reduceSub, Array.replicate_succ, Array.replicate_zero, List.push_toArray, List.append_toArray, List.nil_append, List.cons_append]
  gi_wp2
  refine ⟨trivial, (all_in _ s _).mono ?_⟩
  rintro e w' ⟨rfl, rfl⟩
  gi_wp2
  have hB0 : Below w.heap.size w (((((w.alloc (.cells s.cs.toArray 62)).alloc (.cells #[.int .i64 from_] 3)).alloc (.cells #[.int .i64 0] 3)).alloc (.cells #[.bool false] 4)).alloc (.cells s.cs.toArray 62)) := (((((Below.refl _ w).alloc (Nat.le_refl _) _).alloc (by simp) _).alloc (by simp; omega) _).alloc (by simp; omega) _).alloc (by simp; omega) _
  have b1 := ((Blk.new' (w.alloc (.cells s.cs.toArray 62)) [.int .i64 from_] 3 (w.heap.size + 1) (by simp)).alloc (.cells #[.int .i64 0] 3)).alloc (.cells #[.bool false] 4) |>.alloc (.cells s.cs.toArray 62)
  have b2 := ((Blk.new' ((w.alloc (.cells s.cs.toArray 62)).alloc (.cells #[.int .i64 from_] 3)) [.int .i64 0] 3 (w.heap.size + 1 + 1) (by simp)).alloc (.cells #[.bool false] 4)).alloc (.cells s.cs.toArray 62)
  have b3 := (Blk.new' (((w.alloc (.cells s.cs.toArray 62)).alloc (.cells #[.int .i64 from_] 3)).alloc (.cells #[.int .i64 0] 3)) [.bool false] 4 (w.heap.size + 1 + 1 + 1) (by simp)).alloc (.cells s.cs.toArray 62)
  have b4 := Blk.new' ((((w.alloc (.cells s.cs.toArray 62)).alloc (.cells #[.int .i64 from_] 3)).alloc (.cells #[.int .i64 0] 3)).alloc (.cells #[.bool false] 4)) s.cs 62 (w.heap.size + 1 + 1 + 1 + 1) (by simp)
  refine wpIn_rangeFunc_ownF rfl h1 (gf := 108) (lb := #[.pointer (some ⟨w.heap.size + 1 + 1 + 1 + 1, 0, none⟩)]) rfl trivial (enters_of Tryd.func108 (by kernel_rfl) rfl)
    (all_stops (n - 1) (w.heap.size + 1 + 1 + 1 + 1) w.heap.size s _ (by simp; omega) hg b4 (tab_below hT hg hB0)) belowK_t (belowK_b (by simp; omega)) (Below.refl _ _) (fun _ => rfl)
    (fun pre W => ((∀ y ∈ pre, y < from_) ∧ W.cell? ⟨w.heap.size + 1, 0, none⟩ = some (.int .i64 from_) ∧ W.cell? ⟨w.heap.size + 1 + 1, 0, none⟩ = some (.int .i64 0) ∧ W.frozen? ⟨w.heap.size + 1 + 1, 0, none⟩ = false ∧ W.cell? ⟨w.heap.size + 1 + 1 + 1, 0, none⟩ = some (.bool false) ∧ W.frozen? ⟨w.heap.size + 1 + 1 + 1, 0, none⟩ = false) ∧ Below w.heap.size w W)
    (fun c pre W => (c = .ret ∧ ∃ q x, pre = q ++ [x] ∧ (∀ y ∈ q, y < from_) ∧ from_ ≤ x ∧ W.cell? ⟨w.heap.size + 1 + 1, 0, none⟩ = some (.int .i64 x) ∧ W.cell? ⟨w.heap.size + 1 + 1 + 1, 0, none⟩ = some (.bool true)) ∧ Below w.heap.size w W)
    (OwnFrom.and (Own.from (fun s A B row hs hg hr => ⟨hs.1, cell_kept hs.2.1 hg hr, cell_kept hs.2.2.1 hg hr, (frozen_kept hs.2.2.1 hg hr).trans hs.2.2.2.1, cell_kept hs.2.2.2.2.1 hg hr, (frozen_kept hs.2.2.2.2.1 hg hr).trans hs.2.2.2.2.2⟩) _) (ownFrom_below (Nat.le_refl _) (by simp; omega)))
    (fun c => OwnFrom.and (Own.from (fun s A B row hs hg hr => by
      obtain ⟨h1, q, x, h2, h3, h4, h5, h6⟩ := hs
      exact ⟨h1, q, x, h2, h3, h4, cell_kept h5 hg hr, cell_kept h6 hg hr⟩) _) (ownFrom_below (Nat.le_refl _) (by simp; omega)))
    ⟨⟨by simp, b1.cell 0 _ rfl, b2.cell 0 _ rfl, b2.free 0, b3.cell 0 _ rfl, b3.free 0⟩, hB0⟩
    (fun x => { tmps := #[s.val, .int .i64 from_, .pointer (some ⟨w.heap.size, 0, none⟩), .pointer (some ⟨w.heap.size + 1, 0, none⟩), .pointer (some ⟨w.heap.size + 1 + 1, 0, none⟩), .pointer (some ⟨w.heap.size + 1 + 1 + 1, 0, none⟩), .int .i64 x, s.val, .func (.func 108) #[] #[.pointer (some ⟨w.heap.size + 1 + 1 + 1 + 1, 0, none⟩)], .int .i64 x, undef, undef, undef, undef], defers := [] }) ?assign ?body ?done ?stop
  case assign =>
    intro l x W K hK
    gi_wp2
    exact hK
  case body =>
    rintro l pre x W ⟨⟨hp, hc1, hc2, hf2, hc3, hf3⟩, hB⟩ _
    by_cases hx : from_ ≤ x
    · gi_wp2
      refine ⟨(KeepsOthers.setCell _ _ _).trans (KeepsOthers.setCell _ _ _), ⟨rfl, pre, x, rfl, hp, hx, ?_, ?_⟩, (hB.setCell (p := ⟨w.heap.size + 1 + 1, 0, none⟩) (by simp; omega) _).setCell (p := ⟨w.heap.size + 1 + 1 + 1, 0, none⟩) (by simp; omega) _⟩
      · rw [World.cell?_setCell_other _ _ _ _ (by simp)]
        exact World.cell?_setCell_same' _ _ _ (by rw [hc2]; rfl)
      · exact World.cell?_setCell_same' _ _ _ (by rw [World.cell?_setCell_other _ _ _ _ (by simp), hc3]; rfl)
    · have hx' : x < from_ := by omega
      gi_wp2
      exact ⟨KeepsOthers.refl _, Below.refl _ _, ⟨fun y hy => (List.mem_append.1 hy).elim (hp y) (fun e => by simp at e; omega), hc1, hc2, hf2, hc3, hf3⟩, hB⟩
  case done =>
    rintro D ys W hD rfl ⟨⟨hp, hc1, hc2, hf2, hc3, hf3⟩, hB⟩ hK
    have HP := nextL_no hp
    clear hp
    have HP := Lib.hid HP
    gi_wp2
    have hK2 := ((KeepsOthers.setCell W ⟨w.heap.size + 1 + 1, 0, none⟩ (.int .i64 0)).trans (KeepsOthers.setCell _ ⟨w.heap.size + 1 + 1 + 1, 0, none⟩ (.bool false))).same D _ hK rfl
    have d2 : ((W.setCell ⟨w.heap.size + 1 + 1, 0, none⟩ (.int .i64 0)).setCell ⟨w.heap.size + 1 + 1 + 1, 0, none⟩ (.bool false)).cell? ⟨w.heap.size + 1 + 1, 0, none⟩ = some (.int .i64 0) := by
      rw [World.cell?_setCell_other _ _ _ _ (by simp)]
      exact World.cell?_setCell_same' _ _ _ (by rw [hc2]; rfl)
    have d3 : ((W.setCell ⟨w.heap.size + 1 + 1, 0, none⟩ (.int .i64 0)).setCell ⟨w.heap.size + 1 + 1 + 1, 0, none⟩ (.bool false)).cell? ⟨w.heap.size + 1 + 1 + 1, 0, none⟩ = some (.bool false) :=
      World.cell?_setCell_same' _ _ _ (by rw [World.cell?_setCell_other _ _ _ _ (by simp), hc3]; rfl)
    have e2 := cell_kept d2 (grownBy_putObj' _ D (.deferred none)) (fun r e => by cases e; exact ⟨_, hK2, rfl⟩)
    have e3 := cell_kept d3 (grownBy_putObj' _ D (.deferred none)) (fun r e => by cases e; exact ⟨_, hK2, rfl⟩)
    refine ⟨by simp, .inl ⟨_, _, rfl, run_takeDeferred hK2, ?_⟩⟩
    refine ⟨.tuple #[.int .i64 0, .bool false], ?_, by rw [HP.out], ((hB.setCell (p := ⟨w.heap.size + 1 + 1, 0, none⟩) (by simp; omega) _).setCell (p := ⟨w.heap.size + 1 + 1 + 1, 0, none⟩) (by simp; omega) _).trans (belowK_b (w := w) (Nat.le_refl _) _ D _ _ (by simp at hD; omega) hK2 rfl rfl)⟩
    simp [results, Tryd.f88, go_sem, e2, e3]
  case stop =>
    rintro D c pre W hD hpre ⟨⟨rfl, q, x, rfl, hq, hx, hc2, hc3⟩, hB⟩ hK
    obtain ⟨r, hr⟩ := hpre
    have HP := nextL_yes (r := r) hq hx
    have HR := Lib.hid (show s.ints = q ++ x :: r by rw [← hr, List.append_assoc]; rfl)
    clear hr
    have HP := Lib.hid HP
    gi_wp2
    have e2 := cell_kept hc2 (grownBy_putObj' _ D (.deferred none)) (fun r e => by cases e; exact ⟨_, hK, rfl⟩)
    have e3 := cell_kept hc3 (grownBy_putObj' _ D (.deferred none)) (fun r e => by cases e; exact ⟨_, hK, rfl⟩)
    refine ⟨by simp, .inl ⟨_, _, rfl, run_takeDeferred hK, ?_⟩⟩
    refine ⟨.tuple #[.int .i64 x, .bool true], ?_, by rw [HR.out, HP.out], hB.trans (belowK_b (w := w) (Nat.le_refl _) W D _ _ (by simp at hD; omega) hK rfl rfl)⟩
    simp [results, Tryd.f88, go_sem, e2, e3]
theorem c_next (s : S4) (from_ : Int) (w : World) (hT : TabD w) : Calls Tryd.prog 88 #[s.val, .int .i64 from_] w (NextPost s.ints from_ w) :=
  callsIn_wide.1 (next_in 3 (by omega) s from_ w hT)
end Go.Proofs.YtlfglibepldjpaaDoor

namespace Go.Proofs.YtlfglibepldjpaaDoor
open Go.RowKit

theorem c_subB {s t : S4} {b : Bool} (h : s.sub t = b) (w : World) : Calls Tryd.prog 89 #[s.val, t.val] w fun e w' => e = .returned (.bool b) ∧ Below w.heap.size w w' := by
  rw [← h]
  exact c_sub s t w
theorem c_nextS (s : S4) (x : Int) (w : World) (hT : TabD w) {y : Int} {b : Bool} (h : nextL s.ints x = (y, b)) :
    Calls Tryd.prog 88 #[s.val, .int .i64 x] w fun e w' => e = .returned (.tuple #[.int .i64 y, .bool b]) ∧ Below w.heap.size w w' := by
  have := c_next s x w hT
  unfold NextPost at this
  rw [h] at this
  exact this
theorem c_hasB (s : S4) (x : Int) (w : World) {b : Bool} (h : hasL s.ints x = b) : Calls Tryd.prog 31 #[s.val, .int .i64 x] w fun e w' => e = .returned (.bool b) ∧ Below w.heap.size w w' := by
  rw [← h]
  exact c_has s x w
end Go.Proofs.YtlfglibepldjpaaDoor

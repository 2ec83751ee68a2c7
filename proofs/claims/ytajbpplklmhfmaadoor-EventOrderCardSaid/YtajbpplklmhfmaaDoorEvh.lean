/- Package event: Less; events in memory; the library's Values and Collect over them. -/
import Derived.Test.YtajbpplklmhfmaaDoorEvg
import Derived.Test.YtajbpplklmhfmaaDoorNb
import Derived.RangeFuncNested
import Derived.RangeFuncBound
import Derived.RangeFuncCalls
import Derived.RangeFuncLeaves
import Derived.Shelf.Abstract
import Derived.Shelf.RegionOpen
import Derived.OwnWalkIn
import Derived.TacticsInMore
import Derived.LoopNIn
import Derived.LoopIn
import Derived.Maps.AppendAt
import Derived.RangeFuncBox
namespace Go.Proofs.YtajbpplklmhfmaaDoor
open Go.RowKit

set_option maxHeartbeats 400000 in
theorem c_evless (a b : EV) (w : World) : Calls Tryd.prog 18 #[.agg #[.int .i64 a.k, .int .i64 a.o, .int .i64 a.h, .int .i64 a.n], .agg #[.int .i64 b.k, .int .i64 b.o, .int .i64 b.h, .int .i64 b.n]] w fun e w' => e = .returned (.bool (evLess a b)) ∧ Below w.heap.size w w' := by
  have CC := Lib.hid (fun W => c_evcmp a b W)
  have HX : Hid (decide (evCmp a b < 0) = evLess a b) := Lib.hid (by unfold evLess; rw [decide_eq_decide]; exact evCmp_lt a b)
  generalize evLess a b = z at HX ⊢
  generalize evCmp a b = x at CC HX
  obtain ⟨ak, ao, ah, an⟩ := a
  obtain ⟨bk, bo, bh, bn⟩ := b
  have HU := Lib.hid ((((Below.refl _ w).alloc (Nat.le_refl _) (.cells #[.int .i64 ak, .int .i64 ao, .int .i64 ah, .int .i64 an] 27)).alloc (by simp) (.cells #[.int .i64 bk, .int .i64 bo, .int .i64 bh, .int .i64 bn] 27)))
  go_enter Tryd.func18, Tryd.ntmps18
  go_wp2_with fail
  refine (CC.out _).mono ?_; rintro e w2 ⟨rfl, hg2⟩
  go_wp2
  go_ret
  exact ⟨ret_bool HX.out, up_trans HU.out hg2.below⟩

theorem ei_ev : EI Tryd.prog 42 27 (.agg #[.int .i64 0, .int .i64 0, .int .i64 0, .int .i64 0]) 4 32 := ⟨Tryd.underlying42, by kernel_rfl, rfl, by omega, by omega⟩
/-- One event of a slice of them. -/
theorem RD.ev {w : World} {pl : Nat → Prop} {A : Option Addr} {n : Nat} {L : List EV} (h : RD w pl 4 A n (L.flatMap evC)) (k : Nat) (x : EV) (hx : L[k]? = some x) (hk : k < n) :
    ∃ b o, A = some ⟨b, o, none⟩ ∧ b < w.heap.size ∧ w.cell? ⟨b, o + k * 4, none⟩ = some (.int .i64 x.k) ∧ w.cell? ⟨b, o + k * 4 + 1, none⟩ = some (.int .i64 x.o) ∧ w.cell? ⟨b, o + k * 4 + 2, none⟩ = some (.int .i64 x.h) ∧ w.cell? ⟨b, o + k * 4 + 3, none⟩ = some (.int .i64 x.n) := by
  obtain ⟨b, o, e, _, h2, h3⟩ := h.at_ (by omega)
  have key : ∀ j u, j < 4 → (evC x)[j]? = some u → w.cell? ⟨b, o + k * 4 + j, none⟩ = some u := fun j u hj hu => by
    have := h3 (k * 4 + j) u (by rw [flat_get evC 4 evC_len L k j _ hx hj]; exact hu)
    rwa [← Nat.add_assoc] at this
  exact ⟨b, o, e, h2, key 0 _ (by omega) rfl, key 1 _ (by omega) rfl, key 2 _ (by omega) rfl, key 3 _ (by omega) rfl⟩
theorem RD.belowN {w w' : World} {n₀ size n : Nat} {A : Option Addr} {xs : List Value} (h : RD w (· < n₀) size A n xs) (hb : Below n₀ w w') : RD w' (· < n₀) size A n xs := by
  refine ⟨h.1, fun hn => ?_⟩
  obtain ⟨b, o, e, h1, h2, h3⟩ := h.2 hn
  exact ⟨b, o, e, h1, Nat.lt_of_lt_of_le h2 hb.size, fun j u hu => (hb.cell (p := ⟨b, o + j, none⟩) h1).trans (h3 j u hu)⟩
theorem ev_len (L : List EV) : (L.flatMap evC).length = L.length * 4 := by
  induction L with
  | nil => rfl
  | cons a l ih => rw [List.flatMap_cons, List.length_append, ih, evC_len, List.length_cons]; omega
theorem ev_take (L : List EV) (k : Nat) (x : EV) (h : L[k]? = some x) : L.take (k + 1) = L.take k ++ [x] := by
  rw [List.take_add_one, h]
  rfl
theorem ev_flat1 (L : List EV) (x : EV) : (L ++ [x]).flatMap evC = L.flatMap evC ++ [.int .i64 x.k, .int .i64 x.o, .int .i64 x.h, .int .i64 x.n] := by
  rw [List.flatMap_append]
  rfl
theorem blk_own {B b : Nat} {cs : List Value} {t : TypeId} {X Y : World} {row : Option Nat} (h : Blk X b cs t) (hg : X.grownBy Y row) (hr : ∀ r, row = some r → B ≤ r ∧ ∃ o : Obj, X.heap[r]? = some o ∧ o.isCells = false) : Blk Y b cs t := by
  refine h.grown hg fun e => ?_
  obtain ⟨_, o, ho, hc⟩ := hr b e.symm
  rw [show X.heap[b]? = _ from h] at ho
  cases ho
  cases hc
end Go.Proofs.YtajbpplklmhfmaaDoor

namespace Go.Proofs.YtajbpplklmhfmaaDoor
open Go.RowKit Go.Shelf
attribute [local go_sem] Oper.semAt_some

theorem wide_deep' {p : Prop} : Fence.wide.depth.isSome = true → p := fun h => by simp [Fence.wide] at h

set_option maxRecDepth 100000 in
set_option maxHeartbeats 2000000 in
theorem values1_in (n : Nat) (l Bn n₀ : Nat) (A : Option Addr) (c : Nat) (L : List EV) (hL : L.length ≤ 100000) (J Jx : List EV → World → Prop)
    (hY : ∀ pre x W, J pre W → pre.length < L.length → YieldAt Fence.wide (n - 1) Tryd.prog l #[.agg #[.int .i64 x.k, .int .i64 x.o, .int .i64 x.h, .int .i64 x.n]] W fun e W' =>
      (e = .returned (.bool true) ∧ J (pre ++ [x]) W' ∧ Below n₀ W W') ∨ (e = .returned (.bool false) ∧ Jx (pre ++ [x]) W'))
    (W : World) (hn : n₀ ≤ W.heap.size) (hJ : AbidesFrom W.heap.size J) (hB : W.cell? ⟨Bn, 0, none⟩ = some (.slice A L.length c)) (hR : RD W (· < n₀) 4 A L.length (L.flatMap evC)) (h0 : J [] W) :
    CallsIn Fence.wide n Tryd.prog 42 #[.func (.yield l) #[] #[], .pointer (some ⟨Bn, 0, none⟩)] W fun e W' => (∃ v, e = .returned v) ∧
      ((∃ ys, ys = L ∧ J ys W') ∨ (∃ pre, pre <+: L ∧ Jx pre W')) := by
  have HR := Lib.hid hR
  have HJ := Lib.hid hJ
  clear hR hJ
  refine callsIn_of_wp Tryd.func42 rfl trivial ?_ rfl
  simp only [Tryd.ntmps42, List.size_toArray, List.length_cons, List.length_nil, Nat.reduceAdd, Nat.reduceSub, Array.replicate_succ, Array.replicate_zero, List.push_toArray, List.append_toArray, List.nil_append, List.cons_append]
  gi_wp2
  gi_loopw [7] (fun i wr => ∃ k : Nat, k ≤ L.length ∧ i = .int .i64 k ∧ J (L.take k) wr ∧ Below n₀ W wr) (fun i _ => L.length - (intOf i).toNat)
  case atStart => exact ⟨0, Nat.zero_le _, rfl, h0, Below.refl _ _⟩
  case round =>
    obtain ⟨k, hk, rfl, hJs, hnx⟩ := hrel
    by_cases hlt : k < L.length
    · have hx : L[k]? = some L[k] := List.getElem?_eq_getElem hlt
      have HT := Lib.hid (ev_take L k _ hx)
      have HTL : Hid ((L.take k).length = k) := Lib.hid (by rw [List.length_take]; omega)
      obtain ⟨b, o, rfl, hbl, a0, a1, a2, a3⟩ := (HR.out.belowN hnx).ev k _ hx hlt
      generalize L[k] = x at a0 a1 a2 a3 HT
      have hk0 : (0 : Int) ≤ k := by omega
      have hk1 : (k : Int) < L.length := by omega
      have hJ2 := HJ.out (L.take k) wr (wr.alloc (.cells #[.int .i64 x.k, .int .i64 x.o, .int .i64 x.h, .int .i64 x.n] 27)) none hJs (World.grownBy_alloc _ _ none) (by simp)
      obtain ⟨fn, tmps, assign, body, hy, hRR⟩ := hY (L.take k) x _ hJ2 (by rw [HTL.out]; exact hlt)
      have HZ := Lib.hid (hnx.alloc (Nat.le_trans hn hnx.size) (.cells #[.int .i64 x.k, .int .i64 x.o, .int .i64 x.h, .int .i64 x.n] 27))
      clear hx hJs hJ2 hbl
      gi_wp2
      refine ⟨wide_deep', hRR.mono ?_⟩
      rintro e W3 (⟨rfl, hJ3, hk3⟩ | ⟨rfl, hJx3⟩)
      · gi_wp2
        go_roundw
        case rel => exact ⟨k + 1, by omega, by go_num, by rw [HT.out]; exact hJ3, HZ.out.trans hk3⟩
        case measure => simp [intOf]; omega
      · gi_wp2
        refine bodyPost_ret (results_none rfl _ _ _) rfl ?_
        exact ⟨⟨_, rfl⟩, .inr ⟨L.take k ++ [x], ⟨L.drop (k + 1), by rw [← HT.out]; exact List.take_append_drop _ _⟩, hJx3⟩⟩
    · obtain rfl : k = L.length := by omega
      rw [List.take_length] at hJs
      gi_wp2
      go_end0
      exact ⟨⟨_, rfl⟩, .inl ⟨_, rfl, hJs⟩⟩
theorem values_stops (n : Nat) (Bn n₀ : Nat) (A : Option Addr) (c : Nat) (L : List EV) (hL : L.length ≤ 100000) (w : World) (hn : n₀ ≤ w.heap.size) (hBn : Bn < n₀) (hB : w.cell? ⟨Bn, 0, none⟩ = some (.slice A L.length c)) (hR : RD w (· < n₀) 4 A L.length (L.flatMap evC)) :
    SeqStopsK Fence.wide n Tryd.prog 42 #[.pointer (some ⟨Bn, 0, none⟩)] (fun x : EV => #[.agg #[.int .i64 x.k, .int .i64 x.o, .int .i64 x.h, .int .i64 x.n]]) (Below n₀) (fun ys => ys = L) (fun pre => pre <+: L) L.length w := fun l J Jx W hW hJ _ hY h0 =>
  values1_in n l Bn n₀ A c L hL J Jx hY W (Nat.le_trans hn hW.size) hJ (((hW.mono hn).cell (p := ⟨Bn, 0, none⟩) hBn).trans hB) (hR.belowN (hW.mono hn)) h0
set_option maxHeartbeats 1000000 in
theorem c_values (A : Option Addr) (n c : Nat) (w : World) :
    Calls Tryd.prog 31 #[.slice A n c] w fun e w' => e = .returned (.func (.func 42) #[] #[.pointer (some ⟨w.heap.size, 0, none⟩)]) ∧ w' = w.alloc (.cells #[.slice A n c] 42) := by
  go_enter Tryd.func31, Tryd.ntmps31
  go_wp2
  go_ret
  exact ⟨rfl, rfl⟩

theorem info_ev : (Tryd.prog.info? 27).map (fun i => (i.zero, i.size, i.bytes)) = some (some (.agg #[.int .i64 0, .int .i64 0, .int .i64 0, .int .i64 0]), 4, 32) := by kernel_rfl
set_option maxRecDepth 100000 in
set_option maxHeartbeats 2000000 in
theorem appendseq_in (n : Nat) (hn : 3 ≤ n) (Bn : Nat) (A : Option Addr) (c : Nat) (L : List EV) (hL : L.length ≤ 100000) (w : World) (hBn : Bn < w.heap.size) (hB : w.cell? ⟨Bn, 0, none⟩ = some (.slice A L.length c)) (hR : RD w (· < w.heap.size) 4 A L.length (L.flatMap evC)) :
    CallsIn Fence.wide n Tryd.prog 50 #[.slice none 0 0, .func (.func 42) #[] #[.pointer (some ⟨Bn, 0, none⟩)]] w fun e W' => ∃ v, e = .returned v ∧ W'.ownsRow w.heap.size 27 4 v L.length (L.flatMap evC) ∧ Below w.heap.size w W' := by
  have h1 : 1 ≤ n := by omega
  obtain ⟨i0, hi, hz0, hz1, hz2⟩ := info_parts info_ev
  have hS := Lib.hid (values_stops (n - 1) Bn w.heap.size A c L hL w (Nat.le_refl _) hBn hB hR)
  have HU := Lib.hid (up_alloc w (.cells #[.slice none 0 0] 42))
  have bO := Boxed.new w 42 (.slice none 0 0)
  clear hB hR
  refine callsIn_of_wp_marks Tryd.func50 rfl trivial ?_ rfl
  simp only [Tryd.ntmps50, List.size_toArray, List.length_cons, List.length_nil, Nat.reduceAdd, Nat.reduceSub, Array.replicate_succ, Array.replicate_zero, List.push_toArray, List.append_toArray, List.nil_append, List.cons_append]
  gi_wp2
  refine wpIn_rangeFunc_ownH rfl h1 (gf := 42) (lb := #[.pointer (some ⟨Bn, 0, none⟩)]) rfl trivial (enters_of Tryd.func42 (by kernel_rfl) rfl)
    hS.out belowK_t (belowK_b (by simp)) HU.out (fun _ => rfl)
    (fun pre W => (∃ v, Boxed W w.heap.size 42 v ∧ W.ownsRow w.heap.size 27 4 v pre.length (pre.flatMap evC) ∧ True) ∧ Below w.heap.size w W)
    (fun _ _ _ => False)
    (OwnFrom.and (Own.from (holdsRow_own w.heap.size w.heap.size 42 27 4 (fun pre : List EV => pre.length) (fun pre => pre.flatMap evC) (fun _ _ => True)) _) (ownFrom_below (Nat.le_refl _) (by simp)))
    (fun _ _ _ _ _ hs _ _ => hs)
    ⟨⟨_, bO, World.ownsRow_nil _ _ _ _, trivial⟩, HU.out⟩
    (fun x a' W => ∃ Bx, w.heap.size ≤ Bx ∧ Blk W Bx [.int .i64 x.k, .int .i64 x.o, .int .i64 x.h, .int .i64 x.n] 27 ∧ a' = { tmps := #[.slice none 0 0, .func (.func 42) #[] #[.pointer (some ⟨Bn, 0, none⟩)], .pointer (some ⟨w.heap.size, 0, none⟩), undef, .slice none 0 0, .pointer (some ⟨Bx, 0, none⟩), .func (.func 42) #[] #[.pointer (some ⟨Bn, 0, none⟩)], .agg #[.int .i64 x.k, .int .i64 x.o, .int .i64 x.h, .int .i64 x.n], undef, undef, undef, undef, undef], defers := [] })
    (fun x a' _ X Y row hs hg hr => by obtain ⟨Bx, e1, e2, e3⟩ := hs; exact ⟨Bx, e1, blk_own e2 hg hr, e3⟩)
    ?assign ?body ?done ?stop
  case assign =>
    rintro l pre x W K ⟨⟨v, hv, hrow, -⟩, hB⟩ hK
    gi_wp2
    exact hK _ _ ((KeepsOthers.alloc _ _).from _) ((Below.refl _ W).alloc hB.size _) ⟨⟨v, hv.alloc _, hrow.alloc _, trivial⟩, hB.alloc hB.size _⟩ ⟨W.heap.size, hB.size, Blk.new W [.int .i64 x.k, .int .i64 x.o, .int .i64 x.h, .int .i64 x.n] 27, rfl⟩
  case body =>
    rintro l pre x a' W hl ⟨r, hr⟩ ⟨⟨v, hv, hrow, -⟩, hB⟩ ⟨Bx, hBx, bX, rfl⟩ hlt
    have hc := hv.cell
    have x0 := bX.cell 0 _ rfl
    have x1 := bX.cell 1 _ rfl
    have x2 := bX.cell 2 _ rfl
    have x3 := bX.cell 3 _ rfl
    clear bX hr
    gi_wp2_with (gi_at_builtin; refine wpListIn_append_own _ rfl _ _ 42 rfl w.heap.size 27 i0 (.agg #[.int .i64 0, .int .i64 0, .int .i64 0, .int .i64 0]) 4 32 Tryd.underlying42 hi hz0 hz1 hz2 rfl (by decide) _ _ _ rfl (hrow.alloc _) ⟨W.heap.size, 0, none⟩ 1 1 [.int .i64 x.k, .int .i64 x.o, .int .i64 x.h, .int .i64 x.n] rfl rfl (fun j u hu => by rw [add_off, Nat.zero_add]; exact (Blk.new W [.int .i64 x.k, .int .i64 x.o, .int .i64 x.h, .int .i64 x.n] 27).cell j u hu) (fun u hu => evC_one x u hu) (by unfold maxLen; omega) (by omega) (by have := hB.size; simp; omega) ?_; intro v' w1 hown' hgrow _; obtain ⟨g', cap', rfl⟩ := ownsRow_succ hown'; obtain ⟨hv1, hv2, hr2, hk2, hb2⟩ := hv.appended (by decide) hrow hB.size (Nat.le_refl _) hown' hgrow; have hc1 := hv1.cell; have hf1 := hv1.frozen)
    exact ⟨hk2.from _, hb2, ⟨_, hv2, by rw [ev_flat1, List.length_append]; exact hr2, trivial⟩, hB.trans hb2⟩
  case done =>
    rintro D ys W hD rfl ⟨⟨v, hv, hrow, -⟩, hB⟩ hK
    have hc := hv.cell
    gi_wp2
    refine ⟨by simp, .inl ⟨_, _, rfl, run_takeDeferred hK, ?_⟩⟩
    exact ⟨_, results_tmp rfl _ _ _, v, rfl, ownsRow_putObj hrow _ hK rfl, hB.trans (belowK_b (w := w) (Nat.le_refl _) W D _ _ (by simp at hD; omega) hK rfl rfl)⟩
  case stop =>
    rintro D c pre W _ _ h _
    exact h.elim
end Go.Proofs.YtajbpplklmhfmaaDoor

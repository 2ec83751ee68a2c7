/- Ranges over a sequence: the library's All and Values over choices; told, whose sequence keeps a variable of its own; a law for a loop over such a one. -/
import Derived.Test.YtpbjfadandnhaaaPkb
import Derived.RangeFuncNested
import Derived.RangeFuncBound
import Derived.RangeFuncCalls
import Derived.RangeFuncLeaves
import Derived.Shelf.Abstract
import Derived.Shelf.RegionOpen
import Derived.OwnWalkIn
import Derived.TacticsInMore
import Derived.LoopNIn
import Derived.LoopIn
import Derived.RangeFuncBox
namespace Go.Proofs.Ytpbjfadandnhaaa
open Go.RowKit Go.Shelf
attribute [local go_sem] Oper.semAt_some

theorem wide_deep' {p : Prop} : Fence.wide.depth.isSome = true → p := fun h => by simp [Fence.wide] at h
def vCH (x : CH) : Value := .agg #[.int .i64 x.k, .int .i64 x.v, .int .i64 x.w]

set_option maxRecDepth 100000 in
set_option maxHeartbeats 2000000 in
theorem values1_in (n : Nat) (l Bn n₀ : Nat) (A : Option Addr) (c : Nat) (L : List CH) (hL : L.length ≤ 100000) (J Jx : List CH → World → Prop)
    (hY : ∀ pre x W, J pre W → pre.length < L.length → YieldAt Fence.wide (n - 1) Try.prog l #[.agg #[.int .i64 x.k, .int .i64 x.v, .int .i64 x.w]] W fun e W' =>
      (e = .returned (.bool true) ∧ J (pre ++ [x]) W' ∧ Below n₀ W W') ∨ (e = .returned (.bool false) ∧ Jx (pre ++ [x]) W'))
    (W : World) (hn : n₀ ≤ W.heap.size) (hJ : AbidesFrom W.heap.size J) (hB : W.cell? ⟨Bn, 0, none⟩ = some (.slice A L.length c)) (hR : RD W (· < n₀) 3 A L.length (L.flatMap chC)) (h0 : J [] W) :
    CallsIn Fence.wide n Try.prog 30 #[.func (.yield l) #[] #[], .pointer (some ⟨Bn, 0, none⟩)] W fun e W' => (∃ v, e = .returned v) ∧
      ((∃ ys, ys = L ∧ J ys W') ∨ (∃ pre, pre <+: L ∧ Jx pre W')) := by
  have HR := Lib.hid hR
  have HJ := Lib.hid hJ
  clear hR hJ
  refine callsIn_of_wp Try.func30 rfl trivial ?_ rfl
  simp only [Try.ntmps30, List.size_toArray, List.length_cons, List.length_nil, Nat.reduceAdd, Nat.reduceSub, Array.replicate_succ, Array.replicate_zero, List.push_toArray, List.append_toArray, List.nil_append, List.cons_append]
  gi_wp2
  gi_loopw [7] (fun i wr => ∃ k : Nat, k ≤ L.length ∧ i = .int .i64 k ∧ J (L.take k) wr ∧ Below n₀ W wr) (fun i _ => L.length - (intOf i).toNat)
  case atStart => exact ⟨0, Nat.zero_le _, rfl, h0, Below.refl _ _⟩
  case round =>
    obtain ⟨k, hk, rfl, hJs, hnx⟩ := hrel
    by_cases hlt : k < L.length
    · have hx : L[k]? = some L[k] := List.getElem?_eq_getElem hlt
      have HT := Lib.hid (ls_take L k _ hx)
      have HTL : Hid ((L.take k).length = k) := Lib.hid (by rw [List.length_take]; omega)
      obtain ⟨b, o, rfl, hbl, a0, a1, a2⟩ := (HR.out.belowN hnx).ch k _ hx hlt
      generalize L[k] = x at a0 a1 a2 HT
      have hk0 : (0 : Int) ≤ k := by omega
      have hk1 : (k : Int) < L.length := by omega
      have hJ2 := HJ.out (L.take k) wr (wr.alloc (.cells #[.int .i64 x.k, .int .i64 x.v, .int .i64 x.w] 36)) none hJs (World.grownBy_alloc _ _ none) (by simp)
      obtain ⟨fn, tmps, assign, body, hy, hRR⟩ := hY (L.take k) x _ hJ2 (by rw [HTL.out]; exact hlt)
      have HZ := Lib.hid (hnx.alloc (Nat.le_trans hn hnx.size) (.cells #[.int .i64 x.k, .int .i64 x.v, .int .i64 x.w] 36))
      clear hx hJs hJ2 hbl
      gi_wp2
      refine ⟨wide_deep', hRR.mono ?_⟩
      rintro e W3 (⟨rfl, hJ3, hk3⟩ | ⟨rfl, hJx3⟩)
      · gi_wp2
        go_roundw
        case rel => exact ⟨k + 1, by omega, by go_num, by rw [HT.out]; exact hJ3, HZ.out.trans hk3⟩
        case measure => simp [intOf]; omega
      · gi_wp2
        refine bodyPost_ret (results_none rfl _ _ _) rfl ?_
        exact ⟨⟨_, rfl⟩, .inr ⟨L.take k ++ [x], ⟨L.drop (k + 1), by rw [← HT.out]; exact List.take_append_drop _ _⟩, hJx3⟩⟩
    · obtain rfl : k = L.length := by omega
      rw [List.take_length] at hJs
      gi_wp2
      go_end0
      exact ⟨⟨_, rfl⟩, .inl ⟨_, rfl, hJs⟩⟩
theorem values_stops (n : Nat) (Bn n₀ : Nat) (A : Option Addr) (c : Nat) (L : List CH) (hL : L.length ≤ 100000) (w : World) (hn : n₀ ≤ w.heap.size) (hBn : Bn < w.heap.size) (hB : w.cell? ⟨Bn, 0, none⟩ = some (.slice A L.length c)) (hR : RD w (· < n₀) 3 A L.length (L.flatMap chC)) :
    SeqStopsK Fence.wide n Try.prog 30 #[.pointer (some ⟨Bn, 0, none⟩)] (fun x : CH => #[.agg #[.int .i64 x.k, .int .i64 x.v, .int .i64 x.w]]) (Below n₀) (fun ys => ys = L) (fun pre => pre <+: L) L.length w := fun l J Jx W hW hJ _ hY h0 =>
  values1_in n l Bn n₀ A c L hL J Jx hY W (Nat.le_trans hn hW.size) hJ ((hW.cell (p := ⟨Bn, 0, none⟩) hBn).trans hB) (hR.belowN (hW.mono hn)) h0
set_option maxHeartbeats 1000000 in
theorem c_values (A : Option Addr) (n c : Nat) (w : World) :
    Calls Try.prog 21 #[.slice A n c] w fun e w' => e = .returned (.func (.func 30) #[] #[.pointer (some ⟨w.heap.size, 0, none⟩)]) ∧ w' = w.alloc (.cells #[.slice A n c] 29) := by
  go_enter Try.func21, Try.ntmps21
  go_wp2
  go_ret
  exact ⟨rfl, rfl⟩

set_option maxRecDepth 100000 in
set_option maxHeartbeats 2000000 in
theorem alls1_in (n : Nat) (l Bn n₀ : Nat) (A : Option Addr) (c : Nat) (L : List CH) (hL : L.length ≤ 100000) (J Jx : List (Nat × CH) → World → Prop)
    (hY : ∀ pre (x : Nat × CH) W, J pre W → pre.length < L.length → YieldAt Fence.wide (n - 1) Try.prog l #[.int .i64 (x.1 : Int), .agg #[.int .i64 x.2.k, .int .i64 x.2.v, .int .i64 x.2.w]] W fun e W' =>
      (e = .returned (.bool true) ∧ J (pre ++ [x]) W' ∧ Below n₀ W W') ∨ (e = .returned (.bool false) ∧ Jx (pre ++ [x]) W'))
    (W : World) (hn : n₀ ≤ W.heap.size) (hJ : AbidesFrom W.heap.size J) (hB : W.cell? ⟨Bn, 0, none⟩ = some (.slice A L.length c)) (hR : RD W (· < n₀) 3 A L.length (L.flatMap chC)) (h0 : J [] W) :
    CallsIn Fence.wide n Try.prog 28 #[.func (.yield l) #[] #[], .pointer (some ⟨Bn, 0, none⟩)] W fun e W' => (∃ v, e = .returned v) ∧
      ((∃ ys, ys = numL 0 L ∧ J ys W') ∨ (∃ pre, pre <+: numL 0 L ∧ Jx pre W')) := by
  have HR := Lib.hid hR
  have HJ := Lib.hid hJ
  have hNL := numL_len 0 L
  clear hR hJ
  refine callsIn_of_wp Try.func28 rfl trivial ?_ rfl
  simp only [Try.ntmps28, List.size_toArray, List.length_cons, List.length_nil, Nat.reduceAdd, Nat.reduceSub, Array.replicate_succ, Array.replicate_zero, List.push_toArray, List.append_toArray, List.nil_append, List.cons_append]
  gi_wp2
  gi_loopw [7] (fun i wr => ∃ k : Nat, k ≤ L.length ∧ i = .int .i64 k ∧ J ((numL 0 L).take k) wr ∧ Below n₀ W wr) (fun i _ => L.length - (intOf i).toNat)
  case atStart => exact ⟨0, Nat.zero_le _, rfl, h0, Below.refl _ _⟩
  case round =>
    obtain ⟨k, hk, rfl, hJs, hnx⟩ := hrel
    by_cases hlt : k < L.length
    · have hx : L[k]? = some L[k] := List.getElem?_eq_getElem hlt
      have hxx := numL_get 0 L k _ hx
      rw [Nat.zero_add] at hxx
      have HT := Lib.hid (ls_take (numL 0 L) k _ hxx)
      have HTL : Hid (((numL 0 L).take k).length = k) := Lib.hid (by rw [List.length_take, hNL]; omega)
      obtain ⟨b, o, rfl, hbl, a0, a1, a2⟩ := (HR.out.belowN hnx).ch k _ hx hlt
      clear hxx
      generalize L[k] = x at a0 a1 a2 HT
      have hk0 : (0 : Int) ≤ k := by omega
      have hk1 : (k : Int) < L.length := by omega
      have hJ2 := HJ.out ((numL 0 L).take k) wr (wr.alloc (.cells #[.int .i64 x.k, .int .i64 x.v, .int .i64 x.w] 36)) none hJs (World.grownBy_alloc _ _ none) (by simp)
      obtain ⟨fn, tmps, assign, body, hy, hRR⟩ := hY ((numL 0 L).take k) (k, x) _ hJ2 (by rw [HTL.out]; exact hlt)
      have HZ := Lib.hid (hnx.alloc (Nat.le_trans hn hnx.size) (.cells #[.int .i64 x.k, .int .i64 x.v, .int .i64 x.w] 36))
      clear hx hJs hJ2 hbl
      gi_wp2
      refine ⟨wide_deep', hRR.mono ?_⟩
      rintro e W3 (⟨rfl, hJ3, hk3⟩ | ⟨rfl, hJx3⟩)
      · gi_wp2
        go_roundw
        case rel => exact ⟨k + 1, by omega, by go_num, by rw [HT.out]; exact hJ3, HZ.out.trans hk3⟩
        case measure => simp [intOf]; omega
      · gi_wp2
        refine bodyPost_ret (results_none rfl _ _ _) rfl ?_
        exact ⟨⟨_, rfl⟩, .inr ⟨(numL 0 L).take k ++ [(k, x)], ⟨(numL 0 L).drop (k + 1), by rw [← HT.out]; exact List.take_append_drop _ _⟩, hJx3⟩⟩
    · obtain rfl : k = L.length := by omega
      rw [← hNL, List.take_length] at hJs
      gi_wp2
      go_end0
      exact ⟨⟨_, rfl⟩, .inl ⟨_, rfl, hJs⟩⟩
theorem alls_stops (n : Nat) (Bn n₀ : Nat) (A : Option Addr) (c : Nat) (L : List CH) (hL : L.length ≤ 100000) (w : World) (hn : n₀ ≤ w.heap.size) (hBn : Bn < w.heap.size) (hB : w.cell? ⟨Bn, 0, none⟩ = some (.slice A L.length c)) (hR : RD w (· < n₀) 3 A L.length (L.flatMap chC)) :
    SeqStopsK Fence.wide n Try.prog 28 #[.pointer (some ⟨Bn, 0, none⟩)] (fun x : Nat × CH => #[.int .i64 (x.1 : Int), .agg #[.int .i64 x.2.k, .int .i64 x.2.v, .int .i64 x.2.w]]) (Below n₀) (fun ys => ys = numL 0 L) (fun pre => pre <+: numL 0 L) L.length w := fun l J Jx W hW hJ _ hY h0 =>
  alls1_in n l Bn n₀ A c L hL J Jx hY W (Nat.le_trans hn hW.size) hJ ((hW.cell (p := ⟨Bn, 0, none⟩) hBn).trans hB) (hR.belowN (hW.mono hn)) h0
set_option maxHeartbeats 1000000 in
theorem c_alls (A : Option Addr) (n c : Nat) (w : World) :
    Calls Try.prog 18 #[.slice A n c] w fun e w' => e = .returned (.func (.func 28) #[] #[.pointer (some ⟨w.heap.size, 0, none⟩)]) ∧ w' = w.alloc (.cells #[.slice A n c] 29) := by
  go_enter Try.func18, Try.ntmps18
  go_wp2
  go_ret
  exact ⟨rfl, rfl⟩
end Go.Proofs.Ytpbjfadandnhaaa

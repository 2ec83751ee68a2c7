/- slices.Delete of a pile's last timer. -/
import Derived.Test.YtbfmcdjnjnfdlaaTf
import Derived.Lib.SliceRun
import Derived.Laws.IdiomCopy
namespace Go.Proofs.Ytbfmcdjnjnfdlaa
open Go.RowKit
section
variable {P : Program}
/-- append of nothing at a step of a drawn region: the row stays as it was. -/
theorem step_app0 {w : World} {ops : Array Oper} {o : Oper} {a : Act} {K : Act → World → Prop} {Q : Exit → Act → World → Prop} {F : Prop} {t e : TypeId} {z : Value} {size bytes lo n : Nat} (E : EI P t e z size bytes) (hgd : o.guard = none) (s x : Operand)
    (ho : o.op = .call { callee := .builtin .append, args := #[s, x], argTypes := #[t, t] })
    (v : Value) (xs : List Value) (hs : a.eval s = v) (hown : w.ownsRow lo e size v n xs) {c : Nat} {A : Option Addr} (hx : a.eval x = .slice A 0 c) (h : K (a.put o.dst v) w) :
    if Region.wanted o (yielded ops a.tmps) = true then Oper.wp P o a w K Q else F := by
  have hw : Region.wanted o (yielded ops a.tmps) = true := by simp [Region.wanted, hgd]
  rw [if_pos hw]
  have hrun := run_append_nil_src E o.type hown A c
  unfold Oper.wp execOp
  simp only [ho, resolve, invoke, builtin, Sem.run_bind, Sem.run_pure, Result.andThen_ok, List.map_toArray, List.map_cons, List.map_nil, hs, hx, hrun]
  exact h
end
/-- The first ones of a row of the call's own. -/
theorem own_take {w : World} {lo n g c : Nat} {xs : List Tm} (h : w.ownsRow lo 42 3 (.slice (some ⟨g, 0, none⟩) n c) n (flatT xs)) (m : Nat) (hm : m ≤ n) : w.ownsRow lo 42 3 (.slice (some ⟨g, 0, none⟩) m c) m (flatT (xs.take m)) := by
  have hn := row_len h
  rcases h.2 with ⟨h', _⟩ | ⟨g', cap, cur, h', hb, hg, hnc, hcm, hcs, htake⟩
  · simp at h'
  · simp only [Value.slice.injEq, Option.some.injEq, Addr.mk.injEq, and_true, true_and] at h'
    obtain ⟨rfl, rfl⟩ := h'
    refine ⟨by rw [flatT_len, List.length_take]; omega, .inr ⟨g, c, cur, rfl, hb, hg, by omega, hcm, hcs, ?_⟩⟩
    have e : flatT (xs.take m) = (flatT xs).take (m * 3) := by
      have h1 : flatT xs = flatT (xs.take m) ++ flatT (xs.drop m) := by
        unfold flatT
        rw [← List.flatMap_append, List.take_append_drop]
      conv => rhs; rw [h1]
      rw [List.take_append_of_le_length (by rw [flatT_len, List.length_take]; omega)]
      exact (List.take_of_length_le (by rw [flatT_len, List.length_take]; omega)).symm
    rw [e, ← htake, List.take_take]
    congr 1
    omega
/-- Cells behind what a row reads as may be written. -/
theorem own_set {g c n lo : Nat} {ys : List Value} : ∀ (vs : List Value) (o : Nat) (w : World), n * 3 ≤ o → w.ownsRow lo 42 3 (.slice (some ⟨g, 0, none⟩) n c) n ys → (w.setCells g o vs).ownsRow lo 42 3 (.slice (some ⟨g, 0, none⟩) n c) n ys
  | [], _, _, _, h => h
  | u :: vs, o, w, ho, h => by
    have h1 := store1 h o u
    rw [List.set_eq_of_length_le (by have := h.1; omega)] at h1
    exact own_set vs (o + 1) _ (by omega) h1
theorem only_set (g : Nat) : ∀ (vs : List Value) (o : Nat) (w : World), Only (· = g) w (w.setCells g o vs)
  | [], _, _ => Only.refl _ _
  | u :: vs, o, _ => (only_g o u).trans (only_set g vs (o + 1) _)
theorem zero_cells (n : Nat) : (Builtin.zeroCells #[Value.int .i64 0, Value.int .i64 0, Value.int .i64 0] n).toList = List.replicate (n * 3) (Value.int .i64 0) := by
  have key : ∀ k, #[Value.int .i64 0, Value.int .i64 0, Value.int .i64 0][k % 3]! = Value.int .i64 0 := by
    intro k
    have : k % 3 < 3 := Nat.mod_lt _ (by omega)
    generalize k % 3 = r at *
    rcases (show r = 0 ∨ r = 1 ∨ r = 2 by omega) with rfl | rfl | rfl <;> rfl
  apply List.ext_getElem
  · simp [Builtin.zeroCells]
  · intro i h1 h2
    simp only [Builtin.zeroCells, List.size_toArray, List.length_cons, List.length_nil, Array.toList_map, List.getElem_map, List.getElem_replicate]
    exact key _
theorem run_clear_tm {t ty : TypeId} (ht : Try.prog.underlying t = some (.slice 42)) {w : World} {g o n c : Nat} (hc : ∀ j, j < n * 3 → (w.cell? ⟨g, o + j, none⟩).isSome = true) (hf : ∀ j, j < n * 3 → w.frozen? ⟨g, o + j, none⟩ = false) :
    (Builtin.clear_ #[t] ty #[.slice (some ⟨g, o, none⟩) n c]).run Try.prog w = .ok (.tuple #[]) (w.setCells g o (List.replicate (n * 3) (.int .i64 0))) := by
  have hv : ∀ w, (zeroValue 42).run Try.prog w = .ok (.agg #[.int .i64 0, .int .i64 0, .int .i64 0]) w := fun w => by kernel_rfl
  have hst := run_storeCells_cells (P := Try.prog) g o (List.replicate (n * 3) (.int .i64 0)) 0 w (by simpa using hc) (by simpa using hf) (by intro v hv'; rw [List.eq_of_mem_replicate hv']; rfl)
  simp only [Nat.add_zero] at hst
  rcases n with _ | n
  · simp [Builtin.clear_, run_underlying ht, World.setCells]
  · have hz := zero_cells (n + 1)
    simp [Builtin.clear_, run_underlying ht, hv, Value.cells, hz, hst]

/-- What a Delete of the last one leaves. -/
def DelPost (w : World) (lo g m c : Nat) (ys : List Tm) (e : Ending) (w' : World) : Prop :=
  e = .returned (.slice (some ⟨g, 0, none⟩) m c) ∧ w'.ownsRow lo 42 3 (.slice (some ⟨g, 0, none⟩) m c) m (flatT ys) ∧ Only (· = g) w w'
set_option maxHeartbeats 2000000 in
theorem c_delete {w : World} {lo n g c : Nat} {xs : List Tm} (h : w.ownsRow lo 42 3 (.slice (some ⟨g, 0, none⟩) n c) n (flatT xs)) (hcm : c ≤ maxLen) (hnc : n ≤ c) (hf : xs.length ≤ 2000) (m : Nat) (hm : n = m + 1) :
    Calls Try.prog 63 #[.slice (some ⟨g, 0, none⟩) n c, .int .i64 m, .int .i64 n] w (DelPost w lo g m c (xs.take m)) := by
  have hn := row_len h
  have hT := own_take h m (by omega)
  have hne : ((m : Int) == ((m + 1 : Nat) : Int)) = false := beq_eq_false_iff_ne.2 (by omega)
  have hf' : n ≤ 2000 := by omega
  have hmc : m ≤ c := by omega
  have h01 : (0 : Int) ≤ (m : Int) + 1 := by omega
  have hcl := fun cc => run_clear_tm (t := 61) (ty := 0) (by kernel_rfl) (w := w.drew) (g := g) (o := m * 3) (n := 1) (c := cc)
    (fun j hj => by
      have h3 := row_cells h m (by omega)
      rcases (show j = 0 ∨ j = 1 ∨ j = 2 by omega) with rfl | rfl | rfl
      · exact (congrArg Option.isSome h3.1).trans rfl
      · exact (congrArg Option.isSome h3.2.1).trans rfl
      · exact (congrArg Option.isSome h3.2.2).trans rfl)
    (fun j _ => h.frozenAt _)
  have HP : Hid (DelPost w lo g m c (xs.take m) (.returned (.slice (some ⟨g, 0, none⟩) m c)) (w.drew.setCells g (m * 3) (List.replicate (1 * 3) (.int .i64 0)))) :=
    Lib.hid ⟨rfl, own_set _ _ _ (Nat.le_refl _) hT.drew, ((Only.refl _ w).drewN 1).trans (only_set g _ _ _)⟩
  generalize List.replicate (1 * 3) (Value.int .i64 0) = zs at *
  unfold maxLen at hcm
  subst hm
  generalize xs.take m = ys at *
  clear hn hf h
  rcases Nat.lt_or_ge (m + 1) c with hlt | hge
  · have hcne : ¬ c = m + 1 := by omega
    go_enter Try.func63, Try.ntmps63
    go_wp2_with fail
    go_region_law (refine step_app0 ei_T rfl (.tmp 22) (.tmp 25) rfl _ _ rfl hT.drew rfl ?_)
    all_goals
      go_wp2_with fail
      go_ret
      exact HP.out
  · obtain rfl : c = m + 1 := by omega
    have h02 : (m : Int) ≤ (m : Int) + 1 := by omega
    go_enter Try.func63, Try.ntmps63
    go_wp2_with fail
    go_region_law (refine step_app0 ei_T rfl (.tmp 22) (.tmp 25) rfl _ _ rfl hT.drew rfl ?_)
    all_goals
      go_wp2_with fail
      go_ret
      exact HP.out
end Go.Proofs.Ytbfmcdjnjnfdlaa

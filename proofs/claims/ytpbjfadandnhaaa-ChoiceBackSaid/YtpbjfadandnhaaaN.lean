/- append onto a row of the call's own, of what reads as a list, in the words of M; make of a row of zeros. -/
import Derived.Test.YtpbjfadandnhaaaM
import Derived.Maps.AppendAt
import Derived.Laws.MakeOwn
import Derived.Laws.Entries
import Derived.OwnWalk
namespace Go.Proofs.Ytpbjfadandnhaaa
open Go.RowKit

/-- The slice type t has elements of type e, whose zero is z, of size cells and of so many bytes. -/
structure EI (P : Program) (t e : TypeId) (z : Value) (size bytes : Nat) : Prop where
  under : P.underlying t = some (.slice e)
  info : (P.info? e).map (fun i => (i.zero, i.size, i.bytes)) = some (some z, size, bytes)
  cells : z.cells.size = size
  pos : 0 < size
  few : bytes ≤ 1000

theorem add_off (b o j : Nat) : (⟨b, o, none⟩ : Addr).add j = ⟨b, o + j, none⟩ := by
  unfold Addr.add
  split
  · next h => subst h; rfl
  · rfl

section
variable {P : Program}
theorem run_append_nil_src {w : World} {t e : TypeId} {z : Value} {size bytes lo n : Nat} (E : EI P t e z size bytes) (ty : TypeId) {v : Value} {xs : List Value} (hown : w.ownsRow lo e size v n xs) (A : Option Addr) (c : Nat) :
    (Builtin.append_ #[t, t] ty #[v, .slice A 0 c]).run P w = .ok v w := by
  obtain ⟨i, hi, hz, hs, hb⟩ := info_parts E.info
  rcases A with _ | ad
  · rcases hown.2 with ⟨rfl, rfl⟩ | ⟨g, cap, cur, rfl, _, _, hnc, _⟩
    · simp [Builtin.append_, run_underlying E.under, sizeOf, typeInfo, hi, Builtin.lenOf, Builtin.firstCells]
    · simp [Builtin.append_, run_underlying E.under, sizeOf, typeInfo, hi, Builtin.lenOf, Builtin.firstCells, hnc, storeCells]
  · rcases hown.2 with ⟨rfl, rfl⟩ | ⟨g, cap, cur, rfl, _, _, hnc, _⟩
    · simp [Builtin.append_, run_underlying E.under, sizeOf, typeInfo, hi, Builtin.lenOf, Builtin.firstCells, loadCells, loadCellsFrom]
    · simp [Builtin.append_, run_underlying E.under, sizeOf, typeInfo, hi, Builtin.lenOf, Builtin.firstCells, loadCells, loadCellsFrom, hnc, storeCells]

theorem run_app {w : World} {t e : TypeId} {z : Value} {size bytes lo n : Nat} (E : EI P t e z size bytes) (ty : TypeId) {v : Value} {xs : List Value} (hown : w.ownsRow lo e size v n xs)
    {pl : Nat → Prop} {m c : Nat} {A : Option Addr} {news : List Value} (hr : RD w pl size A m news) (h1 : ∀ u ∈ news, u.oneCell' = true) (hm : n + m ≤ 1000000) (hlo : lo ≤ w.heap.size) :
    ∃ v' w', (Builtin.append_ #[t, t] ty #[v, .slice A m c]).run P w = .ok v' w' ∧ w'.ownsRow lo e size v' (n + m) (xs ++ news) ∧ Below lo w w' := by
  obtain ⟨i, hi, hz, hs, hb⟩ := info_parts E.info
  rcases Nat.eq_zero_or_pos m with h0 | h0
  · subst h0
    have hn : news = [] := List.eq_nil_of_length_eq_zero (by have := hr.1; omega)
    subst hn
    exact ⟨v, w, run_append_nil_src E ty hown A c, by simpa using hown, Below.refl _ _⟩
  · obtain ⟨b, o, rfl, _, _, hc⟩ := hr.2 h0
    have hbt := E.few
    have hmul : (n + m) * bytes ≤ 1000000 * 1000 := Nat.mul_le_mul hm E.few
    obtain ⟨v', w', hrun, h2, h3, _⟩ := run_append_own_at (P := P) w lo t ty e i z size bytes E.under hi hz hs hb E.cells E.pos v n xs hown ⟨b, o, none⟩ m c news hr.1
      (fun j u hu => by rw [add_off]; exact hc j u hu) h1 (by simp only [maxLen]; omega) (by omega) hlo
    exact ⟨v', w', hrun, h2, (Below.refl _ _).grown h3 hlo fun k hk => (hown.lt k hk).1⟩

theorem wpList_app {w : World} {ops : Array Oper} {rest : List Oper} {o : Oper} {a : Act} {Q : Exit → Act → World → Prop} {t e : TypeId} {z : Value} {size bytes lo n : Nat} (E : EI P t e z size bytes) (hgd : o.guard = none) (s x : Operand)
    (ho : o.op = .call { callee := .builtin .append, args := #[s, x], argTypes := #[t, t] })
    (v : Value) (xs : List Value) (hs : a.eval s = v) (hown : w.ownsRow lo e size v n xs)
    {pl : Nat → Prop} {m c : Nat} {A : Option Addr} {news : List Value} (hx : a.eval x = .slice A m c) (hr : RD w pl size A m news) (h1 : ∀ u ∈ news, u.oneCell' = true) (hm : n + m ≤ 1000000) (hlo : lo ≤ w.heap.size)
    (h : ∀ v' w', w'.ownsRow lo e size v' (n + m) (xs ++ news) → Below lo w w' → wpList P ops Q rest (a.put o.dst v') w') : wpList P ops Q (o :: rest) a w := by
  refine wpList_plain hgd fun K hK => ?_
  obtain ⟨v', w', hrun, h2, h3⟩ := run_app E o.type hown (c := c) hr h1 hm hlo
  unfold Oper.wp execOp
  simp only [ho, resolve, invoke, builtin, Sem.run_bind, Sem.run_pure, Result.andThen_ok, List.map_toArray, List.map_cons, List.map_nil, hs, hx, hrun]
  exact hK _ _ (h v' w' h2 h3)

/-- make([]T, n) lays n zeros. -/
theorem run_mk {t e : TypeId} {z : Value} {size bytes : Nat} (E : EI P t e z size bytes) (n : Nat) (hn : n ≤ 1000000) (w : World) :
    (Instr.makeSlice t (.int .i64 (n : Int)) (.int .i64 (n : Int))).run P w = .ok (.slice (some ⟨w.heap.size, 0, none⟩) n n) (w.alloc (.cells (madeCells z.cells (n * size)) e)) := by
  obtain ⟨i, hi, hz, hs, hb⟩ := info_parts E.info
  have hbt : i.bytes * n ≤ 1000 * 1000000 := Nat.mul_le_mul (by rw [hb]; exact E.few) hn
  have hbb : (i.bytes : Int) * (n : Int) ≤ 281474976710656 := by
    have h : ((i.bytes * n : Nat) : Int) ≤ 281474976710656 := by omega
    rwa [Int.natCast_mul] at h
  have hr := run_make (P := P) w t e i z E.under hi hz .i64 .i64 n n (by omega) (by omega) hbb (by omega)
  simp only [Int.toNat_natCast] at hr
  rw [← hs]
  exact hr
end
theorem made_list (z : Array Value) (s : Nat) (hs : z.size = s) (n : Nat) : (madeCells z (n * s)).toList = (List.replicate n z.toList).flatten := by
  subst hs
  have hz : (List.range z.size).map (fun i => z[i]!) = z.toList := by
    apply List.ext_getElem (by simp)
    intro i h1 h2
    simp at h1
    simp [h1]
  have key : ∀ n, (List.range (n * z.size)).map (fun i => z[i % z.size]!) = (List.replicate n z.toList).flatten := by
    intro n
    induction n with
    | zero => simp
    | succ n ih =>
      rw [Nat.succ_mul, List.range_add, List.map_append, ih, List.replicate_succ', List.flatten_append, List.map_map]
      congr 1
      rw [List.flatten_cons, List.flatten_nil, List.append_nil]
      conv => rhs; rw [← hz]
      apply List.map_congr_left
      intro i hi
      have hi := List.mem_range.1 hi
      simp only [Function.comp_apply]
      rw [Nat.add_comm, Nat.add_mul_mod_self_right, Nat.mod_eq_of_lt hi]
  rw [← key n]
  simp [madeCells]
theorem int_cells (k : IntKind) (zs : List Int) : ∀ u ∈ zs.map (Value.int k), u.oneCell' = true := ints_oneCell k zs
end Go.Proofs.Ytpbjfadandnhaaa

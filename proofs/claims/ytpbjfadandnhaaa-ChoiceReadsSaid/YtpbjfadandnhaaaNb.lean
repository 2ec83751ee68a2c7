/- append as in N, and which block alone it may have written. -/
import Derived.Test.YtpbjfadandnhaaaN
namespace Go.Proofs.Ytpbjfadandnhaaa
open Go.RowKit
section
variable {P : Program}
theorem run_app2 {w : World} {t e : TypeId} {z : Value} {size bytes lo n : Nat} (E : EI P t e z size bytes) (ty : TypeId) {v : Value} {xs : List Value} (hown : w.ownsRow lo e size v n xs)
    {pl : Nat → Prop} {m c : Nat} {A : Option Addr} {news : List Value} (hr : RD w pl size A m news) (h1 : ∀ u ∈ news, u.oneCell' = true) (hm : n + m ≤ 1000000) (hlo : lo ≤ w.heap.size) :
    ∃ v' w', (Builtin.append_ #[t, t] ty #[v, .slice A m c]).run P w = .ok v' w' ∧ w'.ownsRow lo e size v' (n + m) (xs ++ news) ∧ w.grownBy w' v.ownBlock := by
  obtain ⟨i, hi, hz, hs, hb⟩ := info_parts E.info
  rcases Nat.eq_zero_or_pos m with h0 | h0
  · subst h0
    have hn : news = [] := List.eq_nil_of_length_eq_zero (by have := hr.1; omega)
    subst hn
    exact ⟨v, w, run_append_nil_src E ty hown A c, by simpa using hown, World.grownBy.refl w _⟩
  · obtain ⟨b, o, rfl, _, _, hc⟩ := hr.2 h0
    have hbt := E.few
    have hmul : (n + m) * bytes ≤ 1000000 * 1000 := Nat.mul_le_mul hm E.few
    obtain ⟨v', w', hrun, h2, h3, _⟩ := run_append_own_at (P := P) w lo t ty e i z size bytes E.under hi hz hs hb E.cells E.pos v n xs hown ⟨b, o, none⟩ m c news hr.1
      (fun j u hu => by rw [add_off]; exact hc j u hu) h1 (by simp only [maxLen]; omega) (by omega) hlo
    exact ⟨v', w', hrun, h2, h3⟩

theorem wpList_app2 {w : World} {ops : Array Oper} {rest : List Oper} {o : Oper} {a : Act} {Q : Exit → Act → World → Prop} {t e : TypeId} {z : Value} {size bytes lo n : Nat} (E : EI P t e z size bytes) (hgd : o.guard = none) (s x : Operand)
    (ho : o.op = .call { callee := .builtin .append, args := #[s, x], argTypes := #[t, t] })
    (v : Value) (xs : List Value) (hs : a.eval s = v) (hown : w.ownsRow lo e size v n xs)
    {pl : Nat → Prop} {m c : Nat} {A : Option Addr} {news : List Value} (hx : a.eval x = .slice A m c) (hr : RD w pl size A m news) (h1 : ∀ u ∈ news, u.oneCell' = true) (hm : n + m ≤ 1000000) (hlo : lo ≤ w.heap.size)
    (h : ∀ v' w', w'.ownsRow lo e size v' (n + m) (xs ++ news) → w.grownBy w' v.ownBlock → wpList P ops Q rest (a.put o.dst v') w') : wpList P ops Q (o :: rest) a w := by
  refine wpList_plain hgd fun K hK => ?_
  obtain ⟨v', w', hrun, h2, h3⟩ := run_app2 E o.type hown (c := c) hr h1 hm hlo
  unfold Oper.wp execOp
  simp only [ho, resolve, invoke, builtin, Sem.run_bind, Sem.run_pure, Result.andThen_ok, List.map_toArray, List.map_cons, List.map_nil, hs, hx, hrun]
  exact hK _ _ (h v' w' h2 h3)
end
/-- The block of a row of the call's own holds elements of the row's type. -/
theorem own_blk {w : World} {lo size n : Nat} {e : TypeId} {v : Value} {xs : List Value} (h : w.ownsRow lo e size v n xs) : ∀ g, v.ownBlock = some g → lo ≤ g ∧ ∃ cs, Blk w g cs e := by
  intro g hg
  rcases h.2 with ⟨rfl, _⟩ | ⟨g', cap, cur, rfl, hb, hh, _⟩
  · simp [Value.ownBlock] at hg
  · have : g' = g := by simpa [Value.ownBlock] using hg
    subst this
    exact ⟨hb, cur.toList, by unfold Blk; rw [Array.toArray_toList]; exact hh⟩
theorem own_only {s : Nat → Prop} {w w' : World} {lo size n : Nat} {e : TypeId} {v : Value} {xs : List Value} (h : w.ownsRow lo e size v n xs) (o : Only s w w') (hs : ∀ k, s k → k < lo) : w'.ownsRow lo e size v n xs := by
  refine ⟨h.1, ?_⟩
  rcases h.2 with h2 | ⟨g, cap, cur, hv, hg, hh, r⟩
  · exact .inl h2
  · exact .inr ⟨g, cap, cur, hv, hg, (o.block g (lt_of_block hh) (fun k => by have := hs g k; omega)).trans hh, r⟩
end Go.Proofs.Ytpbjfadandnhaaa

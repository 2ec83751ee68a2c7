/- append as in N, at a step of a region that draws its order. -/
import Derived.Test.YtpbjfadandnhaaaNb
import Derived.Deep.AppendLies
namespace Go.Proofs.Ytpbjfadandnhaaa
open Go.RowKit
section
variable {P : Program}
theorem step_app {w : World} {ops : Array Oper} {o : Oper} {a : Act} {K : Act → World → Prop} {Q : Exit → Act → World → Prop} {F : Prop} {t e : TypeId} {z : Value} {size bytes lo n : Nat} (E : EI P t e z size bytes) (hgd : o.guard = none) (s x : Operand)
    (ho : o.op = .call { callee := .builtin .append, args := #[s, x], argTypes := #[t, t] })
    (v : Value) (xs : List Value) (hs : a.eval s = v) (hown : w.ownsRow lo e size v n xs)
    {pl : Nat → Prop} {m c : Nat} {A : Option Addr} {news : List Value} (hx : a.eval x = .slice A m c) (hr : RD w pl size A m news) (h1 : ∀ u ∈ news, u.oneCell' = true) (hm : n + m ≤ 1000000) (hlo : lo ≤ w.heap.size)
    (h : ∀ v' w', w'.ownsRow lo e size v' (n + m) (xs ++ news) → Below lo w w' → K (a.put o.dst v') w') :
    if Region.wanted o (yielded ops a.tmps) = true then Oper.wp P o a w K Q else F := by
  have hw : Region.wanted o (yielded ops a.tmps) = true := by simp [Region.wanted, hgd]
  rw [if_pos hw]
  obtain ⟨v', w', hrun, h2, h3⟩ := run_app E o.type hown (c := c) hr h1 hm hlo
  unfold Oper.wp execOp
  simp only [ho, resolve, invoke, builtin, Sem.run_bind, Sem.run_pure, Result.andThen_ok, List.map_toArray, List.map_cons, List.map_nil, hs, hx, hrun]
  exact h v' w' h2 h3
end
/-- What lies behind the first k: the slice, where it may be the old address if nothing is left. -/
theorem RD.rest' {w : World} {pl : Nat → Prop} {size n b o : Nat} {xs : List Value} (h : RD w pl size (some ⟨b, o, none⟩) n xs) (k d : Nat) (hk : k ≤ n) (hd : n ≤ d) :
    RD w pl size (if d = k then some ⟨b, o, none⟩ else some ⟨b, o + k * size, none⟩) (n - k) (xs.drop (k * size)) := by
  split
  · next e =>
    have hnk : n - k = 0 := by omega
    have : xs.drop (k * size) = [] := List.drop_of_length_le (by rw [h.1]; exact Nat.mul_le_mul_right _ (by omega))
    rw [hnk, this]
    exact RD.nil _ _ _ _
  · exact h.drop k hk
end Go.Proofs.Ytpbjfadandnhaaa

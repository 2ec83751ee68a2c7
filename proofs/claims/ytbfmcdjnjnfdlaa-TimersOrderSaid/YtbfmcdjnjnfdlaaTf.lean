/- The pile's Push. -/
import Derived.Test.YtbfmcdjnjnfdlaaTe
import Derived.Deep.RegionLaw
namespace Go.Proofs.Ytbfmcdjnjnfdlaa
open Go.RowKit
section
variable {P : Program}
theorem run_app3 {w : World} {t e : TypeId} {z : Value} {size bytes lo n : Nat} (E : EI P t e z size bytes) (ty : TypeId) {v : Value} {xs : List Value} (hown : w.ownsRow lo e size v n xs)
    {pl : Nat → Prop} {m c : Nat} {A : Option Addr} {news : List Value} (hr : RD w pl size A m news) (h1 : ∀ u ∈ news, u.oneCell' = true) (hm : n + m ≤ 1000000) (hlo : lo ≤ w.heap.size) :
    ∃ v' w', (Builtin.append_ #[t, t] ty #[v, .slice A m c]).run P w = .ok v' w' ∧ w'.ownsRow lo e size v' (n + m) (xs ++ news) ∧ w.grownBy w' v.ownBlock ∧ (∀ g, v'.ownBlock = some g → v.ownBlock = some g ∨ w.heap.size ≤ g) := by
  obtain ⟨i, hi, hz, hs, hb⟩ := info_parts E.info
  rcases Nat.eq_zero_or_pos m with h0 | h0
  · subst h0
    have hn : news = [] := List.eq_nil_of_length_eq_zero (by have := hr.1; omega)
    subst hn
    exact ⟨v, w, run_append_nil_src E ty hown A c, by simpa using hown, World.grownBy.refl w _, fun g h => .inl h⟩
  · obtain ⟨b, o, rfl, _, _, hc⟩ := hr.2 h0
    have hbt := E.few
    have hmul : (n + m) * bytes ≤ 1000000 * 1000 := Nat.mul_le_mul hm E.few
    obtain ⟨v', w', hrun, h2, h3, _, h5⟩ := run_append_own_at (P := P) w lo t ty e i z size bytes E.under hi hz hs hb E.cells E.pos v n xs hown ⟨b, o, none⟩ m c news hr.1
      (fun j u hu => by rw [add_off]; exact hc j u hu) h1 (by simp only [maxLen]; omega) (by omega) hlo
    refine ⟨v', w', hrun, h2, h3, fun g h => ?_⟩
    rcases h5 with h5 | h5
    · exact .inl (h5 ▸ h)
    · rw [h5] at h
      injection h with h
      exact .inr (by omega)
/-- append at a step of a drawn region, which block alone it may have written, and where the row lies now. -/
theorem step_app2 {w : World} {ops : Array Oper} {o : Oper} {a : Act} {K : Act → World → Prop} {Q : Exit → Act → World → Prop} {F : Prop} {t e : TypeId} {z : Value} {size bytes lo n : Nat} (E : EI P t e z size bytes) (hgd : o.guard = none) (s x : Operand)
    (ho : o.op = .call { callee := .builtin .append, args := #[s, x], argTypes := #[t, t] })
    (v : Value) (xs : List Value) (hs : a.eval s = v) (hown : w.ownsRow lo e size v n xs)
    {pl : Nat → Prop} {m c : Nat} {A : Option Addr} {news : List Value} (hx : a.eval x = .slice A m c) (hr : RD w pl size A m news) (h1 : ∀ u ∈ news, u.oneCell' = true) (hm : n + m ≤ 1000000) (hlo : lo ≤ w.heap.size)
    (h : ∀ v' w', w'.ownsRow lo e size v' (n + m) (xs ++ news) → w.grownBy w' v.ownBlock → (∀ g, v'.ownBlock = some g → v.ownBlock = some g ∨ w.heap.size ≤ g) → K (a.put o.dst v') w') :
    if Region.wanted o (yielded ops a.tmps) = true then Oper.wp P o a w K Q else F := by
  have hw : Region.wanted o (yielded ops a.tmps) = true := by simp [Region.wanted, hgd]
  rw [if_pos hw]
  obtain ⟨v', w', hrun, h2, h3, h5⟩ := run_app3 E o.type hown (c := c) hr h1 hm hlo
  unfold Oper.wp execOp
  simp only [ho, resolve, invoke, builtin, Sem.run_bind, Sem.run_pure, Result.andThen_ok, List.map_toArray, List.map_cons, List.map_nil, hs, hx, hrun]
  exact h v' w' h2 h3 h5
end

theorem own_keep {s : Nat → Prop} {w w' : World} {lo size n : Nat} {e : TypeId} {v : Value} {xs : List Value} (h : w.ownsRow lo e size v n xs) (o : Only s w w') (hs : ∀ g, v.ownBlock = some g → ¬ s g) : w'.ownsRow lo e size v n xs := by
  refine ⟨h.1, ?_⟩
  rcases h.2 with h2 | ⟨g, cap, cur, rfl, hg, hh, r⟩
  · exact .inl h2
  · exact .inr ⟨g, cap, cur, rfl, hg, (o.block g (lt_of_block hh) (hs g rfl)).trans hh, r⟩
theorem ta_any (v : Value) (w : World) : (Instr.typeAssert (.iface 42 v) 20 42 false).run Try.prog w = .ok v w := by kernel_rfl

/-- What may turn when the pile at q is changed, whose slice was v. -/
def PS (q : Nat) (v : Value) (k : Nat) : Prop := k = q ∨ v.ownBlock = some k
/-- What a change of the pile at (q, o) leaves, whose slice was v: its timers are ys; nothing old has turned but q and the old row. -/
def PilePost (w : World) (q o : Nat) (cs : List Value) (tq : TypeId) (lo : Nat) (v : Value) (R : List Tm → Prop) (r : Value) (e : Ending) (w' : World) : Prop :=
  ∃ v' ys, e = .returned r ∧ R ys ∧ PW w' q o cs tq lo v' ys ∧ Only (PS q v) w w' ∧ ∀ g, v'.ownBlock = some g → v.ownBlock = some g ∨ w.heap.size ≤ g

theorem flatT_snoc (xs : List Tm) (t : Tm) : flatT xs ++ tmV t = flatT (xs ++ [t]) := by
  unfold flatT
  rw [List.flatMap_append]
  simp
theorem push_cell {w w1 : World} {q o : Nat} {cs : List Value} {tq : TypeId} {lo : Nat} {v : Value} {xs : List Tm} (h : PW w q o cs tq lo v xs) {o2 : Obj} (hg : (w.alloc o2).drew.grownBy w1 v.ownBlock) :
    w1.cell? ⟨q, o, none⟩ = some v ∧ w1.frozen? ⟨q, o, none⟩ = false := by
  have hB : Blk (w.alloc o2).drew q (cs.set o v) tq := h.box.alloc o2
  have hB1 := hB.grown hg (fun e => h.qg q e.symm rfl)
  exact ⟨hB1.cell o v (by simp [h.lt]), hB1.free o⟩
theorem push_post {w w1 : World} {q o : Nat} {cs : List Value} {tq : TypeId} {lo n : Nat} {v v1 : Value} {xs : List Tm} {t : Tm} (h : PW w q o cs tq lo v xs) (hl : xs.length < 2000) {o2 : Obj}
    (hown : w1.ownsRow lo 42 3 v1 n (flatT xs ++ tmV t)) (hg : (w.alloc o2).drew.grownBy w1 v.ownBlock) (h5 : ∀ g, v1.ownBlock = some g → v.ownBlock = some g ∨ (w.alloc o2).drew.heap.size ≤ g) :
    PilePost w q o cs tq lo v (fun ys => ys = xs ++ [t]) (.tuple #[]) (.returned (.tuple #[])) (w1.setCell ⟨q, o, none⟩ v1) := by
  rw [flatT_snoc] at hown
  have hn := row_len hown
  subst hn
  have hA := (h.box.alloc o2)
  have hB : Blk (w.alloc o2).drew q (cs.set o v) tq := hA
  have hB1 := hB.grown hg (fun e => h.qg q e.symm rfl)
  have hne : ∀ g, v1.ownBlock = some g → q ≠ g := fun g e => by
    obtain ⟨_, ds, hd⟩ := own_blk hown g e
    exact hB1.ne hd h.ne
  refine ⟨v1, _, rfl, rfl, ⟨?_, h.lt, ?_, h.ne, by simp; omega⟩, ?_, fun g e => ?_⟩
  · have := hB1.set o v1
    rwa [List.set_set] at this
  · exact own_keep hown ((Only.refl (· = q) w1).put o v1) (fun g e k => hne g e k.symm)
  · have o1 : Only (PS q v) w w1 := (((Only.refl _ w).alloc o2).drewN 1).grown hg (fun k e => .inl (.inr e))
    exact o1.setCell (.inl (.inl rfl)) v1
  · rcases h5 g e with k | k
    · exact .inl k
    · exact .inr (by simp at k; omega)

set_option maxHeartbeats 2000000 in
theorem c_ppush {w : World} {q o : Nat} {cs : List Value} {tq : TypeId} {lo : Nat} {v : Value} {xs : List Tm} (h : PW w q o cs tq lo v xs) (hl : xs.length < 2000) (hlo : lo ≤ w.heap.size) (t : Tm) :
    Calls Try.prog 62 #[.pointer (some ⟨q, o, none⟩), .iface 42 (.agg #[.int .i64 t.at_, .int .i64 t.no, .int .i64 t.who])] w (PilePost w q o cs tq lo v (fun ys => ys = xs ++ [t]) (.tuple #[])) := by
  have hc := h.cell
  have hfz := h.free
  have hq := h.qlt
  have H := Lib.hid h
  have hown := h.row
  have hta := ta_any (.agg #[.int .i64 t.at_, .int .i64 t.no, .int .i64 t.who])
  have hlx := flatT_len xs
  clear h
  go_enter Try.func62, Try.ntmps62
  go_wp2_with fail
  go_region_law (refine step_app2 ei_T rfl (.tmp 7) (.tmp 10) rfl v _ rfl (hown.alloc _).drew rfl (RD.one3 rfl) (by simp [Value.oneCell']) (by omega) (by simp; omega) ?_; intro v1 w1 hown1 hg1 hn1; obtain ⟨q1, z1⟩ := push_cell H.out hg1; obtain ⟨A1, c1, rfl, _, _, _⟩ := own_slice hown1)
  all_goals
    go_end0
    exact push_post H.out hl hown1 hg1 hn1
end Go.Proofs.Ytbfmcdjnjnfdlaa

/- slices.Delete of one int, of a row of the call's own. -/
import Derived.Test.YtnmjjemkaamcfaaNd
import Derived.Test.YtnmjjemkaamcfaaI
import Derived.Test.YtnmjjemkaamcfaaLa
import Derived.Lib.SliceRun
import Derived.Laws.IdiomCopy
import Derived.Deep.RegionLaw
namespace Go.Proofs.Ytnmjjemkaamcfaa
open Go.RowKit
section
variable {P : Program}
/-- append within the room at a step of a drawn region: the row keeps its block. -/
theorem step_appfits {w : World} {ops : Array Oper} {o : Oper} {a : Act} {K : Act → World → Prop} {Q : Exit → Act → World → Prop} {F : Prop} {t e : TypeId} {z : Value} {size bytes lo n g cap : Nat} (E : EI P t e z size bytes) (hgd : o.guard = none) (s x : Operand)
    (ho : o.op = .call { callee := .builtin .append, args := #[s, x], argTypes := #[t, t] })
    (xs : List Value) (hs : a.eval s = .slice (some ⟨g, 0, none⟩) n cap) (hown : w.ownsRow lo e size (.slice (some ⟨g, 0, none⟩) n cap) n xs)
    {pl : Nat → Prop} {m c : Nat} {A : Option Addr} {news : List Value} (hx : a.eval x = .slice A m c) (hr : RD w pl size A m news) (h1 : ∀ u ∈ news, u.oneCell' = true) (q : Nat) (hq : n + m = q) (hroom : q ≤ cap)
    (h : ∀ w', w'.ownsRow lo e size (.slice (some ⟨g, 0, none⟩) q cap) q (xs ++ news) → w.grownBy w' (some g) → K (a.put o.dst (.slice (some ⟨g, 0, none⟩) q cap)) w') :
    if Region.wanted o (yielded ops a.tmps) = true then Oper.wp P o a w K Q else F := by
  subst hq
  have hw : Region.wanted o (yielded ops a.tmps) = true := by simp [Region.wanted, hgd]
  rw [if_pos hw]
  obtain ⟨i, hi, hz, hsz, hb⟩ := info_parts E.info
  have hrun : ∃ w', (Builtin.append_ #[t, t] o.type #[.slice (some ⟨g, 0, none⟩) n cap, .slice A m c]).run P w = .ok (.slice (some ⟨g, 0, none⟩) (n + m) cap) w' ∧
      w'.ownsRow lo e size (.slice (some ⟨g, 0, none⟩) (n + m) cap) (n + m) (xs ++ news) ∧ w.grownBy w' (some g) := by
    rcases Nat.eq_zero_or_pos m with h0 | h0
    · subst h0
      have hn : news = [] := List.eq_nil_of_length_eq_zero (by have := hr.1; omega)
      subst hn
      exact ⟨w, run_append_nil_src E o.type hown A c, by simpa using hown, World.grownBy.refl w _⟩
    · obtain ⟨b, of, rfl, _, _, hc⟩ := hr.2 h0
      exact run_append_fits (P := P) w lo t o.type e i size E.under hi hsz g n cap xs hown ⟨b, of, none⟩ m c news hr.1 (fun j u hu => by rw [add_off]; exact hc j u hu) h1 hroom
  obtain ⟨w', hrun, h2, h3⟩ := hrun
  unfold Oper.wp execOp
  simp only [ho, resolve, invoke, builtin, Sem.run_bind, Sem.run_pure, Result.andThen_ok, List.map_toArray, List.map_cons, List.map_nil, hs, hx, hrun]
  exact h w' h2 h3
end
/-- The first ones of a row of the call's own. -/
theorem own_pre {w : World} {lo n g c : Nat} {e : TypeId} {xs : List Value} (h : w.ownsRow lo e 1 (.slice (some ⟨g, 0, none⟩) n c) n xs) (m : Nat) (hm : m ≤ n) : w.ownsRow lo e 1 (.slice (some ⟨g, 0, none⟩) m c) m (xs.take m) := by
  have hn := h.1
  rcases h.2 with ⟨h', _⟩ | ⟨g', cap, cur, h', hb, hg, hnc, hcm, hcs, htake⟩
  · simp at h'
  · simp only [Value.slice.injEq, Option.some.injEq, Addr.mk.injEq, and_true, true_and] at h'
    obtain ⟨rfl, rfl⟩ := h'
    refine ⟨by rw [List.length_take]; omega, .inr ⟨g, c, cur, rfl, hb, hg, by omega, hcm, hcs, ?_⟩⟩
    rw [← htake, List.take_take]
    congr 1
    omega
/-- A cell behind what a row reads as may be written. -/
theorem own_past {w : World} {lo n g c : Nat} {e : TypeId} {xs : List Value} (h : w.ownsRow lo e 1 (.slice (some ⟨g, 0, none⟩) n c) n xs) (j : Nat) (hj : n ≤ j) (hjc : j < c) :
    (∃ u, w.cell? ⟨g, j, none⟩ = some u) ∧ w.frozen? ⟨g, j, none⟩ = false ∧ ∀ u, (w.setCell ⟨g, j, none⟩ u).ownsRow lo e 1 (.slice (some ⟨g, 0, none⟩) n c) n xs := by
  rcases h.2 with ⟨h', _⟩ | ⟨g', cap, cur, h', hb, hg, hnc, hcm, hcs, htake⟩
  · simp at h'
  · simp only [Value.slice.injEq, Option.some.injEq, Addr.mk.injEq, and_true, true_and] at h'
    obtain ⟨rfl, rfl⟩ := h'
    have hB : Blk w g cur.toList e := by unfold Blk; rw [Array.toArray_toList]; exact hg
    have hjl : j < cur.toList.length := by rw [Array.length_toList, hcs]; omega
    refine ⟨⟨_, hB.cell j _ (List.getElem?_eq_getElem hjl)⟩, hB.free j, fun u => ?_⟩
    refine ⟨h.1, .inr ⟨g, c, (cur.toList.set j u).toArray, rfl, hb, hB.set j u, hnc, hcm, by simp [hcs], ?_⟩⟩
    rw [← htake]
    simp only [List.take_set_of_le (show n * 1 ≤ j by omega)]
theorem run_clear_int {t ty : TypeId} (ht : Try.prog.underlying t = some (.slice 3)) {w : World} {g o c : Nat} {u : Value} (hc : w.cell? ⟨g, o, none⟩ = some u) (hf : w.frozen? ⟨g, o, none⟩ = false) :
    (Builtin.clear_ #[t] ty #[.slice (some ⟨g, o, none⟩) 1 c]).run Try.prog w = .ok (.tuple #[]) (w.setCell ⟨g, o, none⟩ (.int .i64 0)) := by
  have hv : ∀ w, (zeroValue 3).run Try.prog w = .ok (.int .i64 0) w := fun w => by kernel_rfl
  have hst := run_storeCells_cells (P := Try.prog) g o [.int .i64 0] 0 w
    (by
      intro j hj
      obtain rfl : j = 0 := by simpa using hj
      simp [hc])
    (by
      intro j hj
      simp at hj
      subst hj
      simpa using hf)
    (by
      intro v hv'
      rw [List.mem_singleton.1 hv']
      rfl)
  simp only [Nat.add_zero] at hst
  have hz : (Builtin.zeroCells #[Value.int .i64 0] 1).toList = [.int .i64 0] := by kernel_rfl
  simp [Builtin.clear_, run_underlying ht, hv, Value.cells, hz, hst, World.setCells]

/-- What a Delete leaves. -/
def SDelPost (w : World) (lo g m c : Nat) (zs : List Int) (e : Ending) (w' : World) : Prop :=
  e = .returned (.slice (some ⟨g, 0, none⟩) m c) ∧ w'.ownsRow lo 3 1 (.slice (some ⟨g, 0, none⟩) m c) m (zs.map (Value.int .i64)) ∧ Only (· = g) w w'
/-- Behind the append: the last cell is cleared. -/
theorem sdel_end {w w1 : World} {lo g m c : Nat} {zs : List Int} (hown : w1.ownsRow lo 3 1 (.slice (some ⟨g, 0, none⟩) m c) m (zs.map (Value.int .i64))) (hg : w.grownBy w1 (some g)) (hm : m < c) :
    (∀ cc, (Builtin.clear_ #[58] 0 #[.slice (some ⟨g, m, none⟩) 1 cc]).run Try.prog w1 = .ok (.tuple #[]) (w1.setCell ⟨g, m, none⟩ (.int .i64 0))) ∧
    SDelPost w lo g m c zs (.returned (.slice (some ⟨g, 0, none⟩) m c)) (w1.setCell ⟨g, m, none⟩ (.int .i64 0)) := by
  obtain ⟨⟨u, h1⟩, h2, h3⟩ := own_past hown m (Nat.le_refl _) hm
  refine ⟨fun cc => run_clear_int (by kernel_rfl) h1 h2, rfl, h3 _, ?_⟩
  exact ((Only.refl (· = g) w).grown hg (fun k e => .inl (by injection e with e; exact e.symm))).put m _

set_option maxHeartbeats 2000000 in
theorem c_sdel {w : World} {lo n g c : Nat} {L : List Int} (h : w.ownsRow lo 3 1 (.slice (some ⟨g, 0, none⟩) n c) n (L.map (Value.int .i64))) (i : Nat) (hi : i < n) (hnc : n ≤ c) (m : Nat) (hm : n = m + 1) :
    Calls Try.prog 61 #[.slice (some ⟨g, 0, none⟩) n c, .int .i64 i, .int .i64 (i + 1)] w (SDelPost w lo g m c (L.take i ++ L.drop (i + 1))) := by
  have hT := Lib.hid (own_pre h i (by omega))
  have hR : Hid (RD w (lo ≤ ·) 1 (if c = i + 1 then some ⟨g, 0, none⟩ else some ⟨g, i + 1, none⟩) (n - (i + 1)) ((L.drop (i + 1)).map (Value.int .i64))) := Lib.hid (by
    have := RD.rest' (RD.of_own h) (i + 1) c (by omega) hnc
    simpa using this)
  have HE : Hid (∀ w1, w1.ownsRow lo 3 1 (.slice (some ⟨g, 0, none⟩) m c) m ((L.map (Value.int .i64)).take i ++ (L.drop (i + 1)).map (Value.int .i64)) → w.drew.grownBy w1 (some g) → (∀ cc, (Builtin.clear_ #[58] 0 #[.slice (some ⟨g, m, none⟩) 1 cc]).run Try.prog w1 = .ok (.tuple #[]) (w1.setCell ⟨g, m, none⟩ (.int .i64 0))) ∧
    SDelPost w lo g m c (L.take i ++ L.drop (i + 1)) (.returned (.slice (some ⟨g, 0, none⟩) m c)) (w1.setCell ⟨g, m, none⟩ (.int .i64 0))) := Lib.hid fun w1 ho hg => by
    have ho' : w1.ownsRow lo 3 1 (.slice (some ⟨g, 0, none⟩) m c) m ((L.take i ++ L.drop (i + 1)).map (Value.int .i64)) := by rw [List.map_append, List.map_take]; exact ho
    obtain ⟨h1, h2, h3, h4⟩ := sdel_end ho' hg (by omega)
    exact ⟨h1, h2, h3, ((Only.refl _ w).drewN 1).trans h4⟩
  have hne : ((i : Int) == (i : Int) + 1) = false := beq_eq_false_iff_ne.2 (by omega)
  have h01 : (0 : Int) ≤ (i : Int) + 1 := by omega
  have h02 : (i : Int) + 1 ≤ n := by omega
  have hic : i ≤ c := by omega
  have hic1 : i + 1 ≤ c := by omega
  have hin : i + 1 ≤ n := by omega
  have hq : i + (n - (i + 1)) = m := by omega
  have hmc : m ≤ c := by omega
  have hnm : n - m = 1 := by omega
  have hmn : m ≤ n := by omega
  have hmn' : (m : Int) ≤ n := by omega
  have hcm' : ¬ c = m := by omega
  clear h hm
  go_enter Try.func61, Try.ntmps61
  go_wp2_with fail
  go_region_law (refine step_appfits ei_int rfl (.tmp 22) (.tmp 25) rfl _ rfl hT.out.drew rfl (hR.out.below (up_drewN w 1)) (int_cells _ _) m hq hmc ?_; intro w1 hown hg; obtain ⟨hcl, hpost⟩ := HE.out w1 hown hg; have HP := Lib.hid hpost; clear hown hg hpost)
  all_goals
    go_wp2_with fail
  all_goals
    go_ret
    first
      | exact HP.out
      | (have e : c = i + 1 := by omega
         have hp := HP.out
         rw [e] at hp
         exact hp)
end Go.Proofs.Ytnmjjemkaamcfaa

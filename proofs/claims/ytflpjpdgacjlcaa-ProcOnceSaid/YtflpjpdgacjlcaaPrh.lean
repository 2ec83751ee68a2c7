/- Package proc: slices.Clone of processes, with, New, End. -/
import Derived.Test.YtflpjpdgacjlcaaPrg
import Derived.Lib.SliceRun
namespace Go.Proofs.Ytflpjpdgacjlcaa
open Go.RowKit

/-- Where a table may lie behind a call: where it lay, or in new blocks. -/
def plP (pl : Nat → Prop) (w : World) : Nat → Prop := fun b => pl b ∨ w.heap.size ≤ b
/-- A table is the answer. -/
def PrPost (w : World) (pl : Nat → Prop) (n : Nat) (L : List PR) (e : Ending) (w' : World) : Prop := ∃ A c, e = .returned (.slice A n c) ∧ TW prK w' (plP pl w) A n L ∧ Below w.heap.size w w'
theorem eq_nil_pr (w : World) (a : Option Addr) (n c n' c' : Nat) : (binOp .eql 25 (.slice a n c) (.slice none n' c')).run Try.prog w = .ok (.bool a.isNone) w := Lib.run_eql_slice_nil w _ 69 a n c n' c' (by kernel_rfl)

set_option maxHeartbeats 400000 in
theorem c_prclone {w : World} {pl : Nat → Prop} {A : Option Addr} {n c : Nat} {L : List PR} (h : TW prK w pl A n L) (hn : n ≤ 100000) :
    Calls Try.prog 58 #[.slice A n c] w fun e w' => ∃ v, e = .returned v ∧ OT prK w' 69 w.heap.size v n L ∧ Below w.heap.size w w' := by
  have hq := eq_nil_pr
  rcases A with _ | p
  · have hL : L = [] := by
      rcases Nat.eq_zero_or_pos n with h0 | h0
      · exact List.eq_nil_of_length_eq_zero (by have := h.len; omega)
      · obtain ⟨b, o, e, _⟩ := h.rd.at_ h0
        cases e
    subst hL
    obtain rfl : n = 0 := by simpa using h.len.symm
    clear h
    go_enter Try.func58, Try.ntmps58
    go_wp2
    go_ret
    exact ⟨_, rfl, ⟨World.ownsRow_nil _ _ _ _, fun q hq => absurd hq (by simp)⟩, Below.refl _ _⟩
  · have HR := Lib.hid h
    have hown := World.ownsRow_made (base := w.heap.size) (e := 69) (size := 42) w #[] 0 (Nat.le_refl _) (by unfold maxLen; omega) (by simp)
    clear h
    go_enter Try.func58, Try.ntmps58
    go_wp2_with (at_builtin; refine wpList_app2 ei_p rfl (.tmp 5) (.tmp 6) rfl (.slice (some ⟨w.heap.size, 0, none⟩) 0 0) [] rfl hown rfl (HR.out.rd.below (up_alloc _ _)) (prK.oneL _) (by omega) (by simp) ?_; intro v1 w1 hown1 hg1; simp only [Nat.zero_add, List.nil_append] at hown1)
    go_ret
    have hb : Below w.heap.size w w1 := (up_alloc w (.cells #[] 69)).grown hg1 (by simp) (fun k e => by
      have : w.heap.size = k := by simpa [Value.ownBlock] using e
      omega)
    exact ⟨_, rfl, OT.of hown1 HR.out.each hb, hb⟩

/-- A table of the call's own whose element k has been stored. -/
theorem pr_laid {w w2 : World} {pl : Nat → Prop} {A : Option Addr} {n c g lo : Nat} {T : TypeId} {L : List PR} {q : PR} (h : TW prK w pl A n L) (o : OT prK w2 T lo (.slice (some ⟨g, 0, none⟩) n c) n L) (hb : Below w.heap.size w w2) (hlo : w.heap.size ≤ lo) (k : Nat) (hk : k < n) (hq : prK.E pl q w) :
    TW prK (w2.setCells g (k * 42) (prC q)) (plP pl w) (some ⟨g, 0, none⟩) n (L.set k q) ∧ Below w.heap.size w (w2.setCells g (k * 42) (prC q)) := by
  obtain ⟨g', c', _, e, hg, _⟩ := o.at_ k hk
  obtain ⟨rfl, rfl⟩ := slice_inj e
  have ho : Only (· = g) w2 (w2.setCells g (k * 42) (prC q)) := only_cells _ _ _
  have hE : ∀ x, prK.E pl x w → prK.E (plP pl w) x (w2.setCells g (k * 42) (prC q)) := fun x hx =>
    prK.lo (prK.only (prK.below (prK.lt hx) hb) ho (fun k e h => by
      have := h.2
      omega)) (fun b hb => .inl hb.1)
  have hN : prK.E (nOwn (.slice (some ⟨g, 0, none⟩) n c)) q w2 := prK.lo (prK.below (prK.lt hq) hb) (fun b hb e => by
    have : g = b := by simpa [Value.ownBlock] using e
    have := hb.2
    omega)
  have hp := o.put k hk q hN
  obtain ⟨A1, c1, e1, h1, h2, h3⟩ := own_slice hp.own
  injection e1 with e2 e3 e4
  subst e2
  refine ⟨⟨h3.lo (fun b hb => .inr (by omega)), by rw [List.length_set]; exact h.len, fun x hx => ?_⟩, Only.later hb ho (by rintro i rfl; omega)⟩
  rcases List.mem_or_eq_of_mem_set hx with hx | rfl
  · exact hE x (h.each x hx)
  · exact hE x hq

set_option maxRecDepth 100000 in
set_option maxHeartbeats 1000000 in
theorem c_prwith {w : World} {pl : Nat → Prop} {A : Option Addr} {n c : Nat} {L : List PR} (h : TW prK w pl A n L) (hn : n ≤ 100000) (k : Nat) (hk : k < n) (q : PR) (hq : prK.E pl q w) :
    Calls Try.prog 46 #[.slice A n c, .int .i64 k, .agg (prC q).toArray] w (PrPost w pl n (L.set k q)) := by
  have hX := px w q 69
  generalize hw1 : w.alloc (.cells (prC q).toArray 69) = w1 at hX
  have HW := Lib.hid hw1
  have HX := Lib.hid hX
  have CC := Lib.hid (c_prclone (c := c) (h.below hX.up) hn)
  have HR := Lib.hid h
  have HE := Lib.hid hq
  have HK := Lib.hid hk
  have hk0 : (0 : Int) ≤ k := by omega
  have hk1 : (k : Int) < (n : Int) := by omega
  clear hw1 hX h hq
  go_enter Try.func46, Try.ntmps46
  go_upto_region 1 with fail
  rw [HW.out]
  go_wp2_with fail
  refine CC.out.mono ?_
  rintro e w2 ⟨v, rfl, ho, hb⟩
  obtain ⟨g, c1, q0, rfl, hg, hgl, _, _, hth, _⟩ := ho.at_ k HK.out
  have HO := Lib.hid ho
  have HB := Lib.hid hb
  have HX2 := Lib.hid (HX.out.next hb)
  have HT : Hid (w2.there g (k * 42) (prC q).length) := Lib.hid (by rw [prC_len]; exact hth)
  clear ho hb hth hg hgl
  go_wp2_with (first | (refine ldr (b := w.heap.size) (t := 69) (cs := prC q) (.tmp 5) rfl rfl Try.underlying69 rfl (info_p q) rfl ?_ ?_; (· exact HX2.out.box)) | (refine smr (b := g) (q := k * 42) (cs := prC q) (.tmp 13) (.tmp 12) rfl rfl rfl rfl (info_p q) (prC_one q) ?_ ?_; (· exact HT.out)))
  go_ret
  have := pr_laid HR.out HO.out HX2.out.up (HX.out.up.size) k HK.out HE.out
  exact ⟨_, _, rfl, this.1, this.2⟩

set_option maxRecDepth 100000 in
set_option maxHeartbeats 1000000 in
theorem c_prnew (w : World) (pl : Nat → Prop) : Calls Try.prog 28 #[] w (PrPost w pl 16 (List.replicate 16 (PR.nil 0))) := by
  have hM := made_list (prC (PR.nil 0)).toArray 42 (by rw [List.size_toArray, prC_len]) 16
  have hmk : ∀ W : World, (Instr.makeSlice 25 (.int .i64 16) (.int .i64 16)).run Try.prog W = .ok (.slice (some ⟨W.heap.size, 0, none⟩) 16 16) (W.alloc (.cells (madeCells (Value.agg (prC (PR.nil 0)).toArray).cells (16 * 42)) 69)) := fun W => run_mk ei_p 16 (by omega) W
  have hV : (Value.agg (prC (PR.nil 0)).toArray).cells = (prC (PR.nil 0)).toArray := rfl
  rw [hV] at hmk
  generalize madeCells (prC (PR.nil 0)).toArray (16 * 42) = cs at hmk hM
  have HB : Hid (Blk (w.alloc (.cells cs 69)) w.heap.size ((List.replicate 16 (PR.nil 0)).flatMap prC) 69) := Lib.hid (by
    have e : (List.replicate 16 (PR.nil 0)).flatMap prC = cs.toList := by
      rw [hM, List.flatMap_def, List.map_replicate]
    rw [e]
    have := Blk.new w cs.toList 69
    rwa [Array.toArray_toList] at this)
  clear hM
  go_enter Try.func28, Try.ntmps28
  go_wp2
  go_ret
  refine ⟨_, _, rfl, ⟨?_, by simp, fun q hq => ?_⟩, up_alloc _ _⟩
  · exact RD.of_blk HB.out (by rw [flatN prK.f prK.m prK.len, List.length_replicate]) (.inr (Nat.le_refl _))
  · obtain rfl := List.eq_of_mem_replicate hq
    exact ⟨rfl, RD.nil _ _ _ _⟩

theorem PrPost.up {w w4 : World} {pl : Nat → Prop} {n : Nat} {L : List PR} {e : Ending} {w' : World} (hb : Below w.heap.size w w4) (h : PrPost w4 pl n L e w') : PrPost w pl n L e w' := by
  obtain ⟨A, c, e, h1, h2⟩ := h
  refine ⟨A, c, e, h1.lo (fun b hb' => ?_), up_trans hb h2⟩
  rcases hb' with hb' | hb'
  · exact .inl hb'
  · exact .inr (Nat.le_trans hb.size hb')
end Go.Proofs.Ytflpjpdgacjlcaa

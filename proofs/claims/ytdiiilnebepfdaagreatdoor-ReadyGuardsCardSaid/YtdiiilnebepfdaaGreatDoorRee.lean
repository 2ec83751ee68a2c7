/- slices.IndexFunc over package ready's closures; due; wanted. -/
import Derived.Test.YtdiiilnebepfdaaGreatDoorRed
import Derived.LoopTactic
namespace Go.Proofs.YtdiiilnebepfdaaGreatDoor
open Go.RowKit

/-- slices.IndexFunc's answer. -/
def ixF {α : Type} (p : α → Bool) (l : List α) : Int := if l.any p = true then (l.findIdx p : Int) else -1
theorem ixF_no {α : Type} {p : α → Bool} {l : List α} (h : l.any p = false) : ixF p l = -1 := if_neg (by rw [h]; decide)
theorem ixF_at {α : Type} {p : α → Bool} {l : List α} {k : Nat} {g : α} (hg : l[k]? = some g) (h0 : (l.take k).any p = false) (h : p g = true) : ixF p l = k := by
  obtain ⟨hk, he⟩ := List.getElem?_eq_some_iff.1 hg
  have ha : l.any p = true := List.any_eq_true.2 ⟨g, List.mem_of_getElem? hg, h⟩
  unfold ixF
  rw [if_pos ha]
  have hx : l.findIdx p = k := by
    rw [List.findIdx_eq hk]
    refine ⟨by rw [he]; exact h, fun j hj => ?_⟩
    rw [List.any_eq_false] at h0
    have := h0 (l[j]'(by omega)) (by
      rw [List.mem_take_iff_getElem]
      exact ⟨j, by omega, rfl⟩)
    simpa using this
  rw [hx]
theorem ixF_geq {α : Type} (p : α → Bool) (l : List α) : decide (0 ≤ ixF p l) = l.any p := by
  unfold ixF
  cases l.any p <;> simp
theorem anyN {α : Type} {p : α → Bool} {l : List α} {k : Nat} {g : α} (hg : l[k]? = some g) (h0 : (l.take k).any p = false) (h : p g = false) : (l.take (k + 1)).any p = false := by
  rw [List.take_add_one, hg, List.any_append, h0]
  simp [h]
theorem info_wt : (Tryz.prog.info? 61).map (·.size) = some 2 := by kernel_rfl
theorem info_tm : (Tryz.prog.info? 82).map (·.size) = some 3 := by kernel_rfl
theorem tmV_len (t : Tm) : (tmV t).length = 3 := rfl
theorem wqC_len (q : WQ) : (wqC q).length = 2 := rfl

set_option maxHeartbeats 2000000 in
theorem c_ixG {p : GD → Bool} {w : World} {pl : Nat → Prop} {A : Option Addr} {n c : Nat} {L : List GD} (hR : RD w pl 5 A n (L.flatMap gdC)) (hl : L.length = n) (hn : n ≤ 100000) {c1 : Value}
    (hS : ∀ x ∈ L, ∀ W, Below w.heap.size w W → Calls Tryz.prog 22 #[.agg (gdC x).toArray, c1] W fun e w' => e = .returned (.bool (p x)) ∧ Below W.heap.size W w') :
    Calls Tryz.prog 21 #[.slice A n c, .func (.func 22) #[] #[c1]] w fun e w' => e = .returned (.int .i64 (ixF p L)) ∧ Below w.heap.size w w' := by
  have HR := Lib.hid hR
  have HL := Lib.hid hl
  have HS := Lib.hid hS
  clear hR hl hS
  go_enter Tryz.func21, Tryz.ntmps21
  go_wp2
  go_loopw [8] (fun i wr => ∃ k : Nat, k ≤ n ∧ i = .int .i64 k ∧ (L.take k).any p = false ∧ Below w.heap.size w wr) (fun i _ => n - (intOf i).toNat)
  case atStart => exact ⟨0, Nat.zero_le _, rfl, rfl, Below.refl _ _⟩
  case round =>
    obtain ⟨k, hk, rfl, hF, hbw⟩ := hrel
    have HF := Lib.hid hF
    have HB := Lib.hid hbw
    clear hF
    by_cases hlt : k < n
    · have hex : ∃ g, L[k]? = some g := ⟨_, List.getElem?_eq_getElem (by rw [HL.out]; exact hlt)⟩
      obtain ⟨g, hg⟩ := hex
      obtain ⟨b, o, rfl, _, _, hrg⟩ := RD.row' gdC_len (HR.out.below hbw) hg hlt
      have HRG := Lib.hid hrg
      have HG := Lib.hid hg
      have C := HS.out g (List.mem_of_getElem? hg) wr hbw
      obtain ⟨x, hx⟩ : ∃ x, p g = x := ⟨_, rfl⟩
      rw [hx] at C
      have HX := Lib.hid hx
      have CC := Lib.hid C
      clear hg hbw hx C hrg
      cases x
      · go_wp2_with (refine lmr (b := b) (q := o + k * 5) (cs := gdC g) (.tmp 14) rfl rfl Tryz.underlying63 rfl info_gd5 rfl ?_ ?_; (· exact HRG.out))
        refine CC.out.mono ?_; rintro e w2 ⟨rfl, hb2⟩
        have HB2 := Lib.hid (up_trans HB.out hb2)
        have HN := Lib.hid (anyN HG.out HF.out HX.out)
        clear hb2
        go_wp2
        go_roundw
        case rel => exact ⟨k + 1, by omega, by go_num, HN.out, HB2.out⟩
        case measure => simp [intOf]; omega
      · go_wp2_with (refine lmr (b := b) (q := o + k * 5) (cs := gdC g) (.tmp 14) rfl rfl Tryz.underlying63 rfl info_gd5 rfl ?_ ?_; (· exact HRG.out))
        refine CC.out.mono ?_; rintro e w2 ⟨rfl, hb2⟩
        have HB2 := Lib.hid (up_trans HB.out hb2)
        have HN := Lib.hid (ixF_at HG.out HF.out HX.out)
        clear hb2
        go_wp2
        go_ret
        exact ⟨ret_int HN.out.symm, HB2.out⟩
    · obtain rfl : k = n := by omega
      have HN := Lib.hid (show ixF p L = -1 from ixF_no (by
        have := HF.out
        rwa [List.take_of_length_le (by rw [HL.out]; exact Nat.le_refl _)] at this))
      clear hbw
      go_wp2
      go_ret
      exact ⟨ret_int HN.out.symm, HB.out⟩

set_option maxHeartbeats 2000000 in
theorem c_ixW {p : WQ → Bool} {w : World} {pl : Nat → Prop} {A : Option Addr} {n c : Nat} {L : List WQ} (hR : RD w pl 2 A n (L.flatMap wqC)) (hl : L.length = n) (hn : n ≤ 100000) {c1 : Value}
    (hS : ∀ x ∈ L, ∀ W, Below w.heap.size w W → Calls Tryz.prog 52 #[.agg (wqC x).toArray, c1] W fun e w' => e = .returned (.bool (p x)) ∧ Below W.heap.size W w') :
    Calls Tryz.prog 51 #[.slice A n c, .func (.func 52) #[] #[c1]] w fun e w' => e = .returned (.int .i64 (ixF p L)) ∧ Below w.heap.size w w' := by
  have HR := Lib.hid hR
  have HL := Lib.hid hl
  have HS := Lib.hid hS
  clear hR hl hS
  go_enter Tryz.func51, Tryz.ntmps51
  go_wp2
  go_loopw [8] (fun i wr => ∃ k : Nat, k ≤ n ∧ i = .int .i64 k ∧ (L.take k).any p = false ∧ Below w.heap.size w wr) (fun i _ => n - (intOf i).toNat)
  case atStart => exact ⟨0, Nat.zero_le _, rfl, rfl, Below.refl _ _⟩
  case round =>
    obtain ⟨k, hk, rfl, hF, hbw⟩ := hrel
    have HF := Lib.hid hF
    have HB := Lib.hid hbw
    clear hF
    by_cases hlt : k < n
    · have hex : ∃ g, L[k]? = some g := ⟨_, List.getElem?_eq_getElem (by rw [HL.out]; exact hlt)⟩
      obtain ⟨g, hg⟩ := hex
      obtain ⟨b, o, rfl, _, _, hrg⟩ := RD.row' wqC_len (HR.out.below hbw) hg hlt
      have HRG := Lib.hid hrg
      have HG := Lib.hid hg
      have C := HS.out g (List.mem_of_getElem? hg) wr hbw
      obtain ⟨x, hx⟩ : ∃ x, p g = x := ⟨_, rfl⟩
      rw [hx] at C
      have HX := Lib.hid hx
      have CC := Lib.hid C
      clear hg hbw hx C hrg
      cases x
      · go_wp2_with (refine lmr (b := b) (q := o + k * 2) (cs := wqC g) (.tmp 14) rfl rfl Tryz.underlying61 rfl info_wt rfl ?_ ?_; (· exact HRG.out))
        refine CC.out.mono ?_; rintro e w2 ⟨rfl, hb2⟩
        have HB2 := Lib.hid (up_trans HB.out hb2)
        have HN := Lib.hid (anyN HG.out HF.out HX.out)
        clear hb2
        go_wp2
        go_roundw
        case rel => exact ⟨k + 1, by omega, by go_num, HN.out, HB2.out⟩
        case measure => simp [intOf]; omega
      · go_wp2_with (refine lmr (b := b) (q := o + k * 2) (cs := wqC g) (.tmp 14) rfl rfl Tryz.underlying61 rfl info_wt rfl ?_ ?_; (· exact HRG.out))
        refine CC.out.mono ?_; rintro e w2 ⟨rfl, hb2⟩
        have HB2 := Lib.hid (up_trans HB.out hb2)
        have HN := Lib.hid (ixF_at HG.out HF.out HX.out)
        clear hb2
        go_wp2
        go_ret
        exact ⟨ret_int HN.out.symm, HB2.out⟩
    · obtain rfl : k = n := by omega
      have HN := Lib.hid (show ixF p L = -1 from ixF_no (by
        have := HF.out
        rwa [List.take_of_length_le (by rw [HL.out]; exact Nat.le_refl _)] at this))
      clear hbw
      go_wp2
      go_ret
      exact ⟨ret_int HN.out.symm, HB.out⟩

set_option maxHeartbeats 2000000 in
theorem c_ixT {p : Tm → Bool} {w : World} {pl : Nat → Prop} {A : Option Addr} {n c : Nat} {L : List Tm} (hR : RD w pl 3 A n (L.flatMap tmV)) (hl : L.length = n) (hn : n ≤ 100000) {c1 : Value} {c2 : Value} {c3 : Value}
    (hS : ∀ x ∈ L, ∀ W, Below w.heap.size w W → Calls Tryz.prog 99 #[.agg (tmV x).toArray, c1, c2, c3] W fun e w' => e = .returned (.bool (p x)) ∧ Below W.heap.size W w') :
    Calls Tryz.prog 126 #[.slice A n c, .func (.func 99) #[] #[c1, c2, c3]] w fun e w' => e = .returned (.int .i64 (ixF p L)) ∧ Below w.heap.size w w' := by
  have HR := Lib.hid hR
  have HL := Lib.hid hl
  have HS := Lib.hid hS
  clear hR hl hS
  go_enter Tryz.func126, Tryz.ntmps126
  go_wp2
  go_loopw [8] (fun i wr => ∃ k : Nat, k ≤ n ∧ i = .int .i64 k ∧ (L.take k).any p = false ∧ Below w.heap.size w wr) (fun i _ => n - (intOf i).toNat)
  case atStart => exact ⟨0, Nat.zero_le _, rfl, rfl, Below.refl _ _⟩
  case round =>
    obtain ⟨k, hk, rfl, hF, hbw⟩ := hrel
    have HF := Lib.hid hF
    have HB := Lib.hid hbw
    clear hF
    by_cases hlt : k < n
    · have hex : ∃ g, L[k]? = some g := ⟨_, List.getElem?_eq_getElem (by rw [HL.out]; exact hlt)⟩
      obtain ⟨g, hg⟩ := hex
      obtain ⟨b, o, rfl, _, _, hrg⟩ := RD.row' tmV_len (HR.out.below hbw) hg hlt
      have HRG := Lib.hid hrg
      have HG := Lib.hid hg
      have C := HS.out g (List.mem_of_getElem? hg) wr hbw
      obtain ⟨x, hx⟩ : ∃ x, p g = x := ⟨_, rfl⟩
      rw [hx] at C
      have HX := Lib.hid hx
      have CC := Lib.hid C
      clear hg hbw hx C hrg
      cases x
      · go_wp2_with (refine lmr (b := b) (q := o + k * 3) (cs := tmV g) (.tmp 14) rfl rfl Tryz.underlying82 rfl info_tm rfl ?_ ?_; (· exact HRG.out))
        refine CC.out.mono ?_; rintro e w2 ⟨rfl, hb2⟩
        have HB2 := Lib.hid (up_trans HB.out hb2)
        have HN := Lib.hid (anyN HG.out HF.out HX.out)
        clear hb2
        go_wp2
        go_roundw
        case rel => exact ⟨k + 1, by omega, by go_num, HN.out, HB2.out⟩
        case measure => simp [intOf]; omega
      · go_wp2_with (refine lmr (b := b) (q := o + k * 3) (cs := tmV g) (.tmp 14) rfl rfl Tryz.underlying82 rfl info_tm rfl ?_ ?_; (· exact HRG.out))
        refine CC.out.mono ?_; rintro e w2 ⟨rfl, hb2⟩
        have HB2 := Lib.hid (up_trans HB.out hb2)
        have HN := Lib.hid (ixF_at HG.out HF.out HX.out)
        clear hb2
        go_wp2
        go_ret
        exact ⟨ret_int HN.out.symm, HB2.out⟩
    · obtain rfl : k = n := by omega
      have HN := Lib.hid (show ixF p L = -1 from ixF_no (by
        have := HF.out
        rwa [List.take_of_length_le (by rw [HL.out]; exact Nat.le_refl _)] at this))
      clear hbw
      go_wp2
      go_ret
      exact ⟨ret_int HN.out.symm, HB.out⟩

set_option maxHeartbeats 1000000 in
theorem c_ctT {p : Tm → Bool} {w : World} {pl : Nat → Prop} {A : Option Addr} {n c : Nat} {L : List Tm} (hR : RD w pl 3 A n (L.flatMap tmV)) (hl : L.length = n) (hn : n ≤ 100000) {c1 c2 c3 : Value}
    (hS : ∀ x ∈ L, ∀ W, Below w.heap.size w W → Calls Tryz.prog 99 #[.agg (tmV x).toArray, c1, c2, c3] W fun e w' => e = .returned (.bool (p x)) ∧ Below W.heap.size W w') :
    Calls Tryz.prog 98 #[.slice A n c, .func (.func 99) #[] #[c1, c2, c3]] w fun e w' => e = .returned (.bool (L.any p)) ∧ Below w.heap.size w w' := by
  have C := Lib.hid (c_ixT (c := c) hR hl hn hS)
  have HG := Lib.hid (ixF_geq p L)
  clear hR hl hS
  go_enter Tryz.func98, Tryz.ntmps98
  go_wp2_with fail
  refine C.out.mono ?_; rintro e w2 ⟨rfl, hb2⟩
  go_wp2
  go_ret
  exact ⟨ret_bool HG.out, hb2⟩

/-- Three boxes. -/
theorem box3 (w : World) (xs ys zs : List Value) (t u v : TypeId) :
    Blk (((w.alloc (.cells xs.toArray t)).alloc (.cells ys.toArray u)).alloc (.cells zs.toArray v)) w.heap.size xs t ∧ Blk (((w.alloc (.cells xs.toArray t)).alloc (.cells ys.toArray u)).alloc (.cells zs.toArray v)) (w.heap.size + 1) ys u ∧ Blk (((w.alloc (.cells xs.toArray t)).alloc (.cells ys.toArray u)).alloc (.cells zs.toArray v)) (w.heap.size + 2) zs v ∧
      Below w.heap.size w (((w.alloc (.cells xs.toArray t)).alloc (.cells ys.toArray u)).alloc (.cells zs.toArray v)) := by
  have h := bl2 w xs t ys u zs v
  have k := Blk.new ((w.alloc (.cells xs.toArray t)).alloc (.cells ys.toArray u)) zs v
  rw [show ((w.alloc (.cells xs.toArray t)).alloc (.cells ys.toArray u)).heap.size = w.heap.size + 2 by simp] at k
  exact ⟨h.ka 0 rfl, h.ka 1 rfl, k, h.up⟩
set_option maxHeartbeats 2000000 in
theorem c_rddue {V : VQ} {w : World} (h : VW w V) (hf : Few V) (ht : ∀ t ∈ V.Tq, t.who ≤ 9223372036854775807) (who no : Int) (hn : 0 ≤ no ∧ no ≤ 5) :
    Calls Tryz.prog 58 #[.agg (vC V).toArray, .int .i64 who, .int .i64 no] w fun e w' => e = .returned (.bool (rdDue V.now V.Tq who no)) ∧ Below w.heap.size w w' := by
  obtain ⟨k0, k1, k2, hU⟩ := box3 w (vC V) [.int .i64 who] [.int .i64 no] 40 3 3
  generalize hw1 : ((w.alloc (.cells (vC V).toArray 40)).alloc (.cells [Value.int .i64 who].toArray 3)).alloc (.cells [Value.int .i64 no].toArray 3) = w1 at k0 k1 k2 hU
  have HW := Lib.hid (show ((w.alloc (.cells (vC V).toArray 40)).alloc (.cells #[.int .i64 who] 3)).alloc (.cells #[.int .i64 no] 3) = w1 from hw1)
  have CC := Lib.hid (c_ctT (w := w1) (c := V.Tc) (p := fun t => (t.who == 8 * who + no) && dueB V.now t.at_) (h.below hU).r.tm rfl (by have := hf.tm; omega)
    (c1 := .pointer (some ⟨w.heap.size + 1, 0, none⟩)) (c2 := .pointer (some ⟨w.heap.size + 2, 0, none⟩)) (c3 := .pointer (some ⟨w.heap.size, 0, none⟩))
    (fun x hx W hW => c_due1 x (w.heap.size + 1) (w.heap.size + 2) w.heap.size who no V W (k1.up hW k1.lt) (k2.up hW k2.lt) (k0.up hW k0.lt) ⟨hf.tw x hx, ht x hx⟩ hn))
  have HU := Lib.hid hU
  have c4 : w1.cell? ⟨w.heap.size, 4, none⟩ = some (.slice V.TA V.Tq.length V.Tc) := k0.cell 4 _ rfl
  clear h hf ht k0 k1 k2 hU hw1
  go_enter Tryz.func58, Tryz.ntmps58
  go_upto_region 1 with fail
  rw [HW.out]
  go_wp2_with fail
  refine CC.out.mono ?_; rintro e w2 ⟨rfl, hb⟩
  have HB := Lib.hid (up_trans HU.out hb)
  clear hb
  go_wp2
  go_ret
  exact ⟨rfl, HB.out⟩

/-- The guards that a process waits for, where they lie. -/
def WsPost (V : VQ) (w : World) (gs : List GD) (e : Ending) (w' : World) : Prop := ∃ A c, e = .returned (.slice A gs.length c) ∧ (∀ W, VR W V → RD W tt 5 A gs.length (gs.flatMap gdC)) ∧ Below w.heap.size w w'
theorem ws_none {V : VQ} {who : Int} (h : (V.Wq.any fun q => q.h == who) = false) : rdWs V.p who = [] := by
  have : (V.Wq.map WQ.p).find? (fun x => x.1 == who) = none := by
    rw [List.find?_eq_none]
    intro x hx
    obtain ⟨q, hq, rfl⟩ := List.mem_map.1 hx
    rw [List.any_eq_false] at h
    exact h q hq
  show (((V.Wq.map WQ.p).find? fun x => x.1 == who).map Prod.snd).getD [] = []
  rw [this]
  rfl
theorem ws_at {V : VQ} {who : Int} (h : (V.Wq.any fun q => q.h == who) = true) : ∃ k q, ixF (fun q : WQ => q.h == who) V.Wq = (k : Nat) ∧ k < V.Wq.length ∧ V.Wq[k]? = some q ∧ rdWs V.p who = q.gs ∧ q ∈ V.Wq ∧ q.h = who := by
  have hlt : V.Wq.findIdx (fun q => q.h == who) < V.Wq.length := List.findIdx_lt_length_of_exists (by
    obtain ⟨x, hx, hp⟩ := List.any_eq_true.1 h
    exact ⟨x, hx, hp⟩)
  have hp := List.findIdx_getElem (w := hlt)
  refine ⟨_, V.Wq[V.Wq.findIdx (fun q => q.h == who)]'hlt, if_pos h, hlt, List.getElem?_eq_getElem hlt, ?_, List.getElem_mem hlt, by simpa using hp⟩
  have key : ∀ (l : List WQ) (hl : l.findIdx (fun q => q.h == who) < l.length), (l.map WQ.p).find? (fun x => x.1 == who) = some (WQ.p (l[l.findIdx (fun q => q.h == who)]'hl)) := by
    intro l
    induction l with
    | nil => intro hl; exact absurd hl (by simp)
    | cons a l ih =>
      intro hl
      cases ha : (a.h == who)
      · have h1 : (a :: l).findIdx (fun q => q.h == who) = l.findIdx (fun q => q.h == who) + 1 := by rw [List.findIdx_cons, ha]; rfl
        have h2 : ((a :: l).map WQ.p).find? (fun x => x.1 == who) = (l.map WQ.p).find? (fun x => x.1 == who) := by
          rw [List.map_cons, List.find?_cons_of_neg]
          show ¬ (a.h == who) = true
          rw [ha]
          decide
        have hl' : l.findIdx (fun q => q.h == who) < l.length := by rw [h1] at hl; simpa using hl
        rw [h2, ih hl']
        simp only [h1, List.getElem_cons_succ]
      · have h1 : (a :: l).findIdx (fun q => q.h == who) = 0 := by rw [List.findIdx_cons, ha]; rfl
        rw [List.map_cons, List.find?_cons_of_pos (by exact ha)]
        simp only [h1, List.getElem_cons_zero]
  show (((V.Wq.map WQ.p).find? fun x => x.1 == who).map Prod.snd).getD [] = _
  rw [key _ hlt]
  rfl
set_option maxHeartbeats 2000000 in
theorem c_wtd {V : VQ} {w : World} (h : VW w V) (hf : Few V) (who : Int) :
    Calls Tryz.prog 20 #[.agg (vC V).toArray, .int .i64 who] w (WsPost V w (rdWs V.p who)) := by
  have h2 := bx2 w (vC V) 40 [.int .i64 who] 3
  generalize hw1 : (w.alloc (.cells (vC V).toArray 40)).alloc (.cells [Value.int .i64 who].toArray 3) = w1 at h2
  have HW := Lib.hid (show (w.alloc (.cells (vC V).toArray 40)).alloc (.cells #[.int .i64 who] 3) = w1 from hw1)
  have k0 := h2.box
  have k1 := h2.res
  have hU := h2.up
  have CC := Lib.hid (c_ixW (w := w1) (c := V.Wc) (p := fun q => q.h == who) (h.below hU).r.wt.rd rfl (by have := hf.wt; omega)
    (c1 := .pointer (some ⟨w.heap.size + 1, 0, none⟩))
    (fun x hx W hW => c_wanted1 x.h x.A x.gs.length x.c (w.heap.size + 1) who 3 W (k1.up hW k1.lt)))
  have HX := Lib.hid h2
  have HV := Lib.hid (fun W (hW : Below w.heap.size w W) => (h.below hW).r.wt)
  have c3 : w1.cell? ⟨w.heap.size, 3, none⟩ = some (.slice V.WA V.Wq.length V.Wc) := k0.cell 3 _ rfl
  cases ha : V.Wq.any fun q => q.h == who
  · have HN := Lib.hid (ws_none ha)
    have HI := Lib.hid (ixF_no ha)
    rw [HN.out]
    rw [HI.out] at CC
    clear h hf k0 k1 hU hw1 h2 ha HN HI
    go_enter Tryz.func20, Tryz.ntmps20
    go_upto_region 1 with fail
    rw [HW.out]
    go_wp2_with fail
    refine CC.out.mono ?_; rintro e w2 ⟨rfl, hb⟩
    have HB := Lib.hid (up_trans HX.out.up hb)
    clear hb
    go_wp2
    go_ret
    exact ⟨none, 0, rfl, fun _ _ => RD.nil _ _ _ _, HB.out⟩
  · obtain ⟨k, q, hi, hk, hq, hg, hm, hh⟩ := ws_at ha
    rw [hg]
    rw [hi] at CC
    have HK := Lib.hid hk
    have HQ := Lib.hid hq
    have HE : Hid (∀ W, VR W V → RD W tt 5 q.A q.gs.length (q.gs.flatMap gdC)) := Lib.hid (fun W hW => hW.wt.each q hm)
    have hk2 : (k : Int) < (V.Wq.length : Int) := by omega
    have hk3 : k ≤ 16 := by have := hf.wt; omega
    clear h hf k0 k1 hU hw1 h2 ha hi hg hm hh hq
    go_enter Tryz.func20, Tryz.ntmps20
    go_upto_region 1 with fail
    rw [HW.out]
    go_wp2_with fail
    refine CC.out.mono ?_; rintro e w2 ⟨rfl, hb⟩
    have hB := up_trans HX.out.up hb
    have hT := HV.out _ hB
    obtain ⟨b, o, q', hA, _, hbl, hq', hrg, hE⟩ := hT.at_ k hk
    obtain rfl : q' = q := by
      have h1 := hq'
      rw [HQ.out] at h1
      exact (Option.some.inj h1).symm
    rw [hA]
    rw [hA] at c3
    have d3 : w2.cell? ⟨w.heap.size, 3, none⟩ = some (.slice (some ⟨b, o, none⟩) V.Wq.length V.Wc) := by
      rw [← hA]
      exact (HX.out.next hb).box.cell 3 _ rfl
    have d1 : w2.cell? ⟨b, o + k * 2 + 1, none⟩ = some (.slice q'.A q'.gs.length q'.c) := hrg 1 _ rfl
    have HB := Lib.hid hB
    clear hb hB hT hA hbl hq' hrg hE c3
    go_wp2
    go_ret
    exact ⟨q'.A, q'.c, rfl, HE.out, HB.out⟩
end Go.Proofs.YtdiiilnebepfdaaGreatDoor

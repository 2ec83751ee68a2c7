/- The law's Small and plain of layer 29. -/
import Derived.Test.YtdiiilnebepfdaaGreatDoorR1
import Derived.Test.YtdiiilnebepfdaaGreatDoorReh
import Derived.Test.YtdiiilnebepfdaaGreatDoorC4
import Derived.BigQuiet
import Derived.Deep.QuietTactic
import Derived.Test.YtdiiilnebepfdaaGreatDoorC5
import Derived.Test.YtdiiilnebepfdaaGreatDoorD6
import Derived.Test.YtdiiilnebepfdaaGreatDoorR6
namespace Go.Proofs.YtdiiilnebepfdaaGreatDoor
open Go.RowKit

/-- A view as it comes in: its barriers' lists hold any numbers. -/
structure VX (w : World) (V : VQ) (Q : List RB) : Prop where
  r : VR w V
  br : TW rB w tt V.BA Q.length Q
  eq : V.Bq = Q.map rbP
  bm : Q.length ≤ maxLen
theorem VX.below {w w' : World} {V : VQ} {Q : List RB} (h : VX w V Q) (hb : Below w.heap.size w w') : VX w' V Q := ⟨h.r.below hb, h.br.below hb, h.eq, h.bm⟩
theorem VX.len {w : World} {V : VQ} {Q : List RB} (h : VX w V Q) : V.Bq.length = Q.length := by rw [h.eq, List.length_map]
theorem tmV_one9 (t : Tm) : ∀ v ∈ tmV t, v.oneCell' = true := by
  intro v hv
  simp only [tmV, List.mem_cons, List.not_mem_nil, or_false] at hv
  rcases hv with rfl | rfl | rfl <;> rfl
def okW (q : WQ) : Prop := q.gs.length ≤ 8 ∧ (0 ≤ q.h ∧ q.h ≤ 15) ∧ ∀ g ∈ q.gs, 0 ≤ g.n ∧ g.n ≤ 5
theorem info_rwt : (Tryz.prog.info? 67).map (·.size) = some 2 := by kernel_rfl
theorem info_rtm : (Tryz.prog.info? 69).map (·.size) = some 3 := by kernel_rfl
theorem all_snoc {α : Type} {P : α → Prop} {l : List α} {k : Nat} {q : α} (hq : l[k]? = some q) (h0 : ∀ x ∈ l.take k, P x) (h1 : P q) : ∀ x ∈ l.take (k + 1), P x := fun x hx => by
  rw [List.take_add_one, hq] at hx
  rcases List.mem_append.1 hx with h | h
  · exact h0 x h
  · obtain rfl : x = q := by simpa using h
    exact h1
/-- What Small answers: if it is true, the view is small. -/
def SmP (V : VQ) (Q : List RB) (w : World) (e : Ending) (w' : World) : Prop := ∃ b, e = .returned (.bool b) ∧ (b = true → Few V ∧ smallT Q = true) ∧ Below w.heap.size w w'
theorem SmP.no {V : VQ} {Q : List RB} {w w' : World} (h : Below w.heap.size w w') : SmP V Q w (.returned (.bool false)) w' := ⟨false, rfl, fun h => (by cases h), h⟩
set_option maxRecDepth 100000 in
set_option maxHeartbeats 4000000 in
theorem c_small29 {V : VQ} {Q : List RB} {w : World} (h : VX w V Q) :
    Calls Tryz.prog 5 #[.agg (vC V).toArray] w (SmP V Q w) := by
  have hX := bx1 w (vC V) 28
  generalize hw1 : w.alloc (.cells (vC V).toArray 28) = w1 at hX
  have HW := Lib.hid hw1
  have HX := Lib.hid hX
  have c1 : w1.cell? ⟨w.heap.size, 1, none⟩ = some (.slice V.CA V.Cq.length V.Cc) := hX.box.cell 1 _ rfl
  have C1 := Lib.hid (fun W (hW : Below w.heap.size w W) => c_ctsmall (h.below hW).r.ch)
  have C2 := Lib.hid (fun W (hW : Below w.heap.size w W) => c_tsmall (c := V.Bc) (h.below hW).br h.bm)
  have HWT := Lib.hid (fun W (hW : Below w.heap.size w W) => (h.below hW).r.wt)
  have HTM := Lib.hid (fun W (hW : Below w.heap.size w W) => (h.below hW).r.tm)
  have HF1 := Lib.hid (fun hs => smallT_few h.r.ch hs)
  have hlen := h.len
  have HF2 : Hid (smallT Q = true → V.Bq.length ≤ 10) := Lib.hid (fun hs => by rw [hlen]; exact (smallT_iff hs).1)
  have HLB := Lib.hid hlen
  rw [← hlen] at C2
  clear h hX hw1 hlen
  obtain ⟨x1, hx1⟩ : ∃ x, ctSmallT V.Cq = x := ⟨_, rfl⟩
  obtain ⟨x2, hx2⟩ : ∃ x, smallT Q = x := ⟨_, rfl⟩
  have HX1 := Lib.hid hx1
  have HX2 := Lib.hid hx2
  rw [hx1] at C1
  rw [hx2] at C2
  clear hx1 hx2
  obtain ⟨gw, hgw⟩ : ∃ b, decide ((V.Wq.length : Int) > 16) = b := ⟨_, rfl⟩
  obtain ⟨gt_, hgt⟩ : ∃ b, decide ((V.Tq.length : Int) > 40) = b := ⟨_, rfl⟩
  obtain ⟨gl, hgl⟩ : ∃ b, decide ((V.Lq.length : Int) > 40) = b := ⟨_, rfl⟩
  cases x1
  · skip
    go_enter Tryz.func5, Tryz.ntmps5
    go_upto_region 1 with fail
    rw [HW.out]
    go_wp2_with fail
    refine (C1.out _ HX.out.up).mono ?_; rintro e w2 ⟨rfl, hb⟩
    have HX2' := Lib.hid (HX.out.next hb)
    clear hb c1
    go_wp2_with fail
    go_ret
    exact SmP.no HX2'.out.up
  cases x2
  · skip
    go_enter Tryz.func5, Tryz.ntmps5
    go_upto_region 1 with fail
    rw [HW.out]
    go_wp2_with fail
    refine (C1.out _ HX.out.up).mono ?_; rintro e w2 ⟨rfl, hb⟩
    have HX2' := Lib.hid (HX.out.next hb)
    clear hb c1
    have c2 : w2.cell? ⟨w.heap.size, 2, none⟩ = some (.slice V.BA V.Bq.length V.Bc) := HX2'.out.box.cell 2 _ rfl
    go_wp2_with fail
    refine (C2.out _ HX2'.out.up).mono ?_; rintro e w3 ⟨rfl, hb⟩
    have HX3 := Lib.hid (HX2'.out.next hb)
    clear hb c2
    have c3 : w3.cell? ⟨w.heap.size, 3, none⟩ = some (.slice V.WA V.Wq.length V.Wc) := HX3.out.box.cell 3 _ rfl
    have c4 : w3.cell? ⟨w.heap.size, 4, none⟩ = some (.slice V.TA V.Tq.length V.Tc) := HX3.out.box.cell 4 _ rfl
    have c5 : w3.cell? ⟨w.heap.size, 5, none⟩ = some (.slice V.LA V.Lq.length V.Lc) := HX3.out.box.cell 5 _ rfl
    go_wp2_with fail
    go_ret
    exact SmP.no HX3.out.up
  cases gw
  case true =>
    go_enter Tryz.func5, Tryz.ntmps5
    go_upto_region 1 with fail
    rw [HW.out]
    go_wp2_with fail
    refine (C1.out _ HX.out.up).mono ?_; rintro e w2 ⟨rfl, hb⟩
    have HX2' := Lib.hid (HX.out.next hb)
    clear hb c1
    have c2 : w2.cell? ⟨w.heap.size, 2, none⟩ = some (.slice V.BA V.Bq.length V.Bc) := HX2'.out.box.cell 2 _ rfl
    go_wp2_with fail
    refine (C2.out _ HX2'.out.up).mono ?_; rintro e w3 ⟨rfl, hb⟩
    have HX3 := Lib.hid (HX2'.out.next hb)
    clear hb c2
    have c3 : w3.cell? ⟨w.heap.size, 3, none⟩ = some (.slice V.WA V.Wq.length V.Wc) := HX3.out.box.cell 3 _ rfl
    have c4 : w3.cell? ⟨w.heap.size, 4, none⟩ = some (.slice V.TA V.Tq.length V.Tc) := HX3.out.box.cell 4 _ rfl
    have c5 : w3.cell? ⟨w.heap.size, 5, none⟩ = some (.slice V.LA V.Lq.length V.Lc) := HX3.out.box.cell 5 _ rfl
    go_wp2_with fail
    go_ret
    exact SmP.no HX3.out.up
  cases gt_
  case true =>
    go_enter Tryz.func5, Tryz.ntmps5
    go_upto_region 1 with fail
    rw [HW.out]
    go_wp2_with fail
    refine (C1.out _ HX.out.up).mono ?_; rintro e w2 ⟨rfl, hb⟩
    have HX2' := Lib.hid (HX.out.next hb)
    clear hb c1
    have c2 : w2.cell? ⟨w.heap.size, 2, none⟩ = some (.slice V.BA V.Bq.length V.Bc) := HX2'.out.box.cell 2 _ rfl
    go_wp2_with fail
    refine (C2.out _ HX2'.out.up).mono ?_; rintro e w3 ⟨rfl, hb⟩
    have HX3 := Lib.hid (HX2'.out.next hb)
    clear hb c2
    have c3 : w3.cell? ⟨w.heap.size, 3, none⟩ = some (.slice V.WA V.Wq.length V.Wc) := HX3.out.box.cell 3 _ rfl
    have c4 : w3.cell? ⟨w.heap.size, 4, none⟩ = some (.slice V.TA V.Tq.length V.Tc) := HX3.out.box.cell 4 _ rfl
    have c5 : w3.cell? ⟨w.heap.size, 5, none⟩ = some (.slice V.LA V.Lq.length V.Lc) := HX3.out.box.cell 5 _ rfl
    go_wp2_with fail
    go_ret
    exact SmP.no HX3.out.up
  cases gl
  case true =>
    go_enter Tryz.func5, Tryz.ntmps5
    go_upto_region 1 with fail
    rw [HW.out]
    go_wp2_with fail
    refine (C1.out _ HX.out.up).mono ?_; rintro e w2 ⟨rfl, hb⟩
    have HX2' := Lib.hid (HX.out.next hb)
    clear hb c1
    have c2 : w2.cell? ⟨w.heap.size, 2, none⟩ = some (.slice V.BA V.Bq.length V.Bc) := HX2'.out.box.cell 2 _ rfl
    go_wp2_with fail
    refine (C2.out _ HX2'.out.up).mono ?_; rintro e w3 ⟨rfl, hb⟩
    have HX3 := Lib.hid (HX2'.out.next hb)
    clear hb c2
    have c3 : w3.cell? ⟨w.heap.size, 3, none⟩ = some (.slice V.WA V.Wq.length V.Wc) := HX3.out.box.cell 3 _ rfl
    have c4 : w3.cell? ⟨w.heap.size, 4, none⟩ = some (.slice V.TA V.Tq.length V.Tc) := HX3.out.box.cell 4 _ rfl
    have c5 : w3.cell? ⟨w.heap.size, 5, none⟩ = some (.slice V.LA V.Lq.length V.Lc) := HX3.out.box.cell 5 _ rfl
    go_wp2_with fail
    go_ret
    exact SmP.no HX3.out.up
  have hl16 : (V.Wq.length : Int) ≤ 16 := by simpa using hgw
  have hl40 : (V.Tq.length : Int) ≤ 40 := by simpa using hgt
  have hll40 : (V.Lq.length : Int) ≤ 40 := by simpa using hgl
  obtain ⟨WA, hWA⟩ : ∃ x, V.WA = x := ⟨_, rfl⟩
  obtain ⟨TA, hTA⟩ : ∃ x, V.TA = x := ⟨_, rfl⟩
  go_enter Tryz.func5, Tryz.ntmps5
  go_upto_region 1 with fail
  rw [HW.out]
  go_wp2_with fail
  refine (C1.out _ HX.out.up).mono ?_; rintro e w2 ⟨rfl, hb⟩
  have HX2' := Lib.hid (HX.out.next hb)
  clear hb c1
  have c2 : w2.cell? ⟨w.heap.size, 2, none⟩ = some (.slice V.BA V.Bq.length V.Bc) := HX2'.out.box.cell 2 _ rfl
  go_wp2_with fail
  refine (C2.out _ HX2'.out.up).mono ?_; rintro e w3 ⟨rfl, hb⟩
  have HX3 := Lib.hid (HX2'.out.next hb)
  clear hb c2
  have c3 : w3.cell? ⟨w.heap.size, 3, none⟩ = some (.slice V.WA V.Wq.length V.Wc) := HX3.out.box.cell 3 _ rfl
  have c4 : w3.cell? ⟨w.heap.size, 4, none⟩ = some (.slice V.TA V.Tq.length V.Tc) := HX3.out.box.cell 4 _ rfl
  have c5 : w3.cell? ⟨w.heap.size, 5, none⟩ = some (.slice V.LA V.Lq.length V.Lc) := HX3.out.box.cell 5 _ rfl
  rw [hWA] at c3 HWT
  rw [hTA] at c4 HTM
  go_wp2_with fail
  clear c3 c4 c5
  have HTA := Lib.hid hTA
  clear hWA hTA
  go_loopw [40] (fun i wr => ∃ k : Nat, k ≤ V.Wq.length ∧ i = .int .i64 k ∧ (∀ q ∈ V.Wq.take k, okW q) ∧ Below w3.heap.size w3 wr) (fun i _ => V.Wq.length - (intOf i).toNat)
  case atStart => exact ⟨0, Nat.zero_le _, rfl, fun q hq => absurd hq (by simp), Below.refl _ _⟩
  case round =>
    rename World => wr0
    obtain ⟨k, hk, rfl, hall, hbr⟩ := hrel
    have HB := Lib.hid hbr
    have HA := Lib.hid hall
    have HU := Lib.hid (up_trans HX3.out.up hbr)
    clear hall
    by_cases hlt : k < V.Wq.length
    · obtain ⟨B, of, q, rfl, _, _, hq, hrg, hE⟩ := (HWT.out _ HU.out).at_ k hlt
      have HRG : Hid (wr0.rangeAt B (of + k * 2) (wqC q)) := Lib.hid hrg
      have HQ := Lib.hid hq
      have hk16 : k ≤ 16 := by omega
      have hbx := Blk.new wr0 (wqC q) 67
      have HUP := Lib.hid (up_alloc wr0 (.cells (wqC q).toArray 67))
      have b0 : (wr0.alloc (.cells (wqC q).toArray 67)).cell? ⟨wr0.heap.size, 0, none⟩ = some (.int .i64 q.h) := hbx.cell 0 _ rfl
      have b1 : (wr0.alloc (.cells (wqC q).toArray 67)).cell? ⟨wr0.heap.size, 1, none⟩ = some (.slice q.A q.gs.length q.c) := hbx.cell 1 _ rfl
      have HE := Lib.hid (show RD wr0 tt 5 q.A q.gs.length (q.gs.flatMap gdC) from hE)
      clear hq hrg hbr hbx hE
      by_cases h8 : 8 < q.gs.length
      · have s0 : decide ((q.gs.length : Int) > 8) = true := decide_eq_true (by omega)
        go_upto_region 6 with (first | (refine lmr (b := B) (q := of + k * 2) (cs := wqC q) (.tmp 42) rfl rfl Tryz.underlying67 rfl info_rwt rfl ?_ ?_; (· exact HRG.out)) | (refine snr (W := wr0) (cs := wqC q) (zs := [.int .i64 0, .slice none 0 0]) (t := 67) (.tmp 4) (.tmp 43) rfl rfl rfl rfl info_rwt rfl wqC_one ?_ ?_ ?_; (· rfl); (· rfl)))
        go_wp2_with fail
        go_ret
        exact SmP.no (up_trans HU.out HUP.out)
      by_cases h0 : q.h < 0
      · have s0 : decide ((q.gs.length : Int) > 8) = false := decide_eq_false (by omega)
        have s1 : decide (q.h < 0) = true := decide_eq_true (by omega)
        go_upto_region 6 with (first | (refine lmr (b := B) (q := of + k * 2) (cs := wqC q) (.tmp 42) rfl rfl Tryz.underlying67 rfl info_rwt rfl ?_ ?_; (· exact HRG.out)) | (refine snr (W := wr0) (cs := wqC q) (zs := [.int .i64 0, .slice none 0 0]) (t := 67) (.tmp 4) (.tmp 43) rfl rfl rfl rfl info_rwt rfl wqC_one ?_ ?_ ?_; (· rfl); (· rfl)))
        go_wp2_with fail
        go_ret
        exact SmP.no (up_trans HU.out HUP.out)
      by_cases h15 : 15 < q.h
      · have s0 : decide ((q.gs.length : Int) > 8) = false := decide_eq_false (by omega)
        have s1 : decide (q.h < 0) = false := decide_eq_false (by omega)
        have s2 : decide (q.h > 15) = true := decide_eq_true (by omega)
        go_upto_region 6 with (first | (refine lmr (b := B) (q := of + k * 2) (cs := wqC q) (.tmp 42) rfl rfl Tryz.underlying67 rfl info_rwt rfl ?_ ?_; (· exact HRG.out)) | (refine snr (W := wr0) (cs := wqC q) (zs := [.int .i64 0, .slice none 0 0]) (t := 67) (.tmp 4) (.tmp 43) rfl rfl rfl rfl info_rwt rfl wqC_one ?_ ?_ ?_; (· rfl); (· rfl)))
        go_wp2_with fail
        go_ret
        exact SmP.no (up_trans HU.out HUP.out)
      have s0 : decide ((q.gs.length : Int) > 8) = false := decide_eq_false (by omega)
      have s1 : decide (q.h < 0) = false := decide_eq_false (by omega)
      have s2 : decide (q.h > 15) = false := decide_eq_false (by omega)
      have hg8 : (q.gs.length : Int) ≤ 8 := by omega
      obtain ⟨gA, hgA⟩ : ∃ x, q.A = x := ⟨_, rfl⟩
      rw [hgA] at b1 HE
      go_upto_region 6 with (first | (refine lmr (b := B) (q := of + k * 2) (cs := wqC q) (.tmp 42) rfl rfl Tryz.underlying67 rfl info_rwt rfl ?_ ?_; (· exact HRG.out)) | (refine snr (W := wr0) (cs := wqC q) (zs := [.int .i64 0, .slice none 0 0]) (t := 67) (.tmp 4) (.tmp 43) rfl rfl rfl rfl info_rwt rfl wqC_one ?_ ?_ ?_; (· rfl); (· rfl)))
      go_wp2_with fail
      clear b0 b1 hgA
      generalize hwv : wr0.alloc (.cells (wqC q).toArray 67) = wv at HUP ⊢
      clear hwv
      go_loopw [61] (fun i wr => ∃ j : Nat, j ≤ q.gs.length ∧ i = .int .i64 j ∧ (∀ g ∈ q.gs.take j, 0 ≤ g.n ∧ g.n ≤ 5) ∧ Below wv.heap.size wv wr) (fun i _ => q.gs.length - (intOf i).toNat)
      case atStart => exact ⟨0, Nat.zero_le _, rfl, fun g hg => absurd hg (by simp), Below.refl _ _⟩
      case round =>
        rename World => wr1
        obtain ⟨j, hj, rfl, hall, hbr⟩ := hrel
        have HB1 := Lib.hid hbr
        have HA1 := Lib.hid hall
        have HU1 := Lib.hid (up_trans HU.out (up_trans HUP.out hbr))
        clear hall
        by_cases hjt : j < q.gs.length
        · have hex : ∃ g, q.gs[j]? = some g := ⟨_, List.getElem?_eq_getElem hjt⟩
          obtain ⟨g, hg⟩ := hex
          obtain ⟨b5, o5, rfl, _, _, hrg⟩ := RD.row' gdC_len (HE.out.below (up_trans HUP.out hbr)) hg hjt
          have HRG1 := Lib.hid hrg
          have HG := Lib.hid hg
          have hj8 : j ≤ 8 := by omega
          have hbx := Blk.new wr1 (gdC g) 63
          have HUP1 := Lib.hid (up_alloc wr1 (.cells (gdC g).toArray 63))
          have b4 : (wr1.alloc (.cells (gdC g).toArray 63)).cell? ⟨wr1.heap.size, 4, none⟩ = some (.int .i64 g.n) := hbx.cell 4 _ rfl
          clear hg hrg hbr hbx
          by_cases n0 : g.n < 0
          · have u0 : decide (g.n < 0) = true := decide_eq_true (by omega)
            go_upto_region 11 with (first | (refine lmr (b := b5) (q := o5 + j * 5) (cs := gdC g) (.tmp 63) rfl rfl Tryz.underlying63 rfl info_gd5 rfl ?_ ?_; (· exact HRG1.out)) | (refine snr (W := wr1) (cs := gdC g) (zs := gdC ⟨0, 0, 0, 0, 0⟩) (t := 63) (.tmp 6) (.tmp 64) rfl rfl rfl rfl info_gd5 rfl (gdC_one _) ?_ ?_ ?_; (· rfl); (· rfl)))
            go_wp2_with fail
            go_ret
            exact SmP.no (up_trans HU1.out HUP1.out)
          by_cases n5 : 5 < g.n
          · have u0 : decide (g.n < 0) = false := decide_eq_false (by omega)
            have u1 : decide (g.n > 5) = true := decide_eq_true (by omega)
            go_upto_region 11 with (first | (refine lmr (b := b5) (q := o5 + j * 5) (cs := gdC g) (.tmp 63) rfl rfl Tryz.underlying63 rfl info_gd5 rfl ?_ ?_; (· exact HRG1.out)) | (refine snr (W := wr1) (cs := gdC g) (zs := gdC ⟨0, 0, 0, 0, 0⟩) (t := 63) (.tmp 6) (.tmp 64) rfl rfl rfl rfl info_gd5 rfl (gdC_one _) ?_ ?_ ?_; (· rfl); (· rfl)))
            go_wp2_with fail
            go_ret
            exact SmP.no (up_trans HU1.out HUP1.out)
          have u0 : decide (g.n < 0) = false := decide_eq_false (by omega)
          have u1 : decide (g.n > 5) = false := decide_eq_false (by omega)
          have HNX := Lib.hid (all_snoc (P := fun g : GD => 0 ≤ g.n ∧ g.n ≤ 5) HG.out HA1.out ⟨by omega, by omega⟩)
          go_upto_region 11 with (first | (refine lmr (b := b5) (q := o5 + j * 5) (cs := gdC g) (.tmp 63) rfl rfl Tryz.underlying63 rfl info_gd5 rfl ?_ ?_; (· exact HRG1.out)) | (refine snr (W := wr1) (cs := gdC g) (zs := gdC ⟨0, 0, 0, 0, 0⟩) (t := 63) (.tmp 6) (.tmp 64) rfl rfl rfl rfl info_gd5 rfl (gdC_one _) ?_ ?_ ?_; (· rfl); (· rfl)))
          go_wp2_with fail
          go_roundw
          case rel => exact ⟨j + 1, by omega, by go_num, HNX.out, up_trans HB1.out HUP1.out⟩
          case measure => simp [intOf]; omega
        · obtain rfl : j = q.gs.length := by omega
          have HNX := Lib.hid (all_snoc (P := okW) HQ.out HA.out ⟨by omega, ⟨by omega, by omega⟩, by
            have h9 := HA1.out
            rwa [List.take_of_length_le (Nat.le_refl _)] at h9⟩)
          have HB9 := Lib.hid (up_trans HB.out (up_trans HUP.out hbr))
          clear hbr
          go_wp2_with fail
          go_roundw
          case rel => exact ⟨k + 1, by omega, by go_num, HNX.out, HB9.out⟩
          case measure => simp [intOf]; omega
    · obtain rfl : k = V.Wq.length := by omega
      have c4 : wr0.cell? ⟨w.heap.size, 4, none⟩ = some (.slice TA V.Tq.length V.Tc) := by
        rw [← HTA.out]
        exact (HX3.out.next hbr).box.cell 4 _ rfl
      clear hbr
      go_wp2_with fail
      go_loopw [78] (fun i wr => ∃ k : Nat, k ≤ V.Tq.length ∧ i = .int .i64 k ∧ (∀ t ∈ V.Tq.take k, 0 ≤ t.who) ∧ Below wr0.heap.size wr0 wr) (fun i _ => V.Tq.length - (intOf i).toNat)
      case atStart => exact ⟨0, Nat.zero_le _, rfl, fun q hq => absurd hq (by simp), Below.refl _ _⟩
      case round =>
        rename World => wr1
        obtain ⟨j, hj, rfl, hall, hbr⟩ := hrel
        have HB1 := Lib.hid hbr
        have HA1 := Lib.hid hall
        have HU1 := Lib.hid (up_trans HU.out hbr)
        clear hall
        by_cases hjt : j < V.Tq.length
        · have hex : ∃ t, V.Tq[j]? = some t := ⟨_, List.getElem?_eq_getElem hjt⟩
          obtain ⟨t, ht⟩ := hex
          obtain ⟨b5, o5, rfl, _, _, hrg⟩ := RD.row' tmV_len (HTM.out _ HU1.out) ht hjt
          have HRG1 := Lib.hid hrg
          have HG := Lib.hid ht
          have hj40 : j ≤ 40 := by omega
          have hbx := Blk.new wr1 (tmV t) 69
          have HUP1 := Lib.hid (up_alloc wr1 (.cells (tmV t).toArray 69))
          have b2 : (wr1.alloc (.cells (tmV t).toArray 69)).cell? ⟨wr1.heap.size, 2, none⟩ = some (.int .i64 t.who) := hbx.cell 2 _ rfl
          clear ht hrg hbr hbx c4
          by_cases n0 : t.who < 0
          · have u0 : decide (t.who < 0) = true := decide_eq_true n0
            go_upto_region 18 with (first | (refine lmr (b := b5) (q := o5 + j * 3) (cs := tmV t) (.tmp 80) rfl rfl Tryz.underlying69 rfl info_rtm rfl ?_ ?_; (· exact HRG1.out)) | (refine snr (W := wr1) (cs := tmV t) (zs := tmV ⟨0, 0, 0⟩) (t := 69) (.tmp 8) (.tmp 81) rfl rfl rfl rfl info_rtm rfl (tmV_one9 _) ?_ ?_ ?_; (· rfl); (· rfl)))
            go_wp2_with fail
            go_ret
            exact SmP.no (up_trans HU1.out HUP1.out)
          have u0 : decide (t.who < 0) = false := decide_eq_false n0
          have HNX := Lib.hid (all_snoc (P := fun t : Tm => 0 ≤ t.who) HG.out HA1.out (by omega))
          go_upto_region 18 with (first | (refine lmr (b := b5) (q := o5 + j * 3) (cs := tmV t) (.tmp 80) rfl rfl Tryz.underlying69 rfl info_rtm rfl ?_ ?_; (· exact HRG1.out)) | (refine snr (W := wr1) (cs := tmV t) (zs := tmV ⟨0, 0, 0⟩) (t := 69) (.tmp 8) (.tmp 81) rfl rfl rfl rfl info_rtm rfl (tmV_one9 _) ?_ ?_ ?_; (· rfl); (· rfl)))
          go_wp2_with fail
          go_roundw
          case rel => exact ⟨j + 1, by omega, by go_num, HNX.out, up_trans HB1.out HUP1.out⟩
          case measure => simp [intOf]; omega
        · obtain rfl : j = V.Tq.length := by omega
          have HFW : Hid (Few V ∧ smallT Q = true) := Lib.hid ⟨⟨(HF1.out HX1.out).1, (HF1.out HX1.out).2, HF2.out HX2.out, by omega, by
            have h9 := HA.out
            rwa [List.take_of_length_le (Nat.le_refl _)] at h9, by omega, by
            have h9 := HA1.out
            rwa [List.take_of_length_le (Nat.le_refl _)] at h9, by omega⟩, HX2.out⟩
          clear hbr c4
          go_wp2_with fail
          go_ret
          exact ⟨true, rfl, fun _ => HFW.out, HU1.out⟩
end Go.Proofs.YtdiiilnebepfdaaGreatDoor

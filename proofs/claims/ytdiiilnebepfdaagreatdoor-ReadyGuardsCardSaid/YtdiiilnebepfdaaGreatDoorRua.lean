/- The document's hit, move and due of layer 29. -/
import Derived.Test.YtdiiilnebepfdaaGreatDoorReh
import Derived.Test.YtdiiilnebepfdaaGreatDoorC4
import Derived.BigQuiet
import Derived.Deep.QuietTactic
namespace Go.Proofs.YtdiiilnebepfdaaGreatDoor
open Go.RowKit

theorem info_vd : (Tryz.prog.info? 28).map (·.size) = some 6 := by kernel_rfl
/-- A guard is at an end that is hit. -/
def rdHitV (Cs : List CP) (g : GD) : Bool := (g.k == 1 || g.k == 2) && ((getI Cs g.o).map fun C => rdHitC C g.k).getD false
theorem rdHitV_off {Cs : List CP} {g : GD} (h : g.k ≠ 1 ∧ g.k ≠ 2) : rdHitV Cs g = false := by
  unfold rdHitV
  rw [beq_eq_false_iff_ne.2 h.1, beq_eq_false_iff_ne.2 h.2]
  rfl
theorem rdHitV_none {Cs : List CP} {g : GD} (h : getI Cs g.o = none) : rdHitV Cs g = false := by unfold rdHitV; rw [h]; simp
theorem rdHitV_some {Cs : List CP} {g : GD} {C : CP} (hk : g.k = 1 ∨ g.k = 2) (h : getI Cs g.o = some C) : rdHitV Cs g = rdHitC C g.k := by
  unfold rdHitV
  rw [h]
  rcases hk with hk | hk <;> simp [hk]

set_option maxRecDepth 100000 in
set_option maxHeartbeats 1000000 in
theorem c_uhit0 {V : VQ} {w : World} (hf : Few V) (k o v r n : Int) (hk : k ≠ 1 ∧ k ≠ 2) :
    Calls Tryz.prog 64 #[.agg (vC V).toArray, .agg (gdC ⟨k, o, v, r, n⟩).toArray] w fun e w' => e = .returned (.bool (rdHitV V.p.Cs ⟨k, o, v, r, n⟩)) ∧ Below w.heap.size w w' := by
  have h2 := bx2 w (vC V) 28 (gdC ⟨k, o, v, r, n⟩) 63
  generalize hw1 : (w.alloc (.cells (vC V).toArray 28)).alloc (.cells (gdC ⟨k, o, v, r, n⟩).toArray 63) = w1 at h2
  have HW := Lib.hid hw1
  have HX := Lib.hid h2
  have d0 : w1.cell? ⟨w.heap.size + 1, 0, none⟩ = some (.int .i64 k) := h2.res.cell 0 _ rfl
  have d1 : w1.cell? ⟨w.heap.size + 1, 1, none⟩ = some (.int .i64 o) := h2.res.cell 1 _ rfl
  have c1 : w1.cell? ⟨w.heap.size, 1, none⟩ = some (.slice V.CA V.Cq.length V.Cc) := h2.box.cell 1 _ rfl
  have hl10 : (V.Cq.length : Int) ≤ 10 := by have := hf.ch; omega
  have hlen : V.p.Cs.length = V.Cq.length := List.length_map _
  rw [rdHitV_off (g := ⟨k, o, v, r, n⟩) hk]
  have t1 : (k != 1) = true := by simp [bne, hk.1]
  have t2 : (k != 2) = true := by simp [bne, hk.2]
  clear hw1 h2 hk hlen hf
  go_enter Tryz.func64, Tryz.ntmps64
  go_upto_region 1 with fail
  rw [HW.out]
  go_wp2_with fail
  go_ret
  exact ⟨rfl, HX.out.up⟩

set_option maxRecDepth 100000 in
set_option maxHeartbeats 1000000 in
theorem c_uhit1 {V : VQ} {w : World} (h : VD w V) (hf : Few V) (o v r n : Int) :
    Calls Tryz.prog 64 #[.agg (vC V).toArray, .agg (gdC ⟨1, o, v, r, n⟩).toArray] w fun e w' => e = .returned (.bool (rdHitV V.p.Cs ⟨1, o, v, r, n⟩)) ∧ Below w.heap.size w w' := by
  have h2 := bx2 w (vC V) 28 (gdC ⟨1, o, v, r, n⟩) 63
  generalize hw1 : (w.alloc (.cells (vC V).toArray 28)).alloc (.cells (gdC ⟨1, o, v, r, n⟩).toArray 63) = w1 at h2
  have HW := Lib.hid hw1
  have HX := Lib.hid h2
  have d0 : w1.cell? ⟨w.heap.size + 1, 0, none⟩ = some (.int .i64 1) := h2.res.cell 0 _ rfl
  have d1 : w1.cell? ⟨w.heap.size + 1, 1, none⟩ = some (.int .i64 o) := h2.res.cell 1 _ rfl
  have c1 : w1.cell? ⟨w.heap.size, 1, none⟩ = some (.slice V.CA V.Cq.length V.Cc) := h2.box.cell 1 _ rfl
  have hl10 : (V.Cq.length : Int) ≤ 10 := by have := hf.ch; omega
  have hlen : V.p.Cs.length = V.Cq.length := List.length_map _
  rcases getI_cases V.p.Cs o with ho | ⟨ho, ho2⟩ | ⟨k, C0, rfl, hk, hC⟩
  · rw [rdHitV_none (g := ⟨1, o, v, r, n⟩) (getI_neg (L := V.p.Cs) ho)]
    have g0 : decide (o < 0) = true := decide_eq_true (by omega)
    clear h hf h2 hw1 hlen ho
    go_enter Tryz.func64, Tryz.ntmps64
    go_upto_region 1 with fail
    rw [HW.out]
    go_wp2_with fail
    go_ret
    exact ⟨rfl, HX.out.up⟩
  · rw [rdHitV_none (g := ⟨1, o, v, r, n⟩) (getI_over (L := V.p.Cs) ho2)]
    have g0 : decide (o < 0) = false := decide_eq_false (by omega)
    have g1 : decide (o ≥ (V.Cq.length : Int)) = true := decide_eq_true (by omega)
    clear h hf h2 hw1 hlen ho ho2
    go_enter Tryz.func64, Tryz.ntmps64
    go_upto_region 1 with fail
    rw [HW.out]
    go_wp2_with fail
    go_ret
    exact ⟨rfl, HX.out.up⟩
  · rw [rdHitV_some (g := ⟨1, (k : Int), v, r, n⟩) (.inl rfl) (by rw [getI_at]; exact hC)]
    have hk' : k < V.Cq.length := by omega
    have g0 : decide ((k : Int) < 0) = false := decide_eq_false (by omega)
    have g1 : decide ((k : Int) ≥ (V.Cq.length : Int)) = false := decide_eq_false (by omega)
    have hk3 : k ≤ 10 := by omega
    obtain ⟨B, of, ⟨C, M⟩, hA, _, hBl, hq, hrg, hch⟩ := (h.below h2.up).r.ch.at_ k hk'
    obtain rfl : C = C0 := by
      have h1 : V.p.Cs[k]? = some C := by
        show (V.Cq.map Prod.fst)[k]? = _
        rw [List.getElem?_map, hq]
        rfl
      rw [hC] at h1
      exact (Option.some.inj h1).symm
    rw [hA] at c1
    have HRG : Hid (w1.rangeAt B (of + k * 11) (chC C M)) := Lib.hid hrg
    have CH := Lib.hid (fun W => c_rin W C M)
    clear h hf h2 hw1 hlen hC hA hBl hq hrg hch hk
    go_enter Tryz.func64, Tryz.ntmps64
    go_upto_region 1 with fail
    rw [HW.out]
    go_wp2_with (refine lmr (b := B) (q := of + k * 11) (cs := chC C M) (.tmp 33) rfl rfl Tryz.underlying107 rfl info_rch rfl ?_ ?_; (· exact HRG.out))
    refine (CH.out _).mono ?_; rintro e w2 ⟨rfl, hb⟩
    have HU := Lib.hid (up_trans HX.out.up hb)
    clear hb
    go_wp2_with fail
    go_ret
    exact ⟨rfl, HU.out⟩

set_option maxRecDepth 100000 in
set_option maxHeartbeats 1000000 in
theorem c_uhit2 {V : VQ} {w : World} (h : VD w V) (hf : Few V) (o v r n : Int) :
    Calls Tryz.prog 64 #[.agg (vC V).toArray, .agg (gdC ⟨2, o, v, r, n⟩).toArray] w fun e w' => e = .returned (.bool (rdHitV V.p.Cs ⟨2, o, v, r, n⟩)) ∧ Below w.heap.size w w' := by
  have h2 := bx2 w (vC V) 28 (gdC ⟨2, o, v, r, n⟩) 63
  generalize hw1 : (w.alloc (.cells (vC V).toArray 28)).alloc (.cells (gdC ⟨2, o, v, r, n⟩).toArray 63) = w1 at h2
  have HW := Lib.hid hw1
  have HX := Lib.hid h2
  have d0 : w1.cell? ⟨w.heap.size + 1, 0, none⟩ = some (.int .i64 2) := h2.res.cell 0 _ rfl
  have d1 : w1.cell? ⟨w.heap.size + 1, 1, none⟩ = some (.int .i64 o) := h2.res.cell 1 _ rfl
  have c1 : w1.cell? ⟨w.heap.size, 1, none⟩ = some (.slice V.CA V.Cq.length V.Cc) := h2.box.cell 1 _ rfl
  have hl10 : (V.Cq.length : Int) ≤ 10 := by have := hf.ch; omega
  have hlen : V.p.Cs.length = V.Cq.length := List.length_map _
  rcases getI_cases V.p.Cs o with ho | ⟨ho, ho2⟩ | ⟨k, C0, rfl, hk, hC⟩
  · rw [rdHitV_none (g := ⟨2, o, v, r, n⟩) (getI_neg (L := V.p.Cs) ho)]
    have g0 : decide (o < 0) = true := decide_eq_true (by omega)
    clear h hf h2 hw1 hlen ho
    go_enter Tryz.func64, Tryz.ntmps64
    go_upto_region 1 with fail
    rw [HW.out]
    go_wp2_with fail
    go_ret
    exact ⟨rfl, HX.out.up⟩
  · rw [rdHitV_none (g := ⟨2, o, v, r, n⟩) (getI_over (L := V.p.Cs) ho2)]
    have g0 : decide (o < 0) = false := decide_eq_false (by omega)
    have g1 : decide (o ≥ (V.Cq.length : Int)) = true := decide_eq_true (by omega)
    clear h hf h2 hw1 hlen ho ho2
    go_enter Tryz.func64, Tryz.ntmps64
    go_upto_region 1 with fail
    rw [HW.out]
    go_wp2_with fail
    go_ret
    exact ⟨rfl, HX.out.up⟩
  · rw [rdHitV_some (g := ⟨2, (k : Int), v, r, n⟩) (.inr rfl) (by rw [getI_at]; exact hC)]
    have hk' : k < V.Cq.length := by omega
    have g0 : decide ((k : Int) < 0) = false := decide_eq_false (by omega)
    have g1 : decide ((k : Int) ≥ (V.Cq.length : Int)) = false := decide_eq_false (by omega)
    have hk3 : k ≤ 10 := by omega
    obtain ⟨B, of, ⟨C, M⟩, hA, _, hBl, hq, hrg, hch⟩ := (h.below h2.up).r.ch.at_ k hk'
    obtain rfl : C = C0 := by
      have h1 : V.p.Cs[k]? = some C := by
        show (V.Cq.map Prod.fst)[k]? = _
        rw [List.getElem?_map, hq]
        rfl
      rw [hC] at h1
      exact (Option.some.inj h1).symm
    rw [hA] at c1
    have HRG : Hid (w1.rangeAt B (of + k * 11) (chC C M)) := Lib.hid hrg
    have CH := Lib.hid (fun W => c_rout W C M)
    clear h hf h2 hw1 hlen hC hA hBl hq hrg hch hk
    go_enter Tryz.func64, Tryz.ntmps64
    go_upto_region 1 with fail
    rw [HW.out]
    go_wp2_with (refine lmr (b := B) (q := of + k * 11) (cs := chC C M) (.tmp 40) rfl rfl Tryz.underlying107 rfl info_rch rfl ?_ ?_; (· exact HRG.out))
    refine (CH.out _).mono ?_; rintro e w2 ⟨rfl, hb⟩
    have HU := Lib.hid (up_trans HX.out.up hb)
    clear hb
    go_wp2_with fail
    go_ret
    exact ⟨rfl, HU.out⟩

theorem c_uhit {V : VQ} {w : World} (h : VD w V) (hf : Few V) (g : GD) :
    Calls Tryz.prog 64 #[.agg (vC V).toArray, .agg (gdC g).toArray] w fun e w' => e = .returned (.bool (rdHitV V.p.Cs g)) ∧ Below w.heap.size w w' := by
  obtain ⟨k, o, v, r, n⟩ := g
  by_cases h1 : k = 1
  · subst h1; exact c_uhit1 h hf o v r n
  by_cases h2 : k = 2
  · subst h2; exact c_uhit2 h hf o v r n
  exact c_uhit0 hf k o v r n ⟨h1, h2⟩

/-- The move by which a guard goes on; 0: none. -/
def rdMvC (C : CP) (who k : Int) : Int := if (rdLine C k).head? = some who then (rdFst C k).getD 0 else 0
def rdMvN (Cs : List CP) (who : Int) (g : GD) : Int := ((getI Cs g.o).map fun C => rdMvC C who g.k).getD 0
theorem gets_pos {C : CP} {m : Int} (h : m ∈ chWhat C) (hm : m ≠ 2) : ∃ x l, C.G = x :: l := by
  obtain ⟨_, h1⟩ := mem_what.1 h
  have h2 : chGets C = true := by
    rcases chMay_is h1 with rfl | rfl | rfl
    · unfold chMay at h1
      rw [if_pos rfl, Bool.and_eq_true, Bool.and_eq_true] at h1
      exact h1.2.2
    · exact absurd rfl hm
    · unfold chMay at h1
      rw [if_neg (by decide), if_neg (by decide), if_pos rfl, Bool.and_eq_true] at h1
      exact h1.2
  unfold chGets at h2
  rw [Bool.and_eq_true, decide_eq_true_iff] at h2
  cases hG : C.G with
  | nil => rw [hG] at h2; exact absurd h2.1 (by simp)
  | cons x l => exact ⟨x, l, rfl⟩
theorem sends_pos {C : CP} {m : Int} (h : m ∈ chWhat C) (hm : m ≠ 3) : ∃ x l, C.W = x :: l := by
  obtain ⟨_, h1⟩ := mem_what.1 h
  have h2 : chSends C = true := by
    rcases chMay_is h1 with rfl | rfl | rfl
    · unfold chMay at h1
      rw [if_pos rfl, Bool.and_eq_true, Bool.and_eq_true] at h1
      exact h1.2.1
    · unfold chMay at h1
      rw [if_neg (by decide), if_pos rfl, Bool.and_eq_true] at h1
      exact h1.2
    · exact absurd rfl hm
  unfold chSends at h2
  rw [Bool.and_eq_true, decide_eq_true_iff] at h2
  cases hG : C.W with
  | nil => rw [hG] at h2; exact absurd h2.1 (by simp)
  | cons x l => exact ⟨x, l, rfl⟩

set_option maxRecDepth 100000 in
set_option maxHeartbeats 4000000 in
theorem c_umove1 {V : VQ} {w : World} (h : VD w V) (hf : Few V) (who o v r n : Int) :
    Calls Tryz.prog 65 #[.agg (vC V).toArray, .int .i64 who, .agg (gdC ⟨1, o, v, r, n⟩).toArray] w fun e w' => e = .returned (.int .i64 (rdMvN V.p.Cs who ⟨1, o, v, r, n⟩)) ∧ Below w.heap.size w w' := by
  have h2 := bx2 w (vC V) 28 (gdC ⟨1, o, v, r, n⟩) 63
  generalize hw1 : (w.alloc (.cells (vC V).toArray 28)).alloc (.cells (gdC ⟨1, o, v, r, n⟩).toArray 63) = w1 at h2
  have HW := Lib.hid hw1
  have HX := Lib.hid h2
  have d0 : w1.cell? ⟨w.heap.size + 1, 0, none⟩ = some (.int .i64 1) := h2.res.cell 0 _ rfl
  have d1 : w1.cell? ⟨w.heap.size + 1, 1, none⟩ = some (.int .i64 o) := h2.res.cell 1 _ rfl
  have c1 : w1.cell? ⟨w.heap.size, 1, none⟩ = some (.slice V.CA V.Cq.length V.Cc) := h2.box.cell 1 _ rfl
  have hl10 : (V.Cq.length : Int) ≤ 10 := by have := hf.ch; omega
  have hlen : V.p.Cs.length = V.Cq.length := List.length_map _
  rcases getI_cases V.p.Cs o with ho | ⟨ho, ho2⟩ | ⟨k, C0, rfl, hk, hC⟩
  · have hE : rdMvN V.p.Cs who ⟨1, o, v, r, n⟩ = 0 := by unfold rdMvN; rw [getI_neg (L := V.p.Cs) ho]; rfl
    rw [hE]
    have g0 : decide (o < 0) = true := decide_eq_true (by omega)
    clear h hf h2 hw1 hlen hE ho
    go_enter Tryz.func65, Tryz.ntmps65
    go_upto_region 1 with fail
    rw [HW.out]
    go_wp2_with fail
    go_ret
    exact ⟨rfl, HX.out.up⟩
  · have hE : rdMvN V.p.Cs who ⟨1, o, v, r, n⟩ = 0 := by unfold rdMvN; rw [getI_over (L := V.p.Cs) ho2]; rfl
    rw [hE]
    have g0 : decide (o < 0) = false := decide_eq_false (by omega)
    have g1 : decide (o ≥ (V.Cq.length : Int)) = true := decide_eq_true (by omega)
    clear h hf h2 hw1 hlen hE ho ho2
    go_enter Tryz.func65, Tryz.ntmps65
    go_upto_region 1 with fail
    rw [HW.out]
    go_wp2_with fail
    go_ret
    exact ⟨rfl, HX.out.up⟩
  · have hE : rdMvN V.p.Cs who ⟨1, (k : Int), v, r, n⟩ = rdMvC C0 who 1 := by unfold rdMvN; rw [getI_at, hC]; rfl
    rw [hE]
    have hk' : k < V.Cq.length := by omega
    have g0 : decide ((k : Int) < 0) = false := decide_eq_false (by omega)
    have g1 : decide ((k : Int) ≥ (V.Cq.length : Int)) = false := decide_eq_false (by omega)
    have hk3 : k ≤ 10 := by omega
    obtain ⟨B, of, ⟨C, M⟩, hA, _, hBl, hq, hrg, hch⟩ := (h.below h2.up).r.ch.at_ k hk'
    obtain rfl : C = C0 := by
      have h1 : V.p.Cs[k]? = some C := by
        show (V.Cq.map Prod.fst)[k]? = _
        rw [List.getElem?_map, hq]
        rfl
      rw [hC] at h1
      exact (Option.some.inj h1).symm
    rw [hA] at c1
    have hn : ChFew M := ((hf.cl _ (List.mem_of_getElem? hq)).few (by omega) hch)
    have HRG : Hid (w1.rangeAt B (of + k * 11) (chC C M)) := Lib.hid hrg
    have CT := Lib.hid (fun W (hW : Below w1.heap.size w1 W) => c_rcwhat (hch.below hW) hn)
    have HLN := Lib.hid hch.g
    have HP := Lib.hid (fun m (hm : m ∈ chWhat C) (h2 : m ≠ 2) => gets_pos hm h2)
    have HWI := Lib.hid (fun m (hm : m ∈ chWhat C) => what_in hm)
    have HWL := Lib.hid (chWhat_len C)
    have HM : Hid (rdMvC C who 1 = if (C.G).head? = some who then ((chWhat C).find? (fun m => decide (m ∈ [1, 3]))).getD 0 else 0) := Lib.hid rfl
    obtain ⟨R, hR⟩ : ∃ R, rdMvC C who 1 = R := ⟨_, rfl⟩
    rw [hR] at HM ⊢
    generalize hla : (C.G) = la at HLN HP HM
    generalize chWhat C = l at CT HP HWI HWL HM
    have hMn : (M.G.n : Int) ≤ 1000 := by have := hn.g; omega
    have hK1 := (HX.out.next (up_alloc w1 (.cells (chC C M).toArray 107)))
    have HBC := Lib.hid (Blk.new w1 (chC C M) 107)
    have HK1 := Lib.hid hK1
    have HU1 := Lib.hid (up_alloc w1 (.cells (chC C M).toArray 107))
    clear h hf h2 hw1 hlen hC hA hBl hq hrg hch hk hE hR hn hK1 hla
    go_enter Tryz.func65, Tryz.ntmps65
    go_upto_region 1 with fail
    rw [HW.out]
    go_wp2_with (first | (refine lmr (b := B) (q := of + k * 11) (cs := chC C M) (.tmp 25) rfl rfl Tryz.underlying107 rfl info_rch rfl ?_ ?_; (· exact HRG.out)) | (refine snr (W := w1) (cs := chC C M) (zs := chZ) (t := 107) (.tmp 7) (.tmp 26) rfl rfl rfl rfl info_rch rfl chC_one ?_ ?_ ?_; (· rfl); (· rfl)) | (refine ldr (b := w1.heap.size) (t := 107) (cs := chC C M) (.tmp 7) rfl rfl Tryz.underlying107 rfl info_rch rfl ?_ ?_; (· exact HBC.out)))
    refine (CT.out _ HU1.out).mono ?_; rintro e w2 ⟨A5, c5, rfl, -, -, hr5, hb5⟩
    have HX2 := Lib.hid (HK1.out.next hb5)
    have HBC2 := Lib.hid (HBC.out.up hb5 HBC.out.lt)
    have HLN2 := Lib.hid (HLN.out.below (up_trans HU1.out hb5))
    have HR5 := Lib.hid hr5
    generalize hbc : w1.heap.size = bc at HBC2
    clear hr5 hb5 CT hbc d0 d1 c1
    have hl3 : l.length ≤ 3 := HWL.out
    go_wp2_with fail
    go_loopw [9] (fun i wr => ∃ j : Nat, j ≤ l.length ∧ i = .int .i64 j ∧ (la.head? = some who → (l.take j).any (fun m => decide (m ∈ [1, 3])) = false) ∧ Below w2.heap.size w2 wr) (fun i _ => l.length - (intOf i).toNat)
    case atStart => exact ⟨0, Nat.zero_le _, rfl, fun _ => rfl, Below.refl _ _⟩
    case round =>
      obtain ⟨j, hj, rfl, hany, hbr⟩ := hrel
      have HB := Lib.hid hbr
      have HA := Lib.hid hany
      have e0 : wr.cell? ⟨w.heap.size + 1, 0, none⟩ = some (.int .i64 1) := (HX2.out.next hbr).res.cell 0 _ rfl
      by_cases hlt : j < l.length
      · have hex : ∃ m, l[j]? = some m := ⟨_, List.getElem?_eq_getElem hlt⟩
        obtain ⟨m, hm⟩ := hex
        have hmem := List.mem_of_getElem? hm
        obtain ⟨b5, o5, rfl, _, _, hc5⟩ := (HR5.out.below hbr).at_ (by omega)
        have h5 := hc5 j (.int .i64 m) (by rw [List.getElem?_map, hm]; rfl)
        have g7 : wr.cell? ⟨bc, 10, none⟩ = some (.slice M.G.A M.G.n M.G.c) := (HBC2.out.up hbr HBC2.out.lt).cell 10 _ rfl
        by_cases hm2 : m = 2
        · subst hm2
          have HNX : Hid (la.head? = some who → (l.take (j + 1)).any (fun m => decide (m ∈ [1, 3])) = false) := Lib.hid (fun hh => anyN hm (HA.out hh) (by decide))
          clear hany hbr hc5 hm hmem g7
          go_wp2_with fail
          go_roundw
          case rel => exact ⟨j + 1, by omega, by go_num, HNX.out, HB.out⟩
          case measure => simp [intOf]; omega
        · obtain ⟨x, l', rfl⟩ := HP.out m hmem hm2
          have hLN := HLN2.out.below hbr
          have hn1 : 0 < M.G.n := by have := hLN.len; simp at this; omega
          obtain ⟨b6, o6, hA6, _, _, hc6⟩ := hLN.rd.at_ hn1
          have h6 : wr.cell? ⟨b6, o6, none⟩ = some (.int .i64 x) := by simpa using hc6 0 (.int .i64 x) rfl
          rw [hA6] at g7
          have hn2 : (0 : Int) < (M.G.n : Int) := by omega
          have hin : decide (m ∈ ([1, 3] : List Int)) = true := by
            rcases HWI.out m hmem with rfl | rfl | rfl
            · rfl
            · first | rfl | exact absurd rfl hm2
            · first | rfl | exact absurd rfl hm2
          have t1 : (m != 2) = true := by simp [bne, hm2]
          cases hx : (x == who)
          · have HNX : Hid (((x :: l').head? = some who) → (l.take (j + 1)).any (fun m => decide (m ∈ [1, 3])) = false) := Lib.hid (fun hh => by
              have : x = who := by simpa using hh
              rw [this] at hx
              simp at hx)
            clear hany hbr hc5 hm hmem hLN hA6 hc6 hin
            go_wp2_with fail
            go_roundw
            case rel => exact ⟨j + 1, by omega, by go_num, HNX.out, HB.out⟩
            case measure => simp [intOf]; omega
          · have hxw : x = who := by simpa using hx
            have HRR : Hid (R = m) := Lib.hid (by
              rw [HM.out, if_pos (by rw [hxw]; rfl), find_at hm (HA.out (by rw [hxw]; rfl)) hin]
              rfl)
            have HU := Lib.hid (up_trans HX2.out.up hbr)
            clear hany hbr hc5 hm hmem hLN hA6 hc6 hin hxw
            go_wp2_with fail
            go_ret
            exact ⟨ret_int HRR.out.symm, HU.out⟩
      · obtain rfl : j = l.length := by omega
        have HRR : Hid (R = 0) := Lib.hid (by
          rw [HM.out]
          split
          · next hh =>
            rw [find_no (by
              have h9 := HA.out hh
              rwa [List.take_of_length_le (Nat.le_refl _)] at h9)]
            rfl
          · rfl)
        have HU := Lib.hid (up_trans HX2.out.up hbr)
        clear hany hbr
        go_wp2_with fail
        go_ret
        exact ⟨ret_int HRR.out.symm, HU.out⟩

set_option maxRecDepth 100000 in
set_option maxHeartbeats 4000000 in
theorem c_umove2 {V : VQ} {w : World} (h : VD w V) (hf : Few V) (who o v r n : Int) :
    Calls Tryz.prog 65 #[.agg (vC V).toArray, .int .i64 who, .agg (gdC ⟨2, o, v, r, n⟩).toArray] w fun e w' => e = .returned (.int .i64 (rdMvN V.p.Cs who ⟨2, o, v, r, n⟩)) ∧ Below w.heap.size w w' := by
  have h2 := bx2 w (vC V) 28 (gdC ⟨2, o, v, r, n⟩) 63
  generalize hw1 : (w.alloc (.cells (vC V).toArray 28)).alloc (.cells (gdC ⟨2, o, v, r, n⟩).toArray 63) = w1 at h2
  have HW := Lib.hid hw1
  have HX := Lib.hid h2
  have d0 : w1.cell? ⟨w.heap.size + 1, 0, none⟩ = some (.int .i64 2) := h2.res.cell 0 _ rfl
  have d1 : w1.cell? ⟨w.heap.size + 1, 1, none⟩ = some (.int .i64 o) := h2.res.cell 1 _ rfl
  have c1 : w1.cell? ⟨w.heap.size, 1, none⟩ = some (.slice V.CA V.Cq.length V.Cc) := h2.box.cell 1 _ rfl
  have hl10 : (V.Cq.length : Int) ≤ 10 := by have := hf.ch; omega
  have hlen : V.p.Cs.length = V.Cq.length := List.length_map _
  rcases getI_cases V.p.Cs o with ho | ⟨ho, ho2⟩ | ⟨k, C0, rfl, hk, hC⟩
  · have hE : rdMvN V.p.Cs who ⟨2, o, v, r, n⟩ = 0 := by unfold rdMvN; rw [getI_neg (L := V.p.Cs) ho]; rfl
    rw [hE]
    have g0 : decide (o < 0) = true := decide_eq_true (by omega)
    clear h hf h2 hw1 hlen hE ho
    go_enter Tryz.func65, Tryz.ntmps65
    go_upto_region 1 with fail
    rw [HW.out]
    go_wp2_with fail
    go_ret
    exact ⟨rfl, HX.out.up⟩
  · have hE : rdMvN V.p.Cs who ⟨2, o, v, r, n⟩ = 0 := by unfold rdMvN; rw [getI_over (L := V.p.Cs) ho2]; rfl
    rw [hE]
    have g0 : decide (o < 0) = false := decide_eq_false (by omega)
    have g1 : decide (o ≥ (V.Cq.length : Int)) = true := decide_eq_true (by omega)
    clear h hf h2 hw1 hlen hE ho ho2
    go_enter Tryz.func65, Tryz.ntmps65
    go_upto_region 1 with fail
    rw [HW.out]
    go_wp2_with fail
    go_ret
    exact ⟨rfl, HX.out.up⟩
  · have hE : rdMvN V.p.Cs who ⟨2, (k : Int), v, r, n⟩ = rdMvC C0 who 2 := by unfold rdMvN; rw [getI_at, hC]; rfl
    rw [hE]
    have hk' : k < V.Cq.length := by omega
    have g0 : decide ((k : Int) < 0) = false := decide_eq_false (by omega)
    have g1 : decide ((k : Int) ≥ (V.Cq.length : Int)) = false := decide_eq_false (by omega)
    have hk3 : k ≤ 10 := by omega
    obtain ⟨B, of, ⟨C, M⟩, hA, _, hBl, hq, hrg, hch⟩ := (h.below h2.up).r.ch.at_ k hk'
    obtain rfl : C = C0 := by
      have h1 : V.p.Cs[k]? = some C := by
        show (V.Cq.map Prod.fst)[k]? = _
        rw [List.getElem?_map, hq]
        rfl
      rw [hC] at h1
      exact (Option.some.inj h1).symm
    rw [hA] at c1
    have hn : ChFew M := ((hf.cl _ (List.mem_of_getElem? hq)).few (by omega) hch)
    have HRG : Hid (w1.rangeAt B (of + k * 11) (chC C M)) := Lib.hid hrg
    have CT := Lib.hid (fun W (hW : Below w1.heap.size w1 W) => c_rcwhat (hch.below hW) hn)
    have HLN := Lib.hid hch.w_
    have HP := Lib.hid (fun m (hm : m ∈ chWhat C) (h2 : m ≠ 3) => sends_pos hm h2)
    have HWI := Lib.hid (fun m (hm : m ∈ chWhat C) => what_in hm)
    have HWL := Lib.hid (chWhat_len C)
    have HM : Hid (rdMvC C who 2 = if (C.W).head? = some who then ((chWhat C).find? (fun m => decide (m ∈ [1, 2]))).getD 0 else 0) := Lib.hid rfl
    obtain ⟨R, hR⟩ : ∃ R, rdMvC C who 2 = R := ⟨_, rfl⟩
    rw [hR] at HM ⊢
    generalize hla : (C.W) = la at HLN HP HM
    generalize chWhat C = l at CT HP HWI HWL HM
    have hMn : (M.W.n : Int) ≤ 1000 := by have := hn.w_; omega
    have hK1 := (HX.out.next (up_alloc w1 (.cells (chC C M).toArray 107)))
    have HBC := Lib.hid (Blk.new w1 (chC C M) 107)
    have HK1 := Lib.hid hK1
    have HU1 := Lib.hid (up_alloc w1 (.cells (chC C M).toArray 107))
    clear h hf h2 hw1 hlen hC hA hBl hq hrg hch hk hE hR hn hK1 hla
    go_enter Tryz.func65, Tryz.ntmps65
    go_upto_region 1 with fail
    rw [HW.out]
    go_wp2_with (first | (refine lmr (b := B) (q := of + k * 11) (cs := chC C M) (.tmp 25) rfl rfl Tryz.underlying107 rfl info_rch rfl ?_ ?_; (· exact HRG.out)) | (refine snr (W := w1) (cs := chC C M) (zs := chZ) (t := 107) (.tmp 7) (.tmp 26) rfl rfl rfl rfl info_rch rfl chC_one ?_ ?_ ?_; (· rfl); (· rfl)) | (refine ldr (b := w1.heap.size) (t := 107) (cs := chC C M) (.tmp 7) rfl rfl Tryz.underlying107 rfl info_rch rfl ?_ ?_; (· exact HBC.out)))
    refine (CT.out _ HU1.out).mono ?_; rintro e w2 ⟨A5, c5, rfl, -, -, hr5, hb5⟩
    have HX2 := Lib.hid (HK1.out.next hb5)
    have HBC2 := Lib.hid (HBC.out.up hb5 HBC.out.lt)
    have HLN2 := Lib.hid (HLN.out.below (up_trans HU1.out hb5))
    have HR5 := Lib.hid hr5
    generalize hbc : w1.heap.size = bc at HBC2
    clear hr5 hb5 CT hbc d0 d1 c1
    have hl3 : l.length ≤ 3 := HWL.out
    go_wp2_with fail
    go_loopw [9] (fun i wr => ∃ j : Nat, j ≤ l.length ∧ i = .int .i64 j ∧ (la.head? = some who → (l.take j).any (fun m => decide (m ∈ [1, 2])) = false) ∧ Below w2.heap.size w2 wr) (fun i _ => l.length - (intOf i).toNat)
    case atStart => exact ⟨0, Nat.zero_le _, rfl, fun _ => rfl, Below.refl _ _⟩
    case round =>
      obtain ⟨j, hj, rfl, hany, hbr⟩ := hrel
      have HB := Lib.hid hbr
      have HA := Lib.hid hany
      have e0 : wr.cell? ⟨w.heap.size + 1, 0, none⟩ = some (.int .i64 2) := (HX2.out.next hbr).res.cell 0 _ rfl
      by_cases hlt : j < l.length
      · have hex : ∃ m, l[j]? = some m := ⟨_, List.getElem?_eq_getElem hlt⟩
        obtain ⟨m, hm⟩ := hex
        have hmem := List.mem_of_getElem? hm
        obtain ⟨b5, o5, rfl, _, _, hc5⟩ := (HR5.out.below hbr).at_ (by omega)
        have h5 := hc5 j (.int .i64 m) (by rw [List.getElem?_map, hm]; rfl)
        have g7 : wr.cell? ⟨bc, 7, none⟩ = some (.slice M.W.A M.W.n M.W.c) := (HBC2.out.up hbr HBC2.out.lt).cell 7 _ rfl
        by_cases hm2 : m = 3
        · subst hm2
          have HNX : Hid (la.head? = some who → (l.take (j + 1)).any (fun m => decide (m ∈ [1, 2])) = false) := Lib.hid (fun hh => anyN hm (HA.out hh) (by decide))
          clear hany hbr hc5 hm hmem g7
          go_wp2_with fail
          go_roundw
          case rel => exact ⟨j + 1, by omega, by go_num, HNX.out, HB.out⟩
          case measure => simp [intOf]; omega
        · obtain ⟨x, l', rfl⟩ := HP.out m hmem hm2
          have hLN := HLN2.out.below hbr
          have hn1 : 0 < M.W.n := by have := hLN.len; simp at this; omega
          obtain ⟨b6, o6, hA6, _, _, hc6⟩ := hLN.rd.at_ hn1
          have h6 : wr.cell? ⟨b6, o6, none⟩ = some (.int .i64 x) := by simpa using hc6 0 (.int .i64 x) rfl
          rw [hA6] at g7
          have hn2 : (0 : Int) < (M.W.n : Int) := by omega
          have hin : decide (m ∈ ([1, 2] : List Int)) = true := by
            rcases HWI.out m hmem with rfl | rfl | rfl
            · rfl
            · first | rfl | exact absurd rfl hm2
            · first | rfl | exact absurd rfl hm2
          have t1 : (m != 3) = true := by simp [bne, hm2]
          cases hx : (x == who)
          · have HNX : Hid (((x :: l').head? = some who) → (l.take (j + 1)).any (fun m => decide (m ∈ [1, 2])) = false) := Lib.hid (fun hh => by
              have : x = who := by simpa using hh
              rw [this] at hx
              simp at hx)
            clear hany hbr hc5 hm hmem hLN hA6 hc6 hin
            go_wp2_with fail
            go_roundw
            case rel => exact ⟨j + 1, by omega, by go_num, HNX.out, HB.out⟩
            case measure => simp [intOf]; omega
          · have hxw : x = who := by simpa using hx
            have HRR : Hid (R = m) := Lib.hid (by
              rw [HM.out, if_pos (by rw [hxw]; rfl), find_at hm (HA.out (by rw [hxw]; rfl)) hin]
              rfl)
            have HU := Lib.hid (up_trans HX2.out.up hbr)
            clear hany hbr hc5 hm hmem hLN hA6 hc6 hin hxw
            go_wp2_with fail
            go_ret
            exact ⟨ret_int HRR.out.symm, HU.out⟩
      · obtain rfl : j = l.length := by omega
        have HRR : Hid (R = 0) := Lib.hid (by
          rw [HM.out]
          split
          · next hh =>
            rw [find_no (by
              have h9 := HA.out hh
              rwa [List.take_of_length_le (Nat.le_refl _)] at h9)]
            rfl
          · rfl)
        have HU := Lib.hid (up_trans HX2.out.up hbr)
        clear hany hbr
        go_wp2_with fail
        go_ret
        exact ⟨ret_int HRR.out.symm, HU.out⟩

end Go.Proofs.YtdiiilnebepfdaaGreatDoor

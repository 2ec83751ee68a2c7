/- The document's due and of, of layer 29. -/
import Derived.Test.YtdiiilnebepfdaaGreatDoorRua
import Derived.Test.YtdiiilnebepfdaaGreatDoorRei
import Derived.Test.YtdiiilnebepfdaaGreatDoorD4
import Derived.Test.YtdiiilnebepfdaaGreatDoorD1
namespace Go.Proofs.YtdiiilnebepfdaaGreatDoor
open Go.RowKit

theorem due_next {now who no : Int} {Ts : List Tm} {k : Nat} {t : Tm} (ht : Ts[k]? = some t) (h0 : rdDue now (Ts.take k) who no = false) (h : ((t.who == 8 * who + no) && dueB now t.at_) = false) : rdDue now (Ts.take (k + 1)) who no = false := anyN ht h0 h
theorem due_at {now who no : Int} {Ts : List Tm} {k : Nat} {t : Tm} (ht : Ts[k]? = some t) (h : ((t.who == 8 * who + no) && dueB now t.at_) = true) : rdDue now Ts who no = true := List.any_eq_true.2 ⟨t, List.mem_of_getElem? ht, h⟩
set_option maxRecDepth 100000 in
set_option maxHeartbeats 4000000 in
theorem c_udue {V : VQ} {w : World} (h : VD w V) (hf : Few V) (who k o v r n : Int) (hw : 0 ≤ who ∧ who ≤ 15) (hn : 0 ≤ n ∧ n ≤ 5) :
    Calls Tryz.prog 68 #[.agg (vC V).toArray, .int .i64 who, .agg (gdC ⟨k, o, v, r, n⟩).toArray] w fun e w' => e = .returned (.bool (rdDue V.now V.Tq who n)) ∧ Below w.heap.size w w' := by
  have h2 := bx2 w (vC V) 28 (gdC ⟨k, o, v, r, n⟩) 63
  generalize hw1 : (w.alloc (.cells (vC V).toArray 28)).alloc (.cells (gdC ⟨k, o, v, r, n⟩).toArray 63) = w1 at h2
  have HW := Lib.hid hw1
  have HX := Lib.hid h2
  have HT := Lib.hid (h.below h2.up).r.tm
  have hl40 : (V.Tq.length : Int) ≤ 40 := by have := hf.tm; omega
  obtain ⟨s, hs⟩ : ∃ s, 8 * who + n = s := ⟨_, rfl⟩
  have e1 : IntKind.i64.wrap (8 * who) = 8 * who := IntWalk.i64_in _ (by omega)
  have e2 : IntKind.i64.wrap (8 * who + n) = s := by rw [IntWalk.i64_in _ (by omega)]; exact hs
  have HSS := Lib.hid hs
  have HQ : Hid (∀ t : Tm, ((t.who == 8 * who + n) && dueB V.now t.at_) = ((t.who == s) && dueB V.now t.at_)) := Lib.hid (fun t => by rw [hs])
  have CD := Lib.hid (fun a W => c_rdue V.now a W)
  clear h hf h2 hw1
  go_enter Tryz.func68, Tryz.ntmps68
  go_upto_region 1 with fail
  rw [HW.out]
  go_wp2_with fail
  go_loopw [7] (fun i wr => ∃ j : Nat, j ≤ V.Tq.length ∧ i = .int .i64 j ∧ rdDue V.now (V.Tq.take j) who n = false ∧ wr.heap = w1.heap ∧ Below w1.heap.size w1 wr) (fun i _ => V.Tq.length - (intOf i).toNat)
  case atStart => exact ⟨0, Nat.zero_le _, rfl, rfl, rfl, Below.refl _ _⟩
  case round =>
    obtain ⟨j, hj, rfl, hany, hhp, hbr⟩ := hrel
    have HB := Lib.hid hbr
    have HA := Lib.hid hany
    have HHP := Lib.hid hhp
    have c0 : wr.cell? ⟨w.heap.size, 0, none⟩ = some (.int .i64 V.now) := (HX.out.next hbr).box.cell 0 _ rfl
    have c4 : wr.cell? ⟨w.heap.size, 4, none⟩ = some (.slice V.TA V.Tq.length V.Tc) := (HX.out.next hbr).box.cell 4 _ rfl
    have d4 : wr.cell? ⟨w.heap.size + 1, 4, none⟩ = some (.int .i64 n) := (HX.out.next hbr).res.cell 4 _ rfl
    have HU := Lib.hid (up_trans HX.out.up hbr)
    by_cases hlt : j < V.Tq.length
    · have hex : ∃ t, V.Tq[j]? = some t := ⟨_, List.getElem?_eq_getElem hlt⟩
      obtain ⟨t, ht⟩ := hex
      obtain ⟨B, of, hA, _, _, hrg⟩ := RD.row' tmV_len (HT.out.below hbr) ht hlt
      rw [hA] at c4
      have t0 : wr.cell? ⟨B, of + j * 3, none⟩ = some (.int .i64 t.at_) := hrg 0 _ rfl
      have t2 : wr.cell? ⟨B, of + j * 3 + 2, none⟩ = some (.int .i64 t.who) := hrg 2 _ rfl
      have hj40 : j ≤ 40 := by omega
      have CDt := Lib.hid (CD.out t.at_)
      have HY := Lib.hid (fun (hq : ((t.who == s) && dueB V.now t.at_) = true) => due_at ht ((HQ.out t).trans hq))
      have HN := Lib.hid (fun (hq : ((t.who == s) && dueB V.now t.at_) = false) => due_next ht HA.out ((HQ.out t).trans hq))
      generalize dueB V.now t.at_ = q at CDt HY HN
      clear hany hhp hbr hA hrg ht hs
      cases hx : (t.who == s)
      · rw [hx] at HN
        have HN2 := Lib.hid (HN.out rfl)
        clear HN HY
        go_wp2_with fail
        go_quiet (fail)
        all_goals
          go_wp2_with fail
          go_roundw
          case rel => exact ⟨j + 1, by omega, by go_num, HN2.out, HHP.out, up_trans HB.out (up_drewN _ _)⟩
          case measure => simp [intOf]; omega
      · cases q
        · rw [hx] at HN
          have HN2 := Lib.hid (HN.out rfl)
          clear HN HY
          go_wp2_with fail
          go_quiet ((go_at_call 109; exact quiet_left (CDt.out _)))
          all_goals
            go_wp2_with fail
            go_roundw
            case rel => exact ⟨j + 1, by omega, by go_num, HN2.out, HHP.out, up_trans HB.out (up_drewN _ _)⟩
            case measure => simp [intOf]; omega
        · rw [hx] at HY
          have HY2 := Lib.hid (HY.out rfl)
          clear HN HY
          go_wp2_with fail
          go_quiet ((go_at_call 109; exact quiet_left (CDt.out _)))
          all_goals
            go_wp2_with fail
            go_ret
            exact ⟨ret_bool HY2.out.symm, up_trans HU.out (up_drewN _ _)⟩
    · obtain rfl : j = V.Tq.length := by omega
      have HE : Hid (rdDue V.now V.Tq who n = false) := Lib.hid (by
        have h9 := HA.out
        rwa [List.take_of_length_le (Nat.le_refl _)] at h9)
      clear hany hhp hbr
      go_wp2_with fail
      go_ret
      exact ⟨ret_bool HE.out.symm, HU.out⟩

theorem of_hit {V : VP} {who : Int} {g : GD} (h : rdHitV V.Cs g = true) : rdOf V who g = some ⟨5, 0, who, g.n⟩ := by
  unfold rdHitV at h
  rw [Bool.and_eq_true, Bool.or_eq_true, beq_iff_eq, beq_iff_eq] at h
  obtain ⟨hk, hh⟩ := h
  rw [rdOf_chan hk]
  cases hg : getI V.Cs g.o with
  | none => rw [hg] at hh; cases hh
  | some C =>
    rw [hg] at hh
    rw [rdServ_some hg]
    exact rdChan_hit hh
theorem mvc_pos {C : CP} {who k : Int} : 0 ≤ rdMvC C who k ∧ rdMvC C who k ≤ 3 := by
  unfold rdMvC
  split
  · cases hf : rdFst C k with
    | none => exact ⟨Int.le_refl _, (by decide : (0 : Int) ≤ 3)⟩
    | some m =>
      have := what_in (List.mem_of_find?_eq_some hf)
      show 0 ≤ m ∧ m ≤ 3
      omega
  · exact ⟨Int.le_refl _, (by decide : (0 : Int) ≤ 3)⟩
theorem mvn_pos {Cs : List CP} {who : Int} {g : GD} : 0 ≤ rdMvN Cs who g ∧ rdMvN Cs who g ≤ 3 := by
  unfold rdMvN
  cases getI Cs g.o with
  | none => exact ⟨Int.le_refl _, (by decide : (0 : Int) ≤ 3)⟩
  | some C => exact mvc_pos
theorem of_move {V : VP} {who : Int} {g : GD} (hk : g.k = 1 ∨ g.k = 2) (h : rdHitV V.Cs g = false) : rdOf V who g = if 0 < rdMvN V.Cs who g then some ⟨1 + rdMvN V.Cs who g, g.o, 0, 0⟩ else none := by
  rw [rdOf_chan hk]
  cases hg : getI V.Cs g.o with
  | none =>
    have e1 : rdMvN V.Cs who g = 0 := by unfold rdMvN; rw [hg]; rfl
    rw [rdServ_none hg, e1]
    rfl
  | some C =>
    rw [rdHitV_some hk hg] at h
    have e1 : rdMvN V.Cs who g = rdMvC C who g.k := by unfold rdMvN; rw [hg]; rfl
    rw [rdServ_some hg, e1]
    by_cases hh : (rdLine C g.k).head? = some who
    · rw [rdChan_on h hh]
      unfold rdMvC
      rw [if_pos hh]
      cases hf : rdFst C g.k with
      | none => rfl
      | some m =>
        have := what_in (List.mem_of_find?_eq_some hf)
        show some _ = if 0 < m then some _ else none
        rw [if_pos (by omega)]
        rfl
    · rw [rdChan_no h hh]
      unfold rdMvC
      rw [if_neg hh]
      rfl

theorem info_dev : (Tryz.prog.info? 42).map (·.size) = some 4 := by kernel_rfl
set_option maxRecDepth 100000 in
set_option maxHeartbeats 4000000 in
theorem c_uof1 {V : VQ} {w : World} (h : VD w V) (hf : Few V) (who o v r n : Int) :
    Calls Tryz.prog 28 #[.agg (vC V).toArray, .int .i64 who, .agg (gdC ⟨1, o, v, r, n⟩).toArray] w (EvPost w (rdOf V.p who ⟨1, o, v, r, n⟩)) := by
  have hX := bl2 w (vC V) 28 (gdC ⟨1, o, v, r, n⟩) 63 evZC 42
  generalize hw1 : ((w.alloc (.cells (vC V).toArray 28)).alloc (.cells (gdC ⟨1, o, v, r, n⟩).toArray 63)).alloc (.cells evZC.toArray 42) = w1 at hX
  have HW := Lib.hid (show ((w.alloc (.cells (vC V).toArray 28)).alloc (.cells (gdC ⟨1, o, v, r, n⟩).toArray 63)).alloc (.cells #[.int .i64 0, .int .i64 0, .int .i64 0, .int .i64 0] 42) = w1 from hw1)
  have HX := Lib.hid hX
  have CH := Lib.hid (fun W (hW : Below w.heap.size w W) => c_uhit (h.below hW) hf ⟨1, o, v, r, n⟩)
  obtain ⟨R, hR⟩ : ∃ R, rdOf V.p who ⟨1, o, v, r, n⟩ = R := ⟨_, rfl⟩
  rw [hR]
  have CM := Lib.hid (fun W (hW : Below w.heap.size w W) => c_umove1 (h.below hW) hf who o v r n)
  cases hh : rdHitV V.p.Cs ⟨1, o, v, r, n⟩
  · have HM := Lib.hid (hR.symm.trans (of_move (g := ⟨1, o, v, r, n⟩) (.inl rfl) hh))
    have hm := mvn_pos (Cs := V.p.Cs) (who := who) (g := ⟨1, o, v, r, n⟩)
    rw [hh] at CH
    generalize rdMvN V.p.Cs who ⟨1, o, v, r, n⟩ = m at CM HM hm
    obtain ⟨hm0, hm3⟩ := hm
    clear h hf hX hw1 hR hh
    by_cases hpos : 0 < m
    · have HM2 : Hid (R = some ⟨1 + m, o, 0, 0⟩) := Lib.hid (HM.out.trans (if_pos hpos))
      have g0 : decide (m > 0) = true := decide_eq_true hpos
      go_enter Tryz.func28, Tryz.ntmps28
      go_upto_region 1 with fail
      rw [HW.out]
      go_wp2_with (first | (refine ldr (b := w.heap.size) (t := 28) (cs := vC V) (.tmp 3) rfl rfl Tryz.underlying28 rfl info_vd rfl ?_ ?_; (· exact HX.out.ka 0 rfl)) | (refine ldr (b := w.heap.size + 1) (t := 63) (cs := gdC ⟨1, o, v, r, n⟩) (.tmp 5) rfl rfl Tryz.underlying63 rfl info_gd5 rfl ?_ ?_; (· exact HX.out.ka 1 rfl)))
      refine (CH.out _ HX.out.up).mono ?_; rintro e w2 ⟨rfl, hb⟩
      have HE := Lib.hid (HX.out.next hb)
      clear hb
      have m0 := (HE.out.ka 1 rfl).cell 0 _ rfl
      go_wp2_with (first | (refine ldr (b := w.heap.size) (t := 28) (cs := vC V) (.tmp 3) rfl rfl Tryz.underlying28 rfl info_vd rfl ?_ ?_; (· exact HE.out.ka 0 rfl)) | (refine ldr (b := w.heap.size + 1) (t := 63) (cs := gdC ⟨1, o, v, r, n⟩) (.tmp 5) rfl rfl Tryz.underlying63 rfl info_gd5 rfl ?_ ?_; (· exact HE.out.ka 1 rfl)))
      refine (CM.out _ HE.out.up).mono ?_; rintro e w3 ⟨rfl, hb⟩
      have HF := Lib.hid (HE.out.next hb)
      clear hb m0
      have m0 := (HF.out.ka 1 rfl).cell 1 _ rfl
      obtain ⟨ds, hds, hres⟩ := HF.out.res
      have HRS := Lib.hid hres
      have HD := Lib.hid (show ds.length = 4 from hds)
      clear hds hres
      go_wp2_with (refine str (b := w.heap.size + 2) (t := 42) (cs := evC ⟨1 + m, o, 0, 0⟩) (ds := ds) (.tmp 6) (.tmp 31) rfl rfl rfl rfl info_dev HD.out (evC_one _) ?_ ?_; (· exact HRS.out))
      refine bodyPost_ret (v := .tuple #[.agg (evC ⟨1 + m, o, 0, 0⟩).toArray, .bool true]) (results_ce (fn := Tryz.f28) (p := 6) (t := 7) rfl _ _ _ rfl (HRS.out.row _) Tryz.underlying42 rfl info_dev) rfl ?_
      exact evp_of HM2.out (below_setRow HF.out.up HF.out.lo _)
    · have HM2 : Hid (R = none) := Lib.hid (HM.out.trans (if_neg hpos))
      have g0 : decide (m > 0) = false := decide_eq_false hpos
      go_enter Tryz.func28, Tryz.ntmps28
      go_upto_region 1 with fail
      rw [HW.out]
      go_wp2_with (first | (refine ldr (b := w.heap.size) (t := 28) (cs := vC V) (.tmp 3) rfl rfl Tryz.underlying28 rfl info_vd rfl ?_ ?_; (· exact HX.out.ka 0 rfl)) | (refine ldr (b := w.heap.size + 1) (t := 63) (cs := gdC ⟨1, o, v, r, n⟩) (.tmp 5) rfl rfl Tryz.underlying63 rfl info_gd5 rfl ?_ ?_; (· exact HX.out.ka 1 rfl)))
      refine (CH.out _ HX.out.up).mono ?_; rintro e w2 ⟨rfl, hb⟩
      have HE := Lib.hid (HX.out.next hb)
      clear hb
      have m0 := (HE.out.ka 1 rfl).cell 0 _ rfl
      go_wp2_with (first | (refine ldr (b := w.heap.size) (t := 28) (cs := vC V) (.tmp 3) rfl rfl Tryz.underlying28 rfl info_vd rfl ?_ ?_; (· exact HE.out.ka 0 rfl)) | (refine ldr (b := w.heap.size + 1) (t := 63) (cs := gdC ⟨1, o, v, r, n⟩) (.tmp 5) rfl rfl Tryz.underlying63 rfl info_gd5 rfl ?_ ?_; (· exact HE.out.ka 1 rfl)))
      refine (CM.out _ HE.out.up).mono ?_; rintro e w3 ⟨rfl, hb⟩
      have HF := Lib.hid (HE.out.next hb)
      clear hb m0
      obtain ⟨ds, hds, hres⟩ := HF.out.res
      have HRS := Lib.hid hres
      have HD := Lib.hid (show ds.length = 4 from hds)
      clear hds hres
      go_wp2_with (refine str (b := w.heap.size + 2) (t := 42) (cs := evC evZ) (ds := ds) (.tmp 6) (.tmp 97) rfl rfl rfl rfl info_dev HD.out (evC_one _) ?_ ?_; (· exact HRS.out))
      refine bodyPost_ret (v := .tuple #[.agg (evC evZ).toArray, .bool false]) (results_ce (fn := Tryz.f28) (p := 6) (t := 7) rfl _ _ _ rfl (HRS.out.row _) Tryz.underlying42 rfl info_dev) rfl ?_
      exact evp_of HM2.out (below_setRow HF.out.up HF.out.lo _)
  · have HM := Lib.hid (hR.symm.trans (of_hit (g := ⟨1, o, v, r, n⟩) hh))
    rw [hh] at CH
    clear h hf hX hw1 hR hh CM
    go_enter Tryz.func28, Tryz.ntmps28
    go_upto_region 1 with fail
    rw [HW.out]
    go_wp2_with (first | (refine ldr (b := w.heap.size) (t := 28) (cs := vC V) (.tmp 3) rfl rfl Tryz.underlying28 rfl info_vd rfl ?_ ?_; (· exact HX.out.ka 0 rfl)) | (refine ldr (b := w.heap.size + 1) (t := 63) (cs := gdC ⟨1, o, v, r, n⟩) (.tmp 5) rfl rfl Tryz.underlying63 rfl info_gd5 rfl ?_ ?_; (· exact HX.out.ka 1 rfl)))
    refine (CH.out _ HX.out.up).mono ?_; rintro e w2 ⟨rfl, hb⟩
    have HE := Lib.hid (HX.out.next hb)
    clear hb
    have m0 := (HE.out.ka 1 rfl).cell 4 _ rfl
    obtain ⟨ds, hds, hres⟩ := HE.out.res
    have HRS := Lib.hid hres
    have HD := Lib.hid (show ds.length = 4 from hds)
    clear hds hres
    go_wp2_with (refine str (b := w.heap.size + 2) (t := 42) (cs := evC ⟨5, 0, who, n⟩) (ds := ds) (.tmp 6) (.tmp 15) rfl rfl rfl rfl info_dev HD.out (evC_one _) ?_ ?_; (· exact HRS.out))
    refine bodyPost_ret (v := .tuple #[.agg (evC ⟨5, 0, who, n⟩).toArray, .bool true]) (results_ce (fn := Tryz.f28) (p := 6) (t := 7) rfl _ _ _ rfl (HRS.out.row _) Tryz.underlying42 rfl info_dev) rfl ?_
    exact evp_of HM.out (below_setRow HE.out.up HE.out.lo _)

set_option maxRecDepth 100000 in
set_option maxHeartbeats 4000000 in
theorem c_uof2 {V : VQ} {w : World} (h : VD w V) (hf : Few V) (who o v r n : Int) :
    Calls Tryz.prog 28 #[.agg (vC V).toArray, .int .i64 who, .agg (gdC ⟨2, o, v, r, n⟩).toArray] w (EvPost w (rdOf V.p who ⟨2, o, v, r, n⟩)) := by
  have hX := bl2 w (vC V) 28 (gdC ⟨2, o, v, r, n⟩) 63 evZC 42
  generalize hw1 : ((w.alloc (.cells (vC V).toArray 28)).alloc (.cells (gdC ⟨2, o, v, r, n⟩).toArray 63)).alloc (.cells evZC.toArray 42) = w1 at hX
  have HW := Lib.hid (show ((w.alloc (.cells (vC V).toArray 28)).alloc (.cells (gdC ⟨2, o, v, r, n⟩).toArray 63)).alloc (.cells #[.int .i64 0, .int .i64 0, .int .i64 0, .int .i64 0] 42) = w1 from hw1)
  have HX := Lib.hid hX
  have CH := Lib.hid (fun W (hW : Below w.heap.size w W) => c_uhit (h.below hW) hf ⟨2, o, v, r, n⟩)
  obtain ⟨R, hR⟩ : ∃ R, rdOf V.p who ⟨2, o, v, r, n⟩ = R := ⟨_, rfl⟩
  rw [hR]
  have CM := Lib.hid (fun W (hW : Below w.heap.size w W) => c_umove2 (h.below hW) hf who o v r n)
  cases hh : rdHitV V.p.Cs ⟨2, o, v, r, n⟩
  · have HM := Lib.hid (hR.symm.trans (of_move (g := ⟨2, o, v, r, n⟩) (.inr rfl) hh))
    have hm := mvn_pos (Cs := V.p.Cs) (who := who) (g := ⟨2, o, v, r, n⟩)
    rw [hh] at CH
    generalize rdMvN V.p.Cs who ⟨2, o, v, r, n⟩ = m at CM HM hm
    obtain ⟨hm0, hm3⟩ := hm
    clear h hf hX hw1 hR hh
    by_cases hpos : 0 < m
    · have HM2 : Hid (R = some ⟨1 + m, o, 0, 0⟩) := Lib.hid (HM.out.trans (if_pos hpos))
      have g0 : decide (m > 0) = true := decide_eq_true hpos
      go_enter Tryz.func28, Tryz.ntmps28
      go_upto_region 1 with fail
      rw [HW.out]
      go_wp2_with (first | (refine ldr (b := w.heap.size) (t := 28) (cs := vC V) (.tmp 3) rfl rfl Tryz.underlying28 rfl info_vd rfl ?_ ?_; (· exact HX.out.ka 0 rfl)) | (refine ldr (b := w.heap.size + 1) (t := 63) (cs := gdC ⟨2, o, v, r, n⟩) (.tmp 5) rfl rfl Tryz.underlying63 rfl info_gd5 rfl ?_ ?_; (· exact HX.out.ka 1 rfl)))
      refine (CH.out _ HX.out.up).mono ?_; rintro e w2 ⟨rfl, hb⟩
      have HE := Lib.hid (HX.out.next hb)
      clear hb
      have m0 := (HE.out.ka 1 rfl).cell 0 _ rfl
      go_wp2_with (first | (refine ldr (b := w.heap.size) (t := 28) (cs := vC V) (.tmp 3) rfl rfl Tryz.underlying28 rfl info_vd rfl ?_ ?_; (· exact HE.out.ka 0 rfl)) | (refine ldr (b := w.heap.size + 1) (t := 63) (cs := gdC ⟨2, o, v, r, n⟩) (.tmp 5) rfl rfl Tryz.underlying63 rfl info_gd5 rfl ?_ ?_; (· exact HE.out.ka 1 rfl)))
      refine (CM.out _ HE.out.up).mono ?_; rintro e w3 ⟨rfl, hb⟩
      have HF := Lib.hid (HE.out.next hb)
      clear hb m0
      have m0 := (HF.out.ka 1 rfl).cell 1 _ rfl
      obtain ⟨ds, hds, hres⟩ := HF.out.res
      have HRS := Lib.hid hres
      have HD := Lib.hid (show ds.length = 4 from hds)
      clear hds hres
      go_wp2_with (refine str (b := w.heap.size + 2) (t := 42) (cs := evC ⟨1 + m, o, 0, 0⟩) (ds := ds) (.tmp 6) (.tmp 31) rfl rfl rfl rfl info_dev HD.out (evC_one _) ?_ ?_; (· exact HRS.out))
      refine bodyPost_ret (v := .tuple #[.agg (evC ⟨1 + m, o, 0, 0⟩).toArray, .bool true]) (results_ce (fn := Tryz.f28) (p := 6) (t := 7) rfl _ _ _ rfl (HRS.out.row _) Tryz.underlying42 rfl info_dev) rfl ?_
      exact evp_of HM2.out (below_setRow HF.out.up HF.out.lo _)
    · have HM2 : Hid (R = none) := Lib.hid (HM.out.trans (if_neg hpos))
      have g0 : decide (m > 0) = false := decide_eq_false hpos
      go_enter Tryz.func28, Tryz.ntmps28
      go_upto_region 1 with fail
      rw [HW.out]
      go_wp2_with (first | (refine ldr (b := w.heap.size) (t := 28) (cs := vC V) (.tmp 3) rfl rfl Tryz.underlying28 rfl info_vd rfl ?_ ?_; (· exact HX.out.ka 0 rfl)) | (refine ldr (b := w.heap.size + 1) (t := 63) (cs := gdC ⟨2, o, v, r, n⟩) (.tmp 5) rfl rfl Tryz.underlying63 rfl info_gd5 rfl ?_ ?_; (· exact HX.out.ka 1 rfl)))
      refine (CH.out _ HX.out.up).mono ?_; rintro e w2 ⟨rfl, hb⟩
      have HE := Lib.hid (HX.out.next hb)
      clear hb
      have m0 := (HE.out.ka 1 rfl).cell 0 _ rfl
      go_wp2_with (first | (refine ldr (b := w.heap.size) (t := 28) (cs := vC V) (.tmp 3) rfl rfl Tryz.underlying28 rfl info_vd rfl ?_ ?_; (· exact HE.out.ka 0 rfl)) | (refine ldr (b := w.heap.size + 1) (t := 63) (cs := gdC ⟨2, o, v, r, n⟩) (.tmp 5) rfl rfl Tryz.underlying63 rfl info_gd5 rfl ?_ ?_; (· exact HE.out.ka 1 rfl)))
      refine (CM.out _ HE.out.up).mono ?_; rintro e w3 ⟨rfl, hb⟩
      have HF := Lib.hid (HE.out.next hb)
      clear hb m0
      obtain ⟨ds, hds, hres⟩ := HF.out.res
      have HRS := Lib.hid hres
      have HD := Lib.hid (show ds.length = 4 from hds)
      clear hds hres
      go_wp2_with (refine str (b := w.heap.size + 2) (t := 42) (cs := evC evZ) (ds := ds) (.tmp 6) (.tmp 97) rfl rfl rfl rfl info_dev HD.out (evC_one _) ?_ ?_; (· exact HRS.out))
      refine bodyPost_ret (v := .tuple #[.agg (evC evZ).toArray, .bool false]) (results_ce (fn := Tryz.f28) (p := 6) (t := 7) rfl _ _ _ rfl (HRS.out.row _) Tryz.underlying42 rfl info_dev) rfl ?_
      exact evp_of HM2.out (below_setRow HF.out.up HF.out.lo _)
  · have HM := Lib.hid (hR.symm.trans (of_hit (g := ⟨2, o, v, r, n⟩) hh))
    rw [hh] at CH
    clear h hf hX hw1 hR hh CM
    go_enter Tryz.func28, Tryz.ntmps28
    go_upto_region 1 with fail
    rw [HW.out]
    go_wp2_with (first | (refine ldr (b := w.heap.size) (t := 28) (cs := vC V) (.tmp 3) rfl rfl Tryz.underlying28 rfl info_vd rfl ?_ ?_; (· exact HX.out.ka 0 rfl)) | (refine ldr (b := w.heap.size + 1) (t := 63) (cs := gdC ⟨2, o, v, r, n⟩) (.tmp 5) rfl rfl Tryz.underlying63 rfl info_gd5 rfl ?_ ?_; (· exact HX.out.ka 1 rfl)))
    refine (CH.out _ HX.out.up).mono ?_; rintro e w2 ⟨rfl, hb⟩
    have HE := Lib.hid (HX.out.next hb)
    clear hb
    have m0 := (HE.out.ka 1 rfl).cell 4 _ rfl
    obtain ⟨ds, hds, hres⟩ := HE.out.res
    have HRS := Lib.hid hres
    have HD := Lib.hid (show ds.length = 4 from hds)
    clear hds hres
    go_wp2_with (refine str (b := w.heap.size + 2) (t := 42) (cs := evC ⟨5, 0, who, n⟩) (ds := ds) (.tmp 6) (.tmp 15) rfl rfl rfl rfl info_dev HD.out (evC_one _) ?_ ?_; (· exact HRS.out))
    refine bodyPost_ret (v := .tuple #[.agg (evC ⟨5, 0, who, n⟩).toArray, .bool true]) (results_ce (fn := Tryz.f28) (p := 6) (t := 7) rfl _ _ _ rfl (HRS.out.row _) Tryz.underlying42 rfl info_dev) rfl ?_
    exact evp_of HM.out (below_setRow HE.out.up HE.out.lo _)

set_option maxRecDepth 100000 in
set_option maxHeartbeats 4000000 in
theorem c_uof3 {V : VQ} {w : World} (h : VD w V) (hf : Few V) (who o v r n : Int) :
    Calls Tryz.prog 28 #[.agg (vC V).toArray, .int .i64 who, .agg (gdC ⟨3, o, v, r, n⟩).toArray] w (EvPost w (rdOf V.p who ⟨3, o, v, r, n⟩)) := by
  have hX := bl2 w (vC V) 28 (gdC ⟨3, o, v, r, n⟩) 63 evZC 42
  generalize hw1 : ((w.alloc (.cells (vC V).toArray 28)).alloc (.cells (gdC ⟨3, o, v, r, n⟩).toArray 63)).alloc (.cells evZC.toArray 42) = w1 at hX
  have HW := Lib.hid (show ((w.alloc (.cells (vC V).toArray 28)).alloc (.cells (gdC ⟨3, o, v, r, n⟩).toArray 63)).alloc (.cells #[.int .i64 0, .int .i64 0, .int .i64 0, .int .i64 0] 42) = w1 from hw1)
  have HX := Lib.hid hX
  have CH := Lib.hid (fun W (hW : Below w.heap.size w W) => c_uhit (h.below hW) hf ⟨3, o, v, r, n⟩)
  obtain ⟨R, hR⟩ : ∃ R, rdOf V.p who ⟨3, o, v, r, n⟩ = R := ⟨_, rfl⟩
  rw [hR]
  rw [rdHitV_off (g := ⟨3, o, v, r, n⟩) ⟨by exact (by decide : (3 : Int) ≠ 1), by exact (by decide : (3 : Int) ≠ 2)⟩] at CH
  have hl10 : (V.Bq.length : Int) ≤ 10 := by have := hf.br; omega
  have hRB : R = if rdMet V.Bq who o = true then some ⟨1, o, 0, 0⟩ else none := hR.symm.trans (rdOf_bar (g := ⟨3, o, v, r, n⟩) rfl)
  rcases getI_cases V.Bq o with ho | ⟨ho, ho2⟩ | ⟨k, q, rfl, hk, hq⟩
  · have HM : Hid (R = none) := Lib.hid (by rw [hRB, rdMet_none (getI_neg (L := V.Bq) ho)]; rfl)
    have g0 : decide (o ≥ 0) = false := decide_eq_false (by omega)
    clear h hf hX hw1 hR hRB ho
    go_enter Tryz.func28, Tryz.ntmps28
    go_upto_region 1 with fail
    rw [HW.out]
    go_wp2_with (first | (refine ldr (b := w.heap.size) (t := 28) (cs := vC V) (.tmp 3) rfl rfl Tryz.underlying28 rfl info_vd rfl ?_ ?_; (· exact HX.out.ka 0 rfl)) | (refine ldr (b := w.heap.size + 1) (t := 63) (cs := gdC ⟨3, o, v, r, n⟩) (.tmp 5) rfl rfl Tryz.underlying63 rfl info_gd5 rfl ?_ ?_; (· exact HX.out.ka 1 rfl)))
    refine (CH.out _ HX.out.up).mono ?_; rintro e w2 ⟨rfl, hb⟩
    have HE := Lib.hid (HX.out.next hb)
    clear hb
    have m0 := (HE.out.ka 1 rfl).cell 0 _ rfl
    have m1 := (HE.out.ka 1 rfl).cell 1 _ rfl
    have m2 := (HE.out.ka 0 rfl).cell 2 _ rfl
    go_upto_region 20 with fail
    obtain ⟨ds, hds, hres⟩ := HE.out.res
    have HRS := Lib.hid hres
    have HD := Lib.hid (show ds.length = 4 from hds)
    clear hds hres
    go_wp2_with (refine str (b := w.heap.size + 2) (t := 42) (cs := evC evZ) (ds := ds) (.tmp 6) (.tmp 97) rfl rfl rfl rfl info_dev HD.out (evC_one _) ?_ ?_; (· exact HRS.out))
    refine bodyPost_ret (v := .tuple #[.agg (evC evZ).toArray, .bool false]) (results_ce (fn := Tryz.f28) (p := 6) (t := 7) rfl _ _ _ rfl (HRS.out.row _) Tryz.underlying42 rfl info_dev) rfl ?_
    exact evp_of HM.out (below_setRow HE.out.up HE.out.lo _)
  · have HM : Hid (R = none) := Lib.hid (by rw [hRB, rdMet_none (getI_over (L := V.Bq) ho2)]; rfl)
    have g0 : decide (o ≥ 0) = true := decide_eq_true (by omega)
    have g1 : decide (o < (V.Bq.length : Int)) = false := decide_eq_false (by omega)
    clear h hf hX hw1 hR hRB ho ho2
    go_enter Tryz.func28, Tryz.ntmps28
    go_upto_region 1 with fail
    rw [HW.out]
    go_wp2_with (first | (refine ldr (b := w.heap.size) (t := 28) (cs := vC V) (.tmp 3) rfl rfl Tryz.underlying28 rfl info_vd rfl ?_ ?_; (· exact HX.out.ka 0 rfl)) | (refine ldr (b := w.heap.size + 1) (t := 63) (cs := gdC ⟨3, o, v, r, n⟩) (.tmp 5) rfl rfl Tryz.underlying63 rfl info_gd5 rfl ?_ ?_; (· exact HX.out.ka 1 rfl)))
    refine (CH.out _ HX.out.up).mono ?_; rintro e w2 ⟨rfl, hb⟩
    have HE := Lib.hid (HX.out.next hb)
    clear hb
    have m0 := (HE.out.ka 1 rfl).cell 0 _ rfl
    have m1 := (HE.out.ka 1 rfl).cell 1 _ rfl
    have m2 := (HE.out.ka 0 rfl).cell 2 _ rfl
    go_upto_region 20 with fail
    obtain ⟨ds, hds, hres⟩ := HE.out.res
    have HRS := Lib.hid hres
    have HD := Lib.hid (show ds.length = 4 from hds)
    clear hds hres
    go_wp2_with (refine str (b := w.heap.size + 2) (t := 42) (cs := evC evZ) (ds := ds) (.tmp 6) (.tmp 97) rfl rfl rfl rfl info_dev HD.out (evC_one _) ?_ ?_; (· exact HRS.out))
    refine bodyPost_ret (v := .tuple #[.agg (evC evZ).toArray, .bool false]) (results_ce (fn := Tryz.f28) (p := 6) (t := 7) rfl _ _ _ rfl (HRS.out.row _) Tryz.underlying42 rfl info_dev) rfl ?_
    exact evp_of HM.out (below_setRow HE.out.up HE.out.lo _)
  · have hmet := rdMet_some (Bs := V.Bq) (who := who) (b := (k : Int)) (B := q) (by rw [getI_at]; exact hq)
    rw [hmet] at hRB
    have g0 : decide ((k : Int) ≥ 0) = true := decide_eq_true (by omega)
    have g1 : decide ((k : Int) < (V.Bq.length : Int)) = true := decide_eq_true (by omega)
    have hk3 : k ≤ 10 := by omega
    obtain ⟨B, of, q', M, hA, hBl, hq', hrg, hdw⟩ := h.br.at_ k hk
    obtain rfl : q' = q := by
      rw [hq] at hq'
      exact (Option.some.inj hq').symm
    have HRG := Lib.hid (fun W (hW : Below w.heap.size w W) => range_below hrg hW hBl)
    have CR := Lib.hid (fun W (hW : Below w.heap.size w W) => c_vready (hdw.below hW))
    have HAA := Lib.hid hA
    obtain ⟨x, hx⟩ : ∃ x, brReady q' = x := ⟨_, rfl⟩
    obtain ⟨y, hy⟩ : ∃ y, hasL q'.r.a.ints who = y := ⟨_, rfl⟩
    have CHS := Lib.hid (fun W (hW : Below w.heap.size w W) => c_rhasB (c := M.d) (hdw.below hW).a who hy)
    rw [hx] at CR
    rw [hx, hy] at hRB
    clear h hf hX hw1 hq hq' hrg hdw hA hBl hx hy hmet hR
    cases x
    · have HM : Hid (R = none) := Lib.hid (hRB.trans (by rfl))
      clear hRB CHS
      go_enter Tryz.func28, Tryz.ntmps28
      go_upto_region 1 with fail
      rw [HW.out]
      go_wp2_with (first | (refine ldr (b := w.heap.size) (t := 28) (cs := vC V) (.tmp 3) rfl rfl Tryz.underlying28 rfl info_vd rfl ?_ ?_; (· exact HX.out.ka 0 rfl)) | (refine ldr (b := w.heap.size + 1) (t := 63) (cs := gdC ⟨3, (k : Int), v, r, n⟩) (.tmp 5) rfl rfl Tryz.underlying63 rfl info_gd5 rfl ?_ ?_; (· exact HX.out.ka 1 rfl)))
      refine (CH.out _ HX.out.up).mono ?_; rintro e w2 ⟨rfl, hb⟩
      have HE := Lib.hid (HX.out.next hb)
      clear hb
      have m0 := (HE.out.ka 1 rfl).cell 0 _ rfl
      have m1 := (HE.out.ka 1 rfl).cell 1 _ rfl
      have m2 : w2.cell? ⟨w.heap.size, 2, none⟩ = some (.slice (some ⟨B, of, none⟩) V.Bq.length V.Bc) := by rw [← HAA.out]; exact (HE.out.ka 0 rfl).cell 2 _ rfl
      have HR2 := Lib.hid (HRG.out _ HE.out.up)
      go_wp2_with (refine lmr (b := B) (q := of + k * 5) (cs := dbC q' M) (.tmp 50) rfl rfl Tryz.underlying113 rfl info_db rfl ?_ ?_; (· exact HR2.out))
      refine (CR.out _ HE.out.up).mono ?_; rintro e w3 ⟨rfl, hb⟩
      have HF := Lib.hid (HE.out.next hb)
      clear hb m0 m1 m2
      go_upto_region 20 with fail
      obtain ⟨ds, hds, hres⟩ := HF.out.res
      have HRS := Lib.hid hres
      have HD := Lib.hid (show ds.length = 4 from hds)
      clear hds hres
      go_wp2_with (refine str (b := w.heap.size + 2) (t := 42) (cs := evC evZ) (ds := ds) (.tmp 6) (.tmp 97) rfl rfl rfl rfl info_dev HD.out (evC_one _) ?_ ?_; (· exact HRS.out))
      refine bodyPost_ret (v := .tuple #[.agg (evC evZ).toArray, .bool false]) (results_ce (fn := Tryz.f28) (p := 6) (t := 7) rfl _ _ _ rfl (HRS.out.row _) Tryz.underlying42 rfl info_dev) rfl ?_
      exact evp_of HM.out (below_setRow HF.out.up HF.out.lo _)
    · cases y
      · have HM : Hid (R = none) := Lib.hid (hRB.trans (by rfl))
        clear hRB
        go_enter Tryz.func28, Tryz.ntmps28
        go_upto_region 1 with fail
        rw [HW.out]
        go_wp2_with (first | (refine ldr (b := w.heap.size) (t := 28) (cs := vC V) (.tmp 3) rfl rfl Tryz.underlying28 rfl info_vd rfl ?_ ?_; (· exact HX.out.ka 0 rfl)) | (refine ldr (b := w.heap.size + 1) (t := 63) (cs := gdC ⟨3, (k : Int), v, r, n⟩) (.tmp 5) rfl rfl Tryz.underlying63 rfl info_gd5 rfl ?_ ?_; (· exact HX.out.ka 1 rfl)))
        refine (CH.out _ HX.out.up).mono ?_; rintro e w2 ⟨rfl, hb⟩
        have HE := Lib.hid (HX.out.next hb)
        clear hb
        have m0 := (HE.out.ka 1 rfl).cell 0 _ rfl
        have m1 := (HE.out.ka 1 rfl).cell 1 _ rfl
        have m2 : w2.cell? ⟨w.heap.size, 2, none⟩ = some (.slice (some ⟨B, of, none⟩) V.Bq.length V.Bc) := by rw [← HAA.out]; exact (HE.out.ka 0 rfl).cell 2 _ rfl
        have HR2 := Lib.hid (HRG.out _ HE.out.up)
        go_wp2_with (refine lmr (b := B) (q := of + k * 5) (cs := dbC q' M) (.tmp 50) rfl rfl Tryz.underlying113 rfl info_db rfl ?_ ?_; (· exact HR2.out))
        refine (CR.out _ HE.out.up).mono ?_; rintro e w3 ⟨rfl, hb⟩
        have HF := Lib.hid (HE.out.next hb)
        clear hb m0 m1 m2
        have m1 := (HF.out.ka 1 rfl).cell 1 _ rfl
        have m2 : w3.cell? ⟨w.heap.size, 2, none⟩ = some (.slice (some ⟨B, of, none⟩) V.Bq.length V.Bc) := by rw [← HAA.out]; exact (HF.out.ka 0 rfl).cell 2 _ rfl
        have m3 : w3.cell? ⟨B, of + k * 5 + 3, none⟩ = some (.slice M.B q'.r.a.ints.length M.d) := HRG.out _ HF.out.up 3 _ rfl
        go_wp2_with fail
        refine (CHS.out _ HF.out.up).mono ?_; rintro e w4 ⟨rfl, hb⟩
        have HG := Lib.hid (HF.out.next hb)
        clear hb m1 m2 m3
        go_upto_region 20 with fail
        obtain ⟨ds, hds, hres⟩ := HG.out.res
        have HRS := Lib.hid hres
        have HD := Lib.hid (show ds.length = 4 from hds)
        clear hds hres
        go_wp2_with (refine str (b := w.heap.size + 2) (t := 42) (cs := evC evZ) (ds := ds) (.tmp 6) (.tmp 97) rfl rfl rfl rfl info_dev HD.out (evC_one _) ?_ ?_; (· exact HRS.out))
        refine bodyPost_ret (v := .tuple #[.agg (evC evZ).toArray, .bool false]) (results_ce (fn := Tryz.f28) (p := 6) (t := 7) rfl _ _ _ rfl (HRS.out.row _) Tryz.underlying42 rfl info_dev) rfl ?_
        exact evp_of HM.out (below_setRow HG.out.up HG.out.lo _)
      · have HM : Hid (R = some ⟨1, (k : Int), 0, 0⟩) := Lib.hid (hRB.trans (by rfl))
        clear hRB
        go_enter Tryz.func28, Tryz.ntmps28
        go_upto_region 1 with fail
        rw [HW.out]
        go_wp2_with (first | (refine ldr (b := w.heap.size) (t := 28) (cs := vC V) (.tmp 3) rfl rfl Tryz.underlying28 rfl info_vd rfl ?_ ?_; (· exact HX.out.ka 0 rfl)) | (refine ldr (b := w.heap.size + 1) (t := 63) (cs := gdC ⟨3, (k : Int), v, r, n⟩) (.tmp 5) rfl rfl Tryz.underlying63 rfl info_gd5 rfl ?_ ?_; (· exact HX.out.ka 1 rfl)))
        refine (CH.out _ HX.out.up).mono ?_; rintro e w2 ⟨rfl, hb⟩
        have HE := Lib.hid (HX.out.next hb)
        clear hb
        have m0 := (HE.out.ka 1 rfl).cell 0 _ rfl
        have m1 := (HE.out.ka 1 rfl).cell 1 _ rfl
        have m2 : w2.cell? ⟨w.heap.size, 2, none⟩ = some (.slice (some ⟨B, of, none⟩) V.Bq.length V.Bc) := by rw [← HAA.out]; exact (HE.out.ka 0 rfl).cell 2 _ rfl
        have HR2 := Lib.hid (HRG.out _ HE.out.up)
        go_wp2_with (refine lmr (b := B) (q := of + k * 5) (cs := dbC q' M) (.tmp 50) rfl rfl Tryz.underlying113 rfl info_db rfl ?_ ?_; (· exact HR2.out))
        refine (CR.out _ HE.out.up).mono ?_; rintro e w3 ⟨rfl, hb⟩
        have HF := Lib.hid (HE.out.next hb)
        clear hb m0 m1 m2
        have m1 := (HF.out.ka 1 rfl).cell 1 _ rfl
        have m2 : w3.cell? ⟨w.heap.size, 2, none⟩ = some (.slice (some ⟨B, of, none⟩) V.Bq.length V.Bc) := by rw [← HAA.out]; exact (HF.out.ka 0 rfl).cell 2 _ rfl
        have m3 : w3.cell? ⟨B, of + k * 5 + 3, none⟩ = some (.slice M.B q'.r.a.ints.length M.d) := HRG.out _ HF.out.up 3 _ rfl
        go_wp2_with fail
        refine (CHS.out _ HF.out.up).mono ?_; rintro e w4 ⟨rfl, hb⟩
        have HG := Lib.hid (HF.out.next hb)
        clear hb m1 m2 m3
        have m1 := (HG.out.ka 1 rfl).cell 1 _ rfl
        go_upto_region 11 with fail
        obtain ⟨ds, hds, hres⟩ := HG.out.res
        have HRS := Lib.hid hres
        have HD := Lib.hid (show ds.length = 4 from hds)
        clear hds hres
        go_wp2_with (refine str (b := w.heap.size + 2) (t := 42) (cs := evC ⟨1, (k : Int), 0, 0⟩) (ds := ds) (.tmp 6) (.tmp 68) rfl rfl rfl rfl info_dev HD.out (evC_one _) ?_ ?_; (· exact HRS.out))
        refine bodyPost_ret (v := .tuple #[.agg (evC ⟨1, (k : Int), 0, 0⟩).toArray, .bool true]) (results_ce (fn := Tryz.f28) (p := 6) (t := 7) rfl _ _ _ rfl (HRS.out.row _) Tryz.underlying42 rfl info_dev) rfl ?_
        exact evp_of HM.out (below_setRow HG.out.up HG.out.lo _)

set_option maxRecDepth 100000 in
set_option maxHeartbeats 4000000 in
theorem c_uof4 {V : VQ} {w : World} (h : VD w V) (hf : Few V) (who o v r n : Int) (hw : 0 ≤ who ∧ who ≤ 15) (hn : 0 ≤ n ∧ n ≤ 5) :
    Calls Tryz.prog 28 #[.agg (vC V).toArray, .int .i64 who, .agg (gdC ⟨4, o, v, r, n⟩).toArray] w (EvPost w (rdOf V.p who ⟨4, o, v, r, n⟩)) := by
  have hX := bl2 w (vC V) 28 (gdC ⟨4, o, v, r, n⟩) 63 evZC 42
  generalize hw1 : ((w.alloc (.cells (vC V).toArray 28)).alloc (.cells (gdC ⟨4, o, v, r, n⟩).toArray 63)).alloc (.cells evZC.toArray 42) = w1 at hX
  have HW := Lib.hid (show ((w.alloc (.cells (vC V).toArray 28)).alloc (.cells (gdC ⟨4, o, v, r, n⟩).toArray 63)).alloc (.cells #[.int .i64 0, .int .i64 0, .int .i64 0, .int .i64 0] 42) = w1 from hw1)
  have HX := Lib.hid hX
  have CH := Lib.hid (fun W (hW : Below w.heap.size w W) => c_uhit (h.below hW) hf ⟨4, o, v, r, n⟩)
  obtain ⟨R, hR⟩ : ∃ R, rdOf V.p who ⟨4, o, v, r, n⟩ = R := ⟨_, rfl⟩
  rw [hR]
  rw [rdHitV_off (g := ⟨4, o, v, r, n⟩) ⟨by exact (by decide : (4 : Int) ≠ 1), by exact (by decide : (4 : Int) ≠ 2)⟩] at CH
  have hRB : R = if rdDue V.now V.Tq who n = true then some ⟨6, 0, who, n⟩ else none := hR.symm.trans (rdOf_time (g := ⟨4, o, v, r, n⟩) rfl)
  have CD := Lib.hid (fun W (hW : Below w.heap.size w W) => c_udue (h.below hW) hf who 4 o v r n hw hn)
  generalize rdDue V.now V.Tq who n = m at CD hRB
  clear h hf hX hw1 hR hw hn
  cases m
  · have HM : Hid (R = none) := Lib.hid (hRB.trans (by rfl))
    clear hRB
    go_enter Tryz.func28, Tryz.ntmps28
    go_upto_region 1 with fail
    rw [HW.out]
    go_wp2_with (first | (refine ldr (b := w.heap.size) (t := 28) (cs := vC V) (.tmp 3) rfl rfl Tryz.underlying28 rfl info_vd rfl ?_ ?_; (· exact HX.out.ka 0 rfl)) | (refine ldr (b := w.heap.size + 1) (t := 63) (cs := gdC ⟨4, o, v, r, n⟩) (.tmp 5) rfl rfl Tryz.underlying63 rfl info_gd5 rfl ?_ ?_; (· exact HX.out.ka 1 rfl)))
    refine (CH.out _ HX.out.up).mono ?_; rintro e w2 ⟨rfl, hb⟩
    have HE := Lib.hid (HX.out.next hb)
    clear hb
    have m0 := (HE.out.ka 1 rfl).cell 0 _ rfl
    go_wp2_with (first | (refine ldr (b := w.heap.size) (t := 28) (cs := vC V) (.tmp 3) rfl rfl Tryz.underlying28 rfl info_vd rfl ?_ ?_; (· exact HE.out.ka 0 rfl)) | (refine ldr (b := w.heap.size + 1) (t := 63) (cs := gdC ⟨4, o, v, r, n⟩) (.tmp 5) rfl rfl Tryz.underlying63 rfl info_gd5 rfl ?_ ?_; (· exact HE.out.ka 1 rfl)))
    refine (CD.out _ HE.out.up).mono ?_; rintro e w3 ⟨rfl, hb⟩
    have HF := Lib.hid (HE.out.next hb)
    clear hb m0
    obtain ⟨ds, hds, hres⟩ := HF.out.res
    have HRS := Lib.hid hres
    have HD := Lib.hid (show ds.length = 4 from hds)
    clear hds hres
    go_wp2_with (refine str (b := w.heap.size + 2) (t := 42) (cs := evC evZ) (ds := ds) (.tmp 6) (.tmp 97) rfl rfl rfl rfl info_dev HD.out (evC_one _) ?_ ?_; (· exact HRS.out))
    refine bodyPost_ret (v := .tuple #[.agg (evC evZ).toArray, .bool false]) (results_ce (fn := Tryz.f28) (p := 6) (t := 7) rfl _ _ _ rfl (HRS.out.row _) Tryz.underlying42 rfl info_dev) rfl ?_
    exact evp_of HM.out (below_setRow HF.out.up HF.out.lo _)
  · have HM : Hid (R = some ⟨6, 0, who, n⟩) := Lib.hid (hRB.trans (by rfl))
    clear hRB
    go_enter Tryz.func28, Tryz.ntmps28
    go_upto_region 1 with fail
    rw [HW.out]
    go_wp2_with (first | (refine ldr (b := w.heap.size) (t := 28) (cs := vC V) (.tmp 3) rfl rfl Tryz.underlying28 rfl info_vd rfl ?_ ?_; (· exact HX.out.ka 0 rfl)) | (refine ldr (b := w.heap.size + 1) (t := 63) (cs := gdC ⟨4, o, v, r, n⟩) (.tmp 5) rfl rfl Tryz.underlying63 rfl info_gd5 rfl ?_ ?_; (· exact HX.out.ka 1 rfl)))
    refine (CH.out _ HX.out.up).mono ?_; rintro e w2 ⟨rfl, hb⟩
    have HE := Lib.hid (HX.out.next hb)
    clear hb
    have m0 := (HE.out.ka 1 rfl).cell 0 _ rfl
    go_wp2_with (first | (refine ldr (b := w.heap.size) (t := 28) (cs := vC V) (.tmp 3) rfl rfl Tryz.underlying28 rfl info_vd rfl ?_ ?_; (· exact HE.out.ka 0 rfl)) | (refine ldr (b := w.heap.size + 1) (t := 63) (cs := gdC ⟨4, o, v, r, n⟩) (.tmp 5) rfl rfl Tryz.underlying63 rfl info_gd5 rfl ?_ ?_; (· exact HE.out.ka 1 rfl)))
    refine (CD.out _ HE.out.up).mono ?_; rintro e w3 ⟨rfl, hb⟩
    have HF := Lib.hid (HE.out.next hb)
    clear hb m0
    have m0 := (HF.out.ka 1 rfl).cell 4 _ rfl
    obtain ⟨ds, hds, hres⟩ := HF.out.res
    have HRS := Lib.hid hres
    have HD := Lib.hid (show ds.length = 4 from hds)
    clear hds hres
    go_wp2_with (refine str (b := w.heap.size + 2) (t := 42) (cs := evC ⟨6, 0, who, n⟩) (ds := ds) (.tmp 6) (.tmp 78) rfl rfl rfl rfl info_dev HD.out (evC_one _) ?_ ?_; (· exact HRS.out))
    refine bodyPost_ret (v := .tuple #[.agg (evC ⟨6, 0, who, n⟩).toArray, .bool true]) (results_ce (fn := Tryz.f28) (p := 6) (t := 7) rfl _ _ _ rfl (HRS.out.row _) Tryz.underlying42 rfl info_dev) rfl ?_
    exact evp_of HM.out (below_setRow HF.out.up HF.out.lo _)

set_option maxRecDepth 100000 in
set_option maxHeartbeats 4000000 in
theorem c_uof5 {V : VQ} {w : World} (h : VD w V) (hf : Few V) (who o v r n : Int) :
    Calls Tryz.prog 28 #[.agg (vC V).toArray, .int .i64 who, .agg (gdC ⟨5, o, v, r, n⟩).toArray] w (EvPost w (rdOf V.p who ⟨5, o, v, r, n⟩)) := by
  have hX := bl2 w (vC V) 28 (gdC ⟨5, o, v, r, n⟩) 63 evZC 42
  generalize hw1 : ((w.alloc (.cells (vC V).toArray 28)).alloc (.cells (gdC ⟨5, o, v, r, n⟩).toArray 63)).alloc (.cells evZC.toArray 42) = w1 at hX
  have HW := Lib.hid (show ((w.alloc (.cells (vC V).toArray 28)).alloc (.cells (gdC ⟨5, o, v, r, n⟩).toArray 63)).alloc (.cells #[.int .i64 0, .int .i64 0, .int .i64 0, .int .i64 0] 42) = w1 from hw1)
  have HX := Lib.hid hX
  have CH := Lib.hid (fun W (hW : Below w.heap.size w W) => c_uhit (h.below hW) hf ⟨5, o, v, r, n⟩)
  obtain ⟨R, hR⟩ : ∃ R, rdOf V.p who ⟨5, o, v, r, n⟩ = R := ⟨_, rfl⟩
  rw [hR]
  rw [rdHitV_off (g := ⟨5, o, v, r, n⟩) ⟨by exact (by decide : (5 : Int) ≠ 1), by exact (by decide : (5 : Int) ≠ 2)⟩] at CH
  have HM := Lib.hid (hR.symm.trans (rdOf_skip (g := ⟨5, o, v, r, n⟩) rfl))
  clear h hf hX hw1 hR
  go_enter Tryz.func28, Tryz.ntmps28
  go_upto_region 1 with fail
  rw [HW.out]
  go_wp2_with (first | (refine ldr (b := w.heap.size) (t := 28) (cs := vC V) (.tmp 3) rfl rfl Tryz.underlying28 rfl info_vd rfl ?_ ?_; (· exact HX.out.ka 0 rfl)) | (refine ldr (b := w.heap.size + 1) (t := 63) (cs := gdC ⟨5, o, v, r, n⟩) (.tmp 5) rfl rfl Tryz.underlying63 rfl info_gd5 rfl ?_ ?_; (· exact HX.out.ka 1 rfl)))
  refine (CH.out _ HX.out.up).mono ?_; rintro e w2 ⟨rfl, hb⟩
  have HE := Lib.hid (HX.out.next hb)
  clear hb
  have m0 := (HE.out.ka 1 rfl).cell 0 _ rfl
  have m1 := (HE.out.ka 1 rfl).cell 4 _ rfl
  obtain ⟨ds, hds, hres⟩ := HE.out.res
  have HRS := Lib.hid hres
  have HD := Lib.hid (show ds.length = 4 from hds)
  clear hds hres
  go_wp2_with (refine str (b := w.heap.size + 2) (t := 42) (cs := evC ⟨8, 0, who, n⟩) (ds := ds) (.tmp 6) (.tmp 84) rfl rfl rfl rfl info_dev HD.out (evC_one _) ?_ ?_; (· exact HRS.out))
  refine bodyPost_ret (v := .tuple #[.agg (evC ⟨8, 0, who, n⟩).toArray, .bool true]) (results_ce (fn := Tryz.f28) (p := 6) (t := 7) rfl _ _ _ rfl (HRS.out.row _) Tryz.underlying42 rfl info_dev) rfl ?_
  exact evp_of HM.out (below_setRow HE.out.up HE.out.lo _)

set_option maxRecDepth 100000 in
set_option maxHeartbeats 4000000 in
theorem c_uof6 {V : VQ} {w : World} (h : VD w V) (hf : Few V) (who o v r n : Int) :
    Calls Tryz.prog 28 #[.agg (vC V).toArray, .int .i64 who, .agg (gdC ⟨6, o, v, r, n⟩).toArray] w (EvPost w (rdOf V.p who ⟨6, o, v, r, n⟩)) := by
  have hX := bl2 w (vC V) 28 (gdC ⟨6, o, v, r, n⟩) 63 evZC 42
  generalize hw1 : ((w.alloc (.cells (vC V).toArray 28)).alloc (.cells (gdC ⟨6, o, v, r, n⟩).toArray 63)).alloc (.cells evZC.toArray 42) = w1 at hX
  have HW := Lib.hid (show ((w.alloc (.cells (vC V).toArray 28)).alloc (.cells (gdC ⟨6, o, v, r, n⟩).toArray 63)).alloc (.cells #[.int .i64 0, .int .i64 0, .int .i64 0, .int .i64 0] 42) = w1 from hw1)
  have HX := Lib.hid hX
  have CH := Lib.hid (fun W (hW : Below w.heap.size w W) => c_uhit (h.below hW) hf ⟨6, o, v, r, n⟩)
  obtain ⟨R, hR⟩ : ∃ R, rdOf V.p who ⟨6, o, v, r, n⟩ = R := ⟨_, rfl⟩
  rw [hR]
  rw [rdHitV_off (g := ⟨6, o, v, r, n⟩) ⟨by exact (by decide : (6 : Int) ≠ 1), by exact (by decide : (6 : Int) ≠ 2)⟩] at CH
  have hRB : R = if hasL V.Lq v = true then none else some ⟨7, 0, who, n⟩ := hR.symm.trans (rdOf_join (g := ⟨6, o, v, r, n⟩) rfl)
  have CD := Lib.hid (fun W (hW : Below w.heap.size w W) => c_rhas (c := V.Lc) (h.below hW).r.lv (by have := hf.lv; omega) v)
  generalize hasL V.Lq v = m at CD hRB
  clear h hf hX hw1 hR
  cases m
  · have HM : Hid (R = some ⟨7, 0, who, n⟩) := Lib.hid (hRB.trans (by rfl))
    clear hRB
    go_enter Tryz.func28, Tryz.ntmps28
    go_upto_region 1 with fail
    rw [HW.out]
    go_wp2_with (first | (refine ldr (b := w.heap.size) (t := 28) (cs := vC V) (.tmp 3) rfl rfl Tryz.underlying28 rfl info_vd rfl ?_ ?_; (· exact HX.out.ka 0 rfl)) | (refine ldr (b := w.heap.size + 1) (t := 63) (cs := gdC ⟨6, o, v, r, n⟩) (.tmp 5) rfl rfl Tryz.underlying63 rfl info_gd5 rfl ?_ ?_; (· exact HX.out.ka 1 rfl)))
    refine (CH.out _ HX.out.up).mono ?_; rintro e w2 ⟨rfl, hb⟩
    have HE := Lib.hid (HX.out.next hb)
    clear hb
    have m0 := (HE.out.ka 1 rfl).cell 0 _ rfl
    have m1 := (HE.out.ka 0 rfl).cell 5 _ rfl
    have m2 := (HE.out.ka 1 rfl).cell 2 _ rfl
    go_wp2_with fail
    refine (CD.out _ HE.out.up).mono ?_; rintro e w3 ⟨rfl, rfl⟩
    clear m0 m1 m2
    have m0 := (HE.out.ka 1 rfl).cell 4 _ rfl
    obtain ⟨ds, hds, hres⟩ := HE.out.res
    have HRS := Lib.hid hres
    have HD := Lib.hid (show ds.length = 4 from hds)
    clear hds hres
    go_wp2_with (refine str (b := w.heap.size + 2) (t := 42) (cs := evC ⟨7, 0, who, n⟩) (ds := ds) (.tmp 6) (.tmp 96) rfl rfl rfl rfl info_dev HD.out (evC_one _) ?_ ?_; (· exact HRS.out))
    refine bodyPost_ret (v := .tuple #[.agg (evC ⟨7, 0, who, n⟩).toArray, .bool true]) (results_ce (fn := Tryz.f28) (p := 6) (t := 7) rfl _ _ _ rfl (HRS.out.row _) Tryz.underlying42 rfl info_dev) rfl ?_
    exact evp_of HM.out (below_setRow HE.out.up HE.out.lo _)
  · have HM : Hid (R = none) := Lib.hid (hRB.trans (by rfl))
    clear hRB
    go_enter Tryz.func28, Tryz.ntmps28
    go_upto_region 1 with fail
    rw [HW.out]
    go_wp2_with (first | (refine ldr (b := w.heap.size) (t := 28) (cs := vC V) (.tmp 3) rfl rfl Tryz.underlying28 rfl info_vd rfl ?_ ?_; (· exact HX.out.ka 0 rfl)) | (refine ldr (b := w.heap.size + 1) (t := 63) (cs := gdC ⟨6, o, v, r, n⟩) (.tmp 5) rfl rfl Tryz.underlying63 rfl info_gd5 rfl ?_ ?_; (· exact HX.out.ka 1 rfl)))
    refine (CH.out _ HX.out.up).mono ?_; rintro e w2 ⟨rfl, hb⟩
    have HE := Lib.hid (HX.out.next hb)
    clear hb
    have m0 := (HE.out.ka 1 rfl).cell 0 _ rfl
    have m1 := (HE.out.ka 0 rfl).cell 5 _ rfl
    have m2 := (HE.out.ka 1 rfl).cell 2 _ rfl
    go_wp2_with fail
    refine (CD.out _ HE.out.up).mono ?_; rintro e w3 ⟨rfl, rfl⟩
    clear m0 m1 m2
    obtain ⟨ds, hds, hres⟩ := HE.out.res
    have HRS := Lib.hid hres
    have HD := Lib.hid (show ds.length = 4 from hds)
    clear hds hres
    go_wp2_with (refine str (b := w.heap.size + 2) (t := 42) (cs := evC evZ) (ds := ds) (.tmp 6) (.tmp 97) rfl rfl rfl rfl info_dev HD.out (evC_one _) ?_ ?_; (· exact HRS.out))
    refine bodyPost_ret (v := .tuple #[.agg (evC evZ).toArray, .bool false]) (results_ce (fn := Tryz.f28) (p := 6) (t := 7) rfl _ _ _ rfl (HRS.out.row _) Tryz.underlying42 rfl info_dev) rfl ?_
    exact evp_of HM.out (below_setRow HE.out.up HE.out.lo _)

set_option maxRecDepth 100000 in
set_option maxHeartbeats 4000000 in
theorem c_uof0 {V : VQ} {w : World} (h : VD w V) (hf : Few V) (who k o v r n : Int) (hk : k < 1 ∨ 6 < k) :
    Calls Tryz.prog 28 #[.agg (vC V).toArray, .int .i64 who, .agg (gdC ⟨k, o, v, r, n⟩).toArray] w (EvPost w (rdOf V.p who ⟨k, o, v, r, n⟩)) := by
  have hX := bl2 w (vC V) 28 (gdC ⟨k, o, v, r, n⟩) 63 evZC 42
  generalize hw1 : ((w.alloc (.cells (vC V).toArray 28)).alloc (.cells (gdC ⟨k, o, v, r, n⟩).toArray 63)).alloc (.cells evZC.toArray 42) = w1 at hX
  have HW := Lib.hid (show ((w.alloc (.cells (vC V).toArray 28)).alloc (.cells (gdC ⟨k, o, v, r, n⟩).toArray 63)).alloc (.cells #[.int .i64 0, .int .i64 0, .int .i64 0, .int .i64 0] 42) = w1 from hw1)
  have HX := Lib.hid hX
  have CH := Lib.hid (fun W (hW : Below w.heap.size w W) => c_uhit (h.below hW) hf ⟨k, o, v, r, n⟩)
  obtain ⟨R, hR⟩ : ∃ R, rdOf V.p who ⟨k, o, v, r, n⟩ = R := ⟨_, rfl⟩
  rw [hR]
  rw [rdHitV_off (g := ⟨k, o, v, r, n⟩) ⟨by show k ≠ 1; omega, by show k ≠ 2; omega⟩] at CH
  have HM := Lib.hid (hR.symm.trans (rdOf_no (g := ⟨k, o, v, r, n⟩) hk))
  have t1 : (k == 1) = false := beq_eq_false_iff_ne.2 (by omega)
  have t2 : (k == 2) = false := beq_eq_false_iff_ne.2 (by omega)
  have t3 : (k == 3) = false := beq_eq_false_iff_ne.2 (by omega)
  have t4 : (k == 4) = false := beq_eq_false_iff_ne.2 (by omega)
  have t5 : (k == 5) = false := beq_eq_false_iff_ne.2 (by omega)
  have t6 : (k == 6) = false := beq_eq_false_iff_ne.2 (by omega)
  clear h hf hX hw1 hR hk
  go_enter Tryz.func28, Tryz.ntmps28
  go_upto_region 1 with fail
  rw [HW.out]
  go_wp2_with (first | (refine ldr (b := w.heap.size) (t := 28) (cs := vC V) (.tmp 3) rfl rfl Tryz.underlying28 rfl info_vd rfl ?_ ?_; (· exact HX.out.ka 0 rfl)) | (refine ldr (b := w.heap.size + 1) (t := 63) (cs := gdC ⟨k, o, v, r, n⟩) (.tmp 5) rfl rfl Tryz.underlying63 rfl info_gd5 rfl ?_ ?_; (· exact HX.out.ka 1 rfl)))
  refine (CH.out _ HX.out.up).mono ?_; rintro e w2 ⟨rfl, hb⟩
  have HE := Lib.hid (HX.out.next hb)
  clear hb
  have m0 := (HE.out.ka 1 rfl).cell 0 _ rfl
  obtain ⟨ds, hds, hres⟩ := HE.out.res
  have HRS := Lib.hid hres
  have HD := Lib.hid (show ds.length = 4 from hds)
  clear hds hres
  go_wp2_with (refine str (b := w.heap.size + 2) (t := 42) (cs := evC evZ) (ds := ds) (.tmp 6) (.tmp 97) rfl rfl rfl rfl info_dev HD.out (evC_one _) ?_ ?_; (· exact HRS.out))
  refine bodyPost_ret (v := .tuple #[.agg (evC evZ).toArray, .bool false]) (results_ce (fn := Tryz.f28) (p := 6) (t := 7) rfl _ _ _ rfl (HRS.out.row _) Tryz.underlying42 rfl info_dev) rfl ?_
  exact evp_of HM.out (below_setRow HE.out.up HE.out.lo _)

theorem c_uof {V : VQ} {w : World} (h : VD w V) (hf : Few V) (who : Int) (hw : 0 ≤ who ∧ who ≤ 15) (g : GD) (hn : 0 ≤ g.n ∧ g.n ≤ 5) :
    Calls Tryz.prog 28 #[.agg (vC V).toArray, .int .i64 who, .agg (gdC g).toArray] w (EvPost w (rdOf V.p who g)) := by
  obtain ⟨k, o, v, r, n⟩ := g
  by_cases h1 : k = 1
  · subst h1; exact c_uof1 h hf who o v r n
  by_cases h2 : k = 2
  · subst h2; exact c_uof2 h hf who o v r n
  by_cases h3 : k = 3
  · subst h3; exact c_uof3 h hf who o v r n
  by_cases h4 : k = 4
  · subst h4; exact c_uof4 h hf who o v r n hw hn
  by_cases h5 : k = 5
  · subst h5; exact c_uof5 h hf who o v r n
  by_cases h6 : k = 6
  · subst h6; exact c_uof6 h hf who o v r n
  exact c_uof0 h hf who k o v r n (by omega)
end Go.Proofs.YtdiiilnebepfdaaGreatDoor

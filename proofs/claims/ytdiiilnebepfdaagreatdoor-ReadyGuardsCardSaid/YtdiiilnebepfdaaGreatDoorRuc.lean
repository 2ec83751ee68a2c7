/- The document's guards, Guards and Which of layer 29. -/
import Derived.Test.YtdiiilnebepfdaaGreatDoorRub
import Derived.Test.YtdiiilnebepfdaaGreatDoorRel
import Derived.Deep.DeepCutAuto
namespace Go.Proofs.YtdiiilnebepfdaaGreatDoor
open Go.RowKit

theorem ws_who {V : VQ} (hf : Few V) {who : Int} {g : GD} (h : g ∈ rdWs V.p who) : (0 ≤ who ∧ who ≤ 15) ∧ 0 ≤ g.n ∧ g.n ≤ 5 := by
  cases ha : V.Wq.any fun q => q.h == who
  · rw [ws_none ha] at h
    exact absurd h (by simp)
  · obtain ⟨k, q, _, _, _, hg, hm, hh⟩ := ws_at ha
    rw [hg] at h
    have := hf.ws q hm
    rw [hh] at this
    exact ⟨this.2.1, this.2.2 g h⟩
theorem ws_first {V : VQ} {who : Int} {k : Nat} {q : WQ} (hq : V.Wq[k]? = some q) (h0 : (V.Wq.take k).any (fun q => q.h == who) = false) (hh : (q.h == who) = true) : rdWs V.p who = q.gs := by
  have h1 : V.p.Ws.find? (fun x => x.1 == who) = some q.p := by
    refine find_ix (k := k) (l := V.Wq.map WQ.p) (by rw [List.getElem?_map, hq]; rfl) ?_ hh
    rw [← List.map_take, List.any_map]
    exact h0
  unfold rdWs
  rw [h1]
  rfl
set_option maxRecDepth 100000 in
set_option maxHeartbeats 2000000 in
theorem c_ugds {V : VQ} {w : World} (h : VD w V) (hf : Few V) (who : Int) :
    Calls Tryz.prog 27 #[.agg (vC V).toArray, .int .i64 who] w (WsPost V w (rdWs V.p who)) := by
  have hX := bx1 w (vC V) 28
  generalize hw1 : w.alloc (.cells (vC V).toArray 28) = w1 at hX
  have HW := Lib.hid hw1
  have HX := Lib.hid hX
  have HT := Lib.hid (h.below hX.up).r.wt
  have hl16 : (V.Wq.length : Int) ≤ 16 := by have := hf.wt; omega
  obtain ⟨R, hR⟩ : ∃ R, rdWs V.p who = R := ⟨_, rfl⟩
  rw [hR]
  have HF := Lib.hid (fun k q (hq : V.Wq[k]? = some q) h0 hh => hR.symm.trans (ws_first (who := who) hq h0 hh))
  have HN := Lib.hid (fun h0 => hR.symm.trans (ws_none (who := who) h0))
  clear h hf hX hw1 hR
  go_enter Tryz.func27, Tryz.ntmps27
  go_upto_region 1 with fail
  rw [HW.out]
  go_wp2_with fail
  go_loopw [5] (fun i wr => ∃ j : Nat, j ≤ V.Wq.length ∧ i = .int .i64 j ∧ (V.Wq.take j).any (fun q => q.h == who) = false ∧ Below w1.heap.size w1 wr) (fun i _ => V.Wq.length - (intOf i).toNat)
  case atStart => exact ⟨0, Nat.zero_le _, rfl, rfl, Below.refl _ _⟩
  case round =>
    obtain ⟨j, hj, rfl, hany, hbr⟩ := hrel
    have HB := Lib.hid hbr
    have HA := Lib.hid hany
    have c3 : wr.cell? ⟨w.heap.size, 3, none⟩ = some (.slice V.WA V.Wq.length V.Wc) := (HX.out.next hbr).box.cell 3 _ rfl
    have HU := Lib.hid (up_trans HX.out.up hbr)
    by_cases hlt : j < V.Wq.length
    · obtain ⟨B, of, q, hA, _, _, hq, hrg, _⟩ := (HT.out.below hbr).at_ j hlt
      rw [hA] at c3
      have t0 : wr.cell? ⟨B, of + j * 2, none⟩ = some (.int .i64 q.h) := hrg 0 _ rfl
      have t1 : wr.cell? ⟨B, of + j * 2 + 1, none⟩ = some (.slice q.A q.gs.length q.c) := hrg 1 _ rfl
      have hj16 : j ≤ 16 := by omega
      have HQ := Lib.hid hq
      clear hany hbr hA hrg hq
      cases hx : (q.h == who)
      · have HNX := Lib.hid (anyN HQ.out HA.out hx)
        go_wp2_with fail
        go_roundw
        case rel => exact ⟨j + 1, by omega, by go_num, HNX.out, HB.out⟩
        case measure => simp [intOf]; omega
      · have HRR := Lib.hid (HF.out j q HQ.out HA.out hx)
        have HWQ : Hid (∀ W, VR W V → RD W tt 5 q.A q.gs.length (q.gs.flatMap gdC)) := Lib.hid (fun W hW => hW.wt.each q (List.mem_of_getElem? HQ.out))
        go_wp2_with fail
        go_ret
        exact ⟨q.A, q.c, by rw [HRR.out]; rfl, by rw [HRR.out]; exact HWQ.out, HU.out⟩
    · obtain rfl : j = V.Wq.length := by omega
      have HRR := Lib.hid (HN.out (by
        have h9 := HA.out
        rwa [List.take_of_length_le (Nat.le_refl _)] at h9))
      clear hany hbr
      go_wp2_with fail
      go_ret
      exact ⟨none, 0, by rw [HRR.out]; rfl, by rw [HRR.out]; exact fun _ _ => RD.nil _ _ _ _, HU.out⟩

set_option maxRecDepth 100000 in
set_option maxHeartbeats 4000000 in
theorem c_uguards {V : VQ} {w : World} (h : VD w V) (hf : Few V) (who : Int) :
    Calls Tryz.prog 13 #[.agg (vC V).toArray, .int .i64 who] w (IntsPost w (rdGds V.p who)) := by
  have hX := bx1 w (vC V) 28
  generalize hw1 : w.alloc (.cells (vC V).toArray 28) = w1 at hX
  have HW := Lib.hid hw1
  have HX := Lib.hid hX
  have CG := Lib.hid (c_ugds (h.below hX.up) hf who)
  have CO := Lib.hid (fun W (hW : Below w.heap.size w W) g (hg : g ∈ rdWs V.p who) => c_uof (h.below hW) hf who (ws_who hf hg).1 g (ws_who hf hg).2)
  have HV := Lib.hid h.r
  unfold rdGds
  have hfw : (rdWs V.p who).length ≤ 8 := by
    cases ha : V.Wq.any fun q => q.h == who
    · rw [ws_none ha]; simp
    · obtain ⟨k, q, _, _, _, hg, hm, _⟩ := ws_at ha
      rw [hg]
      exact (hf.ws q hm).1
  generalize rdWs V.p who = gs at CG CO hfw
  have HF8 := Lib.hid hfw
  have hfi : (gs.length : Int) ≤ 8 := by omega
  clear h hf hX hw1 hfw
  go_enter Tryz.func13, Tryz.ntmps13
  go_upto_region 1 with fail
  rw [HW.out]
  go_wp2_with (refine ldr (b := w.heap.size) (t := 28) (cs := vC V) (.tmp 2) rfl rfl Tryz.underlying28 rfl info_vd rfl ?_ ?_; (· exact HX.out.box))
  refine CG.out.mono ?_; rintro e w2 ⟨A2, d2, rfl, hr, hb⟩
  have HX2 := Lib.hid (HX.out.next hb)
  have HR := Lib.hid (hr w HV.out)
  clear hb hr CG
  go_wp2_with fail
  go_loopw [5, 7] (fun s i wr => ∃ j : Nat, j ≤ gs.length ∧ i = .int .i64 j ∧ wr.ownsRow w2.heap.size 3 1 s ((gs.take j).filterMap fun g => (rdOf V.p who g).map fun _ => g.n).length (((gs.take j).filterMap fun g => (rdOf V.p who g).map fun _ => g.n).map (Value.int .i64)) ∧ Below w2.heap.size w2 wr) (fun _ i _ => gs.length - (intOf i).toNat)
  case atStart => exact ⟨0, Nat.zero_le _, rfl, World.ownsRow_nil _ _ _ _, Below.refl _ _⟩
  case round =>
    obtain ⟨j, hj, rfl, hown, hbr⟩ := hrel
    have HB := Lib.hid hbr
    have HO := Lib.hid hown
    have HU := Lib.hid (up_trans HX2.out.up hbr)
    by_cases hlt : j < gs.length
    · have hex : ∃ g, gs[j]? = some g := ⟨_, List.getElem?_eq_getElem hlt⟩
      obtain ⟨g, hg⟩ := hex
      obtain ⟨b5, o5, hA, _, hb5, hrg⟩ := RD.row' gdC_len HR.out hg hlt
      subst hA
      have HXr := Lib.hid (HX2.out.next hbr)
      have HRW := Lib.hid (fun W (hW : Below w.heap.size w W) => range_below hrg hW hb5)
      have CO2 := Lib.hid (fun W (hW : Below w.heap.size w W) => CO.out W hW g (List.mem_of_getElem? hg))
      have HN := Lib.hid (fun (hf : (rdOf V.p who g).map (fun _ => g.n) = none) => fm_none (f := fun g => (rdOf V.p who g).map fun _ => g.n) hg hf)
      have HS := Lib.hid (fun (hf : (rdOf V.p who g).map (fun _ => g.n) = some g.n) => fm_some (f := fun g => (rdOf V.p who g).map fun _ => g.n) hg hf)
      have HLN := Lib.hid (fm_len (fun g => (rdOf V.p who g).map fun _ => g.n) gs j)
      generalize rdOf V.p who g = o at CO2 HN HS
      have hj8 : j ≤ 8 := by omega
      have hjn : (j : Int) < (gs.length : Int) := by omega
      clear hown hbr hg hrg hb5
      go_wp2_with fail
      go_cut [9] (fun s9 wx => s9 = .bool o.isSome ∧ Below wr.heap.size wr wx)
      case first =>
        go_wp2_with fail
        refine wp_region_held_drew (S := fun W => Below wr.heap.size wr W) (by kernel_rfl) (up_drewN _ 1) (fun hHeld => ?_)
        refine wpAnyH_take (i := 0) (oi := ?_) (v := (.agg (vC V).toArray)) ?_ (by kernel_rfl) (by kernel_rfl) (by kernel_rfl) ?_ (Or.inl ⟨?_, ?_⟩) hHeld ?_
        rotate_left 1
        · conv => lhs; simp only [List.getElem?_toArray, List.getElem?_cons_succ, List.getElem?_cons_zero]
        · exact fun _ _ _ h => h
        · rfl
        · intro W hSw
          exact tk_load rfl rfl (load_row (HXr.out.next hSw).box Tryz.underlying28 rfl info_vd)
        try simp only [Act.put, List.setIfInBounds_toArray, List.set_cons_zero, List.set_cons_succ]
        refine wpAnyH_take (i := 1) (oi := ?_) (v := ?_) ?_ (by kernel_rfl) (by kernel_rfl) (by kernel_rfl) ?_ (Or.inl ⟨?_, ?_⟩) hHeld ?_
        rotate_left 2
        · conv => lhs; simp only [List.getElem?_toArray, List.getElem?_cons_succ, List.getElem?_cons_zero]
        · exact fun _ _ _ h => h
        · rfl
        · intro W hSw
          go_simp
          try with_reducible rfl
        try simp only [Act.put, List.setIfInBounds_toArray, List.set_cons_zero, List.set_cons_succ]
        refine wpAnyH_take (i := 2) (oi := ?_) (v := ?_) ?_ (by kernel_rfl) (by kernel_rfl) (by kernel_rfl) ?_ (Or.inl ⟨?_, ?_⟩) hHeld ?_
        rotate_left 2
        · conv => lhs; simp only [List.getElem?_toArray, List.getElem?_cons_succ, List.getElem?_cons_zero]
        · exact fun _ _ _ h => h
        · rfl
        · intro W hSw
          go_simp
          try with_reducible rfl
        try simp only [Act.put, List.setIfInBounds_toArray, List.set_cons_zero, List.set_cons_succ]
        refine wpAnyH_take (i := 3) (oi := ?_) (v := ?_) ?_ (by kernel_rfl) (by kernel_rfl) (by kernel_rfl) ?_ (Or.inl ⟨?_, ?_⟩) hHeld ?_
        rotate_left 2
        · conv => lhs; simp only [List.getElem?_toArray, List.getElem?_cons_succ, List.getElem?_cons_zero]
        · exact fun _ _ _ h => h
        · rfl
        · intro W hSw
          go_simp
          try with_reducible rfl
        try simp only [Act.put, List.setIfInBounds_toArray, List.set_cons_zero, List.set_cons_succ]
        refine wpAnyH_take (i := 4) (oi := ?_) (v := ?_) ?_ (by kernel_rfl) (by kernel_rfl) (by kernel_rfl) ?_ (Or.inl ⟨?_, ?_⟩) hHeld ?_
        rotate_left 2
        · conv => lhs; simp only [List.getElem?_toArray, List.getElem?_cons_succ, List.getElem?_cons_zero]
        · exact fun _ _ _ h => h
        · rfl
        · intro W hSw
          go_simp
          try with_reducible rfl
        try simp only [Act.put, List.setIfInBounds_toArray, List.set_cons_zero, List.set_cons_succ]
        refine wpAnyH_take (i := 5) (oi := ?_) (v := (.agg (gdC g).toArray)) ?_ (by kernel_rfl) (by kernel_rfl) (by kernel_rfl) ?_ (Or.inl ⟨?_, ?_⟩) hHeld ?_
        rotate_left 1
        · conv => lhs; simp only [List.getElem?_toArray, List.getElem?_cons_succ, List.getElem?_cons_zero]
        · exact fun _ _ _ h => h
        · rfl
        · intro W hSw
          exact tk_part (q := o5 + j * 5) rfl rfl Tryz.underlying63 rfl info_gd5 (HRW.out _ (up_trans HU.out hSw))
        try simp only [Act.put, List.setIfInBounds_toArray, List.set_cons_zero, List.set_cons_succ]
        refine wpAnyH_ready (rs := [6, 10]) (by kernel_rfl) (by simp) ?_
        refine AllReadyH.cons (o := ?_) ?_ (fun K hK => ?_) ?_
        rotate_left 1
        · conv => lhs; simp only [List.getElem?_toArray, List.getElem?_cons_succ, List.getElem?_cons_zero]
        · go_simp
          refine (CO2.out _ (up_trans HU.out hHeld)).mono ?_
          rintro e wB ⟨rfl, hb⟩
          go_wp2_with fail
          have hsz := hb.size
          skip
          refine hK.out _ _ (up_trans hHeld hb) (fun hHeld => ?_)
          clear hK K
          try simp only [Act.put, List.setIfInBounds_toArray, List.set_cons_zero, List.set_cons_succ]
          refine wpAnyH_take (i := 7) (oi := ?_) (v := ?_) ?_ (by kernel_rfl) (by kernel_rfl) (by kernel_rfl) ?_ (Or.inl ⟨?_, ?_⟩) hHeld ?_
          rotate_left 2
          · conv => lhs; simp only [List.getElem?_toArray, List.getElem?_cons_succ, List.getElem?_cons_zero]
          · exact fun _ _ _ h => h
          · rfl
          · intro W hSw
            go_simp
            try with_reducible rfl
          try simp only [Act.put, List.setIfInBounds_toArray, List.set_cons_zero, List.set_cons_succ]
          refine wpAnyH_take (i := 8) (oi := ?_) (v := ?_) ?_ (by kernel_rfl) (by kernel_rfl) (by kernel_rfl) ?_ (Or.inl ⟨?_, ?_⟩) hHeld ?_
          rotate_left 2
          · conv => lhs; simp only [List.getElem?_toArray, List.getElem?_cons_succ, List.getElem?_cons_zero]
          · exact fun _ _ _ h => h
          · rfl
          · intro W hSw
            go_simp
            try with_reducible rfl
          try simp only [Act.put, List.setIfInBounds_toArray, List.set_cons_zero, List.set_cons_succ]
          refine wpAnyH_take (i := 9) (oi := ?_) (v := ?_) ?_ (by kernel_rfl) (by kernel_rfl) (by kernel_rfl) ?_ (Or.inl ⟨?_, ?_⟩) hHeld ?_
          rotate_left 2
          · conv => lhs; simp only [List.getElem?_toArray, List.getElem?_cons_succ, List.getElem?_cons_zero]
          · exact fun _ _ _ h => h
          · rfl
          · intro W hSw
            go_simp
            try with_reducible rfl
          try simp only [Act.put, List.setIfInBounds_toArray, List.set_cons_zero, List.set_cons_succ]
          have hlo : wr.heap.size ≤ wB.heap.size := hHeld.size
          have hz := Blk.new wB evZC 42
          refine wpAnyH_ready (rs := [10]) (by kernel_rfl) (by simp) ?_
          refine AllReadyH.cons (o := ?_) ?_ (fun K hK => ?_) AllReadyH.nil
          rotate_left 1
          · conv => lhs; simp only [List.getElem?_toArray, List.getElem?_cons_succ, List.getElem?_cons_zero]
          go_simp
          refine hK.out _ _ (up_trans hHeld (up_alloc _ _)) (fun hHeld => ?_)
          clear hK K
          try simp only [Act.put, List.setIfInBounds_toArray, List.set_cons_zero, List.set_cons_succ]
          refine wpAnyH_ready (rs := [11]) (by kernel_rfl) (by simp) ?_
          refine AllReadyH.cons (o := ?_) ?_ (fun K hK => ?_) AllReadyH.nil
          rotate_left 1
          · conv => lhs; simp only [List.getElem?_toArray, List.getElem?_cons_succ, List.getElem?_cons_zero]
          rw [if_pos (by rfl)]
          refine wp_store_row 42 (.tmp 8) (.tmp 27) rfl _ (evC (o.getD evZ)).toArray rfl rfl 42 evZC.toArray hz info_dev rfl (al_one (evC_one _)) ?_
          refine hK.out _ _ (below_setRow hHeld hlo _) (fun hHeld => ?_)
          clear hK K
          refine wpAnyH_take (i := 12) (oi := ?_) (v := ?_) ?_ (by kernel_rfl) (by kernel_rfl) (by kernel_rfl) ?_ (Or.inl ⟨?_, ?_⟩) hHeld ?_
          rotate_left 2
          · conv => lhs; simp only [List.getElem?_toArray, List.getElem?_cons_succ, List.getElem?_cons_zero]
          · exact fun _ _ _ h => h
          · rfl
          · intro W hSw
            go_simp
            try with_reducible rfl
          try simp only [Act.put, List.setIfInBounds_toArray, List.set_cons_zero, List.set_cons_succ]
          refine wpAnyH_done (by kernel_rfl) ?_ _
          go_wp2_with fail
          go_meet
          exact ⟨rfl, hHeld⟩
        refine AllReadyH.cons (o := ?_) ?_ (fun K hK => ?_) AllReadyH.nil
        rotate_left 1
        · conv => lhs; simp only [List.getElem?_toArray, List.getElem?_cons_succ, List.getElem?_cons_zero]
        go_simp
        have hlo : wr.heap.size ≤ wr.drew.heap.size := hHeld.size
        have hz := Blk.new wr.drew evZC 42
        refine hK.out _ _ (up_trans hHeld (up_alloc _ _)) (fun hHeld => ?_)
        clear hK K
        try simp only [Act.put, List.setIfInBounds_toArray, List.set_cons_zero, List.set_cons_succ]
        refine wpAnyH_ready (rs := [6]) (by kernel_rfl) (by simp) ?_
        refine AllReadyH.cons (o := ?_) ?_ (fun K hK => ?_) AllReadyH.nil
        rotate_left 1
        · conv => lhs; simp only [List.getElem?_toArray, List.getElem?_cons_succ, List.getElem?_cons_zero]
        go_simp
        refine (CO2.out _ (up_trans HU.out hHeld)).mono ?_
        rintro e wB ⟨rfl, hb⟩
        go_wp2_with fail
        have hsz := hb.size
        have hz := hz.up hb hz.lt
        refine hK.out _ _ (up_trans hHeld hb) (fun hHeld => ?_)
        clear hK K
        try simp only [Act.put, List.setIfInBounds_toArray, List.set_cons_zero, List.set_cons_succ]
        refine wpAnyH_take (i := 7) (oi := ?_) (v := ?_) ?_ (by kernel_rfl) (by kernel_rfl) (by kernel_rfl) ?_ (Or.inl ⟨?_, ?_⟩) hHeld ?_
        rotate_left 2
        · conv => lhs; simp only [List.getElem?_toArray, List.getElem?_cons_succ, List.getElem?_cons_zero]
        · exact fun _ _ _ h => h
        · rfl
        · intro W hSw
          go_simp
          try with_reducible rfl
        try simp only [Act.put, List.setIfInBounds_toArray, List.set_cons_zero, List.set_cons_succ]
        refine wpAnyH_take (i := 8) (oi := ?_) (v := ?_) ?_ (by kernel_rfl) (by kernel_rfl) (by kernel_rfl) ?_ (Or.inl ⟨?_, ?_⟩) hHeld ?_
        rotate_left 2
        · conv => lhs; simp only [List.getElem?_toArray, List.getElem?_cons_succ, List.getElem?_cons_zero]
        · exact fun _ _ _ h => h
        · rfl
        · intro W hSw
          go_simp
          try with_reducible rfl
        try simp only [Act.put, List.setIfInBounds_toArray, List.set_cons_zero, List.set_cons_succ]
        refine wpAnyH_take (i := 9) (oi := ?_) (v := ?_) ?_ (by kernel_rfl) (by kernel_rfl) (by kernel_rfl) ?_ (Or.inl ⟨?_, ?_⟩) hHeld ?_
        rotate_left 2
        · conv => lhs; simp only [List.getElem?_toArray, List.getElem?_cons_succ, List.getElem?_cons_zero]
        · exact fun _ _ _ h => h
        · rfl
        · intro W hSw
          go_simp
          try with_reducible rfl
        try simp only [Act.put, List.setIfInBounds_toArray, List.set_cons_zero, List.set_cons_succ]
        refine wpAnyH_ready (rs := [11]) (by kernel_rfl) (by simp) ?_
        refine AllReadyH.cons (o := ?_) ?_ (fun K hK => ?_) AllReadyH.nil
        rotate_left 1
        · conv => lhs; simp only [List.getElem?_toArray, List.getElem?_cons_succ, List.getElem?_cons_zero]
        rw [if_pos (by rfl)]
        refine wp_store_row 42 (.tmp 8) (.tmp 27) rfl _ (evC (o.getD evZ)).toArray rfl rfl 42 evZC.toArray hz info_dev rfl (al_one (evC_one _)) ?_
        refine hK.out _ _ (below_setRow hHeld hlo _) (fun hHeld => ?_)
        clear hK K
        refine wpAnyH_take (i := 12) (oi := ?_) (v := ?_) ?_ (by kernel_rfl) (by kernel_rfl) (by kernel_rfl) ?_ (Or.inl ⟨?_, ?_⟩) hHeld ?_
        rotate_left 2
        · conv => lhs; simp only [List.getElem?_toArray, List.getElem?_cons_succ, List.getElem?_cons_zero]
        · exact fun _ _ _ h => h
        · rfl
        · intro W hSw
          go_simp
          try with_reducible rfl
        try simp only [Act.put, List.setIfInBounds_toArray, List.set_cons_zero, List.set_cons_succ]
        refine wpAnyH_done (by kernel_rfl) ?_ _
        go_wp2_with fail
        go_meet
        exact ⟨rfl, hHeld⟩
      case rest =>
        obtain ⟨hs9, hbx⟩ := hcut
        subst hs9
        have HBX := Lib.hid hbx
        have d4 : wc.cell? ⟨b5, o5 + j * 5 + 4, none⟩ = some (.int .i64 g.n) := HRW.out _ (up_trans HU.out hbx) 4 _ rfl
        clear hbx
        cases o with
        | none =>
          have HN2 := Lib.hid (HN.out rfl)
          go_wp2_with fail
          go_roundw
          case rel => exact ⟨j + 1, by omega, by go_num, by rw [HN2.out]; exact own_below HO.out HBX.out, up_trans HB.out HBX.out⟩
          case measure => simp [intOf]; omega
        | some z =>
          have HN2 := Lib.hid (HS.out rfl)
          have hu4 := up_trans HBX.out (up_alloc wc (.cells #[.int .i64 g.n] 3))
          have HO3 := Lib.hid (own_below HO.out hu4)
          have HU4 := Lib.hid hu4
          have HZ : Hid (w2.heap.size ≤ (wc.alloc (.cells #[.int .i64 g.n] 3)).heap.size) := Lib.hid (by have h1 := HB.out.size; have h2 := hu4.size; omega)
          clear hu4
          go_wp2_with (at_builtin; refine wpList_app ei_int rfl (.tmp 30) (.tmp 36) rfl _ _ rfl HO3.out rfl (RD.one rfl) (by simp [Value.oneCell']) (by have := HLN.out; omega) HZ.out ?_; intro v4 w4 hown4 hb4; have HO4 := Lib.hid hown4; have HB4 := Lib.hid hb4; clear hown4 hb4)
          go_roundw
          case rel => exact ⟨j + 1, by omega, by go_num, by rw [HN2.out, List.map_append, List.length_append]; exact HO4.out, (up_trans HB.out HU4.out).trans HB4.out⟩
          case measure => simp [intOf]; omega
    · obtain rfl : j = gs.length := by omega
      have HT : Hid (gs.take gs.length = gs) := Lib.hid (List.take_of_length_le (Nat.le_refl _))
      clear hown hbr
      go_wp2
      go_ret
      have h1 := HO.out
      rw [HT.out] at h1
      exact IntsPost.of' h1 HX2.out.up.size HU.out


set_option maxRecDepth 100000 in
set_option maxHeartbeats 4000000 in
theorem c_uwhich {V : VQ} {w : World} (h : VD w V) (hf : Few V) (who no : Int) :
    Calls Tryz.prog 9 #[.agg (vC V).toArray, .int .i64 who, .int .i64 no] w (EvPost w (rdWhich V.p who no)) := by
  have hX := bl1 w (vC V) 28 evZC 42
  generalize hw1 : (w.alloc (.cells (vC V).toArray 28)).alloc (.cells evZC.toArray 42) = w1 at hX
  have HW := Lib.hid (show (w.alloc (.cells (vC V).toArray 28)).alloc (.cells #[.int .i64 0, .int .i64 0, .int .i64 0, .int .i64 0] 42) = w1 from hw1)
  have HX := Lib.hid hX
  have CG := Lib.hid (c_ugds (h.below hX.up) hf who)
  have CO := Lib.hid (fun W (hW : Below w.heap.size w W) g (hg : g ∈ rdWs V.p who) => c_uof (h.below hW) hf who (ws_who hf hg).1 g (ws_who hf hg).2)
  have HV := Lib.hid h.r
  obtain ⟨R, hR⟩ : ∃ R, rdWhich V.p who no = R := ⟨_, rfl⟩
  rw [hR]
  have HF := Lib.hid (fun k g (hg : (rdWs V.p who)[k]? = some g) h0 hh => hR.symm.trans (which_some (find_ix (p := fun g : GD => g.n == no) hg h0 hh)))
  have HN := Lib.hid (fun h0 => hR.symm.trans (which_none (who := who) (no := no) h0))
  have hfw : (rdWs V.p who).length ≤ 8 := by
    cases ha : V.Wq.any fun q => q.h == who
    · rw [ws_none ha]; simp
    · obtain ⟨k, q, _, _, _, hg, hm, _⟩ := ws_at ha
      rw [hg]
      exact (hf.ws q hm).1
  generalize rdWs V.p who = gs at CG CO hfw HF HN
  have hfi : (gs.length : Int) ≤ 8 := by omega
  clear h hf hX hw1 hfw hR
  go_enter Tryz.func9, Tryz.ntmps9
  go_upto_region 1 with fail
  rw [HW.out]
  go_wp2_with (refine ldr (b := w.heap.size) (t := 28) (cs := vC V) (.tmp 3) rfl rfl Tryz.underlying28 rfl info_vd rfl ?_ ?_; (· exact HX.out.ka 0 rfl))
  refine CG.out.mono ?_; rintro e w2 ⟨A2, d2, rfl, hr, hb⟩
  have HX2 := Lib.hid (HX.out.next hb)
  have HR := Lib.hid (hr w HV.out)
  clear hb hr CG
  go_wp2_with fail
  go_loopw [9] (fun i wr => ∃ j : Nat, j ≤ gs.length ∧ i = .int .i64 j ∧ (gs.take j).any (fun g => g.n == no) = false ∧ Below w2.heap.size w2 wr) (fun i _ => gs.length - (intOf i).toNat)
  case atStart => exact ⟨0, Nat.zero_le _, rfl, rfl, Below.refl _ _⟩
  case round =>
    obtain ⟨j, hj, rfl, hany, hbr⟩ := hrel
    have HB := Lib.hid hbr
    have HA := Lib.hid hany
    have HX := Lib.hid (HX2.out.next hbr)
    by_cases hlt : j < gs.length
    · have hex : ∃ g, gs[j]? = some g := ⟨_, List.getElem?_eq_getElem hlt⟩
      obtain ⟨g, hg⟩ := hex
      obtain ⟨b5, o5, hA, _, hb5, hrg⟩ := RD.row' gdC_len HR.out hg hlt
      subst hA
      have HRG := Lib.hid (range_below hrg HX.out.up hb5)
      have HNE : Hid (b5 ≠ w.heap.size + 1) := Lib.hid (by omega)
      have CO2 := Lib.hid (fun W (hW : Below w.heap.size w W) => CO.out W hW g (List.mem_of_getElem? hg))
      have HG := Lib.hid hg
      have hj8 : j ≤ 8 := by omega
      have hjn : (j : Int) < (gs.length : Int) := by omega
      have d4 : wr.cell? ⟨b5, o5 + j * 5 + 4, none⟩ = some (.int .i64 g.n) := HRG.out 4 _ rfl
      clear hany hbr hg hrg hb5
      cases hx : (g.n == no)
      · have HNX := Lib.hid (anyN HG.out HA.out hx)
        go_wp2_with fail
        go_roundw
        case rel => exact ⟨j + 1, by omega, by go_num, HNX.out, HB.out⟩
        case measure => simp [intOf]; omega
      · have HE := Lib.hid (HF.out j g HG.out HA.out hx)
        generalize rdOf V.p who g = o at CO2 HE
        go_wp2_with fail
        refine wp_region_held_drew (S := fun W => BL w [(w.heap.size, vC V, 28)] (w.heap.size + 1) 4 42 W ∧ W.rangeAt b5 (o5 + j * 5) (gdC g)) (by kernel_rfl) ⟨HX.out.next (up_drewN _ 1), HRG.out⟩ (fun hHeld => ?_)
        refine wpAnyH_take (i := 0) (oi := ?_) (v := (.agg (vC V).toArray)) ?_ (by kernel_rfl) (by kernel_rfl) (by kernel_rfl) ?_ (Or.inl ⟨?_, ?_⟩) hHeld ?_
        rotate_left 1
        · conv => lhs; simp only [List.getElem?_toArray, List.getElem?_cons_succ, List.getElem?_cons_zero]
        · exact fun _ _ _ h => h
        · rfl
        · intro W hSw
          exact tk_load rfl rfl (load_row (hSw.1.ka 0 rfl) Tryz.underlying28 rfl info_vd)
        try simp only [Act.put, List.setIfInBounds_toArray, List.set_cons_zero, List.set_cons_succ]
        refine wpAnyH_take (i := 1) (oi := ?_) (v := ?_) ?_ (by kernel_rfl) (by kernel_rfl) (by kernel_rfl) ?_ (Or.inl ⟨?_, ?_⟩) hHeld ?_
        rotate_left 2
        · conv => lhs; simp only [List.getElem?_toArray, List.getElem?_cons_succ, List.getElem?_cons_zero]
        · exact fun _ _ _ h => h
        · rfl
        · intro W hSw
          go_simp
          try with_reducible rfl
        try simp only [Act.put, List.setIfInBounds_toArray, List.set_cons_zero, List.set_cons_succ]
        refine wpAnyH_take (i := 2) (oi := ?_) (v := ?_) ?_ (by kernel_rfl) (by kernel_rfl) (by kernel_rfl) ?_ (Or.inl ⟨?_, ?_⟩) hHeld ?_
        rotate_left 2
        · conv => lhs; simp only [List.getElem?_toArray, List.getElem?_cons_succ, List.getElem?_cons_zero]
        · exact fun _ _ _ h => h
        · rfl
        · intro W hSw
          go_simp
          try with_reducible rfl
        try simp only [Act.put, List.setIfInBounds_toArray, List.set_cons_zero, List.set_cons_succ]
        refine wpAnyH_take (i := 3) (oi := ?_) (v := ?_) ?_ (by kernel_rfl) (by kernel_rfl) (by kernel_rfl) ?_ (Or.inl ⟨?_, ?_⟩) hHeld ?_
        rotate_left 2
        · conv => lhs; simp only [List.getElem?_toArray, List.getElem?_cons_succ, List.getElem?_cons_zero]
        · exact fun _ _ _ h => h
        · rfl
        · intro W hSw
          go_simp
          try with_reducible rfl
        try simp only [Act.put, List.setIfInBounds_toArray, List.set_cons_zero, List.set_cons_succ]
        refine wpAnyH_take (i := 4) (oi := ?_) (v := ?_) ?_ (by kernel_rfl) (by kernel_rfl) (by kernel_rfl) ?_ (Or.inl ⟨?_, ?_⟩) hHeld ?_
        rotate_left 2
        · conv => lhs; simp only [List.getElem?_toArray, List.getElem?_cons_succ, List.getElem?_cons_zero]
        · exact fun _ _ _ h => h
        · rfl
        · intro W hSw
          go_simp
          try with_reducible rfl
        try simp only [Act.put, List.setIfInBounds_toArray, List.set_cons_zero, List.set_cons_succ]
        refine wpAnyH_take (i := 5) (oi := ?_) (v := (.agg (gdC g).toArray)) ?_ (by kernel_rfl) (by kernel_rfl) (by kernel_rfl) ?_ (Or.inl ⟨?_, ?_⟩) hHeld ?_
        rotate_left 1
        · conv => lhs; simp only [List.getElem?_toArray, List.getElem?_cons_succ, List.getElem?_cons_zero]
        · exact fun _ _ _ h => h
        · rfl
        · intro W hSw
          exact tk_part (q := o5 + j * 5) rfl rfl Tryz.underlying63 rfl info_gd5 hSw.2
        try simp only [Act.put, List.setIfInBounds_toArray, List.set_cons_zero, List.set_cons_succ]
        refine wpAnyH_ready (rs := [6]) (by kernel_rfl) (by simp) ?_
        refine AllReadyH.cons (o := ?_) ?_ (fun K hK => ?_) AllReadyH.nil
        rotate_left 1
        · conv => lhs; simp only [List.getElem?_toArray, List.getElem?_cons_succ, List.getElem?_cons_zero]
        go_simp
        refine (CO2.out _ hHeld.1.up).mono ?_
        rintro e wA ⟨rfl, hb⟩
        go_wp2_with fail
        refine hK.out _ _ (⟨hHeld.1.next hb, fun j' v hv => (hb.cell (p := ⟨b5, o5 + j * 5 + j', none⟩) (lt_of_range hHeld.2)).trans (hHeld.2 j' v hv)⟩) (fun hHeld => ?_)
        clear hK K
        try simp only [Act.put, List.setIfInBounds_toArray, List.set_cons_zero, List.set_cons_succ]
        refine wpAnyH_take (i := 7) (oi := ?_) (v := ?_) ?_ (by kernel_rfl) (by kernel_rfl) (by kernel_rfl) ?_ (Or.inl ⟨?_, ?_⟩) hHeld ?_
        rotate_left 2
        · conv => lhs; simp only [List.getElem?_toArray, List.getElem?_cons_succ, List.getElem?_cons_zero]
        · exact fun _ _ _ h => h
        · rfl
        · intro W hSw
          go_simp
          try with_reducible rfl
        try simp only [Act.put, List.setIfInBounds_toArray, List.set_cons_zero, List.set_cons_succ]
        refine wpAnyH_take (i := 8) (oi := ?_) (v := ?_) ?_ (by kernel_rfl) (by kernel_rfl) (by kernel_rfl) ?_ (Or.inl ⟨?_, ?_⟩) hHeld ?_
        rotate_left 2
        · conv => lhs; simp only [List.getElem?_toArray, List.getElem?_cons_succ, List.getElem?_cons_zero]
        · exact fun _ _ _ h => h
        · rfl
        · intro W hSw
          go_simp
          try with_reducible rfl
        try simp only [Act.put, List.setIfInBounds_toArray, List.set_cons_zero, List.set_cons_succ]
        obtain ⟨ds, hds, hres⟩ := hHeld.1.res
        refine wpAnyH_ready (rs := [9]) (by kernel_rfl) (by simp) ?_
        refine AllReadyH.cons (o := ?_) ?_ (fun K hK => ?_) AllReadyH.nil
        rotate_left 1
        · conv => lhs; simp only [List.getElem?_toArray, List.getElem?_cons_succ, List.getElem?_cons_zero]
        rw [if_pos (by rfl)]
        refine wp_store_row 42 (.tmp 6) (.tmp 33) rfl (w.heap.size + 1) (evC (o.getD evZ)).toArray rfl rfl 42 ds.toArray hres info_dev (by rw [List.size_toArray, List.size_toArray, hds]; rfl) (al_one (evC_one _)) ?_
        refine hK.out _ _ (⟨hHeld.1.put (evC (o.getD evZ)) rfl, range_row hHeld.2 HNE.out _⟩) (fun hHeld => ?_)
        clear hK K
        refine wpAnyH_take (i := 10) (oi := ?_) (v := ?_) ?_ (by kernel_rfl) (by kernel_rfl) (by kernel_rfl) ?_ (Or.inl ⟨?_, ?_⟩) hHeld ?_
        rotate_left 2
        · conv => lhs; simp only [List.getElem?_toArray, List.getElem?_cons_succ, List.getElem?_cons_zero]
        · exact fun _ _ _ h => h
        · rfl
        · intro W hSw
          go_simp
          try with_reducible rfl
        try simp only [Act.put, List.setIfInBounds_toArray, List.set_cons_zero, List.set_cons_succ]
        refine wpAnyH_done (by kernel_rfl) ?_ _
        go_wp2_with fail
        refine bodyPost_ret (v := .tuple #[.agg (evC (o.getD evZ)).toArray, .bool o.isSome]) (results_ce (fn := Tryz.f9) (p := 6) (t := 7) rfl _ _ _ rfl (hres.row _) Tryz.underlying42 rfl info_dev) rfl ?_
        exact evp_of HE.out hHeld.1.up
    · obtain rfl : j = gs.length := by omega
      have HE := Lib.hid (HN.out (by
        have h9 := HA.out
        rwa [List.take_of_length_le (Nat.le_refl _)] at h9))
      clear hany hbr
      obtain ⟨ds, hds, hres⟩ := HX.out.res
      have HRS := Lib.hid hres
      have HD := Lib.hid (show ds.length = 4 from hds)
      clear hds hres
      go_wp2_with (refine str (b := w.heap.size + 1) (t := 42) (cs := evZC) (ds := ds) (.tmp 6) (.tmp 35) rfl rfl rfl rfl info_dev HD.out (evC_one evZ) ?_ ?_; (· exact HRS.out))
      refine bodyPost_ret (v := .tuple #[.agg evZC.toArray, .bool false]) (results_ce (fn := Tryz.f9) (p := 6) (t := 7) rfl _ _ _ rfl (HRS.out.row _) Tryz.underlying42 rfl info_dev) rfl ?_
      exact evp_of HE.out (below_setRow HX.out.up HX.out.lo _)
end Go.Proofs.YtdiiilnebepfdaaGreatDoor

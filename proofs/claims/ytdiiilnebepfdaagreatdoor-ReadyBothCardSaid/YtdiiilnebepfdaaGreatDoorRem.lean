/- Package ready: Events. -/
import Derived.Test.YtdiiilnebepfdaaGreatDoorRek
import Derived.Test.YtdiiilnebepfdaaGreatDoorRel
namespace Go.Proofs.YtdiiilnebepfdaaGreatDoor
open Go.RowKit

theorem asks_next {V : VQ} {k : Nat} {q : WQ} (hq : V.Wq[k]? = some q) : ((V.Wq.take (k + 1)).map WQ.p).flatMap (fun x => x.2.filterMap (rdOf V.p x.1)) = ((V.Wq.take k).map WQ.p).flatMap (fun x => x.2.filterMap (rdOf V.p x.1)) ++ q.gs.filterMap (rdOf V.p q.h) := by
  rw [List.take_add_one, hq, List.map_append, List.flatMap_append]
  simp [WQ.p]
theorem asks_len {V : VQ} (hf : Few V) : ∀ k, k ≤ V.Wq.length → (((V.Wq.take k).map WQ.p).flatMap (fun x => x.2.filterMap (rdOf V.p x.1))).length ≤ 8 * k
  | 0, _ => by simp
  | k + 1, hk => by
    have ih := asks_len hf k (by omega)
    have hq : V.Wq[k]? = some (V.Wq[k]'(by omega)) := List.getElem?_eq_getElem _
    rw [asks_next hq, List.length_append]
    have h1 := (hf.ws _ (List.mem_of_getElem? hq)).1
    have h2 := List.length_filterMap_le (rdOf V.p (V.Wq[k]'(by omega)).h) (V.Wq[k]'(by omega)).gs
    omega
theorem asks_all (V : VQ) : rdAsks V.p = (V.Wq.map WQ.p).flatMap (fun x => x.2.filterMap (rdOf V.p x.1)) := rfl
theorem ev_all (V : VQ) : rdEvents V.p = seAll [⟨none, 0, (rdyL 0 V.Bq).map evFire⟩, ⟨none, 0, (mvL 0 V.p.Cs).map evMove⟩, ⟨none, 0, rdOnly 5 (rdAsks V.p)⟩, ⟨none, 0, V.Tq.filterMap (rdDueE V.now)⟩, ⟨none, 0, rdOnly 7 (rdAsks V.p)⟩, ⟨none, 0, rdOnly 8 (rdAsks V.p)⟩] := by
  unfold rdEvents seAll
  simp only [List.flatMap_cons, List.flatMap_nil, List.append_nil]
  rfl
set_option maxRecDepth 100000 in
set_option maxHeartbeats 4000000 in
theorem c_events {V : VQ} {w : World} (h : VW w V) (hf : FewV V) (hT : TabD w) :
    Calls Tryz.prog 15 #[.agg (vC V).toArray] w (EvsP w (rdEvents V.p)) := by
  have hX := bx1 w (vC V) 40
  generalize hw1 : w.alloc (.cells (vC V).toArray 40) = w1 at hX
  have HW := Lib.hid hw1
  have HX := Lib.hid hX
  have HWT := Lib.hid (h.below hX.up).r.wt
  have c3 : w1.cell? ⟨w.heap.size, 3, none⟩ = some (.slice V.WA V.Wq.length V.Wc) := hX.box.cell 3 _ rfl
  obtain ⟨WA, hWA⟩ : ∃ x, V.WA = x := ⟨_, rfl⟩
  rw [hWA] at c3 HWT
  have hl16 : (V.Wq.length : Int) ≤ 16 := by have := hf.f.wt; omega
  have CE := Lib.hid (fun (k : Nat) (q : WQ) (hq : V.Wq[k]? = some q) (W : World) (b1 : Nat) (hW : Below w.heap.size w W) (hb0 : Blk W w.heap.size (vC V) 40) (hb1 : Blk W b1 (wqC q) 61) =>
    c_eachGE (f := rdOf V.p q.h) (c := q.c) ((h.below hW).r.wt.each q (List.mem_of_getElem? hq)) rfl (by have := (hf.f.ws q (List.mem_of_getElem? hq)).1; omega) (c1 := .pointer (some ⟨w.heap.size, 0, none⟩)) (c2 := .pointer (some ⟨b1, 0, none⟩))
      (fun x hx W' hW' => c_events1 (h.below (up_trans hW hW')) hf (hT.up (up_trans hW hW')) q x ((hf.f.ws q (List.mem_of_getElem? hq)).2.2 x hx) w.heap.size b1 (hb0.up hW' hb0.lt) (hb1.up hW' hb1.lt)))
  have HAN := Lib.hid (fun k q (hq : V.Wq[k]? = some q) => asks_next hq)
  have HAL := Lib.hid (asks_len hf.f)
  have HGL := Lib.hid (fun k q (hq : V.Wq[k]? = some q) => (hf.f.ws q (List.mem_of_getElem? hq)).1)
  have CF := Lib.hid (fun W (hW : Below w.heap.size w W) => c_fires (h.below hW) hf (hT.up hW))
  have CM := Lib.hid (fun W (hW : Below w.heap.size w W) => c_rmoves (h.below hW) hf)
  have CD := Lib.hid (fun W (hW : Below w.heap.size w W) => c_rdues (h.below hW) hf)
  have HL1 : Hid (((rdyL 0 V.Bq).map evFire).length ≤ 10) := Lib.hid (by rw [List.length_map]; have := rdyL_len V.Bq 0; have := hf.f.br; omega)
  have HL2 : Hid (((mvL 0 V.p.Cs).map evMove).length ≤ 30) := Lib.hid (by
    rw [List.length_map]
    have h1 := mvL_len V.p.Cs 0
    have h2 : V.p.Cs.length = V.Cq.length := List.length_map _
    have := hf.f.ch
    omega)
  have HL4 : Hid ((V.Tq.filterMap (rdDueE V.now)).length ≤ 40) := Lib.hid (Nat.le_trans (List.length_filterMap_le _ _) hf.f.tm)
  have HEV := Lib.hid (ev_all V)
  obtain ⟨R, hR⟩ : ∃ R, rdEvents V.p = R := ⟨_, rfl⟩
  rw [hR] at HEV ⊢
  have HAA := Lib.hid (asks_all V)
  generalize rdAsks V.p = asks at HEV HAA
  generalize (rdyL 0 V.Bq).map evFire = l1 at CF HL1 HEV
  generalize (mvL 0 V.p.Cs).map evMove = l2 at CM HL2 HEV
  generalize V.Tq.filterMap (rdDueE V.now) = l4 at CD HL4 HEV
  clear h hf hT hX hw1 hR hWA
  go_enter Tryz.func15, Tryz.ntmps15
  go_upto_region 1 with fail
  rw [HW.out]
  go_wp2_with fail
  go_loopw [3, 9] (fun s i wr => ∃ k : Nat, k ≤ V.Wq.length ∧ i = .int .i64 k ∧ wr.ownsRow w1.heap.size 32 4 s (((V.Wq.take k).map WQ.p).flatMap (fun x => x.2.filterMap (rdOf V.p x.1))).length ((((V.Wq.take k).map WQ.p).flatMap (fun x => x.2.filterMap (rdOf V.p x.1))).flatMap evC) ∧ Below w1.heap.size w1 wr) (fun _ i _ => V.Wq.length - (intOf i).toNat)
  case atStart => exact ⟨0, Nat.zero_le _, rfl, World.ownsRow_nil _ _ _ _, Below.refl _ _⟩
  case round =>
    obtain ⟨k, hk, rfl, hown, hbr⟩ := hrel
    have HB := Lib.hid hbr
    by_cases hlt : k < V.Wq.length
    · obtain ⟨B, of, q, hA, _, _, hq, hrg, _⟩ := (HWT.out.below hbr).at_ k hlt
      have HN := Lib.hid (HAN.out k q hq)
      have HLN := Lib.hid (HAL.out k hk)
      have HG8 := Lib.hid (HGL.out k q hq)
      have HRG : Hid (wr.rangeAt B (of + k * 2) (wqC q)) := Lib.hid hrg
      have hbx := Blk.new wr (wqC q) 61
      have hup := up_alloc wr (.cells (wqC q).toArray 61)
      have q1 : (wr.alloc (.cells (wqC q).toArray 61)).cell? ⟨wr.heap.size, 1, none⟩ = some (.slice q.A q.gs.length q.c) := hbx.cell 1 _ rfl
      have CE2 := Lib.hid (CE.out k q hq _ wr.heap.size (up_trans HX.out.up (up_trans hbr hup)) ((HX.out.next (up_trans hbr hup)).box) hbx)
      generalize ((V.Wq.take k).map WQ.p).flatMap (fun x => x.2.filterMap (rdOf V.p x.1)) = Z at hown HN HLN
      have HGF := Lib.hid (List.length_filterMap_le (rdOf V.p q.h) q.gs)
      generalize q.gs.filterMap (rdOf V.p q.h) = Y at CE2 HN HGF
      have HO := Lib.hid hown
      have HUP := Lib.hid hup
      have hk16 : k ≤ 16 := by omega
      subst hA
      clear hown hbr hq hrg hbx hup
      go_wp2_with (first | (refine lmr (b := B) (q := of + k * 2) (cs := wqC q) (.tmp 11) rfl rfl Tryz.underlying61 rfl info_wt rfl ?_ ?_; (· exact HRG.out)) | (refine snr (W := wr) (cs := wqC q) (zs := [.int .i64 0, .slice none 0 0]) (t := 61) (.tmp 5) (.tmp 12) rfl rfl rfl rfl info_wt rfl wqC_one ?_ ?_ ?_; (· rfl); (· rfl)))
      refine CE2.out.mono ?_; rintro e w3 ⟨A3, d3, rfl, h1, h2, hr3, hb3⟩
      have HU3 := Lib.hid (up_trans HUP.out hb3)
      have HO3 := Lib.hid (own_below HO.out HU3.out)
      have HR3 := Lib.hid hr3
      have HZ : Hid (w1.heap.size ≤ w3.heap.size) := Lib.hid (by have h1 := HB.out.size; have h2 := HU3.out.size; omega)
      have HYL : Hid (Z.length + Y.length ≤ 1000000) := Lib.hid (by have := HLN.out; have := HGF.out; have := HG8.out; omega)
      clear h1 h2 hr3 hb3 q1
      go_wp2_with (at_builtin; refine wpList_app ei_ev rfl (.tmp 13) (.tmp 17) rfl _ _ rfl HO3.out rfl HR3.out (evL_one Y) HYL.out HZ.out ?_; intro v4 w4 hown4 hb4; have HO4 := Lib.hid hown4; have HB4 := Lib.hid hb4; clear hown4 hb4)
      go_roundw
      case rel => exact ⟨k + 1, by omega, by go_num, by rw [HN.out, List.flatMap_append, List.length_append]; exact HO4.out, (up_trans HB.out HU3.out).trans HB4.out⟩
      case measure => simp [intOf]; omega
    · obtain rfl : k = V.Wq.length := by omega
      have HLN := Lib.hid (HAL.out _ (Nat.le_refl _))
      have hae : ((V.Wq.take V.Wq.length).map WQ.p).flatMap (fun x => x.2.filterMap (rdOf V.p x.1)) = asks := by rw [List.take_of_length_le (Nat.le_refl _)]; exact HAA.out.symm
      rw [hae] at hown HLN
      obtain ⟨A0, c0, rfl, _, _, hr0⟩ := own_slice hown
      have HR0 := Lib.hid hr0
      have hl9 : asks.length ≤ 128 := by have := HLN.out; omega
      have HL9 := Lib.hid hl9
      have CO := Lib.hid (fun W (hW : Below wr.heap.size wr W) k => c_ronly (c := c0) (HR0.out.below hW) (by omega) k)
      have HLO : Hid (∀ k, (rdOnly k asks).length ≤ asks.length) := Lib.hid (fun k => List.length_filter_le (fun e : EV => e.k == k) asks)
      have HU := Lib.hid (up_trans HX.out.up hbr)
      have HXr := Lib.hid (HX.out.next hbr)
      clear hown hbr hr0 hae hl9
      go_wp2_with fail
      refine wp_region_held_drew (S := fun W => Below wr.heap.size wr W) (by kernel_rfl) (up_drewN _ 1) (fun hHeld => ?_)
      refine wpAnyH_take (i := 0) (oi := ?_) (v := (.agg (vC V).toArray)) ?_ (by kernel_rfl) (by kernel_rfl) (by kernel_rfl) ?_ (Or.inl ⟨?_, ?_⟩) hHeld ?_
      rotate_left 1
      · conv => lhs; simp only [List.getElem?_toArray, List.getElem?_cons_succ, List.getElem?_cons_zero]
      · exact fun _ _ _ h => h
      · rfl
      · intro W hSw
        exact tk_load rfl rfl (load_row (HXr.out.next hSw).box Tryz.underlying40 rfl info_vw)
      try simp only [Act.put, List.setIfInBounds_toArray, List.set_cons_zero, List.set_cons_succ]
      refine wpAnyH_take (i := 2) (oi := ?_) (v := (.agg (vC V).toArray)) ?_ (by kernel_rfl) (by kernel_rfl) (by kernel_rfl) ?_ (Or.inl ⟨?_, ?_⟩) hHeld ?_
      rotate_left 1
      · conv => lhs; simp only [List.getElem?_toArray, List.getElem?_cons_succ, List.getElem?_cons_zero]
      · exact fun _ _ _ h => h
      · rfl
      · intro W hSw
        exact tk_load rfl rfl (load_row (HXr.out.next hSw).box Tryz.underlying40 rfl info_vw)
      try simp only [Act.put, List.setIfInBounds_toArray, List.set_cons_zero, List.set_cons_succ]
      refine wpAnyH_take (i := 4) (oi := ?_) (v := ?_) ?_ (by kernel_rfl) (by kernel_rfl) (by kernel_rfl) ?_ (Or.inl ⟨?_, ?_⟩) hHeld ?_
      rotate_left 2
      · conv => lhs; simp only [List.getElem?_toArray, List.getElem?_cons_succ, List.getElem?_cons_zero]
      · exact fun _ _ _ h => h
      · rfl
      · intro W hSw
        go_simp
        try with_reducible rfl
      try simp only [Act.put, List.setIfInBounds_toArray, List.set_cons_zero, List.set_cons_succ]
      refine wpAnyH_take (i := 6) (oi := ?_) (v := (.agg (vC V).toArray)) ?_ (by kernel_rfl) (by kernel_rfl) (by kernel_rfl) ?_ (Or.inl ⟨?_, ?_⟩) hHeld ?_
      rotate_left 1
      · conv => lhs; simp only [List.getElem?_toArray, List.getElem?_cons_succ, List.getElem?_cons_zero]
      · exact fun _ _ _ h => h
      · rfl
      · intro W hSw
        exact tk_load rfl rfl (load_row (HXr.out.next hSw).box Tryz.underlying40 rfl info_vw)
      try simp only [Act.put, List.setIfInBounds_toArray, List.set_cons_zero, List.set_cons_succ]
      refine wpAnyH_take (i := 8) (oi := ?_) (v := ?_) ?_ (by kernel_rfl) (by kernel_rfl) (by kernel_rfl) ?_ (Or.inl ⟨?_, ?_⟩) hHeld ?_
      rotate_left 2
      · conv => lhs; simp only [List.getElem?_toArray, List.getElem?_cons_succ, List.getElem?_cons_zero]
      · exact fun _ _ _ h => h
      · rfl
      · intro W hSw
        go_simp
        try with_reducible rfl
      try simp only [Act.put, List.setIfInBounds_toArray, List.set_cons_zero, List.set_cons_succ]
      refine wpAnyH_take (i := 10) (oi := ?_) (v := ?_) ?_ (by kernel_rfl) (by kernel_rfl) (by kernel_rfl) ?_ (Or.inl ⟨?_, ?_⟩) hHeld ?_
      rotate_left 2
      · conv => lhs; simp only [List.getElem?_toArray, List.getElem?_cons_succ, List.getElem?_cons_zero]
      · exact fun _ _ _ h => h
      · rfl
      · intro W hSw
        go_simp
        try with_reducible rfl
      try simp only [Act.put, List.setIfInBounds_toArray, List.set_cons_zero, List.set_cons_succ]
      refine wpAnyH_ready (rs := [1]) (by kernel_rfl) (by simp) ?_
      refine AllReadyH.cons (o := ?_) ?_ (fun K hK => ?_) AllReadyH.nil
      rotate_left 1
      · conv => lhs; simp only [List.getElem?_toArray, List.getElem?_cons_succ, List.getElem?_cons_zero]
      go_simp
      refine (CF.out _ (up_trans HU.out hHeld)).mono ?_
      rintro e wA1 ⟨A1, d1, rfl, -, -, hr1, hb⟩
      go_wp2_with fail
      refine hK.out _ _ (up_trans hHeld hb) (fun hHeld => ?_)
      clear hK K
      try simp only [Act.put, List.setIfInBounds_toArray, List.set_cons_zero, List.set_cons_succ]
      refine wpAnyH_ready (rs := [3]) (by kernel_rfl) (by simp) ?_
      refine AllReadyH.cons (o := ?_) ?_ (fun K hK => ?_) AllReadyH.nil
      rotate_left 1
      · conv => lhs; simp only [List.getElem?_toArray, List.getElem?_cons_succ, List.getElem?_cons_zero]
      go_simp
      refine (CM.out _ (up_trans HU.out hHeld)).mono ?_
      rintro e wA2 ⟨A2, d2, rfl, -, -, hr2, hb⟩
      have hr1 := hr1.below hb
      go_wp2_with fail
      refine hK.out _ _ (up_trans hHeld hb) (fun hHeld => ?_)
      clear hK K
      try simp only [Act.put, List.setIfInBounds_toArray, List.set_cons_zero, List.set_cons_succ]
      refine wpAnyH_ready (rs := [5]) (by kernel_rfl) (by simp) ?_
      refine AllReadyH.cons (o := ?_) ?_ (fun K hK => ?_) AllReadyH.nil
      rotate_left 1
      · conv => lhs; simp only [List.getElem?_toArray, List.getElem?_cons_succ, List.getElem?_cons_zero]
      go_simp
      refine (CO.out _ hHeld 5).mono ?_
      rintro e wA3 ⟨A3, d3, rfl, -, -, hr3, hb⟩
      have hr1 := hr1.below hb
      have hr2 := hr2.below hb
      go_wp2_with fail
      refine hK.out _ _ (up_trans hHeld hb) (fun hHeld => ?_)
      clear hK K
      try simp only [Act.put, List.setIfInBounds_toArray, List.set_cons_zero, List.set_cons_succ]
      refine wpAnyH_ready (rs := [7]) (by kernel_rfl) (by simp) ?_
      refine AllReadyH.cons (o := ?_) ?_ (fun K hK => ?_) AllReadyH.nil
      rotate_left 1
      · conv => lhs; simp only [List.getElem?_toArray, List.getElem?_cons_succ, List.getElem?_cons_zero]
      go_simp
      refine (CD.out _ (up_trans HU.out hHeld)).mono ?_
      rintro e wA4 ⟨A4, d4, rfl, -, -, hr4, hb⟩
      have hr1 := hr1.below hb
      have hr2 := hr2.below hb
      have hr3 := hr3.below hb
      go_wp2_with fail
      refine hK.out _ _ (up_trans hHeld hb) (fun hHeld => ?_)
      clear hK K
      try simp only [Act.put, List.setIfInBounds_toArray, List.set_cons_zero, List.set_cons_succ]
      refine wpAnyH_ready (rs := [9]) (by kernel_rfl) (by simp) ?_
      refine AllReadyH.cons (o := ?_) ?_ (fun K hK => ?_) AllReadyH.nil
      rotate_left 1
      · conv => lhs; simp only [List.getElem?_toArray, List.getElem?_cons_succ, List.getElem?_cons_zero]
      go_simp
      refine (CO.out _ hHeld 7).mono ?_
      rintro e wA5 ⟨A5, d5, rfl, -, -, hr5, hb⟩
      have hr1 := hr1.below hb
      have hr2 := hr2.below hb
      have hr3 := hr3.below hb
      have hr4 := hr4.below hb
      go_wp2_with fail
      refine hK.out _ _ (up_trans hHeld hb) (fun hHeld => ?_)
      clear hK K
      try simp only [Act.put, List.setIfInBounds_toArray, List.set_cons_zero, List.set_cons_succ]
      refine wpAnyH_ready (rs := [11]) (by kernel_rfl) (by simp) ?_
      refine AllReadyH.cons (o := ?_) ?_ (fun K hK => ?_) AllReadyH.nil
      rotate_left 1
      · conv => lhs; simp only [List.getElem?_toArray, List.getElem?_cons_succ, List.getElem?_cons_zero]
      go_simp
      refine (CO.out _ hHeld 8).mono ?_
      rintro e wA6 ⟨A6, d6, rfl, -, -, hr6, hb⟩
      have hr1 := hr1.below hb
      have hr2 := hr2.below hb
      have hr3 := hr3.below hb
      have hr4 := hr4.below hb
      have hr5 := hr5.below hb
      go_wp2_with fail
      refine hK.out _ _ (up_trans hHeld hb) (fun hHeld => ?_)
      clear hK K
      try simp only [Act.put, List.setIfInBounds_toArray, List.set_cons_zero, List.set_cons_succ]
      have hq : ∃ Q : List SE, Q.map SE.val = [.slice A1 l1.length d1, .slice A2 l2.length d2, .slice A3 (rdOnly 5 asks).length d3, .slice A4 l4.length d4, .slice A5 (rdOnly 7 asks).length d5, .slice A6 (rdOnly 8 asks).length d6] ∧ Q.length = 6 ∧ seAll Q = R ∧ (seAll Q).length ≤ 10000 ∧ ∀ q ∈ Q, RD wA6 tt 4 q.A q.L.length (q.L.flatMap evC) := by
        refine ⟨[⟨A1, d1, l1⟩, ⟨A2, d2, l2⟩, ⟨A3, d3, rdOnly 5 asks⟩, ⟨A4, d4, l4⟩, ⟨A5, d5, rdOnly 7 asks⟩, ⟨A6, d6, rdOnly 8 asks⟩], rfl, rfl, HEV.out.symm, ?_, ?_⟩
        · have h1 := HL1.out
          have h2 := HL2.out
          have h4 := HL4.out
          have h9 := HL9.out
          have h3 := HLO.out 5
          have h5 := HLO.out 7
          have h6 := HLO.out 8
          show (l1 ++ (l2 ++ (rdOnly 5 asks ++ (l4 ++ (rdOnly 7 asks ++ (rdOnly 8 asks ++ [])))))).length ≤ 10000
          simp only [List.length_append, List.length_nil]
          omega
        · intro q hq
          simp only [List.mem_cons, List.not_mem_nil, or_false] at hq
          rcases hq with rfl | rfl | rfl | rfl | rfl | rfl
          · exact hr1.lo fun _ _ => trivial
          · exact hr2.lo fun _ _ => trivial
          · exact hr3.lo fun _ _ => trivial
          · exact hr4.lo fun _ _ => trivial
          · exact hr5.lo fun _ _ => trivial
          · exact hr6.lo fun _ _ => trivial
      obtain ⟨Q, hQv, hQn, hQR, hQl, hQr⟩ := hq
      have HCT := Lib.hid (fun (s : Nat) (hs : s = wA6.heap.size) => c_catE (w := wA6.alloc (.cells [.slice A1 l1.length d1, .slice A2 l2.length d2, .slice A3 (rdOnly 5 asks).length d3, .slice A4 l4.length d4, .slice A5 (rdOnly 7 asks).length d5, .slice A6 (rdOnly 8 asks).length d6].toArray 57)) (A := some ⟨s, 0, none⟩) (m := 6) (c := 6) (pl := tt) (Q := Q) (by rw [hQv, hs]; exact RD.of_blk (Blk.new wA6 _ _) rfl trivial) hQn (by omega) (fun q hq => (hQr q hq).below (up_alloc _ _)) hQl)
      rw [hQR] at HCT
      clear hr1 hr2 hr3 hr4 hr5 hr6 hQv hQr
      refine wpAnyH_ready (rs := [12]) (by kernel_rfl) (by simp) ?_
      refine AllReadyH.cons (o := ?_) ?_ (fun K hK => ?_) AllReadyH.nil
      rotate_left 1
      · conv => lhs; simp only [List.getElem?_toArray, List.getElem?_cons_succ, List.getElem?_cons_zero]
      go_simp
      refine hK.out _ _ (up_trans hHeld (up_alloc _ _)) (fun hHeld => ?_)
      clear hK K
      try simp only [Act.put, List.setIfInBounds_toArray, List.set_cons_zero, List.set_cons_succ]
      refine wpAnyH_ready (rs := [13]) (by kernel_rfl) (by simp) ?_
      refine AllReadyH.cons (o := ?_) ?_ (fun K hK => ?_) AllReadyH.nil
      rotate_left 1
      · conv => lhs; simp only [List.getElem?_toArray, List.getElem?_cons_succ, List.getElem?_cons_zero]
      go_simp
      refine (HCT.out _ rfl).mono ?_
      rintro e wB ⟨A7, d7, rfl, h71, h72, hr7, hb⟩
      have hU9 := up_trans (up_trans HU.out hHeld) hb
      have HU9 := Lib.hid hU9
      have HR7 := Lib.hid (hr7.lo (pl' := (w.heap.size ≤ ·)) fun b hb' => by have h1 := (up_trans HU.out hHeld).size; omega)
      have H71 := Lib.hid h71
      have H72 := Lib.hid h72
      go_wp2_with fail
      refine hK.out _ _ (up_trans hHeld hb) (fun hHeld => ?_)
      clear hK K
      try simp only [Act.put, List.setIfInBounds_toArray, List.set_cons_zero, List.set_cons_succ]
      refine wpAnyH_take (i := 14) (oi := ?_) (v := ?_) ?_ (by kernel_rfl) (by kernel_rfl) (by kernel_rfl) ?_ (Or.inl ⟨?_, ?_⟩) hHeld ?_
      rotate_left 2
      · conv => lhs; simp only [List.getElem?_toArray, List.getElem?_cons_succ, List.getElem?_cons_zero]
      · exact fun _ _ _ h => h
      · rfl
      · intro W hSw
        go_simp
        try with_reducible rfl
      try simp only [Act.put, List.setIfInBounds_toArray, List.set_cons_zero, List.set_cons_succ]
      refine wpAnyH_done (by kernel_rfl) ?_ _
      go_wp2_with fail
      go_ret
      exact ⟨A7, d7, rfl, H71.out, H72.out, HR7.out, HU9.out⟩
end Go.Proofs.YtdiiilnebepfdaaGreatDoor

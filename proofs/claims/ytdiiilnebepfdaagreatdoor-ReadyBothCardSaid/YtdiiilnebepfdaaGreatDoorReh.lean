/- Package ready: served. -/
import Derived.Test.YtdiiilnebepfdaaGreatDoorReg
import Derived.Test.YtdiiilnebepfdaaGreatDoorC1
import Derived.Test.YtdiiilnebepfdaaGreatDoorA3
namespace Go.Proofs.YtdiiilnebepfdaaGreatDoor
open Go.RowKit

theorem head_some {sh : Bool} {L : List Int} (h : lnSome sh L = true) : L.head? = some (lnHead sh L) := by
  unfold lnHead
  rw [if_pos h]
  unfold lnSome at h
  rw [Bool.and_eq_true, decide_eq_true_iff] at h
  cases L with
  | nil => exact absurd h.2 (by simp)
  | cons a l => rfl
theorem head_none {sh : Bool} {L : List Int} (h : lnSome sh L = false) : L.head? = none ∨ lnFine sh L = false := by
  unfold lnSome at h
  rw [Bool.and_eq_false_iff] at h
  rcases h with h | h
  · exact .inr h
  · left
    cases L with
    | nil => rfl
    | cons a l => exact absurd h (by simp)
theorem in_none {C : CP} {who : Int} {g : GD} (hk : g.k = 1) (hh : chIn C = false) (h : lnSome C.is C.G = false) : rdChan C who g = none := by
  have e1 : rdHitC C g.k = false := by unfold rdHitC; rw [hk]; exact hh
  by_cases h0 : (rdLine C g.k).head? = some who
  · rw [rdChan_on e1 h0]
    rcases head_none h with h1 | h1
    · unfold rdLine at h0
      rw [hk] at h0
      change C.G.head? = _ at h0
      rw [h1] at h0
      cases h0
    · have h2 : chFine C = false := by
        cases hf : chFine C
        · rfl
        · have := (chOk hf).lg
          rw [h1] at this
          cases this
      rw [rdFst_none h2]
      rfl
  · exact rdChan_no e1 h0
theorem out_none {C : CP} {who : Int} {g : GD} (hk : g.k = 2) (hh : chOut C = false) (h : lnSome C.os C.W = false) : rdChan C who g = none := by
  have e1 : rdHitC C g.k = false := by unfold rdHitC; rw [hk]; exact hh
  by_cases h0 : (rdLine C g.k).head? = some who
  · rw [rdChan_on e1 h0]
    rcases head_none h with h1 | h1
    · unfold rdLine at h0
      rw [hk] at h0
      change C.W.head? = _ at h0
      rw [h1] at h0
      cases h0
    · have h2 : chFine C = false := by
        cases hf : chFine C
        · rfl
        · have := (chOk hf).lw
          rw [h1] at this
          cases this
      rw [rdFst_none h2]
      rfl
  · exact rdChan_no e1 h0
theorem find_at {p : Int → Bool} {l : List Int} {k : Nat} {m : Int} (hm : l[k]? = some m) (h0 : (l.take k).any p = false) (h : p m = true) : l.find? p = some m := by
  have hk := (List.getElem?_eq_some_iff.1 hm).1
  have hs : l = l.take k ++ m :: l.drop (k + 1) := by
    have h1 := List.drop_eq_getElem_cons hk
    rw [(List.getElem?_eq_some_iff.1 hm).2] at h1
    rw [← h1, List.take_append_drop]
  have hn : (l.take k).find? p = none := by
    rw [List.find?_eq_none]
    intro x hx
    rw [List.any_eq_false] at h0
    exact h0 x hx
  rw [hs, List.find?_append, hn, List.find?_cons_of_pos h]
  rfl
theorem find_no {p : Int → Bool} {l : List Int} (h0 : l.any p = false) : l.find? p = none := by
  rw [List.find?_eq_none]
  intro x hx
  rw [List.any_eq_false] at h0
  exact h0 x hx
theorem evp_of {w w' : World} {R o : Option EV} (h : R = o) (hb : Below w.heap.size w w') : EvPost w R (.returned (.tuple #[evV o, .bool o.isSome])) w' := h ▸ ⟨rfl, hb⟩
theorem evp_none (w w' : World) (h : Below w.heap.size w w') : EvPost w none (.returned (.tuple #[.agg evZC.toArray, .bool false])) w' := ⟨rfl, h⟩

set_option maxRecDepth 100000 in
set_option maxHeartbeats 4000000 in
theorem c_served1 {V : VQ} {w : World} (h : VW w V) (hf : Few V) (who o v r n : Int) :
    Calls Tryz.prog 53 #[.agg (vC V).toArray, .int .i64 who, .agg (gdC ⟨1, o, v, r, n⟩).toArray, .func (.func 54) #[] #[]] w (EvPost w (rdServ V.p.Cs who ⟨1, o, v, r, n⟩)) := by
  have hX := bl2 w (vC V) 40 (gdC ⟨1, o, v, r, n⟩) 63 evZC 32
  generalize hw1 : ((w.alloc (.cells (vC V).toArray 40)).alloc (.cells (gdC ⟨1, o, v, r, n⟩).toArray 63)).alloc (.cells evZC.toArray 32) = w1 at hX
  have HW := Lib.hid (show ((w.alloc (.cells (vC V).toArray 40)).alloc (.cells (gdC ⟨1, o, v, r, n⟩).toArray 63)).alloc (.cells #[.int .i64 0, .int .i64 0, .int .i64 0, .int .i64 0] 32) = w1 from hw1)
  have HX := Lib.hid hX
  have c1 : w1.cell? ⟨w.heap.size, 1, none⟩ = some (.slice V.CA V.Cq.length V.Cc) := (hX.ka 0 rfl).cell 1 _ rfl
  have d1 : w1.cell? ⟨w.heap.size + 1, 1, none⟩ = some (.int .i64 o) := (hX.ka 1 rfl).cell 1 _ rfl
  have hl10 : (V.Cq.length : Int) ≤ 10 := by have := hf.ch; omega
  have hlen : V.p.Cs.length = V.Cq.length := List.length_map _
  rcases getI_cases V.p.Cs o with ho | ⟨ho, ho2⟩ | ⟨k, C0, rfl, hk, hC⟩
  · have HE := Lib.hid (rdServ_none (who := who) (g := ⟨1, o, v, r, n⟩) (getI_neg (L := V.p.Cs) ho))
    rw [HE.out]
    have g0 : decide (o < 0) = true := decide_eq_true (by omega)
    obtain ⟨ds, hds, hres⟩ := hX.res
    have HR := Lib.hid hres
    have HD := Lib.hid (show ds.length = 4 from hds)
    clear h hf hX hw1 HE hlen hds hres ho
    go_enter Tryz.func53, Tryz.ntmps53
    go_upto_region 1 with fail
    rw [HW.out]
    go_wp2_with (refine str (b := w.heap.size + 2) (t := 32) (cs := evZC) (ds := ds) (.tmp 8) (.tmp 27) rfl rfl rfl rfl info_ev4 HD.out (evC_one evZ) ?_ ?_; (· exact HR.out))
    refine bodyPost_ret (v := .tuple #[.agg evZC.toArray, .bool false]) (results_ce (fn := Tryz.f53) (p := 8) (t := 9) rfl _ _ _ rfl (HR.out.row _) Tryz.underlying32 rfl info_ev4) rfl ?_
    exact evp_none _ _ (below_setRow HX.out.up (by omega) _)
  · have HE := Lib.hid (rdServ_none (who := who) (g := ⟨1, o, v, r, n⟩) (getI_over (L := V.p.Cs) ho2))
    rw [HE.out]
    have g0 : decide (o < 0) = false := decide_eq_false (by omega)
    have g1 : decide (o ≥ (V.Cq.length : Int)) = true := decide_eq_true (by omega)
    obtain ⟨ds, hds, hres⟩ := hX.res
    have HR := Lib.hid hres
    have HD := Lib.hid (show ds.length = 4 from hds)
    clear h hf hX hw1 HE hlen hds hres ho ho2
    go_enter Tryz.func53, Tryz.ntmps53
    go_upto_region 1 with fail
    rw [HW.out]
    go_wp2_with (refine str (b := w.heap.size + 2) (t := 32) (cs := evZC) (ds := ds) (.tmp 8) (.tmp 27) rfl rfl rfl rfl info_ev4 HD.out (evC_one evZ) ?_ ?_; (· exact HR.out))
    refine bodyPost_ret (v := .tuple #[.agg evZC.toArray, .bool false]) (results_ce (fn := Tryz.f53) (p := 8) (t := 9) rfl _ _ _ rfl (HR.out.row _) Tryz.underlying32 rfl info_ev4) rfl ?_
    exact evp_none _ _ (below_setRow HX.out.up (by omega) _)
  · have HE := Lib.hid (rdServ_some (Cs := V.p.Cs) (who := who) (g := ⟨1, (k : Int), v, r, n⟩) (C := C0) (by rw [getI_at]; exact hC))
    rw [HE.out]
    clear HE
    have hk' : k < V.Cq.length := by omega
    have g0 : decide ((k : Int) < 0) = false := decide_eq_false (by omega)
    have g1 : decide ((k : Int) ≥ (V.Cq.length : Int)) = false := decide_eq_false (by omega)
    have hk3 : k ≤ 10 := by omega
    obtain ⟨B, of, ⟨C, M⟩, hA, _, hBl, hq, hrg, hch⟩ := (h.below hX.up).r.ch.at_ k hk'
    obtain rfl : C = C0 := by
      have h1 : V.p.Cs[k]? = some C := by
        show (V.Cq.map Prod.fst)[k]? = _
        rw [List.getElem?_map, hq]
        rfl
      rw [hC] at h1
      exact (Option.some.inj h1).symm
    rw [hA] at c1
    have hfew : ChFew M := ((hf.cl _ (List.mem_of_getElem? hq)).few (by omega) hch)
    have HRG : Hid (w1.rangeAt B (of + k * 11) (chC C M)) := Lib.hid hrg
    have CO := Lib.hid (fun W => c_rcvs C M W)
    have CH := Lib.hid (fun W => c_pzhit C.lv C.i W)
    have CW := Lib.hid (fun W => c_woken 5 who n W)
    have CL := Lib.hid (fun W (hW : Below w1.heap.size w1 W) => c_lnhead (hch.below hW).g (by have := hfew.g; omega) C.is)
    have CT := Lib.hid (fun W (hW : Below w1.heap.size w1 W) => c_chwhat (hch.below hW) hfew)
    have hHC : rdHitC C 1 = pzHit C.lv C.i := rfl
    have HQ := Lib.hid (fun (h1 : pzHit C.lv C.i = true) => rdChan_hit (C := C) (who := who) (g := ⟨1, (k : Int), v, r, n⟩) h1)
    have HN := Lib.hid (fun (h1 : pzHit C.lv C.i = false) (h2 : lnSome C.is C.G = false) => in_none (C := C) (who := who) (g := ⟨1, (k : Int), v, r, n⟩) rfl h1 h2)
    have HF := Lib.hid (fun (h1 : pzHit C.lv C.i = false) (h2 : (C.G).head? ≠ some who) => rdChan_no (C := C) (who := who) (g := ⟨1, (k : Int), v, r, n⟩) h1 h2)
    have HG := Lib.hid (fun (h1 : pzHit C.lv C.i = false) (h2 : (C.G).head? = some who) => rdChan_on (C := C) (who := who) (g := ⟨1, (k : Int), v, r, n⟩) h1 h2)
    have HS := Lib.hid (fun (h2 : lnSome C.is C.G = true) => head_some h2)
    have HFD := Lib.hid (show rdFst C 1 = (chWhat C).find? (fun m => decide (m ∈ [1, 3])) from rfl)
    have HWI := Lib.hid (fun m (hm : m ∈ chWhat C) => what_in hm)
    have HWL := Lib.hid (chWhat_len C)
    obtain ⟨R, hR⟩ : ∃ R, rdChan C who ⟨1, (k : Int), v, r, n⟩ = R := ⟨_, rfl⟩
    have HRE := Lib.hid hR
    rw [hR]
    clear hR
    obtain ⟨ds0, hds0, hres0⟩ := hX.res
    have hdl0 : ds0.length = 4 := hds0
    clear h hf hX hw1 hlen hC hA hBl hq hrg hch hfew hk hHC hds0 hres0 hdl0
    go_enter Tryz.func53, Tryz.ntmps53
    go_upto_region 1 with fail
    rw [HW.out]
    have HK1 := Lib.hid (HX.out.new (chC C M) 131)
    go_wp2_with (first | (refine lmr (b := B) (q := of + k * 11) (cs := chC C M) (.tmp 32) rfl rfl Tryz.underlying131 rfl info_ch rfl ?_ ?_; (· exact HRG.out)) | (refine snr (W := w1) (cs := chC C M) (zs := chZ) (t := 131) (.tmp 10) (.tmp 33) rfl rfl rfl rfl info_ch rfl chC_one ?_ ?_ ?_; (· rfl); (· rfl)) | (refine ldr (b := w1.heap.size) (t := 131) (cs := chC C M) (.tmp 10) rfl rfl Tryz.underlying131 rfl info_ch rfl ?_ ?_; (· exact HK1.out.ka 0 rfl)))
    refine (CO.out _).mono ?_; rintro e w2 ⟨q, rfl, hq, hb⟩
    have HU2 := Lib.hid (up_trans (up_alloc w1 (.cells (chC C M).toArray 131)) hb)
    have hK2 := ((HK1.out.next hb).next (up_alloc w2 (.cells (endC C.i C.is M.G.A M.G.n M.G.c q).toArray 174)))
    have hK3 := (HK1.out.next hb).new (endC C.i C.is M.G.A M.G.n M.G.c q) 174
    have HQB := Lib.hid (hq.alloc (.cells (endC C.i C.is M.G.A M.G.n M.G.c q).toArray 174))
    have HU3 := Lib.hid (up_trans HU2.out (up_alloc w2 (.cells (endC C.i C.is M.G.A M.G.n M.G.c q).toArray 174)))
    have HE := Lib.hid hK3
    clear hq hb hK2 hK3 c1 d1 HK1
    generalize hbc : w1.heap.size = bc at HE ⊢
    generalize hbe : w2.heap.size = be at HE
    have e4 := (HE.out.ka 1 rfl).cell 4 _ rfl
    have e0 := (HE.out.ka 0 rfl).cell 0 _ rfl
    go_wp2_with (refine snr (W := w2) (cs := endC C.i C.is M.G.A M.G.n M.G.c q) (zs := endZ) (t := 174) (.tmp 11) (.tmp 36) rfl rfl rfl rfl info_end rfl endC_one ?_ ?_ ?_; (· rfl); (· exact hbe))
    clear hbc hbe
    generalize w2.alloc (.cells (endC C.i C.is M.G.A M.G.n M.G.c q).toArray 174) = w3 at HE HQB HU3 e4 e0 ⊢
    refine (CH.out _).mono ?_; rintro e w3' ⟨rfl, rfl⟩
    have l4 : w3.cell? ⟨w.heap.size + 1, 4, none⟩ = some (.int .i64 n) := (HE.out.ka 3 rfl).cell 4 _ rfl
    have l1 : w3.cell? ⟨w.heap.size + 1, 1, none⟩ = some (.int .i64 (k : Int)) := (HE.out.ka 3 rfl).cell 1 _ rfl
    cases hh : pzHit C.lv C.i
    · have HH := Lib.hid hh
      have m1 := (HE.out.ka 0 rfl).cell 1 _ rfl
      have m2 := (HE.out.ka 0 rfl).cell 2 _ rfl
      have CL3 := Lib.hid (CL.out _ HU3.out)
      clear hh e4 e0
      go_wp2_with fail
      refine CL3.out.mono ?_; rintro e w4 ⟨rfl, hb4⟩
      have HE4 := Lib.hid (HE.out.next hb4)
      have HU4 := Lib.hid (up_trans HU3.out hb4)
      have HQ4 := Lib.hid (HQB.out.up hb4 HQB.out.lt)
      clear hb4 m1 m2 l4 l1 CL3
      obtain ⟨ds4, hds4, hres4⟩ := HE4.out.res
      have HR4 := Lib.hid hres4
      have HD4 := Lib.hid (show ds4.length = 4 from hds4)
      clear hds4 hres4
      obtain ⟨hd, hhd⟩ : ∃ x, lnHead C.is C.G = x := ⟨_, rfl⟩
      have HHD := Lib.hid hhd
      rw [hhd]
      clear hhd
      cases hs : lnSome C.is C.G
      · have HX0 := Lib.hid (HN.out HH.out hs)
        clear hs
        go_wp2_with (refine str (b := w.heap.size + 2) (t := 32) (cs := evZC) (ds := ds4) (.tmp 8) (.tmp 59) rfl rfl rfl rfl info_ev4 HD4.out (evC_one evZ) ?_ ?_; (· exact HR4.out))
        refine bodyPost_ret (v := .tuple #[.agg evZC.toArray, .bool false]) (results_ce (fn := Tryz.f53) (p := 8) (t := 9) rfl _ _ _ rfl (HR4.out.row _) Tryz.underlying32 rfl info_ev4) rfl ?_
        exact evp_of (HRE.out.symm.trans HX0.out) (below_setRow HE4.out.up HE4.out.lo _)
      · cases hw : (hd != who)
        · have hwe : hd = who := by simpa [bne] using hw
          have HX0 := Lib.hid (HG.out HH.out (by rw [HS.out hs, HHD.out, hwe]))
          have HX1 : Hid (R = ((chWhat C).find? (fun m => decide (m ∈ [1, 3]))).map fun m => ⟨1 + m, (k : Int), 0, 0⟩) := Lib.hid (by rw [← HRE.out, HX0.out]; exact congrArg (Option.map _) HFD.out)
          clear HX0 hs hwe HFD
          have CT4 := Lib.hid (CT.out _ HU4.out)
          go_wp2_with (refine ldr (b := bc) (t := 131) (cs := chC C M) (.tmp 10) rfl rfl Tryz.underlying131 rfl info_ch rfl ?_ ?_; (· exact HE4.out.ka 1 rfl))
          refine CT4.out.mono ?_; rintro e w5 ⟨A5, c5, rfl, -, -, hr5, hb5⟩
          have HE5 := Lib.hid (HE4.out.next hb5)
          have HQ5 := Lib.hid (HQ4.out.up hb5 HQ4.out.lt)
          have HR5 := Lib.hid hr5
          clear hr5 hb5 CT4 CT
          generalize chWhat C = l at HWI HWL HR5 HX1 ⊢
          have hl3 : l.length ≤ 3 := HWL.out
          go_wp2_with fail
          go_loopw [63] (fun i wr => ∃ j : Nat, j ≤ l.length ∧ i = .int .i64 j ∧ (l.take j).any (fun m => decide (m ∈ [1, 3])) = false ∧ Below w5.heap.size w5 wr) (fun i _ => l.length - (intOf i).toNat)
          case atStart => exact ⟨0, Nat.zero_le _, rfl, rfl, Below.refl _ _⟩
          case round =>
            obtain ⟨j, hj, rfl, hany, hbr⟩ := hrel
            have HB := Lib.hid hbr
            have HA := Lib.hid hany
            by_cases hlt : j < l.length
            · have hex : ∃ m, l[j]? = some m := ⟨_, List.getElem?_eq_getElem hlt⟩
              obtain ⟨m, hm⟩ := hex
              obtain ⟨b5, o5, rfl, _, _, hc5⟩ := (HR5.out.below hbr).at_ (by omega)
              have h5 := hc5 j (.int .i64 m) (by rw [List.getElem?_map, hm]; rfl)
              have HM := Lib.hid hm
              have HM3 := Lib.hid (HWI.out m (List.mem_of_getElem? hm))
              have n3 : wr.cell? ⟨be, 3, none⟩ = some (.slice (some ⟨q, 0, none⟩) 2 2) := ((HE5.out.next hbr).ka 0 rfl).cell 3 _ rfl
              have n1 : wr.cell? ⟨w.heap.size + 1, 1, none⟩ = some (.int .i64 (k : Int)) := ((HE5.out.next hbr).ka 3 rfl).cell 1 _ rfl
              have CC := Lib.hid (c_contains (c := 2) (RD.of_blk (pl := fun _ => True) (size := 1) (n := 2) (xs := ([1, 3] : List Int).map (Value.int .i64)) (HQ5.out.up hbr HQ5.out.lt) rfl trivial) (L := [1, 3]) rfl (by omega) m)
              obtain ⟨ds6, hds6, hres6⟩ := (HE5.out.next hbr).res
              have hEr := HE5.out.next hbr
              have HER := Lib.hid hEr
              clear hany hbr hc5 hm hds6 hres6 hEr
              cases hin : decide (m ∈ ([1, 3] : List Int))
              · have HNX := Lib.hid (show (l.take (j + 1)).any (fun m => decide (m ∈ [1, 3])) = false from anyN HM.out HA.out hin)
                rw [hin] at CC
                clear hin
                go_wp2_with fail
                refine CC.out.mono ?_; rintro e w6 ⟨rfl, rfl⟩
                go_wp2_with fail
                go_roundw
                case rel => exact ⟨j + 1, by omega, by go_num, HNX.out, HB.out⟩
                case measure => simp [intOf]; omega
              · have HFX := Lib.hid (find_at HM.out HA.out hin)
                rw [hin] at CC
                have HX2 : Hid (R = some ⟨1 + m, (k : Int), 0, 0⟩) := Lib.hid (by rw [HX1.out, HFX.out]; rfl)
                clear hin
                have CMV := Lib.hid (fun W => c_moved (k : Int) m HM3.out W)
                go_wp2_with fail
                refine CC.out.mono ?_; rintro e w6 ⟨rfl, rfl⟩
                go_wp2_with fail
                refine (CMV.out _).mono ?_; rintro e w7 ⟨rfl, hb7⟩
                have HE7 := Lib.hid (HER.out.next hb7)
                clear hb7
                obtain ⟨ds7, hds7, hres7⟩ := HE7.out.res
                have HR7 := Lib.hid hres7
                have HD7 := Lib.hid (show ds7.length = 4 from hds7)
                clear hds7 hres7
                go_wp2_with (refine str (b := w.heap.size + 2) (t := 32) (cs := evC ⟨1 + m, (k : Int), 0, 0⟩) (ds := ds7) (.tmp 8) (.tmp 74) rfl rfl rfl rfl info_ev4 HD7.out (evC_one _) ?_ ?_; (· exact HR7.out))
                refine bodyPost_ret (v := .tuple #[.agg (evC ⟨1 + m, (k : Int), 0, 0⟩).toArray, .bool true]) (results_ce (fn := Tryz.f53) (p := 8) (t := 9) rfl _ _ _ rfl (HR7.out.row _) Tryz.underlying32 rfl info_ev4) rfl ?_
                exact evp_of HX2.out (below_setRow HE7.out.up HE7.out.lo _)
            · obtain rfl : j = l.length := by omega
              have HFX := Lib.hid (find_no (by
                have h9 := HA.out
                rwa [List.take_of_length_le (Nat.le_refl _)] at h9))
              have HX2 : Hid (R = none) := Lib.hid (by rw [HX1.out, HFX.out]; rfl)
              have hEr := HE5.out.next hbr
              obtain ⟨ds6, hds6, hres6⟩ := hEr.res
              have HER := Lib.hid hEr
              have HR6 := Lib.hid hres6
              have HD6 := Lib.hid (show ds6.length = 4 from hds6)
              clear hany hbr hds6 hres6 hEr
              go_wp2_with (refine str (b := w.heap.size + 2) (t := 32) (cs := evZC) (ds := ds6) (.tmp 8) (.tmp 76) rfl rfl rfl rfl info_ev4 HD6.out (evC_one evZ) ?_ ?_; (· exact HR6.out))
              refine bodyPost_ret (v := .tuple #[.agg evZC.toArray, .bool false]) (results_ce (fn := Tryz.f53) (p := 8) (t := 9) rfl _ _ _ rfl (HR6.out.row _) Tryz.underlying32 rfl info_ev4) rfl ?_
              exact evp_of HX2.out (below_setRow HER.out.up HER.out.lo _)
        · have hwe : hd ≠ who := by simpa [bne] using hw
          have HX0 := Lib.hid (HF.out HH.out (by rw [HS.out hs, HHD.out]; intro e; exact hwe (Option.some.inj e)))
          clear hs hwe
          go_wp2_with (refine str (b := w.heap.size + 2) (t := 32) (cs := evZC) (ds := ds4) (.tmp 8) (.tmp 59) rfl rfl rfl rfl info_ev4 HD4.out (evC_one evZ) ?_ ?_; (· exact HR4.out))
          refine bodyPost_ret (v := .tuple #[.agg evZC.toArray, .bool false]) (results_ce (fn := Tryz.f53) (p := 8) (t := 9) rfl _ _ _ rfl (HR4.out.row _) Tryz.underlying32 rfl info_ev4) rfl ?_
          exact evp_of (HRE.out.symm.trans HX0.out) (below_setRow HE4.out.up HE4.out.lo _)
    · have HX0 := Lib.hid (HQ.out hh)
      clear hh e4 e0
      go_wp2_with fail
      refine (CW.out _).mono ?_; rintro e w4 ⟨rfl, hb4⟩
      have HE4 := Lib.hid (HE.out.next hb4)
      clear hb4
      obtain ⟨ds4, hds4, hres4⟩ := HE4.out.res
      have HR4 := Lib.hid hres4
      have HD4 := Lib.hid (show ds4.length = 4 from hds4)
      clear hds4 hres4
      go_wp2_with (refine str (b := w.heap.size + 2) (t := 32) (cs := evC ⟨5, 0, who, n⟩) (ds := ds4) (.tmp 8) (.tmp 45) rfl rfl rfl rfl info_ev4 HD4.out (evC_one _) ?_ ?_; (· exact HR4.out))
      refine bodyPost_ret (v := .tuple #[.agg (evC ⟨5, 0, who, n⟩).toArray, .bool true]) (results_ce (fn := Tryz.f53) (p := 8) (t := 9) rfl _ _ _ rfl (HR4.out.row _) Tryz.underlying32 rfl info_ev4) rfl ?_
      exact evp_of (HRE.out.symm.trans HX0.out) (below_setRow HE4.out.up HE4.out.lo _)

set_option maxRecDepth 100000 in
set_option maxHeartbeats 4000000 in
theorem c_served2 {V : VQ} {w : World} (h : VW w V) (hf : Few V) (who o v r n : Int) :
    Calls Tryz.prog 53 #[.agg (vC V).toArray, .int .i64 who, .agg (gdC ⟨2, o, v, r, n⟩).toArray, .func (.func 55) #[] #[]] w (EvPost w (rdServ V.p.Cs who ⟨2, o, v, r, n⟩)) := by
  have hX := bl2 w (vC V) 40 (gdC ⟨2, o, v, r, n⟩) 63 evZC 32
  generalize hw1 : ((w.alloc (.cells (vC V).toArray 40)).alloc (.cells (gdC ⟨2, o, v, r, n⟩).toArray 63)).alloc (.cells evZC.toArray 32) = w1 at hX
  have HW := Lib.hid (show ((w.alloc (.cells (vC V).toArray 40)).alloc (.cells (gdC ⟨2, o, v, r, n⟩).toArray 63)).alloc (.cells #[.int .i64 0, .int .i64 0, .int .i64 0, .int .i64 0] 32) = w1 from hw1)
  have HX := Lib.hid hX
  have c1 : w1.cell? ⟨w.heap.size, 1, none⟩ = some (.slice V.CA V.Cq.length V.Cc) := (hX.ka 0 rfl).cell 1 _ rfl
  have d1 : w1.cell? ⟨w.heap.size + 1, 1, none⟩ = some (.int .i64 o) := (hX.ka 1 rfl).cell 1 _ rfl
  have hl10 : (V.Cq.length : Int) ≤ 10 := by have := hf.ch; omega
  have hlen : V.p.Cs.length = V.Cq.length := List.length_map _
  rcases getI_cases V.p.Cs o with ho | ⟨ho, ho2⟩ | ⟨k, C0, rfl, hk, hC⟩
  · have HE := Lib.hid (rdServ_none (who := who) (g := ⟨2, o, v, r, n⟩) (getI_neg (L := V.p.Cs) ho))
    rw [HE.out]
    have g0 : decide (o < 0) = true := decide_eq_true (by omega)
    obtain ⟨ds, hds, hres⟩ := hX.res
    have HR := Lib.hid hres
    have HD := Lib.hid (show ds.length = 4 from hds)
    clear h hf hX hw1 HE hlen hds hres ho
    go_enter Tryz.func53, Tryz.ntmps53
    go_upto_region 1 with fail
    rw [HW.out]
    go_wp2_with (refine str (b := w.heap.size + 2) (t := 32) (cs := evZC) (ds := ds) (.tmp 8) (.tmp 27) rfl rfl rfl rfl info_ev4 HD.out (evC_one evZ) ?_ ?_; (· exact HR.out))
    refine bodyPost_ret (v := .tuple #[.agg evZC.toArray, .bool false]) (results_ce (fn := Tryz.f53) (p := 8) (t := 9) rfl _ _ _ rfl (HR.out.row _) Tryz.underlying32 rfl info_ev4) rfl ?_
    exact evp_none _ _ (below_setRow HX.out.up (by omega) _)
  · have HE := Lib.hid (rdServ_none (who := who) (g := ⟨2, o, v, r, n⟩) (getI_over (L := V.p.Cs) ho2))
    rw [HE.out]
    have g0 : decide (o < 0) = false := decide_eq_false (by omega)
    have g1 : decide (o ≥ (V.Cq.length : Int)) = true := decide_eq_true (by omega)
    obtain ⟨ds, hds, hres⟩ := hX.res
    have HR := Lib.hid hres
    have HD := Lib.hid (show ds.length = 4 from hds)
    clear h hf hX hw1 HE hlen hds hres ho ho2
    go_enter Tryz.func53, Tryz.ntmps53
    go_upto_region 1 with fail
    rw [HW.out]
    go_wp2_with (refine str (b := w.heap.size + 2) (t := 32) (cs := evZC) (ds := ds) (.tmp 8) (.tmp 27) rfl rfl rfl rfl info_ev4 HD.out (evC_one evZ) ?_ ?_; (· exact HR.out))
    refine bodyPost_ret (v := .tuple #[.agg evZC.toArray, .bool false]) (results_ce (fn := Tryz.f53) (p := 8) (t := 9) rfl _ _ _ rfl (HR.out.row _) Tryz.underlying32 rfl info_ev4) rfl ?_
    exact evp_none _ _ (below_setRow HX.out.up (by omega) _)
  · have HE := Lib.hid (rdServ_some (Cs := V.p.Cs) (who := who) (g := ⟨2, (k : Int), v, r, n⟩) (C := C0) (by rw [getI_at]; exact hC))
    rw [HE.out]
    clear HE
    have hk' : k < V.Cq.length := by omega
    have g0 : decide ((k : Int) < 0) = false := decide_eq_false (by omega)
    have g1 : decide ((k : Int) ≥ (V.Cq.length : Int)) = false := decide_eq_false (by omega)
    have hk3 : k ≤ 10 := by omega
    obtain ⟨B, of, ⟨C, M⟩, hA, _, hBl, hq, hrg, hch⟩ := (h.below hX.up).r.ch.at_ k hk'
    obtain rfl : C = C0 := by
      have h1 : V.p.Cs[k]? = some C := by
        show (V.Cq.map Prod.fst)[k]? = _
        rw [List.getElem?_map, hq]
        rfl
      rw [hC] at h1
      exact (Option.some.inj h1).symm
    rw [hA] at c1
    have hfew : ChFew M := ((hf.cl _ (List.mem_of_getElem? hq)).few (by omega) hch)
    have HRG : Hid (w1.rangeAt B (of + k * 11) (chC C M)) := Lib.hid hrg
    have CO := Lib.hid (fun W => c_snds C M W)
    have CH := Lib.hid (fun W => c_pzhit C.lv C.o W)
    have CW := Lib.hid (fun W => c_woken 5 who n W)
    have CL := Lib.hid (fun W (hW : Below w1.heap.size w1 W) => c_lnhead (hch.below hW).w_ (by have := hfew.w_; omega) C.os)
    have CT := Lib.hid (fun W (hW : Below w1.heap.size w1 W) => c_chwhat (hch.below hW) hfew)
    have hHC : rdHitC C 2 = pzHit C.lv C.o := rfl
    have HQ := Lib.hid (fun (h1 : pzHit C.lv C.o = true) => rdChan_hit (C := C) (who := who) (g := ⟨2, (k : Int), v, r, n⟩) h1)
    have HN := Lib.hid (fun (h1 : pzHit C.lv C.o = false) (h2 : lnSome C.os C.W = false) => out_none (C := C) (who := who) (g := ⟨2, (k : Int), v, r, n⟩) rfl h1 h2)
    have HF := Lib.hid (fun (h1 : pzHit C.lv C.o = false) (h2 : (C.W).head? ≠ some who) => rdChan_no (C := C) (who := who) (g := ⟨2, (k : Int), v, r, n⟩) h1 h2)
    have HG := Lib.hid (fun (h1 : pzHit C.lv C.o = false) (h2 : (C.W).head? = some who) => rdChan_on (C := C) (who := who) (g := ⟨2, (k : Int), v, r, n⟩) h1 h2)
    have HS := Lib.hid (fun (h2 : lnSome C.os C.W = true) => head_some h2)
    have HFD := Lib.hid (show rdFst C 2 = (chWhat C).find? (fun m => decide (m ∈ [1, 2])) from rfl)
    have HWI := Lib.hid (fun m (hm : m ∈ chWhat C) => what_in hm)
    have HWL := Lib.hid (chWhat_len C)
    obtain ⟨R, hR⟩ : ∃ R, rdChan C who ⟨2, (k : Int), v, r, n⟩ = R := ⟨_, rfl⟩
    have HRE := Lib.hid hR
    rw [hR]
    clear hR
    obtain ⟨ds0, hds0, hres0⟩ := hX.res
    have hdl0 : ds0.length = 4 := hds0
    clear h hf hX hw1 hlen hC hA hBl hq hrg hch hfew hk hHC hds0 hres0 hdl0
    go_enter Tryz.func53, Tryz.ntmps53
    go_upto_region 1 with fail
    rw [HW.out]
    have HK1 := Lib.hid (HX.out.new (chC C M) 131)
    go_wp2_with (first | (refine lmr (b := B) (q := of + k * 11) (cs := chC C M) (.tmp 32) rfl rfl Tryz.underlying131 rfl info_ch rfl ?_ ?_; (· exact HRG.out)) | (refine snr (W := w1) (cs := chC C M) (zs := chZ) (t := 131) (.tmp 10) (.tmp 33) rfl rfl rfl rfl info_ch rfl chC_one ?_ ?_ ?_; (· rfl); (· rfl)) | (refine ldr (b := w1.heap.size) (t := 131) (cs := chC C M) (.tmp 10) rfl rfl Tryz.underlying131 rfl info_ch rfl ?_ ?_; (· exact HK1.out.ka 0 rfl)))
    refine (CO.out _).mono ?_; rintro e w2 ⟨q, rfl, hq, hb⟩
    have HU2 := Lib.hid (up_trans (up_alloc w1 (.cells (chC C M).toArray 131)) hb)
    have hK2 := ((HK1.out.next hb).next (up_alloc w2 (.cells (endC C.o C.os M.W.A M.W.n M.W.c q).toArray 174)))
    have hK3 := (HK1.out.next hb).new (endC C.o C.os M.W.A M.W.n M.W.c q) 174
    have HQB := Lib.hid (hq.alloc (.cells (endC C.o C.os M.W.A M.W.n M.W.c q).toArray 174))
    have HU3 := Lib.hid (up_trans HU2.out (up_alloc w2 (.cells (endC C.o C.os M.W.A M.W.n M.W.c q).toArray 174)))
    have HE := Lib.hid hK3
    clear hq hb hK2 hK3 c1 d1 HK1
    generalize hbc : w1.heap.size = bc at HE ⊢
    generalize hbe : w2.heap.size = be at HE
    have e4 := (HE.out.ka 1 rfl).cell 4 _ rfl
    have e0 := (HE.out.ka 0 rfl).cell 0 _ rfl
    go_wp2_with (refine snr (W := w2) (cs := endC C.o C.os M.W.A M.W.n M.W.c q) (zs := endZ) (t := 174) (.tmp 11) (.tmp 36) rfl rfl rfl rfl info_end rfl endC_one ?_ ?_ ?_; (· rfl); (· exact hbe))
    clear hbc hbe
    generalize w2.alloc (.cells (endC C.o C.os M.W.A M.W.n M.W.c q).toArray 174) = w3 at HE HQB HU3 e4 e0 ⊢
    refine (CH.out _).mono ?_; rintro e w3' ⟨rfl, rfl⟩
    have l4 : w3.cell? ⟨w.heap.size + 1, 4, none⟩ = some (.int .i64 n) := (HE.out.ka 3 rfl).cell 4 _ rfl
    have l1 : w3.cell? ⟨w.heap.size + 1, 1, none⟩ = some (.int .i64 (k : Int)) := (HE.out.ka 3 rfl).cell 1 _ rfl
    cases hh : pzHit C.lv C.o
    · have HH := Lib.hid hh
      have m1 := (HE.out.ka 0 rfl).cell 1 _ rfl
      have m2 := (HE.out.ka 0 rfl).cell 2 _ rfl
      have CL3 := Lib.hid (CL.out _ HU3.out)
      clear hh e4 e0
      go_wp2_with fail
      refine CL3.out.mono ?_; rintro e w4 ⟨rfl, hb4⟩
      have HE4 := Lib.hid (HE.out.next hb4)
      have HU4 := Lib.hid (up_trans HU3.out hb4)
      have HQ4 := Lib.hid (HQB.out.up hb4 HQB.out.lt)
      clear hb4 m1 m2 l4 l1 CL3
      obtain ⟨ds4, hds4, hres4⟩ := HE4.out.res
      have HR4 := Lib.hid hres4
      have HD4 := Lib.hid (show ds4.length = 4 from hds4)
      clear hds4 hres4
      obtain ⟨hd, hhd⟩ : ∃ x, lnHead C.os C.W = x := ⟨_, rfl⟩
      have HHD := Lib.hid hhd
      rw [hhd]
      clear hhd
      cases hs : lnSome C.os C.W
      · have HX0 := Lib.hid (HN.out HH.out hs)
        clear hs
        go_wp2_with (refine str (b := w.heap.size + 2) (t := 32) (cs := evZC) (ds := ds4) (.tmp 8) (.tmp 59) rfl rfl rfl rfl info_ev4 HD4.out (evC_one evZ) ?_ ?_; (· exact HR4.out))
        refine bodyPost_ret (v := .tuple #[.agg evZC.toArray, .bool false]) (results_ce (fn := Tryz.f53) (p := 8) (t := 9) rfl _ _ _ rfl (HR4.out.row _) Tryz.underlying32 rfl info_ev4) rfl ?_
        exact evp_of (HRE.out.symm.trans HX0.out) (below_setRow HE4.out.up HE4.out.lo _)
      · cases hw : (hd != who)
        · have hwe : hd = who := by simpa [bne] using hw
          have HX0 := Lib.hid (HG.out HH.out (by rw [HS.out hs, HHD.out, hwe]))
          have HX1 : Hid (R = ((chWhat C).find? (fun m => decide (m ∈ [1, 2]))).map fun m => ⟨1 + m, (k : Int), 0, 0⟩) := Lib.hid (by rw [← HRE.out, HX0.out]; exact congrArg (Option.map _) HFD.out)
          clear HX0 hs hwe HFD
          have CT4 := Lib.hid (CT.out _ HU4.out)
          go_wp2_with (refine ldr (b := bc) (t := 131) (cs := chC C M) (.tmp 10) rfl rfl Tryz.underlying131 rfl info_ch rfl ?_ ?_; (· exact HE4.out.ka 1 rfl))
          refine CT4.out.mono ?_; rintro e w5 ⟨A5, c5, rfl, -, -, hr5, hb5⟩
          have HE5 := Lib.hid (HE4.out.next hb5)
          have HQ5 := Lib.hid (HQ4.out.up hb5 HQ4.out.lt)
          have HR5 := Lib.hid hr5
          clear hr5 hb5 CT4 CT
          generalize chWhat C = l at HWI HWL HR5 HX1 ⊢
          have hl3 : l.length ≤ 3 := HWL.out
          go_wp2_with fail
          go_loopw [63] (fun i wr => ∃ j : Nat, j ≤ l.length ∧ i = .int .i64 j ∧ (l.take j).any (fun m => decide (m ∈ [1, 2])) = false ∧ Below w5.heap.size w5 wr) (fun i _ => l.length - (intOf i).toNat)
          case atStart => exact ⟨0, Nat.zero_le _, rfl, rfl, Below.refl _ _⟩
          case round =>
            obtain ⟨j, hj, rfl, hany, hbr⟩ := hrel
            have HB := Lib.hid hbr
            have HA := Lib.hid hany
            by_cases hlt : j < l.length
            · have hex : ∃ m, l[j]? = some m := ⟨_, List.getElem?_eq_getElem hlt⟩
              obtain ⟨m, hm⟩ := hex
              obtain ⟨b5, o5, rfl, _, _, hc5⟩ := (HR5.out.below hbr).at_ (by omega)
              have h5 := hc5 j (.int .i64 m) (by rw [List.getElem?_map, hm]; rfl)
              have HM := Lib.hid hm
              have HM3 := Lib.hid (HWI.out m (List.mem_of_getElem? hm))
              have n3 : wr.cell? ⟨be, 3, none⟩ = some (.slice (some ⟨q, 0, none⟩) 2 2) := ((HE5.out.next hbr).ka 0 rfl).cell 3 _ rfl
              have n1 : wr.cell? ⟨w.heap.size + 1, 1, none⟩ = some (.int .i64 (k : Int)) := ((HE5.out.next hbr).ka 3 rfl).cell 1 _ rfl
              have CC := Lib.hid (c_contains (c := 2) (RD.of_blk (pl := fun _ => True) (size := 1) (n := 2) (xs := ([1, 2] : List Int).map (Value.int .i64)) (HQ5.out.up hbr HQ5.out.lt) rfl trivial) (L := [1, 2]) rfl (by omega) m)
              obtain ⟨ds6, hds6, hres6⟩ := (HE5.out.next hbr).res
              have hEr := HE5.out.next hbr
              have HER := Lib.hid hEr
              clear hany hbr hc5 hm hds6 hres6 hEr
              cases hin : decide (m ∈ ([1, 2] : List Int))
              · have HNX := Lib.hid (show (l.take (j + 1)).any (fun m => decide (m ∈ [1, 2])) = false from anyN HM.out HA.out hin)
                rw [hin] at CC
                clear hin
                go_wp2_with fail
                refine CC.out.mono ?_; rintro e w6 ⟨rfl, rfl⟩
                go_wp2_with fail
                go_roundw
                case rel => exact ⟨j + 1, by omega, by go_num, HNX.out, HB.out⟩
                case measure => simp [intOf]; omega
              · have HFX := Lib.hid (find_at HM.out HA.out hin)
                rw [hin] at CC
                have HX2 : Hid (R = some ⟨1 + m, (k : Int), 0, 0⟩) := Lib.hid (by rw [HX1.out, HFX.out]; rfl)
                clear hin
                have CMV := Lib.hid (fun W => c_moved (k : Int) m HM3.out W)
                go_wp2_with fail
                refine CC.out.mono ?_; rintro e w6 ⟨rfl, rfl⟩
                go_wp2_with fail
                refine (CMV.out _).mono ?_; rintro e w7 ⟨rfl, hb7⟩
                have HE7 := Lib.hid (HER.out.next hb7)
                clear hb7
                obtain ⟨ds7, hds7, hres7⟩ := HE7.out.res
                have HR7 := Lib.hid hres7
                have HD7 := Lib.hid (show ds7.length = 4 from hds7)
                clear hds7 hres7
                go_wp2_with (refine str (b := w.heap.size + 2) (t := 32) (cs := evC ⟨1 + m, (k : Int), 0, 0⟩) (ds := ds7) (.tmp 8) (.tmp 74) rfl rfl rfl rfl info_ev4 HD7.out (evC_one _) ?_ ?_; (· exact HR7.out))
                refine bodyPost_ret (v := .tuple #[.agg (evC ⟨1 + m, (k : Int), 0, 0⟩).toArray, .bool true]) (results_ce (fn := Tryz.f53) (p := 8) (t := 9) rfl _ _ _ rfl (HR7.out.row _) Tryz.underlying32 rfl info_ev4) rfl ?_
                exact evp_of HX2.out (below_setRow HE7.out.up HE7.out.lo _)
            · obtain rfl : j = l.length := by omega
              have HFX := Lib.hid (find_no (by
                have h9 := HA.out
                rwa [List.take_of_length_le (Nat.le_refl _)] at h9))
              have HX2 : Hid (R = none) := Lib.hid (by rw [HX1.out, HFX.out]; rfl)
              have hEr := HE5.out.next hbr
              obtain ⟨ds6, hds6, hres6⟩ := hEr.res
              have HER := Lib.hid hEr
              have HR6 := Lib.hid hres6
              have HD6 := Lib.hid (show ds6.length = 4 from hds6)
              clear hany hbr hds6 hres6 hEr
              go_wp2_with (refine str (b := w.heap.size + 2) (t := 32) (cs := evZC) (ds := ds6) (.tmp 8) (.tmp 76) rfl rfl rfl rfl info_ev4 HD6.out (evC_one evZ) ?_ ?_; (· exact HR6.out))
              refine bodyPost_ret (v := .tuple #[.agg evZC.toArray, .bool false]) (results_ce (fn := Tryz.f53) (p := 8) (t := 9) rfl _ _ _ rfl (HR6.out.row _) Tryz.underlying32 rfl info_ev4) rfl ?_
              exact evp_of HX2.out (below_setRow HER.out.up HER.out.lo _)
        · have hwe : hd ≠ who := by simpa [bne] using hw
          have HX0 := Lib.hid (HF.out HH.out (by rw [HS.out hs, HHD.out]; intro e; exact hwe (Option.some.inj e)))
          clear hs hwe
          go_wp2_with (refine str (b := w.heap.size + 2) (t := 32) (cs := evZC) (ds := ds4) (.tmp 8) (.tmp 59) rfl rfl rfl rfl info_ev4 HD4.out (evC_one evZ) ?_ ?_; (· exact HR4.out))
          refine bodyPost_ret (v := .tuple #[.agg evZC.toArray, .bool false]) (results_ce (fn := Tryz.f53) (p := 8) (t := 9) rfl _ _ _ rfl (HR4.out.row _) Tryz.underlying32 rfl info_ev4) rfl ?_
          exact evp_of (HRE.out.symm.trans HX0.out) (below_setRow HE4.out.up HE4.out.lo _)
    · have HX0 := Lib.hid (HQ.out hh)
      clear hh e4 e0
      go_wp2_with fail
      refine (CW.out _).mono ?_; rintro e w4 ⟨rfl, hb4⟩
      have HE4 := Lib.hid (HE.out.next hb4)
      clear hb4
      obtain ⟨ds4, hds4, hres4⟩ := HE4.out.res
      have HR4 := Lib.hid hres4
      have HD4 := Lib.hid (show ds4.length = 4 from hds4)
      clear hds4 hres4
      go_wp2_with (refine str (b := w.heap.size + 2) (t := 32) (cs := evC ⟨5, 0, who, n⟩) (ds := ds4) (.tmp 8) (.tmp 45) rfl rfl rfl rfl info_ev4 HD4.out (evC_one _) ?_ ?_; (· exact HR4.out))
      refine bodyPost_ret (v := .tuple #[.agg (evC ⟨5, 0, who, n⟩).toArray, .bool true]) (results_ce (fn := Tryz.f53) (p := 8) (t := 9) rfl _ _ _ rfl (HR4.out.row _) Tryz.underlying32 rfl info_ev4) rfl ?_
      exact evp_of (HRE.out.symm.trans HX0.out) (below_setRow HE4.out.up HE4.out.lo _)

end Go.Proofs.YtdiiilnebepfdaaGreatDoor

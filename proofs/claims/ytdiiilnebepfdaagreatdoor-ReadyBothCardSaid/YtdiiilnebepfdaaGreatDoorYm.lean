/- The document's Is, put, Offer and Poison of layer 19. -/
import Derived.Test.YtdiiilnebepfdaaGreatDoorC5
import Derived.Test.YtdiiilnebepfdaaGreatDoorYi
import Derived.Test.YtdiiilnebepfdaaGreatDoorEe
import Derived.Test.YtdiiilnebepfdaaGreatDoorEf
import Derived.Test.YtdiiilnebepfdaaGreatDoorR6
namespace Go.Proofs.YtdiiilnebepfdaaGreatDoor
open Go.RowKit

set_option maxHeartbeats 400000 in
theorem c_rtis (A : Option Addr) (n c : Nat) (o : Int) (w : World) :
    Calls Tryz.prog 47 #[.slice A n c, .int .i64 o] w fun e w' => e = .returned (.bool (decide (0 ≤ o) && decide (o < (n : Int)))) ∧ w = w' := by
  by_cases h0 : 0 ≤ o
  · by_cases h1 : o < (n : Int)
    · have g0 : decide (0 ≤ o) = true := decide_eq_true h0
      have g1 : decide (o < (n : Int)) = true := decide_eq_true h1
      rw [g0, g1]
      go_enter Tryz.func47, Tryz.ntmps47
      go_wp2
      go_ret
      exact ⟨rfl, rfl⟩
    · have g0 : decide (0 ≤ o) = true := decide_eq_true h0
      have g1 : decide (o < (n : Int)) = false := decide_eq_false h1
      rw [g0, g1]
      go_enter Tryz.func47, Tryz.ntmps47
      go_wp2
      go_ret
      exact ⟨rfl, rfl⟩
  · have g0 : decide (0 ≤ o) = false := decide_eq_false h0
    rw [g0]
    go_enter Tryz.func47, Tryz.ntmps47
    go_wp2
    go_ret
    exact ⟨rfl, rfl⟩

set_option maxRecDepth 100000 in
set_option maxHeartbeats 4000000 in
theorem c_rtput {w : World} {pl : Nat → Prop} {A : Option Addr} {n c : Nat} {L : List CQ} (h : TbW w pl A n c L) (hn : n ≤ 1000) (k : Nat) (hk : k < n) {C : CP} {M : SM} (hd : ChW w ctAny C M) :
    Calls Tryz.prog 50 #[.slice A n c, .int .i64 (k : Int), .agg (chC C M).toArray] w (TbPost w n (L.set k (C, M))) := by
  have up := up_alloc w (.cells (chC C M).toArray 107)
  have K := Blk.new w (chC C M) 107
  generalize hw1 : w.alloc (.cells (chC C M).toArray 107) = w1 at up K
  have HW := Lib.hid hw1
  have UP := Lib.hid up
  have KB := Lib.hid K
  have HD := Lib.hid (hd.below up)
  have h1 := h.below up
  have HT := Lib.hid h1
  have hown := World.ownsRow_nil w1 w1.heap.size 107 11
  have HRD : Hid (RD w1 pl 11 A n (L.flatMap cellsQ)) := Lib.hid h1.rd
  have HON := Lib.hid (cellsQ_one L)
  have hkn : (k : Int) < (n : Int) := by omega
  clear h hd up K hw1 h1
  go_enter Tryz.func50, Tryz.ntmps50
  go_upto_region 1 with fail
  rw [HW.out]
  go_upto_region 2 with (at_builtin; refine wpList_app ei_rt rfl (.const (.slice none 0 0)) (.tmp 8) rfl _ [] rfl hown rfl HRD.out HON.out (by omega) (Nat.le_refl _) ?_; intro v2 w2 hown2 hb2; simp only [Nat.zero_add, List.nil_append] at hown2)
  have ho : OwT w2 107 w1.heap.size v2 n L := OwT.of hown2 HT.out.each hb2
  obtain ⟨g, c2, q, rfl, hlo, hgl, _, _, hth, _⟩ := ho.at_ k hk
  have KB2 := Lib.hid (KB.out.up hb2 KB.out.lt)
  have HTH : Hid (w2.there g (k * 11) (chC C M).length) := Lib.hid hth
  have HDN : ChW w2 (notOwn (.slice (some ⟨g, 0, none⟩) n c2)) C M := (HD.out.lt.below hb2).lo (fun j hj e => by
    have := (ho.own.lt j e).1
    omega)
  have HP := Lib.hid (ho.put k hk (C, M) HDN)
  have HB := Lib.hid (up_trans UP.out (Only.later hb2 (only_cells (chC C M) (k * 11) w2) (by rintro i rfl; exact hlo)))
  have HUS := Lib.hid UP.out.size
  clear hown hown2 hb2 ho hlo hgl hth HDN
  go_wp2_with (first | (refine ldr (b := w.heap.size) (t := 107) (cs := chC C M) (.tmp 5) rfl rfl Tryz.underlying107 rfl info_rch rfl ?_ ?_; (· exact KB2.out)) | (refine smr (b := g) (q := k * 11) (cs := chC C M) (.tmp 13) (.tmp 12) rfl rfl rfl rfl info_rch chC_one ?_ ?_; (· exact HTH.out)))
  go_ret
  obtain ⟨A', c', e', ht⟩ := HP.out.tb
  injection e' with e1 e2 e3
  subst e1 e3
  exact ⟨_, _, rfl, ht.lo (fun b hb => Nat.le_trans HUS.out hb), HB.out⟩

theorem inT_eq (L : List CQ) {n : Nat} (hn : L.length = n) (o : Int) : inT (L.map Prod.fst) o = (decide (0 ≤ o) && decide (o < (n : Int))) := by
  unfold inT
  rw [List.length_map, hn]
theorem getD_q {L : List CQ} {j : Nat} {q : CQ} (h : L[j]? = some q) : (L.map Prod.fst).getD (j : Int).toNat chZero = q.1 := by
  rw [Int.toNat_natCast, List.getD_eq_getElem?_getD, List.getElem?_map, h]
  rfl
theorem gdE_no {L : List CQ} {n : Nat} (hn : L.length = n) {p : Int} {al : Bool} {g : GD} (h : (decide (0 ≤ g.o) && decide (g.o < (n : Int))) = false) : gdE (L.map Prod.fst) p al g = 8 := by
  unfold gdE
  rw [inT_eq L hn, h, if_pos rfl]
theorem gdE_at {L : List CQ} {j : Nat} {q : CQ} (h : L[j]? = some q) {p : Int} {al : Bool} {g : GD} (hg : g.o = (j : Int)) : gdE (L.map Prod.fst) p al g = if (al && gdSh q.1 g.k) = true then 12 else gdE1 q.1 p g := by
  have hj := (List.getElem?_eq_some_iff.1 h).1
  unfold gdE
  rw [inT_eq L rfl, hg, decide_eq_true (by omega), decide_eq_true (by omega), if_neg (by decide), getD_q h]
theorem gdL_at {L : List CQ} {j : Nat} {q : CQ} (h : L[j]? = some q) {p : Int} {al : Bool} {g : GD} (hg : g.o = (j : Int)) (h0 : gdE (L.map Prod.fst) p al g = 0) (M : SM) : (L.set j (gdN1 q.1 p g, M)).map Prod.fst = gdL (L.map Prod.fst) p al g := by
  unfold gdL
  rw [if_pos h0, hg, getD_q h, List.map_set, Int.toNat_natCast]
set_option maxRecDepth 100000 in
set_option maxHeartbeats 8000000 in
theorem c_rtoffer {w : World} {pl pl' : Nat → Prop} {A B : Option Addr} {n c m d : Nat} {L : List CQ} {gs : List GD} (h : TbW w pl A n c L) (hR : RD w pl' 5 B m (gs.flatMap gdC)) (hl : gs.length = m) {b : Nat} (hf : fewL b L) (hb : b + m ≤ 1000) (hn : n ≤ 1000) (p : Int) (al : Bool) :
    Calls Tryz.prog 19 #[.slice A n c, .int .i64 p, .slice B m d, .bool al] w (CtOfPost w A n c L (b + m) (offRun p al (L.map Prod.fst) 0 gs)) := by
  have HT := Lib.hid (h.lo (pl' := ctAny) (fun _ _ => trivial))
  have HR := Lib.hid hR
  have HL := Lib.hid hl
  have HF := Lib.hid hf
  obtain ⟨r, hr⟩ : ∃ r, offRun p al (L.map Prod.fst) 0 gs = r := ⟨_, rfl⟩
  have HRR := Lib.hid hr
  have HFM := Lib.hid (hf.mono (show b ≤ b + m by omega))
  rw [hr]
  clear h hR hl hf hr
  go_enter Tryz.func19, Tryz.ntmps19
  go_wp2_with fail
  go_loopw [11, 12] (fun s i wr => ∃ k : Nat, k ≤ m ∧ i = .int .i64 k ∧ ∃ A' c' Lk, s = .slice A' n c' ∧ TbW wr ctAny A' n c' Lk ∧ offRun p al (Lk.map Prod.fst) k (gs.drop k) = r ∧ fewL (b + k) Lk ∧ Below w.heap.size w wr) (fun _ i _ => m - (intOf i).toNat)
  case atStart => exact ⟨0, Nat.zero_le _, rfl, A, c, L, rfl, HT.out, HRR.out, HF.out, Below.refl _ _⟩
  case round =>
    obtain ⟨k, hk, rfl, A1, c1, Lk, rfl, hd, hrun, hfew, hbw⟩ := hrel
    by_cases hlt : k < m
    · have hkl : k < gs.length := by rw [HL.out]; exact hlt
      obtain ⟨b0, o0, rfl, _, _, hrg⟩ := RD.row gdC_len (HR.out.below hbw) (List.getElem?_eq_getElem hkl) hlt
      rw [List.drop_eq_getElem_cons hkl] at hrun
      generalize gs[k] = g at hrg hrun
      obtain ⟨gk, go, gv, gr, gn⟩ := g
      have HRG := Lib.hid hrg
      have HRN := Lib.hid hrun
      have HU0 := Lib.hid (up_alloc wr (.cells (gdC ⟨gk, go, gv, gr, gn⟩).toArray 63))
      have HB := Lib.hid hbw
      have HBX := Lib.hid (Blk.new wr (gdC ⟨gk, go, gv, gr, gn⟩) 63)
      have HTB := Lib.hid (hd.below HU0.out)
      have HFW := Lib.hid hfew
      have HLK := Lib.hid hd.len
      have hkm : (k : Int) < (m : Int) := by omega
      have c0 := HBX.out.cell 0 _ rfl
      have c1' := HBX.out.cell 1 _ rfl
      clear hkl hrg hrun hbw hd hfew
      cases hg : ((gk != 1) && (gk != 2))
      · have HGO : Hid (gdOff ⟨gk, go, gv, gr, gn⟩ = false) := Lib.hid hg
        have CI := Lib.hid (c_rtis A n c go)
        cases hin : (decide (0 ≤ go) && decide (go < (n : Int)))
        · rw [hin] at CI
          have HN : Hid (r = (Lk.map Prod.fst, k, 8)) := Lib.hid (by
            rw [← HRN.out, offRun_stop HGO.out (by rw [gdE_no HLK.out hin]; decide), gdE_no HLK.out hin])
          have hor : gk = 1 ∨ gk = 2 := by
            simp only [Bool.and_eq_false_iff, bne_eq_false_iff_eq] at hg
            exact hg
          clear hg hin
          rcases hor with rfl | rfl
          · have HBX' := HBX
            go_wp2_with (first | (refine lmr (b := b0) (q := o0 + k * 5) (cs := gdC ⟨1, go, gv, gr, gn⟩) (.tmp 25) rfl rfl Tryz.underlying63 rfl ct_info_gd rfl ?_ ?_; (· exact HRG.out)) | (refine snr (W := wr) (cs := gdC ⟨1, go, gv, gr, gn⟩) (zs := gdC ⟨0, 0, 0, 0, 0⟩) (t := 63) (.tmp 13) (.tmp 26) rfl rfl rfl rfl ct_info_gd rfl (gdC_one _) ?_ ?_ ?_; (· rfl); (· rfl)))
            refine (CI.out _).mono ?_; rintro e w' ⟨rfl, rfl⟩
            go_wp2_with fail
            go_ret3
            have hU := up_trans HB.out HU0.out
            exact ⟨A, c, L, by rw [HN.out]; rfl, HT.out.below hU, fun h => (by rw [HN.out] at h; exact absurd h (by decide : ¬ (8 : Int) = 0)), fun _ => ⟨rfl, rfl, rfl⟩, HFM.out, hU⟩
          · have HBX' := HBX
            go_wp2_with (first | (refine lmr (b := b0) (q := o0 + k * 5) (cs := gdC ⟨2, go, gv, gr, gn⟩) (.tmp 25) rfl rfl Tryz.underlying63 rfl ct_info_gd rfl ?_ ?_; (· exact HRG.out)) | (refine snr (W := wr) (cs := gdC ⟨2, go, gv, gr, gn⟩) (zs := gdC ⟨0, 0, 0, 0, 0⟩) (t := 63) (.tmp 13) (.tmp 26) rfl rfl rfl rfl ct_info_gd rfl (gdC_one _) ?_ ?_ ?_; (· rfl); (· rfl)))
            refine (CI.out _).mono ?_; rintro e w' ⟨rfl, rfl⟩
            go_wp2_with fail
            go_ret3
            have hU := up_trans HB.out HU0.out
            exact ⟨A, c, L, by rw [HN.out]; rfl, HT.out.below hU, fun h => (by rw [HN.out] at h; exact absurd h (by decide : ¬ (8 : Int) = 0)), fun _ => ⟨rfl, rfl, rfl⟩, HFM.out, hU⟩
        · rw [hin] at CI
          have hjn0 : 0 ≤ go ∧ go < (n : Int) := by simpa using hin
          obtain ⟨j, rfl⟩ : ∃ j : Nat, go = (j : Int) := ⟨go.toNat, by omega⟩
          have hjn : j < n := by omega
          have hjn' : (j : Int) < (n : Int) := by omega
          have hj3 : j ≤ 1000 := by omega
          obtain ⟨u, v, ⟨C, M⟩, rfl, _, hul, hq, hrq, hch⟩ := HTB.out.at_ j hjn
          have HQ := Lib.hid hq
          have hfq := HFW.out _ (List.mem_of_getElem? hq)
          have HFQ := Lib.hid hfq
          have HFN := Lib.hid (hfq.few (by omega) hch)
          have HRQ : Hid (∀ W, Below (wr.alloc (.cells (gdC ⟨gk, (j : Int), gv, gr, gn⟩).toArray 63)).heap.size (wr.alloc (.cells (gdC ⟨gk, (j : Int), gv, gr, gn⟩).toArray 63)) W → W.rangeAt u (v + j * 11) (chC C M)) := Lib.hid (fun W hW => range_below hrq hW hul)
          have e6 : (wr.alloc (.cells (gdC ⟨gk, (j : Int), gv, gr, gn⟩).toArray 63)).cell? ⟨u, v + j * 11 + 6, none⟩ = some (.bool C.os) := hrq 6 _ rfl
          have e9 : (wr.alloc (.cells (gdC ⟨gk, (j : Int), gv, gr, gn⟩).toArray 63)).cell? ⟨u, v + j * 11 + 9, none⟩ = some (.bool C.is) := hrq 9 _ rfl
          have HCH := Lib.hid hch
          have CRV := Lib.hid (c_rcrecv hch HFN.out (fun _ _ => trivial) p)
          have hor : gk = 1 ∨ gk = 2 := by
            simp only [Bool.and_eq_false_iff, bne_eq_false_iff_eq] at hg
            exact hg
          clear hg hin hul hq hfq hrq hch hjn0
          rcases hor with rfl | rfl
          · have HE : Hid (gdE (Lk.map Prod.fst) p al ⟨1, (j : Int), gv, gr, gn⟩ = if (al && C.is) = true then 12 else chRecvE C p) := Lib.hid (gdE_at (g := ⟨1, (j : Int), gv, gr, gn⟩) HQ.out rfl)
            have HLL := Lib.hid (fun (h0 : gdE (Lk.map Prod.fst) p al ⟨1, (j : Int), gv, gr, gn⟩ = 0) (M2 : SM) => gdL_at (g := ⟨1, (j : Int), gv, gr, gn⟩) HQ.out rfl h0 M2)
            have HFS : Hid (fewC (b + k + 1) (chRecv C p)) := Lib.hid (HFQ.out.step p ⟨1, (j : Int), gv, gr, gn⟩)
            obtain ⟨sf, hsf⟩ : ∃ x, C.is = x := ⟨_, rfl⟩
            rw [hsf] at HE e9
            clear hsf e6
            obtain ⟨x, hx⟩ : ∃ x, chRecvE C p = x := ⟨_, rfl⟩
            obtain ⟨N, hN⟩ : ∃ N, chRecv C p = N := ⟨_, rfl⟩
            change Hid (_ → ∀ M2, (Lk.set j (chRecv C p, M2)).map Prod.fst = _) at HLL
            rw [hx] at HE
            rw [hN] at HLL HFS
            rw [hx, hN] at CRV
            clear hx hN
            cases al
            · have HE2 : Hid (gdE (Lk.map Prod.fst) p false ⟨1, (j : Int), gv, gr, gn⟩ = x) := Lib.hid HE.out
              by_cases h0 : x = 0
              · subst h0
                have HN : Hid (offRun p false (gdL (Lk.map Prod.fst) p false ⟨1, (j : Int), gv, gr, gn⟩) (k + 1) (gs.drop (k + 1)) = r) := Lib.hid (by rw [← HRN.out, offRun_step HGO.out HE2.out])
                go_wp2_with (first | (refine lmr (b := b0) (q := o0 + k * 5) (cs := gdC ⟨1, (j : Int), gv, gr, gn⟩) (.tmp 25) rfl rfl Tryz.underlying63 rfl ct_info_gd rfl ?_ ?_; (· exact HRG.out)) | (refine snr (W := wr) (cs := gdC ⟨1, (j : Int), gv, gr, gn⟩) (zs := gdC ⟨0, 0, 0, 0, 0⟩) (t := 63) (.tmp 13) (.tmp 26) rfl rfl rfl rfl ct_info_gd rfl (gdC_one _) ?_ ?_ ?_; (· rfl); (· rfl)))
                refine (CI.out _).mono ?_; rintro e w' ⟨rfl, rfl⟩
                go_upto_region 11 with fail
                go_wp2_with (refine lmr (b := u) (q := v + j * 11) (cs := chC C M) (.tmp 77) rfl rfl Tryz.underlying107 rfl info_rch rfl ?_ ?_; (· exact HRQ.out _ (Below.refl _ _)))
                refine CRV.out.mono ?_; rintro e w2 ⟨M1, rfl, hch1, hb2⟩
                have hb3 := up_trans hb2 (up_alloc w2 (.cells (chC N M1).toArray 107))
                have HK := Lib.hid (Blk.new w2 (chC N M1) 107)
                have HB3 := Lib.hid hb3
                have HC1 := Lib.hid (hch1.below (up_alloc w2 (.cells (chC N M1).toArray 107)))
                have d0 := (HBX.out.up hb3 HBX.out.lt).cell 0 _ rfl
                have d1 := (HBX.out.up hb3 HBX.out.lt).cell 1 _ rfl
                have HB2 := Lib.hid hb2
                clear hb2 hb3 hch1 c0 c1' e9
                go_wp2_with (first | (refine snr (W := w2) (cs := chC N M1) (zs := chZ) (t := 107) (.tmp 14) (.tmp 81) rfl rfl rfl rfl info_rch rfl chC_one ?_ ?_ ?_; (· rfl); (· rfl)) | (refine ldr (b := w2.heap.size) (t := 107) (cs := chC N M1) (.tmp 14) rfl rfl Tryz.underlying107 rfl info_rch rfl ?_ ?_; (· exact HK.out)))
                refine (c_rtput (HTB.out.below HB3.out) hn j hjn HC1.out).mono ?_; rintro e w4 ⟨A4, c4, rfl, ht4, hb4⟩
                have HT4 := Lib.hid (ht4.lo (pl' := ctAny) (fun _ _ => trivial))
                have HB4 := Lib.hid (up_trans (up_trans (up_trans HB.out HU0.out) HB3.out) hb4)
                clear ht4 hb4 d0 d1
                go_wp2_with fail
                go_roundw
                case rel => exact ⟨k + 1, by omega, by go_num, A4, c4, _, rfl, HT4.out, by rw [HLL.out HE2.out]; exact HN.out, fun q hq => (List.mem_or_eq_of_mem_set hq).elim (fun h => (HFW.out q h).mono (by omega)) (fun h => by rw [h]; exact HFS.out), HB4.out⟩
                case measure => simp [intOf]; omega
              · have hx1 : (x != 0) = true := by simp [bne, h0]
                have HN : Hid (r = (Lk.map Prod.fst, k, x)) := Lib.hid (by rw [← HRN.out, offRun_stop HGO.out (by rw [HE2.out]; exact h0), HE2.out])
                have HX0 := Lib.hid h0
                clear h0
                go_wp2_with (first | (refine lmr (b := b0) (q := o0 + k * 5) (cs := gdC ⟨1, (j : Int), gv, gr, gn⟩) (.tmp 25) rfl rfl Tryz.underlying63 rfl ct_info_gd rfl ?_ ?_; (· exact HRG.out)) | (refine snr (W := wr) (cs := gdC ⟨1, (j : Int), gv, gr, gn⟩) (zs := gdC ⟨0, 0, 0, 0, 0⟩) (t := 63) (.tmp 13) (.tmp 26) rfl rfl rfl rfl ct_info_gd rfl (gdC_one _) ?_ ?_ ?_; (· rfl); (· rfl)))
                refine (CI.out _).mono ?_; rintro e w' ⟨rfl, rfl⟩
                go_upto_region 11 with fail
                go_wp2_with (refine lmr (b := u) (q := v + j * 11) (cs := chC C M) (.tmp 77) rfl rfl Tryz.underlying107 rfl info_rch rfl ?_ ?_; (· exact HRQ.out _ (Below.refl _ _)))
                refine CRV.out.mono ?_; rintro e w2 ⟨M1, rfl, hch1, hb2⟩
                have hb3 := up_trans hb2 (up_alloc w2 (.cells (chC N M1).toArray 107))
                have HK := Lib.hid (Blk.new w2 (chC N M1) 107)
                have HB3 := Lib.hid hb3
                have HC1 := Lib.hid (hch1.below (up_alloc w2 (.cells (chC N M1).toArray 107)))
                have d0 := (HBX.out.up hb3 HBX.out.lt).cell 0 _ rfl
                have d1 := (HBX.out.up hb3 HBX.out.lt).cell 1 _ rfl
                have HB2 := Lib.hid hb2
                clear hb2 hb3 hch1 c0 c1' e9
                go_wp2_with (refine snr (W := w2) (cs := chC N M1) (zs := chZ) (t := 107) (.tmp 14) (.tmp 81) rfl rfl rfl rfl info_rch rfl chC_one ?_ ?_ ?_; (· rfl); (· rfl))
                go_ret3
                have hU := up_trans (up_trans HB.out HU0.out) HB3.out
                exact ⟨A, c, L, by rw [HN.out]; rfl, HT.out.below hU, fun h => (by rw [HN.out] at h; exact absurd h HX0.out), fun _ => ⟨rfl, rfl, rfl⟩, HFM.out, hU⟩
            · cases sf
              · have HE2 : Hid (gdE (Lk.map Prod.fst) p true ⟨1, (j : Int), gv, gr, gn⟩ = x) := Lib.hid HE.out
                by_cases h0 : x = 0
                · subst h0
                  have HN : Hid (offRun p true (gdL (Lk.map Prod.fst) p true ⟨1, (j : Int), gv, gr, gn⟩) (k + 1) (gs.drop (k + 1)) = r) := Lib.hid (by rw [← HRN.out, offRun_step HGO.out HE2.out])
                  go_wp2_with (first | (refine lmr (b := b0) (q := o0 + k * 5) (cs := gdC ⟨1, (j : Int), gv, gr, gn⟩) (.tmp 25) rfl rfl Tryz.underlying63 rfl ct_info_gd rfl ?_ ?_; (· exact HRG.out)) | (refine snr (W := wr) (cs := gdC ⟨1, (j : Int), gv, gr, gn⟩) (zs := gdC ⟨0, 0, 0, 0, 0⟩) (t := 63) (.tmp 13) (.tmp 26) rfl rfl rfl rfl ct_info_gd rfl (gdC_one _) ?_ ?_ ?_; (· rfl); (· rfl)))
                  refine (CI.out _).mono ?_; rintro e w' ⟨rfl, rfl⟩
                  go_upto_region 11 with fail
                  go_wp2_with (refine lmr (b := u) (q := v + j * 11) (cs := chC C M) (.tmp 77) rfl rfl Tryz.underlying107 rfl info_rch rfl ?_ ?_; (· exact HRQ.out _ (Below.refl _ _)))
                  refine CRV.out.mono ?_; rintro e w2 ⟨M1, rfl, hch1, hb2⟩
                  have hb3 := up_trans hb2 (up_alloc w2 (.cells (chC N M1).toArray 107))
                  have HK := Lib.hid (Blk.new w2 (chC N M1) 107)
                  have HB3 := Lib.hid hb3
                  have HC1 := Lib.hid (hch1.below (up_alloc w2 (.cells (chC N M1).toArray 107)))
                  have d0 := (HBX.out.up hb3 HBX.out.lt).cell 0 _ rfl
                  have d1 := (HBX.out.up hb3 HBX.out.lt).cell 1 _ rfl
                  have HB2 := Lib.hid hb2
                  clear hb2 hb3 hch1 c0 c1' e9
                  go_wp2_with (first | (refine snr (W := w2) (cs := chC N M1) (zs := chZ) (t := 107) (.tmp 14) (.tmp 81) rfl rfl rfl rfl info_rch rfl chC_one ?_ ?_ ?_; (· rfl); (· rfl)) | (refine ldr (b := w2.heap.size) (t := 107) (cs := chC N M1) (.tmp 14) rfl rfl Tryz.underlying107 rfl info_rch rfl ?_ ?_; (· exact HK.out)))
                  refine (c_rtput (HTB.out.below HB3.out) hn j hjn HC1.out).mono ?_; rintro e w4 ⟨A4, c4, rfl, ht4, hb4⟩
                  have HT4 := Lib.hid (ht4.lo (pl' := ctAny) (fun _ _ => trivial))
                  have HB4 := Lib.hid (up_trans (up_trans (up_trans HB.out HU0.out) HB3.out) hb4)
                  clear ht4 hb4 d0 d1
                  go_wp2_with fail
                  go_roundw
                  case rel => exact ⟨k + 1, by omega, by go_num, A4, c4, _, rfl, HT4.out, by rw [HLL.out HE2.out]; exact HN.out, fun q hq => (List.mem_or_eq_of_mem_set hq).elim (fun h => (HFW.out q h).mono (by omega)) (fun h => by rw [h]; exact HFS.out), HB4.out⟩
                  case measure => simp [intOf]; omega
                · have hx1 : (x != 0) = true := by simp [bne, h0]
                  have HN : Hid (r = (Lk.map Prod.fst, k, x)) := Lib.hid (by rw [← HRN.out, offRun_stop HGO.out (by rw [HE2.out]; exact h0), HE2.out])
                  have HX0 := Lib.hid h0
                  clear h0
                  go_wp2_with (first | (refine lmr (b := b0) (q := o0 + k * 5) (cs := gdC ⟨1, (j : Int), gv, gr, gn⟩) (.tmp 25) rfl rfl Tryz.underlying63 rfl ct_info_gd rfl ?_ ?_; (· exact HRG.out)) | (refine snr (W := wr) (cs := gdC ⟨1, (j : Int), gv, gr, gn⟩) (zs := gdC ⟨0, 0, 0, 0, 0⟩) (t := 63) (.tmp 13) (.tmp 26) rfl rfl rfl rfl ct_info_gd rfl (gdC_one _) ?_ ?_ ?_; (· rfl); (· rfl)))
                  refine (CI.out _).mono ?_; rintro e w' ⟨rfl, rfl⟩
                  go_upto_region 11 with fail
                  go_wp2_with (refine lmr (b := u) (q := v + j * 11) (cs := chC C M) (.tmp 77) rfl rfl Tryz.underlying107 rfl info_rch rfl ?_ ?_; (· exact HRQ.out _ (Below.refl _ _)))
                  refine CRV.out.mono ?_; rintro e w2 ⟨M1, rfl, hch1, hb2⟩
                  have hb3 := up_trans hb2 (up_alloc w2 (.cells (chC N M1).toArray 107))
                  have HK := Lib.hid (Blk.new w2 (chC N M1) 107)
                  have HB3 := Lib.hid hb3
                  have HC1 := Lib.hid (hch1.below (up_alloc w2 (.cells (chC N M1).toArray 107)))
                  have d0 := (HBX.out.up hb3 HBX.out.lt).cell 0 _ rfl
                  have d1 := (HBX.out.up hb3 HBX.out.lt).cell 1 _ rfl
                  have HB2 := Lib.hid hb2
                  clear hb2 hb3 hch1 c0 c1' e9
                  go_wp2_with (refine snr (W := w2) (cs := chC N M1) (zs := chZ) (t := 107) (.tmp 14) (.tmp 81) rfl rfl rfl rfl info_rch rfl chC_one ?_ ?_ ?_; (· rfl); (· rfl))
                  go_ret3
                  have hU := up_trans (up_trans HB.out HU0.out) HB3.out
                  exact ⟨A, c, L, by rw [HN.out]; rfl, HT.out.below hU, fun h => (by rw [HN.out] at h; exact absurd h HX0.out), fun _ => ⟨rfl, rfl, rfl⟩, HFM.out, hU⟩
              · have HE2 : Hid (gdE (Lk.map Prod.fst) p true ⟨1, (j : Int), gv, gr, gn⟩ = 12) := HE
                have HN : Hid (r = (Lk.map Prod.fst, k, 12)) := Lib.hid (by rw [← HRN.out, offRun_stop HGO.out (by rw [HE2.out]; exact (by decide : ¬ (12 : Int) = 0)), HE2.out])
                go_wp2_with (first | (refine lmr (b := b0) (q := o0 + k * 5) (cs := gdC ⟨1, (j : Int), gv, gr, gn⟩) (.tmp 25) rfl rfl Tryz.underlying63 rfl ct_info_gd rfl ?_ ?_; (· exact HRG.out)) | (refine snr (W := wr) (cs := gdC ⟨1, (j : Int), gv, gr, gn⟩) (zs := gdC ⟨0, 0, 0, 0, 0⟩) (t := 63) (.tmp 13) (.tmp 26) rfl rfl rfl rfl ct_info_gd rfl (gdC_one _) ?_ ?_ ?_; (· rfl); (· rfl)))
                refine (CI.out _).mono ?_; rintro e w' ⟨rfl, rfl⟩
                go_wp2_with fail
                go_ret3
                have hU := up_trans HB.out HU0.out
                exact ⟨A, c, L, by rw [HN.out]; rfl, HT.out.below hU, fun h => (by rw [HN.out] at h; exact absurd h (by decide : ¬ (12 : Int) = 0)), fun _ => ⟨rfl, rfl, rfl⟩, HFM.out, hU⟩
          · have HE : Hid (gdE (Lk.map Prod.fst) p al ⟨2, (j : Int), gv, gr, gn⟩ = if (al && C.os) = true then 12 else chSendE C p gv) := Lib.hid (gdE_at (g := ⟨2, (j : Int), gv, gr, gn⟩) HQ.out rfl)
            have HLL := Lib.hid (fun (h0 : gdE (Lk.map Prod.fst) p al ⟨2, (j : Int), gv, gr, gn⟩ = 0) (M2 : SM) => gdL_at (g := ⟨2, (j : Int), gv, gr, gn⟩) HQ.out rfl h0 M2)
            have HFS : Hid (fewC (b + k + 1) (chSend C p gv)) := Lib.hid (HFQ.out.step p ⟨2, (j : Int), gv, gr, gn⟩)
            have CSD := Lib.hid (fun (bx : Nat) (hbx : (wr.alloc (.cells (gdC ⟨2, (j : Int), gv, gr, gn⟩).toArray 63)).heap.size ≤ bx) W (hW : Below (wr.alloc (.cells (gdC ⟨2, (j : Int), gv, gr, gn⟩).toArray 63)).heap.size (wr.alloc (.cells (gdC ⟨2, (j : Int), gv, gr, gn⟩).toArray 63)) W) (hlt : bx < W.heap.size) => c_rcsend (pl := fun b => b ≠ bx) ((HCH.out.lt.lo (fun b hb => by have := hb.2; omega)).below hW) HFN.out (fun b hb => by omega) p gv)
            obtain ⟨sf, hsf⟩ : ∃ x, C.os = x := ⟨_, rfl⟩
            rw [hsf] at HE e6
            clear hsf e9
            obtain ⟨x, hx⟩ : ∃ x, chSendE C p gv = x := ⟨_, rfl⟩
            obtain ⟨N, hN⟩ : ∃ N, chSend C p gv = N := ⟨_, rfl⟩
            change Hid (_ → ∀ M2, (Lk.set j (chSend C p gv, M2)).map Prod.fst = _) at HLL
            rw [hx] at HE
            rw [hN] at HLL HFS
            simp only [hx, hN] at CSD
            clear hx hN
            cases al
            · have HE2 : Hid (gdE (Lk.map Prod.fst) p false ⟨2, (j : Int), gv, gr, gn⟩ = x) := Lib.hid HE.out
              by_cases h0 : x = 0
              · subst h0
                have HN : Hid (offRun p false (gdL (Lk.map Prod.fst) p false ⟨2, (j : Int), gv, gr, gn⟩) (k + 1) (gs.drop (k + 1)) = r) := Lib.hid (by rw [← HRN.out, offRun_step HGO.out HE2.out])
                go_wp2_with (first | (refine lmr (b := b0) (q := o0 + k * 5) (cs := gdC ⟨2, (j : Int), gv, gr, gn⟩) (.tmp 25) rfl rfl Tryz.underlying63 rfl ct_info_gd rfl ?_ ?_; (· exact HRG.out)) | (refine snr (W := wr) (cs := gdC ⟨2, (j : Int), gv, gr, gn⟩) (zs := gdC ⟨0, 0, 0, 0, 0⟩) (t := 63) (.tmp 13) (.tmp 26) rfl rfl rfl rfl ct_info_gd rfl (gdC_one _) ?_ ?_ ?_; (· rfl); (· rfl)))
                refine (CI.out _).mono ?_; rintro e w' ⟨rfl, rfl⟩
                go_upto_region 11 with fail
                go_wp2_with (refine lmr (b := u) (q := v + j * 11) (cs := chC C M) (.tmp 77) rfl rfl Tryz.underlying107 rfl info_rch rfl ?_ ?_; (· exact HRQ.out _ (Below.refl _ _)))
                refine CRV.out.mono ?_; rintro e w2 ⟨M1, rfl, hch1, hb2⟩
                have hb3 := up_trans hb2 (up_alloc w2 (.cells (chC (chRecv C p) M1).toArray 107))
                have HK := Lib.hid (Blk.new w2 (chC (chRecv C p) M1) 107)
                have HB3 := Lib.hid hb3
                have HC1 := Lib.hid (hch1.below (up_alloc w2 (.cells (chC (chRecv C p) M1).toArray 107)))
                have d0 := (HBX.out.up hb3 HBX.out.lt).cell 0 _ rfl
                have d1 := (HBX.out.up hb3 HBX.out.lt).cell 1 _ rfl
                have HB2 := Lib.hid hb2
                clear hb2 hb3 hch1 c0 c1' e6
                go_upto_region 13 with (refine snr (W := w2) (cs := chC (chRecv C p) M1) (zs := chZ) (t := 107) (.tmp 14) (.tmp 81) rfl rfl rfl rfl info_rch rfl chC_one ?_ ?_ ?_; (· rfl); (· rfl))
                generalize hbx : w2.heap.size = bx at HK ⊢
                have hbl : (wr.alloc (.cells (gdC ⟨2, (j : Int), gv, gr, gn⟩).toArray 63)).heap.size ≤ bx := by rw [← hbx]; exact HB2.out.size
                have HBL := Lib.hid hbl
                clear hbl hbx
                generalize w2.alloc (.cells (chC (chRecv C p) M1).toArray 107) = w3 at HK HB3 HC1 d0 d1 ⊢
                refine wp_region_held_drew (S := fun W => Below (wr.alloc (.cells (gdC ⟨2, (j : Int), gv, gr, gn⟩).toArray 63)).heap.size (wr.alloc (.cells (gdC ⟨2, (j : Int), gv, gr, gn⟩).toArray 63)) W ∧ ∃ ds : List Value, ds.length = 11 ∧ Blk W bx ds 107) (by kernel_rfl) ⟨up_trans HB3.out (up_drewN _ 1), _, rfl, HK.out⟩ (fun hHeld => ?_)
                refine wpAnyH_take (i := 0) (oi := ?_) (v := ?_) ?_ (by kernel_rfl) (by kernel_rfl) (by kernel_rfl) ?_ (Or.inl ⟨?_, ?_⟩) hHeld ?_
                rotate_left 2
                · conv => lhs; simp only [List.getElem?_toArray, List.getElem?_cons_succ, List.getElem?_cons_zero]
                · exact fun _ _ _ h => h
                · rfl
                · intro W hSw
                  go_simp
                  try with_reducible rfl
                try simp only [Act.put, List.setIfInBounds_toArray, List.set_cons_zero, List.set_cons_succ]
                refine wpAnyH_take (i := 1) (oi := ?_) (v := ?_) ?_ (by kernel_rfl) (by kernel_rfl) (by kernel_rfl) ?_ (Or.inl ⟨?_, ?_⟩) hHeld ?_
                rotate_left 2
                · conv => lhs; simp only [List.getElem?_toArray, List.getElem?_cons_succ, List.getElem?_cons_zero]
                · exact fun _ _ _ h => h
                · rfl
                · intro W hSw
                  go_simp
                  try with_reducible rfl
                try simp only [Act.put, List.setIfInBounds_toArray, List.set_cons_zero, List.set_cons_succ]
                refine wpAnyH_take (i := 2) (oi := ?_) (v := ?_) ?_ (by kernel_rfl) (by kernel_rfl) (by kernel_rfl) ?_ (Or.inl ⟨?_, ?_⟩) hHeld ?_
                rotate_left 2
                · conv => lhs; simp only [List.getElem?_toArray, List.getElem?_cons_succ, List.getElem?_cons_zero]
                · exact fun _ _ _ h => h
                · rfl
                · intro W hSw
                  have f0 := (HBX.out.up hSw.1 HBX.out.lt).cell 1 _ rfl
                  go_simp
                  try with_reducible rfl
                try simp only [Act.put, List.setIfInBounds_toArray, List.set_cons_zero, List.set_cons_succ]
                refine wpAnyH_take (i := 3) (oi := ?_) (v := ?_) ?_ (by kernel_rfl) (by kernel_rfl) (by kernel_rfl) ?_ (Or.inl ⟨?_, ?_⟩) hHeld ?_
                rotate_left 2
                · conv => lhs; simp only [List.getElem?_toArray, List.getElem?_cons_succ, List.getElem?_cons_zero]
                · exact fun _ _ _ h => h
                · rfl
                · intro W hSw
                  go_simp
                  try with_reducible rfl
                try simp only [Act.put, List.setIfInBounds_toArray, List.set_cons_zero, List.set_cons_succ]
                refine wpAnyH_take (i := 4) (oi := ?_) (v := (.agg (chC C M).toArray)) ?_ (by kernel_rfl) (by kernel_rfl) (by kernel_rfl) ?_ (Or.inl ⟨?_, ?_⟩) hHeld ?_
                rotate_left 1
                · conv => lhs; simp only [List.getElem?_toArray, List.getElem?_cons_succ, List.getElem?_cons_zero]
                · exact fun _ _ _ h => h
                · rfl
                · intro W hSw
                  exact tk_part (q := v + j * 11) rfl rfl Tryz.underlying107 rfl info_rch (HRQ.out _ hSw.1)
                try simp only [Act.put, List.setIfInBounds_toArray, List.set_cons_zero, List.set_cons_succ]
                refine wpAnyH_take (i := 5) (oi := ?_) (v := ?_) ?_ (by kernel_rfl) (by kernel_rfl) (by kernel_rfl) ?_ (Or.inl ⟨?_, ?_⟩) hHeld ?_
                rotate_left 2
                · conv => lhs; simp only [List.getElem?_toArray, List.getElem?_cons_succ, List.getElem?_cons_zero]
                · exact fun _ _ _ h => h
                · rfl
                · intro W hSw
                  go_simp
                  try with_reducible rfl
                try simp only [Act.put, List.setIfInBounds_toArray, List.set_cons_zero, List.set_cons_succ]
                refine wpAnyH_take (i := 6) (oi := ?_) (v := ?_) ?_ (by kernel_rfl) (by kernel_rfl) (by kernel_rfl) ?_ (Or.inl ⟨?_, ?_⟩) hHeld ?_
                rotate_left 2
                · conv => lhs; simp only [List.getElem?_toArray, List.getElem?_cons_succ, List.getElem?_cons_zero]
                · exact fun _ _ _ h => h
                · rfl
                · intro W hSw
                  go_simp
                  try with_reducible rfl
                try simp only [Act.put, List.setIfInBounds_toArray, List.set_cons_zero, List.set_cons_succ]
                refine wpAnyH_take (i := 7) (oi := ?_) (v := ?_) ?_ (by kernel_rfl) (by kernel_rfl) (by kernel_rfl) ?_ (Or.inl ⟨?_, ?_⟩) hHeld ?_
                rotate_left 2
                · conv => lhs; simp only [List.getElem?_toArray, List.getElem?_cons_succ, List.getElem?_cons_zero]
                · exact fun _ _ _ h => h
                · rfl
                · intro W hSw
                  have f0 := (HBX.out.up hSw.1 HBX.out.lt).cell 2 _ rfl
                  go_simp
                  try with_reducible rfl
                try simp only [Act.put, List.setIfInBounds_toArray, List.set_cons_zero, List.set_cons_succ]
                refine wpAnyH_ready (rs := [8]) (by kernel_rfl) (by simp) ?_
                refine AllReadyH.cons (o := ?_) ?_ (fun K hK => ?_) AllReadyH.nil
                rotate_left 1
                · conv => lhs; simp only [List.getElem?_toArray, List.getElem?_cons_succ, List.getElem?_cons_zero]
                go_simp
                have hlt : bx < _ := (by obtain ⟨ds, h1, h2⟩ := hHeld.2; exact h2.lt)
                refine (CSD.out bx HBL.out _ hHeld.1 hlt).mono ?_
                rintro e wA ⟨M2, rfl, hch2, hb⟩
                have HC2 := Lib.hid hch2
                go_wp2_with fail
                refine hK.out _ _ (⟨up_trans hHeld.1 hb, by obtain ⟨ds, h1, h2⟩ := hHeld.2; exact ⟨ds, h1, h2.up hb h2.lt⟩⟩) (fun hHeld => ?_)
                clear hK K
                try simp only [Act.put, List.setIfInBounds_toArray, List.set_cons_zero, List.set_cons_succ]
                refine wpAnyH_take (i := 9) (oi := ?_) (v := ?_) ?_ (by kernel_rfl) (by kernel_rfl) (by kernel_rfl) ?_ (Or.inl ⟨?_, ?_⟩) hHeld ?_
                rotate_left 2
                · conv => lhs; simp only [List.getElem?_toArray, List.getElem?_cons_succ, List.getElem?_cons_zero]
                · exact fun _ _ _ h => h
                · rfl
                · intro W hSw
                  go_simp
                  try with_reducible rfl
                try simp only [Act.put, List.setIfInBounds_toArray, List.set_cons_zero, List.set_cons_succ]
                refine wpAnyH_take (i := 10) (oi := ?_) (v := ?_) ?_ (by kernel_rfl) (by kernel_rfl) (by kernel_rfl) ?_ (Or.inl ⟨?_, ?_⟩) hHeld ?_
                rotate_left 2
                · conv => lhs; simp only [List.getElem?_toArray, List.getElem?_cons_succ, List.getElem?_cons_zero]
                · exact fun _ _ _ h => h
                · rfl
                · intro W hSw
                  go_simp
                  try with_reducible rfl
                try simp only [Act.put, List.setIfInBounds_toArray, List.set_cons_zero, List.set_cons_succ]
                refine wpAnyH_take (i := 11) (oi := ?_) (v := ?_) ?_ (by kernel_rfl) (by kernel_rfl) (by kernel_rfl) ?_ (Or.inl ⟨?_, ?_⟩) hHeld ?_
                rotate_left 2
                · conv => lhs; simp only [List.getElem?_toArray, List.getElem?_cons_succ, List.getElem?_cons_zero]
                · exact fun _ _ _ h => h
                · rfl
                · intro W hSw
                  go_simp
                  try with_reducible rfl
                try simp only [Act.put, List.setIfInBounds_toArray, List.set_cons_zero, List.set_cons_succ]
                obtain ⟨ds, hds, hres⟩ := hHeld.2
                refine wpAnyH_ready (rs := [12]) (by kernel_rfl) (by simp) ?_
                refine AllReadyH.cons (o := ?_) ?_ (fun K hK => ?_) AllReadyH.nil
                rotate_left 1
                · conv => lhs; simp only [List.getElem?_toArray, List.getElem?_cons_succ, List.getElem?_cons_zero]
                rw [if_pos (by rfl)]
                refine wp_store_row 107 (.tmp 14) (.tmp 96) rfl bx (chC N M2).toArray rfl rfl 107 ds.toArray hres info_rch (by rw [List.size_toArray, List.size_toArray, hds]; rfl) (al_one chC_one) ?_
                refine hK.out _ _ (⟨below_setRow hHeld.1 HBL.out _, _, rfl, hres.row (chC N M2)⟩) (fun hHeld => ?_)
                clear hK K
                refine wpAnyH_take (i := 13) (oi := ?_) (v := ?_) ?_ (by kernel_rfl) (by kernel_rfl) (by kernel_rfl) ?_ (Or.inl ⟨?_, ?_⟩) hHeld ?_
                rotate_left 2
                · conv => lhs; simp only [List.getElem?_toArray, List.getElem?_cons_succ, List.getElem?_cons_zero]
                · exact fun _ _ _ h => h
                · rfl
                · intro W hSw
                  go_simp
                  try with_reducible rfl
                try simp only [Act.put, List.setIfInBounds_toArray, List.set_cons_zero, List.set_cons_succ]
                refine wpAnyH_done (by kernel_rfl) ?_ _
                have HK := Lib.hid (hres.row (chC N M2))
                have HB5 := Lib.hid hHeld.1
                have HC1 := Lib.hid ((HC2.out.only ((Only.refl (· = bx) _).row rfl (chC N M2).toArray) (fun i hi hh => hh hi)).lo (pl' := ctAny) (fun _ _ => trivial))
                have d1 := (HBX.out.up HB5.out HBX.out.lt).cell 1 _ rfl
                clear hHeld hres
                go_wp2_with (refine ldr (b := bx) (t := 107) (cs := chC N M2) (.tmp 14) rfl rfl Tryz.underlying107 rfl info_rch rfl ?_ ?_; (· exact HK.out))
                refine (c_rtput (HTB.out.below HB5.out) hn j hjn HC1.out).mono ?_; rintro e w4 ⟨A4, c4, rfl, ht4, hb4⟩
                have HT4 := Lib.hid (ht4.lo (pl' := ctAny) (fun _ _ => trivial))
                have HB4 := Lib.hid (up_trans (up_trans (up_trans HB.out HU0.out) HB5.out) hb4)
                clear ht4 hb4 d1
                go_wp2_with fail
                go_roundw
                case rel => exact ⟨k + 1, by omega, by go_num, A4, c4, _, rfl, HT4.out, by rw [HLL.out HE2.out]; exact HN.out, fun q hq => (List.mem_or_eq_of_mem_set hq).elim (fun h => (HFW.out q h).mono (by omega)) (fun h => by rw [h]; exact HFS.out), HB4.out⟩
                case measure => simp [intOf]; omega
              · have hx1 : (x != 0) = true := by simp [bne, h0]
                have HN : Hid (r = (Lk.map Prod.fst, k, x)) := Lib.hid (by rw [← HRN.out, offRun_stop HGO.out (by rw [HE2.out]; exact h0), HE2.out])
                have HX0 := Lib.hid h0
                clear h0
                go_wp2_with (first | (refine lmr (b := b0) (q := o0 + k * 5) (cs := gdC ⟨2, (j : Int), gv, gr, gn⟩) (.tmp 25) rfl rfl Tryz.underlying63 rfl ct_info_gd rfl ?_ ?_; (· exact HRG.out)) | (refine snr (W := wr) (cs := gdC ⟨2, (j : Int), gv, gr, gn⟩) (zs := gdC ⟨0, 0, 0, 0, 0⟩) (t := 63) (.tmp 13) (.tmp 26) rfl rfl rfl rfl ct_info_gd rfl (gdC_one _) ?_ ?_ ?_; (· rfl); (· rfl)))
                refine (CI.out _).mono ?_; rintro e w' ⟨rfl, rfl⟩
                go_upto_region 11 with fail
                go_wp2_with (refine lmr (b := u) (q := v + j * 11) (cs := chC C M) (.tmp 77) rfl rfl Tryz.underlying107 rfl info_rch rfl ?_ ?_; (· exact HRQ.out _ (Below.refl _ _)))
                refine CRV.out.mono ?_; rintro e w2 ⟨M1, rfl, hch1, hb2⟩
                have hb3 := up_trans hb2 (up_alloc w2 (.cells (chC (chRecv C p) M1).toArray 107))
                have HK := Lib.hid (Blk.new w2 (chC (chRecv C p) M1) 107)
                have HB3 := Lib.hid hb3
                have HC1 := Lib.hid (hch1.below (up_alloc w2 (.cells (chC (chRecv C p) M1).toArray 107)))
                have d0 := (HBX.out.up hb3 HBX.out.lt).cell 0 _ rfl
                have d1 := (HBX.out.up hb3 HBX.out.lt).cell 1 _ rfl
                have HB2 := Lib.hid hb2
                clear hb2 hb3 hch1 c0 c1' e6
                go_upto_region 13 with (refine snr (W := w2) (cs := chC (chRecv C p) M1) (zs := chZ) (t := 107) (.tmp 14) (.tmp 81) rfl rfl rfl rfl info_rch rfl chC_one ?_ ?_ ?_; (· rfl); (· rfl))
                generalize hbx : w2.heap.size = bx at HK ⊢
                have hbl : (wr.alloc (.cells (gdC ⟨2, (j : Int), gv, gr, gn⟩).toArray 63)).heap.size ≤ bx := by rw [← hbx]; exact HB2.out.size
                have HBL := Lib.hid hbl
                clear hbl hbx
                generalize w2.alloc (.cells (chC (chRecv C p) M1).toArray 107) = w3 at HK HB3 HC1 d0 d1 ⊢
                refine wp_region_held_drew (S := fun W => Below (wr.alloc (.cells (gdC ⟨2, (j : Int), gv, gr, gn⟩).toArray 63)).heap.size (wr.alloc (.cells (gdC ⟨2, (j : Int), gv, gr, gn⟩).toArray 63)) W ∧ ∃ ds : List Value, ds.length = 11 ∧ Blk W bx ds 107) (by kernel_rfl) ⟨up_trans HB3.out (up_drewN _ 1), _, rfl, HK.out⟩ (fun hHeld => ?_)
                refine wpAnyH_take (i := 0) (oi := ?_) (v := ?_) ?_ (by kernel_rfl) (by kernel_rfl) (by kernel_rfl) ?_ (Or.inl ⟨?_, ?_⟩) hHeld ?_
                rotate_left 2
                · conv => lhs; simp only [List.getElem?_toArray, List.getElem?_cons_succ, List.getElem?_cons_zero]
                · exact fun _ _ _ h => h
                · rfl
                · intro W hSw
                  go_simp
                  try with_reducible rfl
                try simp only [Act.put, List.setIfInBounds_toArray, List.set_cons_zero, List.set_cons_succ]
                refine wpAnyH_take (i := 1) (oi := ?_) (v := ?_) ?_ (by kernel_rfl) (by kernel_rfl) (by kernel_rfl) ?_ (Or.inl ⟨?_, ?_⟩) hHeld ?_
                rotate_left 2
                · conv => lhs; simp only [List.getElem?_toArray, List.getElem?_cons_succ, List.getElem?_cons_zero]
                · exact fun _ _ _ h => h
                · rfl
                · intro W hSw
                  go_simp
                  try with_reducible rfl
                try simp only [Act.put, List.setIfInBounds_toArray, List.set_cons_zero, List.set_cons_succ]
                refine wpAnyH_take (i := 2) (oi := ?_) (v := ?_) ?_ (by kernel_rfl) (by kernel_rfl) (by kernel_rfl) ?_ (Or.inl ⟨?_, ?_⟩) hHeld ?_
                rotate_left 2
                · conv => lhs; simp only [List.getElem?_toArray, List.getElem?_cons_succ, List.getElem?_cons_zero]
                · exact fun _ _ _ h => h
                · rfl
                · intro W hSw
                  have f0 := (HBX.out.up hSw.1 HBX.out.lt).cell 1 _ rfl
                  go_simp
                  try with_reducible rfl
                try simp only [Act.put, List.setIfInBounds_toArray, List.set_cons_zero, List.set_cons_succ]
                refine wpAnyH_take (i := 3) (oi := ?_) (v := ?_) ?_ (by kernel_rfl) (by kernel_rfl) (by kernel_rfl) ?_ (Or.inl ⟨?_, ?_⟩) hHeld ?_
                rotate_left 2
                · conv => lhs; simp only [List.getElem?_toArray, List.getElem?_cons_succ, List.getElem?_cons_zero]
                · exact fun _ _ _ h => h
                · rfl
                · intro W hSw
                  go_simp
                  try with_reducible rfl
                try simp only [Act.put, List.setIfInBounds_toArray, List.set_cons_zero, List.set_cons_succ]
                refine wpAnyH_take (i := 4) (oi := ?_) (v := (.agg (chC C M).toArray)) ?_ (by kernel_rfl) (by kernel_rfl) (by kernel_rfl) ?_ (Or.inl ⟨?_, ?_⟩) hHeld ?_
                rotate_left 1
                · conv => lhs; simp only [List.getElem?_toArray, List.getElem?_cons_succ, List.getElem?_cons_zero]
                · exact fun _ _ _ h => h
                · rfl
                · intro W hSw
                  exact tk_part (q := v + j * 11) rfl rfl Tryz.underlying107 rfl info_rch (HRQ.out _ hSw.1)
                try simp only [Act.put, List.setIfInBounds_toArray, List.set_cons_zero, List.set_cons_succ]
                refine wpAnyH_take (i := 5) (oi := ?_) (v := ?_) ?_ (by kernel_rfl) (by kernel_rfl) (by kernel_rfl) ?_ (Or.inl ⟨?_, ?_⟩) hHeld ?_
                rotate_left 2
                · conv => lhs; simp only [List.getElem?_toArray, List.getElem?_cons_succ, List.getElem?_cons_zero]
                · exact fun _ _ _ h => h
                · rfl
                · intro W hSw
                  go_simp
                  try with_reducible rfl
                try simp only [Act.put, List.setIfInBounds_toArray, List.set_cons_zero, List.set_cons_succ]
                refine wpAnyH_take (i := 6) (oi := ?_) (v := ?_) ?_ (by kernel_rfl) (by kernel_rfl) (by kernel_rfl) ?_ (Or.inl ⟨?_, ?_⟩) hHeld ?_
                rotate_left 2
                · conv => lhs; simp only [List.getElem?_toArray, List.getElem?_cons_succ, List.getElem?_cons_zero]
                · exact fun _ _ _ h => h
                · rfl
                · intro W hSw
                  go_simp
                  try with_reducible rfl
                try simp only [Act.put, List.setIfInBounds_toArray, List.set_cons_zero, List.set_cons_succ]
                refine wpAnyH_take (i := 7) (oi := ?_) (v := ?_) ?_ (by kernel_rfl) (by kernel_rfl) (by kernel_rfl) ?_ (Or.inl ⟨?_, ?_⟩) hHeld ?_
                rotate_left 2
                · conv => lhs; simp only [List.getElem?_toArray, List.getElem?_cons_succ, List.getElem?_cons_zero]
                · exact fun _ _ _ h => h
                · rfl
                · intro W hSw
                  have f0 := (HBX.out.up hSw.1 HBX.out.lt).cell 2 _ rfl
                  go_simp
                  try with_reducible rfl
                try simp only [Act.put, List.setIfInBounds_toArray, List.set_cons_zero, List.set_cons_succ]
                refine wpAnyH_ready (rs := [8]) (by kernel_rfl) (by simp) ?_
                refine AllReadyH.cons (o := ?_) ?_ (fun K hK => ?_) AllReadyH.nil
                rotate_left 1
                · conv => lhs; simp only [List.getElem?_toArray, List.getElem?_cons_succ, List.getElem?_cons_zero]
                go_simp
                have hlt : bx < _ := (by obtain ⟨ds, h1, h2⟩ := hHeld.2; exact h2.lt)
                refine (CSD.out bx HBL.out _ hHeld.1 hlt).mono ?_
                rintro e wA ⟨M2, rfl, hch2, hb⟩
                have HC2 := Lib.hid hch2
                go_wp2_with fail
                refine hK.out _ _ (⟨up_trans hHeld.1 hb, by obtain ⟨ds, h1, h2⟩ := hHeld.2; exact ⟨ds, h1, h2.up hb h2.lt⟩⟩) (fun hHeld => ?_)
                clear hK K
                try simp only [Act.put, List.setIfInBounds_toArray, List.set_cons_zero, List.set_cons_succ]
                refine wpAnyH_take (i := 9) (oi := ?_) (v := ?_) ?_ (by kernel_rfl) (by kernel_rfl) (by kernel_rfl) ?_ (Or.inl ⟨?_, ?_⟩) hHeld ?_
                rotate_left 2
                · conv => lhs; simp only [List.getElem?_toArray, List.getElem?_cons_succ, List.getElem?_cons_zero]
                · exact fun _ _ _ h => h
                · rfl
                · intro W hSw
                  go_simp
                  try with_reducible rfl
                try simp only [Act.put, List.setIfInBounds_toArray, List.set_cons_zero, List.set_cons_succ]
                refine wpAnyH_take (i := 10) (oi := ?_) (v := ?_) ?_ (by kernel_rfl) (by kernel_rfl) (by kernel_rfl) ?_ (Or.inl ⟨?_, ?_⟩) hHeld ?_
                rotate_left 2
                · conv => lhs; simp only [List.getElem?_toArray, List.getElem?_cons_succ, List.getElem?_cons_zero]
                · exact fun _ _ _ h => h
                · rfl
                · intro W hSw
                  go_simp
                  try with_reducible rfl
                try simp only [Act.put, List.setIfInBounds_toArray, List.set_cons_zero, List.set_cons_succ]
                refine wpAnyH_take (i := 11) (oi := ?_) (v := ?_) ?_ (by kernel_rfl) (by kernel_rfl) (by kernel_rfl) ?_ (Or.inl ⟨?_, ?_⟩) hHeld ?_
                rotate_left 2
                · conv => lhs; simp only [List.getElem?_toArray, List.getElem?_cons_succ, List.getElem?_cons_zero]
                · exact fun _ _ _ h => h
                · rfl
                · intro W hSw
                  go_simp
                  try with_reducible rfl
                try simp only [Act.put, List.setIfInBounds_toArray, List.set_cons_zero, List.set_cons_succ]
                obtain ⟨ds, hds, hres⟩ := hHeld.2
                refine wpAnyH_ready (rs := [12]) (by kernel_rfl) (by simp) ?_
                refine AllReadyH.cons (o := ?_) ?_ (fun K hK => ?_) AllReadyH.nil
                rotate_left 1
                · conv => lhs; simp only [List.getElem?_toArray, List.getElem?_cons_succ, List.getElem?_cons_zero]
                rw [if_pos (by rfl)]
                refine wp_store_row 107 (.tmp 14) (.tmp 96) rfl bx (chC N M2).toArray rfl rfl 107 ds.toArray hres info_rch (by rw [List.size_toArray, List.size_toArray, hds]; rfl) (al_one chC_one) ?_
                refine hK.out _ _ (⟨below_setRow hHeld.1 HBL.out _, _, rfl, hres.row (chC N M2)⟩) (fun hHeld => ?_)
                clear hK K
                refine wpAnyH_take (i := 13) (oi := ?_) (v := ?_) ?_ (by kernel_rfl) (by kernel_rfl) (by kernel_rfl) ?_ (Or.inl ⟨?_, ?_⟩) hHeld ?_
                rotate_left 2
                · conv => lhs; simp only [List.getElem?_toArray, List.getElem?_cons_succ, List.getElem?_cons_zero]
                · exact fun _ _ _ h => h
                · rfl
                · intro W hSw
                  go_simp
                  try with_reducible rfl
                try simp only [Act.put, List.setIfInBounds_toArray, List.set_cons_zero, List.set_cons_succ]
                refine wpAnyH_done (by kernel_rfl) ?_ _
                have HK := Lib.hid (hres.row (chC N M2))
                have HB5 := Lib.hid hHeld.1
                have HC1 := Lib.hid ((HC2.out.only ((Only.refl (· = bx) _).row rfl (chC N M2).toArray) (fun i hi hh => hh hi)).lo (pl' := ctAny) (fun _ _ => trivial))
                have d1 := (HBX.out.up HB5.out HBX.out.lt).cell 1 _ rfl
                clear hHeld hres
                go_wp2_with fail
                go_ret3
                have hU := up_trans (up_trans HB.out HU0.out) HB5.out
                exact ⟨A, c, L, by rw [HN.out]; rfl, HT.out.below hU, fun h => (by rw [HN.out] at h; exact absurd h HX0.out), fun _ => ⟨rfl, rfl, rfl⟩, HFM.out, hU⟩
            · cases sf
              · have HE2 : Hid (gdE (Lk.map Prod.fst) p true ⟨2, (j : Int), gv, gr, gn⟩ = x) := Lib.hid HE.out
                by_cases h0 : x = 0
                · subst h0
                  have HN : Hid (offRun p true (gdL (Lk.map Prod.fst) p true ⟨2, (j : Int), gv, gr, gn⟩) (k + 1) (gs.drop (k + 1)) = r) := Lib.hid (by rw [← HRN.out, offRun_step HGO.out HE2.out])
                  go_wp2_with (first | (refine lmr (b := b0) (q := o0 + k * 5) (cs := gdC ⟨2, (j : Int), gv, gr, gn⟩) (.tmp 25) rfl rfl Tryz.underlying63 rfl ct_info_gd rfl ?_ ?_; (· exact HRG.out)) | (refine snr (W := wr) (cs := gdC ⟨2, (j : Int), gv, gr, gn⟩) (zs := gdC ⟨0, 0, 0, 0, 0⟩) (t := 63) (.tmp 13) (.tmp 26) rfl rfl rfl rfl ct_info_gd rfl (gdC_one _) ?_ ?_ ?_; (· rfl); (· rfl)))
                  refine (CI.out _).mono ?_; rintro e w' ⟨rfl, rfl⟩
                  go_upto_region 11 with fail
                  go_wp2_with (refine lmr (b := u) (q := v + j * 11) (cs := chC C M) (.tmp 77) rfl rfl Tryz.underlying107 rfl info_rch rfl ?_ ?_; (· exact HRQ.out _ (Below.refl _ _)))
                  refine CRV.out.mono ?_; rintro e w2 ⟨M1, rfl, hch1, hb2⟩
                  have hb3 := up_trans hb2 (up_alloc w2 (.cells (chC (chRecv C p) M1).toArray 107))
                  have HK := Lib.hid (Blk.new w2 (chC (chRecv C p) M1) 107)
                  have HB3 := Lib.hid hb3
                  have HC1 := Lib.hid (hch1.below (up_alloc w2 (.cells (chC (chRecv C p) M1).toArray 107)))
                  have d0 := (HBX.out.up hb3 HBX.out.lt).cell 0 _ rfl
                  have d1 := (HBX.out.up hb3 HBX.out.lt).cell 1 _ rfl
                  have HB2 := Lib.hid hb2
                  clear hb2 hb3 hch1 c0 c1' e6
                  go_upto_region 13 with (refine snr (W := w2) (cs := chC (chRecv C p) M1) (zs := chZ) (t := 107) (.tmp 14) (.tmp 81) rfl rfl rfl rfl info_rch rfl chC_one ?_ ?_ ?_; (· rfl); (· rfl))
                  generalize hbx : w2.heap.size = bx at HK ⊢
                  have hbl : (wr.alloc (.cells (gdC ⟨2, (j : Int), gv, gr, gn⟩).toArray 63)).heap.size ≤ bx := by rw [← hbx]; exact HB2.out.size
                  have HBL := Lib.hid hbl
                  clear hbl hbx
                  generalize w2.alloc (.cells (chC (chRecv C p) M1).toArray 107) = w3 at HK HB3 HC1 d0 d1 ⊢
                  refine wp_region_held_drew (S := fun W => Below (wr.alloc (.cells (gdC ⟨2, (j : Int), gv, gr, gn⟩).toArray 63)).heap.size (wr.alloc (.cells (gdC ⟨2, (j : Int), gv, gr, gn⟩).toArray 63)) W ∧ ∃ ds : List Value, ds.length = 11 ∧ Blk W bx ds 107) (by kernel_rfl) ⟨up_trans HB3.out (up_drewN _ 1), _, rfl, HK.out⟩ (fun hHeld => ?_)
                  refine wpAnyH_take (i := 0) (oi := ?_) (v := ?_) ?_ (by kernel_rfl) (by kernel_rfl) (by kernel_rfl) ?_ (Or.inl ⟨?_, ?_⟩) hHeld ?_
                  rotate_left 2
                  · conv => lhs; simp only [List.getElem?_toArray, List.getElem?_cons_succ, List.getElem?_cons_zero]
                  · exact fun _ _ _ h => h
                  · rfl
                  · intro W hSw
                    go_simp
                    try with_reducible rfl
                  try simp only [Act.put, List.setIfInBounds_toArray, List.set_cons_zero, List.set_cons_succ]
                  refine wpAnyH_take (i := 1) (oi := ?_) (v := ?_) ?_ (by kernel_rfl) (by kernel_rfl) (by kernel_rfl) ?_ (Or.inl ⟨?_, ?_⟩) hHeld ?_
                  rotate_left 2
                  · conv => lhs; simp only [List.getElem?_toArray, List.getElem?_cons_succ, List.getElem?_cons_zero]
                  · exact fun _ _ _ h => h
                  · rfl
                  · intro W hSw
                    go_simp
                    try with_reducible rfl
                  try simp only [Act.put, List.setIfInBounds_toArray, List.set_cons_zero, List.set_cons_succ]
                  refine wpAnyH_take (i := 2) (oi := ?_) (v := ?_) ?_ (by kernel_rfl) (by kernel_rfl) (by kernel_rfl) ?_ (Or.inl ⟨?_, ?_⟩) hHeld ?_
                  rotate_left 2
                  · conv => lhs; simp only [List.getElem?_toArray, List.getElem?_cons_succ, List.getElem?_cons_zero]
                  · exact fun _ _ _ h => h
                  · rfl
                  · intro W hSw
                    have f0 := (HBX.out.up hSw.1 HBX.out.lt).cell 1 _ rfl
                    go_simp
                    try with_reducible rfl
                  try simp only [Act.put, List.setIfInBounds_toArray, List.set_cons_zero, List.set_cons_succ]
                  refine wpAnyH_take (i := 3) (oi := ?_) (v := ?_) ?_ (by kernel_rfl) (by kernel_rfl) (by kernel_rfl) ?_ (Or.inl ⟨?_, ?_⟩) hHeld ?_
                  rotate_left 2
                  · conv => lhs; simp only [List.getElem?_toArray, List.getElem?_cons_succ, List.getElem?_cons_zero]
                  · exact fun _ _ _ h => h
                  · rfl
                  · intro W hSw
                    go_simp
                    try with_reducible rfl
                  try simp only [Act.put, List.setIfInBounds_toArray, List.set_cons_zero, List.set_cons_succ]
                  refine wpAnyH_take (i := 4) (oi := ?_) (v := (.agg (chC C M).toArray)) ?_ (by kernel_rfl) (by kernel_rfl) (by kernel_rfl) ?_ (Or.inl ⟨?_, ?_⟩) hHeld ?_
                  rotate_left 1
                  · conv => lhs; simp only [List.getElem?_toArray, List.getElem?_cons_succ, List.getElem?_cons_zero]
                  · exact fun _ _ _ h => h
                  · rfl
                  · intro W hSw
                    exact tk_part (q := v + j * 11) rfl rfl Tryz.underlying107 rfl info_rch (HRQ.out _ hSw.1)
                  try simp only [Act.put, List.setIfInBounds_toArray, List.set_cons_zero, List.set_cons_succ]
                  refine wpAnyH_take (i := 5) (oi := ?_) (v := ?_) ?_ (by kernel_rfl) (by kernel_rfl) (by kernel_rfl) ?_ (Or.inl ⟨?_, ?_⟩) hHeld ?_
                  rotate_left 2
                  · conv => lhs; simp only [List.getElem?_toArray, List.getElem?_cons_succ, List.getElem?_cons_zero]
                  · exact fun _ _ _ h => h
                  · rfl
                  · intro W hSw
                    go_simp
                    try with_reducible rfl
                  try simp only [Act.put, List.setIfInBounds_toArray, List.set_cons_zero, List.set_cons_succ]
                  refine wpAnyH_take (i := 6) (oi := ?_) (v := ?_) ?_ (by kernel_rfl) (by kernel_rfl) (by kernel_rfl) ?_ (Or.inl ⟨?_, ?_⟩) hHeld ?_
                  rotate_left 2
                  · conv => lhs; simp only [List.getElem?_toArray, List.getElem?_cons_succ, List.getElem?_cons_zero]
                  · exact fun _ _ _ h => h
                  · rfl
                  · intro W hSw
                    go_simp
                    try with_reducible rfl
                  try simp only [Act.put, List.setIfInBounds_toArray, List.set_cons_zero, List.set_cons_succ]
                  refine wpAnyH_take (i := 7) (oi := ?_) (v := ?_) ?_ (by kernel_rfl) (by kernel_rfl) (by kernel_rfl) ?_ (Or.inl ⟨?_, ?_⟩) hHeld ?_
                  rotate_left 2
                  · conv => lhs; simp only [List.getElem?_toArray, List.getElem?_cons_succ, List.getElem?_cons_zero]
                  · exact fun _ _ _ h => h
                  · rfl
                  · intro W hSw
                    have f0 := (HBX.out.up hSw.1 HBX.out.lt).cell 2 _ rfl
                    go_simp
                    try with_reducible rfl
                  try simp only [Act.put, List.setIfInBounds_toArray, List.set_cons_zero, List.set_cons_succ]
                  refine wpAnyH_ready (rs := [8]) (by kernel_rfl) (by simp) ?_
                  refine AllReadyH.cons (o := ?_) ?_ (fun K hK => ?_) AllReadyH.nil
                  rotate_left 1
                  · conv => lhs; simp only [List.getElem?_toArray, List.getElem?_cons_succ, List.getElem?_cons_zero]
                  go_simp
                  have hlt : bx < _ := (by obtain ⟨ds, h1, h2⟩ := hHeld.2; exact h2.lt)
                  refine (CSD.out bx HBL.out _ hHeld.1 hlt).mono ?_
                  rintro e wA ⟨M2, rfl, hch2, hb⟩
                  have HC2 := Lib.hid hch2
                  go_wp2_with fail
                  refine hK.out _ _ (⟨up_trans hHeld.1 hb, by obtain ⟨ds, h1, h2⟩ := hHeld.2; exact ⟨ds, h1, h2.up hb h2.lt⟩⟩) (fun hHeld => ?_)
                  clear hK K
                  try simp only [Act.put, List.setIfInBounds_toArray, List.set_cons_zero, List.set_cons_succ]
                  refine wpAnyH_take (i := 9) (oi := ?_) (v := ?_) ?_ (by kernel_rfl) (by kernel_rfl) (by kernel_rfl) ?_ (Or.inl ⟨?_, ?_⟩) hHeld ?_
                  rotate_left 2
                  · conv => lhs; simp only [List.getElem?_toArray, List.getElem?_cons_succ, List.getElem?_cons_zero]
                  · exact fun _ _ _ h => h
                  · rfl
                  · intro W hSw
                    go_simp
                    try with_reducible rfl
                  try simp only [Act.put, List.setIfInBounds_toArray, List.set_cons_zero, List.set_cons_succ]
                  refine wpAnyH_take (i := 10) (oi := ?_) (v := ?_) ?_ (by kernel_rfl) (by kernel_rfl) (by kernel_rfl) ?_ (Or.inl ⟨?_, ?_⟩) hHeld ?_
                  rotate_left 2
                  · conv => lhs; simp only [List.getElem?_toArray, List.getElem?_cons_succ, List.getElem?_cons_zero]
                  · exact fun _ _ _ h => h
                  · rfl
                  · intro W hSw
                    go_simp
                    try with_reducible rfl
                  try simp only [Act.put, List.setIfInBounds_toArray, List.set_cons_zero, List.set_cons_succ]
                  refine wpAnyH_take (i := 11) (oi := ?_) (v := ?_) ?_ (by kernel_rfl) (by kernel_rfl) (by kernel_rfl) ?_ (Or.inl ⟨?_, ?_⟩) hHeld ?_
                  rotate_left 2
                  · conv => lhs; simp only [List.getElem?_toArray, List.getElem?_cons_succ, List.getElem?_cons_zero]
                  · exact fun _ _ _ h => h
                  · rfl
                  · intro W hSw
                    go_simp
                    try with_reducible rfl
                  try simp only [Act.put, List.setIfInBounds_toArray, List.set_cons_zero, List.set_cons_succ]
                  obtain ⟨ds, hds, hres⟩ := hHeld.2
                  refine wpAnyH_ready (rs := [12]) (by kernel_rfl) (by simp) ?_
                  refine AllReadyH.cons (o := ?_) ?_ (fun K hK => ?_) AllReadyH.nil
                  rotate_left 1
                  · conv => lhs; simp only [List.getElem?_toArray, List.getElem?_cons_succ, List.getElem?_cons_zero]
                  rw [if_pos (by rfl)]
                  refine wp_store_row 107 (.tmp 14) (.tmp 96) rfl bx (chC N M2).toArray rfl rfl 107 ds.toArray hres info_rch (by rw [List.size_toArray, List.size_toArray, hds]; rfl) (al_one chC_one) ?_
                  refine hK.out _ _ (⟨below_setRow hHeld.1 HBL.out _, _, rfl, hres.row (chC N M2)⟩) (fun hHeld => ?_)
                  clear hK K
                  refine wpAnyH_take (i := 13) (oi := ?_) (v := ?_) ?_ (by kernel_rfl) (by kernel_rfl) (by kernel_rfl) ?_ (Or.inl ⟨?_, ?_⟩) hHeld ?_
                  rotate_left 2
                  · conv => lhs; simp only [List.getElem?_toArray, List.getElem?_cons_succ, List.getElem?_cons_zero]
                  · exact fun _ _ _ h => h
                  · rfl
                  · intro W hSw
                    go_simp
                    try with_reducible rfl
                  try simp only [Act.put, List.setIfInBounds_toArray, List.set_cons_zero, List.set_cons_succ]
                  refine wpAnyH_done (by kernel_rfl) ?_ _
                  have HK := Lib.hid (hres.row (chC N M2))
                  have HB5 := Lib.hid hHeld.1
                  have HC1 := Lib.hid ((HC2.out.only ((Only.refl (· = bx) _).row rfl (chC N M2).toArray) (fun i hi hh => hh hi)).lo (pl' := ctAny) (fun _ _ => trivial))
                  have d1 := (HBX.out.up HB5.out HBX.out.lt).cell 1 _ rfl
                  clear hHeld hres
                  go_wp2_with (refine ldr (b := bx) (t := 107) (cs := chC N M2) (.tmp 14) rfl rfl Tryz.underlying107 rfl info_rch rfl ?_ ?_; (· exact HK.out))
                  refine (c_rtput (HTB.out.below HB5.out) hn j hjn HC1.out).mono ?_; rintro e w4 ⟨A4, c4, rfl, ht4, hb4⟩
                  have HT4 := Lib.hid (ht4.lo (pl' := ctAny) (fun _ _ => trivial))
                  have HB4 := Lib.hid (up_trans (up_trans (up_trans HB.out HU0.out) HB5.out) hb4)
                  clear ht4 hb4 d1
                  go_wp2_with fail
                  go_roundw
                  case rel => exact ⟨k + 1, by omega, by go_num, A4, c4, _, rfl, HT4.out, by rw [HLL.out HE2.out]; exact HN.out, fun q hq => (List.mem_or_eq_of_mem_set hq).elim (fun h => (HFW.out q h).mono (by omega)) (fun h => by rw [h]; exact HFS.out), HB4.out⟩
                  case measure => simp [intOf]; omega
                · have hx1 : (x != 0) = true := by simp [bne, h0]
                  have HN : Hid (r = (Lk.map Prod.fst, k, x)) := Lib.hid (by rw [← HRN.out, offRun_stop HGO.out (by rw [HE2.out]; exact h0), HE2.out])
                  have HX0 := Lib.hid h0
                  clear h0
                  go_wp2_with (first | (refine lmr (b := b0) (q := o0 + k * 5) (cs := gdC ⟨2, (j : Int), gv, gr, gn⟩) (.tmp 25) rfl rfl Tryz.underlying63 rfl ct_info_gd rfl ?_ ?_; (· exact HRG.out)) | (refine snr (W := wr) (cs := gdC ⟨2, (j : Int), gv, gr, gn⟩) (zs := gdC ⟨0, 0, 0, 0, 0⟩) (t := 63) (.tmp 13) (.tmp 26) rfl rfl rfl rfl ct_info_gd rfl (gdC_one _) ?_ ?_ ?_; (· rfl); (· rfl)))
                  refine (CI.out _).mono ?_; rintro e w' ⟨rfl, rfl⟩
                  go_upto_region 11 with fail
                  go_wp2_with (refine lmr (b := u) (q := v + j * 11) (cs := chC C M) (.tmp 77) rfl rfl Tryz.underlying107 rfl info_rch rfl ?_ ?_; (· exact HRQ.out _ (Below.refl _ _)))
                  refine CRV.out.mono ?_; rintro e w2 ⟨M1, rfl, hch1, hb2⟩
                  have hb3 := up_trans hb2 (up_alloc w2 (.cells (chC (chRecv C p) M1).toArray 107))
                  have HK := Lib.hid (Blk.new w2 (chC (chRecv C p) M1) 107)
                  have HB3 := Lib.hid hb3
                  have HC1 := Lib.hid (hch1.below (up_alloc w2 (.cells (chC (chRecv C p) M1).toArray 107)))
                  have d0 := (HBX.out.up hb3 HBX.out.lt).cell 0 _ rfl
                  have d1 := (HBX.out.up hb3 HBX.out.lt).cell 1 _ rfl
                  have HB2 := Lib.hid hb2
                  clear hb2 hb3 hch1 c0 c1' e6
                  go_upto_region 13 with (refine snr (W := w2) (cs := chC (chRecv C p) M1) (zs := chZ) (t := 107) (.tmp 14) (.tmp 81) rfl rfl rfl rfl info_rch rfl chC_one ?_ ?_ ?_; (· rfl); (· rfl))
                  generalize hbx : w2.heap.size = bx at HK ⊢
                  have hbl : (wr.alloc (.cells (gdC ⟨2, (j : Int), gv, gr, gn⟩).toArray 63)).heap.size ≤ bx := by rw [← hbx]; exact HB2.out.size
                  have HBL := Lib.hid hbl
                  clear hbl hbx
                  generalize w2.alloc (.cells (chC (chRecv C p) M1).toArray 107) = w3 at HK HB3 HC1 d0 d1 ⊢
                  refine wp_region_held_drew (S := fun W => Below (wr.alloc (.cells (gdC ⟨2, (j : Int), gv, gr, gn⟩).toArray 63)).heap.size (wr.alloc (.cells (gdC ⟨2, (j : Int), gv, gr, gn⟩).toArray 63)) W ∧ ∃ ds : List Value, ds.length = 11 ∧ Blk W bx ds 107) (by kernel_rfl) ⟨up_trans HB3.out (up_drewN _ 1), _, rfl, HK.out⟩ (fun hHeld => ?_)
                  refine wpAnyH_take (i := 0) (oi := ?_) (v := ?_) ?_ (by kernel_rfl) (by kernel_rfl) (by kernel_rfl) ?_ (Or.inl ⟨?_, ?_⟩) hHeld ?_
                  rotate_left 2
                  · conv => lhs; simp only [List.getElem?_toArray, List.getElem?_cons_succ, List.getElem?_cons_zero]
                  · exact fun _ _ _ h => h
                  · rfl
                  · intro W hSw
                    go_simp
                    try with_reducible rfl
                  try simp only [Act.put, List.setIfInBounds_toArray, List.set_cons_zero, List.set_cons_succ]
                  refine wpAnyH_take (i := 1) (oi := ?_) (v := ?_) ?_ (by kernel_rfl) (by kernel_rfl) (by kernel_rfl) ?_ (Or.inl ⟨?_, ?_⟩) hHeld ?_
                  rotate_left 2
                  · conv => lhs; simp only [List.getElem?_toArray, List.getElem?_cons_succ, List.getElem?_cons_zero]
                  · exact fun _ _ _ h => h
                  · rfl
                  · intro W hSw
                    go_simp
                    try with_reducible rfl
                  try simp only [Act.put, List.setIfInBounds_toArray, List.set_cons_zero, List.set_cons_succ]
                  refine wpAnyH_take (i := 2) (oi := ?_) (v := ?_) ?_ (by kernel_rfl) (by kernel_rfl) (by kernel_rfl) ?_ (Or.inl ⟨?_, ?_⟩) hHeld ?_
                  rotate_left 2
                  · conv => lhs; simp only [List.getElem?_toArray, List.getElem?_cons_succ, List.getElem?_cons_zero]
                  · exact fun _ _ _ h => h
                  · rfl
                  · intro W hSw
                    have f0 := (HBX.out.up hSw.1 HBX.out.lt).cell 1 _ rfl
                    go_simp
                    try with_reducible rfl
                  try simp only [Act.put, List.setIfInBounds_toArray, List.set_cons_zero, List.set_cons_succ]
                  refine wpAnyH_take (i := 3) (oi := ?_) (v := ?_) ?_ (by kernel_rfl) (by kernel_rfl) (by kernel_rfl) ?_ (Or.inl ⟨?_, ?_⟩) hHeld ?_
                  rotate_left 2
                  · conv => lhs; simp only [List.getElem?_toArray, List.getElem?_cons_succ, List.getElem?_cons_zero]
                  · exact fun _ _ _ h => h
                  · rfl
                  · intro W hSw
                    go_simp
                    try with_reducible rfl
                  try simp only [Act.put, List.setIfInBounds_toArray, List.set_cons_zero, List.set_cons_succ]
                  refine wpAnyH_take (i := 4) (oi := ?_) (v := (.agg (chC C M).toArray)) ?_ (by kernel_rfl) (by kernel_rfl) (by kernel_rfl) ?_ (Or.inl ⟨?_, ?_⟩) hHeld ?_
                  rotate_left 1
                  · conv => lhs; simp only [List.getElem?_toArray, List.getElem?_cons_succ, List.getElem?_cons_zero]
                  · exact fun _ _ _ h => h
                  · rfl
                  · intro W hSw
                    exact tk_part (q := v + j * 11) rfl rfl Tryz.underlying107 rfl info_rch (HRQ.out _ hSw.1)
                  try simp only [Act.put, List.setIfInBounds_toArray, List.set_cons_zero, List.set_cons_succ]
                  refine wpAnyH_take (i := 5) (oi := ?_) (v := ?_) ?_ (by kernel_rfl) (by kernel_rfl) (by kernel_rfl) ?_ (Or.inl ⟨?_, ?_⟩) hHeld ?_
                  rotate_left 2
                  · conv => lhs; simp only [List.getElem?_toArray, List.getElem?_cons_succ, List.getElem?_cons_zero]
                  · exact fun _ _ _ h => h
                  · rfl
                  · intro W hSw
                    go_simp
                    try with_reducible rfl
                  try simp only [Act.put, List.setIfInBounds_toArray, List.set_cons_zero, List.set_cons_succ]
                  refine wpAnyH_take (i := 6) (oi := ?_) (v := ?_) ?_ (by kernel_rfl) (by kernel_rfl) (by kernel_rfl) ?_ (Or.inl ⟨?_, ?_⟩) hHeld ?_
                  rotate_left 2
                  · conv => lhs; simp only [List.getElem?_toArray, List.getElem?_cons_succ, List.getElem?_cons_zero]
                  · exact fun _ _ _ h => h
                  · rfl
                  · intro W hSw
                    go_simp
                    try with_reducible rfl
                  try simp only [Act.put, List.setIfInBounds_toArray, List.set_cons_zero, List.set_cons_succ]
                  refine wpAnyH_take (i := 7) (oi := ?_) (v := ?_) ?_ (by kernel_rfl) (by kernel_rfl) (by kernel_rfl) ?_ (Or.inl ⟨?_, ?_⟩) hHeld ?_
                  rotate_left 2
                  · conv => lhs; simp only [List.getElem?_toArray, List.getElem?_cons_succ, List.getElem?_cons_zero]
                  · exact fun _ _ _ h => h
                  · rfl
                  · intro W hSw
                    have f0 := (HBX.out.up hSw.1 HBX.out.lt).cell 2 _ rfl
                    go_simp
                    try with_reducible rfl
                  try simp only [Act.put, List.setIfInBounds_toArray, List.set_cons_zero, List.set_cons_succ]
                  refine wpAnyH_ready (rs := [8]) (by kernel_rfl) (by simp) ?_
                  refine AllReadyH.cons (o := ?_) ?_ (fun K hK => ?_) AllReadyH.nil
                  rotate_left 1
                  · conv => lhs; simp only [List.getElem?_toArray, List.getElem?_cons_succ, List.getElem?_cons_zero]
                  go_simp
                  have hlt : bx < _ := (by obtain ⟨ds, h1, h2⟩ := hHeld.2; exact h2.lt)
                  refine (CSD.out bx HBL.out _ hHeld.1 hlt).mono ?_
                  rintro e wA ⟨M2, rfl, hch2, hb⟩
                  have HC2 := Lib.hid hch2
                  go_wp2_with fail
                  refine hK.out _ _ (⟨up_trans hHeld.1 hb, by obtain ⟨ds, h1, h2⟩ := hHeld.2; exact ⟨ds, h1, h2.up hb h2.lt⟩⟩) (fun hHeld => ?_)
                  clear hK K
                  try simp only [Act.put, List.setIfInBounds_toArray, List.set_cons_zero, List.set_cons_succ]
                  refine wpAnyH_take (i := 9) (oi := ?_) (v := ?_) ?_ (by kernel_rfl) (by kernel_rfl) (by kernel_rfl) ?_ (Or.inl ⟨?_, ?_⟩) hHeld ?_
                  rotate_left 2
                  · conv => lhs; simp only [List.getElem?_toArray, List.getElem?_cons_succ, List.getElem?_cons_zero]
                  · exact fun _ _ _ h => h
                  · rfl
                  · intro W hSw
                    go_simp
                    try with_reducible rfl
                  try simp only [Act.put, List.setIfInBounds_toArray, List.set_cons_zero, List.set_cons_succ]
                  refine wpAnyH_take (i := 10) (oi := ?_) (v := ?_) ?_ (by kernel_rfl) (by kernel_rfl) (by kernel_rfl) ?_ (Or.inl ⟨?_, ?_⟩) hHeld ?_
                  rotate_left 2
                  · conv => lhs; simp only [List.getElem?_toArray, List.getElem?_cons_succ, List.getElem?_cons_zero]
                  · exact fun _ _ _ h => h
                  · rfl
                  · intro W hSw
                    go_simp
                    try with_reducible rfl
                  try simp only [Act.put, List.setIfInBounds_toArray, List.set_cons_zero, List.set_cons_succ]
                  refine wpAnyH_take (i := 11) (oi := ?_) (v := ?_) ?_ (by kernel_rfl) (by kernel_rfl) (by kernel_rfl) ?_ (Or.inl ⟨?_, ?_⟩) hHeld ?_
                  rotate_left 2
                  · conv => lhs; simp only [List.getElem?_toArray, List.getElem?_cons_succ, List.getElem?_cons_zero]
                  · exact fun _ _ _ h => h
                  · rfl
                  · intro W hSw
                    go_simp
                    try with_reducible rfl
                  try simp only [Act.put, List.setIfInBounds_toArray, List.set_cons_zero, List.set_cons_succ]
                  obtain ⟨ds, hds, hres⟩ := hHeld.2
                  refine wpAnyH_ready (rs := [12]) (by kernel_rfl) (by simp) ?_
                  refine AllReadyH.cons (o := ?_) ?_ (fun K hK => ?_) AllReadyH.nil
                  rotate_left 1
                  · conv => lhs; simp only [List.getElem?_toArray, List.getElem?_cons_succ, List.getElem?_cons_zero]
                  rw [if_pos (by rfl)]
                  refine wp_store_row 107 (.tmp 14) (.tmp 96) rfl bx (chC N M2).toArray rfl rfl 107 ds.toArray hres info_rch (by rw [List.size_toArray, List.size_toArray, hds]; rfl) (al_one chC_one) ?_
                  refine hK.out _ _ (⟨below_setRow hHeld.1 HBL.out _, _, rfl, hres.row (chC N M2)⟩) (fun hHeld => ?_)
                  clear hK K
                  refine wpAnyH_take (i := 13) (oi := ?_) (v := ?_) ?_ (by kernel_rfl) (by kernel_rfl) (by kernel_rfl) ?_ (Or.inl ⟨?_, ?_⟩) hHeld ?_
                  rotate_left 2
                  · conv => lhs; simp only [List.getElem?_toArray, List.getElem?_cons_succ, List.getElem?_cons_zero]
                  · exact fun _ _ _ h => h
                  · rfl
                  · intro W hSw
                    go_simp
                    try with_reducible rfl
                  try simp only [Act.put, List.setIfInBounds_toArray, List.set_cons_zero, List.set_cons_succ]
                  refine wpAnyH_done (by kernel_rfl) ?_ _
                  have HK := Lib.hid (hres.row (chC N M2))
                  have HB5 := Lib.hid hHeld.1
                  have HC1 := Lib.hid ((HC2.out.only ((Only.refl (· = bx) _).row rfl (chC N M2).toArray) (fun i hi hh => hh hi)).lo (pl' := ctAny) (fun _ _ => trivial))
                  have d1 := (HBX.out.up HB5.out HBX.out.lt).cell 1 _ rfl
                  clear hHeld hres
                  go_wp2_with fail
                  go_ret3
                  have hU := up_trans (up_trans HB.out HU0.out) HB5.out
                  exact ⟨A, c, L, by rw [HN.out]; rfl, HT.out.below hU, fun h => (by rw [HN.out] at h; exact absurd h HX0.out), fun _ => ⟨rfl, rfl, rfl⟩, HFM.out, hU⟩
              · have HE2 : Hid (gdE (Lk.map Prod.fst) p true ⟨2, (j : Int), gv, gr, gn⟩ = 12) := HE
                have HN : Hid (r = (Lk.map Prod.fst, k, 12)) := Lib.hid (by rw [← HRN.out, offRun_stop HGO.out (by rw [HE2.out]; exact (by decide : ¬ (12 : Int) = 0)), HE2.out])
                go_wp2_with (first | (refine lmr (b := b0) (q := o0 + k * 5) (cs := gdC ⟨2, (j : Int), gv, gr, gn⟩) (.tmp 25) rfl rfl Tryz.underlying63 rfl ct_info_gd rfl ?_ ?_; (· exact HRG.out)) | (refine snr (W := wr) (cs := gdC ⟨2, (j : Int), gv, gr, gn⟩) (zs := gdC ⟨0, 0, 0, 0, 0⟩) (t := 63) (.tmp 13) (.tmp 26) rfl rfl rfl rfl ct_info_gd rfl (gdC_one _) ?_ ?_ ?_; (· rfl); (· rfl)))
                refine (CI.out _).mono ?_; rintro e w' ⟨rfl, rfl⟩
                go_wp2_with fail
                go_ret3
                have hU := up_trans HB.out HU0.out
                exact ⟨A, c, L, by rw [HN.out]; rfl, HT.out.below hU, fun h => (by rw [HN.out] at h; exact absurd h (by decide : ¬ (12 : Int) = 0)), fun _ => ⟨rfl, rfl, rfl⟩, HFM.out, hU⟩
      · have HGO : Hid (gdOff ⟨gk, go, gv, gr, gn⟩ = true) := Lib.hid hg
        have HN : Hid (offRun p al (Lk.map Prod.fst) (k + 1) (gs.drop (k + 1)) = r) := Lib.hid (by rw [← HRN.out, offRun_skip HGO.out])
        have t1 : (gk != 1) = true := by
          rw [Bool.and_eq_true] at hg
          exact hg.1
        have t2 : (gk != 2) = true := by
          rw [Bool.and_eq_true] at hg
          exact hg.2
        clear hg
        go_wp2_with (first | (refine lmr (b := b0) (q := o0 + k * 5) (cs := gdC ⟨gk, go, gv, gr, gn⟩) (.tmp 25) rfl rfl Tryz.underlying63 rfl ct_info_gd rfl ?_ ?_; (· exact HRG.out)) | (refine snr (W := wr) (cs := gdC ⟨gk, go, gv, gr, gn⟩) (zs := gdC ⟨0, 0, 0, 0, 0⟩) (t := 63) (.tmp 13) (.tmp 26) rfl rfl rfl rfl ct_info_gd rfl (gdC_one _) ?_ ?_ ?_; (· rfl); (· rfl)))
        go_roundw
        case rel => exact ⟨k + 1, by omega, by go_num, A1, c1, Lk, rfl, HTB.out, HN.out, HFW.out.mono (by omega), up_trans HB.out HU0.out⟩
        case measure => simp [intOf]; omega
    · obtain rfl : k = m := by omega
      have HN : Hid (r = (Lk.map Prod.fst, 0, 0)) := Lib.hid (by rw [← hrun, List.drop_of_length_le (by rw [HL.out]; exact Nat.le_refl _)]; rfl)
      have HD := Lib.hid hd
      have HFW := Lib.hid hfew
      have HB := Lib.hid hbw
      clear hrun hd hfew hbw
      go_wp2
      go_ret3
      exact ⟨A1, c1, Lk, by rw [HN.out]; rfl, HD.out, fun _ => by rw [HN.out], fun h => (by rw [HN.out] at h; exact absurd rfl h), HFW.out, HB.out⟩
end Go.Proofs.YtdiiilnebepfdaaGreatDoor

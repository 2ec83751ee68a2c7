/- Channel tables whose lists all lie in given places; the document's Offer and Poison keep them there. -/
import Derived.Test.YtdiiilnebepfdaaGreatDoorRpq
namespace Go.Proofs.YtdiiilnebepfdaaGreatDoor
open Go.RowKit

/-- A table, all in places of Y. -/
structure TbY (w : World) (Y : Nat → Prop) (A : Option Addr) (n c : Nat) (L : List CQ) : Prop where
  t : TbW w Y A n c L
  y : ∀ q ∈ L, ChW w Y q.1 q.2
theorem TbY.below {w w' : World} {Y : Nat → Prop} {A : Option Addr} {n c : Nat} {L : List CQ} (h : TbY w Y A n c L) (hb : Below w.heap.size w w') : TbY w' Y A n c L := ⟨h.t.below hb, fun q hq => (h.y q hq).below hb⟩
theorem TbY.only {s : Nat → Prop} {w w' : World} {Y : Nat → Prop} {A : Option Addr} {n c : Nat} {L : List CQ} (h : TbY w Y A n c L) (o : Only s w w') (hs : ∀ k, s k → ¬ Y k) : TbY w' Y A n c L :=
  ⟨⟨h.t.rd.only o hs, h.t.len, h.t.nc, h.t.cm, fun q hq => ((h.y q hq).only o hs).lo (fun _ _ => trivial)⟩, fun q hq => (h.y q hq).only o hs⟩
theorem TbY.at_ {w : World} {Y : Nat → Prop} {A : Option Addr} {n c : Nat} {L : List CQ} (h : TbY w Y A n c L) (k : Nat) (hk : k < n) :
    ∃ b o q, A = some ⟨b, o, Option.none⟩ ∧ Y b ∧ b < w.heap.size ∧ L[k]? = some q ∧ w.rangeAt b (o + k * 11) (cellsQ q) ∧ ChW w Y q.1 q.2 := by
  obtain ⟨b, o, q, h1, h2, h3, h4, h5, _⟩ := h.t.at_ k hk
  exact ⟨b, o, q, h1, h2, h3, h4, h5, h.y q (List.mem_of_getElem? h4)⟩
/-- All of a table lies below a place. -/
theorem TbY.of {w : World} {A : Option Addr} {n c : Nat} {L : List CQ} (h : TbW w ctAny A n c L) : TbY w (fun b => b < w.heap.size) A n c L :=
  ⟨⟨h.rd.lt.lo (fun _ h => h.2), h.len, h.nc, h.cm, h.each⟩, fun q hq => (h.each q hq).lt.lo (fun _ h => h.2)⟩
theorem TbY.lo {w : World} {Y Z : Nat → Prop} {A : Option Addr} {n c : Nat} {L : List CQ} (h : TbY w Y A n c L) (hl : ∀ b, Y b → Z b) : TbY w Z A n c L := ⟨h.t.lo hl, fun q hq => (h.y q hq).lo hl⟩
def TbPY (w : World) (Y : Nat → Prop) (n : Nat) (L : List CQ) (e : Ending) (w' : World) : Prop := ∃ A c, e = .returned (.slice A n c) ∧ TbY w' Y A n c L ∧ Below w.heap.size w w'
theorem c_rtputY {w : World} {Y : Nat → Prop} {A : Option Addr} {n c : Nat} {L : List CQ} (h : TbY w Y A n c L) (hY : ∀ b, w.heap.size ≤ b → Y b) (hn : n ≤ 1000) (k : Nat) (hk : k < n) {C : CP} {M : SM} (hd : ChW w Y C M) :
    Calls Tryz.prog 50 #[.slice A n c, .int .i64 (k : Int), .agg (chC C M).toArray] w (TbPY w Y n (L.set k (C, M))) :=
  (c_rtput h.t hn k hk (hd.lo (fun _ _ => trivial))).mono (by
    rintro e w' ⟨A', c', rfl, ht, hb⟩
    refine ⟨A', c', rfl, ⟨ht.lo hY, fun q hq => ?_⟩, hb⟩
    rcases List.mem_or_eq_of_mem_set hq with h1 | rfl
    · exact (h.y q h1).below hb
    · exact hd.below hb)
def CtOfY (w : World) (Y : Nat → Prop) (A : Option Addr) (n c : Nat) (L : List CQ) (b : Nat) (r : List CP × Nat × Int) (e : Ending) (w' : World) : Prop :=
  ∃ A' c' L', e = .returned (.tuple #[.slice A' n c', .int .i64 (r.2.1 : Nat), .int .i64 r.2.2]) ∧ TbY w' Y A' n c' L' ∧ (r.2.2 = 0 → L'.map Prod.fst = r.1) ∧ (r.2.2 ≠ 0 → A' = A ∧ c' = c ∧ L' = L) ∧ fewL b L' ∧ Below w.heap.size w w'
def PtY (w : World) (Y : Nat → Prop) (n b : Nat) (Cs : List CP) (x : Int) (e : Ending) (w' : World) : Prop :=
  ∃ A' c' L', e = .returned (.tuple #[.slice A' n c', .int .i64 x]) ∧ TbY w' Y A' n c' L' ∧ L'.map Prod.fst = Cs ∧ fewL b L' ∧ Below w.heap.size w w'
set_option maxRecDepth 100000 in
set_option maxHeartbeats 8000000 in
theorem c_rtofferY {w : World} {pl' Y : Nat → Prop} {A B : Option Addr} {n c m d : Nat} {L : List CQ} {gs : List GD} (h : TbY w Y A n c L) (hY : ∀ b, w.heap.size ≤ b → Y b) (hR : RD w pl' 5 B m (gs.flatMap gdC)) (hl : gs.length = m) {b : Nat} (hf : fewL b L) (hb : b + m ≤ 1000) (hn : n ≤ 1000) (p : Int) (al : Bool) :
    Calls Tryz.prog 19 #[.slice A n c, .int .i64 p, .slice B m d, .bool al] w (CtOfY w Y A n c L (b + m) (offRun p al (L.map Prod.fst) 0 gs)) := by
  have HT := Lib.hid h
  have HY := Lib.hid hY
  have HR := Lib.hid hR
  have HL := Lib.hid hl
  have HF := Lib.hid hf
  obtain ⟨r, hr⟩ : ∃ r, offRun p al (L.map Prod.fst) 0 gs = r := ⟨_, rfl⟩
  have HRR := Lib.hid hr
  have HFM := Lib.hid (hf.mono (show b ≤ b + m by omega))
  rw [hr]
  clear h hY hR hl hf hr
  go_enter Tryz.func19, Tryz.ntmps19
  go_wp2_with fail
  go_loopw [11, 12] (fun s i wr => ∃ k : Nat, k ≤ m ∧ i = .int .i64 k ∧ ∃ A' c' Lk, s = .slice A' n c' ∧ TbY wr Y A' n c' Lk ∧ offRun p al (Lk.map Prod.fst) k (gs.drop k) = r ∧ fewL (b + k) Lk ∧ Below w.heap.size w wr) (fun _ i _ => m - (intOf i).toNat)
  case atStart => exact ⟨0, Nat.zero_le _, rfl, A, c, L, rfl, HT.out, HRR.out, HF.out, Below.refl _ _⟩
  case round =>
    obtain ⟨k, hk, rfl, A1, c1, Lk, rfl, hd, hrun, hfew, hbw⟩ := hrel
    by_cases hlt : k < m
    · have hkl : k < gs.length := by rw [HL.out]; exact hlt
      obtain ⟨b0, o0, rfl, _, _, hrg⟩ := RD.row gdC_len (HR.out.below hbw) (List.getElem?_eq_getElem hkl) hlt
      rw [List.drop_eq_getElem_cons hkl] at hrun
      generalize gs[k] = g at hrg hrun
      obtain ⟨gk, go, gv, gr, gn⟩ := g
      have HRG := Lib.hid hrg
      have HRN := Lib.hid hrun
      have HU0 := Lib.hid (up_alloc wr (.cells (gdC ⟨gk, go, gv, gr, gn⟩).toArray 63))
      have HB := Lib.hid hbw
      have HBX := Lib.hid (Blk.new wr (gdC ⟨gk, go, gv, gr, gn⟩) 63)
      have HTB := Lib.hid (hd.below HU0.out)
      have HFW := Lib.hid hfew
      have HLK := Lib.hid hd.t.len
      have HYW := Lib.hid (fun b hb => HY.out b (Nat.le_trans (up_trans hbw HU0.out).size hb))
      have hkm : (k : Int) < (m : Int) := by omega
      have c0 := HBX.out.cell 0 _ rfl
      have c1' := HBX.out.cell 1 _ rfl
      clear hkl hrg hrun hbw hd hfew
      cases hg : ((gk != 1) && (gk != 2))
      · have HGO : Hid (gdOff ⟨gk, go, gv, gr, gn⟩ = false) := Lib.hid hg
        have CI := Lib.hid (c_rtis A n c go)
        cases hin : (decide (0 ≤ go) && decide (go < (n : Int)))
        · rw [hin] at CI
          have HN : Hid (r = (Lk.map Prod.fst, k, 8)) := Lib.hid (by
            rw [← HRN.out, offRun_stop HGO.out (by rw [gdE_no HLK.out hin]; decide), gdE_no HLK.out hin])
          have hor : gk = 1 ∨ gk = 2 := by
            simp only [Bool.and_eq_false_iff, bne_eq_false_iff_eq] at hg
            exact hg
          clear hg hin
          rcases hor with rfl | rfl
          · have HBX' := HBX
            go_wp2_with (first | (refine lmr (b := b0) (q := o0 + k * 5) (cs := gdC ⟨1, go, gv, gr, gn⟩) (.tmp 25) rfl rfl Tryz.underlying63 rfl ct_info_gd rfl ?_ ?_; (· exact HRG.out)) | (refine snr (W := wr) (cs := gdC ⟨1, go, gv, gr, gn⟩) (zs := gdC ⟨0, 0, 0, 0, 0⟩) (t := 63) (.tmp 13) (.tmp 26) rfl rfl rfl rfl ct_info_gd rfl (gdC_one _) ?_ ?_ ?_; (· rfl); (· rfl)))
            refine (CI.out _).mono ?_; rintro e w' ⟨rfl, rfl⟩
            go_wp2_with fail
            go_ret3
            have hU := up_trans HB.out HU0.out
            exact ⟨A, c, L, by rw [HN.out]; rfl, HT.out.below hU, fun h => (by rw [HN.out] at h; exact absurd h (by decide : ¬ (8 : Int) = 0)), fun _ => ⟨rfl, rfl, rfl⟩, HFM.out, hU⟩
          · have HBX' := HBX
            go_wp2_with (first | (refine lmr (b := b0) (q := o0 + k * 5) (cs := gdC ⟨2, go, gv, gr, gn⟩) (.tmp 25) rfl rfl Tryz.underlying63 rfl ct_info_gd rfl ?_ ?_; (· exact HRG.out)) | (refine snr (W := wr) (cs := gdC ⟨2, go, gv, gr, gn⟩) (zs := gdC ⟨0, 0, 0, 0, 0⟩) (t := 63) (.tmp 13) (.tmp 26) rfl rfl rfl rfl ct_info_gd rfl (gdC_one _) ?_ ?_ ?_; (· rfl); (· rfl)))
            refine (CI.out _).mono ?_; rintro e w' ⟨rfl, rfl⟩
            go_wp2_with fail
            go_ret3
            have hU := up_trans HB.out HU0.out
            exact ⟨A, c, L, by rw [HN.out]; rfl, HT.out.below hU, fun h => (by rw [HN.out] at h; exact absurd h (by decide : ¬ (8 : Int) = 0)), fun _ => ⟨rfl, rfl, rfl⟩, HFM.out, hU⟩
        · rw [hin] at CI
          have hjn0 : 0 ≤ go ∧ go < (n : Int) := by simpa using hin
          obtain ⟨j, rfl⟩ : ∃ j : Nat, go = (j : Int) := ⟨go.toNat, by omega⟩
          have hjn : j < n := by omega
          have hjn' : (j : Int) < (n : Int) := by omega
          have hj3 : j ≤ 1000 := by omega
          obtain ⟨u, v, ⟨C, M⟩, rfl, _, hul, hq, hrq, hch⟩ := HTB.out.at_ j hjn
          have HQ := Lib.hid hq
          have hfq := HFW.out _ (List.mem_of_getElem? hq)
          have HFQ := Lib.hid hfq
          have HFN := Lib.hid (hfq.few (by omega) hch)
          have HRQ : Hid (∀ W, Below (wr.alloc (.cells (gdC ⟨gk, (j : Int), gv, gr, gn⟩).toArray 63)).heap.size (wr.alloc (.cells (gdC ⟨gk, (j : Int), gv, gr, gn⟩).toArray 63)) W → W.rangeAt u (v + j * 11) (chC C M)) := Lib.hid (fun W hW => range_below hrq hW hul)
          have e6 : (wr.alloc (.cells (gdC ⟨gk, (j : Int), gv, gr, gn⟩).toArray 63)).cell? ⟨u, v + j * 11 + 6, none⟩ = some (.bool C.os) := hrq 6 _ rfl
          have e9 : (wr.alloc (.cells (gdC ⟨gk, (j : Int), gv, gr, gn⟩).toArray 63)).cell? ⟨u, v + j * 11 + 9, none⟩ = some (.bool C.is) := hrq 9 _ rfl
          have HCH := Lib.hid hch
          have CRV := Lib.hid (c_rcrecv hch HFN.out HYW.out p)
          have hor : gk = 1 ∨ gk = 2 := by
            simp only [Bool.and_eq_false_iff, bne_eq_false_iff_eq] at hg
            exact hg
          clear hg hin hul hq hfq hrq hch hjn0
          rcases hor with rfl | rfl
          · have HE : Hid (gdE (Lk.map Prod.fst) p al ⟨1, (j : Int), gv, gr, gn⟩ = if (al && C.is) = true then 12 else chRecvE C p) := Lib.hid (gdE_at (g := ⟨1, (j : Int), gv, gr, gn⟩) HQ.out rfl)
            have HLL := Lib.hid (fun (h0 : gdE (Lk.map Prod.fst) p al ⟨1, (j : Int), gv, gr, gn⟩ = 0) (M2 : SM) => gdL_at (g := ⟨1, (j : Int), gv, gr, gn⟩) HQ.out rfl h0 M2)
            have HFS : Hid (fewC (b + k + 1) (chRecv C p)) := Lib.hid (HFQ.out.step p ⟨1, (j : Int), gv, gr, gn⟩)
            obtain ⟨sf, hsf⟩ : ∃ x, C.is = x := ⟨_, rfl⟩
            rw [hsf] at HE e9
            clear hsf e6
            obtain ⟨x, hx⟩ : ∃ x, chRecvE C p = x := ⟨_, rfl⟩
            obtain ⟨N, hN⟩ : ∃ N, chRecv C p = N := ⟨_, rfl⟩
            change Hid (_ → ∀ M2, (Lk.set j (chRecv C p, M2)).map Prod.fst = _) at HLL
            rw [hx] at HE
            rw [hN] at HLL HFS
            rw [hx, hN] at CRV
            clear hx hN
            cases al
            · have HE2 : Hid (gdE (Lk.map Prod.fst) p false ⟨1, (j : Int), gv, gr, gn⟩ = x) := Lib.hid HE.out
              by_cases h0 : x = 0
              · subst h0
                have HN : Hid (offRun p false (gdL (Lk.map Prod.fst) p false ⟨1, (j : Int), gv, gr, gn⟩) (k + 1) (gs.drop (k + 1)) = r) := Lib.hid (by rw [← HRN.out, offRun_step HGO.out HE2.out])
                go_wp2_with (first | (refine lmr (b := b0) (q := o0 + k * 5) (cs := gdC ⟨1, (j : Int), gv, gr, gn⟩) (.tmp 25) rfl rfl Tryz.underlying63 rfl ct_info_gd rfl ?_ ?_; (· exact HRG.out)) | (refine snr (W := wr) (cs := gdC ⟨1, (j : Int), gv, gr, gn⟩) (zs := gdC ⟨0, 0, 0, 0, 0⟩) (t := 63) (.tmp 13) (.tmp 26) rfl rfl rfl rfl ct_info_gd rfl (gdC_one _) ?_ ?_ ?_; (· rfl); (· rfl)))
                refine (CI.out _).mono ?_; rintro e w' ⟨rfl, rfl⟩
                go_upto_region 11 with fail
                go_wp2_with (refine lmr (b := u) (q := v + j * 11) (cs := chC C M) (.tmp 77) rfl rfl Tryz.underlying107 rfl info_rch rfl ?_ ?_; (· exact HRQ.out _ (Below.refl _ _)))
                refine CRV.out.mono ?_; rintro e w2 ⟨M1, rfl, hch1, hb2⟩
                have hb3 := up_trans hb2 (up_alloc w2 (.cells (chC N M1).toArray 107))
                have HK := Lib.hid (Blk.new w2 (chC N M1) 107)
                have HB3 := Lib.hid hb3
                have HC1 := Lib.hid (hch1.below (up_alloc w2 (.cells (chC N M1).toArray 107)))
                have d0 := (HBX.out.up hb3 HBX.out.lt).cell 0 _ rfl
                have d1 := (HBX.out.up hb3 HBX.out.lt).cell 1 _ rfl
                have HB2 := Lib.hid hb2
                clear hb2 hb3 hch1 c0 c1' e9
                go_wp2_with (first | (refine snr (W := w2) (cs := chC N M1) (zs := chZ) (t := 107) (.tmp 14) (.tmp 81) rfl rfl rfl rfl info_rch rfl chC_one ?_ ?_ ?_; (· rfl); (· rfl)) | (refine ldr (b := w2.heap.size) (t := 107) (cs := chC N M1) (.tmp 14) rfl rfl Tryz.underlying107 rfl info_rch rfl ?_ ?_; (· exact HK.out)))
                refine (c_rtputY (HTB.out.below HB3.out) (fun b hb => HYW.out b (Nat.le_trans HB3.out.size hb)) hn j hjn HC1.out).mono ?_; rintro e w4 ⟨A4, c4, rfl, ht4, hb4⟩
                have HT4 := Lib.hid ht4
                have HB4 := Lib.hid (up_trans (up_trans (up_trans HB.out HU0.out) HB3.out) hb4)
                clear ht4 hb4 d0 d1
                go_wp2_with fail
                go_roundw
                case rel => exact ⟨k + 1, by omega, by go_num, A4, c4, _, rfl, HT4.out, by rw [HLL.out HE2.out]; exact HN.out, fun q hq => (List.mem_or_eq_of_mem_set hq).elim (fun h => (HFW.out q h).mono (by omega)) (fun h => by rw [h]; exact HFS.out), HB4.out⟩
                case measure => simp [intOf]; omega
              · have hx1 : (x != 0) = true := by simp [bne, h0]
                have HN : Hid (r = (Lk.map Prod.fst, k, x)) := Lib.hid (by rw [← HRN.out, offRun_stop HGO.out (by rw [HE2.out]; exact h0), HE2.out])
                have HX0 := Lib.hid h0
                clear h0
                go_wp2_with (first | (refine lmr (b := b0) (q := o0 + k * 5) (cs := gdC ⟨1, (j : Int), gv, gr, gn⟩) (.tmp 25) rfl rfl Tryz.underlying63 rfl ct_info_gd rfl ?_ ?_; (· exact HRG.out)) | (refine snr (W := wr) (cs := gdC ⟨1, (j : Int), gv, gr, gn⟩) (zs := gdC ⟨0, 0, 0, 0, 0⟩) (t := 63) (.tmp 13) (.tmp 26) rfl rfl rfl rfl ct_info_gd rfl (gdC_one _) ?_ ?_ ?_; (· rfl); (· rfl)))
                refine (CI.out _).mono ?_; rintro e w' ⟨rfl, rfl⟩
                go_upto_region 11 with fail
                go_wp2_with (refine lmr (b := u) (q := v + j * 11) (cs := chC C M) (.tmp 77) rfl rfl Tryz.underlying107 rfl info_rch rfl ?_ ?_; (· exact HRQ.out _ (Below.refl _ _)))
                refine CRV.out.mono ?_; rintro e w2 ⟨M1, rfl, hch1, hb2⟩
                have hb3 := up_trans hb2 (up_alloc w2 (.cells (chC N M1).toArray 107))
                have HK := Lib.hid (Blk.new w2 (chC N M1) 107)
                have HB3 := Lib.hid hb3
                have HC1 := Lib.hid (hch1.below (up_alloc w2 (.cells (chC N M1).toArray 107)))
                have d0 := (HBX.out.up hb3 HBX.out.lt).cell 0 _ rfl
                have d1 := (HBX.out.up hb3 HBX.out.lt).cell 1 _ rfl
                have HB2 := Lib.hid hb2
                clear hb2 hb3 hch1 c0 c1' e9
                go_wp2_with (refine snr (W := w2) (cs := chC N M1) (zs := chZ) (t := 107) (.tmp 14) (.tmp 81) rfl rfl rfl rfl info_rch rfl chC_one ?_ ?_ ?_; (· rfl); (· rfl))
                go_ret3
                have hU := up_trans (up_trans HB.out HU0.out) HB3.out
                exact ⟨A, c, L, by rw [HN.out]; rfl, HT.out.below hU, fun h => (by rw [HN.out] at h; exact absurd h HX0.out), fun _ => ⟨rfl, rfl, rfl⟩, HFM.out, hU⟩
            · cases sf
              · have HE2 : Hid (gdE (Lk.map Prod.fst) p true ⟨1, (j : Int), gv, gr, gn⟩ = x) := Lib.hid HE.out
                by_cases h0 : x = 0
                · subst h0
                  have HN : Hid (offRun p true (gdL (Lk.map Prod.fst) p true ⟨1, (j : Int), gv, gr, gn⟩) (k + 1) (gs.drop (k + 1)) = r) := Lib.hid (by rw [← HRN.out, offRun_step HGO.out HE2.out])
                  go_wp2_with (first | (refine lmr (b := b0) (q := o0 + k * 5) (cs := gdC ⟨1, (j : Int), gv, gr, gn⟩) (.tmp 25) rfl rfl Tryz.underlying63 rfl ct_info_gd rfl ?_ ?_; (· exact HRG.out)) | (refine snr (W := wr) (cs := gdC ⟨1, (j : Int), gv, gr, gn⟩) (zs := gdC ⟨0, 0, 0, 0, 0⟩) (t := 63) (.tmp 13) (.tmp 26) rfl rfl rfl rfl ct_info_gd rfl (gdC_one _) ?_ ?_ ?_; (· rfl); (· rfl)))
                  refine (CI.out _).mono ?_; rintro e w' ⟨rfl, rfl⟩
                  go_upto_region 11 with fail
                  go_wp2_with (refine lmr (b := u) (q := v + j * 11) (cs := chC C M) (.tmp 77) rfl rfl Tryz.underlying107 rfl info_rch rfl ?_ ?_; (· exact HRQ.out _ (Below.refl _ _)))
                  refine CRV.out.mono ?_; rintro e w2 ⟨M1, rfl, hch1, hb2⟩
                  have hb3 := up_trans hb2 (up_alloc w2 (.cells (chC N M1).toArray 107))
                  have HK := Lib.hid (Blk.new w2 (chC N M1) 107)
                  have HB3 := Lib.hid hb3
                  have HC1 := Lib.hid (hch1.below (up_alloc w2 (.cells (chC N M1).toArray 107)))
                  have d0 := (HBX.out.up hb3 HBX.out.lt).cell 0 _ rfl
                  have d1 := (HBX.out.up hb3 HBX.out.lt).cell 1 _ rfl
                  have HB2 := Lib.hid hb2
                  clear hb2 hb3 hch1 c0 c1' e9
                  go_wp2_with (first | (refine snr (W := w2) (cs := chC N M1) (zs := chZ) (t := 107) (.tmp 14) (.tmp 81) rfl rfl rfl rfl info_rch rfl chC_one ?_ ?_ ?_; (· rfl); (· rfl)) | (refine ldr (b := w2.heap.size) (t := 107) (cs := chC N M1) (.tmp 14) rfl rfl Tryz.underlying107 rfl info_rch rfl ?_ ?_; (· exact HK.out)))
                  refine (c_rtputY (HTB.out.below HB3.out) (fun b hb => HYW.out b (Nat.le_trans HB3.out.size hb)) hn j hjn HC1.out).mono ?_; rintro e w4 ⟨A4, c4, rfl, ht4, hb4⟩
                  have HT4 := Lib.hid ht4
                  have HB4 := Lib.hid (up_trans (up_trans (up_trans HB.out HU0.out) HB3.out) hb4)
                  clear ht4 hb4 d0 d1
                  go_wp2_with fail
                  go_roundw
                  case rel => exact ⟨k + 1, by omega, by go_num, A4, c4, _, rfl, HT4.out, by rw [HLL.out HE2.out]; exact HN.out, fun q hq => (List.mem_or_eq_of_mem_set hq).elim (fun h => (HFW.out q h).mono (by omega)) (fun h => by rw [h]; exact HFS.out), HB4.out⟩
                  case measure => simp [intOf]; omega
                · have hx1 : (x != 0) = true := by simp [bne, h0]
                  have HN : Hid (r = (Lk.map Prod.fst, k, x)) := Lib.hid (by rw [← HRN.out, offRun_stop HGO.out (by rw [HE2.out]; exact h0), HE2.out])
                  have HX0 := Lib.hid h0
                  clear h0
                  go_wp2_with (first | (refine lmr (b := b0) (q := o0 + k * 5) (cs := gdC ⟨1, (j : Int), gv, gr, gn⟩) (.tmp 25) rfl rfl Tryz.underlying63 rfl ct_info_gd rfl ?_ ?_; (· exact HRG.out)) | (refine snr (W := wr) (cs := gdC ⟨1, (j : Int), gv, gr, gn⟩) (zs := gdC ⟨0, 0, 0, 0, 0⟩) (t := 63) (.tmp 13) (.tmp 26) rfl rfl rfl rfl ct_info_gd rfl (gdC_one _) ?_ ?_ ?_; (· rfl); (· rfl)))
                  refine (CI.out _).mono ?_; rintro e w' ⟨rfl, rfl⟩
                  go_upto_region 11 with fail
                  go_wp2_with (refine lmr (b := u) (q := v + j * 11) (cs := chC C M) (.tmp 77) rfl rfl Tryz.underlying107 rfl info_rch rfl ?_ ?_; (· exact HRQ.out _ (Below.refl _ _)))
                  refine CRV.out.mono ?_; rintro e w2 ⟨M1, rfl, hch1, hb2⟩
                  have hb3 := up_trans hb2 (up_alloc w2 (.cells (chC N M1).toArray 107))
                  have HK := Lib.hid (Blk.new w2 (chC N M1) 107)
                  have HB3 := Lib.hid hb3
                  have HC1 := Lib.hid (hch1.below (up_alloc w2 (.cells (chC N M1).toArray 107)))
                  have d0 := (HBX.out.up hb3 HBX.out.lt).cell 0 _ rfl
                  have d1 := (HBX.out.up hb3 HBX.out.lt).cell 1 _ rfl
                  have HB2 := Lib.hid hb2
                  clear hb2 hb3 hch1 c0 c1' e9
                  go_wp2_with (refine snr (W := w2) (cs := chC N M1) (zs := chZ) (t := 107) (.tmp 14) (.tmp 81) rfl rfl rfl rfl info_rch rfl chC_one ?_ ?_ ?_; (· rfl); (· rfl))
                  go_ret3
                  have hU := up_trans (up_trans HB.out HU0.out) HB3.out
                  exact ⟨A, c, L, by rw [HN.out]; rfl, HT.out.below hU, fun h => (by rw [HN.out] at h; exact absurd h HX0.out), fun _ => ⟨rfl, rfl, rfl⟩, HFM.out, hU⟩
              · have HE2 : Hid (gdE (Lk.map Prod.fst) p true ⟨1, (j : Int), gv, gr, gn⟩ = 12) := HE
                have HN : Hid (r = (Lk.map Prod.fst, k, 12)) := Lib.hid (by rw [← HRN.out, offRun_stop HGO.out (by rw [HE2.out]; exact (by decide : ¬ (12 : Int) = 0)), HE2.out])
                go_wp2_with (first | (refine lmr (b := b0) (q := o0 + k * 5) (cs := gdC ⟨1, (j : Int), gv, gr, gn⟩) (.tmp 25) rfl rfl Tryz.underlying63 rfl ct_info_gd rfl ?_ ?_; (· exact HRG.out)) | (refine snr (W := wr) (cs := gdC ⟨1, (j : Int), gv, gr, gn⟩) (zs := gdC ⟨0, 0, 0, 0, 0⟩) (t := 63) (.tmp 13) (.tmp 26) rfl rfl rfl rfl ct_info_gd rfl (gdC_one _) ?_ ?_ ?_; (· rfl); (· rfl)))
                refine (CI.out _).mono ?_; rintro e w' ⟨rfl, rfl⟩
                go_wp2_with fail
                go_ret3
                have hU := up_trans HB.out HU0.out
                exact ⟨A, c, L, by rw [HN.out]; rfl, HT.out.below hU, fun h => (by rw [HN.out] at h; exact absurd h (by decide : ¬ (12 : Int) = 0)), fun _ => ⟨rfl, rfl, rfl⟩, HFM.out, hU⟩
          · have HE : Hid (gdE (Lk.map Prod.fst) p al ⟨2, (j : Int), gv, gr, gn⟩ = if (al && C.os) = true then 12 else chSendE C p gv) := Lib.hid (gdE_at (g := ⟨2, (j : Int), gv, gr, gn⟩) HQ.out rfl)
            have HLL := Lib.hid (fun (h0 : gdE (Lk.map Prod.fst) p al ⟨2, (j : Int), gv, gr, gn⟩ = 0) (M2 : SM) => gdL_at (g := ⟨2, (j : Int), gv, gr, gn⟩) HQ.out rfl h0 M2)
            have HFS : Hid (fewC (b + k + 1) (chSend C p gv)) := Lib.hid (HFQ.out.step p ⟨2, (j : Int), gv, gr, gn⟩)
            have CSD := Lib.hid (fun (bx : Nat) (hbx : (wr.alloc (.cells (gdC ⟨2, (j : Int), gv, gr, gn⟩).toArray 63)).heap.size ≤ bx) W (hW : Below (wr.alloc (.cells (gdC ⟨2, (j : Int), gv, gr, gn⟩).toArray 63)).heap.size (wr.alloc (.cells (gdC ⟨2, (j : Int), gv, gr, gn⟩).toArray 63)) W) (hlt : bx < W.heap.size) => c_rcsend (pl := fun b => b ≠ bx ∧ Y b) ((HCH.out.lt.lo (fun b hb => ⟨by have := hb.2; omega, hb.1⟩)).below hW) HFN.out (fun b hb => ⟨by omega, HYW.out b (Nat.le_trans hW.size hb)⟩) p gv)
            obtain ⟨sf, hsf⟩ : ∃ x, C.os = x := ⟨_, rfl⟩
            rw [hsf] at HE e6
            clear hsf e9
            obtain ⟨x, hx⟩ : ∃ x, chSendE C p gv = x := ⟨_, rfl⟩
            obtain ⟨N, hN⟩ : ∃ N, chSend C p gv = N := ⟨_, rfl⟩
            change Hid (_ → ∀ M2, (Lk.set j (chSend C p gv, M2)).map Prod.fst = _) at HLL
            rw [hx] at HE
            rw [hN] at HLL HFS
            simp only [hx, hN] at CSD
            clear hx hN
            cases al
            · have HE2 : Hid (gdE (Lk.map Prod.fst) p false ⟨2, (j : Int), gv, gr, gn⟩ = x) := Lib.hid HE.out
              by_cases h0 : x = 0
              · subst h0
                have HN : Hid (offRun p false (gdL (Lk.map Prod.fst) p false ⟨2, (j : Int), gv, gr, gn⟩) (k + 1) (gs.drop (k + 1)) = r) := Lib.hid (by rw [← HRN.out, offRun_step HGO.out HE2.out])
                go_wp2_with (first | (refine lmr (b := b0) (q := o0 + k * 5) (cs := gdC ⟨2, (j : Int), gv, gr, gn⟩) (.tmp 25) rfl rfl Tryz.underlying63 rfl ct_info_gd rfl ?_ ?_; (· exact HRG.out)) | (refine snr (W := wr) (cs := gdC ⟨2, (j : Int), gv, gr, gn⟩) (zs := gdC ⟨0, 0, 0, 0, 0⟩) (t := 63) (.tmp 13) (.tmp 26) rfl rfl rfl rfl ct_info_gd rfl (gdC_one _) ?_ ?_ ?_; (· rfl); (· rfl)))
                refine (CI.out _).mono ?_; rintro e w' ⟨rfl, rfl⟩
                go_upto_region 11 with fail
                go_wp2_with (refine lmr (b := u) (q := v + j * 11) (cs := chC C M) (.tmp 77) rfl rfl Tryz.underlying107 rfl info_rch rfl ?_ ?_; (· exact HRQ.out _ (Below.refl _ _)))
                refine CRV.out.mono ?_; rintro e w2 ⟨M1, rfl, hch1, hb2⟩
                have hb3 := up_trans hb2 (up_alloc w2 (.cells (chC (chRecv C p) M1).toArray 107))
                have HK := Lib.hid (Blk.new w2 (chC (chRecv C p) M1) 107)
                have HB3 := Lib.hid hb3
                have HC1 := Lib.hid (hch1.below (up_alloc w2 (.cells (chC (chRecv C p) M1).toArray 107)))
                have d0 := (HBX.out.up hb3 HBX.out.lt).cell 0 _ rfl
                have d1 := (HBX.out.up hb3 HBX.out.lt).cell 1 _ rfl
                have HB2 := Lib.hid hb2
                clear hb2 hb3 hch1 c0 c1' e6
                go_upto_region 13 with (refine snr (W := w2) (cs := chC (chRecv C p) M1) (zs := chZ) (t := 107) (.tmp 14) (.tmp 81) rfl rfl rfl rfl info_rch rfl chC_one ?_ ?_ ?_; (· rfl); (· rfl))
                generalize hbx : w2.heap.size = bx at HK ⊢
                have hbl : (wr.alloc (.cells (gdC ⟨2, (j : Int), gv, gr, gn⟩).toArray 63)).heap.size ≤ bx := by rw [← hbx]; exact HB2.out.size
                have HBL := Lib.hid hbl
                clear hbl hbx
                generalize w2.alloc (.cells (chC (chRecv C p) M1).toArray 107) = w3 at HK HB3 HC1 d0 d1 ⊢
                refine wp_region_held_drew (S := fun W => Below (wr.alloc (.cells (gdC ⟨2, (j : Int), gv, gr, gn⟩).toArray 63)).heap.size (wr.alloc (.cells (gdC ⟨2, (j : Int), gv, gr, gn⟩).toArray 63)) W ∧ ∃ ds : List Value, ds.length = 11 ∧ Blk W bx ds 107) (by kernel_rfl) ⟨up_trans HB3.out (up_drewN _ 1), _, rfl, HK.out⟩ (fun hHeld => ?_)
                refine wpAnyH_take (i := 0) (oi := ?_) (v := ?_) ?_ (by kernel_rfl) (by kernel_rfl) (by kernel_rfl) ?_ (Or.inl ⟨?_, ?_⟩) hHeld ?_
                rotate_left 2
                · conv => lhs; simp only [List.getElem?_toArray, List.getElem?_cons_succ, List.getElem?_cons_zero]
                · exact fun _ _ _ h => h
                · rfl
                · intro W hSw
                  go_simp
                  try with_reducible rfl
                try simp only [Act.put, List.setIfInBounds_toArray, List.set_cons_zero, List.set_cons_succ]
                refine wpAnyH_take (i := 1) (oi := ?_) (v := ?_) ?_ (by kernel_rfl) (by kernel_rfl) (by kernel_rfl) ?_ (Or.inl ⟨?_, ?_⟩) hHeld ?_
                rotate_left 2
                · conv => lhs; simp only [List.getElem?_toArray, List.getElem?_cons_succ, List.getElem?_cons_zero]
                · exact fun _ _ _ h => h
                · rfl
                · intro W hSw
                  go_simp
                  try with_reducible rfl
                try simp only [Act.put, List.setIfInBounds_toArray, List.set_cons_zero, List.set_cons_succ]
                refine wpAnyH_take (i := 2) (oi := ?_) (v := ?_) ?_ (by kernel_rfl) (by kernel_rfl) (by kernel_rfl) ?_ (Or.inl ⟨?_, ?_⟩) hHeld ?_
                rotate_left 2
                · conv => lhs; simp only [List.getElem?_toArray, List.getElem?_cons_succ, List.getElem?_cons_zero]
                · exact fun _ _ _ h => h
                · rfl
                · intro W hSw
                  have f0 := (HBX.out.up hSw.1 HBX.out.lt).cell 1 _ rfl
                  go_simp
                  try with_reducible rfl
                try simp only [Act.put, List.setIfInBounds_toArray, List.set_cons_zero, List.set_cons_succ]
                refine wpAnyH_take (i := 3) (oi := ?_) (v := ?_) ?_ (by kernel_rfl) (by kernel_rfl) (by kernel_rfl) ?_ (Or.inl ⟨?_, ?_⟩) hHeld ?_
                rotate_left 2
                · conv => lhs; simp only [List.getElem?_toArray, List.getElem?_cons_succ, List.getElem?_cons_zero]
                · exact fun _ _ _ h => h
                · rfl
                · intro W hSw
                  go_simp
                  try with_reducible rfl
                try simp only [Act.put, List.setIfInBounds_toArray, List.set_cons_zero, List.set_cons_succ]
                refine wpAnyH_take (i := 4) (oi := ?_) (v := (.agg (chC C M).toArray)) ?_ (by kernel_rfl) (by kernel_rfl) (by kernel_rfl) ?_ (Or.inl ⟨?_, ?_⟩) hHeld ?_
                rotate_left 1
                · conv => lhs; simp only [List.getElem?_toArray, List.getElem?_cons_succ, List.getElem?_cons_zero]
                · exact fun _ _ _ h => h
                · rfl
                · intro W hSw
                  exact tk_part (q := v + j * 11) rfl rfl Tryz.underlying107 rfl info_rch (HRQ.out _ hSw.1)
                try simp only [Act.put, List.setIfInBounds_toArray, List.set_cons_zero, List.set_cons_succ]
                refine wpAnyH_take (i := 5) (oi := ?_) (v := ?_) ?_ (by kernel_rfl) (by kernel_rfl) (by kernel_rfl) ?_ (Or.inl ⟨?_, ?_⟩) hHeld ?_
                rotate_left 2
                · conv => lhs; simp only [List.getElem?_toArray, List.getElem?_cons_succ, List.getElem?_cons_zero]
                · exact fun _ _ _ h => h
                · rfl
                · intro W hSw
                  go_simp
                  try with_reducible rfl
                try simp only [Act.put, List.setIfInBounds_toArray, List.set_cons_zero, List.set_cons_succ]
                refine wpAnyH_take (i := 6) (oi := ?_) (v := ?_) ?_ (by kernel_rfl) (by kernel_rfl) (by kernel_rfl) ?_ (Or.inl ⟨?_, ?_⟩) hHeld ?_
                rotate_left 2
                · conv => lhs; simp only [List.getElem?_toArray, List.getElem?_cons_succ, List.getElem?_cons_zero]
                · exact fun _ _ _ h => h
                · rfl
                · intro W hSw
                  go_simp
                  try with_reducible rfl
                try simp only [Act.put, List.setIfInBounds_toArray, List.set_cons_zero, List.set_cons_succ]
                refine wpAnyH_take (i := 7) (oi := ?_) (v := ?_) ?_ (by kernel_rfl) (by kernel_rfl) (by kernel_rfl) ?_ (Or.inl ⟨?_, ?_⟩) hHeld ?_
                rotate_left 2
                · conv => lhs; simp only [List.getElem?_toArray, List.getElem?_cons_succ, List.getElem?_cons_zero]
                · exact fun _ _ _ h => h
                · rfl
                · intro W hSw
                  have f0 := (HBX.out.up hSw.1 HBX.out.lt).cell 2 _ rfl
                  go_simp
                  try with_reducible rfl
                try simp only [Act.put, List.setIfInBounds_toArray, List.set_cons_zero, List.set_cons_succ]
                refine wpAnyH_ready (rs := [8]) (by kernel_rfl) (by simp) ?_
                refine AllReadyH.cons (o := ?_) ?_ (fun K hK => ?_) AllReadyH.nil
                rotate_left 1
                · conv => lhs; simp only [List.getElem?_toArray, List.getElem?_cons_succ, List.getElem?_cons_zero]
                go_simp
                have hlt : bx < _ := (by obtain ⟨ds, h1, h2⟩ := hHeld.2; exact h2.lt)
                refine (CSD.out bx HBL.out _ hHeld.1 hlt).mono ?_
                rintro e wA ⟨M2, rfl, hch2, hb⟩
                have HC2 := Lib.hid hch2
                go_wp2_with fail
                refine hK.out _ _ (⟨up_trans hHeld.1 hb, by obtain ⟨ds, h1, h2⟩ := hHeld.2; exact ⟨ds, h1, h2.up hb h2.lt⟩⟩) (fun hHeld => ?_)
                clear hK K
                try simp only [Act.put, List.setIfInBounds_toArray, List.set_cons_zero, List.set_cons_succ]
                refine wpAnyH_take (i := 9) (oi := ?_) (v := ?_) ?_ (by kernel_rfl) (by kernel_rfl) (by kernel_rfl) ?_ (Or.inl ⟨?_, ?_⟩) hHeld ?_
                rotate_left 2
                · conv => lhs; simp only [List.getElem?_toArray, List.getElem?_cons_succ, List.getElem?_cons_zero]
                · exact fun _ _ _ h => h
                · rfl
                · intro W hSw
                  go_simp
                  try with_reducible rfl
                try simp only [Act.put, List.setIfInBounds_toArray, List.set_cons_zero, List.set_cons_succ]
                refine wpAnyH_take (i := 10) (oi := ?_) (v := ?_) ?_ (by kernel_rfl) (by kernel_rfl) (by kernel_rfl) ?_ (Or.inl ⟨?_, ?_⟩) hHeld ?_
                rotate_left 2
                · conv => lhs; simp only [List.getElem?_toArray, List.getElem?_cons_succ, List.getElem?_cons_zero]
                · exact fun _ _ _ h => h
                · rfl
                · intro W hSw
                  go_simp
                  try with_reducible rfl
                try simp only [Act.put, List.setIfInBounds_toArray, List.set_cons_zero, List.set_cons_succ]
                refine wpAnyH_take (i := 11) (oi := ?_) (v := ?_) ?_ (by kernel_rfl) (by kernel_rfl) (by kernel_rfl) ?_ (Or.inl ⟨?_, ?_⟩) hHeld ?_
                rotate_left 2
                · conv => lhs; simp only [List.getElem?_toArray, List.getElem?_cons_succ, List.getElem?_cons_zero]
                · exact fun _ _ _ h => h
                · rfl
                · intro W hSw
                  go_simp
                  try with_reducible rfl
                try simp only [Act.put, List.setIfInBounds_toArray, List.set_cons_zero, List.set_cons_succ]
                obtain ⟨ds, hds, hres⟩ := hHeld.2
                refine wpAnyH_ready (rs := [12]) (by kernel_rfl) (by simp) ?_
                refine AllReadyH.cons (o := ?_) ?_ (fun K hK => ?_) AllReadyH.nil
                rotate_left 1
                · conv => lhs; simp only [List.getElem?_toArray, List.getElem?_cons_succ, List.getElem?_cons_zero]
                rw [if_pos (by rfl)]
                refine wp_store_row 107 (.tmp 14) (.tmp 96) rfl bx (chC N M2).toArray rfl rfl 107 ds.toArray hres info_rch (by rw [List.size_toArray, List.size_toArray, hds]; rfl) (al_one chC_one) ?_
                refine hK.out _ _ (⟨below_setRow hHeld.1 HBL.out _, _, rfl, hres.row (chC N M2)⟩) (fun hHeld => ?_)
                clear hK K
                refine wpAnyH_take (i := 13) (oi := ?_) (v := ?_) ?_ (by kernel_rfl) (by kernel_rfl) (by kernel_rfl) ?_ (Or.inl ⟨?_, ?_⟩) hHeld ?_
                rotate_left 2
                · conv => lhs; simp only [List.getElem?_toArray, List.getElem?_cons_succ, List.getElem?_cons_zero]
                · exact fun _ _ _ h => h
                · rfl
                · intro W hSw
                  go_simp
                  try with_reducible rfl
                try simp only [Act.put, List.setIfInBounds_toArray, List.set_cons_zero, List.set_cons_succ]
                refine wpAnyH_done (by kernel_rfl) ?_ _
                have HK := Lib.hid (hres.row (chC N M2))
                have HB5 := Lib.hid hHeld.1
                have HC1 := Lib.hid ((HC2.out.only ((Only.refl (· = bx) _).row rfl (chC N M2).toArray) (fun i hi hh => hh.1 hi)).lo (pl' := Y) (fun _ h => h.2))
                have d1 := (HBX.out.up HB5.out HBX.out.lt).cell 1 _ rfl
                clear hHeld hres
                go_wp2_with (refine ldr (b := bx) (t := 107) (cs := chC N M2) (.tmp 14) rfl rfl Tryz.underlying107 rfl info_rch rfl ?_ ?_; (· exact HK.out))
                refine (c_rtputY (HTB.out.below HB5.out) (fun b hb => HYW.out b (Nat.le_trans HB5.out.size hb)) hn j hjn HC1.out).mono ?_; rintro e w4 ⟨A4, c4, rfl, ht4, hb4⟩
                have HT4 := Lib.hid ht4
                have HB4 := Lib.hid (up_trans (up_trans (up_trans HB.out HU0.out) HB5.out) hb4)
                clear ht4 hb4 d1
                go_wp2_with fail
                go_roundw
                case rel => exact ⟨k + 1, by omega, by go_num, A4, c4, _, rfl, HT4.out, by rw [HLL.out HE2.out]; exact HN.out, fun q hq => (List.mem_or_eq_of_mem_set hq).elim (fun h => (HFW.out q h).mono (by omega)) (fun h => by rw [h]; exact HFS.out), HB4.out⟩
                case measure => simp [intOf]; omega
              · have hx1 : (x != 0) = true := by simp [bne, h0]
                have HN : Hid (r = (Lk.map Prod.fst, k, x)) := Lib.hid (by rw [← HRN.out, offRun_stop HGO.out (by rw [HE2.out]; exact h0), HE2.out])
                have HX0 := Lib.hid h0
                clear h0
                go_wp2_with (first | (refine lmr (b := b0) (q := o0 + k * 5) (cs := gdC ⟨2, (j : Int), gv, gr, gn⟩) (.tmp 25) rfl rfl Tryz.underlying63 rfl ct_info_gd rfl ?_ ?_; (· exact HRG.out)) | (refine snr (W := wr) (cs := gdC ⟨2, (j : Int), gv, gr, gn⟩) (zs := gdC ⟨0, 0, 0, 0, 0⟩) (t := 63) (.tmp 13) (.tmp 26) rfl rfl rfl rfl ct_info_gd rfl (gdC_one _) ?_ ?_ ?_; (· rfl); (· rfl)))
                refine (CI.out _).mono ?_; rintro e w' ⟨rfl, rfl⟩
                go_upto_region 11 with fail
                go_wp2_with (refine lmr (b := u) (q := v + j * 11) (cs := chC C M) (.tmp 77) rfl rfl Tryz.underlying107 rfl info_rch rfl ?_ ?_; (· exact HRQ.out _ (Below.refl _ _)))
                refine CRV.out.mono ?_; rintro e w2 ⟨M1, rfl, hch1, hb2⟩
                have hb3 := up_trans hb2 (up_alloc w2 (.cells (chC (chRecv C p) M1).toArray 107))
                have HK := Lib.hid (Blk.new w2 (chC (chRecv C p) M1) 107)
                have HB3 := Lib.hid hb3
                have HC1 := Lib.hid (hch1.below (up_alloc w2 (.cells (chC (chRecv C p) M1).toArray 107)))
                have d0 := (HBX.out.up hb3 HBX.out.lt).cell 0 _ rfl
                have d1 := (HBX.out.up hb3 HBX.out.lt).cell 1 _ rfl
                have HB2 := Lib.hid hb2
                clear hb2 hb3 hch1 c0 c1' e6
                go_upto_region 13 with (refine snr (W := w2) (cs := chC (chRecv C p) M1) (zs := chZ) (t := 107) (.tmp 14) (.tmp 81) rfl rfl rfl rfl info_rch rfl chC_one ?_ ?_ ?_; (· rfl); (· rfl))
                generalize hbx : w2.heap.size = bx at HK ⊢
                have hbl : (wr.alloc (.cells (gdC ⟨2, (j : Int), gv, gr, gn⟩).toArray 63)).heap.size ≤ bx := by rw [← hbx]; exact HB2.out.size
                have HBL := Lib.hid hbl
                clear hbl hbx
                generalize w2.alloc (.cells (chC (chRecv C p) M1).toArray 107) = w3 at HK HB3 HC1 d0 d1 ⊢
                refine wp_region_held_drew (S := fun W => Below (wr.alloc (.cells (gdC ⟨2, (j : Int), gv, gr, gn⟩).toArray 63)).heap.size (wr.alloc (.cells (gdC ⟨2, (j : Int), gv, gr, gn⟩).toArray 63)) W ∧ ∃ ds : List Value, ds.length = 11 ∧ Blk W bx ds 107) (by kernel_rfl) ⟨up_trans HB3.out (up_drewN _ 1), _, rfl, HK.out⟩ (fun hHeld => ?_)
                refine wpAnyH_take (i := 0) (oi := ?_) (v := ?_) ?_ (by kernel_rfl) (by kernel_rfl) (by kernel_rfl) ?_ (Or.inl ⟨?_, ?_⟩) hHeld ?_
                rotate_left 2
                · conv => lhs; simp only [List.getElem?_toArray, List.getElem?_cons_succ, List.getElem?_cons_zero]
                · exact fun _ _ _ h => h
                · rfl
                · intro W hSw
                  go_simp
                  try with_reducible rfl
                try simp only [Act.put, List.setIfInBounds_toArray, List.set_cons_zero, List.set_cons_succ]
                refine wpAnyH_take (i := 1) (oi := ?_) (v := ?_) ?_ (by kernel_rfl) (by kernel_rfl) (by kernel_rfl) ?_ (Or.inl ⟨?_, ?_⟩) hHeld ?_
                rotate_left 2
                · conv => lhs; simp only [List.getElem?_toArray, List.getElem?_cons_succ, List.getElem?_cons_zero]
                · exact fun _ _ _ h => h
                · rfl
                · intro W hSw
                  go_simp
                  try with_reducible rfl
                try simp only [Act.put, List.setIfInBounds_toArray, List.set_cons_zero, List.set_cons_succ]
                refine wpAnyH_take (i := 2) (oi := ?_) (v := ?_) ?_ (by kernel_rfl) (by kernel_rfl) (by kernel_rfl) ?_ (Or.inl ⟨?_, ?_⟩) hHeld ?_
                rotate_left 2
                · conv => lhs; simp only [List.getElem?_toArray, List.getElem?_cons_succ, List.getElem?_cons_zero]
                · exact fun _ _ _ h => h
                · rfl
                · intro W hSw
                  have f0 := (HBX.out.up hSw.1 HBX.out.lt).cell 1 _ rfl
                  go_simp
                  try with_reducible rfl
                try simp only [Act.put, List.setIfInBounds_toArray, List.set_cons_zero, List.set_cons_succ]
                refine wpAnyH_take (i := 3) (oi := ?_) (v := ?_) ?_ (by kernel_rfl) (by kernel_rfl) (by kernel_rfl) ?_ (Or.inl ⟨?_, ?_⟩) hHeld ?_
                rotate_left 2
                · conv => lhs; simp only [List.getElem?_toArray, List.getElem?_cons_succ, List.getElem?_cons_zero]
                · exact fun _ _ _ h => h
                · rfl
                · intro W hSw
                  go_simp
                  try with_reducible rfl
                try simp only [Act.put, List.setIfInBounds_toArray, List.set_cons_zero, List.set_cons_succ]
                refine wpAnyH_take (i := 4) (oi := ?_) (v := (.agg (chC C M).toArray)) ?_ (by kernel_rfl) (by kernel_rfl) (by kernel_rfl) ?_ (Or.inl ⟨?_, ?_⟩) hHeld ?_
                rotate_left 1
                · conv => lhs; simp only [List.getElem?_toArray, List.getElem?_cons_succ, List.getElem?_cons_zero]
                · exact fun _ _ _ h => h
                · rfl
                · intro W hSw
                  exact tk_part (q := v + j * 11) rfl rfl Tryz.underlying107 rfl info_rch (HRQ.out _ hSw.1)
                try simp only [Act.put, List.setIfInBounds_toArray, List.set_cons_zero, List.set_cons_succ]
                refine wpAnyH_take (i := 5) (oi := ?_) (v := ?_) ?_ (by kernel_rfl) (by kernel_rfl) (by kernel_rfl) ?_ (Or.inl ⟨?_, ?_⟩) hHeld ?_
                rotate_left 2
                · conv => lhs; simp only [List.getElem?_toArray, List.getElem?_cons_succ, List.getElem?_cons_zero]
                · exact fun _ _ _ h => h
                · rfl
                · intro W hSw
                  go_simp
                  try with_reducible rfl
                try simp only [Act.put, List.setIfInBounds_toArray, List.set_cons_zero, List.set_cons_succ]
                refine wpAnyH_take (i := 6) (oi := ?_) (v := ?_) ?_ (by kernel_rfl) (by kernel_rfl) (by kernel_rfl) ?_ (Or.inl ⟨?_, ?_⟩) hHeld ?_
                rotate_left 2
                · conv => lhs; simp only [List.getElem?_toArray, List.getElem?_cons_succ, List.getElem?_cons_zero]
                · exact fun _ _ _ h => h
                · rfl
                · intro W hSw
                  go_simp
                  try with_reducible rfl
                try simp only [Act.put, List.setIfInBounds_toArray, List.set_cons_zero, List.set_cons_succ]
                refine wpAnyH_take (i := 7) (oi := ?_) (v := ?_) ?_ (by kernel_rfl) (by kernel_rfl) (by kernel_rfl) ?_ (Or.inl ⟨?_, ?_⟩) hHeld ?_
                rotate_left 2
                · conv => lhs; simp only [List.getElem?_toArray, List.getElem?_cons_succ, List.getElem?_cons_zero]
                · exact fun _ _ _ h => h
                · rfl
                · intro W hSw
                  have f0 := (HBX.out.up hSw.1 HBX.out.lt).cell 2 _ rfl
                  go_simp
                  try with_reducible rfl
                try simp only [Act.put, List.setIfInBounds_toArray, List.set_cons_zero, List.set_cons_succ]
                refine wpAnyH_ready (rs := [8]) (by kernel_rfl) (by simp) ?_
                refine AllReadyH.cons (o := ?_) ?_ (fun K hK => ?_) AllReadyH.nil
                rotate_left 1
                · conv => lhs; simp only [List.getElem?_toArray, List.getElem?_cons_succ, List.getElem?_cons_zero]
                go_simp
                have hlt : bx < _ := (by obtain ⟨ds, h1, h2⟩ := hHeld.2; exact h2.lt)
                refine (CSD.out bx HBL.out _ hHeld.1 hlt).mono ?_
                rintro e wA ⟨M2, rfl, hch2, hb⟩
                have HC2 := Lib.hid hch2
                go_wp2_with fail
                refine hK.out _ _ (⟨up_trans hHeld.1 hb, by obtain ⟨ds, h1, h2⟩ := hHeld.2; exact ⟨ds, h1, h2.up hb h2.lt⟩⟩) (fun hHeld => ?_)
                clear hK K
                try simp only [Act.put, List.setIfInBounds_toArray, List.set_cons_zero, List.set_cons_succ]
                refine wpAnyH_take (i := 9) (oi := ?_) (v := ?_) ?_ (by kernel_rfl) (by kernel_rfl) (by kernel_rfl) ?_ (Or.inl ⟨?_, ?_⟩) hHeld ?_
                rotate_left 2
                · conv => lhs; simp only [List.getElem?_toArray, List.getElem?_cons_succ, List.getElem?_cons_zero]
                · exact fun _ _ _ h => h
                · rfl
                · intro W hSw
                  go_simp
                  try with_reducible rfl
                try simp only [Act.put, List.setIfInBounds_toArray, List.set_cons_zero, List.set_cons_succ]
                refine wpAnyH_take (i := 10) (oi := ?_) (v := ?_) ?_ (by kernel_rfl) (by kernel_rfl) (by kernel_rfl) ?_ (Or.inl ⟨?_, ?_⟩) hHeld ?_
                rotate_left 2
                · conv => lhs; simp only [List.getElem?_toArray, List.getElem?_cons_succ, List.getElem?_cons_zero]
                · exact fun _ _ _ h => h
                · rfl
                · intro W hSw
                  go_simp
                  try with_reducible rfl
                try simp only [Act.put, List.setIfInBounds_toArray, List.set_cons_zero, List.set_cons_succ]
                refine wpAnyH_take (i := 11) (oi := ?_) (v := ?_) ?_ (by kernel_rfl) (by kernel_rfl) (by kernel_rfl) ?_ (Or.inl ⟨?_, ?_⟩) hHeld ?_
                rotate_left 2
                · conv => lhs; simp only [List.getElem?_toArray, List.getElem?_cons_succ, List.getElem?_cons_zero]
                · exact fun _ _ _ h => h
                · rfl
                · intro W hSw
                  go_simp
                  try with_reducible rfl
                try simp only [Act.put, List.setIfInBounds_toArray, List.set_cons_zero, List.set_cons_succ]
                obtain ⟨ds, hds, hres⟩ := hHeld.2
                refine wpAnyH_ready (rs := [12]) (by kernel_rfl) (by simp) ?_
                refine AllReadyH.cons (o := ?_) ?_ (fun K hK => ?_) AllReadyH.nil
                rotate_left 1
                · conv => lhs; simp only [List.getElem?_toArray, List.getElem?_cons_succ, List.getElem?_cons_zero]
                rw [if_pos (by rfl)]
                refine wp_store_row 107 (.tmp 14) (.tmp 96) rfl bx (chC N M2).toArray rfl rfl 107 ds.toArray hres info_rch (by rw [List.size_toArray, List.size_toArray, hds]; rfl) (al_one chC_one) ?_
                refine hK.out _ _ (⟨below_setRow hHeld.1 HBL.out _, _, rfl, hres.row (chC N M2)⟩) (fun hHeld => ?_)
                clear hK K
                refine wpAnyH_take (i := 13) (oi := ?_) (v := ?_) ?_ (by kernel_rfl) (by kernel_rfl) (by kernel_rfl) ?_ (Or.inl ⟨?_, ?_⟩) hHeld ?_
                rotate_left 2
                · conv => lhs; simp only [List.getElem?_toArray, List.getElem?_cons_succ, List.getElem?_cons_zero]
                · exact fun _ _ _ h => h
                · rfl
                · intro W hSw
                  go_simp
                  try with_reducible rfl
                try simp only [Act.put, List.setIfInBounds_toArray, List.set_cons_zero, List.set_cons_succ]
                refine wpAnyH_done (by kernel_rfl) ?_ _
                have HK := Lib.hid (hres.row (chC N M2))
                have HB5 := Lib.hid hHeld.1
                have HC1 := Lib.hid ((HC2.out.only ((Only.refl (· = bx) _).row rfl (chC N M2).toArray) (fun i hi hh => hh.1 hi)).lo (pl' := Y) (fun _ h => h.2))
                have d1 := (HBX.out.up HB5.out HBX.out.lt).cell 1 _ rfl
                clear hHeld hres
                go_wp2_with fail
                go_ret3
                have hU := up_trans (up_trans HB.out HU0.out) HB5.out
                exact ⟨A, c, L, by rw [HN.out]; rfl, HT.out.below hU, fun h => (by rw [HN.out] at h; exact absurd h HX0.out), fun _ => ⟨rfl, rfl, rfl⟩, HFM.out, hU⟩
            · cases sf
              · have HE2 : Hid (gdE (Lk.map Prod.fst) p true ⟨2, (j : Int), gv, gr, gn⟩ = x) := Lib.hid HE.out
                by_cases h0 : x = 0
                · subst h0
                  have HN : Hid (offRun p true (gdL (Lk.map Prod.fst) p true ⟨2, (j : Int), gv, gr, gn⟩) (k + 1) (gs.drop (k + 1)) = r) := Lib.hid (by rw [← HRN.out, offRun_step HGO.out HE2.out])
                  go_wp2_with (first | (refine lmr (b := b0) (q := o0 + k * 5) (cs := gdC ⟨2, (j : Int), gv, gr, gn⟩) (.tmp 25) rfl rfl Tryz.underlying63 rfl ct_info_gd rfl ?_ ?_; (· exact HRG.out)) | (refine snr (W := wr) (cs := gdC ⟨2, (j : Int), gv, gr, gn⟩) (zs := gdC ⟨0, 0, 0, 0, 0⟩) (t := 63) (.tmp 13) (.tmp 26) rfl rfl rfl rfl ct_info_gd rfl (gdC_one _) ?_ ?_ ?_; (· rfl); (· rfl)))
                  refine (CI.out _).mono ?_; rintro e w' ⟨rfl, rfl⟩
                  go_upto_region 11 with fail
                  go_wp2_with (refine lmr (b := u) (q := v + j * 11) (cs := chC C M) (.tmp 77) rfl rfl Tryz.underlying107 rfl info_rch rfl ?_ ?_; (· exact HRQ.out _ (Below.refl _ _)))
                  refine CRV.out.mono ?_; rintro e w2 ⟨M1, rfl, hch1, hb2⟩
                  have hb3 := up_trans hb2 (up_alloc w2 (.cells (chC (chRecv C p) M1).toArray 107))
                  have HK := Lib.hid (Blk.new w2 (chC (chRecv C p) M1) 107)
                  have HB3 := Lib.hid hb3
                  have HC1 := Lib.hid (hch1.below (up_alloc w2 (.cells (chC (chRecv C p) M1).toArray 107)))
                  have d0 := (HBX.out.up hb3 HBX.out.lt).cell 0 _ rfl
                  have d1 := (HBX.out.up hb3 HBX.out.lt).cell 1 _ rfl
                  have HB2 := Lib.hid hb2
                  clear hb2 hb3 hch1 c0 c1' e6
                  go_upto_region 13 with (refine snr (W := w2) (cs := chC (chRecv C p) M1) (zs := chZ) (t := 107) (.tmp 14) (.tmp 81) rfl rfl rfl rfl info_rch rfl chC_one ?_ ?_ ?_; (· rfl); (· rfl))
                  generalize hbx : w2.heap.size = bx at HK ⊢
                  have hbl : (wr.alloc (.cells (gdC ⟨2, (j : Int), gv, gr, gn⟩).toArray 63)).heap.size ≤ bx := by rw [← hbx]; exact HB2.out.size
                  have HBL := Lib.hid hbl
                  clear hbl hbx
                  generalize w2.alloc (.cells (chC (chRecv C p) M1).toArray 107) = w3 at HK HB3 HC1 d0 d1 ⊢
                  refine wp_region_held_drew (S := fun W => Below (wr.alloc (.cells (gdC ⟨2, (j : Int), gv, gr, gn⟩).toArray 63)).heap.size (wr.alloc (.cells (gdC ⟨2, (j : Int), gv, gr, gn⟩).toArray 63)) W ∧ ∃ ds : List Value, ds.length = 11 ∧ Blk W bx ds 107) (by kernel_rfl) ⟨up_trans HB3.out (up_drewN _ 1), _, rfl, HK.out⟩ (fun hHeld => ?_)
                  refine wpAnyH_take (i := 0) (oi := ?_) (v := ?_) ?_ (by kernel_rfl) (by kernel_rfl) (by kernel_rfl) ?_ (Or.inl ⟨?_, ?_⟩) hHeld ?_
                  rotate_left 2
                  · conv => lhs; simp only [List.getElem?_toArray, List.getElem?_cons_succ, List.getElem?_cons_zero]
                  · exact fun _ _ _ h => h
                  · rfl
                  · intro W hSw
                    go_simp
                    try with_reducible rfl
                  try simp only [Act.put, List.setIfInBounds_toArray, List.set_cons_zero, List.set_cons_succ]
                  refine wpAnyH_take (i := 1) (oi := ?_) (v := ?_) ?_ (by kernel_rfl) (by kernel_rfl) (by kernel_rfl) ?_ (Or.inl ⟨?_, ?_⟩) hHeld ?_
                  rotate_left 2
                  · conv => lhs; simp only [List.getElem?_toArray, List.getElem?_cons_succ, List.getElem?_cons_zero]
                  · exact fun _ _ _ h => h
                  · rfl
                  · intro W hSw
                    go_simp
                    try with_reducible rfl
                  try simp only [Act.put, List.setIfInBounds_toArray, List.set_cons_zero, List.set_cons_succ]
                  refine wpAnyH_take (i := 2) (oi := ?_) (v := ?_) ?_ (by kernel_rfl) (by kernel_rfl) (by kernel_rfl) ?_ (Or.inl ⟨?_, ?_⟩) hHeld ?_
                  rotate_left 2
                  · conv => lhs; simp only [List.getElem?_toArray, List.getElem?_cons_succ, List.getElem?_cons_zero]
                  · exact fun _ _ _ h => h
                  · rfl
                  · intro W hSw
                    have f0 := (HBX.out.up hSw.1 HBX.out.lt).cell 1 _ rfl
                    go_simp
                    try with_reducible rfl
                  try simp only [Act.put, List.setIfInBounds_toArray, List.set_cons_zero, List.set_cons_succ]
                  refine wpAnyH_take (i := 3) (oi := ?_) (v := ?_) ?_ (by kernel_rfl) (by kernel_rfl) (by kernel_rfl) ?_ (Or.inl ⟨?_, ?_⟩) hHeld ?_
                  rotate_left 2
                  · conv => lhs; simp only [List.getElem?_toArray, List.getElem?_cons_succ, List.getElem?_cons_zero]
                  · exact fun _ _ _ h => h
                  · rfl
                  · intro W hSw
                    go_simp
                    try with_reducible rfl
                  try simp only [Act.put, List.setIfInBounds_toArray, List.set_cons_zero, List.set_cons_succ]
                  refine wpAnyH_take (i := 4) (oi := ?_) (v := (.agg (chC C M).toArray)) ?_ (by kernel_rfl) (by kernel_rfl) (by kernel_rfl) ?_ (Or.inl ⟨?_, ?_⟩) hHeld ?_
                  rotate_left 1
                  · conv => lhs; simp only [List.getElem?_toArray, List.getElem?_cons_succ, List.getElem?_cons_zero]
                  · exact fun _ _ _ h => h
                  · rfl
                  · intro W hSw
                    exact tk_part (q := v + j * 11) rfl rfl Tryz.underlying107 rfl info_rch (HRQ.out _ hSw.1)
                  try simp only [Act.put, List.setIfInBounds_toArray, List.set_cons_zero, List.set_cons_succ]
                  refine wpAnyH_take (i := 5) (oi := ?_) (v := ?_) ?_ (by kernel_rfl) (by kernel_rfl) (by kernel_rfl) ?_ (Or.inl ⟨?_, ?_⟩) hHeld ?_
                  rotate_left 2
                  · conv => lhs; simp only [List.getElem?_toArray, List.getElem?_cons_succ, List.getElem?_cons_zero]
                  · exact fun _ _ _ h => h
                  · rfl
                  · intro W hSw
                    go_simp
                    try with_reducible rfl
                  try simp only [Act.put, List.setIfInBounds_toArray, List.set_cons_zero, List.set_cons_succ]
                  refine wpAnyH_take (i := 6) (oi := ?_) (v := ?_) ?_ (by kernel_rfl) (by kernel_rfl) (by kernel_rfl) ?_ (Or.inl ⟨?_, ?_⟩) hHeld ?_
                  rotate_left 2
                  · conv => lhs; simp only [List.getElem?_toArray, List.getElem?_cons_succ, List.getElem?_cons_zero]
                  · exact fun _ _ _ h => h
                  · rfl
                  · intro W hSw
                    go_simp
                    try with_reducible rfl
                  try simp only [Act.put, List.setIfInBounds_toArray, List.set_cons_zero, List.set_cons_succ]
                  refine wpAnyH_take (i := 7) (oi := ?_) (v := ?_) ?_ (by kernel_rfl) (by kernel_rfl) (by kernel_rfl) ?_ (Or.inl ⟨?_, ?_⟩) hHeld ?_
                  rotate_left 2
                  · conv => lhs; simp only [List.getElem?_toArray, List.getElem?_cons_succ, List.getElem?_cons_zero]
                  · exact fun _ _ _ h => h
                  · rfl
                  · intro W hSw
                    have f0 := (HBX.out.up hSw.1 HBX.out.lt).cell 2 _ rfl
                    go_simp
                    try with_reducible rfl
                  try simp only [Act.put, List.setIfInBounds_toArray, List.set_cons_zero, List.set_cons_succ]
                  refine wpAnyH_ready (rs := [8]) (by kernel_rfl) (by simp) ?_
                  refine AllReadyH.cons (o := ?_) ?_ (fun K hK => ?_) AllReadyH.nil
                  rotate_left 1
                  · conv => lhs; simp only [List.getElem?_toArray, List.getElem?_cons_succ, List.getElem?_cons_zero]
                  go_simp
                  have hlt : bx < _ := (by obtain ⟨ds, h1, h2⟩ := hHeld.2; exact h2.lt)
                  refine (CSD.out bx HBL.out _ hHeld.1 hlt).mono ?_
                  rintro e wA ⟨M2, rfl, hch2, hb⟩
                  have HC2 := Lib.hid hch2
                  go_wp2_with fail
                  refine hK.out _ _ (⟨up_trans hHeld.1 hb, by obtain ⟨ds, h1, h2⟩ := hHeld.2; exact ⟨ds, h1, h2.up hb h2.lt⟩⟩) (fun hHeld => ?_)
                  clear hK K
                  try simp only [Act.put, List.setIfInBounds_toArray, List.set_cons_zero, List.set_cons_succ]
                  refine wpAnyH_take (i := 9) (oi := ?_) (v := ?_) ?_ (by kernel_rfl) (by kernel_rfl) (by kernel_rfl) ?_ (Or.inl ⟨?_, ?_⟩) hHeld ?_
                  rotate_left 2
                  · conv => lhs; simp only [List.getElem?_toArray, List.getElem?_cons_succ, List.getElem?_cons_zero]
                  · exact fun _ _ _ h => h
                  · rfl
                  · intro W hSw
                    go_simp
                    try with_reducible rfl
                  try simp only [Act.put, List.setIfInBounds_toArray, List.set_cons_zero, List.set_cons_succ]
                  refine wpAnyH_take (i := 10) (oi := ?_) (v := ?_) ?_ (by kernel_rfl) (by kernel_rfl) (by kernel_rfl) ?_ (Or.inl ⟨?_, ?_⟩) hHeld ?_
                  rotate_left 2
                  · conv => lhs; simp only [List.getElem?_toArray, List.getElem?_cons_succ, List.getElem?_cons_zero]
                  · exact fun _ _ _ h => h
                  · rfl
                  · intro W hSw
                    go_simp
                    try with_reducible rfl
                  try simp only [Act.put, List.setIfInBounds_toArray, List.set_cons_zero, List.set_cons_succ]
                  refine wpAnyH_take (i := 11) (oi := ?_) (v := ?_) ?_ (by kernel_rfl) (by kernel_rfl) (by kernel_rfl) ?_ (Or.inl ⟨?_, ?_⟩) hHeld ?_
                  rotate_left 2
                  · conv => lhs; simp only [List.getElem?_toArray, List.getElem?_cons_succ, List.getElem?_cons_zero]
                  · exact fun _ _ _ h => h
                  · rfl
                  · intro W hSw
                    go_simp
                    try with_reducible rfl
                  try simp only [Act.put, List.setIfInBounds_toArray, List.set_cons_zero, List.set_cons_succ]
                  obtain ⟨ds, hds, hres⟩ := hHeld.2
                  refine wpAnyH_ready (rs := [12]) (by kernel_rfl) (by simp) ?_
                  refine AllReadyH.cons (o := ?_) ?_ (fun K hK => ?_) AllReadyH.nil
                  rotate_left 1
                  · conv => lhs; simp only [List.getElem?_toArray, List.getElem?_cons_succ, List.getElem?_cons_zero]
                  rw [if_pos (by rfl)]
                  refine wp_store_row 107 (.tmp 14) (.tmp 96) rfl bx (chC N M2).toArray rfl rfl 107 ds.toArray hres info_rch (by rw [List.size_toArray, List.size_toArray, hds]; rfl) (al_one chC_one) ?_
                  refine hK.out _ _ (⟨below_setRow hHeld.1 HBL.out _, _, rfl, hres.row (chC N M2)⟩) (fun hHeld => ?_)
                  clear hK K
                  refine wpAnyH_take (i := 13) (oi := ?_) (v := ?_) ?_ (by kernel_rfl) (by kernel_rfl) (by kernel_rfl) ?_ (Or.inl ⟨?_, ?_⟩) hHeld ?_
                  rotate_left 2
                  · conv => lhs; simp only [List.getElem?_toArray, List.getElem?_cons_succ, List.getElem?_cons_zero]
                  · exact fun _ _ _ h => h
                  · rfl
                  · intro W hSw
                    go_simp
                    try with_reducible rfl
                  try simp only [Act.put, List.setIfInBounds_toArray, List.set_cons_zero, List.set_cons_succ]
                  refine wpAnyH_done (by kernel_rfl) ?_ _
                  have HK := Lib.hid (hres.row (chC N M2))
                  have HB5 := Lib.hid hHeld.1
                  have HC1 := Lib.hid ((HC2.out.only ((Only.refl (· = bx) _).row rfl (chC N M2).toArray) (fun i hi hh => hh.1 hi)).lo (pl' := Y) (fun _ h => h.2))
                  have d1 := (HBX.out.up HB5.out HBX.out.lt).cell 1 _ rfl
                  clear hHeld hres
                  go_wp2_with (refine ldr (b := bx) (t := 107) (cs := chC N M2) (.tmp 14) rfl rfl Tryz.underlying107 rfl info_rch rfl ?_ ?_; (· exact HK.out))
                  refine (c_rtputY (HTB.out.below HB5.out) (fun b hb => HYW.out b (Nat.le_trans HB5.out.size hb)) hn j hjn HC1.out).mono ?_; rintro e w4 ⟨A4, c4, rfl, ht4, hb4⟩
                  have HT4 := Lib.hid ht4
                  have HB4 := Lib.hid (up_trans (up_trans (up_trans HB.out HU0.out) HB5.out) hb4)
                  clear ht4 hb4 d1
                  go_wp2_with fail
                  go_roundw
                  case rel => exact ⟨k + 1, by omega, by go_num, A4, c4, _, rfl, HT4.out, by rw [HLL.out HE2.out]; exact HN.out, fun q hq => (List.mem_or_eq_of_mem_set hq).elim (fun h => (HFW.out q h).mono (by omega)) (fun h => by rw [h]; exact HFS.out), HB4.out⟩
                  case measure => simp [intOf]; omega
                · have hx1 : (x != 0) = true := by simp [bne, h0]
                  have HN : Hid (r = (Lk.map Prod.fst, k, x)) := Lib.hid (by rw [← HRN.out, offRun_stop HGO.out (by rw [HE2.out]; exact h0), HE2.out])
                  have HX0 := Lib.hid h0
                  clear h0
                  go_wp2_with (first | (refine lmr (b := b0) (q := o0 + k * 5) (cs := gdC ⟨2, (j : Int), gv, gr, gn⟩) (.tmp 25) rfl rfl Tryz.underlying63 rfl ct_info_gd rfl ?_ ?_; (· exact HRG.out)) | (refine snr (W := wr) (cs := gdC ⟨2, (j : Int), gv, gr, gn⟩) (zs := gdC ⟨0, 0, 0, 0, 0⟩) (t := 63) (.tmp 13) (.tmp 26) rfl rfl rfl rfl ct_info_gd rfl (gdC_one _) ?_ ?_ ?_; (· rfl); (· rfl)))
                  refine (CI.out _).mono ?_; rintro e w' ⟨rfl, rfl⟩
                  go_upto_region 11 with fail
                  go_wp2_with (refine lmr (b := u) (q := v + j * 11) (cs := chC C M) (.tmp 77) rfl rfl Tryz.underlying107 rfl info_rch rfl ?_ ?_; (· exact HRQ.out _ (Below.refl _ _)))
                  refine CRV.out.mono ?_; rintro e w2 ⟨M1, rfl, hch1, hb2⟩
                  have hb3 := up_trans hb2 (up_alloc w2 (.cells (chC (chRecv C p) M1).toArray 107))
                  have HK := Lib.hid (Blk.new w2 (chC (chRecv C p) M1) 107)
                  have HB3 := Lib.hid hb3
                  have HC1 := Lib.hid (hch1.below (up_alloc w2 (.cells (chC (chRecv C p) M1).toArray 107)))
                  have d0 := (HBX.out.up hb3 HBX.out.lt).cell 0 _ rfl
                  have d1 := (HBX.out.up hb3 HBX.out.lt).cell 1 _ rfl
                  have HB2 := Lib.hid hb2
                  clear hb2 hb3 hch1 c0 c1' e6
                  go_upto_region 13 with (refine snr (W := w2) (cs := chC (chRecv C p) M1) (zs := chZ) (t := 107) (.tmp 14) (.tmp 81) rfl rfl rfl rfl info_rch rfl chC_one ?_ ?_ ?_; (· rfl); (· rfl))
                  generalize hbx : w2.heap.size = bx at HK ⊢
                  have hbl : (wr.alloc (.cells (gdC ⟨2, (j : Int), gv, gr, gn⟩).toArray 63)).heap.size ≤ bx := by rw [← hbx]; exact HB2.out.size
                  have HBL := Lib.hid hbl
                  clear hbl hbx
                  generalize w2.alloc (.cells (chC (chRecv C p) M1).toArray 107) = w3 at HK HB3 HC1 d0 d1 ⊢
                  refine wp_region_held_drew (S := fun W => Below (wr.alloc (.cells (gdC ⟨2, (j : Int), gv, gr, gn⟩).toArray 63)).heap.size (wr.alloc (.cells (gdC ⟨2, (j : Int), gv, gr, gn⟩).toArray 63)) W ∧ ∃ ds : List Value, ds.length = 11 ∧ Blk W bx ds 107) (by kernel_rfl) ⟨up_trans HB3.out (up_drewN _ 1), _, rfl, HK.out⟩ (fun hHeld => ?_)
                  refine wpAnyH_take (i := 0) (oi := ?_) (v := ?_) ?_ (by kernel_rfl) (by kernel_rfl) (by kernel_rfl) ?_ (Or.inl ⟨?_, ?_⟩) hHeld ?_
                  rotate_left 2
                  · conv => lhs; simp only [List.getElem?_toArray, List.getElem?_cons_succ, List.getElem?_cons_zero]
                  · exact fun _ _ _ h => h
                  · rfl
                  · intro W hSw
                    go_simp
                    try with_reducible rfl
                  try simp only [Act.put, List.setIfInBounds_toArray, List.set_cons_zero, List.set_cons_succ]
                  refine wpAnyH_take (i := 1) (oi := ?_) (v := ?_) ?_ (by kernel_rfl) (by kernel_rfl) (by kernel_rfl) ?_ (Or.inl ⟨?_, ?_⟩) hHeld ?_
                  rotate_left 2
                  · conv => lhs; simp only [List.getElem?_toArray, List.getElem?_cons_succ, List.getElem?_cons_zero]
                  · exact fun _ _ _ h => h
                  · rfl
                  · intro W hSw
                    go_simp
                    try with_reducible rfl
                  try simp only [Act.put, List.setIfInBounds_toArray, List.set_cons_zero, List.set_cons_succ]
                  refine wpAnyH_take (i := 2) (oi := ?_) (v := ?_) ?_ (by kernel_rfl) (by kernel_rfl) (by kernel_rfl) ?_ (Or.inl ⟨?_, ?_⟩) hHeld ?_
                  rotate_left 2
                  · conv => lhs; simp only [List.getElem?_toArray, List.getElem?_cons_succ, List.getElem?_cons_zero]
                  · exact fun _ _ _ h => h
                  · rfl
                  · intro W hSw
                    have f0 := (HBX.out.up hSw.1 HBX.out.lt).cell 1 _ rfl
                    go_simp
                    try with_reducible rfl
                  try simp only [Act.put, List.setIfInBounds_toArray, List.set_cons_zero, List.set_cons_succ]
                  refine wpAnyH_take (i := 3) (oi := ?_) (v := ?_) ?_ (by kernel_rfl) (by kernel_rfl) (by kernel_rfl) ?_ (Or.inl ⟨?_, ?_⟩) hHeld ?_
                  rotate_left 2
                  · conv => lhs; simp only [List.getElem?_toArray, List.getElem?_cons_succ, List.getElem?_cons_zero]
                  · exact fun _ _ _ h => h
                  · rfl
                  · intro W hSw
                    go_simp
                    try with_reducible rfl
                  try simp only [Act.put, List.setIfInBounds_toArray, List.set_cons_zero, List.set_cons_succ]
                  refine wpAnyH_take (i := 4) (oi := ?_) (v := (.agg (chC C M).toArray)) ?_ (by kernel_rfl) (by kernel_rfl) (by kernel_rfl) ?_ (Or.inl ⟨?_, ?_⟩) hHeld ?_
                  rotate_left 1
                  · conv => lhs; simp only [List.getElem?_toArray, List.getElem?_cons_succ, List.getElem?_cons_zero]
                  · exact fun _ _ _ h => h
                  · rfl
                  · intro W hSw
                    exact tk_part (q := v + j * 11) rfl rfl Tryz.underlying107 rfl info_rch (HRQ.out _ hSw.1)
                  try simp only [Act.put, List.setIfInBounds_toArray, List.set_cons_zero, List.set_cons_succ]
                  refine wpAnyH_take (i := 5) (oi := ?_) (v := ?_) ?_ (by kernel_rfl) (by kernel_rfl) (by kernel_rfl) ?_ (Or.inl ⟨?_, ?_⟩) hHeld ?_
                  rotate_left 2
                  · conv => lhs; simp only [List.getElem?_toArray, List.getElem?_cons_succ, List.getElem?_cons_zero]
                  · exact fun _ _ _ h => h
                  · rfl
                  · intro W hSw
                    go_simp
                    try with_reducible rfl
                  try simp only [Act.put, List.setIfInBounds_toArray, List.set_cons_zero, List.set_cons_succ]
                  refine wpAnyH_take (i := 6) (oi := ?_) (v := ?_) ?_ (by kernel_rfl) (by kernel_rfl) (by kernel_rfl) ?_ (Or.inl ⟨?_, ?_⟩) hHeld ?_
                  rotate_left 2
                  · conv => lhs; simp only [List.getElem?_toArray, List.getElem?_cons_succ, List.getElem?_cons_zero]
                  · exact fun _ _ _ h => h
                  · rfl
                  · intro W hSw
                    go_simp
                    try with_reducible rfl
                  try simp only [Act.put, List.setIfInBounds_toArray, List.set_cons_zero, List.set_cons_succ]
                  refine wpAnyH_take (i := 7) (oi := ?_) (v := ?_) ?_ (by kernel_rfl) (by kernel_rfl) (by kernel_rfl) ?_ (Or.inl ⟨?_, ?_⟩) hHeld ?_
                  rotate_left 2
                  · conv => lhs; simp only [List.getElem?_toArray, List.getElem?_cons_succ, List.getElem?_cons_zero]
                  · exact fun _ _ _ h => h
                  · rfl
                  · intro W hSw
                    have f0 := (HBX.out.up hSw.1 HBX.out.lt).cell 2 _ rfl
                    go_simp
                    try with_reducible rfl
                  try simp only [Act.put, List.setIfInBounds_toArray, List.set_cons_zero, List.set_cons_succ]
                  refine wpAnyH_ready (rs := [8]) (by kernel_rfl) (by simp) ?_
                  refine AllReadyH.cons (o := ?_) ?_ (fun K hK => ?_) AllReadyH.nil
                  rotate_left 1
                  · conv => lhs; simp only [List.getElem?_toArray, List.getElem?_cons_succ, List.getElem?_cons_zero]
                  go_simp
                  have hlt : bx < _ := (by obtain ⟨ds, h1, h2⟩ := hHeld.2; exact h2.lt)
                  refine (CSD.out bx HBL.out _ hHeld.1 hlt).mono ?_
                  rintro e wA ⟨M2, rfl, hch2, hb⟩
                  have HC2 := Lib.hid hch2
                  go_wp2_with fail
                  refine hK.out _ _ (⟨up_trans hHeld.1 hb, by obtain ⟨ds, h1, h2⟩ := hHeld.2; exact ⟨ds, h1, h2.up hb h2.lt⟩⟩) (fun hHeld => ?_)
                  clear hK K
                  try simp only [Act.put, List.setIfInBounds_toArray, List.set_cons_zero, List.set_cons_succ]
                  refine wpAnyH_take (i := 9) (oi := ?_) (v := ?_) ?_ (by kernel_rfl) (by kernel_rfl) (by kernel_rfl) ?_ (Or.inl ⟨?_, ?_⟩) hHeld ?_
                  rotate_left 2
                  · conv => lhs; simp only [List.getElem?_toArray, List.getElem?_cons_succ, List.getElem?_cons_zero]
                  · exact fun _ _ _ h => h
                  · rfl
                  · intro W hSw
                    go_simp
                    try with_reducible rfl
                  try simp only [Act.put, List.setIfInBounds_toArray, List.set_cons_zero, List.set_cons_succ]
                  refine wpAnyH_take (i := 10) (oi := ?_) (v := ?_) ?_ (by kernel_rfl) (by kernel_rfl) (by kernel_rfl) ?_ (Or.inl ⟨?_, ?_⟩) hHeld ?_
                  rotate_left 2
                  · conv => lhs; simp only [List.getElem?_toArray, List.getElem?_cons_succ, List.getElem?_cons_zero]
                  · exact fun _ _ _ h => h
                  · rfl
                  · intro W hSw
                    go_simp
                    try with_reducible rfl
                  try simp only [Act.put, List.setIfInBounds_toArray, List.set_cons_zero, List.set_cons_succ]
                  refine wpAnyH_take (i := 11) (oi := ?_) (v := ?_) ?_ (by kernel_rfl) (by kernel_rfl) (by kernel_rfl) ?_ (Or.inl ⟨?_, ?_⟩) hHeld ?_
                  rotate_left 2
                  · conv => lhs; simp only [List.getElem?_toArray, List.getElem?_cons_succ, List.getElem?_cons_zero]
                  · exact fun _ _ _ h => h
                  · rfl
                  · intro W hSw
                    go_simp
                    try with_reducible rfl
                  try simp only [Act.put, List.setIfInBounds_toArray, List.set_cons_zero, List.set_cons_succ]
                  obtain ⟨ds, hds, hres⟩ := hHeld.2
                  refine wpAnyH_ready (rs := [12]) (by kernel_rfl) (by simp) ?_
                  refine AllReadyH.cons (o := ?_) ?_ (fun K hK => ?_) AllReadyH.nil
                  rotate_left 1
                  · conv => lhs; simp only [List.getElem?_toArray, List.getElem?_cons_succ, List.getElem?_cons_zero]
                  rw [if_pos (by rfl)]
                  refine wp_store_row 107 (.tmp 14) (.tmp 96) rfl bx (chC N M2).toArray rfl rfl 107 ds.toArray hres info_rch (by rw [List.size_toArray, List.size_toArray, hds]; rfl) (al_one chC_one) ?_
                  refine hK.out _ _ (⟨below_setRow hHeld.1 HBL.out _, _, rfl, hres.row (chC N M2)⟩) (fun hHeld => ?_)
                  clear hK K
                  refine wpAnyH_take (i := 13) (oi := ?_) (v := ?_) ?_ (by kernel_rfl) (by kernel_rfl) (by kernel_rfl) ?_ (Or.inl ⟨?_, ?_⟩) hHeld ?_
                  rotate_left 2
                  · conv => lhs; simp only [List.getElem?_toArray, List.getElem?_cons_succ, List.getElem?_cons_zero]
                  · exact fun _ _ _ h => h
                  · rfl
                  · intro W hSw
                    go_simp
                    try with_reducible rfl
                  try simp only [Act.put, List.setIfInBounds_toArray, List.set_cons_zero, List.set_cons_succ]
                  refine wpAnyH_done (by kernel_rfl) ?_ _
                  have HK := Lib.hid (hres.row (chC N M2))
                  have HB5 := Lib.hid hHeld.1
                  have HC1 := Lib.hid ((HC2.out.only ((Only.refl (· = bx) _).row rfl (chC N M2).toArray) (fun i hi hh => hh.1 hi)).lo (pl' := Y) (fun _ h => h.2))
                  have d1 := (HBX.out.up HB5.out HBX.out.lt).cell 1 _ rfl
                  clear hHeld hres
                  go_wp2_with fail
                  go_ret3
                  have hU := up_trans (up_trans HB.out HU0.out) HB5.out
                  exact ⟨A, c, L, by rw [HN.out]; rfl, HT.out.below hU, fun h => (by rw [HN.out] at h; exact absurd h HX0.out), fun _ => ⟨rfl, rfl, rfl⟩, HFM.out, hU⟩
              · have HE2 : Hid (gdE (Lk.map Prod.fst) p true ⟨2, (j : Int), gv, gr, gn⟩ = 12) := HE
                have HN : Hid (r = (Lk.map Prod.fst, k, 12)) := Lib.hid (by rw [← HRN.out, offRun_stop HGO.out (by rw [HE2.out]; exact (by decide : ¬ (12 : Int) = 0)), HE2.out])
                go_wp2_with (first | (refine lmr (b := b0) (q := o0 + k * 5) (cs := gdC ⟨2, (j : Int), gv, gr, gn⟩) (.tmp 25) rfl rfl Tryz.underlying63 rfl ct_info_gd rfl ?_ ?_; (· exact HRG.out)) | (refine snr (W := wr) (cs := gdC ⟨2, (j : Int), gv, gr, gn⟩) (zs := gdC ⟨0, 0, 0, 0, 0⟩) (t := 63) (.tmp 13) (.tmp 26) rfl rfl rfl rfl ct_info_gd rfl (gdC_one _) ?_ ?_ ?_; (· rfl); (· rfl)))
                refine (CI.out _).mono ?_; rintro e w' ⟨rfl, rfl⟩
                go_wp2_with fail
                go_ret3
                have hU := up_trans HB.out HU0.out
                exact ⟨A, c, L, by rw [HN.out]; rfl, HT.out.below hU, fun h => (by rw [HN.out] at h; exact absurd h (by decide : ¬ (12 : Int) = 0)), fun _ => ⟨rfl, rfl, rfl⟩, HFM.out, hU⟩
      · have HGO : Hid (gdOff ⟨gk, go, gv, gr, gn⟩ = true) := Lib.hid hg
        have HN : Hid (offRun p al (Lk.map Prod.fst) (k + 1) (gs.drop (k + 1)) = r) := Lib.hid (by rw [← HRN.out, offRun_skip HGO.out])
        have t1 : (gk != 1) = true := by
          rw [Bool.and_eq_true] at hg
          exact hg.1
        have t2 : (gk != 2) = true := by
          rw [Bool.and_eq_true] at hg
          exact hg.2
        clear hg
        go_wp2_with (first | (refine lmr (b := b0) (q := o0 + k * 5) (cs := gdC ⟨gk, go, gv, gr, gn⟩) (.tmp 25) rfl rfl Tryz.underlying63 rfl ct_info_gd rfl ?_ ?_; (· exact HRG.out)) | (refine snr (W := wr) (cs := gdC ⟨gk, go, gv, gr, gn⟩) (zs := gdC ⟨0, 0, 0, 0, 0⟩) (t := 63) (.tmp 13) (.tmp 26) rfl rfl rfl rfl ct_info_gd rfl (gdC_one _) ?_ ?_ ?_; (· rfl); (· rfl)))
        go_roundw
        case rel => exact ⟨k + 1, by omega, by go_num, A1, c1, Lk, rfl, HTB.out, HN.out, HFW.out.mono (by omega), up_trans HB.out HU0.out⟩
        case measure => simp [intOf]; omega
    · obtain rfl : k = m := by omega
      have HN : Hid (r = (Lk.map Prod.fst, 0, 0)) := Lib.hid (by rw [← hrun, List.drop_of_length_le (by rw [HL.out]; exact Nat.le_refl _)]; rfl)
      have HD := Lib.hid hd
      have HFW := Lib.hid hfew
      have HB := Lib.hid hbw
      clear hrun hd hfew hbw
      go_wp2
      go_ret3
      exact ⟨A1, c1, Lk, by rw [HN.out]; rfl, HD.out, fun _ => by rw [HN.out], fun h => (by rw [HN.out] at h; exact absurd rfl h), HFW.out, HB.out⟩
set_option maxRecDepth 100000 in
set_option maxHeartbeats 2000000 in
theorem c_rtpoisY {w : World} {Y : Nat → Prop} {A : Option Addr} {n c : Nat} {L : List CQ} (h : TbY w Y A n c L) (hY : ∀ b, w.heap.size ≤ b → Y b) {b : Nat} (hf : fewL b L) (hb : b ≤ 1000) (hn : n ≤ 1000) (o y : Int) :
    Calls Tryz.prog 36 #[.slice A n c, .int .i64 o, .int .i64 y] w (PtY w Y n b (ptL (L.map Prod.fst) o y) (ptE (L.map Prod.fst) o y)) := by
  have hl : (L.map Prod.fst).length = n := by rw [List.length_map, h.t.len]
  have CI := Lib.hid (c_rtis A n c o)
  have HT := Lib.hid h
  have HF := Lib.hid hf
  have HY := Lib.hid hY
  cases hin : (decide (0 ≤ o) && decide (o < (n : Int)))
  · have e1 : ptE (L.map Prod.fst) o y = 8 := by unfold ptE; rw [hl, hin]; rfl
    have e2 : ptL (L.map Prod.fst) o y = L.map Prod.fst := by unfold ptL; rw [hl, hin]; rfl
    rw [e1, e2]
    rw [hin] at CI
    clear h hY hf hl e1 e2 hin
    go_enter Tryz.func36, Tryz.ntmps36
    go_wp2_with fail
    refine (CI.out _).mono ?_; rintro e w' ⟨rfl, rfl⟩
    go_wp2_with fail
    go_ret2
    exact ⟨A, c, L, rfl, HT.out, rfl, HF.out, Below.refl _ _⟩
  · have hjn0 : 0 ≤ o ∧ o < (n : Int) := by simpa using hin
    obtain ⟨j, rfl⟩ : ∃ j : Nat, o = (j : Int) := ⟨o.toNat, by omega⟩
    have hjn : j < n := by omega
    have hjn' : (j : Int) < (n : Int) := by omega
    have hj3 : j ≤ 1000 := by omega
    obtain ⟨u, v, ⟨C, M⟩, rfl, _, hul, hq, hrq, hch⟩ := h.at_ j hjn
    have hfq := hf _ (List.mem_of_getElem? hq)
    have hfn := hfq.few (by omega) hch
    have e1 : ptE (L.map Prod.fst) (j : Int) y = chPoisE C y := by
      unfold ptE
      rw [hl, hin, if_pos rfl, Int.toNat_natCast, List.getElem?_map, hq]
      rfl
    have e2 : ptL (L.map Prod.fst) (j : Int) y = (L.map Prod.fst).set j (chPois C y) := by
      unfold ptL
      rw [hl, hin, if_pos rfl, Int.toNat_natCast, List.getElem?_map, hq]
      rfl
    have CP := Lib.hid (c_rcpois hch hfn hY y)
    have HFP := Lib.hid (hfq.pois y)
    have HSET := Lib.hid (fun M' : SM => show (L.set j (chPois C y, M')).map Prod.fst = (L.map Prod.fst).set j (chPois C y) from List.map_set)
    have HNO : Hid (chPoisE C y ≠ 0 → L.map Prod.fst = (L.map Prod.fst).set j (chPois C y)) := Lib.hid (fun hne => by
      unfold chPois
      rw [if_neg hne]
      exact (set_same (by rw [List.getElem?_map, hq]; rfl)).symm)
    rw [e1, e2]
    rw [hin] at CI
    obtain ⟨x, hx⟩ : ∃ x, chPoisE C y = x := ⟨_, rfl⟩
    obtain ⟨N, hN⟩ : ∃ N, chPois C y = N := ⟨_, rfl⟩
    rw [hx] at CP HNO ⊢
    rw [hN] at CP HFP HSET HNO ⊢
    have HRQ : Hid (w.rangeAt u (v + j * 11) (chC C M)) := Lib.hid hrq
    clear h hY hf hl e1 e2 hin hjn0 hq hrq hch hfq hfn hx hN hul
    by_cases h0 : x = 0
    · subst h0
      go_enter Tryz.func36, Tryz.ntmps36
      go_wp2_with fail
      refine (CI.out _).mono ?_; rintro e w' ⟨rfl, rfl⟩
      go_wp2_with (refine lmr (b := u) (q := v + j * 11) (cs := chC C M) (.tmp 18) rfl rfl Tryz.underlying107 rfl info_rch rfl ?_ ?_; (· exact HRQ.out))
      refine CP.out.mono ?_; rintro e w2 ⟨M1, rfl, hch1, hb2⟩
      have hb3 := up_trans hb2 (up_alloc w2 (.cells (chC N M1).toArray 107))
      have HK := Lib.hid (Blk.new w2 (chC N M1) 107)
      have CT := Lib.hid (c_rtputY (HT.out.below hb3) (fun b hb => HY.out b (Nat.le_trans hb3.size hb)) hn j hjn (hch1.below (up_alloc w2 (.cells (chC N M1).toArray 107))))
      have HB3 := Lib.hid hb3
      clear hch1 hb2 hb3
      go_wp2_with (first | (refine snr (W := w2) (cs := chC N M1) (zs := chZ) (t := 107) (.tmp 8) (.tmp 22) rfl rfl rfl rfl info_rch rfl chC_one ?_ ?_ ?_; (· rfl); (· rfl)) | (refine ldr (b := w2.heap.size) (t := 107) (cs := chC N M1) (.tmp 8) rfl rfl Tryz.underlying107 rfl info_rch rfl ?_ ?_; (· exact HK.out)))
      refine CT.out.mono ?_; rintro e w3 ⟨A4, c4, rfl, ht, hb4⟩
      have HH := Lib.hid ht
      have HB4 := Lib.hid (up_trans HB3.out hb4)
      clear ht hb4
      go_wp2_with fail
      go_ret2
      exact ⟨A4, c4, _, rfl, HH.out, HSET.out M1, HF.out.set j HFP.out, HB4.out⟩
    · have hxb : (x != 0) = true := by simpa using h0
      have hxd : decide (x = 0) = false := decide_eq_false h0
      go_enter Tryz.func36, Tryz.ntmps36
      go_wp2_with fail
      refine (CI.out _).mono ?_; rintro e w' ⟨rfl, rfl⟩
      go_wp2_with (refine lmr (b := u) (q := v + j * 11) (cs := chC C M) (.tmp 18) rfl rfl Tryz.underlying107 rfl info_rch rfl ?_ ?_; (· exact HRQ.out))
      refine CP.out.mono ?_; rintro e w2 ⟨M1, rfl, hch1, hb2⟩
      have HB3 := Lib.hid (up_trans hb2 (up_alloc w2 (.cells (chC N M1).toArray 107)))
      clear hch1 hb2
      go_wp2_with (refine snr (W := w2) (cs := chC N M1) (zs := chZ) (t := 107) (.tmp 8) (.tmp 22) rfl rfl rfl rfl info_rch rfl chC_one ?_ ?_ ?_; (· rfl); (· rfl))
      go_ret2
      exact ⟨_, c, L, rfl, HT.out.below HB3.out, HNO.out h0, HF.out, HB3.out⟩
end Go.Proofs.YtdiiilnebepfdaaGreatDoor

/- The law BarrierEnds. -/
import Derived.Test.YtibhaiciameklaaDoorBrm
import Derived.IntWalk
import Derived.Deep.DeepCutAuto
import Derived.Deep.CutBlock
namespace Go.Proofs.YtibhaiciameklaaDoor
open Go.RowKit

theorem t_new {lm : Int} (h1 : 1 ≤ lm) (h8 : lm ≤ 8) (w : World) : Calls Tryd.prog 10 #[.agg #[.bool true, .int .i64 lm]] w (Ans (.tuple #[.agg (brC ⟨true, lm, RL.zero, 0⟩).toArray, .int .i64 0]) w) := by
  have hp : phFine 0 lm = true := (phFine_iff _ _).2 (by omega)
  have := c_brnew true lm w
  rw [new_ok _ hp, chk_ok hp] at this
  exact this
theorem new_fine {lm : Int} (h1 : 1 ≤ lm) (h8 : lm ≤ 8) : brFine ⟨true, lm, RL.zero, 0⟩ = true := (brFine_iff _).2 ⟨zero_fine, (phFine_iff _ _).2 (by
  show 1 ≤ lm ∧ lm ≤ 65535 ∧ (0 : Int) ≤ 0 ∧ 0 ≤ lm
  omega)⟩

set_option maxRecDepth 100000 in
set_option maxHeartbeats 16000000 in
theorem l_bends (x0 : Int) (bx0 : 0 ≤ x0 ∧ x0 ≤ 255) (A : Option Addr) (n cp : Nat) (P : List Pr) (w : World) (hR : RD w (fun _ => True) 2 A n (P.flatMap prV)) (hn : P.length = n) (hP : ∀ p ∈ P, PrOk p) (hT : TabD w) :
    Calls Tryd.prog 5 #[.int .u8 x0, .slice A n cp] w fun e w' => e = .returned (.bool true) ∧ Below w.heap.size w w' := by
  obtain ⟨hx0, hx1⟩ := bx0
  obtain ⟨lm, hlm⟩ : ∃ lm, 1 + x0 % 8 = lm := ⟨_, rfl⟩
  have h1 : 1 ≤ lm := by omega
  have h8 : lm ≤ 8 := by omega
  have CN := Lib.hid (t_new h1 h8 w)
  have HL := Lib.hid hlm
  have HT0 := Lib.hid (fun W (hW : Below w.heap.size w W) => hT.up hW)
  by_cases h60 : 60 < n
  · have h60' : (60 : Int) < n := by omega
    clear hR hn hP hT hlm
    go_enter Tryd.func5, Tryd.ntmps5
    go_wp2_with fail
    rw [HL.out]
    refine CN.out.mono ?_; rintro e w2 ⟨rfl, hb⟩
    have HU := Lib.hid (up_trans hb (up_alloc w2 (.cells (brC ⟨true, lm, RL.zero, 0⟩).toArray 38)))
    clear hb
    go_wp2_with (refine snr (W := w2) (cs := brC ⟨true, lm, RL.zero, 0⟩) (zs := brZ) (t := 38) (.tmp 5) (.tmp 26) rfl rfl rfl rfl info_bar rfl brC_one ?_ ?_ ?_; (· rfl); (· rfl))
    refine (c_alive22 _ (HT0.out _ HU.out)).mono ?_; rintro e w' ⟨rfl, hb⟩
    go_wp2
    go_ret
    exact ⟨rfl, up_trans HU.out hb⟩
  have h60' : ¬ (60 : Int) < n := by omega
  have hn60 : n ≤ 60 := by omega
  have HR := Lib.hid hR
  have HN := Lib.hid hn
  have HP := Lib.hid hP
  have hg := tab_lt hT
  have HB1 := Lib.hid (new_fine h1 h8)
  clear hR hn hP h60 hlm
  go_enter Tryd.func5, Tryd.ntmps5
  go_wp2_with fail
  rw [HL.out]
  refine CN.out.mono ?_; rintro e w2 ⟨rfl, hb⟩
  have hU0 := up_trans (up_trans hb (up_alloc w2 (.cells (brC ⟨true, lm, RL.zero, 0⟩).toArray 38))) (up_alloc (w2.alloc (.cells (brC ⟨true, lm, RL.zero, 0⟩).toArray 38)) (.cells (bF).toArray 63))
  have hB0 := (Blk.new w2 (brC ⟨true, lm, RL.zero, 0⟩) 38).alloc (.cells (bF).toArray 63)
  have hB1 := Blk.new' (w2.alloc (.cells (brC ⟨true, lm, RL.zero, 0⟩).toArray 38)) bF 63 (w2.heap.size + 1) (by simp)
  have hs2 := hB1.lt
  have hwl := hb.size
  obtain ⟨b0, hb0⟩ : ∃ b0 : BR, ⟨true, lm, RL.zero, 0⟩ = b0 := ⟨_, rfl⟩
  have HE0 : Hid (b0.al = true ∧ b0.lim = lm ∧ b0.ph = 0 ∧ b0.r = RL.zero ∧ brFine b0 = true) := Lib.hid (by subst hb0; exact ⟨rfl, rfl, rfl, rfl, HB1.out⟩)
  rw [hb0] at hU0 hB0 hB1 hs2 ⊢
  clear hb0 HB1 hb
  go_upto_region 6 with (refine snr (W := w2) (cs := brC b0) (zs := brZ) (t := 38) (.tmp 5) (.tmp 26) rfl rfl rfl rfl info_bar rfl brC_one ?_ ?_ ?_; (· rfl); (· rfl))
  generalize hw0 : (w2.alloc (.cells (brC b0).toArray 38)).alloc (.cells (bF).toArray 63) = w0 at hU0 hB0 hB1 hs2
  obtain ⟨s, hsl⟩ : ∃ s, w2.heap.size = s := ⟨_, rfl⟩
  rw [hsl] at hB0 hB1 hs2 hwl ⊢
  have HS : Hid (EW w0 w0 s b0 (bC b0.r.a.has)) := Lib.hid ⟨Only.refl _ _, hB0, by rw [HE0.out.2.2.2.1, show RL.zero.a = S4.zero from rfl, bC_zero]; exact hB1⟩
  have HU := Lib.hid hU0
  have HT := Lib.hid (hT.up hU0)
  have HG : Hid (0 < s) := Lib.hid (by omega)
  have HZ := Lib.hid hs2
  have HR0 := Lib.hid ((HR.out.lt).below hU0)
  have HQ : Hid (w.heap.size ≤ s) := Lib.hid hwl
  clear hT hU0 hB0 hB1 hw0 hg HR hs2 hsl hwl HT0 CN
  go_wp2_with fail
  go_loopw [7, 42] (fun f i wr => ∃ (k : Nat) (b : BR) (fd : Int), k ≤ n ∧ i = .int .i64 k ∧ f = .int .i64 fd ∧ EW w0 wr s b (bC b.r.a.has) ∧ Hid (b.al = true ∧ b.lim = lm ∧ b.ph = fd ∧ brFine b = true)) (fun _ i _ => n - (intOf i).toNat)
  case atStart => exact ⟨0, b0, 0, Nat.zero_le _, rfl, rfl, HS.out, Lib.hid ⟨HE0.out.1, HE0.out.2.1, HE0.out.2.2.1, HE0.out.2.2.2.2⟩⟩
  case round =>
    clear HS HE0
    obtain ⟨k, b, fd, hk, rfl, rfl, hS, HF⟩ := hrel
    have HS := Lib.hid hS
    clear hS
    have hfd : 0 ≤ fd ∧ fd ≤ lm := by
      obtain ⟨h1, h2, h3, h4⟩ := HF.out
      have h5 := (phFine_iff _ _).1 ((brFine_iff b).1 h4).2
      rw [h2, h3] at h5
      omega
    obtain ⟨hf0, hf1⟩ := hfd
    by_cases hlt : k < n
    · obtain ⟨bL, oL, p, rfl, hbL, hp, a0, a1⟩ := (HR0.out.only HS.out.only (fun j hj hn => by have := hn.2; have := HQ.out; unfold twoV at hj; omega)).pr HN.out k hlt
      obtain ⟨d0, d1, d2, d3⟩ := HP.out _ (List.mem_of_getElem? hp)
      obtain ⟨pa, pv⟩ := p
      simp only at a0 a1 d0 d1 d2 d3
      obtain ⟨q, hq⟩ : ∃ q : Nat, pa % 16 = q := ⟨(pa % 16).toNat, by omega⟩
      have hq16 : (q : Int) < 16 := by omega
      have hq0 : (0 : Int) ≤ q := by omega
      have hq16' : q < 16 := by omega
      have HSa := Lib.hid (HS.out.below (up_alloc wr (.cells #[.int .u8 pa, .int .u8 pv] 64)))
      have HXb := Lib.hid (Blk.new wr [.int .u8 pa, .int .u8 pv] 64)
      have hsz := HS.out.only.size
      have hz := HZ.out
      go_upto_region 10 with fail
      generalize hwb : wr.alloc (.cells #[.int .u8 pa, .int .u8 pv] 64) = wb at HSa
      rw [hwb] at HXb
      have hsb : wb.heap.size = wr.heap.size + 1 := by rw [← hwb]; simp
      obtain ⟨xb, hxb⟩ : ∃ xb, wr.heap.size = xb := ⟨_, rfl⟩
      rw [hxb] at HXb hsb hsz ⊢
      obtain ⟨g, hg⟩ : ∃ g, wb.heap.size = g := ⟨_, rfl⟩
      have hgw : w0.heap.size ≤ g := by omega
      have HV : Hid (CV w0 (wb.alloc (.cells (brC b).toArray 38)) s g b b (bC b.r.a.has)) := Lib.hid ⟨HSa.out.below (up_alloc wb (.cells (brC b).toArray 38)), hg ▸ Blk.new wb (brC b) 38, by omega⟩
      have HX := Lib.hid (HXb.out.up (up_alloc wb (.cells (brC b).toArray 38)) HXb.out.lt)
      have HGW := Lib.hid hgw
      clear hp hwb hsb hxb hsz hz HXb hgw a0 a1 hq HS
      have x1 := HX.out.cell 1 _ rfl
      go_upto_block 2 with (first | (refine ldr (b := s) (t := 38) (cs := brC b) (.tmp 5) rfl rfl Tryd.underlying38 rfl info_bar rfl ?_ ?_; (· exact HSa.out.bar)) | (refine snr (W := wb) (cs := brC b) (zs := brZ) (t := 38) (.tmp 12) (.tmp 50) rfl rfl rfl rfl info_bar rfl brC_one ?_ ?_ ?_; (· rfl); (· exact hg)))
      have hmod : 0 ≤ pv % 5 := by omega
      have hmod5 : pv % 5 < 5 := by omega
      generalize pv % 5 = x5 at hmod hmod5
      generalize wb.alloc (.cells (brC b).toArray 38) = wa at HV HX x1
      clear hg HSa
      have HX1 := Lib.hid x1
      clear x1
      go_cut [13] (fun s13 wx => ∃ (b1 : BR) (f : Int), s13 = .int .i64 f ∧ CV w0 wx s g b b1 (bC b1.r.a.has) ∧ Hid (brFine b1 = true ∧ b1.al = true ∧ b1.lim = lm ∧ b1.ph = fd ∧ (f ≠ 0 → b1 = b)))
      case first =>
        rcases (by omega : x5 = 0 ∨ x5 = 1 ∨ (2 ≤ x5)) with hx | hx | hx

        · cases hm : b.r.m.has q
          · have t0 : (x5 == 0) = true := by simp; omega
            clear hx hmod hmod5
            have CE := Lib.hid (fun W hW => t_enr0 HF.out.2.2.2 hq16' hm W hW)
            clear hm
            go_wp2_with (refine ldr (b := s) (t := 38) (cs := brC b) (.tmp 5) rfl rfl Tryd.underlying38 rfl info_bar rfl ?_ ?_; (· exact HV.out.ew.bar))
            refine (CE.out _ (HV.out.ew.tab HT.out HG.out)).mono ?_; rintro e w3 ⟨rfl, hb⟩
            have HVb := Lib.hid (HV.out.below hb)
            have HVc := Lib.hid (HVb.out.setC HGW.out (b.put (rEnr b.r q)))
            clear hb CE
            go_wp2_with (refine str (b := g) (t := 38) (cs := brC (b.put (rEnr b.r q))) (ds := brC b) (.tmp 12) (.tmp 74) rfl rfl rfl rfl info_bar rfl brC_one ?_ ?_; (· exact HVb.out.cv))
            go_meet
            case rel =>
              have h := HVc.out
              exact ⟨b.put (rEnr b.r q), 0, rfl, h, Lib.hid ⟨put_fine HF.out.2.2.2 (enr_fine ((brFine_iff b).1 HF.out.2.2.2).1 hq16'), HF.out.1, HF.out.2.1, HF.out.2.2.1, fun h => absurd rfl h⟩⟩
          · have t0 : (x5 == 0) = true := by simp; omega
            clear hx hmod hmod5
            have CE := Lib.hid (fun W hW => t_enr1 HF.out.2.2.2 hq16' hm W hW)
            clear hm
            go_wp2_with (refine ldr (b := s) (t := 38) (cs := brC b) (.tmp 5) rfl rfl Tryd.underlying38 rfl info_bar rfl ?_ ?_; (· exact HV.out.ew.bar))
            refine (CE.out _ (HV.out.ew.tab HT.out HG.out)).mono ?_; rintro e w3 ⟨rfl, hb⟩
            have HVb := Lib.hid (HV.out.below hb)
            have HVc := Lib.hid (HVb.out.setC HGW.out (b))
            clear hb CE
            go_wp2_with (refine str (b := g) (t := 38) (cs := brC (b)) (ds := brC b) (.tmp 12) (.tmp 74) rfl rfl rfl rfl info_bar rfl brC_one ?_ ?_; (· exact HVb.out.cv))
            go_meet
            case rel =>
              have h := HVc.out
              exact ⟨b, 7, rfl, h, Lib.hid ⟨HF.out.2.2.2, HF.out.1, HF.out.2.1, HF.out.2.2.1, fun _ => rfl⟩⟩
        · cases hm : b.r.m.has q
          · have t0 : (x5 == 0) = false := by simp; omega
            have t1 : (x5 == 1) = true := by simp; omega
            clear hx hmod hmod5
            have CE := Lib.hid (fun W hW => t_res1 HF.out.2.2.2 hq16' hm W hW)
            have GO := Lib.hid (a_out HF.out.2.2.2 hq16' hm)
            clear hm
            go_wp2_with (refine ldr (b := s) (t := 38) (cs := brC b) (.tmp 5) rfl rfl Tryd.underlying38 rfl info_bar rfl ?_ ?_; (· exact HV.out.ew.bar))
            refine (CE.out _ (HV.out.ew.tab HT.out HG.out)).mono ?_; rintro e w3 ⟨rfl, hb⟩
            have HVb := Lib.hid (HV.out.below hb)
            have HVc := Lib.hid (HVb.out.setC HGW.out (b))
            clear hb CE
            have cj := HVc.out.ew.arr.cell q _ (bC_get b.r.a.has q hq16')
            have fj := HVc.out.ew.arr.free q
            go_wp2_with (refine str (b := g) (t := 38) (cs := brC (b)) (ds := brC b) (.tmp 12) (.tmp 82) rfl rfl rfl rfl info_bar rfl brC_one ?_ ?_; (· exact HVb.out.cv))
            go_meet
            case rel =>
              have h := HVc.out.putT q (.bool false)
              rw [GO.out] at h
              exact ⟨b, 6, rfl, h, Lib.hid ⟨HF.out.2.2.2, HF.out.1, HF.out.2.1, HF.out.2.2.1, fun _ => rfl⟩⟩
          · have t0 : (x5 == 0) = false := by simp; omega
            have t1 : (x5 == 1) = true := by simp; omega
            clear hx hmod hmod5
            have CE := Lib.hid (fun W hW => t_res0 HF.out.2.2.2 hq16' hm W hW)
            clear hm
            go_wp2_with (refine ldr (b := s) (t := 38) (cs := brC b) (.tmp 5) rfl rfl Tryd.underlying38 rfl info_bar rfl ?_ ?_; (· exact HV.out.ew.bar))
            refine (CE.out _ (HV.out.ew.tab HT.out HG.out)).mono ?_; rintro e w3 ⟨rfl, hb⟩
            have HVb := Lib.hid (HV.out.below hb)
            have HVc := Lib.hid (HVb.out.setC HGW.out (b.put (rRes b.r q)))
            clear hb CE
            have cj := HVc.out.ew.arr.cell q _ (bC_get b.r.a.has q hq16')
            have fj := HVc.out.ew.arr.free q
            go_wp2_with (refine str (b := g) (t := 38) (cs := brC (b.put (rRes b.r q))) (ds := brC b) (.tmp 12) (.tmp 82) rfl rfl rfl rfl info_bar rfl brC_one ?_ ?_; (· exact HVb.out.cv))
            go_meet
            case rel =>
              have h := HVc.out.putT q (.bool false)
              rw [drop_set _ hq16'] at h
              exact ⟨b.put (rRes b.r q), 0, rfl, h, Lib.hid ⟨put_fine HF.out.2.2.2 (res_fine ((brFine_iff b).1 HF.out.2.2.2).1 q), HF.out.1, HF.out.2.1, HF.out.2.2.1, fun h => absurd rfl h⟩⟩
        · by_cases hl : b.ph = b.lim
          · have t0 : (x5 == 0) = false := by simp; omega
            have t1 : (x5 == 1) = false := by simp; omega
            clear hx hmod hmod5
            have CE := Lib.hid (fun alt W hW => t_off14 HF.out.2.2.2 HF.out.1 q hl alt W hW)
            clear hl
            have x1 := HX1.out
            go_wp2_with (refine ldr (b := s) (t := 38) (cs := brC b) (.tmp 5) rfl rfl Tryd.underlying38 rfl info_bar rfl ?_ ?_; (· exact HV.out.ew.bar))
            refine (CE.out _ _ (HV.out.ew.tab HT.out HG.out)).mono ?_; rintro e w3 ⟨rfl, hb⟩
            have HVb := Lib.hid (HV.out.below hb)
            have HVc := Lib.hid (HVb.out.setC HGW.out (b))
            clear hb CE x1
            go_wp2_with (refine str (b := g) (t := 38) (cs := brC (b)) (ds := brC b) (.tmp 12) (.tmp 62) rfl rfl rfl rfl info_bar rfl brC_one ?_ ?_; (· exact HVb.out.cv))
            go_meet
            case rel =>
              have h := HVc.out
              exact ⟨b, 14, rfl, h, Lib.hid ⟨HF.out.2.2.2, HF.out.1, HF.out.2.1, HF.out.2.2.1, fun _ => rfl⟩⟩
          · cases hm : b.r.m.has q
            · have t0 : (x5 == 0) = false := by simp; omega
              have t1 : (x5 == 1) = false := by simp; omega
              clear hx hmod hmod5
              have CE := Lib.hid (fun alt W hW => t_off6 HF.out.2.2.2 HF.out.1 hq16' hl hm alt W hW)
              clear hm hl
              have x1 := HX1.out
              go_wp2_with (refine ldr (b := s) (t := 38) (cs := brC b) (.tmp 5) rfl rfl Tryd.underlying38 rfl info_bar rfl ?_ ?_; (· exact HV.out.ew.bar))
              refine (CE.out _ _ (HV.out.ew.tab HT.out HG.out)).mono ?_; rintro e w3 ⟨rfl, hb⟩
              have HVb := Lib.hid (HV.out.below hb)
              have HVc := Lib.hid (HVb.out.setC HGW.out (b))
              clear hb CE x1
              go_wp2_with (refine str (b := g) (t := 38) (cs := brC (b)) (ds := brC b) (.tmp 12) (.tmp 62) rfl rfl rfl rfl info_bar rfl brC_one ?_ ?_; (· exact HVb.out.cv))
              go_meet
              case rel =>
                have h := HVc.out
                exact ⟨b, 6, rfl, h, Lib.hid ⟨HF.out.2.2.2, HF.out.1, HF.out.2.1, HF.out.2.2.1, fun _ => rfl⟩⟩
            · cases ha : b.r.a.has q
              · have t0 : (x5 == 0) = false := by simp; omega
                have t1 : (x5 == 1) = false := by simp; omega
                clear hx hmod hmod5
                have CE := Lib.hid (fun alt W hW => t_off0 HF.out.2.2.2 HF.out.1 hq16' hl hm ha alt W hW)
                have GO := Lib.hid (off_in HF.out.2.2.2 hq16' hm)
                clear hm ha hl
                have x1 := HX1.out
                go_wp2_with (refine ldr (b := s) (t := 38) (cs := brC b) (.tmp 5) rfl rfl Tryd.underlying38 rfl info_bar rfl ?_ ?_; (· exact HV.out.ew.bar))
                refine (CE.out _ _ (HV.out.ew.tab HT.out HG.out)).mono ?_; rintro e w3 ⟨rfl, hb⟩
                have HVb := Lib.hid (HV.out.below hb)
                have HVc := Lib.hid (HVb.out.setC HGW.out (b.put (rOff b.r q)))
                clear hb CE x1
                have cj := HVc.out.ew.arr.cell q _ (bC_get b.r.a.has q hq16')
                have fj := HVc.out.ew.arr.free q
                go_wp2_with (refine str (b := g) (t := 38) (cs := brC (b.put (rOff b.r q))) (ds := brC b) (.tmp 12) (.tmp 62) rfl rfl rfl rfl info_bar rfl brC_one ?_ ?_; (· exact HVb.out.cv))
                go_meet
                case rel =>
                  have h := HVc.out.putT q (.bool true)
                  rw [GO.out] at h
                  exact ⟨b.put (rOff b.r q), 0, rfl, h, Lib.hid ⟨put_fine HF.out.2.2.2 (off_fine ((brFine_iff b).1 HF.out.2.2.2).1 q), HF.out.1, HF.out.2.1, HF.out.2.2.1, fun h => absurd rfl h⟩⟩
              · have t0 : (x5 == 0) = false := by simp; omega
                have t1 : (x5 == 1) = false := by simp; omega
                clear hx hmod hmod5
                have CE := Lib.hid (fun alt W hW => t_off7 HF.out.2.2.2 HF.out.1 hq16' hl hm ha alt W hW)
                clear hm ha hl
                have x1 := HX1.out
                go_wp2_with (refine ldr (b := s) (t := 38) (cs := brC b) (.tmp 5) rfl rfl Tryd.underlying38 rfl info_bar rfl ?_ ?_; (· exact HV.out.ew.bar))
                refine (CE.out _ _ (HV.out.ew.tab HT.out HG.out)).mono ?_; rintro e w3 ⟨rfl, hb⟩
                have HVb := Lib.hid (HV.out.below hb)
                have HVc := Lib.hid (HVb.out.setC HGW.out (b))
                clear hb CE x1
                go_wp2_with (refine str (b := g) (t := 38) (cs := brC (b)) (ds := brC b) (.tmp 12) (.tmp 62) rfl rfl rfl rfl info_bar rfl brC_one ?_ ?_; (· exact HVb.out.cv))
                go_meet
                case rel =>
                  have h := HVc.out
                  exact ⟨b, 7, rfl, h, Lib.hid ⟨HF.out.2.2.2, HF.out.1, HF.out.2.1, HF.out.2.2.1, fun _ => rfl⟩⟩
      case rest =>
        obtain ⟨b1, f, rfl, hV1, HF1⟩ := hcut
        have HV1 := Lib.hid hV1
        clear hV1 HV HX HX1 HF
        have hz' : f = 0 ∨ f ≠ 0 := by by_cases hz : f = 0 <;> simp [hz]
        rcases hz' with hz | hz

        · subst hz
          have HS2 := Lib.hid (HV1.out.ew.setB b1)
          go_wp2_with (first | (refine ldr (b := g) (t := 38) (cs := brC b1) (.tmp 12) rfl rfl Tryd.underlying38 rfl info_bar rfl ?_ ?_; (· exact HV1.out.cv)) | (refine str (b := s) (t := 38) (cs := brC b1) (ds := brC b) (.tmp 5) (.tmp 93) rfl rfl rfl rfl info_bar rfl brC_one ?_ ?_; (· exact HV1.out.ew.bar)) | (refine ldr (b := s) (t := 38) (cs := brC b1) (.tmp 5) rfl rfl Tryd.underlying38 rfl info_bar rfl ?_ ?_; (· exact HS2.out.bar)))
          generalize wc.setRow s (brC b1).toArray = wd at HS2 ⊢
          cases hr : brReady b1
          case false =>
            have CU := Lib.hid (fun W hW => t_ready hr W hW)
            clear hr
            refine (CU.out _ (HS2.out.tab HT.out HG.out)).mono ?_; rintro e w5 ⟨rfl, hb⟩
            have HSk := Lib.hid (HS2.out.below hb)
            clear hb
            go_wp2_with fail
            go_roundw
            case rel => exact ⟨k + 1, b1, fd, by omega, by go_num, rfl, HSk.out, Lib.hid ⟨HF1.out.2.1, HF1.out.2.2.1, HF1.out.2.2.2.1, HF1.out.1⟩⟩
            case measure => simp [intOf]; omega
          case true =>
            have CU := Lib.hid (fun W hW => t_ready hr W hW)
            obtain ⟨nl, hnl⟩ : ∃ nl, b1.r.m.ints.length = nl := ⟨_, rfl⟩
            have CG := Lib.hid (fun W hW hl => t_fire (lo := w0.heap.size) hr hnl W hW hl)
            have CN := Lib.hid (fun W => t_len hnl W)
            have hpos : 0 < nl := hnl ▸ full_pos ((brFine_iff b1).1 (ready_parts hr).1).1 (ready_parts hr).2.1
            have hn256 : nl ≤ 256 := by
              have := len_le b1.r.m
              unfold S4.len at this
              omega
            have HSM := Lib.hid (full_same (ready_parts hr).2.1)
            have HGD := Lib.hid (gone_fine hr)
            have HNL := Lib.hid hnl
            obtain ⟨D, hD⟩ : ∃ D, brGone b1 = D := ⟨_, rfl⟩
            have HDF : Hid (D.al = true ∧ D.lim = lm ∧ D.ph = fd + 1 ∧ D.r = ⟨b1.r.m, S4.zero⟩ ∧ brFine D = true) := Lib.hid (by
              subst hD
              obtain ⟨h1, h2, h3, h4, _⟩ := HF1.out
              exact ⟨h2, h3, by rw [← h4]; rfl, rfl, HGD.out⟩)
            rw [hD] at CG
            have e1 : ((nl : Int) == 0) = false := by simp; omega
            have e2 : ((nl : Int) != (nl : Int)) = false := by simp
            clear hr hnl hD HGD
            refine (CU.out _ (HS2.out.tab HT.out HG.out)).mono ?_; rintro e w5 ⟨rfl, hb⟩
            have HSk := Lib.hid (HS2.out.below hb)
            clear hb
            go_wp2_with (refine ldr (b := s) (t := 38) (cs := brC b1) (.tmp 5) rfl rfl Tryd.underlying38 rfl info_bar rfl ?_ ?_; (· exact HSk.out.bar))
            refine (CG.out _ (HSk.out.tab HT.out HG.out) HSk.out.only.size).mono ?_; rintro e w6 ⟨A7, c7, rfl, hr7, hb⟩
            have hq := up_alloc w6 (.cells (brC D).toArray 38)
            have HSl := Lib.hid (HSk.out.below (up_trans hb hq))
            have K := Lib.hid (Blk.new w6 (brC D) 38)
            have HRl := Lib.hid (hr7.below hq)
            have hg6 : w0.heap.size ≤ w6.heap.size := Nat.le_trans HSk.out.only.size hb.size
            clear hb hq hr7 CU CG
            go_wp2_with (first | (refine snr (W := w6) (cs := brC D) (zs := brZ) (t := 38) (.tmp 14) (.tmp 100) rfl rfl rfl rfl info_bar rfl brC_one ?_ ?_ ?_; (· rfl); (· rfl)) | (refine lmr (b := s) (q := 2) (cs := S4.cs b1.r.m) (.tmp 114) rfl rfl Tryd.underlying34 rfl info_set rfl ?_ ?_; (· exact (HSl.out.bar).part 2 4 rfl)))
            refine (CN.out _).mono ?_; rintro e wl ⟨rfl, hb⟩
            have HSm := Lib.hid (HSl.out.below hb)
            have HRm := Lib.hid (HRl.out.below hb)
            have K2 := Lib.hid (K.out.up hb K.out.lt)
            generalize hbx : w6.heap.size = g2 at K2 hg6 ⊢
            have HG2 := Lib.hid hg6
            clear hbx hb K HSl HRl CN hg6
            go_wp2_with fail
            go_loopw [121] (fun i wq => ∃ j : Nat, j ≤ nl ∧ i = .int .i64 j ∧ Only (· = s + 1) wl wq ∧ Blk wq (s + 1) (bC (gN b1.r j)) 63) (fun i _ => nl - (intOf i).toNat)
            case atStart => exact ⟨0, Nat.zero_le _, rfl, Only.refl _ _, by rw [gN_zero]; exact HSm.out.arr⟩
            case round =>
              obtain ⟨j, hj, rfl, ho, ha⟩ := hrel
              have HO := Lib.hid ho
              have HA := Lib.hid ha
              clear ho ha
              by_cases hjl : j < nl
              · have hjl' : j < b1.r.m.ints.length := by rw [HNL.out]; exact hjl
                have hin := List.getElem_mem hjl'
                have hge := (rise_range b1.r.m.has _ hin).1
                have hle := (low_iff b1.r.m).1 (by have := ((brFine_iff b1).1 HF1.out.1).1; unfold rlFine at this; rw [Bool.and_eq_true] at this; exact this.1) _ hin
                change 0 ≤ b1.r.m.ints[j] at hge
                obtain ⟨p1, hp1⟩ : ∃ p1 : Nat, b1.r.m.ints[j] = (p1 : Int) := ⟨(b1.r.m.ints[j]).toNat, by omega⟩
                have hp16 : p1 < 16 := by omega
                have hp16' : (p1 : Int) ≤ 15 := by omega
                have hp0 : (0 : Int) ≤ p1 := by omega
                have CH := Lib.hid (fun W => t_has (s := b1.r.m) (q := p1) (by unfold hasL; rw [← hp1]; exact decide_eq_true hin) W)
                have HP1 := Lib.hid hp1
                obtain ⟨bA, oA, rfl, _, _, hc⟩ := (HRm.out.only HO.out (fun k hk hl => by have := HZ.out; omega)).at_ (by omega)
                have c0 := hc j (.int .i64 (p1 : Int)) (by rw [List.getElem?_map, List.getElem?_eq_getElem hjl', hp1]; rfl)
                have HGA := Lib.hid (show (bC (gN b1.r j))[p1]? = some (.bool true) by rw [bC_get _ p1 hp16, gN_at HSM.out hjl' hp1 hp16])
                have HGN := Lib.hid (gN_next hjl' hp1 hp16)
                have ca := HA.out.cell p1 _ HGA.out
                have HB := Lib.hid (HSm.out.bar.only HO.out (by omega))
                have m0 := HB.out.cell 2 _ rfl
                have m1 := HB.out.cell 3 _ rfl
                have m2 := HB.out.cell 4 _ rfl
                have m3 := HB.out.cell 5 _ rfl
                clear hc hin hge hle hp1
                go_wp2_with fail
                refine (CH.out _).mono ?_; rintro e w8 ⟨rfl, hb⟩
                have HA8 := Lib.hid (HA.out.up hb HA.out.lt)
                have HO8 := Lib.hid (HO.out.below_trans hb)
                clear hb ca m0 m1 m2 m3
                have ca := HA8.out.cell p1 _ HGA.out
                have fa := HA8.out.free p1
                go_wp2_with fail
                go_roundw
                case rel => exact ⟨j + 1, by omega, by go_num, HO8.out.put p1 _, by rw [← HGN.out]; exact HA8.out.set p1 _⟩
                case measure => simp [intOf]; omega
              · obtain rfl : j = nl := by omega
                have HSn : Hid (EW w0 wr s b1 (bC (gN b1.r j))) := Lib.hid ⟨HSm.out.only.trans (HO.out.mono fun k _ hk => .inr hk), HSm.out.bar.only HO.out (by omega), HA.out⟩
                have HSo := Lib.hid (HSn.out.setB D)
                have hg6 := HG2.out
                have K3 := Lib.hid (K2.out.only HO.out (by have := HZ.out; omega))
                have HEN : Hid (bC (gN b1.r j) = bC D.r.a.has) := Lib.hid (by
                  rw [← HNL.out, gN_end HSM.out, HDF.out.2.2.2.1])
                have hk1 : (k : Int) < n := by omega
                clear hg6
                go_wp2_with (first | (refine ldr (b := g2) (t := 38) (cs := brC D) (.tmp 14) rfl rfl Tryd.underlying38 rfl info_bar rfl ?_ ?_; (· exact K3.out)) | (refine str (b := s) (t := 38) (cs := brC D) (ds := brC b1) (.tmp 5) (.tmp 148) rfl rfl rfl rfl info_bar rfl brC_one ?_ ?_; (· exact HSn.out.bar)))
                go_roundw
                case rel => exact ⟨k + 1, D, fd + 1, by omega, by go_num, by go_num, by rw [← HEN.out]; exact HSo.out, Lib.hid ⟨HDF.out.1, HDF.out.2.1, HDF.out.2.2.1, HDF.out.2.2.2.2⟩⟩
                case measure => simp [intOf]; omega
        · have hb1 := HF1.out.2.2.2.2 hz
          subst hb1
          have hz1 : (f != 0) = true := by simp [hz]
          have hq : ∀ W, (Op.equalIn 10000 38 (.agg (brC b1).toArray) (.agg (brC b1).toArray)).run Tryd.prog W = .ok true W := fun W => by rw [run_eqB, brEq_refl]
          clear hz
          have HS2 := Lib.hid (HV1.out.ew.setB b1)
          go_wp2_with (first | (refine ldr (b := g) (t := 38) (cs := brC b1) (.tmp 12) rfl rfl Tryd.underlying38 rfl info_bar rfl ?_ ?_; (· exact HV1.out.cv)) | (refine ldr (b := s) (t := 38) (cs := brC b1) (.tmp 5) rfl rfl Tryd.underlying38 rfl info_bar rfl ?_ ?_; (· exact HV1.out.ew.bar)) | rw [hq] | (refine str (b := s) (t := 38) (cs := brC b1) (ds := brC b1) (.tmp 5) (.tmp 93) rfl rfl rfl rfl info_bar rfl brC_one ?_ ?_; (· exact HV1.out.ew.bar)) | (refine ldr (b := s) (t := 38) (cs := brC b1) (.tmp 5) rfl rfl Tryd.underlying38 rfl info_bar rfl ?_ ?_; (· exact HS2.out.bar)))
          clear hq hz1
          generalize wc.setRow s (brC b1).toArray = wd at HS2 ⊢
          cases hr : brReady b1
          case false =>
            have CU := Lib.hid (fun W hW => t_ready hr W hW)
            clear hr
            refine (CU.out _ (HS2.out.tab HT.out HG.out)).mono ?_; rintro e w5 ⟨rfl, hb⟩
            have HSk := Lib.hid (HS2.out.below hb)
            clear hb
            go_wp2_with fail
            go_roundw
            case rel => exact ⟨k + 1, b1, fd, by omega, by go_num, rfl, HSk.out, Lib.hid ⟨HF1.out.2.1, HF1.out.2.2.1, HF1.out.2.2.2.1, HF1.out.1⟩⟩
            case measure => simp [intOf]; omega
          case true =>
            have CU := Lib.hid (fun W hW => t_ready hr W hW)
            obtain ⟨nl, hnl⟩ : ∃ nl, b1.r.m.ints.length = nl := ⟨_, rfl⟩
            have CG := Lib.hid (fun W hW hl => t_fire (lo := w0.heap.size) hr hnl W hW hl)
            have CN := Lib.hid (fun W => t_len hnl W)
            have hpos : 0 < nl := hnl ▸ full_pos ((brFine_iff b1).1 (ready_parts hr).1).1 (ready_parts hr).2.1
            have hn256 : nl ≤ 256 := by
              have := len_le b1.r.m
              unfold S4.len at this
              omega
            have HSM := Lib.hid (full_same (ready_parts hr).2.1)
            have HGD := Lib.hid (gone_fine hr)
            have HNL := Lib.hid hnl
            obtain ⟨D, hD⟩ : ∃ D, brGone b1 = D := ⟨_, rfl⟩
            have HDF : Hid (D.al = true ∧ D.lim = lm ∧ D.ph = fd + 1 ∧ D.r = ⟨b1.r.m, S4.zero⟩ ∧ brFine D = true) := Lib.hid (by
              subst hD
              obtain ⟨h1, h2, h3, h4, _⟩ := HF1.out
              exact ⟨h2, h3, by rw [← h4]; rfl, rfl, HGD.out⟩)
            rw [hD] at CG
            have e1 : ((nl : Int) == 0) = false := by simp; omega
            have e2 : ((nl : Int) != (nl : Int)) = false := by simp
            clear hr hnl hD HGD
            refine (CU.out _ (HS2.out.tab HT.out HG.out)).mono ?_; rintro e w5 ⟨rfl, hb⟩
            have HSk := Lib.hid (HS2.out.below hb)
            clear hb
            go_wp2_with (refine ldr (b := s) (t := 38) (cs := brC b1) (.tmp 5) rfl rfl Tryd.underlying38 rfl info_bar rfl ?_ ?_; (· exact HSk.out.bar))
            refine (CG.out _ (HSk.out.tab HT.out HG.out) HSk.out.only.size).mono ?_; rintro e w6 ⟨A7, c7, rfl, hr7, hb⟩
            have hq := up_alloc w6 (.cells (brC D).toArray 38)
            have HSl := Lib.hid (HSk.out.below (up_trans hb hq))
            have K := Lib.hid (Blk.new w6 (brC D) 38)
            have HRl := Lib.hid (hr7.below hq)
            have hg6 : w0.heap.size ≤ w6.heap.size := Nat.le_trans HSk.out.only.size hb.size
            clear hb hq hr7 CU CG
            go_wp2_with (first | (refine snr (W := w6) (cs := brC D) (zs := brZ) (t := 38) (.tmp 14) (.tmp 100) rfl rfl rfl rfl info_bar rfl brC_one ?_ ?_ ?_; (· rfl); (· rfl)) | (refine lmr (b := s) (q := 2) (cs := S4.cs b1.r.m) (.tmp 114) rfl rfl Tryd.underlying34 rfl info_set rfl ?_ ?_; (· exact (HSl.out.bar).part 2 4 rfl)))
            refine (CN.out _).mono ?_; rintro e wl ⟨rfl, hb⟩
            have HSm := Lib.hid (HSl.out.below hb)
            have HRm := Lib.hid (HRl.out.below hb)
            have K2 := Lib.hid (K.out.up hb K.out.lt)
            generalize hbx : w6.heap.size = g2 at K2 hg6 ⊢
            have HG2 := Lib.hid hg6
            clear hbx hb K HSl HRl CN hg6
            go_wp2_with fail
            go_loopw [121] (fun i wq => ∃ j : Nat, j ≤ nl ∧ i = .int .i64 j ∧ Only (· = s + 1) wl wq ∧ Blk wq (s + 1) (bC (gN b1.r j)) 63) (fun i _ => nl - (intOf i).toNat)
            case atStart => exact ⟨0, Nat.zero_le _, rfl, Only.refl _ _, by rw [gN_zero]; exact HSm.out.arr⟩
            case round =>
              obtain ⟨j, hj, rfl, ho, ha⟩ := hrel
              have HO := Lib.hid ho
              have HA := Lib.hid ha
              clear ho ha
              by_cases hjl : j < nl
              · have hjl' : j < b1.r.m.ints.length := by rw [HNL.out]; exact hjl
                have hin := List.getElem_mem hjl'
                have hge := (rise_range b1.r.m.has _ hin).1
                have hle := (low_iff b1.r.m).1 (by have := ((brFine_iff b1).1 HF1.out.1).1; unfold rlFine at this; rw [Bool.and_eq_true] at this; exact this.1) _ hin
                change 0 ≤ b1.r.m.ints[j] at hge
                obtain ⟨p1, hp1⟩ : ∃ p1 : Nat, b1.r.m.ints[j] = (p1 : Int) := ⟨(b1.r.m.ints[j]).toNat, by omega⟩
                have hp16 : p1 < 16 := by omega
                have hp16' : (p1 : Int) ≤ 15 := by omega
                have hp0 : (0 : Int) ≤ p1 := by omega
                have CH := Lib.hid (fun W => t_has (s := b1.r.m) (q := p1) (by unfold hasL; rw [← hp1]; exact decide_eq_true hin) W)
                have HP1 := Lib.hid hp1
                obtain ⟨bA, oA, rfl, _, _, hc⟩ := (HRm.out.only HO.out (fun k hk hl => by have := HZ.out; omega)).at_ (by omega)
                have c0 := hc j (.int .i64 (p1 : Int)) (by rw [List.getElem?_map, List.getElem?_eq_getElem hjl', hp1]; rfl)
                have HGA := Lib.hid (show (bC (gN b1.r j))[p1]? = some (.bool true) by rw [bC_get _ p1 hp16, gN_at HSM.out hjl' hp1 hp16])
                have HGN := Lib.hid (gN_next hjl' hp1 hp16)
                have ca := HA.out.cell p1 _ HGA.out
                have HB := Lib.hid (HSm.out.bar.only HO.out (by omega))
                have m0 := HB.out.cell 2 _ rfl
                have m1 := HB.out.cell 3 _ rfl
                have m2 := HB.out.cell 4 _ rfl
                have m3 := HB.out.cell 5 _ rfl
                clear hc hin hge hle hp1
                go_wp2_with fail
                refine (CH.out _).mono ?_; rintro e w8 ⟨rfl, hb⟩
                have HA8 := Lib.hid (HA.out.up hb HA.out.lt)
                have HO8 := Lib.hid (HO.out.below_trans hb)
                clear hb ca m0 m1 m2 m3
                have ca := HA8.out.cell p1 _ HGA.out
                have fa := HA8.out.free p1
                go_wp2_with fail
                go_roundw
                case rel => exact ⟨j + 1, by omega, by go_num, HO8.out.put p1 _, by rw [← HGN.out]; exact HA8.out.set p1 _⟩
                case measure => simp [intOf]; omega
              · obtain rfl : j = nl := by omega
                have HSn : Hid (EW w0 wr s b1 (bC (gN b1.r j))) := Lib.hid ⟨HSm.out.only.trans (HO.out.mono fun k _ hk => .inr hk), HSm.out.bar.only HO.out (by omega), HA.out⟩
                have HSo := Lib.hid (HSn.out.setB D)
                have hg6 := HG2.out
                have K3 := Lib.hid (K2.out.only HO.out (by have := HZ.out; omega))
                have HEN : Hid (bC (gN b1.r j) = bC D.r.a.has) := Lib.hid (by
                  rw [← HNL.out, gN_end HSM.out, HDF.out.2.2.2.1])
                have hk1 : (k : Int) < n := by omega
                clear hg6
                go_wp2_with (first | (refine ldr (b := g2) (t := 38) (cs := brC D) (.tmp 14) rfl rfl Tryd.underlying38 rfl info_bar rfl ?_ ?_; (· exact K3.out)) | (refine str (b := s) (t := 38) (cs := brC D) (ds := brC b1) (.tmp 5) (.tmp 148) rfl rfl rfl rfl info_bar rfl brC_one ?_ ?_; (· exact HSn.out.bar)))
                go_roundw
                case rel => exact ⟨k + 1, D, fd + 1, by omega, by go_num, by go_num, by rw [← HEN.out]; exact HSo.out, Lib.hid ⟨HDF.out.1, HDF.out.2.1, HDF.out.2.2.1, HDF.out.2.2.2.2⟩⟩
                case measure => simp [intOf]; omega
    · obtain rfl : k = n := by omega
      have ph : wr.cell? ⟨s, 10, none⟩ = some (.int .i64 fd) := by rw [← HF.out.2.2.1]; exact HS.out.bar.br.ph
      have lim : wr.cell? ⟨s, 1, none⟩ = some (.int .i64 lm) := by rw [← HF.out.2.1]; exact HS.out.bar.br.lim
      have e0 : (fd == fd) = true := beq_self_eq_true _
      have CF := Lib.hid (fun W hW => t_fineB HF.out.2.2.2 W hW)
      go_wp2_with (refine ldr (b := s) (t := 38) (cs := brC b) (.tmp 5) rfl rfl Tryd.underlying38 rfl info_bar rfl ?_ ?_; (· exact HS.out.bar))
      refine (CF.out _ (HS.out.tab HT.out HG.out)).mono ?_; rintro e w3 ⟨rfl, hb⟩
      have HSb := Lib.hid (HS.out.below hb)
      clear hb
      go_wp2_with fail
      refine (c_alive22 _ (HSb.out.tab HT.out HG.out)).mono ?_; rintro e w4 ⟨rfl, hb⟩
      go_wp2
      go_ret
      exact ⟨rfl, HU.out.trans ((HSb.out.below hb).only.toBelow HU.out.size (fun k hk => by have := HQ.out; unfold twoV at hk; omega))⟩
end Go.Proofs.YtibhaiciameklaaDoor

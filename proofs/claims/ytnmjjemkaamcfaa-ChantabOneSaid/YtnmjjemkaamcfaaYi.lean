/- Package chantab: Offer. -/
import Derived.Test.YtnmjjemkaamcfaaYh
import Derived.Test.YtnmjjemkaamcfaaYg
namespace Go.Proofs.Ytnmjjemkaamcfaa
open Go.RowKit

/-- What Offer answers. -/
def OfPost (w : World) (A : Option Addr) (n c : Nat) (L : List CQ) (b : Nat) (r : List CP × Nat × Int) (e : Ending) (w' : World) : Prop :=
  ∃ A' c' L', e = .returned (.tuple #[.slice A' n c', .int .i64 (r.2.1 : Nat), .int .i64 r.2.2]) ∧ TbW w' tt A' n c' L' ∧ (r.2.2 = 0 → L'.map Prod.fst = r.1) ∧ (r.2.2 ≠ 0 → A' = A ∧ c' = c ∧ L' = L) ∧ fewL b L' ∧ Below w.heap.size w w'

set_option maxRecDepth 100000 in
set_option maxHeartbeats 4000000 in
theorem c_offer {w : World} {pl pl' : Nat → Prop} {A B : Option Addr} {n c m d : Nat} {L : List CQ} {gs : List GD} (h : TbW w pl A n c L) (hR : RD w pl' 5 B m (gs.flatMap gdC)) (hl : gs.length = m) {b : Nat} (hf : fewL b L) (hb : b + m ≤ 1000) (hn : n ≤ 1000) (p : Int) (al : Bool) :
    Calls Try.prog 24 #[.slice A n c, .int .i64 p, .slice B m d, .bool al] w (OfPost w A n c L (b + m) (offRun p al (L.map Prod.fst) 0 gs)) := by
  have CC := Lib.hid (c_tclone h (by omega))
  have HT := Lib.hid (h.lo (pl' := tt) (fun _ _ => trivial))
  have HR := Lib.hid hR
  have HL := Lib.hid hl
  have HF := Lib.hid hf
  obtain ⟨r, hr⟩ : ∃ r, offRun p al (L.map Prod.fst) 0 gs = r := ⟨_, rfl⟩
  have HRR := Lib.hid hr
  rw [hr]
  clear h hR hl hf hr
  go_enter Try.func24, Try.ntmps24
  go_wp2_with fail
  refine CC.out.mono ?_; rintro e w1 ⟨v1, rfl, ho1, hb1⟩
  obtain ⟨A1, c1, hv1, _⟩ := own_slice ho1.own
  subst hv1
  have HO := Lib.hid ho1
  have HB := Lib.hid hb1
  clear ho1 hb1
  go_wp2_with fail
  go_loopw [19] (fun i wr => ∃ k : Nat, k ≤ m ∧ i = .int .i64 k ∧ ∃ L1, OwT wr 73 w.heap.size (.slice A1 n c1) n L1 ∧ offRun p al (L1.map Prod.fst) k (gs.drop k) = r ∧ fewL (b + k) L1 ∧ Below w.heap.size w wr) (fun i _ => m - (intOf i).toNat)
  case atStart => exact ⟨0, Nat.zero_le _, rfl, L, HO.out, HRR.out, HF.out, HB.out⟩
  case round =>
    obtain ⟨k, hk, rfl, L1, ho, hrun, hfew, hbw⟩ := hrel
    by_cases hlt : k < m
    · have hkl : k < gs.length := by rw [HL.out]; exact hlt
      obtain ⟨b0, o0, rfl, _, hbl, hrg⟩ := RD.row gdC_len (HR.out.below hbw) (List.getElem?_eq_getElem hkl) hlt
      rw [List.drop_eq_getElem_cons hkl] at hrun
      generalize gs[k] = g at hrg hrun
      have HRG := Lib.hid hrg
      have HB1 := Lib.hid hbw
      have HFW := Lib.hid hfew
      have HRN := Lib.hid hrun
      have hoA := ho.below (up_alloc wr (.cells (gdC g).toArray 80))
      have HOA := Lib.hid hoA
      have hbx := Blk.new wr (gdC g) 80
      have HBX := Lib.hid hbx
      have c0 := hbx.gk
      have HU := Lib.hid (up_trans hbw (up_alloc wr (.cells (gdC g).toArray 80)))
      clear hkl hbl hrg hrun ho hfew hbw hbx
      cases hg : gdOff g
      · have CW := Lib.hid (c_wait hoA HFW.out (by omega) p al g)
        obtain ⟨x, hx⟩ : ∃ x, gdE (L1.map Prod.fst) p al g = x := ⟨_, rfl⟩
        have HX := Lib.hid hx
        have HG := Lib.hid hg
        have hgg : ((g.k != 1) && (g.k != 2)) = false := hg
        by_cases h0 : x = 0
        · subst h0
          have HN0 : Hid (offRun p al (gdL (L1.map Prod.fst) p al g) (k + 1) (gs.drop (k + 1)) = r) := Lib.hid (by rw [← HRN.out, offRun_step HG.out HX.out])
          clear hx hg hoA
          cases h1 : (g.k != 1) <;> cases h2 : (g.k != 2)
          case true.true => rw [h1, h2] at hgg; cases hgg
          all_goals
            clear hgg
            go_wp2_with (first | (refine lm_row' (cs := gdC g) (.tmp 22) rfl rfl Try.underlying80 rfl info_gd rfl ?_ ?_; (· exact HRG.out)) | (refine sn_row' (t := 80) (W := wr) (cs := gdC g) (zs := [.int .i64 0, .int .i64 0, .int .i64 0, .int .i64 0, .int .i64 0]) (.tmp 13) (.tmp 23) rfl rfl rfl rfl info_gd rfl (gdC_one g) ?_ ?_ ?_; (· rfl); (· rfl)) | (refine ld_row' (cs := gdC g) (t := 80) (.tmp 13) rfl rfl Try.underlying80 rfl info_gd rfl ?_ ?_; (· exact HBX.out)))
            refine CW.out.mono ?_; rintro e w2 ⟨L2, rfl, ho2, hm2, hf2, hon⟩
            rw [HX.out]
            have HO2 := Lib.hid ho2
            have HM2 := Lib.hid hm2
            have HF2 := Lib.hid hf2
            have HON := Lib.hid hon
            clear ho2 hm2 hf2 hon
            go_wp2_with fail
            go_roundw
            case rel => exact ⟨k + 1, by omega, by go_num, L2, HO2.out, by rw [HM2.out]; exact HN0.out, HF2.out, Only.later HU.out HON.out (fun i hi => (HOA.out.own.lt i hi).1)⟩
            case measure => simp [intOf]; omega
        · have hx1 : (x != 0) = true := by simp [bne, h0]
          have HNR : Hid (r = (L1.map Prod.fst, k, x)) := Lib.hid (by rw [← HRN.out, offRun_stop HG.out (by rw [HX.out]; exact h0), HX.out])
          have H0 := Lib.hid h0
          clear hx hg hoA h0
          cases h1 : (g.k != 1) <;> cases h2 : (g.k != 2)
          case true.true => rw [h1, h2] at hgg; cases hgg
          all_goals
            clear hgg
            go_wp2_with (first | (refine lm_row' (cs := gdC g) (.tmp 22) rfl rfl Try.underlying80 rfl info_gd rfl ?_ ?_; (· exact HRG.out)) | (refine sn_row' (t := 80) (W := wr) (cs := gdC g) (zs := [.int .i64 0, .int .i64 0, .int .i64 0, .int .i64 0, .int .i64 0]) (.tmp 13) (.tmp 23) rfl rfl rfl rfl info_gd rfl (gdC_one g) ?_ ?_ ?_; (· rfl); (· rfl)) | (refine ld_row' (cs := gdC g) (t := 80) (.tmp 13) rfl rfl Try.underlying80 rfl info_gd rfl ?_ ?_; (· exact HBX.out)))
            refine CW.out.mono ?_; rintro e w2 ⟨L2, rfl, ho2, hm2, hf2, hon⟩
            rw [HX.out]
            have HON := Lib.hid hon
            clear ho2 hm2 hf2 hon
            go_wp2_with fail
            go_ret3
            have hU := Only.later HU.out HON.out (fun i hi => (HOA.out.own.lt i hi).1)
            exact ⟨A, c, L, by rw [HNR.out]; rfl, HT.out.below hU, fun e => absurd (by rw [HNR.out] at e; exact e) H0.out, fun _ => ⟨rfl, rfl, rfl⟩, HF.out.mono (by omega), hU⟩
      · have HN0 : Hid (offRun p al (L1.map Prod.fst) (k + 1) (gs.drop (k + 1)) = r) := Lib.hid (by rw [← HRN.out, offRun_skip hg])
        have hgg : ((g.k != 1) && (g.k != 2)) = true := hg
        rw [Bool.and_eq_true] at hgg
        obtain ⟨h1, h2⟩ := hgg
        clear hg hoA
        go_wp2_with (first | (refine lm_row' (cs := gdC g) (.tmp 22) rfl rfl Try.underlying80 rfl info_gd rfl ?_ ?_; (· exact HRG.out)) | (refine sn_row' (t := 80) (W := wr) (cs := gdC g) (zs := [.int .i64 0, .int .i64 0, .int .i64 0, .int .i64 0, .int .i64 0]) (.tmp 13) (.tmp 23) rfl rfl rfl rfl info_gd rfl (gdC_one g) ?_ ?_ ?_; (· rfl); (· rfl)))
        go_roundw
        case rel => exact ⟨k + 1, by omega, by go_num, L1, HOA.out, HN0.out, HFW.out.mono (by omega), HU.out⟩
        case measure => simp [intOf]; omega
    · obtain rfl : k = m := by omega
      have HO1 := Lib.hid ho
      have HRN : Hid (r = (L1.map Prod.fst, 0, 0)) := Lib.hid (by rw [← hrun, List.drop_of_length_le (by rw [HL.out]; exact Nat.le_refl _)]; rfl)
      have HFW := Lib.hid hfew
      have HB1 := Lib.hid hbw
      clear ho hrun hfew hbw
      go_wp2
      go_ret3
      obtain ⟨A', c', e', htb⟩ := HO1.out.tb
      injection e' with e1 e2 e3
      subst e1 e3
      exact ⟨_, _, L1, by rw [HRN.out]; rfl, htb.lo (fun _ _ => trivial), fun _ => by rw [HRN.out], fun e => absurd (by rw [HRN.out]) e, HFW.out, HB1.out⟩
end Go.Proofs.Ytnmjjemkaamcfaa

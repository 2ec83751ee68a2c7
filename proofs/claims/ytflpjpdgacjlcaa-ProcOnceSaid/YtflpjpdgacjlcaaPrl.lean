/- Package proc: places, In, Handles. -/
import Derived.Test.YtflpjpdgacjlcaaPrh
import Derived.Test.YtflpjpdgacjlcaaP1
import Derived.LoopTactic
namespace Go.Proofs.Ytflpjpdgacjlcaa
open Go.RowKit

/-- Numbers in a row of the call's own. -/
def OwnInts (w : World) (zs : List Int) (e : Ending) (w' : World) : Prop := ∃ v, e = .returned v ∧ w'.ownsRow w.heap.size 3 1 v zs.length (zs.map (Value.int .i64)) ∧ Below w.heap.size w w'
def plsF (p : PR → Bool) (L : List PR) : List Int := if fineT L = true then plsT p L 16 else []
theorem plsT_no {p : PR → Bool} {L : List PR} {k : Nat} (h : ((getP L (k : Nat)).live && p (getP L (k : Nat))) = false) : plsT p L (k + 1) = plsT p L k := by
  rw [plsT_next, h]
  simp
theorem plsT_yes {p : PR → Bool} {L : List PR} {k : Nat} (h : ((getP L (k : Nat)).live && p (getP L (k : Nat))) = true) : plsT p L (k + 1) = plsT p L k ++ [(k : Int)] := by
  rw [plsT_next, h]
  simp

set_option maxRecDepth 100000 in
set_option maxHeartbeats 4000000 in
theorem c_prplaces {p : PR → Bool} {w : World} {pl : Nat → Prop} {A : Option Addr} {n c : Nat} {L : List PR} (hR : TW prK w pl A n L) {F : FuncId} {cs : List Value} (hF : (F = 41 ∧ ∃ c1, cs = [c1]) ∨ (F = 42 ∧ cs = [])) (hS : PSays p w F cs) :
    Calls Try.prog 40 #[.slice A n c, .func (.func F) #[] cs.toArray] w (OwnInts w (plsF p L)) := by
  have CF := c_prfine (c := c) hR
  have HR := Lib.hid hR
  have HS := Lib.hid hS
  cases hf : fineT L
  · have HE : Hid (plsF p L = []) := Lib.hid (if_neg (by rw [hf]; decide))
    rw [hf] at CF
    have CF := Lib.hid CF
    clear hS hR hf HS
    go_enter Try.func40, Try.ntmps40
    go_wp2_with fail
    refine CF.out.mono ?_; rintro e w2 ⟨rfl, hb2⟩
    go_wp2
    go_ret
    exact ⟨_, rfl, by rw [HE.out]; exact World.ownsRow_nil _ _ _ _, hb2⟩
  have HE : Hid (plsF p L = plsT p L n) := Lib.hid (by rw [show n = 16 by have := fineT_len hf; have := hR.len; omega]; exact if_pos hf)
  have HN : Hid (n ≤ 1000) := Lib.hid (by have := fineT_len hf; have := hR.len; omega)
  rw [hf] at CF
  have CF := Lib.hid CF
  clear hS hR hf
  rcases hF with ⟨rfl, c1, rfl⟩ | ⟨rfl, rfl⟩
  all_goals
    go_enter Try.func40, Try.ntmps40
    go_wp2_with fail
    refine CF.out.mono ?_; rintro e w2 ⟨rfl, hb2⟩
    have HB2 := Lib.hid hb2
    clear hb2
    go_wp2_with fail
    go_loopw [5, 13] (fun v i wr => ∃ k : Nat, k ≤ n ∧ i = .int .i64 k ∧ wr.ownsRow w.heap.size 3 1 v (plsT p L k).length ((plsT p L k).map (Value.int .i64)) ∧ Below w.heap.size w wr) (fun _ i _ => n - (intOf i).toNat)
    case atStart => exact ⟨0, Nat.zero_le _, rfl, World.ownsRow_nil _ _ _ _, HB2.out⟩
    case round =>
      obtain ⟨k, hk, rfl, hown, hbw⟩ := hrel
      have hn9 := HN.out
      have HB := Lib.hid hbw
      by_cases hlt : k < n
      · obtain ⟨b, o, q, rfl, hbl, hq, hrg, _⟩ := pr_at (HR.out.below hbw) k hlt
        have HRG := Lib.hid hrg
        have HX := Lib.hid (px wr q 69)
        obtain ⟨lv, hlv⟩ : ∃ r, q.live = r := ⟨_, rfl⟩
        have d1 := (px wr q 69).c1
        rw [hlv] at d1
        have HG := Lib.hid (getP_of hq)
        have HLV := Lib.hid hlv
        have HO := Lib.hid (own_below hown (up_alloc wr (.cells (prC q).toArray 69)))
        have HLN := Lib.hid (plsT_len p L k)
        clear hbl hq hrg hbw hlv hown
        cases lv
        · have HNX : Hid (plsT p L (k + 1) = plsT p L k) := Lib.hid (plsT_no (by rw [HG.out, HLV.out]; rfl))
          go_upto_region 7 with (first | (refine lmr (b := b) (q := o + k * 42) (cs := prC q) (.tmp 16) rfl rfl Try.underlying69 rfl (info_p q) rfl ?_ ?_; (· exact HRG.out)) | (refine snr (t := 69) (W := wr) (cs := prC q) (zs := prC (PR.nil 0)) (.tmp 7) (.tmp 17) rfl rfl rfl rfl (info_p q) (by rw [prC_len, prC_len]) (prC_one q) ?_ ?_ ?_; (· rfl); (· rfl)))
          go_wp2
          go_roundw
          case rel => exact ⟨k + 1, by omega, by go_num, by rw [HNX.out]; exact HO.out, up_trans HB.out HX.out.up⟩
          case measure => simp [intOf]; omega
        · have C := HS.out q (wr.alloc (.cells (prC q).toArray 69)) (up_trans HB.out HX.out.up)
          obtain ⟨x, hx⟩ : ∃ x, p q = x := ⟨_, rfl⟩
          rw [hx] at C
          have HPX := Lib.hid hx
          have CC := Lib.hid C
          clear hx C
          cases x
          · have HNX : Hid (plsT p L (k + 1) = plsT p L k) := Lib.hid (plsT_no (by rw [HG.out, HLV.out, HPX.out]; rfl))
            go_upto_region 7 with (first | (refine lmr (b := b) (q := o + k * 42) (cs := prC q) (.tmp 16) rfl rfl Try.underlying69 rfl (info_p q) rfl ?_ ?_; (· exact HRG.out)) | (refine snr (t := 69) (W := wr) (cs := prC q) (zs := prC (PR.nil 0)) (.tmp 7) (.tmp 17) rfl rfl rfl rfl (info_p q) (by rw [prC_len, prC_len]) (prC_one q) ?_ ?_ ?_; (· rfl); (· rfl)))
            go_wp2_with (refine ldr (b := wr.heap.size) (t := 69) (cs := prC q) (.tmp 7) rfl rfl Try.underlying69 rfl (info_p q) rfl ?_ ?_; (· exact HX.out.box))
            refine CC.out.mono ?_; rintro e w3 ⟨rfl, hb3⟩
            have HB3 := Lib.hid hb3
            clear hb3
            go_wp2
            go_roundw
            case rel => exact ⟨k + 1, by omega, by go_num, by rw [HNX.out]; exact own_below HO.out HB3.out, up_trans (up_trans HB.out HX.out.up) HB3.out⟩
            case measure => simp [intOf]; omega
          · have HNX : Hid (plsT p L (k + 1) = plsT p L k ++ [(k : Int)]) := Lib.hid (plsT_yes (by rw [HG.out, HLV.out, HPX.out]; rfl))
            go_upto_region 7 with (first | (refine lmr (b := b) (q := o + k * 42) (cs := prC q) (.tmp 16) rfl rfl Try.underlying69 rfl (info_p q) rfl ?_ ?_; (· exact HRG.out)) | (refine snr (t := 69) (W := wr) (cs := prC q) (zs := prC (PR.nil 0)) (.tmp 7) (.tmp 17) rfl rfl rfl rfl (info_p q) (by rw [prC_len, prC_len]) (prC_one q) ?_ ?_ ?_; (· rfl); (· rfl)))
            go_wp2_with (refine ldr (b := wr.heap.size) (t := 69) (cs := prC q) (.tmp 7) rfl rfl Try.underlying69 rfl (info_p q) rfl ?_ ?_; (· exact HX.out.box))
            refine CC.out.mono ?_; rintro e w3 ⟨rfl, hb3⟩
            have HB3 := Lib.hid hb3
            have HUP := Lib.hid (up_trans (up_trans HB.out HX.out.up) hb3)
            have hsz := HUP.out.size
            have hlk := HLN.out
            have HO3 := Lib.hid (own_below HO.out hb3)
            clear hb3
            go_wp2_with (at_builtin; refine wpList_app ei_int rfl (.tmp 25) (.tmp 27) rfl _ _ rfl (HO3.out.alloc _) rfl (RD.one (by simp)) (by simp [Value.oneCell']) (by omega) (by simp; omega) ?_; intro v' w5 hown1 hb1)
            go_roundw
            case rel => exact ⟨k + 1, by omega, by go_num, by rw [HNX.out, List.map_append, List.length_append]; exact hown1, (up_trans HUP.out (up_alloc _ _)).trans hb1⟩
            case measure => simp [intOf]; omega
      · obtain rfl : k = n := by omega
        have HO := Lib.hid hown
        clear hown hbw
        go_wp2
        go_ret
        exact ⟨_, rfl, by rw [HE.out]; exact HO.out, HB.out⟩

set_option maxHeartbeats 1000000 in
theorem c_prin {w : World} {pl : Nat → Prop} {A : Option Addr} {n c : Nat} {L : List PR} (hR : TW prK w pl A n L) (m : Int) :
    Calls Try.prog 16 #[.slice A n c, .int .i64 m] w (IntsPost w (inT L m)) := by
  have HU := Lib.hid (up_alloc w (.cells #[.int .i64 m] 3))
  have C := Lib.hid (c_prplaces (c := c) (hR.below HU.out) (.inl ⟨rfl, _, rfl⟩) (ps_mode (t := 3) (Blk.new w [.int .i64 m] 3)))
  have HE := Lib.hid (show plsF (fun q => q.mode == m) L = inT L m from rfl)
  clear hR
  go_enter Try.func16, Try.ntmps16
  go_wp2_with fail
  refine C.out.mono ?_
  rintro e w2 ⟨v, rfl, hown, hb⟩
  have HO := Lib.hid hown
  have HB := Lib.hid hb
  clear hown hb
  go_wp2
  go_ret
  rw [← HE.out]
  exact IntsPost.of' HO.out HU.out.size (up_trans HU.out HB.out)
end Go.Proofs.Ytflpjpdgacjlcaa

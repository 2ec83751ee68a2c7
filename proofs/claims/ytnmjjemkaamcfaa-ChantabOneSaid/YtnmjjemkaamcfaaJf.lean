/- Package channel: Hit, What. -/
import Derived.Test.YtnmjjemkaamcfaaJe
import Derived.Test.YtnmjjemkaamcfaaLe
import Derived.LoopTactic
namespace Go.Proofs.Ytnmjjemkaamcfaa
open Go.RowKit

set_option maxHeartbeats 4000000 in
theorem c_chhit {w : World} {pl : Nat → Prop} {C : CP} {M : SM} (h : ChW w pl C M) (hn : ChFew M) (p : Int) :
    Calls Try.prog 44 #[.agg (chC C M).toArray, .int .i64 p] w fun e w' => e = .returned (.bool (chHit C p)) ∧ Below w.heap.size w w' := by
  have hX := bx1_ch w C M
  generalize hw1 : w.alloc (.cells (chC C M).toArray 73) = w1 at hX
  have HW := Lib.hid hw1
  have HX := Lib.hid hX
  have CF := Lib.hid (fun W (hW : Below w.heap.size w W) => c_chfine (h.below hW) hn)
  have CA := Lib.hid (fun W (hW : Below w.heap.size w W) => c_lnahead (h.w_.below hW) (by have := hn.w_; omega) C.os p)
  have CB := Lib.hid (fun W (hW : Below w.heap.size w W) => c_lnahead (h.g.below hW) (by have := hn.g; omega) C.is p)
  have CO := Lib.hid (fun W => c_chout W C M)
  have CI := Lib.hid (fun W => c_chin W C M)
  have HE := Lib.hid (show chHit C p = (chFine C && ((decide (p ∈ C.W) && chOut C) || (decide (p ∈ C.G) && chIn C))) from rfl)
  have HA1 : Hid (chFine C = true → lnThere C.os C.W p = decide (p ∈ C.W)) := Lib.hid fun e => by unfold lnThere; rw [(chOk e).lw]; rfl
  have HA2 : Hid (chFine C = true → lnThere C.is C.G p = decide (p ∈ C.G)) := Lib.hid fun e => by unfold lnThere; rw [(chOk e).lg]; rfl
  generalize chHit C p = q at HE ⊢
  generalize chFine C = qf at CF HE HA1 HA2
  generalize chOut C = qo at CO HE
  generalize chIn C = qi at CI HE
  generalize lnThere C.os C.W p = t1 at CA HA1
  generalize lnThere C.is C.G p = t2 at CB HA2
  generalize lnAhead C.os C.W p = a1 at CA
  generalize lnAhead C.is C.G p = a2 at CB
  clear h hn hX hw1
  cases qf
  · go_enter Try.func44, Try.ntmps44
    go_upto_region 1 with fail
    rw [HW.out]
    go_wp2_with (refine ld_row HX.out.box rfl (.tmp 2) rfl rfl Try.underlying73 rfl info_ch ?_)
    refine (CF.out _ HX.out.up).mono ?_; rintro e w2 ⟨rfl, hb2⟩
    have HU := Lib.hid (up_trans HX.out.up hb2)
    clear hb2
    go_wp2
    go_ret
    exact ⟨ret_bool HE.out.symm, HU.out⟩
  have HE2 : Hid (q = ((t1 && qo) || (t2 && qi))) := Lib.hid (by rw [HE.out, HA1.out rfl, HA2.out rfl]; rfl)
  clear HE HA1 HA2
  cases t1 <;> cases t2 <;> cases qo
  all_goals
    go_enter Try.func44, Try.ntmps44
    go_upto_region 1 with fail
    rw [HW.out]
    go_wp2_with (refine ld_row HX.out.box rfl (.tmp 2) rfl rfl Try.underlying73 rfl info_ch ?_)
    refine (CF.out _ HX.out.up).mono ?_; rintro e w2 ⟨rfl, hb2⟩
    have HA := Lib.hid (HX.out.next hb2)
    have c6 := HA.out.box.cos
    have c7 := HA.out.box.cW
    clear hb2
    go_wp2_with fail
    refine (CA.out _ HA.out.up).mono ?_; rintro e w3 ⟨rfl, hb3⟩
    have HB := Lib.hid (HA.out.next hb3)
    clear hb3 c6 c7
    have c9 := HB.out.box.cis
    have c10 := HB.out.box.cG
    go_wp2_with fail
    refine (CB.out _ HB.out.up).mono ?_; rintro e w4 ⟨rfl, hb4⟩
    have HC := Lib.hid (HB.out.next hb4)
    have HU := Lib.hid HC.out.up
    clear hb4 c9 c10
    go_wp2_with (first
      | (refine lw_row HC.out.box (.tmp 2) rfl rfl Try.underlying73 rfl info_ch rfl ?_)
      | (go_at_call 67; refine (CO.out _).mono ?_; rintro e w5 ⟨rfl, hb5⟩; have HC' := Lib.hid (HC.out.next hb5); clear HC; have HC := HC'; clear HC'; clear HU; have HU := Lib.hid HC.out.up; clear hb5)
      | (go_at_call 68; refine (CI.out _).mono ?_; rintro e w6 ⟨rfl, hb6⟩; have HU' := Lib.hid (up_trans HU.out hb6); clear HU; have HU := HU'; clear HU'; clear hb6))
    go_ret
    exact ⟨ret_bool HE2.out.symm, HU.out⟩

/-- The moves up to one, as they are collected. -/
def whatTo (C : CP) (m : Nat) : List Int := [1, 2, 3].filter fun x => decide (x < (m : Int)) && chMay C x
theorem whatTo_1 (C : CP) : whatTo C 1 = [] := by
  unfold whatTo
  simp
theorem whatTo_4 (C : CP) (h : chFine C = true) : whatTo C 4 = chWhat C := by
  unfold whatTo chWhat
  rw [if_pos h]
  cases h1 : chMay C 1 <;> cases h2 : chMay C 2 <;> cases h3 : chMay C 3 <;> simp [h1, h2, h3]
theorem whatTo_step (C : CP) (m : Nat) (h1 : 1 ≤ m) (h3 : m ≤ 3) : whatTo C (m + 1) = if chMay C m = true then whatTo C m ++ [(m : Int)] else whatTo C m := by
  unfold whatTo
  obtain rfl | rfl | rfl : m = 1 ∨ m = 2 ∨ m = 3 := by omega
  · cases e1 : chMay C 1 <;> simp [e1]
  · cases e1 : chMay C 1 <;> cases e2 : chMay C 2 <;> simp [e1, e2]
  · cases e1 : chMay C 1 <;> cases e2 : chMay C 2 <;> cases e3 : chMay C 3 <;> simp [e1, e2, e3]
theorem whatTo_len (C : CP) (m : Nat) : (whatTo C m).length ≤ 3 := by
  unfold whatTo
  exact List.length_filter_le _ _

set_option maxHeartbeats 4000000 in
theorem c_chwhat {w : World} {pl : Nat → Prop} {C : CP} {M : SM} (h : ChW w pl C M) (hn : ChFew M) :
    Calls Try.prog 42 #[.agg (chC C M).toArray] w (IntsPost w (chWhat C)) := by
  have hX := bx1_ch w C M
  generalize hw1 : w.alloc (.cells (chC C M).toArray 73) = w1 at hX
  have HW := Lib.hid hw1
  have HX := Lib.hid hX
  have HV := Lib.hid h
  have CF := Lib.hid (fun W (hW : Below w.heap.size w W) => c_chfine (h.below hW) hn)
  have CM := Lib.hid (fun W (hW : Below w.heap.size w W) m => c_chmay (h.below hW) m)
  clear h hX hw1
  cases hf : chFine C
  · have HE : Hid (chWhat C = []) := Lib.hid (by unfold chWhat; rw [if_neg (by rw [hf]; decide)])
    rw [hf] at CF
    rw [HE.out]
    clear hf HE
    go_enter Try.func42, Try.ntmps42
    go_upto_region 1 with fail
    rw [HW.out]
    go_wp2_with (refine ld_row HX.out.box rfl (.tmp 1) rfl rfl Try.underlying73 rfl info_ch ?_)
    refine (CF.out _ HX.out.up).mono ?_; rintro e w2 ⟨rfl, hb2⟩
    have HU := Lib.hid (up_trans HX.out.up hb2)
    clear hb2
    go_wp2
    go_ret
    exact ⟨none, 0, rfl, Nat.le_refl _, by unfold maxLen; omega, RD.nil _ _ _ _, HU.out⟩
  · have HE := Lib.hid (whatTo_4 C hf)
    rw [← HE.out]
    rw [hf] at CF
    clear hf HE
    go_enter Try.func42, Try.ntmps42
    go_upto_region 1 with fail
    rw [HW.out]
    go_wp2_with (refine ld_row HX.out.box rfl (.tmp 1) rfl rfl Try.underlying73 rfl info_ch ?_)
    refine (CF.out _ HX.out.up).mono ?_; rintro e w2 ⟨rfl, hb2⟩
    have HA := Lib.hid (HX.out.next hb2)
    clear hb2
    go_wp2_with fail
    go_loopw [3, 4] (fun s i wr => ∃ m : Nat, 1 ≤ m ∧ m ≤ 4 ∧ i = .int .i64 m ∧ wr.ownsRow w2.heap.size 3 1 s (whatTo C m).length ((whatTo C m).map (Value.int .i64)) ∧ Below w2.heap.size w2 wr) (fun _ i _ => 4 - (intOf i).toNat)
    case atStart => exact ⟨1, by omega, by omega, rfl, by rw [whatTo_1]; exact World.ownsRow_nil _ _ _ _, Below.refl _ _⟩
    case round =>
      obtain ⟨m, hm1, hm4, rfl, hown, hb⟩ := hrel
      have HO := Lib.hid hown
      have HB := Lib.hid hb
      have HC := Lib.hid (HA.out.next hb)
      have HLN := Lib.hid (whatTo_len C m)
      by_cases hlt : m < 4
      · have hle : (m : Int) ≤ 3 := by omega
        have HS := Lib.hid (whatTo_step C m hm1 (by omega))
        have CMm := Lib.hid (CM.out _ HC.out.up m)
        clear hown hb
        cases hq : chMay C m
        · rw [hq] at CMm
          have HS2 : Hid (whatTo C (m + 1) = whatTo C m) := Lib.hid (by rw [HS.out, if_neg (by rw [hq]; decide)])
          clear hq HS
          go_wp2_with (refine ld_row HC.out.box rfl (.tmp 1) rfl rfl Try.underlying73 rfl info_ch ?_)
          refine CMm.out.mono ?_; rintro e w3 ⟨rfl, hb3⟩
          have HB3 := Lib.hid hb3
          clear hb3
          go_wp2_with fail
          go_roundw
          case rel => exact ⟨m + 1, by omega, by omega, by go_num, by rw [HS2.out]; exact own_below HO.out HB3.out, up_trans HB.out HB3.out⟩
          case measure => simp [intOf]; omega
        · rw [hq] at CMm
          have HS2 : Hid (whatTo C (m + 1) = whatTo C m ++ [(m : Int)]) := Lib.hid (by rw [HS.out, if_pos hq])
          clear hq HS
          go_wp2_with (refine ld_row HC.out.box rfl (.tmp 1) rfl rfl Try.underlying73 rfl info_ch ?_)
          refine CMm.out.mono ?_; rintro e w3 ⟨rfl, hb3⟩
          have HB3 := Lib.hid hb3
          have HO3 := Lib.hid (own_below (own_below HO.out hb3) (up_alloc w3 (.cells #[.int .i64 (m : Int)] 3)))
          have HZ : Hid (w2.heap.size ≤ (w3.alloc (.cells #[.int .i64 (m : Int)] 3)).heap.size) := Lib.hid (by have h1 := HB.out.size; have h2 := hb3.size; simp; omega)
          clear hb3
          go_wp2_with (at_builtin; refine wpList_app ei_int rfl (.tmp 15) (.tmp 17) rfl _ _ rfl HO3.out rfl (RD.one rfl) (by simp [Value.oneCell']) (by have := HLN.out; omega) HZ.out ?_; intro v4 w4 hown4 hb4; have HO4 := Lib.hid hown4; have HB4 := Lib.hid hb4; clear hown4 hb4)
          go_roundw
          case rel => exact ⟨m + 1, by omega, by omega, by go_num, by rw [HS2.out, List.map_append, List.length_append]; exact HO4.out, (up_trans HB.out (up_trans HB3.out (up_alloc _ _))).trans HB4.out⟩
          case measure => simp [intOf]; omega
      · obtain rfl : m = 4 := by omega
        clear hown hb
        go_wp2
        go_ret
        exact IntsPost.of' HO.out HA.out.up.size HC.out.up
end Go.Proofs.Ytnmjjemkaamcfaa

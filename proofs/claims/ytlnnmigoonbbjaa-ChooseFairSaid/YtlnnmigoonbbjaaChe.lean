/- The document's Choose of layer 27. -/
import Derived.Test.YtlnnmigoonbbjaaChd
namespace Go.Proofs.Ytlnnmigoonbbjaa
open Go.RowKit

theorem fair_of {t v : Int} {L : List Int} {k : Nat} {z : Int} (hg : L[k]? = some z) (hz : t ≤ z) (hF : (L.take k).any (fun z => decide (t ≤ z)) = false) : L.getD (chPl 1 t L v) 0 = z := by
  have hk := (List.getElem?_eq_some_iff.1 hg).1
  have e := chIx_of hg hz hF
  have : chPl 1 t L v = k := by
    show chFair t L = k
    unfold chFair
    rw [e, if_pos hk]
  rw [this, List.getD_eq_getElem?_getD, hg]
  rfl
theorem fair_none {t v : Int} {L : List Int} {z : Int} (h0 : L[0]? = some z) (hF : L.any (fun z => decide (t ≤ z)) = false) : L.getD (chPl 1 t L v) 0 = z := by
  have : chPl 1 t L v = 0 := by
    show chFair t L = 0
    unfold chFair
    rw [chIx_none hF, if_neg (by omega)]
  rw [this, List.getD_eq_getElem?_getD, h0]
  rfl

set_option maxHeartbeats 4000000 in
theorem c_rchoose {w : World} {pl : Nat → Prop} {A : Option Addr} {n c : Nat} {L : List Int} (hR : RD w pl 1 A n (L.map (Value.int .i64))) (hl : L.length = n) (hn : n ≤ 1000) (d m t v : Int) :
    Calls Try.prog 8 #[.agg #[.int .i64 d, .int .i64 m, .int .i64 t, .slice A n c], .int .i64 v] w fun e w' => e = .returned (.tuple #[.int .i64 (chV d m t L v), .int .i64 (chE d m t L)]) ∧ Below w.heap.size w w' := by
  have hU := up_alloc w (.cells #[.int .i64 d, .int .i64 m, .int .i64 t, .slice A n c] 24)
  have hB := box_ch w d m t A n c
  have CF := Lib.hid (c_rfine (c := c) (hR.below hU) hl hn d m t)
  obtain ⟨q, hq⟩ : ∃ q, chFine d m t L = q := ⟨_, rfl⟩
  rw [hq] at CF
  have HV : Hid (chV d m t L v = if q = true then L.getD (chPl d t L v) 0 else 0) := Lib.hid (by unfold chV; rw [hq])
  have HE : Hid (chE d m t L = if q = true then (if L = [] then 6 else 0) else 1) := Lib.hid (by unfold chE; rw [hq])
  have HR := Lib.hid (hR.below hU)
  have HL := Lib.hid hl
  have HU := Lib.hid hU
  have HB := Lib.hid hB
  clear hR hl hq hU hB
  cases q
  · go_enter Try.func8, Try.ntmps8
    go_wp2_with fail
    refine CF.out.mono ?_; rintro e w2 ⟨rfl, hb2⟩
    have HU2 := Lib.hid (up_trans HU.out hb2)
    clear hb2
    go_wp2
    go_ret2
    exact ⟨ret_int2 (by rw [HV.out]; rfl) (by rw [HE.out]; rfl), HU2.out⟩
  · rcases Nat.eq_zero_or_pos n with rfl | h0
    · have HLn : Hid (L = []) := Lib.hid (List.eq_nil_of_length_eq_zero HL.out)
      go_enter Try.func8, Try.ntmps8
      go_wp2_with fail
      refine CF.out.mono ?_; rintro e w2 ⟨rfl, hb2⟩
      have HU2 := Lib.hid (up_trans HU.out hb2)
      have HB2 := HB.out.up hb2 HB.out.lt
      have i3 := HB2.cell 3 _ rfl
      clear hb2 HB2
      go_wp2
      go_ret2
      exact ⟨ret_int2 (by rw [HV.out, HLn.out]; rfl) (by rw [HE.out, HLn.out]; rfl), HU2.out⟩
    · have hpl := chPl_lt d t L v (by rw [HL.out]; exact h0)
      have HEE : Hid (chE d m t L = 0) := Lib.hid (by
        rw [HE.out, if_pos rfl, if_neg (fun e => by rw [e] at hpl; simp at hpl)])
      have HVV : Hid (chV d m t L v = L.getD (chPl d t L v) 0) := Lib.hid (by rw [HV.out]; rfl)
      have hn0 : ((n : Int) == 0) = false := by simp; omega
      have hn1 : (0 : Int) < n := by omega
      obtain ⟨b, o, rfl, _, hlb, hc⟩ := HR.out.at_ h0
      have hex : ∃ z, L[0]? = some z := ⟨_, List.getElem?_eq_getElem (by rw [HL.out]; exact h0)⟩
      obtain ⟨z0, hz0⟩ := hex
      have HZ0 := Lib.hid hz0
      have HC := Lib.hid hc
      have HLB := Lib.hid hlb
      clear hc hz0 hlb
      by_cases h1 : d = 1
      · subst h1
        clear hpl HV HE
        go_enter Try.func8, Try.ntmps8
        go_wp2_with fail
        refine CF.out.mono ?_; rintro e w2 ⟨rfl, hb2⟩
        have HU2 := Lib.hid (up_trans HU.out hb2)
        have HB2 := HB.out.up hb2 HB.out.lt
        have i0 := HB2.cell 0 _ rfl
        have i2 := HB2.cell 2 _ rfl
        have i3 := HB2.cell 3 _ rfl
        have HC2 : Hid (∀ k z, L[k]? = some z → w2.cell? ⟨b, o + k, none⟩ = some (.int .i64 z)) := Lib.hid fun k z h => (World.cell?_of_block (a := ⟨b, o + k, none⟩) (hb2.block b HLB.out)).trans (HC.out k _ (by rw [List.getElem?_map, h]; rfl))
        clear hb2 HB2
        go_wp2_with fail
        go_loopw [7] (fun i wr => ∃ k : Nat, k ≤ n ∧ i = .int .i64 k ∧ (L.take k).any (fun z => decide (t ≤ z)) = false ∧ Drew w2 wr) (fun i _ => n - (intOf i).toNat)
        case atStart => exact ⟨0, Nat.zero_le _, rfl, rfl, Drew.refl _⟩
        case round =>
          obtain ⟨k, hk, rfl, hF, dd, rfl⟩ := hrel
          have HF := Lib.hid hF
          have HU3 := Lib.hid (up_trans HU2.out (up_drewN w2 dd))
          have i0' : (w2.drewN dd).cell? ⟨w.heap.size, 0, none⟩ = some (.int .i64 1) := i0
          have i3' : (w2.drewN dd).cell? ⟨w.heap.size, 3, none⟩ = some (.slice (some ⟨b, o, none⟩) n c) := i3
          clear hF
          by_cases hlt : k < n
          · have hex : ∃ z, L[k]? = some z := ⟨_, List.getElem?_eq_getElem (by rw [HL.out]; exact hlt)⟩
            obtain ⟨z, hz⟩ := hex
            have h1 := HC2.out k z hz
            have h1' : ∀ q, (w2.drewN q).cell? ⟨b, o + k, none⟩ = some (.int .i64 z) := fun _ => h1
            have i3'' : ∀ q, (w2.drewN q).cell? ⟨w.heap.size, 3, none⟩ = some (.slice (some ⟨b, o, none⟩) n c) := fun _ => i3
            have HZ := Lib.hid hz
            clear hz
            have hk1 : (k : Int) < n := by omega
            by_cases hq : t ≤ z
            · have g1 : decide (t ≤ z) = true := decide_eq_true hq
              have E := Lib.hid (fair_of (v := v) HZ.out hq HF.out)
              clear hq
              go_wp2_with fail
              go_quiet (fail)
              go_wp2
              go_ret2
              exact ⟨ret_int2 (by rw [HVV.out, E.out]) HEE.out.symm, up_trans HU2.out (up_drewN w2 _)⟩
            · have g1 : decide (t ≤ z) = false := decide_eq_false hq
              have E := Lib.hid (ch_any_next HZ.out HF.out g1)
              clear hq
              go_wp2_with fail
              go_quiet (fail)
              go_wp2
              go_roundw
              case rel => exact ⟨k + 1, by omega, by go_num, E.out, _, rfl⟩
              case measure => simp [intOf]; omega
          · have E : Hid (L.getD (chPl 1 t L v) 0 = z0) := Lib.hid (fair_none HZ0.out (by
              have := HF.out
              rwa [show k = n by omega, ← HL.out, List.take_length] at this))
            have h1 := HC2.out 0 z0 HZ0.out
            have h1' : (w2.drewN dd).cell? ⟨b, o, none⟩ = some (.int .i64 z0) := h1
            obtain rfl : k = n := by omega
            clear hlt
            go_wp2
            go_ret2
            exact ⟨ret_int2 (by rw [HVV.out, E.out]) HEE.out.symm, HU3.out⟩
      · have t1 : (d == 1) = false := beq_eq_false_iff_ne.2 h1
        by_cases h2 : d = 2
        · subst h2
          obtain ⟨a0, a1, _, a2, a3⟩ := any_place v n h0
          have hP : chPl 2 t L v = (v % (n : Int)).toNat := by unfold chPl; rw [HL.out]; rfl
          rw [hP] at hpl HVV
          obtain ⟨k, hk⟩ : ∃ k, (v % (n : Int)).toNat = k := ⟨_, rfl⟩
          rw [hk] at hpl HVV a2 a3
          have hex : ∃ z, L[k]? = some z := ⟨_, List.getElem?_eq_getElem hpl⟩
          obtain ⟨z, hz⟩ := hex
          have HZ : Hid (L.getD k 0 = z) := Lib.hid (by rw [List.getD_eq_getElem?_getD, hz]; rfl)
          have HC1 := Lib.hid (HC.out k (.int .i64 z) (by rw [List.getElem?_map, hz]; rfl))
          have hkn : k < n := by rw [← HL.out]; exact hpl
          have hnm : (n : Int) ≠ 0 := by omega
          clear hpl HV HE hP hk h1 hz
          by_cases hx : v.tmod (n : Int) < 0
          · have a3 := a3 hx
            have g1 : decide (v.tmod (n : Int) < 0) = true := decide_eq_true hx
            have HA := Lib.hid a3
            have b0 : 0 ≤ v.tmod (n : Int) + n := by omega
            have b1 : v.tmod (n : Int) + n < n := by omega
            have b2 : (v.tmod (n : Int) + n).toNat = k := by omega
            clear a2 a3 hx
            go_enter Try.func8, Try.ntmps8
            go_wp2_with fail
            refine CF.out.mono ?_; rintro e w2 ⟨rfl, hb2⟩
            have HU2 := Lib.hid (up_trans HU.out hb2)
            have HB2 := HB.out.up hb2 HB.out.lt
            have i0 := HB2.cell 0 _ rfl
            have i3 := HB2.cell 3 _ rfl
            have i4 := (World.cell?_of_block (a := ⟨b, o + k, none⟩) (hb2.block b HLB.out)).trans HC1.out
            clear hb2 HB2
            go_wp2
            go_ret2
            exact ⟨ret_int2 (by rw [HVV.out, HZ.out]) HEE.out.symm, HU2.out⟩
          · have a2 := a2 (by omega)
            have g1 : decide (v.tmod (n : Int) < 0) = false := decide_eq_false hx
            have HA := Lib.hid a2
            have b0 : 0 ≤ v.tmod (n : Int) := by omega
            have b2 : (v.tmod (n : Int)).toNat = k := by omega
            clear a2 a3 hx
            go_enter Try.func8, Try.ntmps8
            go_wp2_with fail
            refine CF.out.mono ?_; rintro e w2 ⟨rfl, hb2⟩
            have HU2 := Lib.hid (up_trans HU.out hb2)
            have HB2 := HB.out.up hb2 HB.out.lt
            have i0 := HB2.cell 0 _ rfl
            have i3 := HB2.cell 3 _ rfl
            have i4 := (World.cell?_of_block (a := ⟨b, o + k, none⟩) (hb2.block b HLB.out)).trans HC1.out
            clear hb2 HB2
            go_wp2
            go_ret2
            exact ⟨ret_int2 (by rw [HVV.out, HZ.out]) HEE.out.symm, HU2.out⟩
        · have t2 : (d == 2) = false := beq_eq_false_iff_ne.2 h2
          have HP : Hid (L.getD (chPl d t L v) 0 = z0) := Lib.hid (by
            have : chPl d t L v = 0 := by unfold chPl; rw [if_neg h1, if_neg h2]
            rw [this, List.getD_eq_getElem?_getD, HZ0.out]
            rfl)
          have HC1 := Lib.hid (HC.out 0 (.int .i64 z0) (by rw [List.getElem?_map, HZ0.out]; rfl))
          clear hpl HV HE h1 h2
          go_enter Try.func8, Try.ntmps8
          go_wp2_with fail
          refine CF.out.mono ?_; rintro e w2 ⟨rfl, hb2⟩
          have HU2 := Lib.hid (up_trans HU.out hb2)
          have HB2 := HB.out.up hb2 HB.out.lt
          have i0 := HB2.cell 0 _ rfl
          have i2 := HB2.cell 2 _ rfl
          have i3 := HB2.cell 3 _ rfl
          have i4 := (World.cell?_of_block (a := ⟨b, o + 0, none⟩) (hb2.block b HLB.out)).trans HC1.out
          have i5 : w2.cell? ⟨b, o, none⟩ = some (.int .i64 z0) := i4
          clear hb2 HB2
          go_wp2
          go_ret2
          exact ⟨ret_int2 (by rw [HVV.out, HP.out]) HEE.out.symm, HU2.out⟩
end Go.Proofs.Ytlnnmigoonbbjaa

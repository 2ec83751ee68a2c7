/- The document's All of layer 25. -/
import Derived.Test.YtniijkdlphkpkaaDoorGvl
namespace Go.Proofs.YtniijkdlphkpkaaDoor
open Go.RowKit

theorem cls_of {a o b p : Int} (h : (a == b) = false) : clsE a o b p = false := by unfold clsE; rw [h]; simp
theorem cls_far {a o b p : Int} (h : ¬ a ≤ 3) : clsE a o b p = false := by unfold clsE; rw [decide_eq_false h]; simp
theorem cls_at {a o b p : Int} (h : (a == b) = true) (h1 : 1 ≤ b) (h3 : a ≤ 3) : clsE a o b p = (o == p) := by
  obtain rfl : a = b := by simpa using h
  unfold clsE
  rw [decide_eq_true h1, decide_eq_true h3, h]
  simp
/-- Whether one that stands ahead clashes: the inner loop's way. -/
theorem any_yes {p : GD → Bool} {l : List GD} {j k : Nat} {g : GD} (hg : l[j]? = some g) (hj : j < k) (h : p g = true) : (l.take k).any p = true := by
  rw [List.any_eq_true]
  refine ⟨g, ?_, h⟩
  rw [List.mem_iff_getElem?]
  exact ⟨j, by rw [List.getElem?_take, if_pos hj, hg]⟩
set_option maxRecDepth 100000 in
set_option maxHeartbeats 4000000 in
theorem c_rall {w : World} {pl : Nat → Prop} {A : Option Addr} {n c : Nat} {L : List GD} (hR : RD w pl 5 A n (L.flatMap gdC)) (hl : L.length = n) (hn : n ≤ 1000) :
    Calls Tryd.prog 12 #[.slice A n c] w fun e w' => e = .returned (.tuple #[.int .i64 (allG L).1, .int .i64 (allG L).2]) ∧ Below w.heap.size w w' := by
  have HR := Lib.hid hR
  have HL := Lib.hid hl
  clear hR hl
  rcases Nat.eq_zero_or_pos n with h0 | h0
  · rw [allG_none (by rw [HL.out]; exact h0)]
    subst h0
    go_enter Tryd.func12, Tryd.ntmps12
    go_wp2
    go_ret2
    exact ⟨rfl, Below.refl _ _⟩
  have t0 : ((n : Int) == 0) = false := by simp; omega
  by_cases h6 : 6 < n
  · rw [allG_many (by rw [HL.out]; exact h6)]
    have t6 : decide (6 < (n : Int)) = true := decide_eq_true (by omega)
    clear h0
    go_enter Tryd.func12, Tryd.ntmps12
    go_wp2
    go_ret2
    exact ⟨rfl, Below.refl _ _⟩
  rw [allG_few (by rw [HL.out]; exact h0) (by rw [HL.out]; omega)]
  have t6 : decide (6 < (n : Int)) = false := decide_eq_false (by omega)
  go_enter Tryd.func12, Tryd.ntmps12
  go_wp2_with fail
  go_loopw [4] (fun i wr => ∃ k : Nat, k ≤ n ∧ i = .int .i64 k ∧ allL (L.take k) (L.drop k) = allL [] L ∧ Below w.heap.size w wr) (fun i _ => n - (intOf i).toNat)
  case atStart => exact ⟨0, Nat.zero_le _, rfl, rfl, Below.refl _ _⟩
  case round =>
    rename World => wr0
    obtain ⟨k, hk, rfl, hA, hbw⟩ := hrel
    have HA := Lib.hid hA
    have HW := Lib.hid hbw
    clear hA
    by_cases hlt : k < n
    · have hex : ∃ g, L[k]? = some g := ⟨_, List.getElem?_eq_getElem (by rw [HL.out]; exact hlt)⟩
      obtain ⟨g, hg⟩ := hex
      obtain ⟨b, o, rfl, hbl, i0, i1, i2, i3, i4⟩ := (HR.out.below hbw).guard k g hg hlt
      have HG := Lib.hid hg
      obtain ⟨gk, go, gv, gr, gn⟩ := g
      simp only at i0 i1 i2 i3 i4
      have hknI : decide ((k : Int) < (n : Int)) = true := decide_eq_true (by omega)
      have CC := Lib.hid (c_rcheck gk go gv gr gn wr0)
      by_cases hx0 : chkE gk go gv gr gn = 0
      · have HC0 := Lib.hid (show chkG ⟨gk, go, gv, gr, gn⟩ = 0 from hx0)
        have HFT := Lib.hid (fit_of hx0)
        rw [hx0] at CC
        clear hg hbw hx0
        go_wp2_with fail
        refine CC.out.mono ?_; rintro e w3 ⟨rfl, hb3⟩
        have HU3 := Lib.hid (up_trans HW.out hb3)
        obtain ⟨b', o', hbo, _, p0, p1, p2, p3, p4⟩ := (HR.out.below HU3.out).guard k _ HG.out hlt
        obtain ⟨rfl, rfl⟩ : b = b' ∧ o = o' := by
          injection hbo with e
          injection e with e1 e2
          exact ⟨e1, e2⟩
        simp only at p0 p1 p2 p3 p4
        clear hb3 hbo i0 i1 i2 i3 i4
        rcases Nat.eq_zero_or_pos k with hk0 | hk0
        · have HLN : Hid (lastN (L.take k) < gn) := Lib.hid (by
            rw [hk0]
            show (-1 : Int) < gn
            have := HFT.out.n0
            omega)
          have tk : decide (0 < (k : Int)) = false := decide_eq_false (by omega)
          have tk2 : decide (0 < k) = false := decide_eq_false (by omega)
          have tk3 : ¬ 0 < k := by omega
          clear hk0
          go_wp2_with fail
          go_quiet (fail)
          go_wp2_with fail
          go_loopw [6] (fun j wr => ∃ i : Nat, i ≤ k ∧ j = .int .i64 i ∧ (L.take i).any (clsB · ⟨gk, go, gv, gr, gn⟩) = false ∧ Below w.heap.size w wr) (fun j _ => k - (intOf j).toNat)
          case atStart => exact ⟨0, Nat.zero_le _, rfl, rfl, up_trans HU3.out (up_drewN w3 _)⟩
          case round =>
            obtain ⟨i, hi, rfl, hF, hbi⟩ := hrel
            have HF := Lib.hid hF
            have HI := Lib.hid hbi
            clear hF
            by_cases hik : i < k
            · exact absurd (Nat.lt_of_le_of_lt (Nat.zero_le i) hik) tk3
            · have HN := Lib.hid (allL_next (l := L) HG.out (behE_ok HC0.out (by have := HLN.out; show ¬ gn ≤ lastN _; omega) (by
                have := HF.out
                rwa [show i = k by omega] at this)))
              have hikI : decide ((i : Int) < (k : Int)) = false := decide_eq_false (by omega)
              clear hbi
              go_wp2
              go_roundw
              case rel => exact ⟨k + 1, by omega, by go_num, by rw [← HN.out]; exact HA.out, HI.out⟩
              case measure => simp [intOf]; omega
        · obtain ⟨j, hj⟩ : ∃ j, k = j + 1 := ⟨k - 1, by omega⟩
          have hez : ∃ z, L[j]? = some z := ⟨_, List.getElem?_eq_getElem (by rw [HL.out]; omega)⟩
          obtain ⟨z, hz⟩ := hez
          have hlz := lastN_take hz
          rw [← hj] at hlz
          obtain ⟨b', o', hbo, _, e0, e1, e2, e3, e4⟩ := (HR.out.below HU3.out).guard j z hz (by omega)
          obtain ⟨rfl, rfl⟩ : b = b' ∧ o = o' := by
            injection hbo with e
            injection e with e1 e2
            exact ⟨e1, e2⟩
          have hw : IntKind.i64.wrap ((k : Int) - 1) = (k : Int) - 1 := IntWalk.i64_in _ (by omega)
          have h1 : 0 ≤ (k : Int) - 1 := by omega
          have h2 : (1 : Int) ≤ (k : Int) := by omega
          have h3 : ((k : Int) - 1).toNat = j := by omega
          have h4 : (k : Int) - 1 < (n : Int) := by omega
          have h5 : decide (0 < (k : Int)) = true := decide_eq_true (by omega)
          have h6' : decide (0 < k) = true := decide_eq_true hk0
          obtain ⟨zn, hzn⟩ : ∃ x, z.n = x := ⟨_, rfl⟩
          rw [hzn] at e4 hlz
          clear hz e0 e1 e2 e3 hj hzn hbo
          by_cases hle : gn ≤ zn
          · have HN := Lib.hid (allL_stop (l := L) HG.out (behE_no (a := L.take k) HC0.out (by rw [hlz]; exact hle)) (by decide))
            have tle : decide (gn ≤ zn) = true := decide_eq_true hle
            clear hlz
            go_wp2_with fail
            go_quiet (fail)
            go_wp2
            go_ret2
            have E := HA.out.symm.trans HN.out
            exact ⟨ret_int2 (congrArg Prod.fst E).symm (congrArg Prod.snd E).symm, up_trans HU3.out (up_drewN w3 _)⟩
          · have HLN : Hid (lastN (L.take k) < gn) := Lib.hid (by rw [hlz]; omega)
            have tle : decide (gn ≤ zn) = false := decide_eq_false hle
            clear hlz
            go_wp2_with fail
            go_quiet (fail)
            clear hw h1 h2 h3 h4 e4
            go_wp2_with fail
            go_loopw [6] (fun j wr => ∃ i : Nat, i ≤ k ∧ j = .int .i64 i ∧ (L.take i).any (clsB · ⟨gk, go, gv, gr, gn⟩) = false ∧ Below w.heap.size w wr) (fun j _ => k - (intOf j).toNat)
            case atStart => exact ⟨0, Nat.zero_le _, rfl, rfl, up_trans HU3.out (up_drewN w3 _)⟩
            case round =>
              obtain ⟨i, hi, rfl, hF, hbi⟩ := hrel
              have HF := Lib.hid hF
              have HI := Lib.hid hbi
              clear hF
              by_cases hik : i < k
              · have hey : ∃ y, L[i]? = some y := ⟨_, List.getElem?_eq_getElem (by rw [HL.out]; omega)⟩
                obtain ⟨y, hy⟩ := hey
                obtain ⟨b', o', hbo, _, q0, q1, q2, q3, q4⟩ := (HR.out.below hbi).guard i y hy (by omega)
                obtain ⟨rfl, rfl⟩ : b = b' ∧ o = o' := by
                  injection hbo with e
                  injection e with e1 e2
                  exact ⟨e1, e2⟩
                obtain ⟨b', o', hbo2, _, p0, p1, p2, p3, p4⟩ := (HR.out.below hbi).guard k _ HG.out hlt
                obtain ⟨rfl, rfl⟩ : b = b' ∧ o = o' := by
                  injection hbo2 with e
                  injection e with e1 e2
                  exact ⟨e1, e2⟩
                have HY := Lib.hid hy
                obtain ⟨yk, yo, yv, yr, yn⟩ := y
                simp only at q0 q1 q2 q3 q4 p0 p1 p2 p3 p4
                have hikI : decide ((i : Int) < (k : Int)) = true := decide_eq_true (by omega)
                have hin : i < n := by omega
                clear hbo hbo2 hy hbi
                cases hkk : (yk == gk)
                · have HN := Lib.hid (any_next (p := (clsB · ⟨gk, go, gv, gr, gn⟩)) HY.out HF.out (cls_of hkk))
                  go_wp2_with fail
                  go_quiet (fail)
                  go_wp2
                  go_roundw
                  case rel => exact ⟨i + 1, by omega, by go_num, HN.out, up_trans HI.out (up_drewN _ _)⟩
                  case measure => simp [intOf]; omega
                · by_cases h3 : yk ≤ 3
                  · have t3 : decide (yk ≤ 3) = true := decide_eq_true h3
                    have HCL := Lib.hid (show clsB ⟨yk, yo, yv, yr, yn⟩ ⟨gk, go, gv, gr, gn⟩ = (yo == go) from cls_at hkk HFT.out.k0 h3)
                    cases hoo : (yo == go)
                    · have HN := Lib.hid (any_next (p := (clsB · ⟨gk, go, gv, gr, gn⟩)) HY.out HF.out (HCL.out.trans hoo))
                      go_wp2_with fail
                      go_quiet (fail)
                      go_wp2
                      go_roundw
                      case rel => exact ⟨i + 1, by omega, by go_num, HN.out, up_trans HI.out (up_drewN _ _)⟩
                      case measure => simp [intOf]; omega
                    · have HN := Lib.hid (allL_stop (l := L) HG.out (behE_cls HC0.out (by have := HLN.out; show ¬ gn ≤ lastN _; omega) (any_yes (p := (clsB · ⟨gk, go, gv, gr, gn⟩)) HY.out hik (HCL.out.trans hoo))) (by decide))
                      go_wp2_with fail
                      go_quiet (fail)
                      go_wp2
                      go_ret2
                      have E := HA.out.symm.trans HN.out
                      exact ⟨ret_int2 (congrArg Prod.fst E).symm (congrArg Prod.snd E).symm, up_trans HI.out (up_drewN _ _)⟩
                  · have t3 : decide (yk ≤ 3) = false := decide_eq_false h3
                    have HN := Lib.hid (any_next (p := (clsB · ⟨gk, go, gv, gr, gn⟩)) HY.out HF.out (cls_far h3))
                    go_wp2_with fail
                    go_quiet (fail)
                    go_wp2
                    go_roundw
                    case rel => exact ⟨i + 1, by omega, by go_num, HN.out, up_trans HI.out (up_drewN _ _)⟩
                    case measure => simp [intOf]; omega
              · have HN := Lib.hid (allL_next (l := L) HG.out (behE_ok HC0.out (by have := HLN.out; show ¬ gn ≤ lastN _; omega) (by
                  have := HF.out
                  rwa [show i = k by omega] at this)))
                have hikI : decide ((i : Int) < (k : Int)) = false := decide_eq_false (by omega)
                clear hbi
                go_wp2
                go_roundw
                case rel => exact ⟨k + 1, by omega, by go_num, by rw [← HN.out]; exact HA.out, HI.out⟩
                case measure => simp [intOf]; omega
      · have HN := Lib.hid (allL_stop (l := L) HG.out (behE_chk (a := L.take k) (g := ⟨gk, go, gv, gr, gn⟩) hx0) hx0)
        have HN2 : Hid (allL (L.take k) (L.drop k) = ((k : Int), chkE gk go gv gr gn)) := HN
        have tx : (chkE gk go gv gr gn != 0) = true := by simpa [bne] using hx0
        obtain ⟨x, hx⟩ : ∃ x, chkE gk go gv gr gn = x := ⟨_, rfl⟩
        rw [hx] at CC tx HN2
        clear hg hbw hx0 HN hx
        go_wp2_with fail
        refine CC.out.mono ?_; rintro e w3 ⟨rfl, hb3⟩
        have HU3 := Lib.hid (up_trans HW.out hb3)
        clear hb3
        go_wp2
        go_ret2
        have E := HA.out.symm.trans HN2.out
        exact ⟨ret_int2 (congrArg Prod.fst E).symm (congrArg Prod.snd E).symm, HU3.out⟩
    · have HN := Lib.hid (allL_end (l := L) (k := k) (by rw [HL.out]; omega))
      clear hbw
      go_wp2
      go_ret2
      have E := HA.out.symm.trans HN.out
      exact ⟨ret_int2 (congrArg Prod.fst E).symm (congrArg Prod.snd E).symm, HW.out⟩
end Go.Proofs.YtniijkdlphkpkaaDoor

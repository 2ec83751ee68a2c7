/- The law GuardApart. -/
import Derived.Test.YtniijkdlphkpkaaDoorGvo
namespace Go.Proofs.YtniijkdlphkpkaaDoor
open Go.RowKit

theorem Blk.up2 {w W : World} {b : Nat} {cs : List Value} {t : TypeId} (h : Blk w b cs t) (hb : Below w.heap.size w W) : Blk W b cs t := h.up hb h.lt
set_option maxRecDepth 100000 in
set_option maxHeartbeats 8000000 in
theorem l_apart (A : Option Addr) (m c : Nat) (L : List GD) (k o v r n K O V R N : Int) (w : World) (hl : L.length = m) (hc : m ≤ c) (hcm : c ≤ maxLen) (hR : RD w (fun _ => True) 5 A m (L.flatMap gdC)) (hT : EnvT w) :
    Calls Tryd.prog 5 #[.slice A m c, .agg #[.int .i64 k, .int .i64 o, .int .i64 v, .int .i64 r, .int .i64 n], .agg #[.int .i64 K, .int .i64 O, .int .i64 V, .int .i64 R, .int .i64 N]] w fun e w' => e = .returned (.bool true) ∧ Below w.heap.size w w' := by
  have hu := up_trans (up_alloc w (.cells #[.int .i64 k, .int .i64 o, .int .i64 v, .int .i64 r, .int .i64 n] 23)) (up_alloc (w.alloc (.cells #[.int .i64 k, .int .i64 o, .int .i64 v, .int .i64 r, .int .i64 n] 23)) (.cells #[.int .i64 K, .int .i64 O, .int .i64 V, .int .i64 R, .int .i64 N] 23))
  have hba := (Blk.new w [.int .i64 k, .int .i64 o, .int .i64 v, .int .i64 r, .int .i64 n] 23).alloc (.cells #[.int .i64 K, .int .i64 O, .int .i64 V, .int .i64 R, .int .i64 N] 23)
  have hbb := Blk.new (w.alloc (.cells #[.int .i64 k, .int .i64 o, .int .i64 v, .int .i64 r, .int .i64 n] 23)) [.int .i64 K, .int .i64 O, .int .i64 V, .int .i64 R, .int .i64 N] 23
  rw [show (w.alloc (.cells #[.int .i64 k, .int .i64 o, .int .i64 v, .int .i64 r, .int .i64 n] 23)).heap.size = w.heap.size + 1 by simp] at hbb
  generalize hw1 : (w.alloc (.cells [.int .i64 k, .int .i64 o, .int .i64 v, .int .i64 r, .int .i64 n].toArray 23)).alloc (.cells [.int .i64 K, .int .i64 O, .int .i64 V, .int .i64 R, .int .i64 N].toArray 23) = w1 at hba hbb
  have HU1 : Hid (Below w.heap.size w w1) := Lib.hid (by rw [← hw1]; exact hu)
  have HW1 := Lib.hid hw1
  have HBA := Lib.hid hba
  have HBB := Lib.hid hbb
  have HT := Lib.hid (fun W (hW : Below w1.heap.size w1 W) => hT.up (up_trans HU1.out hW))
  have HR := Lib.hid (fun W (hW : Below w1.heap.size w1 W) => hR.below (up_trans HU1.out hW))
  have HL := Lib.hid hl
  have HC := Lib.hid hc
  have HM := Lib.hid hcm
  unfold maxLen at hcm
  clear hT hR hl hu hba hbb hw1
  have CAL := Lib.hid (fun W (hW : Below w1.heap.size w1 W) => c_alive W (HT.out W hW))
  by_cases h20 : 20 < m
  · have t20 : decide (20 < (m : Int)) = true := decide_eq_true (by omega)
    have C := Lib.hid (CAL.out _ (Below.refl _ _))
    clear hc hcm h20
    go_enter Tryd.func5, Tryd.ntmps5
    go_upto_region 2 with fail
    rw [HW1.out]
    go_wp2_with (go_at_call 10; refine C.out.mono ?_; rintro e w' ⟨rfl, hb⟩)
    go_ret
    exact ⟨rfl, up_trans HU1.out hb⟩
  have t20 : decide (20 < (m : Int)) = false := decide_eq_false (by omega)
  have CL := Lib.hid (fun W (hW : Below w1.heap.size w1 W) => c_gall (c := c) (HR.out W hW) HL.out (by omega) HC.out HM.out)
  have CF := Lib.hid (fun W (hW : Below w1.heap.size w1 W) => c_gfind (c := c) (HR.out W hW) HL.out (by omega))
  have CTA := Lib.hid (fun W (hW : Below w1.heap.size w1 W) => c_gtext k o v r n W (HT.out W hW))
  have CTB := Lib.hid (fun W (hW : Below w1.heap.size w1 W) => c_gtext K O V R N W (HT.out W hW))
  obtain ⟨x, hx⟩ : ∃ x, chkE k o v r n = x := ⟨_, rfl⟩
  obtain ⟨y, hy⟩ : ∃ x, chkE K O V R N = x := ⟨_, rfl⟩
  obtain ⟨tx, htx⟩ : ∃ x, txtE k o v r n = x := ⟨_, rfl⟩
  obtain ⟨ty, hty⟩ : ∃ x, txtE K O V R N = x := ⟨_, rfl⟩
  rw [hx, htx] at CTA
  rw [hy, hty] at CTB
  have HX := Lib.hid hx
  have HY := Lib.hid hy
  have HTX := Lib.hid htx
  have HTY := Lib.hid hty
  have lx : tx.length ≤ 90 := by rw [← htx]; exact txtE_len _ _ _ _ _
  have ly : ty.length ≤ 90 := by rw [← hty]; exact txtE_len _ _ _ _ _
  clear hx hy htx hty
  suffices HS : Calls Tryd.prog 5 #[.slice A m c, .agg #[.int .i64 k, .int .i64 o, .int .i64 v, .int .i64 r, .int .i64 n], .agg #[.int .i64 K, .int .i64 O, .int .i64 V, .int .i64 R, .int .i64 N]] w fun e w' => e = .returned (.bool true) ∧ Below w1.heap.size w1 w' from
    HS.mono fun e w' h => ⟨h.1, up_trans HU1.out h.2⟩
  obtain ⟨ge, gz, hg⟩ : ∃ a b, allG L = (a, b) := ⟨_, _, rfl⟩
  have HG := Lib.hid hg
  rw [hg] at CL
  clear hg
  by_cases hz : gz = 0
  · subst hz
    go_enter Tryd.func5, Tryd.ntmps5
    go_upto_region 3 with fail
    rw [HW1.out]
    go_wp2_with fail
    refine (CL.out _ (Below.refl _ _)).mono ?_; rintro e w2 ⟨rfl, hb⟩
    have H2 := Lib.hid hb
    clear hb
    go_wp2_with fail
    go_loopw [30] (fun i wr => ∃ q : Nat, q ≤ m ∧ i = .int .i64 q ∧ Below w1.heap.size w1 wr) (fun i _ => m - (intOf i).toNat)
    case atStart => exact ⟨0, Nat.zero_le _, rfl, H2.out⟩
    case round =>
      obtain ⟨q, hq, rfl, hbw⟩ := hrel
      have HW := Lib.hid hbw
      by_cases hlt : q < m
      · have hex : ∃ g, L[q]? = some g := ⟨_, List.getElem?_eq_getElem (by rw [HL.out]; exact hlt)⟩
        obtain ⟨g, hg⟩ := hex
        obtain ⟨b, of, rfl, _, i0, i1, i2, i3, i4⟩ := (HR.out _ hbw).guard q g hg hlt
        have hfn := all_fnd (l := L) (by rw [HG.out]) hg
        obtain ⟨gk, go, gv, gr, gn⟩ := g
        simp only at i0 i1 i2 i3 i4 hfn
        have hgu := up_alloc wr (.cells #[.int .i64 gk, .int .i64 go, .int .i64 gv, .int .i64 gr, .int .i64 gn] 23)
        have hgb := Blk.new wr [.int .i64 gk, .int .i64 go, .int .i64 gv, .int .i64 gr, .int .i64 gn] 23
        generalize hws : wr.alloc (.cells [.int .i64 gk, .int .i64 go, .int .i64 gv, .int .i64 gr, .int .i64 gn].toArray 23) = ws at hgb
        have HWS := Lib.hid hws
        have HU : Hid (Below wr.heap.size wr ws) := Lib.hid (by rw [← hws]; exact hgu)
        have C0 := CF.out ws (up_trans hbw HU.out) gn
        rw [hfn] at C0
        have C1 : Hid (Calls Tryd.prog 17 #[.slice (some ⟨b, of, none⟩) m c, .int .i64 gn] ws fun e w' => e = .returned (.tuple #[.agg #[.int .i64 gk, .int .i64 go, .int .i64 gv, .int .i64 gr, .int .i64 gn], .bool true]) ∧ Below ws.heap.size ws w') := Lib.hid C0
        have g4 := hgb.cell 4 _ rfl
        clear hg hfn hbw hgu hws C0
        go_wp2_with fail
        rw [HWS.out]
        go_wp2_with fail
        refine C1.out.mono ?_; rintro e w3 ⟨rfl, hb⟩
        have HB3 := (hgb.up hb hgb.lt).alloc (.cells #[.int .i64 gk, .int .i64 go, .int .i64 gv, .int .i64 gr, .int .i64 gn] 23)
        have HY3 := Blk.new w3 [.int .i64 gk, .int .i64 go, .int .i64 gv, .int .i64 gr, .int .i64 gn] 23
        have HU3 := Lib.hid (up_trans HW.out (up_trans HU.out (up_trans hb (up_alloc w3 (.cells #[.int .i64 gk, .int .i64 go, .int .i64 gv, .int .i64 gr, .int .i64 gn] 23)))))
        clear hb g4 hgb
        have p0 := HB3.cell 0 _ rfl
        have p1 := HB3.cell 1 _ rfl
        have p2 := HB3.cell 2 _ rfl
        have p3 := HB3.cell 3 _ rfl
        have p4 := HB3.cell 4 _ rfl
        have y0 := HY3.cell 0 _ rfl
        have y1 := HY3.cell 1 _ rfl
        have y2 := HY3.cell 2 _ rfl
        have y3 := HY3.cell 3 _ rfl
        have y4 := HY3.cell 4 _ rfl
        have s0 : (gk == gk) = true := by simp
        have s1 : (go == go) = true := by simp
        have s2 : (gv == gv) = true := by simp
        have s3 : (gr == gr) = true := by simp
        have s4 : (gn == gn) = true := by simp
        clear HB3 HY3
        go_wp2
        go_roundw
        case rel => exact ⟨q + 1, by omega, by go_num, HU3.out⟩
        case measure => simp [intOf]; omega
      · clear hbw
        have HA := HBA.out.up2 HW.out
        have HB' := HBB.out.up2 HW.out
        have a0 := HA.cell 0 _ rfl
        have a1 := HA.cell 1 _ rfl
        have a2 := HA.cell 2 _ rfl
        have a3 := HA.cell 3 _ rfl
        have a4 := HA.cell 4 _ rfl
        go_wp2_with fail
        refine (CTA.out _ HW.out).mono ?_; rintro e w3 ⟨rfl, hb⟩
        have H3 := Lib.hid (up_trans HW.out hb)
        have HB3 := HB'.up hb HB'.lt
        have HA3 := HA.up hb HA.lt
        clear hb a0 a1 a2 a3 a4 HA HB'
        have b0 := HB3.cell 0 _ rfl
        have b1 := HB3.cell 1 _ rfl
        have b2 := HB3.cell 2 _ rfl
        have b3 := HB3.cell 3 _ rfl
        have b4 := HB3.cell 4 _ rfl
        go_wp2_with fail
        refine (CTB.out _ H3.out).mono ?_; rintro e w4 ⟨rfl, hb⟩
        have H4 := Lib.hid (up_trans H3.out hb)
        have HB4 := HB3.up hb HB3.lt
        have HA4 := HA3.up hb HA3.lt
        clear hb b0 b1 b2 b3 b4 HB3 HA3
        have a0 := HA4.cell 0 _ rfl
        have a1 := HA4.cell 1 _ rfl
        have a2 := HA4.cell 2 _ rfl
        have a3 := HA4.cell 3 _ rfl
        have a4 := HA4.cell 4 _ rfl
        have b0 := HB4.cell 0 _ rfl
        have b1 := HB4.cell 1 _ rfl
        have b2 := HB4.cell 2 _ rfl
        have b3 := HB4.cell 3 _ rfl
        have b4 := HB4.cell 4 _ rfl
        clear HA4 HB4
        by_cases hx0 : x = 0
        case neg =>
          have e1 : (x == 0) = false := by simpa using hx0
          have e2 : (x != 0) = true := by simpa [bne] using hx0
          obtain rfl : tx = [] := HTX.out.symm.trans (txtE_no (by rw [HX.out]; exact hx0))
          by_cases hy0 : y = 0
          case neg =>
            have e3 : (y == 0) = false := by simpa using hy0
            have e4 : (y != 0) = true := by simpa [bne] using hy0
            obtain rfl : ty = [] := HTY.out.symm.trans (txtE_no (by rw [HY.out]; exact hy0))
            clear hx0 hy0
            go_wp2_with (go_at_call 10; refine (CAL.out _ H4.out).mono ?_; rintro e w5 ⟨rfl, hb⟩)
            go_ret
            exact ⟨rfl, up_trans H4.out hb⟩
          case pos =>
            subst hy0
            clear hx0
            go_wp2_with (go_at_call 10; refine (CAL.out _ H4.out).mono ?_; rintro e w5 ⟨rfl, hb⟩)
            go_ret
            exact ⟨rfl, up_trans H4.out hb⟩
        case pos =>
          subst hx0
          by_cases hy0 : y = 0
          case neg =>
            have e3 : (y == 0) = false := by simpa using hy0
            have e4 : (y != 0) = true := by simpa [bne] using hy0
            obtain rfl : ty = [] := HTY.out.symm.trans (txtE_no (by rw [HY.out]; exact hy0))
            clear hy0
            go_wp2_with (go_at_call 10; refine (CAL.out _ H4.out).mono ?_; rintro e w5 ⟨rfl, hb⟩)
            go_ret
            exact ⟨rfl, up_trans H4.out hb⟩
          case pos =>
            subst hy0
            have HINJ : Hid (tx = ty → k = K ∧ o = O ∧ v = V ∧ r = R ∧ n = N) := Lib.hid (fun e => textL_inj (fit_of HX.out) (fit_of HY.out) (by
              rw [← txtE_ok HX.out, ← txtE_ok HY.out, HTX.out, HTY.out]
              exact e))
            by_cases ddk : k = K
            case neg =>
              have sk : (k == K) = false := by simpa using ddk
              have tt : (tx == ty) = false := by
                rw [beq_eq_false_iff_ne]
                intro e
                exact ddk (HINJ.out e).1
              clear ddk
              go_wp2_with (go_at_call 10; refine (CAL.out _ H4.out).mono ?_; rintro e w5 ⟨rfl, hb⟩)
              go_ret
              exact ⟨rfl, up_trans H4.out hb⟩
            case pos =>
              subst ddk
              by_cases ddo : o = O
              case neg =>
                have so : (o == O) = false := by simpa using ddo
                have tt : (tx == ty) = false := by
                  rw [beq_eq_false_iff_ne]
                  intro e
                  exact ddo (HINJ.out e).2.1
                have sk : (k == k) = true := by simp
                clear ddo
                go_wp2_with (go_at_call 10; refine (CAL.out _ H4.out).mono ?_; rintro e w5 ⟨rfl, hb⟩)
                go_ret
                exact ⟨rfl, up_trans H4.out hb⟩
              case pos =>
                subst ddo
                by_cases ddv : v = V
                case neg =>
                  have sv : (v == V) = false := by simpa using ddv
                  have tt : (tx == ty) = false := by
                    rw [beq_eq_false_iff_ne]
                    intro e
                    exact ddv (HINJ.out e).2.2.1
                  have sk : (k == k) = true := by simp
                  have so : (o == o) = true := by simp
                  clear ddv
                  go_wp2_with (go_at_call 10; refine (CAL.out _ H4.out).mono ?_; rintro e w5 ⟨rfl, hb⟩)
                  go_ret
                  exact ⟨rfl, up_trans H4.out hb⟩
                case pos =>
                  subst ddv
                  by_cases ddr : r = R
                  case neg =>
                    have sr : (r == R) = false := by simpa using ddr
                    have tt : (tx == ty) = false := by
                      rw [beq_eq_false_iff_ne]
                      intro e
                      exact ddr (HINJ.out e).2.2.2.1
                    have sk : (k == k) = true := by simp
                    have so : (o == o) = true := by simp
                    have sv : (v == v) = true := by simp
                    clear ddr
                    go_wp2_with (go_at_call 10; refine (CAL.out _ H4.out).mono ?_; rintro e w5 ⟨rfl, hb⟩)
                    go_ret
                    exact ⟨rfl, up_trans H4.out hb⟩
                  case pos =>
                    subst ddr
                    by_cases ddn : n = N
                    case neg =>
                      have sn : (n == N) = false := by simpa using ddn
                      have tt : (tx == ty) = false := by
                        rw [beq_eq_false_iff_ne]
                        intro e
                        exact ddn (HINJ.out e).2.2.2.2
                      have sk : (k == k) = true := by simp
                      have so : (o == o) = true := by simp
                      have sv : (v == v) = true := by simp
                      have sr : (r == r) = true := by simp
                      clear ddn
                      go_wp2_with (go_at_call 10; refine (CAL.out _ H4.out).mono ?_; rintro e w5 ⟨rfl, hb⟩)
                      go_ret
                      exact ⟨rfl, up_trans H4.out hb⟩
                    case pos =>
                      subst ddn
                      obtain rfl : tx = ty := HTX.out.symm.trans HTY.out
                      have sk : (k == k) = true := by simp
                      have so : (o == o) = true := by simp
                      have sv : (v == v) = true := by simp
                      have sr : (r == r) = true := by simp
                      have sn : (n == n) = true := by simp
                      have tt : (tx == tx) = true := by simp
                      go_wp2_with (go_at_call 10; refine (CAL.out _ H4.out).mono ?_; rintro e w5 ⟨rfl, hb⟩)
                      go_ret
                      exact ⟨rfl, up_trans H4.out hb⟩
  · have tz : (gz == 0) = false := by simpa using hz
    clear hz
    go_enter Tryd.func5, Tryd.ntmps5
    go_upto_region 3 with fail
    rw [HW1.out]
    go_wp2_with fail
    refine (CL.out _ (Below.refl _ _)).mono ?_; rintro e w2 ⟨rfl, hb⟩
    have H2 := Lib.hid hb
    clear hb
    have HA := HBA.out.up2 H2.out
    have HB' := HBB.out.up2 H2.out
    have a0 := HA.cell 0 _ rfl
    have a1 := HA.cell 1 _ rfl
    have a2 := HA.cell 2 _ rfl
    have a3 := HA.cell 3 _ rfl
    have a4 := HA.cell 4 _ rfl
    go_wp2_with fail
    refine (CTA.out _ H2.out).mono ?_; rintro e w3 ⟨rfl, hb⟩
    have H3 := Lib.hid (up_trans H2.out hb)
    have HB3 := HB'.up hb HB'.lt
    have HA3 := HA.up hb HA.lt
    clear hb a0 a1 a2 a3 a4 HA HB'
    have b0 := HB3.cell 0 _ rfl
    have b1 := HB3.cell 1 _ rfl
    have b2 := HB3.cell 2 _ rfl
    have b3 := HB3.cell 3 _ rfl
    have b4 := HB3.cell 4 _ rfl
    go_wp2_with fail
    refine (CTB.out _ H3.out).mono ?_; rintro e w4 ⟨rfl, hb⟩
    have H4 := Lib.hid (up_trans H3.out hb)
    have HB4 := HB3.up hb HB3.lt
    have HA4 := HA3.up hb HA3.lt
    clear hb b0 b1 b2 b3 b4 HB3 HA3
    have a0 := HA4.cell 0 _ rfl
    have a1 := HA4.cell 1 _ rfl
    have a2 := HA4.cell 2 _ rfl
    have a3 := HA4.cell 3 _ rfl
    have a4 := HA4.cell 4 _ rfl
    have b0 := HB4.cell 0 _ rfl
    have b1 := HB4.cell 1 _ rfl
    have b2 := HB4.cell 2 _ rfl
    have b3 := HB4.cell 3 _ rfl
    have b4 := HB4.cell 4 _ rfl
    clear HA4 HB4
    by_cases hx0 : x = 0
    case neg =>
      have e1 : (x == 0) = false := by simpa using hx0
      have e2 : (x != 0) = true := by simpa [bne] using hx0
      obtain rfl : tx = [] := HTX.out.symm.trans (txtE_no (by rw [HX.out]; exact hx0))
      by_cases hy0 : y = 0
      case neg =>
        have e3 : (y == 0) = false := by simpa using hy0
        have e4 : (y != 0) = true := by simpa [bne] using hy0
        obtain rfl : ty = [] := HTY.out.symm.trans (txtE_no (by rw [HY.out]; exact hy0))
        clear hx0 hy0
        go_wp2_with (go_at_call 10; refine (CAL.out _ H4.out).mono ?_; rintro e w5 ⟨rfl, hb⟩)
        go_ret
        exact ⟨rfl, up_trans H4.out hb⟩
      case pos =>
        subst hy0
        clear hx0
        go_wp2_with (go_at_call 10; refine (CAL.out _ H4.out).mono ?_; rintro e w5 ⟨rfl, hb⟩)
        go_ret
        exact ⟨rfl, up_trans H4.out hb⟩
    case pos =>
      subst hx0
      by_cases hy0 : y = 0
      case neg =>
        have e3 : (y == 0) = false := by simpa using hy0
        have e4 : (y != 0) = true := by simpa [bne] using hy0
        obtain rfl : ty = [] := HTY.out.symm.trans (txtE_no (by rw [HY.out]; exact hy0))
        clear hy0
        go_wp2_with (go_at_call 10; refine (CAL.out _ H4.out).mono ?_; rintro e w5 ⟨rfl, hb⟩)
        go_ret
        exact ⟨rfl, up_trans H4.out hb⟩
      case pos =>
        subst hy0
        have HINJ : Hid (tx = ty → k = K ∧ o = O ∧ v = V ∧ r = R ∧ n = N) := Lib.hid (fun e => textL_inj (fit_of HX.out) (fit_of HY.out) (by
          rw [← txtE_ok HX.out, ← txtE_ok HY.out, HTX.out, HTY.out]
          exact e))
        by_cases ddk : k = K
        case neg =>
          have sk : (k == K) = false := by simpa using ddk
          have tt : (tx == ty) = false := by
            rw [beq_eq_false_iff_ne]
            intro e
            exact ddk (HINJ.out e).1
          clear ddk
          go_wp2_with (go_at_call 10; refine (CAL.out _ H4.out).mono ?_; rintro e w5 ⟨rfl, hb⟩)
          go_ret
          exact ⟨rfl, up_trans H4.out hb⟩
        case pos =>
          subst ddk
          by_cases ddo : o = O
          case neg =>
            have so : (o == O) = false := by simpa using ddo
            have tt : (tx == ty) = false := by
              rw [beq_eq_false_iff_ne]
              intro e
              exact ddo (HINJ.out e).2.1
            have sk : (k == k) = true := by simp
            clear ddo
            go_wp2_with (go_at_call 10; refine (CAL.out _ H4.out).mono ?_; rintro e w5 ⟨rfl, hb⟩)
            go_ret
            exact ⟨rfl, up_trans H4.out hb⟩
          case pos =>
            subst ddo
            by_cases ddv : v = V
            case neg =>
              have sv : (v == V) = false := by simpa using ddv
              have tt : (tx == ty) = false := by
                rw [beq_eq_false_iff_ne]
                intro e
                exact ddv (HINJ.out e).2.2.1
              have sk : (k == k) = true := by simp
              have so : (o == o) = true := by simp
              clear ddv
              go_wp2_with (go_at_call 10; refine (CAL.out _ H4.out).mono ?_; rintro e w5 ⟨rfl, hb⟩)
              go_ret
              exact ⟨rfl, up_trans H4.out hb⟩
            case pos =>
              subst ddv
              by_cases ddr : r = R
              case neg =>
                have sr : (r == R) = false := by simpa using ddr
                have tt : (tx == ty) = false := by
                  rw [beq_eq_false_iff_ne]
                  intro e
                  exact ddr (HINJ.out e).2.2.2.1
                have sk : (k == k) = true := by simp
                have so : (o == o) = true := by simp
                have sv : (v == v) = true := by simp
                clear ddr
                go_wp2_with (go_at_call 10; refine (CAL.out _ H4.out).mono ?_; rintro e w5 ⟨rfl, hb⟩)
                go_ret
                exact ⟨rfl, up_trans H4.out hb⟩
              case pos =>
                subst ddr
                by_cases ddn : n = N
                case neg =>
                  have sn : (n == N) = false := by simpa using ddn
                  have tt : (tx == ty) = false := by
                    rw [beq_eq_false_iff_ne]
                    intro e
                    exact ddn (HINJ.out e).2.2.2.2
                  have sk : (k == k) = true := by simp
                  have so : (o == o) = true := by simp
                  have sv : (v == v) = true := by simp
                  have sr : (r == r) = true := by simp
                  clear ddn
                  go_wp2_with (go_at_call 10; refine (CAL.out _ H4.out).mono ?_; rintro e w5 ⟨rfl, hb⟩)
                  go_ret
                  exact ⟨rfl, up_trans H4.out hb⟩
                case pos =>
                  subst ddn
                  obtain rfl : tx = ty := HTX.out.symm.trans HTY.out
                  have sk : (k == k) = true := by simp
                  have so : (o == o) = true := by simp
                  have sv : (v == v) = true := by simp
                  have sr : (r == r) = true := by simp
                  have sn : (n == n) = true := by simp
                  have tt : (tx == tx) = true := by simp
                  go_wp2_with (go_at_call 10; refine (CAL.out _ H4.out).mono ?_; rintro e w5 ⟨rfl, hb⟩)
                  go_ret
                  exact ⟨rfl, up_trans H4.out hb⟩
end Go.Proofs.YtniijkdlphkpkaaDoor

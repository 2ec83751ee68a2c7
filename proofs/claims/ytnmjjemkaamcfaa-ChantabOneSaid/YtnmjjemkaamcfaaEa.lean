/- The document's Check, New, words, OutHit, InHit of layer 18. -/
import Derived.Test.YtnmjjemkaamcfaaJg
import Derived.Test.YtnmjjemkaamcfaaVc
import Derived.Test.YtnmjjemkaamcfaaWf
import Derived.Deep.DeepCutAuto
namespace Go.Proofs.Ytnmjjemkaamcfaa
open Go.RowKit

set_option maxHeartbeats 1000000 in
theorem c_rchk (k r i o : Int) (w : World) :
    Calls Try.prog 64 #[.agg #[.int .i64 k, .int .i64 r, .int .i64 i, .int .i64 o]] w fun e w' => e = .returned (.int .i64 (ccE k r i o)) ∧ Below w.heap.size w w' := by
  obtain ⟨x, hx⟩ : ∃ x, ccE k r i o = x := ⟨_, rfl⟩
  rw [hx]
  by_cases h0 : k < 0
  · have HE := Lib.hid (hx.symm.trans (chk_kind (.inl h0)))
    have g0 : decide (k < 0) = true := decide_eq_true h0
    clear hx
    go_enter Try.func64, Try.ntmps64
    go_wp2
    go_ret
    exact ⟨ret_int HE.out.symm, up_alloc _ _⟩
  have g0 : decide (k < 0) = false := decide_eq_false h0
  by_cases h1 : 3 < k
  · have HE := Lib.hid (hx.symm.trans (chk_kind (.inr h1)))
    have g1 : decide (3 < k) = true := decide_eq_true h1
    clear hx
    go_enter Try.func64, Try.ntmps64
    go_wp2
    go_ret
    exact ⟨ret_int HE.out.symm, up_alloc _ _⟩
  have g1 : decide (3 < k) = false := decide_eq_false h1
  have hk : 0 ≤ k ∧ k ≤ 3 := by omega
  by_cases h2 : r < 0
  · have HE := Lib.hid (hx.symm.trans (chk_bad hk (.inl h2)))
    have g2 : decide (r < 0) = true := decide_eq_true h2
    clear hx hk
    go_enter Try.func64, Try.ntmps64
    go_wp2
    go_ret
    exact ⟨ret_int HE.out.symm, up_alloc _ _⟩
  have g2 : decide (r < 0) = false := decide_eq_false h2
  by_cases h3 : 8 < r
  · have HE := Lib.hid (hx.symm.trans (chk_bad hk (.inr (.inl h3))))
    have g3 : decide (8 < r) = true := decide_eq_true h3
    clear hx hk
    go_enter Try.func64, Try.ntmps64
    go_wp2
    go_ret
    exact ⟨ret_int HE.out.symm, up_alloc _ _⟩
  have g3 : decide (8 < r) = false := decide_eq_false h3
  have C1 := Lib.hid (fun W => c_qzfine i W)
  have C2 := Lib.hid (fun W => c_qzfine o W)
  cases h4 : pzFine i
  · have HE := Lib.hid (hx.symm.trans (chk_bad hk (.inr (.inr (.inl h4)))))
    rw [h4] at C1
    clear hx hk h4
    go_enter Try.func64, Try.ntmps64
    go_wp2_with (go_at_call 75; refine (C1.out _).mono ?_; rintro e w' ⟨rfl, rfl⟩)
    go_ret
    exact ⟨ret_int HE.out.symm, up_alloc _ _⟩
  cases h5 : pzFine o
  · have HE := Lib.hid (hx.symm.trans (chk_bad hk (.inr (.inr (.inr h5)))))
    rw [h4] at C1
    rw [h5] at C2
    clear hx hk h4 h5
    go_enter Try.func64, Try.ntmps64
    go_wp2_with fail
    refine (C1.out _).mono ?_; rintro e w' ⟨rfl, rfl⟩
    go_wp2_with fail
    refine (C2.out _).mono ?_; rintro e w' ⟨rfl, rfl⟩
    go_wp2
    go_ret
    exact ⟨ret_int HE.out.symm, up_alloc _ _⟩
  · have HE := Lib.hid (hx.symm.trans (chk_ok hk (by omega) h4 h5))
    rw [h4] at C1
    rw [h5] at C2
    clear hx hk h4 h5
    go_enter Try.func64, Try.ntmps64
    go_wp2_with fail
    refine (C1.out _).mono ?_; rintro e w' ⟨rfl, rfl⟩
    go_wp2_with fail
    refine (C2.out _).mono ?_; rintro e w' ⟨rfl, rfl⟩
    go_wp2
    go_ret
    exact ⟨ret_int HE.out.symm, up_alloc _ _⟩


set_option maxHeartbeats 1000000 in
theorem c_rwords {w : World} {pl : Nat → Prop} {A : Option Addr} {n c : Nat} {L : List Int} (h : LnW w pl A n c L) (hn : n ≤ 100000) :
    Calls Try.prog 76 #[.slice A n c] w fun e w' => e = .returned (.bool (wordsL L)) ∧ w = w' := by
  have HR := Lib.hid h.rd
  have HL := Lib.hid h.len
  clear h
  go_enter Try.func76, Try.ntmps76
  go_wp2
  go_loop [3] (fun i => ∃ k : Nat, k ≤ n ∧ i = .int .i64 k ∧ wordsL (L.take k) = true) (fun i => n - (intOf i).toNat)
  case atStart => exact ⟨0, Nat.zero_le _, rfl, rfl⟩
  case round =>
    obtain ⟨k, hk, rfl, hF⟩ := hrel
    by_cases hlt : k < n
    · have hkL : k < L.length := by rw [HL.out]; exact hlt
      obtain ⟨b, o, rfl, _, _, hc⟩ := HR.out.at_ (by omega)
      have h1 := hc k (.int .i64 L[k]) (by simp [hkL])
      have HN := Lib.hid (words_step L k hkL)
      have HX : Hid (fineW L[k] = false → wordsL L = false) := Lib.hid (words_no hkL)
      have HF := Lib.hid hF
      generalize L[k] = z at h1 HN HX
      clear hc hF
      cases hz : fineW z
      · have HG := Lib.hid (HX.out hz)
        have CP := Lib.hid (fun W => c_vfine z W)
        rw [hz] at CP
        clear hz
        go_wp2_with (go_at_call 83; refine (CP.out _).mono ?_; rintro e w' ⟨rfl, rfl⟩)
        go_ret
        exact ⟨ret_bool HG.out.symm, rfl⟩
      · have HG : Hid (wordsL (L.take (k + 1)) = true) := Lib.hid (by rw [HN.out, HF.out, hz]; rfl)
        have CP := Lib.hid (fun W => c_vfine z W)
        rw [hz] at CP
        clear hz
        go_wp2_with (go_at_call 83; refine (CP.out _).mono ?_; rintro e w' ⟨rfl, rfl⟩)
        go_round
        case rel => exact ⟨k + 1, by omega, by go_num, HG.out⟩
        case measure => simp [intOf]; omega
    · have HG : Hid (wordsL L = true) := Lib.hid (by
        rw [← List.take_length (l := L), HL.out, show n = k by omega]
        exact hF)
      obtain rfl : k = n := by omega
      clear hF
      go_wp2
      go_ret
      exact ⟨ret_bool HG.out.symm, rfl⟩

theorem info_rch : (Try.prog.info? 78).map (·.size) = some 11 := by kernel_rfl
set_option maxRecDepth 100000 in
set_option maxHeartbeats 1000000 in
theorem c_rnew (k r i o : Int) (w : World) :
    Calls Try.prog 41 #[.agg #[.int .i64 k, .int .i64 r, .int .i64 i, .int .i64 o]] w fun e w' => e = .returned (.tuple #[.agg (chC (chNew k r i o) SM.nil).toArray, .int .i64 (ccE k r i o)]) ∧ Below w.heap.size w w' := by
  have HX := Lib.hid (bx2 w [.int .i64 k, .int .i64 r, .int .i64 i, .int .i64 o] 69 chZ 78)
  have CK := Lib.hid (fun W => c_rchk k r i o W)
  have HN := Lib.hid (show chNew k r i o = bif ccE k r i o == 0 then ⟨k, r, i, o, 0, [], chOs k, [], [], chIs k, []⟩ else chZero from rfl)
  have HI : Hid (ccE k r i o = 0 → decide (2 ≤ k) = chIs k) := Lib.hid chIs_le
  have HO := Lib.hid (show chOs k = (k == 1 || k == 3) from rfl)
  generalize chNew k r i o = N at HN ⊢
  generalize ccE k r i o = x at HN CK HI ⊢
  cases hx : (x == 0)
  · have e1 : Hid (N = chZero) := Lib.hid (by rw [HN.out, hx]; rfl)
    have hx' : (x != 0) = true := by simp [bne, hx]
    clear hx
    go_enter Try.func41, Try.ntmps41
    go_wp2_with fail
    refine (CK.out _).mono ?_; rintro e w2 ⟨rfl, hb2⟩
    have HA := Lib.hid (HX.out.next hb2)
    clear hb2
    go_wp2_with (refine st_row (cs := chZ) HA.out.res rfl (.tmp 2) (.tmp 9) rfl rfl rfl info_rch rfl (chC_one (C := chZero) (M := SM.nil)) ?_)
    refine bodyPost_ret (v := .tuple #[.agg chZ.toArray, .int .i64 x]) (results_ce (fn := Try.f41) (p := 2) (t := 3) rfl _ _ _ rfl (HA.out.res.row _) Try.underlying78 rfl info_rch) rfl ?_
    rw [e1.out]
    exact ⟨rfl, below_setRow HA.out.up (by omega) _⟩
  · have e1 : Hid (N = ⟨k, r, i, o, 0, [], chOs k, [], [], chIs k, []⟩) := Lib.hid (by rw [HN.out, hx]; rfl)
    have hx' : (x != 0) = false := by simp [bne, hx]
    have hx0 : x = 0 := by simpa using hx
    subst hx0
    have HI' := Lib.hid (HI.out rfl)
    clear hx HI
    generalize chOs k = q1 at e1 HO
    generalize chIs k = q2 at e1 HI'
    cases h1 : (k == 1) <;> cases h3 : (k == 3)
    all_goals
      have HO' : Hid (q1 = _) := Lib.hid (by rw [HO.out, h1, h3])
      have e2 := HI'.out.symm
      subst e2
      have e3 := HO'.out
      subst e3
      clear HO HI' HO'
      go_enter Try.func41, Try.ntmps41
      go_wp2_with fail
      refine (CK.out _).mono ?_; rintro e w2 ⟨rfl, hb2⟩
      have HA := Lib.hid (HX.out.next hb2)
      have c0 := HA.out.box.cell 0 _ rfl
      have c1 := HA.out.box.cell 1 _ rfl
      have c2 := HA.out.box.cell 2 _ rfl
      have c3 := HA.out.box.cell 3 _ rfl
      clear hb2
      go_wp2_with (refine st_row (cs := chC ⟨k, r, i, o, 0, [], _, [], [], decide (2 ≤ k), []⟩ SM.nil) HA.out.res rfl (.tmp 2) (.tmp 25) rfl rfl rfl info_rch rfl chC_one ?_)
      refine bodyPost_ret (v := .tuple #[.agg (chC ⟨k, r, i, o, 0, [], _, [], [], decide (2 ≤ k), []⟩ SM.nil).toArray, .int .i64 0]) (results_ce (fn := Try.f41) (p := 2) (t := 3) rfl _ _ _ rfl (HA.out.res.row _) Try.underlying78 rfl info_rch) rfl ?_
      rw [e1.out]
      exact ⟨rfl, below_setRow HA.out.up (by omega) _⟩

theorem bx1_rch (w : World) (C : CP) (M : SM) : Bx1 w (w.alloc (.cells (chC C M).toArray 78)) (chC C M) 78 := bx1 w _ _
theorem c_rout (w : World) (C : CP) (M : SM) : Calls Try.prog 65 #[.agg (chC C M).toArray] w fun e w' => e = .returned (.bool (chOut C)) ∧ Below w.heap.size w w' := by
  have hX := bx1_rch w C M
  generalize hw1 : w.alloc (.cells (chC C M).toArray 78) = w1 at hX
  have HW := Lib.hid hw1
  have HU := Lib.hid hX.up
  have CH := Lib.hid (fun W => c_qzhit C.lv C.o W)
  have HE := Lib.hid (show chOut C = pzHit C.lv C.o from rfl)
  rw [← HE.out] at CH
  generalize chOut C = q at CH ⊢
  have c3 := hX.box.co
  have c4 := hX.box.clv
  clear hw1 hX HE
  go_enter Try.func65, Try.ntmps65
  go_upto_region 1 with fail
  rw [HW.out]
  go_wp2_with fail
  refine (CH.out _).mono ?_; rintro e w' ⟨rfl, rfl⟩
  go_wp2
  go_ret
  exact ⟨rfl, HU.out⟩
theorem c_rin (w : World) (C : CP) (M : SM) : Calls Try.prog 66 #[.agg (chC C M).toArray] w fun e w' => e = .returned (.bool (chIn C)) ∧ Below w.heap.size w w' := by
  have hX := bx1_rch w C M
  generalize hw1 : w.alloc (.cells (chC C M).toArray 78) = w1 at hX
  have HW := Lib.hid hw1
  have HU := Lib.hid hX.up
  have CH := Lib.hid (fun W => c_qzhit C.lv C.i W)
  have HE := Lib.hid (show chIn C = pzHit C.lv C.i from rfl)
  rw [← HE.out] at CH
  generalize chIn C = q at CH ⊢
  have c2 := hX.box.ci
  have c4 := hX.box.clv
  clear hw1 hX HE
  go_enter Try.func66, Try.ntmps66
  go_upto_region 1 with fail
  rw [HW.out]
  go_wp2_with fail
  refine (CH.out _).mono ?_; rintro e w' ⟨rfl, rfl⟩
  go_wp2
  go_ret
  exact ⟨rfl, HU.out⟩

end Go.Proofs.Ytnmjjemkaamcfaa

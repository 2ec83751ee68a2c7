/- Package channel: Check, New, manySend, manyGet, words. -/
import Derived.Test.YtnmjjemkaamcfaaJb
import Derived.Test.YtnmjjemkaamcfaaVb
import Derived.Test.YtnmjjemkaamcfaaWe
import Derived.StillTailTactics
namespace Go.Proofs.Ytnmjjemkaamcfaa
open Go.RowKit

theorem chk_bad {k r i o : Int} (h : 0 ≤ k ∧ k ≤ 3) (h' : r < 0 ∨ 8 < r ∨ pzFine i = false ∨ pzFine o = false) : ccE k r i o = 8 := by
  unfold ccE; rw [if_neg (by omega), if_pos h']
theorem chk_ok {k r i o : Int} (h : 0 ≤ k ∧ k ≤ 3) (h' : 0 ≤ r ∧ r ≤ 8) (hi : pzFine i = true) (ho : pzFine o = true) : ccE k r i o = 0 := by
  unfold ccE; rw [if_neg (by omega), if_neg]
  rintro (h1 | h1 | h1 | h1)
  · omega
  · omega
  · rw [hi] at h1; cases h1
  · rw [ho] at h1; cases h1
theorem chk_kind {k r i o : Int} (h : k < 0 ∨ 3 < k) : ccE k r i o = 12 := if_pos h

set_option maxHeartbeats 1000000 in
theorem c_chk (k r i o : Int) (w : World) :
    Calls Try.prog 47 #[.agg #[.int .i64 k, .int .i64 r, .int .i64 i, .int .i64 o]] w fun e w' => e = .returned (.int .i64 (ccE k r i o)) ∧ Below w.heap.size w w' := by
  obtain ⟨x, hx⟩ : ∃ x, ccE k r i o = x := ⟨_, rfl⟩
  rw [hx]
  by_cases h0 : k < 0
  · have HE := Lib.hid (hx.symm.trans (chk_kind (.inl h0)))
    have g0 : decide (k < 0) = true := decide_eq_true h0
    clear hx
    go_enter Try.func47, Try.ntmps47
    go_wp2
    go_ret
    exact ⟨ret_int HE.out.symm, up_alloc _ _⟩
  have g0 : decide (k < 0) = false := decide_eq_false h0
  by_cases h1 : 3 < k
  · have HE := Lib.hid (hx.symm.trans (chk_kind (.inr h1)))
    have g1 : decide (3 < k) = true := decide_eq_true h1
    clear hx
    go_enter Try.func47, Try.ntmps47
    go_wp2
    go_ret
    exact ⟨ret_int HE.out.symm, up_alloc _ _⟩
  have g1 : decide (3 < k) = false := decide_eq_false h1
  have hk : 0 ≤ k ∧ k ≤ 3 := by omega
  by_cases h2 : r < 0
  · have HE := Lib.hid (hx.symm.trans (chk_bad hk (.inl h2)))
    have g2 : decide (r < 0) = true := decide_eq_true h2
    clear hx hk
    go_enter Try.func47, Try.ntmps47
    go_wp2
    go_ret
    exact ⟨ret_int HE.out.symm, up_alloc _ _⟩
  have g2 : decide (r < 0) = false := decide_eq_false h2
  by_cases h3 : 8 < r
  · have HE := Lib.hid (hx.symm.trans (chk_bad hk (.inr (.inl h3))))
    have g3 : decide (8 < r) = true := decide_eq_true h3
    clear hx hk
    go_enter Try.func47, Try.ntmps47
    go_wp2
    go_ret
    exact ⟨ret_int HE.out.symm, up_alloc _ _⟩
  have g3 : decide (8 < r) = false := decide_eq_false h3
  have C1 := Lib.hid (fun W => c_pzfine i W)
  have C2 := Lib.hid (fun W => c_pzfine o W)
  cases h4 : pzFine i
  · have HE := Lib.hid (hx.symm.trans (chk_bad hk (.inr (.inr (.inl h4)))))
    rw [h4] at C1
    clear hx hk h4
    go_enter Try.func47, Try.ntmps47
    go_wp2_with (go_at_call 48; refine (C1.out _).mono ?_; rintro e w' ⟨rfl, rfl⟩)
    go_ret
    exact ⟨ret_int HE.out.symm, up_alloc _ _⟩
  cases h5 : pzFine o
  · have HE := Lib.hid (hx.symm.trans (chk_bad hk (.inr (.inr (.inr h5)))))
    rw [h4] at C1
    rw [h5] at C2
    clear hx hk h4 h5
    go_enter Try.func47, Try.ntmps47
    go_wp2_with fail
    refine (C1.out _).mono ?_; rintro e w' ⟨rfl, rfl⟩
    go_wp2_with fail
    refine (C2.out _).mono ?_; rintro e w' ⟨rfl, rfl⟩
    go_wp2
    go_ret
    exact ⟨ret_int HE.out.symm, up_alloc _ _⟩
  · have HE := Lib.hid (hx.symm.trans (chk_ok hk (by omega) h4 h5))
    rw [h4] at C1
    rw [h5] at C2
    clear hx hk h4 h5
    go_enter Try.func47, Try.ntmps47
    go_wp2_with fail
    refine (C1.out _).mono ?_; rintro e w' ⟨rfl, rfl⟩
    go_wp2_with fail
    refine (C2.out _).mono ?_; rintro e w' ⟨rfl, rfl⟩
    go_wp2
    go_ret
    exact ⟨ret_int HE.out.symm, up_alloc _ _⟩

set_option maxHeartbeats 400000 in
theorem c_chms (k : Int) (w : World) : Calls Try.prog 50 #[.int .i64 k] w fun e w' => e = .returned (.bool (chOs k)) ∧ w = w' := by
  have HE := Lib.hid (show chOs k = (k == 1 || k == 3) from rfl)
  cases h1 : (k == 1) <;> cases h3 : (k == 3)
  all_goals
    rw [h1, h3] at HE
    go_enter Try.func50, Try.ntmps50
    go_wp2
    go_ret
    exact ⟨ret_bool HE.out.symm, rfl⟩
set_option maxHeartbeats 400000 in
theorem c_chmg (k : Int) (w : World) : Calls Try.prog 52 #[.int .i64 k] w fun e w' => e = .returned (.bool (chIs k)) ∧ w = w' := by
  have HE := Lib.hid (show chIs k = (k == 2 || k == 3) from rfl)
  cases h1 : (k == 2) <;> cases h3 : (k == 3)
  all_goals
    rw [h1, h3] at HE
    go_enter Try.func52, Try.ntmps52
    go_wp2
    go_ret
    exact ⟨ret_bool HE.out.symm, rfl⟩

theorem words_step (L : List Int) (k : Nat) (h : k < L.length) : wordsL (L.take (k + 1)) = (wordsL (L.take k) && fineW L[k]) := by
  unfold wordsL
  rw [ln_snoc L k h, List.all_append]
  simp
theorem words_no {L : List Int} {k : Nat} (h : k < L.length) (e : fineW L[k] = false) : wordsL L = false := by
  unfold wordsL
  rw [List.all_eq_false]
  exact ⟨L[k], List.getElem_mem h, by simp [e]⟩
set_option maxHeartbeats 1000000 in
theorem c_chwords {w : World} {pl : Nat → Prop} {A : Option Addr} {n c : Nat} {L : List Int} (h : LnW w pl A n c L) (hn : n ≤ 100000) :
    Calls Try.prog 49 #[.slice A n c] w fun e w' => e = .returned (.bool (wordsL L)) ∧ w = w' := by
  have HR := Lib.hid h.rd
  have HL := Lib.hid h.len
  clear h
  go_enter Try.func49, Try.ntmps49
  go_wp2
  go_loop [7] (fun i => ∃ k : Nat, k ≤ n ∧ i = .int .i64 k ∧ wordsL (L.take k) = true) (fun i => n - (intOf i).toNat)
  case atStart => exact ⟨0, Nat.zero_le _, rfl, rfl⟩
  case round =>
    obtain ⟨k, hk, rfl, hF⟩ := hrel
    by_cases hlt : k < n
    · have hkL : k < L.length := by rw [HL.out]; exact hlt
      obtain ⟨b, o, rfl, _, _, hc⟩ := HR.out.at_ (by omega)
      have h1 := hc k (.int .i64 L[k]) (by simp [hkL])
      have HN := Lib.hid (words_step L k hkL)
      have HX : Hid (fineW L[k] = false → wordsL L = false) := Lib.hid (words_no hkL)
      have HF := Lib.hid hF
      generalize L[k] = z at h1 HN HX
      clear hc hF
      cases hz : fineW z
      · have HG := Lib.hid (HX.out hz)
        have CP := Lib.hid (fun W => c_wfine z W)
        rw [hz] at CP
        clear hz
        go_wp2_with (go_at_call 71; refine (CP.out _).mono ?_; rintro e w' ⟨rfl, rfl⟩)
        go_ret
        exact ⟨ret_bool HG.out.symm, rfl⟩
      · have HG : Hid (wordsL (L.take (k + 1)) = true) := Lib.hid (by rw [HN.out, HF.out, hz]; rfl)
        have CP := Lib.hid (fun W => c_wfine z W)
        rw [hz] at CP
        clear hz
        go_wp2_with (go_at_call 71; refine (CP.out _).mono ?_; rintro e w' ⟨rfl, rfl⟩)
        go_round
        case rel => exact ⟨k + 1, by omega, by go_num, HG.out⟩
        case measure => simp [intOf]; omega
    · have HG : Hid (wordsL L = true) := Lib.hid (by
        rw [← List.take_length (l := L), HL.out, show n = k by omega]
        exact hF)
      obtain rfl : k = n := by omega
      clear hF
      go_wp2
      go_ret
      exact ⟨ret_bool HG.out.symm, rfl⟩

theorem still_of {P : Program} {f : FuncId} {args : Array Value} {w : World} {v : Value} (h : Calls P f args w fun e w' => e = .returned v ∧ w = w') : Calls P f args w fun e w' => e = .returned v ∧ w' = w := h.mono fun _ _ he => ⟨he.1, he.2.symm⟩
theorem info_ch : (Try.prog.info? 73).map (·.size) = some 11 := by kernel_rfl
set_option maxRecDepth 100000 in
set_option maxHeartbeats 1000000 in
theorem c_chnew (k r i o : Int) (w : World) :
    Calls Try.prog 40 #[.agg #[.int .i64 k, .int .i64 r, .int .i64 i, .int .i64 o]] w fun e w' => e = .returned (.tuple #[.agg (chC (chNew k r i o) SM.nil).toArray, .int .i64 (ccE k r i o)]) ∧ Below w.heap.size w w' := by
  have HX := Lib.hid (bx2 w [.int .i64 k, .int .i64 r, .int .i64 i, .int .i64 o] 69 chZ 73)
  have CK := Lib.hid (fun W => c_chk k r i o W)
  have HN := Lib.hid (show chNew k r i o = bif ccE k r i o == 0 then ⟨k, r, i, o, 0, [], chOs k, [], [], chIs k, []⟩ else chZero from rfl)
  have CS := Lib.hid (fun W => c_chms k W)
  have CG := Lib.hid (fun W => c_chmg k W)
  generalize chNew k r i o = N at HN ⊢
  generalize ccE k r i o = x at HN CK ⊢
  cases hx : (x == 0)
  · have e1 : Hid (N = chZero) := Lib.hid (by rw [HN.out, hx]; rfl)
    have hx' : (x != 0) = true := by simp [bne, hx]
    clear hx
    go_enter Try.func40, Try.ntmps40
    go_wp2_with fail
    refine (CK.out _).mono ?_; rintro e w2 ⟨rfl, hb2⟩
    have HA := Lib.hid (HX.out.next hb2)
    clear hb2
    go_wp2_with (refine st_row (cs := chZ) HA.out.res rfl (.tmp 2) (.tmp 9) rfl rfl rfl info_ch rfl (chC_one (C := chZero) (M := SM.nil)) ?_)
    refine bodyPost_ret (v := .tuple #[.agg chZ.toArray, .int .i64 x]) (results_ce (fn := Try.f40) (p := 2) (t := 3) rfl _ _ _ rfl (HA.out.res.row _) Try.underlying73 rfl info_ch) rfl ?_
    rw [e1.out]
    exact ⟨rfl, below_setRow HA.out.up (by omega) _⟩
  · have e1 : Hid (N = ⟨k, r, i, o, 0, [], chOs k, [], [], chIs k, []⟩) := Lib.hid (by rw [HN.out, hx]; rfl)
    have hx' : (x != 0) = false := by simp [bne, hx]
    have hx0 : x = 0 := by simpa using hx
    subst hx0
    clear hx
    generalize chOs k = q1 at e1 CS
    generalize chIs k = q2 at e1 CG
    go_enter Try.func40, Try.ntmps40
    go_wp2_with fail
    refine (CK.out _).mono ?_; rintro e w2 ⟨rfl, hb2⟩
    have HA := Lib.hid (HX.out.next hb2)
    have c0 := HA.out.box.cell 0 _ rfl
    have c1 := HA.out.box.cell 1 _ rfl
    have c2 := HA.out.box.cell 2 _ rfl
    have c3 := HA.out.box.cell 3 _ rfl
    clear hb2
    go_wp2_with fail
    go_still_tail 10, (by kernel_rfl)
    still_call (still_of (CS.out _))
    repeat still_step
    still_call (still_of (CG.out _))
    repeat still_step
    try refine wpStill_nil ?_
    have HR := Lib.hid (show Blk w2.drew (w.heap.size + 1) chZ 73 from HA.out.res)
    have HU := Lib.hid (up_trans HA.out.up (up_drewN w2 1))
    change wpList _ _ _ _ _ w2.drew
    go_wp2_with (refine st_row (cs := chC ⟨k, r, i, o, 0, [], q1, [], [], q2, []⟩ SM.nil) HR.out rfl (.tmp 2) (.tmp 20) rfl rfl rfl info_ch rfl chC_one ?_)
    refine bodyPost_ret (v := .tuple #[.agg (chC ⟨k, r, i, o, 0, [], q1, [], [], q2, []⟩ SM.nil).toArray, .int .i64 0]) (results_ce (fn := Try.f40) (p := 2) (t := 3) rfl _ _ _ rfl (HR.out.row _) Try.underlying73 rfl info_ch) rfl ?_
    rw [e1.out]
    exact ⟨rfl, below_setRow HU.out (by omega) _⟩
end Go.Proofs.Ytnmjjemkaamcfaa

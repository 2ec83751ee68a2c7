/- The contracts of the document's functions of layer 16, of plain numbers. The contract of the document's Fine. The document's Check, New, words, OutHit, InHit of layer 18. The document's At and Fine of layer 17. The document's Join of layer 17. -/
import Derived.Test.YtdiiilnebepfdaaGreatDoorA3
import Derived.Test.YtdiiilnebepfdaaGreatDoorRows
import Derived.Test.YtdiiilnebepfdaaGreatDoorA1
import Derived.Test.YtdiiilnebepfdaaGreatDoorA2
import Derived.WalkKit
import Derived.WalkSpells
import Derived.Lib.Hide
import Derived.IntWalk
import Derived.Test.YtdiiilnebepfdaaGreatDoorC2
import Derived.Deep.DeepCutAuto
namespace Go.Proofs.YtdiiilnebepfdaaGreatDoor
open Go.RowKit

set_option maxHeartbeats 400000 in
theorem c_qzfine (x : Int) (w : World) :
    Calls Tryz.prog 115 #[.int .i64 x] w fun e w' => e = .returned (.bool (pzFine x)) ∧ w = w' := by
  cases hf : pzFine x
  · have H := Lib.hid (pzFine_no x hf)
    clear hf
    go_enter Tryz.func115, Tryz.ntmps115
    go_wp2
    all_goals
      go_ret
      refine ⟨ret_bool ?_, rfl⟩
      have := H.out
      first
        | rfl
        | (rw [decide_eq_false_iff_not]; omega)
  · obtain ⟨h0, h1⟩ := (pzFine_iff x).1 hf
    clear hf
    go_enter Tryz.func115, Tryz.ntmps115
    go_wp2
    go_ret
    exact ⟨ret_bool (by first | rfl | (rw [decide_eq_true_iff]; omega)), rfl⟩

set_option maxHeartbeats 400000 in
theorem c_qzraise (l b : Int) (w : World) :
    Calls Tryz.prog 113 #[.int .i64 l, .int .i64 b] w fun e w' => e = .returned (.tuple #[.int .i64 (pzRaise l b), .int .i64 (pzErr l b)]) ∧ w = w' := by
  cases hf : pzFine l
  · rw [pzRaise_no l b (.inl hf), pzErr_no l b (.inl hf)]
    go_enter Tryz.func113, Tryz.ntmps113
    go_wp2_with (go_at_call 115; refine (c_qzfine _ _).mono ?_; rintro e w' ⟨rfl, rfl⟩)
    go_ret2
    exact ⟨rfl, rfl⟩
  · cases ht : pzStr b
    · rw [pzRaise_no l b (.inr ht), pzErr_no l b (.inr ht)]
      by_cases h1 : b < 1
      · clear ht
        go_enter Tryz.func113, Tryz.ntmps113
        go_wp2_with (go_at_call 115; refine (c_qzfine _ _).mono ?_; rintro e w' ⟨rfl, rfl⟩)
        go_ret2
        exact ⟨rfl, rfl⟩
      · have h2 : 255 < b := by have := pzStr_no b ht; omega
        clear ht
        go_enter Tryz.func113, Tryz.ntmps113
        go_wp2_with (go_at_call 115; refine (c_qzfine _ _).mono ?_; rintro e w' ⟨rfl, rfl⟩)
        go_ret2
        exact ⟨rfl, rfl⟩
    · rw [pzRaise_ok l b hf ht, pzErr_ok l b hf ht]
      obtain ⟨h1, h2⟩ := (pzStr_iff b).1 ht
      clear ht
      have h3 : ¬ b < 1 := by omega
      have h4 : ¬ 255 < b := by omega
      by_cases hl : l < b
      · rw [show max l b = b by omega]
        clear h1 h2
        go_enter Tryz.func113, Tryz.ntmps113
        go_wp2_with (go_at_call 115; refine (c_qzfine _ _).mono ?_; rintro e w' ⟨rfl, rfl⟩)
        go_ret2
        exact ⟨rfl, rfl⟩
      · rw [show max l b = l by omega]
        clear h1 h2
        go_enter Tryz.func113, Tryz.ntmps113
        go_wp2_with (go_at_call 115; refine (c_qzfine _ _).mono ?_; rintro e w' ⟨rfl, rfl⟩)
        go_ret2
        exact ⟨rfl, rfl⟩

end Go.Proofs.YtdiiilnebepfdaaGreatDoor

namespace Go.Proofs.YtdiiilnebepfdaaGreatDoor
open Go.RowKit

set_option maxHeartbeats 400000 in
theorem c_vfine (a : Int) (w : World) :
    Calls Tryz.prog 92 #[.int .i64 a] w fun e w' => e = .returned (.bool (fineW a)) ∧ w = w' := by
  cases hf : fineW a
  · have H := Lib.hid (fineW_not a hf)
    clear hf
    go_enter Tryz.func92, Tryz.ntmps92
    go_wp2
    all_goals
      go_ret
      refine ⟨ret_bool ?_, rfl⟩
      have := H.out
      first
        | rfl
        | (rw [decide_eq_false_iff_not]; omega)
  · have hb := (fineW_iff a).1 hf
    obtain ⟨h0, h1⟩ := hb
    clear hf
    go_enter Tryz.func92, Tryz.ntmps92
    go_wp2
    go_ret
    exact ⟨ret_bool (by first | rfl | (rw [decide_eq_true_iff]; omega)), rfl⟩
end Go.Proofs.YtdiiilnebepfdaaGreatDoor

namespace Go.Proofs.YtdiiilnebepfdaaGreatDoor
open Go.RowKit

set_option maxHeartbeats 1000000 in
theorem c_rchk (k r i o : Int) (w : World) :
    Calls Tryz.prog 89 #[.agg #[.int .i64 k, .int .i64 r, .int .i64 i, .int .i64 o]] w fun e w' => e = .returned (.int .i64 (ccE k r i o)) ∧ Below w.heap.size w w' := by
  obtain ⟨x, hx⟩ : ∃ x, ccE k r i o = x := ⟨_, rfl⟩
  rw [hx]
  by_cases h0 : k < 0
  · have HE := Lib.hid (hx.symm.trans (chk_kind (.inl h0)))
    have g0 : decide (k < 0) = true := decide_eq_true h0
    clear hx
    go_enter Tryz.func89, Tryz.ntmps89
    go_wp2
    go_ret
    exact ⟨ret_int HE.out.symm, up_alloc _ _⟩
  have g0 : decide (k < 0) = false := decide_eq_false h0
  by_cases h1 : 3 < k
  · have HE := Lib.hid (hx.symm.trans (chk_kind (.inr h1)))
    have g1 : decide (3 < k) = true := decide_eq_true h1
    clear hx
    go_enter Tryz.func89, Tryz.ntmps89
    go_wp2
    go_ret
    exact ⟨ret_int HE.out.symm, up_alloc _ _⟩
  have g1 : decide (3 < k) = false := decide_eq_false h1
  have hk : 0 ≤ k ∧ k ≤ 3 := by omega
  by_cases h2 : r < 0
  · have HE := Lib.hid (hx.symm.trans (chk_bad hk (.inl h2)))
    have g2 : decide (r < 0) = true := decide_eq_true h2
    clear hx hk
    go_enter Tryz.func89, Tryz.ntmps89
    go_wp2
    go_ret
    exact ⟨ret_int HE.out.symm, up_alloc _ _⟩
  have g2 : decide (r < 0) = false := decide_eq_false h2
  by_cases h3 : 8 < r
  · have HE := Lib.hid (hx.symm.trans (chk_bad hk (.inr (.inl h3))))
    have g3 : decide (8 < r) = true := decide_eq_true h3
    clear hx hk
    go_enter Tryz.func89, Tryz.ntmps89
    go_wp2
    go_ret
    exact ⟨ret_int HE.out.symm, up_alloc _ _⟩
  have g3 : decide (8 < r) = false := decide_eq_false h3
  have C1 := Lib.hid (fun W => c_qzfine i W)
  have C2 := Lib.hid (fun W => c_qzfine o W)
  cases h4 : pzFine i
  · have HE := Lib.hid (hx.symm.trans (chk_bad hk (.inr (.inr (.inl h4)))))
    rw [h4] at C1
    clear hx hk h4
    go_enter Tryz.func89, Tryz.ntmps89
    go_wp2_with (go_at_call 115; refine (C1.out _).mono ?_; rintro e w' ⟨rfl, rfl⟩)
    go_ret
    exact ⟨ret_int HE.out.symm, up_alloc _ _⟩
  cases h5 : pzFine o
  · have HE := Lib.hid (hx.symm.trans (chk_bad hk (.inr (.inr (.inr h5)))))
    rw [h4] at C1
    rw [h5] at C2
    clear hx hk h4 h5
    go_enter Tryz.func89, Tryz.ntmps89
    go_wp2_with fail
    refine (C1.out _).mono ?_; rintro e w' ⟨rfl, rfl⟩
    go_wp2_with fail
    refine (C2.out _).mono ?_; rintro e w' ⟨rfl, rfl⟩
    go_wp2
    go_ret
    exact ⟨ret_int HE.out.symm, up_alloc _ _⟩
  · have HE := Lib.hid (hx.symm.trans (chk_ok hk (by omega) h4 h5))
    rw [h4] at C1
    rw [h5] at C2
    clear hx hk h4 h5
    go_enter Tryz.func89, Tryz.ntmps89
    go_wp2_with fail
    refine (C1.out _).mono ?_; rintro e w' ⟨rfl, rfl⟩
    go_wp2_with fail
    refine (C2.out _).mono ?_; rintro e w' ⟨rfl, rfl⟩
    go_wp2
    go_ret
    exact ⟨ret_int HE.out.symm, up_alloc _ _⟩

set_option maxHeartbeats 1000000 in
theorem c_rwords {w : World} {pl : Nat → Prop} {A : Option Addr} {n c : Nat} {L : List Int} (h : LnW w pl A n c L) (hn : n ≤ 100000) :
    Calls Tryz.prog 116 #[.slice A n c] w fun e w' => e = .returned (.bool (wordsL L)) ∧ w = w' := by
  have HR := Lib.hid h.rd
  have HL := Lib.hid h.len
  clear h
  go_enter Tryz.func116, Tryz.ntmps116
  go_wp2
  go_loop [3] (fun i => ∃ k : Nat, k ≤ n ∧ i = .int .i64 k ∧ wordsL (L.take k) = true) (fun i => n - (intOf i).toNat)
  case atStart => exact ⟨0, Nat.zero_le _, rfl, rfl⟩
  case round =>
    obtain ⟨k, hk, rfl, hF⟩ := hrel
    by_cases hlt : k < n
    · have hkL : k < L.length := by rw [HL.out]; exact hlt
      obtain ⟨b, o, rfl, _, _, hc⟩ := HR.out.at_ (by omega)
      have h1 := hc k (.int .i64 L[k]) (by simp [hkL])
      have HN := Lib.hid (words_step L k hkL)
      have HX : Hid (fineW L[k] = false → wordsL L = false) := Lib.hid (words_no hkL)
      have HF := Lib.hid hF
      generalize L[k] = z at h1 HN HX
      clear hc hF
      cases hz : fineW z
      · have HG := Lib.hid (HX.out hz)
        have CP := Lib.hid (fun W => c_vfine z W)
        rw [hz] at CP
        clear hz
        go_wp2_with (go_at_call 92; refine (CP.out _).mono ?_; rintro e w' ⟨rfl, rfl⟩)
        go_ret
        exact ⟨ret_bool HG.out.symm, rfl⟩
      · have HG : Hid (wordsL (L.take (k + 1)) = true) := Lib.hid (by rw [HN.out, HF.out, hz]; rfl)
        have CP := Lib.hid (fun W => c_vfine z W)
        rw [hz] at CP
        clear hz
        go_wp2_with (go_at_call 92; refine (CP.out _).mono ?_; rintro e w' ⟨rfl, rfl⟩)
        go_round
        case rel => exact ⟨k + 1, by omega, by go_num, HG.out⟩
        case measure => simp [intOf]; omega
    · have HG : Hid (wordsL L = true) := Lib.hid (by
        rw [← List.take_length (l := L), HL.out, show n = k by omega]
        exact hF)
      obtain rfl : k = n := by omega
      clear hF
      go_wp2
      go_ret
      exact ⟨ret_bool HG.out.symm, rfl⟩

theorem info_rch : (Tryz.prog.info? 107).map (·.size) = some 11 := by kernel_rfl
set_option maxRecDepth 100000 in
set_option maxHeartbeats 1000000 in
theorem c_rnew (k r i o : Int) (w : World) :
    Calls Tryz.prog 46 #[.agg #[.int .i64 k, .int .i64 r, .int .i64 i, .int .i64 o]] w fun e w' => e = .returned (.tuple #[.agg (chC (chNew k r i o) SM.nil).toArray, .int .i64 (ccE k r i o)]) ∧ Below w.heap.size w w' := by
  have HX := Lib.hid (bx2 w [.int .i64 k, .int .i64 r, .int .i64 i, .int .i64 o] 73 chZ 107)
  have CK := Lib.hid (fun W => c_rchk k r i o W)
  have HN := Lib.hid (show chNew k r i o = bif ccE k r i o == 0 then ⟨k, r, i, o, 0, [], chOs k, [], [], chIs k, []⟩ else chZero from rfl)
  have HI : Hid (ccE k r i o = 0 → decide (2 ≤ k) = chIs k) := Lib.hid chIs_le
  have HO := Lib.hid (show chOs k = (k == 1 || k == 3) from rfl)
  generalize chNew k r i o = N at HN ⊢
  generalize ccE k r i o = x at HN CK HI ⊢
  cases hx : (x == 0)
  · have e1 : Hid (N = chZero) := Lib.hid (by rw [HN.out, hx]; rfl)
    have hx' : (x != 0) = true := by simp [bne, hx]
    clear hx
    go_enter Tryz.func46, Tryz.ntmps46
    go_wp2_with fail
    refine (CK.out _).mono ?_; rintro e w2 ⟨rfl, hb2⟩
    have HA := Lib.hid (HX.out.next hb2)
    clear hb2
    go_wp2_with (refine st_row (cs := chZ) HA.out.res rfl (.tmp 2) (.tmp 9) rfl rfl rfl info_rch rfl (chC_one (C := chZero) (M := SM.nil)) ?_)
    refine bodyPost_ret (v := .tuple #[.agg chZ.toArray, .int .i64 x]) (results_ce (fn := Tryz.f46) (p := 2) (t := 3) rfl _ _ _ rfl (HA.out.res.row _) Tryz.underlying107 rfl info_rch) rfl ?_
    rw [e1.out]
    exact ⟨rfl, below_setRow HA.out.up (by omega) _⟩
  · have e1 : Hid (N = ⟨k, r, i, o, 0, [], chOs k, [], [], chIs k, []⟩) := Lib.hid (by rw [HN.out, hx]; rfl)
    have hx' : (x != 0) = false := by simp [bne, hx]
    have hx0 : x = 0 := by simpa using hx
    subst hx0
    have HI' := Lib.hid (HI.out rfl)
    clear hx HI
    generalize chOs k = q1 at e1 HO
    generalize chIs k = q2 at e1 HI'
    cases h1 : (k == 1) <;> cases h3 : (k == 3)
    all_goals
      have HO' : Hid (q1 = _) := Lib.hid (by rw [HO.out, h1, h3])
      have e2 := HI'.out.symm
      subst e2
      have e3 := HO'.out
      subst e3
      clear HO HI' HO'
      go_enter Tryz.func46, Tryz.ntmps46
      go_wp2_with fail
      refine (CK.out _).mono ?_; rintro e w2 ⟨rfl, hb2⟩
      have HA := Lib.hid (HX.out.next hb2)
      have c0 := HA.out.box.cell 0 _ rfl
      have c1 := HA.out.box.cell 1 _ rfl
      have c2 := HA.out.box.cell 2 _ rfl
      have c3 := HA.out.box.cell 3 _ rfl
      clear hb2
      go_wp2_with (refine st_row (cs := chC ⟨k, r, i, o, 0, [], _, [], [], decide (2 ≤ k), []⟩ SM.nil) HA.out.res rfl (.tmp 2) (.tmp 25) rfl rfl rfl info_rch rfl chC_one ?_)
      refine bodyPost_ret (v := .tuple #[.agg (chC ⟨k, r, i, o, 0, [], _, [], [], decide (2 ≤ k), []⟩ SM.nil).toArray, .int .i64 0]) (results_ce (fn := Tryz.f46) (p := 2) (t := 3) rfl _ _ _ rfl (HA.out.res.row _) Tryz.underlying107 rfl info_rch) rfl ?_
      rw [e1.out]
      exact ⟨rfl, below_setRow HA.out.up (by omega) _⟩

theorem bx1_rch (w : World) (C : CP) (M : SM) : Bx1 w (w.alloc (.cells (chC C M).toArray 107)) (chC C M) 107 := bx1 w _ _

end Go.Proofs.YtdiiilnebepfdaaGreatDoor

namespace Go.Proofs.YtdiiilnebepfdaaGreatDoor
open Go.RowKit

set_option maxHeartbeats 1000000 in
theorem c_mat {w : World} {pl : Nat → Prop} {A : Option Addr} {n c : Nat} {L : List Int} (hR : RD w pl 1 A n (L.map (Value.int .i64))) (hl : L.length = n) (hn : n ≤ 100000) (p : Int) :
    Calls Tryz.prog 118 #[.slice A n c, .int .i64 p] w fun e w' => e = .returned (.int .i64 (ixL L p)) ∧ w = w' := by
  have HR := Lib.hid hR
  have HL := Lib.hid hl
  clear hR hl
  go_enter Tryz.func118, Tryz.ntmps118
  go_wp2
  go_loop [5] (fun i => ∃ k : Nat, k ≤ n ∧ i = .int .i64 k ∧ ∀ j (hj : j < L.length), j < k → L[j] ≠ p) (fun i => n - (intOf i).toNat)
  case atStart => exact ⟨0, Nat.zero_le _, rfl, fun j _ h => absurd h (by omega)⟩
  case round =>
    obtain ⟨k, hk, rfl, hF⟩ := hrel
    have HF := Lib.hid hF
    clear hF
    by_cases hlt : k < n
    · have hkL : k < L.length := by rw [HL.out]; exact hlt
      obtain ⟨b, o, rfl, _, _, hc⟩ := HR.out.at_ (by omega)
      have h1 := hc k (.int .i64 L[k]) (by simp [hkL])
      clear hc
      obtain ⟨z, hz⟩ : ∃ z, z = L[k] := ⟨_, rfl⟩
      rw [← hz] at h1
      have HZ := Lib.hid hz
      clear hz
      cases he : (z == p)
      · have HE := Lib.hid he
        go_wp2
        go_round
        case rel => exact ⟨k + 1, by omega, by go_num, fun j hj hjk e => by
          rcases Nat.lt_succ_iff_lt_or_eq.1 hjk with h | rfl
          · exact HF.out j hj h e
          · rw [← HZ.out] at e
            rw [e] at HE
            have := HE.out
            simp at this⟩
        case measure => simp [intOf]; omega
      · have HQ := Lib.hid (show ixL L p = k by
          have e : z = p := by simpa using he
          have e1 : ixN L p = k := ixN_of k hkL (by rw [← HZ.out, e]) fun i hi => HF.out i (by omega) hi
          unfold ixL
          rw [e1, if_pos hkL])
        go_wp2
        go_ret
        exact ⟨ret_int HQ.out.symm, rfl⟩
    · have HQ := Lib.hid (show ixL L p = -1 from ixL_no fun hm => by
        obtain ⟨j, hj, e⟩ := List.getElem_of_mem hm
        exact HF.out j hj (by have := HL.out; omega) e)
      obtain rfl : k = n := by omega
      go_wp2
      go_ret
      exact ⟨ret_int HQ.out.symm, rfl⟩

theorem box_rl (w : World) (sh : Bool) (A : Option Addr) (n c : Nat) : Blk (w.alloc (.cells #[.bool sh, .slice A n c] 105)) w.heap.size [.bool sh, .slice A n c] 105 := Blk.new w _ _

set_option maxHeartbeats 4000000 in
theorem c_mfine {w : World} {pl : Nat → Prop} {A : Option Addr} {n c : Nat} {L : List Int} (h : LnW w pl A n c L) (hn : n ≤ 1000) (sh : Bool) :
    Calls Tryz.prog 117 #[.agg #[.bool sh, .slice A n c]] w fun e w' => e = .returned (.bool (lnFine sh L)) ∧ Below w.heap.size w w' := by
  have hb0 := up_alloc w (.cells #[.bool sh, .slice A n c] 105)
  have hB := box_rl w sh A n c
  generalize hw1 : w.alloc (.cells #[.bool sh, .slice A n c] 105) = w1 at hB hb0
  have HW := Lib.hid hw1
  have HR := Lib.hid (h.rd.below hb0)
  have HL := Lib.hid h.len
  have HU := Lib.hid hb0
  have c0 := hB.cell 0 _ rfl
  have c1 := hB.cell 1 _ rfl
  have HB := Lib.hid hB
  clear h hw1 hb0 hB
  go_enter Tryz.func117, Tryz.ntmps117
  go_wp2_with fail
  rw [HW.out]
  go_loopw [3] (fun i wr => ∃ k : Nat, k ≤ n ∧ i = .int .i64 k ∧ lnGood (L.take k) = true ∧ Drew w1 wr) (fun i _ => n - (intOf i).toNat)
  case atStart => exact ⟨0, Nat.zero_le _, rfl, rfl, Drew.refl _⟩
  case round =>
    obtain ⟨k, hk, rfl, hF, d, rfl⟩ := hrel
    by_cases hlt : k < n
    · have hkL : k < L.length := by rw [HL.out]; exact hlt
      obtain ⟨b, o, rfl, _, _, hc⟩ := HR.out.at_ (by omega)
      have h1 := hc k (.int .i64 L[k]) (by simp [hkL])
      have HN := Lib.hid (lnGood_step L k hkL)
      have HT : Hid (lnGood (L.take (k + 1)) = false → lnGood L = false) := Lib.hid (lnGood_take (k + 1))
      have HI := Lib.hid (ixL_first L k hkL)
      have CA := Lib.hid (fun W (hW : Below w1.heap.size w1 W) => c_mat (c := c) (HR.out.below hW) HL.out (by omega) L[k])
      have HF := Lib.hid hF
      generalize L[k] = z at h1 HN HI CA
      have hk0 : (0 : Int) ≤ k := by omega
      have hk1 : (k : Int) < n := by omega
      clear hc hF
      obtain ⟨ix, hix⟩ : ∃ ix, ix = ixL L z := ⟨_, rfl⟩
      rw [← hix] at HI CA
      obtain ⟨q, hq⟩ : ∃ q, q = decide (z ∈ L.take k) := ⟨_, rfl⟩
      rw [← hq] at HI HN
      clear hix hq
      have HQ : Hid (lnP z = false → lnFine sh L = false) := Lib.hid fun e => by unfold lnFine; rw [HT.out (by rw [HN.out, HF.out, e]; rfl), Bool.and_false]
      have HQ2 : Hid (q = true → lnFine sh L = false) := Lib.hid fun e => by unfold lnFine; rw [HT.out (by rw [HN.out, HF.out, e]; cases lnP z <;> rfl), Bool.and_false]
      have HQ3 : Hid (lnP z = true → q = false → lnGood (L.take (k + 1)) = true) := Lib.hid fun e e' => by rw [HN.out, HF.out, e, e']; rfl
      have HU2 := Lib.hid (up_trans HU.out (up_drewN w1 d))
      clear hkL hlt
      by_cases hz0 : z < 0
      · have E := Lib.hid (HQ.out (by cases e : lnP z; rfl; have := (lnP_iff z).1 e; omega))
        have g1 : decide (z < 0) = true := by rw [decide_eq_true_iff]; exact hz0
        go_wp2_with fail
        go_quiet (fail)
        go_wp2
        go_ret
        exact ⟨ret_bool E.out.symm, up_trans HU2.out (up_drewN _ _)⟩
      · have g1 : decide (z < 0) = false := by rw [decide_eq_false_iff_not]; exact hz0
        by_cases hz1 : 15 < z
        · have E := Lib.hid (HQ.out (by cases e : lnP z; rfl; have := (lnP_iff z).1 e; omega))
          have g2 : decide (15 < z) = true := by rw [decide_eq_true_iff]; exact hz1
          go_wp2_with fail
          go_quiet (fail)
          go_wp2
          go_ret
          exact ⟨ret_bool E.out.symm, up_trans HU2.out (up_drewN _ _)⟩
        · have g2 : decide (15 < z) = false := by rw [decide_eq_false_iff_not]; exact hz1
          have HPz : Hid (lnP z = true) := Lib.hid ((lnP_iff z).2 (by omega))
          cases q
          · have E := Lib.hid (HQ3.out HPz.out rfl)
            have g3 := HI.out
            go_wp2_with fail
            go_quiet ((go_at_call 118; exact (CA.out _ (up_drewN _ _)).mono fun _ _ he => ⟨he.1, _, he.2.symm⟩))
            go_wp2
            go_roundw
            case rel => exact ⟨k + 1, by omega, by go_num, E.out, _, rfl⟩
            case measure => simp [intOf]; omega
          · have E := Lib.hid (HQ2.out rfl)
            have g3 := HI.out
            go_wp2_with fail
            go_quiet ((go_at_call 118; exact (CA.out _ (up_drewN _ _)).mono fun _ _ he => ⟨he.1, _, he.2.symm⟩))
            go_wp2
            go_ret
            exact ⟨ret_bool E.out.symm, up_trans HU2.out (up_drewN _ _)⟩
    · have HG : Hid (lnGood L = true) := Lib.hid (by
        rw [← List.take_length (l := L), HL.out, show n = k by omega]
        exact hF)
      have HU2 := Lib.hid (up_trans HU.out (up_drewN w1 d))
      have c0' : (w1.drewN d).cell? ⟨w.heap.size, 0, none⟩ = some (.bool sh) := c0
      have c1' : (w1.drewN d).cell? ⟨w.heap.size, 1, none⟩ = some (.slice A n c) := c1
      obtain rfl : k = n := by omega
      clear hF hlt
      cases sh
      · by_cases h2 : k < 2
        · have hd2 : decide ((k : Int) < 2) = true := by rw [decide_eq_true_iff]; omega
          have E : Hid (lnFine false L = true) := Lib.hid (by unfold lnFine; rw [HG.out, HL.out]; simp [h2])
          go_wp2
          go_ret
          exact ⟨ret_bool E.out.symm, HU2.out⟩
        · have hd2 : decide ((k : Int) < 2) = false := by rw [decide_eq_false_iff_not]; omega
          have E : Hid (lnFine false L = false) := Lib.hid (by unfold lnFine; rw [HG.out, HL.out]; simp [h2])
          go_wp2
          go_ret
          exact ⟨ret_bool E.out.symm, HU2.out⟩
      · have E : Hid (lnFine true L = true) := Lib.hid (by unfold lnFine; rw [HG.out]; rfl)
        go_wp2
        go_ret
        exact ⟨ret_bool E.out.symm, HU2.out⟩
end Go.Proofs.YtdiiilnebepfdaaGreatDoor

namespace Go.Proofs.YtdiiilnebepfdaaGreatDoor
open Go.RowKit

set_option maxHeartbeats 2000000 in
theorem c_mjoin {w : World} {pl : Nat → Prop} {A : Option Addr} {n c : Nat} {L : List Int} (h : LnW w pl A n c L) (hn : n ≤ 1000) (hp : ∀ b, w.heap.size ≤ b → pl b) (sh : Bool) (p : Int) :
    Calls Tryz.prog 91 #[.agg #[.bool sh, .slice A n c], .int .i64 p] w (LnPost w pl sh (lnJoinL sh L p) (.int .i64 (lnJoinE sh L p))) := by
  have HX := Lib.hid (lnbox w sh (.slice A n c) 105)
  have HV := Lib.hid h
  have HP := Lib.hid hp
  have HL := Lib.hid h.len
  have CF := Lib.hid (fun W (hW : Below w.heap.size w W) => c_mfine (h.below hW) (by omega) sh)
  have CC := Lib.hid (fun W (hW : Below w.heap.size w W) => c_mat (c := c) (h.below hW).rd h.len (by omega) p)
  have HE := Lib.hid (show lnJoinE sh L p = if lnFine sh L = false then 1 else if lnP p = false then 8 else if p ∈ L then 7 else if sh = false ∧ 0 < L.length then 15 else 0 from rfl)
  have HJ := Lib.hid (show lnJoinL sh L p = if lnJoinE sh L p = 0 then L ++ [p] else L from rfl)
  generalize lnJoinE sh L p = er at HE HJ ⊢
  generalize lnJoinL sh L p = L' at HJ ⊢
  generalize lnFine sh L = q1 at CF HE
  have HPn := Lib.hid (lnP_no p)
  have HPy := Lib.hid (lnP_iff p)
  generalize lnP p = q2 at HE HPn HPy
  have g3 := ixL_geq (L := L) (p := p)
  obtain ⟨q3, hq3⟩ : ∃ q, q = decide (p ∈ L) := ⟨_, rfl⟩
  rw [← hq3] at g3
  generalize ixL L p = ix at g3 CC
  have H3 := Lib.hid hq3
  clear h hp hq3
  cases q1
  · clear g3
    go_enter Tryz.func91, Tryz.ntmps91
    go_wp2_with fail
    refine (CF.out _ HX.out.up).mono ?_; rintro e w2 ⟨rfl, hb2⟩
    have HA := Lib.hid (HX.out.at_ hb2)
    have b0 := HA.out.box.cell 0 _ rfl
    have b1 := HA.out.box.cell 1 _ rfl
    have r0 := HA.out.res.cell 0 _ rfl
    have r1 := HA.out.res.cell 1 _ rfl
    have f0 := HA.out.res.free 0
    have f1 := HA.out.res.free 1
    have g1 := HA.out.box.free 1
    clear hb2
    go_wp2_with fail
    refine bodyPost_ret (v := .tuple #[.agg #[.bool sh, .slice A n c], .int .i64 1]) (by simp [results, Tryz.results91, go_sem, r0, r1]) rfl ?_
    have e1 : er = 1 := by rw [HE.out]; rfl
    have e2 : L' = L := by rw [HJ.out, e1]; rfl
    rw [e1, e2]
    exact ⟨A, n, c, rfl, HV.out.below (HA.out.out _ _), HA.out.out _ _⟩
  cases q2
  · have hpn := HPn.out rfl
    by_cases hp0 : p < 0
    · go_enter Tryz.func91, Tryz.ntmps91
      go_wp2_with fail
      refine (CF.out _ HX.out.up).mono ?_; rintro e w2 ⟨rfl, hb2⟩
      have HA := Lib.hid (HX.out.at_ hb2)
      have b0 := HA.out.box.cell 0 _ rfl
      have b1 := HA.out.box.cell 1 _ rfl
      have r0 := HA.out.res.cell 0 _ rfl
      have r1 := HA.out.res.cell 1 _ rfl
      have f0 := HA.out.res.free 0
      have f1 := HA.out.res.free 1
      have g1 := HA.out.box.free 1
      clear hb2
      go_wp2_with fail
      refine bodyPost_ret (v := .tuple #[.agg #[.bool sh, .slice A n c], .int .i64 8]) (by simp [results, Tryz.results91, go_sem, r0, r1]) rfl ?_
      have e1 : er = 8 := by rw [HE.out]; rfl
      have e2 : L' = L := by rw [HJ.out, e1]; rfl
      rw [e1, e2]
      exact ⟨A, n, c, rfl, HV.out.below (HA.out.out _ _), HA.out.out _ _⟩
    have hp1 : 15 < p := by omega
    clear hpn
    go_enter Tryz.func91, Tryz.ntmps91
    go_wp2_with fail
    refine (CF.out _ HX.out.up).mono ?_; rintro e w2 ⟨rfl, hb2⟩
    have HA := Lib.hid (HX.out.at_ hb2)
    have b0 := HA.out.box.cell 0 _ rfl
    have b1 := HA.out.box.cell 1 _ rfl
    have r0 := HA.out.res.cell 0 _ rfl
    have r1 := HA.out.res.cell 1 _ rfl
    have f0 := HA.out.res.free 0
    have f1 := HA.out.res.free 1
    have g1 := HA.out.box.free 1
    clear hb2
    go_wp2_with fail
    refine bodyPost_ret (v := .tuple #[.agg #[.bool sh, .slice A n c], .int .i64 8]) (by simp [results, Tryz.results91, go_sem, r0, r1]) rfl ?_
    have e1 : er = 8 := by rw [HE.out]; rfl
    have e2 : L' = L := by rw [HJ.out, e1]; rfl
    rw [e1, e2]
    exact ⟨A, n, c, rfl, HV.out.below (HA.out.out _ _), HA.out.out _ _⟩
  obtain ⟨hp0', hp1'⟩ := HPy.out.1 rfl
  have hp0 : ¬ p < 0 := by omega
  have hp1 : ¬ 15 < p := by omega
  clear hp0' hp1'
  cases q3
  case true =>
    go_enter Tryz.func91, Tryz.ntmps91
    go_wp2_with fail
    refine (CF.out _ HX.out.up).mono ?_; rintro e w2 ⟨rfl, hb2⟩
    have HA := Lib.hid (HX.out.at_ hb2)
    have b0 := HA.out.box.cell 0 _ rfl
    have b1 := HA.out.box.cell 1 _ rfl
    have r0 := HA.out.res.cell 0 _ rfl
    have r1 := HA.out.res.cell 1 _ rfl
    have f0 := HA.out.res.free 0
    have f1 := HA.out.res.free 1
    have g1 := HA.out.box.free 1
    clear hb2
    go_wp2_with fail
    refine (CC.out _ HA.out.up).mono ?_; rintro e w' ⟨rfl, rfl⟩
    go_wp2_with fail
    refine bodyPost_ret (v := .tuple #[.agg #[.bool sh, .slice A n c], .int .i64 7]) (by simp [results, Tryz.results91, go_sem, r0, r1]) rfl ?_
    have e1 : er = 7 := by rw [HE.out]; have := H3.out; simp at this; simp [this]
    have e2 : L' = L := by rw [HJ.out, e1]; rfl
    rw [e1, e2]
    exact ⟨A, n, c, rfl, HV.out.below (HA.out.out _ _), HA.out.out _ _⟩
  have hno : ¬ p ∈ L := by have := H3.out; simpa using this
  by_cases hbusy : sh = false ∧ 0 < n
  · obtain ⟨rfl, h0⟩ := hbusy
    have h0' : (0 : Int) < n := by omega
    have HNO := Lib.hid hno
    clear hno
    go_enter Tryz.func91, Tryz.ntmps91
    go_wp2_with fail
    refine (CF.out _ HX.out.up).mono ?_; rintro e w2 ⟨rfl, hb2⟩
    have HA := Lib.hid (HX.out.at_ hb2)
    have b0 := HA.out.box.cell 0 _ rfl
    have b1 := HA.out.box.cell 1 _ rfl
    have r0 := HA.out.res.cell 0 _ rfl
    have r1 := HA.out.res.cell 1 _ rfl
    have f0 := HA.out.res.free 0
    have f1 := HA.out.res.free 1
    have g1 := HA.out.box.free 1
    clear hb2
    go_wp2_with fail
    refine (CC.out _ HA.out.up).mono ?_; rintro e w' ⟨rfl, rfl⟩
    go_wp2_with fail
    refine bodyPost_ret (v := .tuple #[.agg #[.bool false, .slice A n c], .int .i64 15]) (by simp [results, Tryz.results91, go_sem, r0, r1]) rfl ?_
    have e1 : er = 15 := by rw [HE.out]; have := HL.out; have := HNO.out; simp [*]
    have e2 : L' = L := by rw [HJ.out, e1]; rfl
    rw [e1, e2]
    exact ⟨A, n, c, rfl, HV.out.below (HA.out.out _ _), HA.out.out _ _⟩
  · have HD : Hid (er = 0) := Lib.hid (by rw [HE.out]; have := HL.out; simp only [hno, this]; simp; intro h; exact Nat.eq_zero_of_not_pos fun k => hbusy ⟨h, k⟩)
    have hsh : (¬ (0 : Int) < n) ∨ (0 : Int) < n ∧ sh = true := by
      by_cases h0 : 0 < n
      · cases sh
        · exact absurd ⟨rfl, h0⟩ hbusy
        · exact .inr ⟨by omega, rfl⟩
      · exact .inl (by omega)
    clear hbusy hno
    rcases hsh with h0 | ⟨h0, rfl⟩
    · go_enter Tryz.func91, Tryz.ntmps91
      go_wp2_with fail
      refine (CF.out _ HX.out.up).mono ?_; rintro e w2 ⟨rfl, hb2⟩
      have HA := Lib.hid (HX.out.at_ hb2)
      have b0 := HA.out.box.cell 0 _ rfl
      have b1 := HA.out.box.cell 1 _ rfl
      have r0 := HA.out.res.cell 0 _ rfl
      have r1 := HA.out.res.cell 1 _ rfl
      have f0 := HA.out.res.free 0
      have f1 := HA.out.res.free 1
      have g1 := HA.out.box.free 1
      clear hb2
      go_wp2_with fail
      refine (CC.out _ HA.out.up).mono ?_; rintro e w' ⟨rfl, rfl⟩
      clear r0 r1 f0 f1 g1
      have hs0 := HA.out.up.size
      go_wp2_with (first
        | (at_builtin; refine wpList_app ei_int rfl (.const (.slice none 0 0)) (.tmp 34) rfl (.slice none 0 0) [] rfl (World.ownsRow_nil _ w2.heap.size _ _) rfl (HV.out.below HA.out.up).rd (int_cells _ _) (by omega) (by simp) ?_; intro v3 w3 hown3 hb3; have HO := Lib.hid hown3; have H3' := Lib.hid hb3; have hrow := RD.one (w := w3) (v := .int .i64 p) (t := 3) rfl; clear hown3 hb3)
        | (at_builtin; refine wpList_app ei_int rfl (.tmp 35) (.tmp 37) rfl v3 _ rfl (own_below HO.out (up_alloc _ _)) rfl hrow (by simp [Value.oneCell']) (by omega) (by have := H3'.out.size; simp; omega) ?_; intro v4 w4 hown4 hb4; obtain ⟨A4, c4, rfl, hnc4, hcm4, hrd4⟩ := own_slice hown4; have HB := Lib.hid (HA.out.next ((H3'.out.trans ((up_alloc w3 _).mono H3'.out.size)).trans hb4)); have HN := Lib.hid (And.intro hnc4 (And.intro hcm4 hrd4)); clear b0 b1 hnc4 hcm4 hrd4 hown4 hb4; have b0 := HB.out.box.cell 0 _ rfl; have b1 := HB.out.box.cell 1 _ rfl; have g1 := HB.out.box.free 1; have r0 := HB.out.res.cell 0 _ rfl; have r1 := HB.out.res.cell 1 _ rfl; have f0 := HB.out.res.free 0; have f1 := HB.out.res.free 1))
      have en : 0 + n + 1 = n + 1 := by omega
      refine bodyPost_ret (v := .tuple #[.agg #[.bool sh, .slice A4 (n + 1) c4], .int .i64 0]) (by simp [results, Tryz.results91, go_sem, r0, r1]) rfl ?_
      have e2 : L' = L ++ [p] := by rw [HJ.out, HD.out]; rfl
      rw [HD.out, e2]
      have hrd : RD w4 (w2.heap.size ≤ ·) 1 A4 (n + 1) ((L ++ [p]).map (Value.int .i64)) := by
        have := HN.out.2.2
        rw [en] at this
        rw [List.map_append]
        exact this
      refine ⟨A4, n + 1, c4, rfl, ⟨?_, by rw [List.length_append, HL.out]; rfl, by have := HN.out.1; omega, HN.out.2.1⟩, HB.out.out2 _ _ _⟩
      have h2 := HX.out.up.size
      have h3 := HA.out.up.size
      have hs := HA.out.res.lt
      exact (hrd.only (HB.out.after _ _ _) (fun k hk hl => by have : w2.heap.size ≤ k := hl; omega)).lo fun b hb => HP.out b (by have : w2.heap.size ≤ b := hb; omega)
    · go_enter Tryz.func91, Tryz.ntmps91
      go_wp2_with fail
      refine (CF.out _ HX.out.up).mono ?_; rintro e w2 ⟨rfl, hb2⟩
      have HA := Lib.hid (HX.out.at_ hb2)
      have b0 := HA.out.box.cell 0 _ rfl
      have b1 := HA.out.box.cell 1 _ rfl
      have r0 := HA.out.res.cell 0 _ rfl
      have r1 := HA.out.res.cell 1 _ rfl
      have f0 := HA.out.res.free 0
      have f1 := HA.out.res.free 1
      have g1 := HA.out.box.free 1
      clear hb2
      go_wp2_with fail
      refine (CC.out _ HA.out.up).mono ?_; rintro e w' ⟨rfl, rfl⟩
      clear r0 r1 f0 f1 g1
      have hs0 := HA.out.up.size
      go_wp2_with (first
        | (at_builtin; refine wpList_app ei_int rfl (.const (.slice none 0 0)) (.tmp 34) rfl (.slice none 0 0) [] rfl (World.ownsRow_nil _ w2.heap.size _ _) rfl (HV.out.below HA.out.up).rd (int_cells _ _) (by omega) (by simp) ?_; intro v3 w3 hown3 hb3; have HO := Lib.hid hown3; have H3' := Lib.hid hb3; have hrow := RD.one (w := w3) (v := .int .i64 p) (t := 3) rfl; clear hown3 hb3)
        | (at_builtin; refine wpList_app ei_int rfl (.tmp 35) (.tmp 37) rfl v3 _ rfl (own_below HO.out (up_alloc _ _)) rfl hrow (by simp [Value.oneCell']) (by omega) (by have := H3'.out.size; simp; omega) ?_; intro v4 w4 hown4 hb4; obtain ⟨A4, c4, rfl, hnc4, hcm4, hrd4⟩ := own_slice hown4; have HB := Lib.hid (HA.out.next ((H3'.out.trans ((up_alloc w3 _).mono H3'.out.size)).trans hb4)); have HN := Lib.hid (And.intro hnc4 (And.intro hcm4 hrd4)); clear b0 b1 hnc4 hcm4 hrd4 hown4 hb4; have b0 := HB.out.box.cell 0 _ rfl; have b1 := HB.out.box.cell 1 _ rfl; have g1 := HB.out.box.free 1; have r0 := HB.out.res.cell 0 _ rfl; have r1 := HB.out.res.cell 1 _ rfl; have f0 := HB.out.res.free 0; have f1 := HB.out.res.free 1))
      have en : 0 + n + 1 = n + 1 := by omega
      refine bodyPost_ret (v := .tuple #[.agg #[.bool true, .slice A4 (n + 1) c4], .int .i64 0]) (by simp [results, Tryz.results91, go_sem, r0, r1]) rfl ?_
      have e2 : L' = L ++ [p] := by rw [HJ.out, HD.out]; rfl
      rw [HD.out, e2]
      have hrd : RD w4 (w2.heap.size ≤ ·) 1 A4 (n + 1) ((L ++ [p]).map (Value.int .i64)) := by
        have := HN.out.2.2
        rw [en] at this
        rw [List.map_append]
        exact this
      refine ⟨A4, n + 1, c4, rfl, ⟨?_, by rw [List.length_append, HL.out]; rfl, by have := HN.out.1; omega, HN.out.2.1⟩, HB.out.out2 _ _ _⟩
      have h2 := HX.out.up.size
      have h3 := HA.out.up.size
      have hs := HA.out.res.lt
      exact (hrd.only (HB.out.after _ _ _) (fun k hk hl => by have : w2.heap.size ≤ k := hl; omega)).lo fun b hb => HP.out b (by have : w2.heap.size ≤ b := hb; omega)
end Go.Proofs.YtdiiilnebepfdaaGreatDoor

/- Package proc: Find. -/
import Derived.Test.YtflpjpdgacjlcaaPrf
import Derived.WalkKit
import Derived.WalkSpells
import Derived.BigRegion
import Derived.BigQuiet
import Derived.Deep.QuietTactic
import Derived.Lib.QuietBelow
namespace Go.Proofs.Ytflpjpdgacjlcaa
open Go.RowKit

theorem slot_i64 {h : Int} (hs : 0 ≤ slotF h) : fineB h = true := by
  cases e : fineB h
  · rw [slotF_no h e] at hs
    omega
  · rfl
set_option maxHeartbeats 4000000 in
theorem c_prfind {w : World} {pl : Nat → Prop} {A : Option Addr} {n c : Nat} {L : List PR} (hR : TW prK w pl A n L) (h : Int) (hw : I64 h) :
    Calls Try.prog 9 #[.slice A n c, .int .i64 h] w fun e w' => e = .returned (.tuple #[.int .i64 (findT L h).1, .int .i64 (findT L h).2]) ∧ Below w.heap.size w w' := by
  have CF := fun W (hb : Below w.heap.size w W) => c_prfine (c := c) (hR.below hb)
  have CS := fun W => c_slot h hw W
  have hl := hR.len
  cases hf : fineT L
  · have HE : Hid (findT L h = (0, 1)) := Lib.hid (if_pos hf)
    rw [hf] at CF
    have CF := Lib.hid CF
    have CS := Lib.hid CS
    generalize slotF h = s at CS
    clear hR hl hf
    go_enter Try.func9, Try.ntmps9
    go_wp2_with fail
    refine (CS.out _).mono ?_; rintro e w1 ⟨rfl, rfl⟩
    go_wp2_with fail
    refine (CF.out _ (Below.refl _ _)).mono ?_; rintro e w2 ⟨rfl, hb2⟩
    go_wp2
    refine bodyPost_ret (v := .tuple #[.int .i64 0, .int .i64 1]) (by simp [results, Try.results9, go_sem]) rfl ?_
    exact ⟨by rw [HE.out], hb2⟩
  · rw [hf] at CF
    have h16 := fineT_len hf
    have hn : n = 16 := by omega
    by_cases hs : slotF h < 0 ∨ 16 ≤ slotF h
    · have HE : Hid (findT L h = (0, 8)) := Lib.hid (by unfold findT; rw [if_neg (by rw [hf]; decide), if_pos hs])
      generalize slotF h = s at CS hs
      by_cases hs0 : s < 0
      · have g0 : decide (s < 0) = true := decide_eq_true hs0
        have CF := Lib.hid CF
        have CS := Lib.hid CS
        clear hR hl hf hs hs0 hn h16
        go_enter Try.func9, Try.ntmps9
        go_wp2_with fail
        refine (CS.out _).mono ?_; rintro e w1 ⟨rfl, rfl⟩
        go_wp2_with fail
        refine (CF.out _ (Below.refl _ _)).mono ?_; rintro e w2 ⟨rfl, hb2⟩
        go_wp2
        refine bodyPost_ret (v := .tuple #[.int .i64 0, .int .i64 8]) (by simp [results, Try.results9, go_sem]) rfl ?_
        exact ⟨by rw [HE.out], hb2⟩
      · have g0 : decide (s < 0) = false := decide_eq_false hs0
        have g1 : decide ((n : Int) ≤ s) = true := decide_eq_true (by omega)
        have CF := Lib.hid CF
        have CS := Lib.hid CS
        clear hR hl hf hs hs0 hn h16
        go_enter Try.func9, Try.ntmps9
        go_wp2_with fail
        refine (CS.out _).mono ?_; rintro e w1 ⟨rfl, rfl⟩
        go_wp2_with fail
        refine (CF.out _ (Below.refl _ _)).mono ?_; rintro e w2 ⟨rfl, hb2⟩
        go_wp2
        refine bodyPost_ret (v := .tuple #[.int .i64 0, .int .i64 8]) (by simp [results, Try.results9, go_sem]) rfl ?_
        exact ⟨by rw [HE.out], hb2⟩
    · obtain ⟨k, hk⟩ : ∃ k : Nat, slotF h = k := ⟨(slotF h).toNat, by omega⟩
      have hkn : k < n := by omega
      have HE0 : findT L h = if (getP L (slotF h)).live = true ∧ (getP L (slotF h)).gen = genF h then (slotF h, 0) else (0, 9) := by
        unfold findT
        rw [if_neg (by rw [hf]; decide), if_neg hs]
      rw [hk] at HE0 CS
      obtain ⟨b, o, q, hA, _, hq, _⟩ := pr_at hR k hkn
      rw [getP_of hq] at HE0
      subst hA
      have HQ := Lib.hid hq
      have HR := Lib.hid hR
      have g0 : decide ((k : Int) < 0) = false := by simp
      have g1 : decide ((n : Int) ≤ (k : Int)) = false := decide_eq_false (by omega)
      have hk0 : (0 : Int) ≤ k := by omega
      have hk1 : (k : Int) < (n : Int) := by omega
      have CF := Lib.hid CF
      have CS := Lib.hid CS
      have hx : ∀ W, Below w.heap.size w W → W.cell? ⟨b, o + k * 42, none⟩ = some (.int .i64 q.gen) ∧ W.cell? ⟨b, o + k * 42 + 1, none⟩ = some (.bool q.live) := fun W hb => by
        obtain ⟨b', o', q', e, _, hq', _, c0, c1, _⟩ := pr_at (HR.out.below hb) k hkn
        injection e with e
        injection e with e1 e2
        subst e1 e2
        obtain rfl : q = q' := by rw [HQ.out] at hq'; exact Option.some.inj hq'
        exact ⟨c0, c1⟩
      have HC := Lib.hid hx
      have HK := Lib.hid hkn
      obtain ⟨lv, hlv⟩ : ∃ r, q.live = r := ⟨_, rfl⟩
      rw [hlv] at HE0 HC
      clear hR hl hf hs hn h16 hk hx hq hkn hlv
      cases lv
      · have HE : Hid (findT L h = (0, 9)) := Lib.hid (by rw [HE0, if_neg (by simp)])
        clear HE0
        go_enter Try.func9, Try.ntmps9
        go_wp2_with fail
        refine (CS.out _).mono ?_; rintro e w1 ⟨rfl, rfl⟩
        go_wp2_with fail
        refine (CF.out _ (Below.refl _ _)).mono ?_; rintro e w2 ⟨rfl, hb2⟩
        have i0 := cell_regrown (HC.out w2 hb2).1
        have i1 := cell_regrown (HC.out w2 hb2).2
        have HB := Lib.hid hb2
        clear hb2
        go_upto_region 6 with fail
        refine wp_region_quiet_below (by kernel_rfl) (by kernel_rfl) ?_
        repeat (go_big_quiet_step (fail))
        refine wpQuiet_nil ?_
        intro _ hw'
        obtain ⟨⟨dq, osq⟩, hw''⟩ := hw'
        have HQ2 := Lib.hid (up_trans HB.out (hw'' ▸ below_regrown w2 dq osq))
        clear hw'' i0 i1
        go_wp2
        refine bodyPost_ret (v := .tuple #[.int .i64 0, .int .i64 9]) (by simp [results, Try.results9, go_sem]) rfl ?_
        exact ⟨by rw [HE.out], HQ2.out⟩
      · obtain ⟨x, hx⟩ : ∃ x, (q.gen != genF h) = x := ⟨_, rfl⟩
        have HE : Hid (findT L h = if x = true then (0, 9) else ((k : Int), 0)) := Lib.hid (by
          rw [HE0, ← hx]
          by_cases he : q.gen = genF h
          · rw [if_pos ⟨rfl, he⟩, if_neg (by simp [he])]
          · rw [if_neg (fun hh => he hh.2), if_pos (by simp [he])])
        have CG0 := fun W => c_gen h hw W
        generalize genF h = gg at hx CG0
        have CG := Lib.hid CG0
        clear HE0 CG0
        cases x
        · skip
          go_enter Try.func9, Try.ntmps9
          go_wp2_with fail
          refine (CS.out _).mono ?_; rintro e w1 ⟨rfl, rfl⟩
          go_wp2_with fail
          refine (CF.out _ (Below.refl _ _)).mono ?_; rintro e w2 ⟨rfl, hb2⟩
          have i0 := cell_regrown (HC.out w2 hb2).1
          have i1 := cell_regrown (HC.out w2 hb2).2
          have cG := grown_call (w := w2) fun V _ => same_below (CG.out V)
          have HB := Lib.hid hb2
          clear hb2
          go_upto_region 6 with fail
          refine wp_region_quiet_below (by kernel_rfl) (by kernel_rfl) ?_
          repeat (go_big_quiet_step (with_reducible exact cG _ _))
          refine wpQuiet_nil ?_
          intro _ hw'
          obtain ⟨⟨dq, osq⟩, hw''⟩ := hw'
          have HQ2 := Lib.hid (up_trans HB.out (hw'' ▸ below_regrown w2 dq osq))
          clear hw'' i0 i1 cG
          go_wp2
          refine bodyPost_ret (v := .tuple #[.int .i64 k, .int .i64 0]) (by simp [results, Try.results9, go_sem]) rfl ?_
          exact ⟨by rw [HE.out]; rfl, HQ2.out⟩
        · skip
          go_enter Try.func9, Try.ntmps9
          go_wp2_with fail
          refine (CS.out _).mono ?_; rintro e w1 ⟨rfl, rfl⟩
          go_wp2_with fail
          refine (CF.out _ (Below.refl _ _)).mono ?_; rintro e w2 ⟨rfl, hb2⟩
          have i0 := cell_regrown (HC.out w2 hb2).1
          have i1 := cell_regrown (HC.out w2 hb2).2
          have cG := grown_call (w := w2) fun V _ => same_below (CG.out V)
          have HB := Lib.hid hb2
          clear hb2
          go_upto_region 6 with fail
          refine wp_region_quiet_below (by kernel_rfl) (by kernel_rfl) ?_
          repeat (go_big_quiet_step (with_reducible exact cG _ _))
          refine wpQuiet_nil ?_
          intro _ hw'
          obtain ⟨⟨dq, osq⟩, hw''⟩ := hw'
          have HQ2 := Lib.hid (up_trans HB.out (hw'' ▸ below_regrown w2 dq osq))
          clear hw'' i0 i1 cG
          go_wp2
          refine bodyPost_ret (v := .tuple #[.int .i64 0, .int .i64 9]) (by simp [results, Try.results9, go_sem]) rfl ?_
          exact ⟨by rw [HE.out]; rfl, HQ2.out⟩
end Go.Proofs.Ytflpjpdgacjlcaa

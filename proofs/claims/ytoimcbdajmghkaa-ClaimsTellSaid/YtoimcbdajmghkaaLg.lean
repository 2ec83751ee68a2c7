/- The document's Head and Ahead of layer 17. -/
import Derived.Test.YtoimcbdajmghkaaLf
import Derived.Test.YtoimcbdajmghkaaLd
namespace Go.Proofs.Ytoimcbdajmghkaa
open Go.RowKit

set_option maxHeartbeats 1000000 in
theorem c_mhead {w : World} {pl : Nat → Prop} {A : Option Addr} {n c : Nat} {L : List Int} (h : LnW w pl A n c L) (hn : n ≤ 1000) (sh : Bool) :
    Calls Try.prog 11 #[.agg #[.bool sh, .slice A n c]] w fun e w' => e = .returned (.tuple #[.int .i64 (lnHead sh L), .bool (lnSome sh L)]) ∧ Below w.heap.size w w' := by
  have hb0 := up_alloc w (.cells #[.bool sh, .slice A n c] 24)
  have hB := box_rl w sh A n c
  have CF := Lib.hid (c_mfine (h.below hb0) (by omega) sh)
  have HR := Lib.hid h
  have HB := Lib.hid hB
  have HL := Lib.hid h.len
  have HS := Lib.hid (show lnSome sh L = (lnFine sh L && decide (0 < L.length)) from rfl)
  have HH := Lib.hid (show lnHead sh L = if lnSome sh L = true then L.headD 0 else 0 from rfl)
  generalize lnSome sh L = s at HS HH ⊢
  generalize lnHead sh L = v at HH ⊢
  generalize lnFine sh L = q at CF HS
  clear h hb0 hB
  cases q
  · have E := Lib.hid (show s = false by rw [HS.out]; rfl)
    have E2 := Lib.hid (show v = 0 by rw [HH.out, E.out]; rfl)
    go_enter Try.func11, Try.ntmps11
    go_wp2_with fail
    refine CF.out.mono ?_; rintro e w2 ⟨rfl, hb2⟩
    have HU := Lib.hid (up_trans (up_alloc _ _) hb2)
    clear hb2
    go_wp2_with fail
    go_ret2
    exact ⟨ret_ib' E2.out E.out, HU.out⟩
  · rcases Nat.eq_zero_or_pos n with rfl | h0
    · have E := Lib.hid (show s = false by rw [HS.out]; have := HL.out; simp [this])
      have E2 := Lib.hid (show v = 0 by rw [HH.out, E.out]; rfl)
      go_enter Try.func11, Try.ntmps11
      go_wp2_with fail
      refine CF.out.mono ?_; rintro e w2 ⟨rfl, hb2⟩
      have HU := Lib.hid (up_trans (up_alloc _ _) hb2)
      have hB2 := HB.out.up hb2 HB.out.lt
      have b1 := hB2.cell 1 _ rfl
      clear hb2 hB2
      go_wp2_with fail
      go_ret2
      exact ⟨ret_ib' E2.out E.out, HU.out⟩
    · have E := Lib.hid (show s = true by rw [HS.out]; have := HL.out; simp [this]; omega)
      have E2 := Lib.hid (show v = L.headD 0 by rw [HH.out, E.out]; rfl)
      have hz : ((n : Int) == 0) = false := beq_eq_false_iff_ne.2 (by omega)
      have h0' : (0 : Int) < n := by omega
      obtain ⟨b, o, rfl, _, hblt, hc⟩ := HR.out.rd.at_ h0
      have H1 : Hid (w.cell? ⟨b, o, none⟩ = some (.int .i64 (L.headD 0))) := Lib.hid (by
        have hL := HL.out
        rcases L with _ | ⟨x, L⟩
        · simp at hL; omega
        · simpa using hc 0 (.int .i64 x) rfl)
      clear hc
      go_enter Try.func11, Try.ntmps11
      go_wp2_with fail
      refine CF.out.mono ?_; rintro e w2 ⟨rfl, hb2⟩
      have HU := Lib.hid (up_trans (up_alloc _ _) hb2)
      have hB2 := HB.out.up hb2 HB.out.lt
      have b1 := hB2.cell 1 _ rfl
      have h1 := (HU.out.cell (p := ⟨b, o, none⟩) hblt).trans H1.out
      clear hb2 hB2
      generalize L.headD 0 = x at h1 E2
      go_wp2_with fail
      go_ret2
      exact ⟨ret_ib' E2.out E.out, HU.out⟩

set_option maxHeartbeats 1000000 in
theorem c_mahead {w : World} {pl : Nat → Prop} {A : Option Addr} {n c : Nat} {L : List Int} (h : LnW w pl A n c L) (hn : n ≤ 1000) (sh : Bool) (p : Int) :
    Calls Try.prog 13 #[.agg #[.bool sh, .slice A n c], .int .i64 p] w fun e w' => e = .returned (.tuple #[.int .i64 (lnAhead sh L p), .bool (lnThere sh L p)]) ∧ Below w.heap.size w w' := by
  have hb0 := up_alloc w (.cells #[.bool sh, .slice A n c] 24)
  have hB := box_rl w sh A n c
  have CF := Lib.hid (c_mfine (h.below hb0) (by omega) sh)
  have CI := Lib.hid (fun W (hW : Below w.heap.size w W) => c_mat (c := c) (h.below hW).rd h.len (by omega) p)
  have HB := Lib.hid hB
  have HS := Lib.hid (show lnThere sh L p = (lnFine sh L && decide (p ∈ L)) from rfl)
  have HH := Lib.hid (show lnAhead sh L p = if lnThere sh L p = true then (ixN L p : Int) else 0 from rfl)
  generalize lnThere sh L p = s at HS HH ⊢
  generalize lnAhead sh L p = v at HH ⊢
  generalize lnFine sh L = q at CF HS
  clear h hb0 hB
  cases q
  · have E := Lib.hid (show s = false by rw [HS.out]; rfl)
    have E2 := Lib.hid (show v = 0 by rw [HH.out, E.out]; rfl)
    go_enter Try.func13, Try.ntmps13
    go_wp2_with fail
    refine (CI.out _ (up_alloc _ _)).mono ?_; rintro e w' ⟨rfl, rfl⟩
    go_wp2_with fail
    refine CF.out.mono ?_; rintro e w2 ⟨rfl, hb2⟩
    have HU := Lib.hid (up_trans (up_alloc _ _) hb2)
    clear hb2
    go_wp2_with fail
    go_ret2
    exact ⟨ret_ib' E2.out E.out, HU.out⟩
  · by_cases hm : p ∈ L
    · have E := Lib.hid (show s = true by rw [HS.out]; simp [hm])
      have E2 := Lib.hid (show v = (ixN L p : Int) by rw [HH.out, E.out]; rfl)
      rw [ixL_yes hm] at CI
      generalize ixN L p = k at CI E2
      have hk : ¬ (k : Int) < 0 := by omega
      clear hm
      go_enter Try.func13, Try.ntmps13
      go_wp2_with fail
      refine (CI.out _ (up_alloc _ _)).mono ?_; rintro e w' ⟨rfl, rfl⟩
      go_wp2_with fail
      refine CF.out.mono ?_; rintro e w2 ⟨rfl, hb2⟩
      have HU := Lib.hid (up_trans (up_alloc _ _) hb2)
      clear hb2
      go_wp2_with fail
      go_ret2
      exact ⟨ret_ib' E2.out E.out, HU.out⟩
    · have E := Lib.hid (show s = false by rw [HS.out]; simp [hm])
      have E2 := Lib.hid (show v = 0 by rw [HH.out, E.out]; rfl)
      rw [ixL_no hm] at CI
      clear hm
      go_enter Try.func13, Try.ntmps13
      go_wp2_with fail
      refine (CI.out _ (up_alloc _ _)).mono ?_; rintro e w' ⟨rfl, rfl⟩
      go_wp2_with fail
      refine CF.out.mono ?_; rintro e w2 ⟨rfl, hb2⟩
      have HU := Lib.hid (up_trans (up_alloc _ _) hb2)
      clear hb2
      go_wp2_with fail
      go_ret2
      exact ⟨ret_ib' E2.out E.out, HU.out⟩
end Go.Proofs.Ytoimcbdajmghkaa

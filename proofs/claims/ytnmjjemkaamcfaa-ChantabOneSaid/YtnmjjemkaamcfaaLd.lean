/- Package claims: Ahead. -/
import Derived.Test.YtnmjjemkaamcfaaLb
namespace Go.Proofs.Ytnmjjemkaamcfaa
open Go.RowKit

theorem ret_ib' {k : IntKind} {a b : Int} {c d : Bool} (h : b = a) (h' : d = c) : Ending.returned (.tuple #[.int k a, .bool c]) = .returned (.tuple #[.int k b, .bool d]) := by rw [h, h']

set_option maxHeartbeats 1000000 in
theorem c_lnahead {w : World} {pl : Nat → Prop} {A : Option Addr} {n c : Nat} {L : List Int} (h : LnW w pl A n c L) (hn : n ≤ 1000) (sh : Bool) (p : Int) :
    Calls Try.prog 60 #[.agg #[.bool sh, .slice A n c], .int .i64 p] w fun e w' => e = .returned (.tuple #[.int .i64 (lnAhead sh L p), .bool (lnThere sh L p)]) ∧ Below w.heap.size w w' := by
  have hb0 := up_alloc w (.cells #[.bool sh, .slice A n c] 71)
  have hB := box_ln w sh A n c
  have CF := Lib.hid (c_lnfine (h.below hb0) (by omega) sh)
  have CI := Lib.hid (fun W (hW : Below w.heap.size w W) => c_index (c := c) (h.below hW).rd h.len (by omega) p)
  have HB := Lib.hid hB
  have HS := Lib.hid (show lnThere sh L p = (lnFine sh L && decide (p ∈ L)) from rfl)
  have HH := Lib.hid (show lnAhead sh L p = if lnThere sh L p = true then (ixN L p : Int) else 0 from rfl)
  generalize lnThere sh L p = s at HS HH ⊢
  generalize lnAhead sh L p = v at HH ⊢
  generalize lnFine sh L = q at CF HS
  clear h hb0 hB
  cases q
  · have E := Lib.hid (show s = false by rw [HS.out]; rfl)
    have E2 := Lib.hid (show v = 0 by rw [HH.out, E.out]; rfl)
    go_enter Try.func60, Try.ntmps60
    go_wp2_with fail
    refine CF.out.mono ?_; rintro e w2 ⟨rfl, hb2⟩
    have HU := Lib.hid (up_trans (up_alloc _ _) hb2)
    clear hb2
    go_wp2_with fail
    go_ret2
    exact ⟨ret_ib' E2.out E.out, HU.out⟩
  · by_cases hm : p ∈ L
    · have E := Lib.hid (show s = true by rw [HS.out]; simp [hm])
      have E2 := Lib.hid (show v = (ixN L p : Int) by rw [HH.out, E.out]; rfl)
      rw [ixL_yes hm] at CI
      generalize ixN L p = k at CI E2
      have hk : ¬ (k : Int) < 0 := by omega
      clear hm
      go_enter Try.func60, Try.ntmps60
      go_wp2_with fail
      refine CF.out.mono ?_; rintro e w2 ⟨rfl, hb2⟩
      have HU := Lib.hid (up_trans (up_alloc _ _) hb2)
      have hB2 := HB.out.up hb2 HB.out.lt
      have b1 := hB2.cell 1 _ rfl
      clear hb2 hB2
      go_wp2_with fail
      refine (CI.out _ HU.out).mono ?_; rintro e w' ⟨rfl, rfl⟩
      go_wp2_with fail
      go_ret2
      exact ⟨ret_ib' E2.out E.out, HU.out⟩
    · have E := Lib.hid (show s = false by rw [HS.out]; simp [hm])
      have E2 := Lib.hid (show v = 0 by rw [HH.out, E.out]; rfl)
      rw [ixL_no hm] at CI
      clear hm
      go_enter Try.func60, Try.ntmps60
      go_wp2_with fail
      refine CF.out.mono ?_; rintro e w2 ⟨rfl, hb2⟩
      have HU := Lib.hid (up_trans (up_alloc _ _) hb2)
      have hB2 := HB.out.up hb2 HB.out.lt
      have b1 := hB2.cell 1 _ rfl
      clear hb2 hB2
      go_wp2_with fail
      refine (CI.out _ HU.out).mono ?_; rintro e w' ⟨rfl, rfl⟩
      go_wp2_with fail
      go_ret2
      exact ⟨ret_ib' E2.out E.out, HU.out⟩
end Go.Proofs.Ytnmjjemkaamcfaa

/- Package claims: Leave. -/
import Derived.Test.YtnmjjemkaamcfaaLc
import Derived.Test.YtnmjjemkaamcfaaLd
import Derived.Test.YtnmjjemkaamcfaaSd
namespace Go.Proofs.Ytnmjjemkaamcfaa
open Go.RowKit

set_option maxHeartbeats 2000000 in
theorem c_lnleave {w : World} {pl : Nat → Prop} {A : Option Addr} {n c : Nat} {L : List Int} (h : LnW w pl A n c L) (hn : n ≤ 1000) (hp : ∀ b, w.heap.size ≤ b → pl b) (sh : Bool) (p : Int) :
    Calls Try.prog 62 #[.agg #[.bool sh, .slice A n c], .int .i64 p] w (LnPost w pl sh (lnLeaveL sh L p) (.bool (lnThere sh L p))) := by
  have HX := Lib.hid (lnbox w sh (.slice A n c) 71)
  have HV := Lib.hid h
  have HP := Lib.hid hp
  have HL := Lib.hid h.len
  have CA := Lib.hid (fun W (hW : Below w.heap.size w W) => c_lnahead (h.below hW) (by omega) sh p)
  have CK := Lib.hid (fun W (hW : Below w.heap.size w W) => c_sclone (c := c) (h.below hW).rd h.len (by omega))
  have HE := Lib.hid (show lnLeaveL sh L p = if lnThere sh L p = true then L.take (ixN L p) ++ L.drop (ixN L p + 1) else L from rfl)
  have HA0 := Lib.hid (show lnAhead sh L p = if lnThere sh L p = true then (ixN L p : Int) else 0 from rfl)
  have HM : Hid (lnThere sh L p = true → ixN L p < L.length) := Lib.hid fun hh => by
    unfold lnThere at hh
    rw [Bool.and_eq_true, decide_eq_true_iff] at hh
    exact ixN_mem.2 hh.2
  generalize lnLeaveL sh L p = L' at HE ⊢
  generalize lnThere sh L p = s at CA HE HA0 HM ⊢
  generalize lnAhead sh L p = v at CA HA0
  clear h hp
  cases s
  · have E2 := Lib.hid (show L' = L by rw [HE.out]; rfl)
    go_enter Try.func62, Try.ntmps62
    go_wp2_with fail
    refine (CA.out _ HX.out.up).mono ?_; rintro e w2 ⟨rfl, hb2⟩
    have HA := Lib.hid (HX.out.at_ hb2)
    have b0 := HA.out.box.cell 0 _ rfl
    have b1 := HA.out.box.cell 1 _ rfl
    have r0 := HA.out.res.cell 0 _ rfl
    have r1 := HA.out.res.cell 1 _ rfl
    have f0 := HA.out.res.free 0
    have f1 := HA.out.res.free 1
    clear hb2
    go_wp2_with fail
    refine bodyPost_ret (v := .tuple #[.agg #[.bool sh, .slice A n c], .bool false]) (by simp [results, Try.results62, go_sem, r0, r1]) rfl ?_
    rw [E2.out]
    exact ⟨A, n, c, rfl, HV.out.below (HA.out.out _ _), HA.out.out _ _⟩
  · have E2 := Lib.hid (show L' = L.take (ixN L p) ++ L.drop (ixN L p + 1) by rw [HE.out]; rfl)
    have E3 : v = (ixN L p : Int) := by rw [HA0.out]; rfl
    have hi : ixN L p < n := by have := HM.out rfl; have := HL.out; omega
    generalize ixN L p = i at E2 E3 hi
    subst E3
    have hi' : (i : Int) ≤ n := by omega
    go_enter Try.func62, Try.ntmps62
    go_wp2_with fail
    refine (CA.out _ HX.out.up).mono ?_; rintro e w2 ⟨rfl, hb2⟩
    have HA := Lib.hid (HX.out.at_ hb2)
    have b0 := HA.out.box.cell 0 _ rfl
    have b1 := HA.out.box.cell 1 _ rfl
    clear hb2
    go_wp2_with fail
    refine (CK.out _ HA.out.up).mono ?_; rintro e w3 ⟨v, rfl, hown, hb3⟩
    clear b0 b1
    have HA3 := Lib.hid (HA.out.next hb3)
    obtain ⟨m, hm⟩ : ∃ m, n = m + 1 := ⟨n - 1, by omega⟩
    obtain ⟨g, c3, rfl, hnc3, hcm3, hlo3, hg3⟩ := own_form hown (by omega)
    have CD := Lib.hid (c_sdel hown i hi hnc3 m hm)
    have H3' := Lib.hid hb3
    have HM1 := Lib.hid hm
    clear hown hb3 hm
    go_wp2_with fail
    refine CD.out.mono ?_; rintro e w4 ⟨rfl, hown4, ho4⟩
    have HB := Lib.hid (HA.out.next (H3'.out.trans (ho4.toBelow H3'.out.size (fun k hk => by rw [hk]; exact hlo3))))
    obtain ⟨A4, c4, e4, hnc4, hcm4, hrd4⟩ := own_slice hown4
    injection e4 with e4 _ e5
    subst e4
    subst e5
    have HN := Lib.hid (And.intro hnc4 (And.intro hcm4 hrd4))
    clear hnc4 hcm4 hrd4 hown4 ho4
    have b0 := HB.out.box.cell 0 _ rfl
    have b1 := HB.out.box.cell 1 _ rfl
    have g1 := HB.out.box.free 1
    have r0 := HB.out.res.cell 0 _ rfl
    have r1 := HB.out.res.cell 1 _ rfl
    have f0 := HB.out.res.free 0
    have f1 := HB.out.res.free 1
    go_wp2_with fail
    refine bodyPost_ret (v := .tuple #[.agg #[.bool sh, .slice (some ⟨g, 0, none⟩) m c3], .bool true]) (by simp [results, Try.results62, go_sem, r0, r1]) rfl ?_
    rw [E2.out]
    refine ⟨some ⟨g, 0, none⟩, m, c3, rfl, ⟨?_, by have := HL.out; have := HM1.out; simp; omega, HN.out.1, HN.out.2.1⟩, HB.out.out2 _ _ _⟩
    have h2 := HX.out.up.size
    have h3 := HA.out.up.size
    have hs := HA.out.res.lt
    exact (HN.out.2.2.only (HB.out.after _ _ _) (fun k hk hl => by have : w2.heap.size ≤ k := hl; omega)).lo fun b hb => HP.out b (by have : w2.heap.size ≤ b := hb; omega)
end Go.Proofs.Ytnmjjemkaamcfaa

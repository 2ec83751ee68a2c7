/- The document's Leave of layer 17. -/
import Derived.Test.YtailbjhffkcnfaaLf
import Derived.Test.YtailbjhffkcnfaaLe
import Derived.IntWalk
namespace Go.Proofs.Ytailbjhffkcnfaa
open Go.RowKit

set_option maxHeartbeats 4000000 in
theorem c_mleave {w : World} {pl : Nat → Prop} {A : Option Addr} {n c : Nat} {L : List Int} (h : LnW w pl A n c L) (hn : n ≤ 1000) (hp : ∀ b, w.heap.size ≤ b → pl b) (sh : Bool) (p : Int) :
    Calls Try.prog 50 #[.agg #[.bool sh, .slice A n c], .int .i64 p] w (LnPost w pl sh (lnLeaveL sh L p) (.bool (lnThere sh L p))) := by
  have HX := Lib.hid (lnbox w sh (.slice A n c) 26)
  have HV := Lib.hid h
  have HP := Lib.hid hp
  have HL := Lib.hid h.len
  have CF := Lib.hid (c_mfine (h.below HX.out.up) (by omega) sh)
  have CC := Lib.hid (fun W (hW : Below w.heap.size w W) => c_mat (c := c) (h.below hW).rd h.len (by omega) p)
  have HE := Lib.hid (show lnLeaveL sh L p = if lnThere sh L p = true then L.take (ixN L p) ++ L.drop (ixN L p + 1) else L from rfl)
  have HT := Lib.hid (show lnThere sh L p = (lnFine sh L && decide (p ∈ L)) from rfl)
  generalize lnLeaveL sh L p = L' at HE ⊢
  generalize lnThere sh L p = s at HE HT ⊢
  generalize lnFine sh L = q at CF HT
  cases q
  · have E := Lib.hid (show s = false by rw [HT.out]; rfl)
    have E2 := Lib.hid (show L' = L by rw [HE.out, E.out]; rfl)
    clear h hp
    go_enter Try.func50, Try.ntmps50
    go_wp2_with fail
    refine (CC.out _ HX.out.up).mono ?_; rintro e w' ⟨rfl, rfl⟩
    go_wp2_with fail
    refine CF.out.mono ?_; rintro e w2 ⟨rfl, hb2⟩
    have HA := Lib.hid (HX.out.at_ hb2)
    have b0 := HA.out.box.cell 0 _ rfl
    have b1 := HA.out.box.cell 1 _ rfl
    have r0 := HA.out.res.cell 0 _ rfl
    have r1 := HA.out.res.cell 1 _ rfl
    have f0 := HA.out.res.free 0
    have f1 := HA.out.res.free 1
    clear hb2
    go_wp2_with fail
    refine bodyPost_ret (v := .tuple #[.agg #[.bool sh, .slice A n c], .bool false]) (by simp [results, Try.results50, go_sem, r0, r1]) rfl ?_
    rw [E2.out, E.out]
    exact ⟨A, n, c, rfl, HV.out.below (HA.out.out _ _), HA.out.out _ _⟩
  by_cases hm : p ∈ L
  case neg =>
    have E := Lib.hid (show s = false by rw [HT.out]; simp [hm])
    have E2 := Lib.hid (show L' = L by rw [HE.out, E.out]; rfl)
    rw [ixL_no hm] at CC
    clear h hp hm
    go_enter Try.func50, Try.ntmps50
    go_wp2_with fail
    refine (CC.out _ HX.out.up).mono ?_; rintro e w' ⟨rfl, rfl⟩
    go_wp2_with fail
    refine CF.out.mono ?_; rintro e w2 ⟨rfl, hb2⟩
    have HA := Lib.hid (HX.out.at_ hb2)
    have b0 := HA.out.box.cell 0 _ rfl
    have b1 := HA.out.box.cell 1 _ rfl
    have r0 := HA.out.res.cell 0 _ rfl
    have r1 := HA.out.res.cell 1 _ rfl
    have f0 := HA.out.res.free 0
    have f1 := HA.out.res.free 1
    clear hb2
    go_wp2_with fail
    refine bodyPost_ret (v := .tuple #[.agg #[.bool sh, .slice A n c], .bool false]) (by simp [results, Try.results50, go_sem, r0, r1]) rfl ?_
    rw [E2.out, E.out]
    exact ⟨A, n, c, rfl, HV.out.below (HA.out.out _ _), HA.out.out _ _⟩
  case pos =>
    have E := Lib.hid (show s = true by rw [HT.out]; simp [hm])
    have E2 := Lib.hid (show L' = L.take (ixN L p) ++ L.drop (ixN L p + 1) by rw [HE.out, E.out]; rfl)
    rw [ixL_yes hm] at CC
    have hi : ixN L p < n := by have := ixN_mem.2 hm; have := HL.out; omega
    generalize ixN L p = i at E2 CC hi
    have hi0 : ¬ (i : Int) < 0 := by omega
    obtain ⟨b, o, rfl, _, _, _⟩ := h.rd.at_ (by omega)
    have hnc := h.nc
    have HR1 : Hid (RD w pl 1 (some ⟨b, o, none⟩) i ((L.take i).map (Value.int .i64))) := Lib.hid (rd_pre h.rd i (by omega))
    have HR2 : Hid (RD w pl 1 (if c = i + 1 then some ⟨b, o, none⟩ else some ⟨b, o + (i + 1), none⟩) (n - (i + 1)) ((L.drop (i + 1)).map (Value.int .i64))) := Lib.hid (by
      have := RD.rest' h.rd (i + 1) c (by omega) hnc
      simpa using this)
    have h01 : (0 : Int) ≤ (i : Int) + 1 := by omega
    have h02 : (i : Int) + 1 ≤ n := by omega
    have hic : i ≤ c := by omega
    have hic1 : i + 1 ≤ c := by omega
    have hin : i + 1 ≤ n := by omega
    have hwr : IntKind.i64.wrap ((i : Int) + 1) = (i : Int) + 1  := IntWalk.i64_in _ (by omega)
    have hdi : decide ((i : Int) < 0) = false := by rw [decide_eq_false_iff_not]; omega
    obtain ⟨m, hmq⟩ : ∃ m, i + (n - (i + 1)) = m := ⟨_, rfl⟩
    have HMQ := Lib.hid hmq
    clear h hp hm
    go_enter Try.func50, Try.ntmps50
    go_wp2_with fail
    refine (CC.out _ HX.out.up).mono ?_; rintro e w' ⟨rfl, rfl⟩
    go_wp2_with fail
    refine CF.out.mono ?_; rintro e w2 ⟨rfl, hb2⟩
    have HA := Lib.hid (HX.out.at_ hb2)
    have b0 := HA.out.box.cell 0 _ rfl
    have b1 := HA.out.box.cell 1 _ rfl
    have g1 := HA.out.box.free 1
    clear hb2
    go_wp2_with fail
    go_region_law (first
      | (refine step_app ei_int rfl (.const (.slice none 0 0)) (.tmp 22) rfl (.slice none 0 0) [] rfl (World.ownsRow_nil _ w2.heap.size _ _) rfl (HR1.out.below (up_trans HA.out.up (up_drewN w2 1))) (int_cells _ _) (by omega) (by simp) ?_; intro v3 w3 hown3 hb3; have HO := Lib.hid hown3; have H3' := Lib.hid hb3; have HA3 := Lib.hid (HA.out.next ((up_drewN w2 1).trans hb3)); have b0 := HA3.out.box.cell 0 _ rfl; have b1 := HA3.out.box.cell 1 _ rfl; have g1 := HA3.out.box.free 1; clear hown3 hb3)
      | (refine step_app ei_int rfl (.tmp 23) (.tmp 28) rfl v3 _ rfl HO.out rfl (HR2.out.below HA3.out.up) (int_cells _ _) (by omega) (by have := H3'.out.size; simp at this; omega) ?_; intro v4 w4 hown4 hb4; obtain ⟨A4, c4, rfl, hnc4, hcm4, hrd4⟩ := own_slice hown4; have HB := Lib.hid (HA.out.next (((up_drewN w2 1).trans H3'.out).trans hb4)); have HN := Lib.hid (And.intro hnc4 (And.intro hcm4 hrd4)); clear b0 b1 g1 hnc4 hcm4 hrd4 hown4 hb4; have b0 := HB.out.box.cell 0 _ rfl; have b1 := HB.out.box.cell 1 _ rfl; have g1 := HB.out.box.free 1))
    all_goals
      clear b0 b1 g1 hmq
      have b0 := ((HB.out.box.set 1 (Value.slice A4 m c4)).cell 0 _ rfl)
      have b1 := ((HB.out.box.set 1 (Value.slice A4 m c4)).cell 1 _ rfl)
      have hres := HB.out.res.other ⟨w.heap.size, 1, none⟩ (by simp) (Value.slice A4 m c4)
      have r0 := hres.cell 0 _ rfl
      have r1 := hres.cell 1 _ rfl
      have f0 := hres.free 0
      have f1 := hres.free 1
      clear hres
      go_wp2_with fail
    all_goals
      refine bodyPost_ret (v := .tuple #[.agg #[.bool sh, .slice A4 m c4], .bool true]) (by simp [results, Try.results50, go_sem, r0, r1]) rfl ?_
      rw [E2.out, E.out]
      have hm0 := HMQ.out
      have hm1 : 0 + i + (n - (i + 1)) = m := by omega
      have hrd := HN.out.2.2
      rw [hm1] at hrd
      have hrd' : RD w4 (w2.heap.size ≤ ·) 1 A4 m ((L.take i ++ L.drop (i + 1)).map (Value.int .i64)) := by rw [List.map_append]; exact hrd
      refine ⟨A4, m, c4, rfl, ⟨?_, by have := HL.out; simp; omega, by have := HN.out.1; omega, HN.out.2.1⟩, HB.out.out2 _ _ _⟩
      have h2 := HX.out.up.size
      have h3 := HA.out.up.size
      have hs := HA.out.res.lt
      exact (hrd'.only (HB.out.after _ _ _) (fun k hk hl => by have : w2.heap.size ≤ k := hl; omega)).lo fun b hb => HP.out b (by have : w2.heap.size ≤ b := hb; omega)
end Go.Proofs.Ytailbjhffkcnfaa

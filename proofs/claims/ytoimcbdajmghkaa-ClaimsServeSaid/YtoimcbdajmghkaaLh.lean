/- The document's Join of layer 17. -/
import Derived.Test.YtoimcbdajmghkaaLf
import Derived.Test.YtoimcbdajmghkaaLc
namespace Go.Proofs.Ytoimcbdajmghkaa
open Go.RowKit

set_option maxHeartbeats 2000000 in
theorem c_mjoin {w : World} {pl : Nat → Prop} {A : Option Addr} {n c : Nat} {L : List Int} (h : LnW w pl A n c L) (hn : n ≤ 1000) (hp : ∀ b, w.heap.size ≤ b → pl b) (sh : Bool) (p : Int) :
    Calls Try.prog 7 #[.agg #[.bool sh, .slice A n c], .int .i64 p] w (LnPost w pl sh (lnJoinL sh L p) (.int .i64 (lnJoinE sh L p))) := by
  have HX := Lib.hid (lnbox w sh (.slice A n c) 24)
  have HV := Lib.hid h
  have HP := Lib.hid hp
  have HL := Lib.hid h.len
  have CF := Lib.hid (fun W (hW : Below w.heap.size w W) => c_mfine (h.below hW) (by omega) sh)
  have CC := Lib.hid (fun W (hW : Below w.heap.size w W) => c_mat (c := c) (h.below hW).rd h.len (by omega) p)
  have HE := Lib.hid (show lnJoinE sh L p = if lnFine sh L = false then 1 else if lnP p = false then 8 else if p ∈ L then 7 else if sh = false ∧ 0 < L.length then 15 else 0 from rfl)
  have HJ := Lib.hid (show lnJoinL sh L p = if lnJoinE sh L p = 0 then L ++ [p] else L from rfl)
  generalize lnJoinE sh L p = er at HE HJ ⊢
  generalize lnJoinL sh L p = L' at HJ ⊢
  generalize lnFine sh L = q1 at CF HE
  have HPn := Lib.hid (lnP_no p)
  have HPy := Lib.hid (lnP_iff p)
  generalize lnP p = q2 at HE HPn HPy
  have g3 := ixL_geq (L := L) (p := p)
  obtain ⟨q3, hq3⟩ : ∃ q, q = decide (p ∈ L) := ⟨_, rfl⟩
  rw [← hq3] at g3
  generalize ixL L p = ix at g3 CC
  have H3 := Lib.hid hq3
  clear h hp hq3
  cases q1
  · clear g3
    go_enter Try.func7, Try.ntmps7
    go_wp2_with fail
    refine (CF.out _ HX.out.up).mono ?_; rintro e w2 ⟨rfl, hb2⟩
    have HA := Lib.hid (HX.out.at_ hb2)
    have b0 := HA.out.box.cell 0 _ rfl
    have b1 := HA.out.box.cell 1 _ rfl
    have r0 := HA.out.res.cell 0 _ rfl
    have r1 := HA.out.res.cell 1 _ rfl
    have f0 := HA.out.res.free 0
    have f1 := HA.out.res.free 1
    have g1 := HA.out.box.free 1
    clear hb2
    go_wp2_with fail
    refine bodyPost_ret (v := .tuple #[.agg #[.bool sh, .slice A n c], .int .i64 1]) (by simp [results, Try.results7, go_sem, r0, r1]) rfl ?_
    have e1 : er = 1 := by rw [HE.out]; rfl
    have e2 : L' = L := by rw [HJ.out, e1]; rfl
    rw [e1, e2]
    exact ⟨A, n, c, rfl, HV.out.below (HA.out.out _ _), HA.out.out _ _⟩
  cases q2
  · have hpn := HPn.out rfl
    by_cases hp0 : p < 0
    · go_enter Try.func7, Try.ntmps7
      go_wp2_with fail
      refine (CF.out _ HX.out.up).mono ?_; rintro e w2 ⟨rfl, hb2⟩
      have HA := Lib.hid (HX.out.at_ hb2)
      have b0 := HA.out.box.cell 0 _ rfl
      have b1 := HA.out.box.cell 1 _ rfl
      have r0 := HA.out.res.cell 0 _ rfl
      have r1 := HA.out.res.cell 1 _ rfl
      have f0 := HA.out.res.free 0
      have f1 := HA.out.res.free 1
      have g1 := HA.out.box.free 1
      clear hb2
      go_wp2_with fail
      refine bodyPost_ret (v := .tuple #[.agg #[.bool sh, .slice A n c], .int .i64 8]) (by simp [results, Try.results7, go_sem, r0, r1]) rfl ?_
      have e1 : er = 8 := by rw [HE.out]; rfl
      have e2 : L' = L := by rw [HJ.out, e1]; rfl
      rw [e1, e2]
      exact ⟨A, n, c, rfl, HV.out.below (HA.out.out _ _), HA.out.out _ _⟩
    have hp1 : 15 < p := by omega
    clear hpn
    go_enter Try.func7, Try.ntmps7
    go_wp2_with fail
    refine (CF.out _ HX.out.up).mono ?_; rintro e w2 ⟨rfl, hb2⟩
    have HA := Lib.hid (HX.out.at_ hb2)
    have b0 := HA.out.box.cell 0 _ rfl
    have b1 := HA.out.box.cell 1 _ rfl
    have r0 := HA.out.res.cell 0 _ rfl
    have r1 := HA.out.res.cell 1 _ rfl
    have f0 := HA.out.res.free 0
    have f1 := HA.out.res.free 1
    have g1 := HA.out.box.free 1
    clear hb2
    go_wp2_with fail
    refine bodyPost_ret (v := .tuple #[.agg #[.bool sh, .slice A n c], .int .i64 8]) (by simp [results, Try.results7, go_sem, r0, r1]) rfl ?_
    have e1 : er = 8 := by rw [HE.out]; rfl
    have e2 : L' = L := by rw [HJ.out, e1]; rfl
    rw [e1, e2]
    exact ⟨A, n, c, rfl, HV.out.below (HA.out.out _ _), HA.out.out _ _⟩
  obtain ⟨hp0', hp1'⟩ := HPy.out.1 rfl
  have hp0 : ¬ p < 0 := by omega
  have hp1 : ¬ 15 < p := by omega
  clear hp0' hp1'
  cases q3
  case true =>
    go_enter Try.func7, Try.ntmps7
    go_wp2_with fail
    refine (CF.out _ HX.out.up).mono ?_; rintro e w2 ⟨rfl, hb2⟩
    have HA := Lib.hid (HX.out.at_ hb2)
    have b0 := HA.out.box.cell 0 _ rfl
    have b1 := HA.out.box.cell 1 _ rfl
    have r0 := HA.out.res.cell 0 _ rfl
    have r1 := HA.out.res.cell 1 _ rfl
    have f0 := HA.out.res.free 0
    have f1 := HA.out.res.free 1
    have g1 := HA.out.box.free 1
    clear hb2
    go_wp2_with fail
    refine (CC.out _ HA.out.up).mono ?_; rintro e w' ⟨rfl, rfl⟩
    go_wp2_with fail
    refine bodyPost_ret (v := .tuple #[.agg #[.bool sh, .slice A n c], .int .i64 7]) (by simp [results, Try.results7, go_sem, r0, r1]) rfl ?_
    have e1 : er = 7 := by rw [HE.out]; have := H3.out; simp at this; simp [this]
    have e2 : L' = L := by rw [HJ.out, e1]; rfl
    rw [e1, e2]
    exact ⟨A, n, c, rfl, HV.out.below (HA.out.out _ _), HA.out.out _ _⟩
  have hno : ¬ p ∈ L := by have := H3.out; simpa using this
  by_cases hbusy : sh = false ∧ 0 < n
  · obtain ⟨rfl, h0⟩ := hbusy
    have h0' : (0 : Int) < n := by omega
    have HNO := Lib.hid hno
    clear hno
    go_enter Try.func7, Try.ntmps7
    go_wp2_with fail
    refine (CF.out _ HX.out.up).mono ?_; rintro e w2 ⟨rfl, hb2⟩
    have HA := Lib.hid (HX.out.at_ hb2)
    have b0 := HA.out.box.cell 0 _ rfl
    have b1 := HA.out.box.cell 1 _ rfl
    have r0 := HA.out.res.cell 0 _ rfl
    have r1 := HA.out.res.cell 1 _ rfl
    have f0 := HA.out.res.free 0
    have f1 := HA.out.res.free 1
    have g1 := HA.out.box.free 1
    clear hb2
    go_wp2_with fail
    refine (CC.out _ HA.out.up).mono ?_; rintro e w' ⟨rfl, rfl⟩
    go_wp2_with fail
    refine bodyPost_ret (v := .tuple #[.agg #[.bool false, .slice A n c], .int .i64 15]) (by simp [results, Try.results7, go_sem, r0, r1]) rfl ?_
    have e1 : er = 15 := by rw [HE.out]; have := HL.out; have := HNO.out; simp [*]
    have e2 : L' = L := by rw [HJ.out, e1]; rfl
    rw [e1, e2]
    exact ⟨A, n, c, rfl, HV.out.below (HA.out.out _ _), HA.out.out _ _⟩
  · have HD : Hid (er = 0) := Lib.hid (by rw [HE.out]; have := HL.out; simp only [hno, this]; simp; intro h; exact Nat.eq_zero_of_not_pos fun k => hbusy ⟨h, k⟩)
    have hsh : (¬ (0 : Int) < n) ∨ (0 : Int) < n ∧ sh = true := by
      by_cases h0 : 0 < n
      · cases sh
        · exact absurd ⟨rfl, h0⟩ hbusy
        · exact .inr ⟨by omega, rfl⟩
      · exact .inl (by omega)
    clear hbusy hno
    rcases hsh with h0 | ⟨h0, rfl⟩
    · go_enter Try.func7, Try.ntmps7
      go_wp2_with fail
      refine (CF.out _ HX.out.up).mono ?_; rintro e w2 ⟨rfl, hb2⟩
      have HA := Lib.hid (HX.out.at_ hb2)
      have b0 := HA.out.box.cell 0 _ rfl
      have b1 := HA.out.box.cell 1 _ rfl
      have r0 := HA.out.res.cell 0 _ rfl
      have r1 := HA.out.res.cell 1 _ rfl
      have f0 := HA.out.res.free 0
      have f1 := HA.out.res.free 1
      have g1 := HA.out.box.free 1
      clear hb2
      go_wp2_with fail
      refine (CC.out _ HA.out.up).mono ?_; rintro e w' ⟨rfl, rfl⟩
      clear r0 r1 f0 f1 g1
      have hs0 := HA.out.up.size
      go_wp2_with (first
        | (at_builtin; refine wpList_app ei_int rfl (.const (.slice none 0 0)) (.tmp 34) rfl (.slice none 0 0) [] rfl (World.ownsRow_nil _ w2.heap.size _ _) rfl (HV.out.below HA.out.up).rd (int_cells _ _) (by omega) (by simp) ?_; intro v3 w3 hown3 hb3; have HO := Lib.hid hown3; have H3' := Lib.hid hb3; have hrow := RD.one (w := w3) (v := .int .i64 p) (t := 3) rfl; clear hown3 hb3)
        | (at_builtin; refine wpList_app ei_int rfl (.tmp 35) (.tmp 37) rfl v3 _ rfl (own_below HO.out (up_alloc _ _)) rfl hrow (by simp [Value.oneCell']) (by omega) (by have := H3'.out.size; simp; omega) ?_; intro v4 w4 hown4 hb4; obtain ⟨A4, c4, rfl, hnc4, hcm4, hrd4⟩ := own_slice hown4; have HB := Lib.hid (HA.out.next ((H3'.out.trans ((up_alloc w3 _).mono H3'.out.size)).trans hb4)); have HN := Lib.hid (And.intro hnc4 (And.intro hcm4 hrd4)); clear b0 b1 hnc4 hcm4 hrd4 hown4 hb4; have b0 := HB.out.box.cell 0 _ rfl; have b1 := HB.out.box.cell 1 _ rfl; have g1 := HB.out.box.free 1; have r0 := HB.out.res.cell 0 _ rfl; have r1 := HB.out.res.cell 1 _ rfl; have f0 := HB.out.res.free 0; have f1 := HB.out.res.free 1))
      have en : 0 + n + 1 = n + 1 := by omega
      refine bodyPost_ret (v := .tuple #[.agg #[.bool sh, .slice A4 (n + 1) c4], .int .i64 0]) (by simp [results, Try.results7, go_sem, r0, r1]) rfl ?_
      have e2 : L' = L ++ [p] := by rw [HJ.out, HD.out]; rfl
      rw [HD.out, e2]
      have hrd : RD w4 (w2.heap.size ≤ ·) 1 A4 (n + 1) ((L ++ [p]).map (Value.int .i64)) := by
        have := HN.out.2.2
        rw [en] at this
        rw [List.map_append]
        exact this
      refine ⟨A4, n + 1, c4, rfl, ⟨?_, by rw [List.length_append, HL.out]; rfl, by have := HN.out.1; omega, HN.out.2.1⟩, HB.out.out2 _ _ _⟩
      have h2 := HX.out.up.size
      have h3 := HA.out.up.size
      have hs := HA.out.res.lt
      exact (hrd.only (HB.out.after _ _ _) (fun k hk hl => by have : w2.heap.size ≤ k := hl; omega)).lo fun b hb => HP.out b (by have : w2.heap.size ≤ b := hb; omega)
    · go_enter Try.func7, Try.ntmps7
      go_wp2_with fail
      refine (CF.out _ HX.out.up).mono ?_; rintro e w2 ⟨rfl, hb2⟩
      have HA := Lib.hid (HX.out.at_ hb2)
      have b0 := HA.out.box.cell 0 _ rfl
      have b1 := HA.out.box.cell 1 _ rfl
      have r0 := HA.out.res.cell 0 _ rfl
      have r1 := HA.out.res.cell 1 _ rfl
      have f0 := HA.out.res.free 0
      have f1 := HA.out.res.free 1
      have g1 := HA.out.box.free 1
      clear hb2
      go_wp2_with fail
      refine (CC.out _ HA.out.up).mono ?_; rintro e w' ⟨rfl, rfl⟩
      clear r0 r1 f0 f1 g1
      have hs0 := HA.out.up.size
      go_wp2_with (first
        | (at_builtin; refine wpList_app ei_int rfl (.const (.slice none 0 0)) (.tmp 34) rfl (.slice none 0 0) [] rfl (World.ownsRow_nil _ w2.heap.size _ _) rfl (HV.out.below HA.out.up).rd (int_cells _ _) (by omega) (by simp) ?_; intro v3 w3 hown3 hb3; have HO := Lib.hid hown3; have H3' := Lib.hid hb3; have hrow := RD.one (w := w3) (v := .int .i64 p) (t := 3) rfl; clear hown3 hb3)
        | (at_builtin; refine wpList_app ei_int rfl (.tmp 35) (.tmp 37) rfl v3 _ rfl (own_below HO.out (up_alloc _ _)) rfl hrow (by simp [Value.oneCell']) (by omega) (by have := H3'.out.size; simp; omega) ?_; intro v4 w4 hown4 hb4; obtain ⟨A4, c4, rfl, hnc4, hcm4, hrd4⟩ := own_slice hown4; have HB := Lib.hid (HA.out.next ((H3'.out.trans ((up_alloc w3 _).mono H3'.out.size)).trans hb4)); have HN := Lib.hid (And.intro hnc4 (And.intro hcm4 hrd4)); clear b0 b1 hnc4 hcm4 hrd4 hown4 hb4; have b0 := HB.out.box.cell 0 _ rfl; have b1 := HB.out.box.cell 1 _ rfl; have g1 := HB.out.box.free 1; have r0 := HB.out.res.cell 0 _ rfl; have r1 := HB.out.res.cell 1 _ rfl; have f0 := HB.out.res.free 0; have f1 := HB.out.res.free 1))
      have en : 0 + n + 1 = n + 1 := by omega
      refine bodyPost_ret (v := .tuple #[.agg #[.bool true, .slice A4 (n + 1) c4], .int .i64 0]) (by simp [results, Try.results7, go_sem, r0, r1]) rfl ?_
      have e2 : L' = L ++ [p] := by rw [HJ.out, HD.out]; rfl
      rw [HD.out, e2]
      have hrd : RD w4 (w2.heap.size ≤ ·) 1 A4 (n + 1) ((L ++ [p]).map (Value.int .i64)) := by
        have := HN.out.2.2
        rw [en] at this
        rw [List.map_append]
        exact this
      refine ⟨A4, n + 1, c4, rfl, ⟨?_, by rw [List.length_append, HL.out]; rfl, by have := HN.out.1; omega, HN.out.2.1⟩, HB.out.out2 _ _ _⟩
      have h2 := HX.out.up.size
      have h3 := HA.out.up.size
      have hs := HA.out.res.lt
      exact (hrd.only (HB.out.after _ _ _) (fun k hk hl => by have : w2.heap.size ≤ k := hl; omega)).lo fun b hb => HP.out b (by have : w2.heap.size ≤ b := hb; omega)
end Go.Proofs.Ytoimcbdajmghkaa

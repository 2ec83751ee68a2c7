/- The law's To, From, Small of layer 31. -/
import Derived.Test.YtflpjpdgacjlcaaPrh
import Derived.LoopTactic
import Derived.Great.Walk
namespace Go.Proofs.Ytflpjpdgacjlcaa
open Go.RowKit

/-- A goal at which a walk stops. -/
def Halted (p : Prop) : Prop := p
theorem halted {p : Prop} (h : Halted p) : p := h
theorem Halted.go {p : Prop} (h : p) : Halted p := h


set_option maxRecDepth 100000 in
set_option maxHeartbeats 4000000 in
theorem c_prto {w : World} {pl : Nat → Prop} {A : Option Addr} {n c : Nat} {L : List PR} (h : TW prK w pl A n L) (hn : n ≤ 1000) :
    Calls Try.prog 8 #[.slice A n c] w (PrPost w pl n L) := by
  have HT := Lib.hid h
  have HN := Lib.hid hn
  clear h
  go_enter Try.func8, Try.ntmps8
  go_wp2_with fail
  go_loopw [3, 8] (fun s i wr => ∃ k : Nat, k ≤ n ∧ i = .int .i64 k ∧ OT prK wr 69 w.heap.size s k (L.take k) ∧ Below w.heap.size w wr) (fun _ i _ => n - (intOf i).toNat)
  case atStart => exact ⟨0, Nat.zero_le _, rfl, OT.nil _ _ _ _, Below.refl _ _⟩
  case round =>
    obtain ⟨k, hk, rfl, hown, hbw⟩ := hrel
    by_cases hlt : k < n
    · obtain ⟨b, o, q, rfl, _, _, hq, hrg, _⟩ := (HT.out.below hbw).at_ k hlt
      have HS : Hid (L.take (k + 1) = L.take k ++ [q]) := Lib.hid (by rw [List.take_add_one, hq]; rfl)
      have HRG : Hid (wr.rangeAt b (o + k * 42) (prC q)) := Lib.hid hrg
      have HB := Lib.hid hbw
      have HO := Lib.hid hown
      have HX := Lib.hid (px wr q 66)
      have HE0 := Lib.hid (prK.lt (HT.out.each q (List.mem_of_getElem? hq)))
      have HX0 := HX.out
      clear hq hrg hown hbw
      go_upto_region 5 with (first | (refine lmr (b := b) (q := o + k * 42) (cs := prC q) (.tmp 10) rfl rfl Try.underlying66 rfl (info_r q) rfl ?_ ?_; (· exact HRG.out)) | (refine snr (t := 66) (W := wr) (cs := prC q) (zs := prC (PR.nil 0)) (.tmp 5) (.tmp 11) rfl rfl rfl rfl (info_r q) (by rw [prC_len, prC_len]) (prC_one q) ?_ ?_ ?_; (· rfl); (· rfl)))
      generalize hwv : wr.alloc (.cells (prC q).toArray 66) = wv at HX0
      have d0 := HX0.c0
      have d1 := HX0.c1
      have d2 := HX0.c2
      have d38 := HX0.c38
      have d39 := HX0.c39
      have d40 := HX0.c40
      have d41 := HX0.c41
      have HF := Lib.hid HX0.frm
      have HUP := Lib.hid HX0.up
      have hq3 := up_alloc wv (.cells (prC q).toArray 69)
      have HB3 := Lib.hid (up_trans HX0.up hq3)
      have HO3 := Lib.hid (own_below HO.out.own HB3.out)
      have HY : Hid (w.heap.size ≤ (wv.alloc (.cells (prC q).toArray 69)).heap.size) := Lib.hid (by have h1 := HB.out.size; have h2 := HB3.out.size; omega)
      have HD : Hid (prK.E (nOwn u3) q (wv.alloc (.cells (prC q).toArray 69))) := Lib.hid (prK.lo (prK.below HE0.out (up_trans HB.out HB3.out)) (fun j hj e => by
        have := (HO.out.own.lt j e).1
        have := hj.2
        omega))
      have hn9 := HN.out
      clear HX0 hwv hq3 HX
      go_wp2_with (refine lmr (b := wr.heap.size) (q := 3) (cs := q.frm.cells) (.tmp 19) rfl rfl Try.underlying63 rfl (info_fr q.ok) rfl ?_ ?_; (· exact HF.out); refine halted ?_)
      refine Halted.go ?_
      (conv => arg 5; simp only [Act.put, List.setIfInBounds_toArray, List.set_cons_zero, List.set_cons_succ])
      refine Great.wpList_readTo rfl (some 21) rfl (.pointer (some ⟨wr.heap.size, 38, none⟩)) ?_ ?_
      (· go_simp; try with_reducible rfl)
      (conv => arg 5; simp only [Act.put, List.setIfInBounds_toArray, List.set_cons_zero, List.set_cons_succ])
      refine Great.wpList_readTo rfl (some 22) rfl (.int .i64 q.mode) ?_ ?_
      (· go_simp; try with_reducible rfl)
      (conv => arg 5; simp only [Act.put, List.setIfInBounds_toArray, List.set_cons_zero, List.set_cons_succ])
      refine Great.wpList_readTo rfl (some 23) rfl (.pointer (some ⟨wr.heap.size, 39, none⟩)) ?_ ?_
      (· go_simp; try with_reducible rfl)
      (conv => arg 5; simp only [Act.put, List.setIfInBounds_toArray, List.set_cons_zero, List.set_cons_succ])
      refine Great.wpList_readTo rfl (some 24) rfl (.int .i64 q.how) ?_ ?_
      (· go_simp; try with_reducible rfl)
      (conv => arg 5; simp only [Act.put, List.setIfInBounds_toArray, List.set_cons_zero, List.set_cons_succ])
      refine Great.wpList_readTo rfl (some 25) rfl (.pointer (some ⟨wr.heap.size, 40, none⟩)) ?_ ?_
      (· go_simp; try with_reducible rfl)
      (conv => arg 5; simp only [Act.put, List.setIfInBounds_toArray, List.set_cons_zero, List.set_cons_succ])
      refine Great.wpList_readTo rfl (some 26) rfl (.int .i64 q.turn) ?_ ?_
      (· go_simp; try with_reducible rfl)
      (conv => arg 5; simp only [Act.put, List.setIfInBounds_toArray, List.set_cons_zero, List.set_cons_succ])
      refine Great.wpList_readTo rfl (some 27) rfl (.pointer (some ⟨wr.heap.size, 41, none⟩)) ?_ ?_
      (· go_simp; try with_reducible rfl)
      (conv => arg 5; simp only [Act.put, List.setIfInBounds_toArray, List.set_cons_zero, List.set_cons_succ])
      refine Great.wpList_readTo rfl (some 28) rfl (.slice q.gA q.gn q.gc) ?_ ?_
      (· go_simp; try with_reducible rfl)
      (conv => arg 5; simp only [Act.put, List.setIfInBounds_toArray, List.set_cons_zero, List.set_cons_succ])
      refine bdw (T := 69) _ (prC q).toArray rfl rfl ?_ ?_
      (· simpa [Act.eval] using built_p q)
      refine bs_one (T := 25) (e := 69) (.tmp 29) (prC q) (.agg (prC (PR.nil 0)).toArray) rfl rfl rfl Try.underlying25 (info_p q) zero_p (by rw [prC_len]; omega) (by rw [prC_len]; omega) ?_
      refine wpList_app3 ei_p rfl (.tmp 12) (.tmp 30) rfl u3 _ rfl HO3.out rfl (RD.oneK prK (q := q) rfl) (prK.oneL [q]) (by omega) HY.out ?_
      intro v4 w4 hown4 hg4 hn4
      have HO4 := Lib.hid (HO.out.app (q := q) HB3.out (by rw [List.flatMap_append]; exact hown4) hg4 hn4 HD.out)
      have HB4 : Hid (Below w.heap.size w w4) := Lib.hid ((up_trans HB.out HB3.out).grown hg4 HY.out (fun k' e => (HO3.out.lt k' e).1))
      clear hown4 hg4 hn4
      go_wp2
      go_roundw
      case rel => exact ⟨k + 1, by omega, by go_num, by rw [HS.out]; exact HO4.out, HB4.out⟩
      case measure => simp [intOf]; omega
    · obtain rfl : k = n := by omega
      have HO := Lib.hid hown
      have HB := Lib.hid hbw
      clear hown hbw
      go_wp2
      go_ret
      have hO := HO.out
      rw [List.take_of_length_le (by rw [HT.out.len]; exact Nat.le_refl _)] at hO
      obtain ⟨A1, c1, rfl, _, _, h3⟩ := own_slice hO.own
      exact ⟨A1, c1, rfl, ⟨h3.lo (fun b hb => .inr hb), HT.out.len, fun q hq => prK.lo (prK.below (HT.out.each q hq) HB.out) (fun b hb => .inl hb)⟩, HB.out⟩


set_option maxRecDepth 100000 in
set_option maxHeartbeats 4000000 in
theorem c_prfrom {w : World} {pl : Nat → Prop} {A : Option Addr} {n c : Nat} {L : List PR} (h : TW prK w pl A n L) (hn : n ≤ 1000) :
    Calls Try.prog 27 #[.slice A n c] w (PrPost w pl n L) := by
  have HT := Lib.hid h
  have HN := Lib.hid hn
  clear h
  go_enter Try.func27, Try.ntmps27
  go_wp2_with fail
  go_loopw [3, 8] (fun s i wr => ∃ k : Nat, k ≤ n ∧ i = .int .i64 k ∧ OT prK wr 66 w.heap.size s k (L.take k) ∧ Below w.heap.size w wr) (fun _ i _ => n - (intOf i).toNat)
  case atStart => exact ⟨0, Nat.zero_le _, rfl, OT.nil _ _ _ _, Below.refl _ _⟩
  case round =>
    obtain ⟨k, hk, rfl, hown, hbw⟩ := hrel
    by_cases hlt : k < n
    · obtain ⟨b, o, q, rfl, _, _, hq, hrg, _⟩ := (HT.out.below hbw).at_ k hlt
      have HS : Hid (L.take (k + 1) = L.take k ++ [q]) := Lib.hid (by rw [List.take_add_one, hq]; rfl)
      have HRG : Hid (wr.rangeAt b (o + k * 42) (prC q)) := Lib.hid hrg
      have HB := Lib.hid hbw
      have HO := Lib.hid hown
      have HX := Lib.hid (px wr q 69)
      have HE0 := Lib.hid (prK.lt (HT.out.each q (List.mem_of_getElem? hq)))
      have HX0 := HX.out
      clear hq hrg hown hbw
      go_upto_region 5 with (first | (refine lmr (b := b) (q := o + k * 42) (cs := prC q) (.tmp 10) rfl rfl Try.underlying69 rfl (info_p q) rfl ?_ ?_; (· exact HRG.out)) | (refine snr (t := 69) (W := wr) (cs := prC q) (zs := prC (PR.nil 0)) (.tmp 5) (.tmp 11) rfl rfl rfl rfl (info_p q) (by rw [prC_len, prC_len]) (prC_one q) ?_ ?_ ?_; (· rfl); (· rfl)))
      generalize hwv : wr.alloc (.cells (prC q).toArray 69) = wv at HX0
      have d0 := HX0.c0
      have d1 := HX0.c1
      have d2 := HX0.c2
      have d38 := HX0.c38
      have d39 := HX0.c39
      have d40 := HX0.c40
      have d41 := HX0.c41
      have HF := Lib.hid HX0.frm
      have HUP := Lib.hid HX0.up
      have hq3 := up_alloc wv (.cells (prC q).toArray 66)
      have HB3 := Lib.hid (up_trans HX0.up hq3)
      have HO3 := Lib.hid (own_below HO.out.own HB3.out)
      have HY : Hid (w.heap.size ≤ (wv.alloc (.cells (prC q).toArray 66)).heap.size) := Lib.hid (by have h1 := HB.out.size; have h2 := HB3.out.size; omega)
      have HD : Hid (prK.E (nOwn u3) q (wv.alloc (.cells (prC q).toArray 66))) := Lib.hid (prK.lo (prK.below HE0.out (up_trans HB.out HB3.out)) (fun j hj e => by
        have := (HO.out.own.lt j e).1
        have := hj.2
        omega))
      have hn9 := HN.out
      clear HX0 hwv hq3 HX
      go_wp2_with (refine lmr (b := wr.heap.size) (q := 3) (cs := q.frm.cells) (.tmp 19) rfl rfl Try.underlying67 rfl (info_fp q.ok) rfl ?_ ?_; (· exact HF.out); refine halted ?_)
      refine Halted.go ?_
      (conv => arg 5; simp only [Act.put, List.setIfInBounds_toArray, List.set_cons_zero, List.set_cons_succ])
      refine Great.wpList_readTo rfl (some 21) rfl (.pointer (some ⟨wr.heap.size, 38, none⟩)) ?_ ?_
      (· go_simp; try with_reducible rfl)
      (conv => arg 5; simp only [Act.put, List.setIfInBounds_toArray, List.set_cons_zero, List.set_cons_succ])
      refine Great.wpList_readTo rfl (some 22) rfl (.int .i64 q.mode) ?_ ?_
      (· go_simp; try with_reducible rfl)
      (conv => arg 5; simp only [Act.put, List.setIfInBounds_toArray, List.set_cons_zero, List.set_cons_succ])
      refine Great.wpList_readTo rfl (some 23) rfl (.pointer (some ⟨wr.heap.size, 39, none⟩)) ?_ ?_
      (· go_simp; try with_reducible rfl)
      (conv => arg 5; simp only [Act.put, List.setIfInBounds_toArray, List.set_cons_zero, List.set_cons_succ])
      refine Great.wpList_readTo rfl (some 24) rfl (.int .i64 q.how) ?_ ?_
      (· go_simp; try with_reducible rfl)
      (conv => arg 5; simp only [Act.put, List.setIfInBounds_toArray, List.set_cons_zero, List.set_cons_succ])
      refine Great.wpList_readTo rfl (some 25) rfl (.pointer (some ⟨wr.heap.size, 40, none⟩)) ?_ ?_
      (· go_simp; try with_reducible rfl)
      (conv => arg 5; simp only [Act.put, List.setIfInBounds_toArray, List.set_cons_zero, List.set_cons_succ])
      refine Great.wpList_readTo rfl (some 26) rfl (.int .i64 q.turn) ?_ ?_
      (· go_simp; try with_reducible rfl)
      (conv => arg 5; simp only [Act.put, List.setIfInBounds_toArray, List.set_cons_zero, List.set_cons_succ])
      refine Great.wpList_readTo rfl (some 27) rfl (.pointer (some ⟨wr.heap.size, 41, none⟩)) ?_ ?_
      (· go_simp; try with_reducible rfl)
      (conv => arg 5; simp only [Act.put, List.setIfInBounds_toArray, List.set_cons_zero, List.set_cons_succ])
      refine Great.wpList_readTo rfl (some 28) rfl (.slice q.gA q.gn q.gc) ?_ ?_
      (· go_simp; try with_reducible rfl)
      (conv => arg 5; simp only [Act.put, List.setIfInBounds_toArray, List.set_cons_zero, List.set_cons_succ])
      refine bdw (T := 66) _ (prC q).toArray rfl rfl ?_ ?_
      (· simpa [Act.eval] using built_r q)
      refine bs_one (T := 22) (e := 66) (.tmp 29) (prC q) (.agg (prC (PR.nil 0)).toArray) rfl rfl rfl Try.underlying22 (info_r q) zero_r (by rw [prC_len]; omega) (by rw [prC_len]; omega) ?_
      refine wpList_app3 ei_r rfl (.tmp 12) (.tmp 30) rfl u3 _ rfl HO3.out rfl (RD.oneK prK (q := q) rfl) (prK.oneL [q]) (by omega) HY.out ?_
      intro v4 w4 hown4 hg4 hn4
      have HO4 := Lib.hid (HO.out.app (q := q) HB3.out (by rw [List.flatMap_append]; exact hown4) hg4 hn4 HD.out)
      have HB4 : Hid (Below w.heap.size w w4) := Lib.hid ((up_trans HB.out HB3.out).grown hg4 HY.out (fun k' e => (HO3.out.lt k' e).1))
      clear hown4 hg4 hn4
      go_wp2
      go_roundw
      case rel => exact ⟨k + 1, by omega, by go_num, by rw [HS.out]; exact HO4.out, HB4.out⟩
      case measure => simp [intOf]; omega
    · obtain rfl : k = n := by omega
      have HO := Lib.hid hown
      have HB := Lib.hid hbw
      clear hown hbw
      go_wp2
      go_ret
      have hO := HO.out
      rw [List.take_of_length_le (by rw [HT.out.len]; exact Nat.le_refl _)] at hO
      obtain ⟨A1, c1, rfl, _, _, h3⟩ := own_slice hO.own
      exact ⟨A1, c1, rfl, ⟨h3.lo (fun b hb => .inr hb), HT.out.len, fun q hq => prK.lo (prK.below (HT.out.each q hq) HB.out) (fun b hb => .inl hb)⟩, HB.out⟩


/-- Short lists. -/
def smallP (L : List PR) : Bool := (L.all fun q => decide (q.gn ≤ 8)) && decide (L.length ≤ 20)
theorem small_iff {L : List PR} (h : smallP L = true) : (∀ q ∈ L, q.gn ≤ 8) ∧ L.length ≤ 20 := by
  unfold smallP at h
  simp only [Bool.and_eq_true, decide_eq_true_eq, List.all_eq_true] at h
  exact h
set_option maxRecDepth 100000 in
set_option maxHeartbeats 4000000 in
theorem c_prsmall {w : World} {pl : Nat → Prop} {A : Option Addr} {n c : Nat} {L : List PR} (h : TW prK w pl A n L) (hn : n ≤ 9223372036854775807) :
    Calls Try.prog 6 #[.slice A n c] w fun e w' => e = .returned (.bool (smallP L)) ∧ Below w.heap.size w w' := by
  have HT := Lib.hid h
  have hl := h.len
  have HLN := Lib.hid hl
  have HN := Lib.hid hn
  clear h hl
  go_enter Try.func6, Try.ntmps6
  go_wp2_with fail
  go_loopw [7] (fun i wr => ∃ k : Nat, k ≤ n ∧ i = .int .i64 k ∧ ((L.take k).all fun q => decide (q.gn ≤ 8)) = true ∧ Below w.heap.size w wr) (fun i _ => n - (intOf i).toNat)
  case atStart => exact ⟨0, Nat.zero_le _, rfl, rfl, Below.refl _ _⟩
  case round =>
    obtain ⟨k, hk, rfl, hall, hbw⟩ := hrel
    have hn9 := HN.out
    have HA := Lib.hid hall
    have HB := Lib.hid hbw
    by_cases hlt : k < n
    · obtain ⟨b, o, q, rfl, _, _, hq, hrg, _⟩ := (HT.out.below hbw).at_ k hlt
      have HRG : Hid (wr.rangeAt b (o + k * 42) (prC q)) := Lib.hid hrg
      have HQ := Lib.hid hq
      have HX0 := px wr q 66
      clear hq hrg hbw hall
      go_upto_region 4 with (first | (refine lmr (b := b) (q := o + k * 42) (cs := prC q) (.tmp 9) rfl rfl Try.underlying66 rfl (info_r q) rfl ?_ ?_; (· exact HRG.out)) | (refine snr (t := 66) (W := wr) (cs := prC q) (zs := prC (PR.nil 0)) (.tmp 4) (.tmp 10) rfl rfl rfl rfl (info_r q) (by rw [prC_len, prC_len]) (prC_one q) ?_ ?_ ?_; (· rfl); (· rfl)))
      generalize hwv : wr.alloc (.cells (prC q).toArray 66) = wv at HX0
      have d41 := HX0.c41
      have HUP := Lib.hid HX0.up
      clear HX0 hwv
      by_cases hg : q.gn ≤ 8
      · have g1 : decide ((8 : Int) < (q.gn : Int)) = false := decide_eq_false (by omega)
        have g2 : decide (8 < q.gn) = false := decide_eq_false (by omega)
        have g3 : ¬ 8 < q.gn := by omega
        have HNX : Hid (((L.take (k + 1)).all fun q => decide (q.gn ≤ 8)) = true) := Lib.hid (by
          rw [List.take_add_one, HQ.out, List.all_append, HA.out]
          simp [hg])
        go_wp2
        go_roundw
        case rel => exact ⟨k + 1, by omega, by go_num, HNX.out, up_trans HB.out HUP.out⟩
        case measure => simp [intOf]; omega
      · have g1 : decide ((8 : Int) < (q.gn : Int)) = true := decide_eq_true (by omega)
        have g2 : decide (8 < q.gn) = true := decide_eq_true (by omega)
        have g3 : 8 < q.gn := by omega
        have HF : Hid (smallP L = false) := Lib.hid (by
          cases e : smallP L
          · rfl
          · exact absurd ((small_iff e).1 q (List.mem_of_getElem? HQ.out)) hg)
        go_wp2
        go_ret
        exact ⟨ret_bool HF.out.symm, up_trans HB.out HUP.out⟩
    · obtain rfl : k = n := by omega
      have HF : Hid (smallP L = decide ((k : Int) ≤ 20)) := Lib.hid (by
        have := HA.out
        rw [List.take_of_length_le (by rw [HLN.out]; exact Nat.le_refl _)] at this
        unfold smallP
        rw [this, HLN.out, Bool.true_and]
        by_cases h : k ≤ 20
        · rw [decide_eq_true h, decide_eq_true (by omega)]
        · rw [decide_eq_false h, decide_eq_false (by omega)])
      obtain ⟨y, hy⟩ : ∃ y, decide ((k : Int) ≤ 20) = y := ⟨_, rfl⟩
      have hy2 : decide (k ≤ 20) = y := by rw [← hy]; by_cases h : k ≤ 20 <;> simp <;> omega
      have HY := Lib.hid hy
      have HY2 := Lib.hid hy2
      clear hall hbw hy2
      rw [hy] at HF
      go_wp2
      go_ret
      exact ⟨ret_bool (by rw [HF.out]), HB.out⟩
end Go.Proofs.Ytflpjpdgacjlcaa

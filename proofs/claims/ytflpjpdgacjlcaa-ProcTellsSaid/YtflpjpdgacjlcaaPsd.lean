/- The document's Handle, Find, Put of layer 31. -/
import Derived.Test.YtflpjpdgacjlcaaPsc
import Derived.Test.YtflpjpdgacjlcaaPrh
import Derived.Test.YtflpjpdgacjlcaaP2
namespace Go.Proofs.Ytflpjpdgacjlcaa
open Go.RowKit

set_option maxRecDepth 100000 in
set_option maxHeartbeats 4000000 in
theorem c_rprhandle {w : World} {pl : Nat → Prop} {A : Option Addr} {n c : Nat} {L : List PR} (hR : TW prK w pl A n L) (p : Int) :
    Calls Try.prog 14 #[.slice A n c, .int .i64 p] w fun e w' => e = .returned (.int .i64 (handleT L p)) ∧ Below w.heap.size w w' := by
  have CF := c_rprfine (c := c) hR
  have HR := Lib.hid hR
  have hl := hR.len
  cases hf : fineT L
  · have HE : Hid (handleT L p = 0) := Lib.hid (if_neg (by rw [hf]; simp))
    rw [hf] at CF
    have CF := Lib.hid CF
    clear hR hl hf
    go_enter Try.func14, Try.ntmps14
    go_wp2_with fail
    refine CF.out.mono ?_; rintro e w2 ⟨rfl, hb2⟩
    go_wp2
    go_ret
    exact ⟨ret_int HE.out.symm, hb2⟩
  rw [hf] at CF
  have CF := Lib.hid CF
  have h16 := fineT_len hf
  by_cases h0 : p < 0
  · have HE : Hid (handleT L p = 0) := Lib.hid (if_neg (by rw [there_not (.inl h0)]; simp))
    have g0 : decide (p < 0) = true := decide_eq_true h0
    clear hR hl hf h0 h16
    go_enter Try.func14, Try.ntmps14
    go_wp2_with fail
    refine CF.out.mono ?_; rintro e w2 ⟨rfl, hb2⟩
    go_wp2
    go_ret
    exact ⟨ret_int HE.out.symm, hb2⟩
  have g0 : decide (p < 0) = false := decide_eq_false h0
  by_cases h1 : 15 < p
  · have HE : Hid (handleT L p = 0) := Lib.hid (if_neg (by rw [there_not (.inr (by omega))]; simp))
    have g1 : decide (15 < p) = true := decide_eq_true h1
    clear hR hl hf h0 h16 h1
    go_enter Try.func14, Try.ntmps14
    go_wp2_with fail
    refine CF.out.mono ?_; rintro e w2 ⟨rfl, hb2⟩
    go_wp2
    go_ret
    exact ⟨ret_int HE.out.symm, hb2⟩
  have g1 : decide (15 < p) = false := decide_eq_false h1
  obtain ⟨k, rfl⟩ : ∃ k : Nat, p = k := ⟨p.toNat, by omega⟩
  have HK := Lib.hid (show k < n by omega)
  have hk0 : (0 : Int) ≤ k := by omega
  have hk1 : (k : Int) < (n : Int) := by omega
  have hth := there_at (L := L) (k := k) (by omega)
  cases ht : thereT L (k : Nat)
  · have HE : Hid (handleT L (k : Nat) = 0) := Lib.hid (if_neg (by rw [ht]; simp))
    rw [ht] at hth
    clear hR hl hf h0 h16 h1 ht
    go_enter Try.func14, Try.ntmps14
    go_wp2_with fail
    refine CF.out.mono ?_; rintro e w2 ⟨rfl, hb2⟩
    have HB := Lib.hid hb2
    obtain ⟨b, o, q, rfl, hbl, hq, _, c0, c1, _, _⟩ := pr_at (HR.out.below hb2) k HK.out
    rw [getP_of hq] at hth
    rw [← hth] at c1
    clear hb2 hbl hq hth c0
    go_wp2
    go_ret
    exact ⟨ret_int HE.out.symm, HB.out⟩
  · have HE : Hid (handleT L (k : Nat) = makeH k (getP L (k : Nat)).gen) := Lib.hid (if_pos ⟨hf, ht⟩)
    rw [ht] at hth
    clear hR hl hf h0 h16 h1 ht
    go_enter Try.func14, Try.ntmps14
    go_wp2_with fail
    refine CF.out.mono ?_; rintro e w2 ⟨rfl, hb2⟩
    have HB := Lib.hid hb2
    obtain ⟨b, o, q, rfl, hbl, hq, _, c0, c1, _, _⟩ := pr_at (HR.out.below hb2) k HK.out
    rw [getP_of hq] at hth HE
    rw [← hth] at c1
    have CM := Lib.hid (fun W => c_rmake (k : Int) q.gen W)
    generalize q.gen = g at c0 HE CM
    generalize makeH (k : Int) g = h at HE CM
    generalize makeE (k : Int) g = x at CM
    clear hb2 hbl hq hth
    go_wp2_with fail
    refine (CM.out _).mono ?_; rintro e w3 ⟨rfl, rfl⟩
    go_wp2
    go_ret
    exact ⟨ret_int HE.out.symm, HB.out⟩

set_option maxRecDepth 100000 in
set_option maxHeartbeats 4000000 in
theorem c_rprfind {w : World} {pl : Nat → Prop} {A : Option Addr} {n c : Nat} {L : List PR} (hR : TW prK w pl A n L) (h : Int) :
    Calls Try.prog 10 #[.slice A n c, .int .i64 h] w fun e w' => e = .returned (.tuple #[.int .i64 (findT L h).1, .int .i64 (findT L h).2]) ∧ Below w.heap.size w w' := by
  have CF := c_rprfine (c := c) hR
  have CS := fun W => c_rslot h W
  cases hf : fineT L
  · have HE : Hid (findT L h = (0, 1)) := Lib.hid (if_pos hf)
    rw [hf] at CF
    have CF := Lib.hid CF
    clear hR hf CS
    go_enter Try.func10, Try.ntmps10
    go_wp2_with fail
    refine CF.out.mono ?_; rintro e w2 ⟨rfl, hb2⟩
    go_wp2
    refine bodyPost_ret (v := .tuple #[.int .i64 0, .int .i64 1]) (by simp [results, Try.results10, go_sem]) rfl ?_
    exact ⟨by rw [HE.out], hb2⟩
  rw [hf] at CF
  have CF := Lib.hid CF
  by_cases hs : slotF h < 0 ∨ 16 ≤ slotF h
  · have HE : Hid (findT L h = (0, 8)) := Lib.hid (by unfold findT; rw [if_neg (by rw [hf]; decide), if_pos hs])
    generalize slotF h = s at CS hs
    by_cases hs0 : s < 0
    · have g0 : decide (s < 0) = true := decide_eq_true hs0
      have CS := Lib.hid CS
      clear hR hf hs hs0
      go_enter Try.func10, Try.ntmps10
      go_wp2_with fail
      refine CF.out.mono ?_; rintro e w2 ⟨rfl, hb2⟩
      go_wp2_with fail
      refine (CS.out _).mono ?_; rintro e w1 ⟨rfl, rfl⟩
      go_wp2
      refine bodyPost_ret (v := .tuple #[.int .i64 0, .int .i64 8]) (by simp [results, Try.results10, go_sem]) rfl ?_
      exact ⟨by rw [HE.out], hb2⟩
    · have g0 : decide (s < 0) = false := decide_eq_false hs0
      have g1 : decide (15 < s) = true := decide_eq_true (by omega)
      have CS := Lib.hid CS
      clear hR hf hs hs0
      go_enter Try.func10, Try.ntmps10
      go_wp2_with fail
      refine CF.out.mono ?_; rintro e w2 ⟨rfl, hb2⟩
      go_wp2_with fail
      refine (CS.out _).mono ?_; rintro e w1 ⟨rfl, rfl⟩
      go_wp2
      refine bodyPost_ret (v := .tuple #[.int .i64 0, .int .i64 8]) (by simp [results, Try.results10, go_sem]) rfl ?_
      exact ⟨by rw [HE.out], hb2⟩
  have ht := told_iff' hf (h := h) (by omega) (by omega)
  have HE0 : findT L h = if handleT L (slotF h) = h then (slotF h, 0) else (0, 9) := by
    unfold findT
    rw [if_neg (by rw [hf]; decide), if_neg hs]
    by_cases hc : handleT L (slotF h) = h
    · rw [if_pos hc, if_pos (ht.1 hc)]
    · rw [if_neg hc, if_neg (fun e => hc (ht.2 e))]
  have g0 : decide (slotF h < 0) = false := decide_eq_false (by omega)
  have g1 : decide (15 < slotF h) = false := decide_eq_false (by omega)
  have CH := fun W (hb : Below w.heap.size w W) => c_rprhandle (c := c) (hR.below hb) (slotF h)
  have hst : ∃ s, slotF h = s := ⟨_, rfl⟩
  obtain ⟨s, hst⟩ := hst
  rw [hst] at CS HE0 CH g0 g1
  obtain ⟨y, hy⟩ : ∃ y, handleT L s = y := ⟨_, rfl⟩
  rw [hy] at HE0 CH
  have CS := Lib.hid CS
  have CH := Lib.hid CH
  have HE1 := Lib.hid HE0
  by_cases hc : y = h
  · have HE : Hid (findT L h = (s, 0)) := Lib.hid (by rw [HE0, if_pos hc])
    have hne : (y != h) = false := by simp [hc]
    clear hR hf hs ht HE0 hst hy hc
    go_enter Try.func10, Try.ntmps10
    go_wp2_with fail
    refine CF.out.mono ?_; rintro e w2 ⟨rfl, hb2⟩
    have HB := Lib.hid hb2
    clear hb2
    go_wp2_with fail
    refine (CS.out _).mono ?_; rintro e w1 ⟨rfl, rfl⟩
    go_wp2_with fail
    refine (CH.out _ HB.out).mono ?_; rintro e w3 ⟨rfl, hb3⟩
    have HB3 := Lib.hid (up_trans HB.out hb3)
    clear hb3
    go_wp2
    refine bodyPost_ret (v := .tuple #[.int .i64 s, .int .i64 0]) (by simp [results, Try.results10, go_sem]) rfl ?_
    exact ⟨by rw [HE.out], HB3.out⟩
  · have HE : Hid (findT L h = (0, 9)) := Lib.hid (by rw [HE0, if_neg hc])
    have hne : (y != h) = true := by simp [hc]
    clear hR hf hs ht HE0 hst hy hc
    go_enter Try.func10, Try.ntmps10
    go_wp2_with fail
    refine CF.out.mono ?_; rintro e w2 ⟨rfl, hb2⟩
    have HB := Lib.hid hb2
    clear hb2
    go_wp2_with fail
    refine (CS.out _).mono ?_; rintro e w1 ⟨rfl, rfl⟩
    go_wp2_with fail
    refine (CH.out _ HB.out).mono ?_; rintro e w3 ⟨rfl, hb3⟩
    have HB3 := Lib.hid (up_trans HB.out hb3)
    clear hb3
    go_wp2
    refine bodyPost_ret (v := .tuple #[.int .i64 0, .int .i64 9]) (by simp [results, Try.results10, go_sem]) rfl ?_
    exact ⟨by rw [HE.out], HB3.out⟩

set_option maxRecDepth 100000 in
set_option maxHeartbeats 1000000 in
theorem c_rprput {w : World} {pl : Nat → Prop} {A : Option Addr} {n c : Nat} {L : List PR} (h : TW prK w pl A n L) (hn : n ≤ 100000) (k : Nat) (hk : k < n) (q : PR) (hq : prK.E pl q w) :
    Calls Try.prog 49 #[.slice A n c, .int .i64 k, .agg (prC q).toArray] w (PrPost w pl n (L.set k q)) := by
  have hX := px w q 66
  generalize hw1 : w.alloc (.cells (prC q).toArray 66) = w1 at hX
  have HW := Lib.hid hw1
  have HX := Lib.hid hX
  have HR := Lib.hid h
  have HR1 := Lib.hid (h.below hX.up)
  have HE := Lib.hid hq
  have HK := Lib.hid hk
  have hk0 : (0 : Int) ≤ k := by omega
  have hk1 : (k : Int) < (n : Int) := by omega
  clear hw1 hX h hq
  go_enter Try.func49, Try.ntmps49
  go_upto_region 1 with fail
  rw [HW.out]
  go_upto_region 2 with (at_builtin; refine wpList_app ei_r rfl (.const (.slice none 0 0)) (.tmp 8) rfl (.slice none 0 0) [] rfl (World.ownsRow_nil _ w1.heap.size _ _) rfl HR1.out.rd (prK.oneL _) (by omega) (Nat.le_refl _) ?_; intro v w2 hown hb; simp only [Nat.zero_add, List.nil_append] at hown)
  have ho : OT prK w2 66 w1.heap.size v n L := OT.of hown HR1.out.each hb
  obtain ⟨g, c1, q0, rfl, hg, hgl, _, _, hth, _⟩ := ho.at_ k HK.out
  have HO := Lib.hid ho
  have HB := Lib.hid hb
  have HX2 := Lib.hid (HX.out.next hb)
  have HT : Hid (w2.there g (k * 42) (prC q).length) := Lib.hid (by rw [prC_len]; exact hth)
  clear ho hb hth hg hgl hown
  go_wp2_with (first | (refine ldr (b := w.heap.size) (t := 66) (cs := prC q) (.tmp 5) rfl rfl Try.underlying66 rfl (info_r q) rfl ?_ ?_; (· exact HX2.out.box)) | (refine smr (b := g) (q := k * 42) (cs := prC q) (.tmp 13) (.tmp 12) rfl rfl rfl rfl (info_r q) (prC_one q) ?_ ?_; (· exact HT.out)))
  go_ret
  have := pr_laid HR.out HO.out HX2.out.up (HX.out.up.size) k HK.out HE.out
  exact ⟨_, _, rfl, this.1, this.2⟩
end Go.Proofs.Ytflpjpdgacjlcaa

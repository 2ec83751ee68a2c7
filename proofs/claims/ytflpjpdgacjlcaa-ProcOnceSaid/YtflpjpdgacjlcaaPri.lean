/- Package proc: End. -/
import Derived.Test.YtflpjpdgacjlcaaPrh
namespace Go.Proofs.Ytflpjpdgacjlcaa
open Go.RowKit

set_option maxRecDepth 100000 in
set_option maxHeartbeats 4000000 in
theorem c_prend {w : World} {pl : Nat → Prop} {A : Option Addr} {n c : Nat} {L : List PR} (h : TW prK w pl A n L) (p how : Int) :
    Calls Try.prog 22 #[.slice A n c, .int .i64 p, .int .i64 how] w fun e w' => ∃ A' c', e = .returned (.tuple #[.slice A' n c', .int .i64 (endT (prEnd how) L p).2]) ∧ TW prK w' (plP pl w) A' n (endT (prEnd how) L p).1 ∧ Below w.heap.size w w' := by
  have CF := fun W (hb : Below w.heap.size w W) => c_prfine (c := c) (h.below hb)
  have CT := fun W (hb : Below w.heap.size w W) => c_prthere (c := c) (h.below hb) p
  have HR := Lib.hid h
  have hl := h.len
  cases hf : fineT L
  · have HE : Hid (endT (prEnd how) L p = (L, 1)) := Lib.hid (if_pos hf)
    rw [hf] at CF
    have CF := Lib.hid CF
    clear CT h hl hf
    go_enter Try.func22, Try.ntmps22
    go_wp2_with fail
    refine (CF.out _ (Below.refl _ _)).mono ?_; rintro e w2 ⟨rfl, hb2⟩
    go_wp2
    refine bodyPost_ret (v := .tuple #[.slice A n c, .int .i64 1]) (by simp [results, Try.results22, go_sem]) rfl ?_
    exact ⟨A, c, by rw [HE.out], by rw [HE.out]; exact (HR.out.below hb2).lo (fun b hb => .inl hb), hb2⟩
  rw [hf] at CF
  cases ht : thereT L p
  · have HE : Hid (endT (prEnd how) L p = (L, 8)) := Lib.hid (by unfold endT; rw [if_neg (by rw [hf]; decide), if_pos ht])
    rw [ht] at CT
    have CF := Lib.hid CF
    have CT := Lib.hid CT
    clear h hl hf ht
    go_enter Try.func22, Try.ntmps22
    go_wp2_with fail
    refine (CF.out _ (Below.refl _ _)).mono ?_; rintro e w2 ⟨rfl, hb2⟩
    have HB := Lib.hid hb2
    clear hb2
    go_wp2_with fail
    refine (CT.out _ HB.out).mono ?_; rintro e w3 ⟨rfl, rfl⟩
    go_wp2
    refine bodyPost_ret (v := .tuple #[.slice A n c, .int .i64 8]) (by simp [results, Try.results22, go_sem]) rfl ?_
    exact ⟨A, c, by rw [HE.out], by rw [HE.out]; exact (HR.out.below HB.out).lo (fun b hb => .inl hb), HB.out⟩
  obtain ⟨t0, t1, t2⟩ := there_of ht
  obtain ⟨k, rfl⟩ : ∃ k : Nat, p = k := ⟨p.toNat, by omega⟩
  have hkn : k < n := by omega
  rw [ht] at CT
  have CF := Lib.hid CF
  have CT := Lib.hid CT
  have HK := Lib.hid hkn
  have hk0 : (0 : Int) ≤ k := by omega
  have hk1 : (k : Int) < (n : Int) := by omega
  have HN : Hid (n ≤ 100000) := Lib.hid (by have := fineT_len hf; omega)
  by_cases hm : (getP L (k : Nat)).mode = 0
  · have HE : Hid (endT (prEnd how) L (k : Nat) = (L.set k (prEnd how (getP L (k : Nat))), 0)) := Lib.hid (by unfold endT; rw [if_neg (by rw [hf]; decide), if_neg (by rw [ht]; decide), if_pos hm, Int.toNat_natCast])
    clear h hl hf ht t0 t1 t2 hkn
    go_enter Try.func22, Try.ntmps22
    go_wp2_with fail
    refine (CF.out _ (Below.refl _ _)).mono ?_; rintro e w2 ⟨rfl, hb2⟩
    have HB := Lib.hid hb2
    clear hb2
    go_wp2_with fail
    refine (CT.out _ HB.out).mono ?_; rintro e w3 ⟨rfl, rfl⟩
    obtain ⟨b, o, q, rfl, hbl, hq, hrg, c0, c1, c38, c39⟩ := pr_at (HR.out.below HB.out) k HK.out
    rw [getP_of hq] at HE hm
    rw [hm] at c38
    have HRG := Lib.hid hrg
    have HX0 := Lib.hid (px w2 q 69)
    clear hbl hq hrg hm
    go_upto_region 8 with (first | (refine lmr (b := b) (q := o + k * 42) (cs := prC q) (.tmp 30) rfl rfl Try.underlying69 rfl (info_p q) rfl ?_ ?_; (· exact HRG.out)) | (refine snr (t := 69) (W := w2) (cs := prC q) (zs := prC (PR.nil 0)) (.tmp 8) (.tmp 31) rfl rfl rfl rfl (info_p q) (by rw [prC_len, prC_len]) (prC_one q) ?_ ?_ ?_; (· rfl); (· rfl)))
    have hX := HX0.out
    generalize hwv : w2.alloc (.cells (prC q).toArray 69) = wv at hX
    have d38 := hX.c38
    have d39 := hX.c39
    have d41 := hX.c41
    have f38 := hX.box.free 38
    have f39 := hX.box.free 39
    have f41 := hX.box.free 41
    have HB4 : Hid (Blk (((wv.setCell ⟨w2.heap.size, 38, none⟩ (.int .i64 3)).setCell ⟨w2.heap.size, 39, none⟩ (.int .i64 how)).setCell ⟨w2.heap.size, 41, none⟩ (.slice none 0 0)) w2.heap.size (prC (prEnd how q)) 69) := Lib.hid (by
      have := ((hX.box.set 38 (.int .i64 3)).set 39 (.int .i64 how)).set 41 (.slice none 0 0)
      rw [prC_s38, prC_s39, prC_s41 _ _ _ _ []] at this
      exact this)
    have HU4 : Hid (Below w2.heap.size w2 (((wv.setCell ⟨w2.heap.size, 38, none⟩ (.int .i64 3)).setCell ⟨w2.heap.size, 39, none⟩ (.int .i64 how)).setCell ⟨w2.heap.size, 41, none⟩ (.slice none 0 0))) := Lib.hid (((hX.up.setCell (p := ⟨w2.heap.size, 38, none⟩) (Nat.le_refl _) _).setCell (p := ⟨w2.heap.size, 39, none⟩) (Nat.le_refl _) _).setCell (p := ⟨w2.heap.size, 41, none⟩) (Nat.le_refl _) _)
    clear hX hwv c0 c1 c38 c39
    go_upto_region 9 with fail
    have HB5 := Lib.hid (up_trans HB.out HU4.out)
    go_wp2_with (refine ldr (b := w2.heap.size) (t := 69) (cs := prC (prEnd how q)) (.tmp 8) rfl rfl Try.underlying69 rfl (info_p _) rfl ?_ ?_; (· exact HB4.out))
    refine (c_prwith (HR.out.below HB5.out) HN.out k HK.out (prEnd how q) ⟨rfl, RD.nil _ _ _ _⟩).mono ?_
    rintro e w5 hp
    obtain ⟨A', c', rfl, h1, h2⟩ := hp.up HB5.out
    have H1 := Lib.hid h1
    have H2 := Lib.hid h2
    clear hp h1 h2
    go_wp2
    refine bodyPost_ret (v := .tuple #[.slice A' n c', .int .i64 0]) (by simp [results, Try.results22, go_sem]) rfl ?_
    exact ⟨A', c', by rw [HE.out], by rw [HE.out]; exact H1.out, H2.out⟩
  · have HE : Hid (endT (prEnd how) L (k : Nat) = (L, 13)) := Lib.hid (by unfold endT; rw [if_neg (by rw [hf]; decide), if_neg (by rw [ht]; decide), if_neg hm])
    have hm' : ((getP L (k : Nat)).mode != 0) = true := by simp [hm]
    clear h hl hf ht t0 t1 t2 hkn hm
    go_enter Try.func22, Try.ntmps22
    go_wp2_with fail
    refine (CF.out _ (Below.refl _ _)).mono ?_; rintro e w2 ⟨rfl, hb2⟩
    have HB := Lib.hid hb2
    clear hb2
    go_wp2_with fail
    refine (CT.out _ HB.out).mono ?_; rintro e w3 ⟨rfl, rfl⟩
    obtain ⟨b, o, q, rfl, hbl, hq, hrg, c0, c1, c38, c39⟩ := pr_at (HR.out.below HB.out) k HK.out
    rw [getP_of hq] at hm'
    clear hbl hq hrg c0 c1 c39
    generalize q.mode = m at c38 hm'
    go_wp2
    refine bodyPost_ret (v := .tuple #[.slice (some ⟨b, o, none⟩) n c, .int .i64 13]) (by simp [results, Try.results22, go_sem]) rfl ?_
    exact ⟨_, c, by rw [HE.out], by rw [HE.out]; exact (HR.out.below HB.out).lo (fun b hb => .inl hb), HB.out⟩
end Go.Proofs.Ytflpjpdgacjlcaa

/- Package proc: there, told, Handle, Find. -/
import Derived.Test.YtflpjpdgacjlcaaPre
import Derived.Test.YtflpjpdgacjlcaaP2
namespace Go.Proofs.Ytflpjpdgacjlcaa
open Go.RowKit

/-- One place of a table: where it lies, and the cells that are asked for. -/
theorem pr_at {w : World} {pl : Nat → Prop} {A : Option Addr} {n : Nat} {L : List PR} (h : TW prK w pl A n L) (k : Nat) (hk : k < n) :
    ∃ b o q, A = some ⟨b, o, none⟩ ∧ b < w.heap.size ∧ L[k]? = some q ∧ w.rangeAt b (o + k * 42) (prC q) ∧ w.cell? ⟨b, o + k * 42, none⟩ = some (.int .i64 q.gen) ∧ w.cell? ⟨b, o + k * 42 + 1, none⟩ = some (.bool q.live) ∧ w.cell? ⟨b, o + k * 42 + 38, none⟩ = some (.int .i64 q.mode) ∧ w.cell? ⟨b, o + k * 42 + 39, none⟩ = some (.int .i64 q.how) := by
  obtain ⟨b, o, q, rfl, _, hb, hq, hr, _⟩ := h.at_ k hk
  have hr' : w.rangeAt b (o + k * 42) (prC q) := hr
  exact ⟨b, o, q, rfl, hb, hq, hr', hr' 0 _ (prC_0 q), hr' 1 _ (prC_1 q), hr' 38 _ (prC_38 q), hr' 39 _ (prC_39 q)⟩
theorem there_not {L : List PR} {p : Int} (h : p < 0 ∨ (L.length : Int) ≤ p) : thereT L p = false := by
  unfold thereT
  rcases h with h | h
  · rw [decide_eq_false (by omega)]; rfl
  · rw [decide_eq_false (by omega : ¬ p < (L.length : Int))]; simp
theorem there_at {L : List PR} {k : Nat} (hk : k < L.length) : thereT L (k : Nat) = (getP L (k : Nat)).live := by
  unfold thereT
  rw [decide_eq_true (by omega), decide_eq_true (by omega)]
  rfl

set_option maxHeartbeats 1000000 in
theorem c_prthere {w : World} {pl : Nat → Prop} {A : Option Addr} {n c : Nat} {L : List PR} (hR : TW prK w pl A n L) (p : Int) :
    Calls Try.prog 37 #[.slice A n c, .int .i64 p] w fun e w' => e = .returned (.bool (thereT L p)) ∧ w = w' := by
  have hl := hR.len
  by_cases h0 : 0 ≤ p
  · by_cases h1 : p < (n : Int)
    · obtain ⟨k, rfl⟩ : ∃ k : Nat, p = k := ⟨p.toNat, by omega⟩
      obtain ⟨b, o, q, rfl, _, hq, _, _, c1, _, _⟩ := pr_at hR k (by omega)
      rw [there_at (by omega), getP_of hq]
      have g0 : decide ((0 : Int) ≤ (k : Int)) = true := by simp
      have g1 : decide ((k : Int) < (n : Int)) = true := decide_eq_true h1
      generalize q.live = r at c1 ⊢
      clear hR hl hq
      go_enter Try.func37, Try.ntmps37
      go_wp2
      go_ret
      exact ⟨rfl, rfl⟩
    · have g0 : decide (0 ≤ p) = true := decide_eq_true h0
      have g1 : decide (p < (n : Int)) = false := decide_eq_false h1
      rw [there_not (.inr (by omega))]
      clear hR hl
      go_enter Try.func37, Try.ntmps37
      go_wp2
      go_ret
      exact ⟨rfl, rfl⟩
  · have g0 : decide (0 ≤ p) = false := decide_eq_false h0
    rw [there_not (.inl (by omega))]
    clear hR hl
    go_enter Try.func37, Try.ntmps37
    go_wp2
    go_ret
    exact ⟨rfl, rfl⟩
set_option maxHeartbeats 1000000 in
theorem c_prtold {w : World} {pl : Nat → Prop} {A : Option Addr} {n c : Nat} {L : List PR} (hR : TW prK w pl A n L) (k : Nat) (hk : k < n) :
    Calls Try.prog 38 #[.slice A n c, .int .i64 k] w fun e w' => e = .returned (.int .i64 (makeH k (getP L k).gen)) ∧ w = w' := by
  obtain ⟨b, o, q, rfl, _, hq, _, c0, _, _, _⟩ := pr_at hR k hk
  rw [getP_of hq]
  have C := Lib.hid (fun W => c_make (k : Int) q.gen W)
  have hk0 : (0 : Int) ≤ k := by omega
  have hk1 : (k : Int) < (n : Int) := by omega
  generalize q.gen = g at c0 C ⊢
  generalize makeH (k : Int) g = h at C ⊢
  generalize makeE (k : Int) g = x at C
  clear hR hq
  go_enter Try.func38, Try.ntmps38
  go_wp2_with fail
  refine (C.out _).mono ?_; rintro e w2 ⟨rfl, rfl⟩
  go_wp2
  go_ret
  exact ⟨rfl, rfl⟩
set_option maxHeartbeats 1000000 in
theorem c_prhandle {w : World} {pl : Nat → Prop} {A : Option Addr} {n c : Nat} {L : List PR} (hR : TW prK w pl A n L) (p : Int) :
    Calls Try.prog 13 #[.slice A n c, .int .i64 p] w fun e w' => e = .returned (.int .i64 (handleT L p)) ∧ Below w.heap.size w w' := by
  have CF := fun W (hb : Below w.heap.size w W) => c_prfine (c := c) (hR.below hb)
  have CT := fun W (hb : Below w.heap.size w W) => c_prthere (c := c) (hR.below hb) p
  have hl := hR.len
  cases hf : fineT L
  · have HE : Hid (handleT L p = 0) := Lib.hid (if_neg (by rw [hf]; simp))
    rw [hf] at CF
    have CF := Lib.hid CF
    clear CT hR hl hf
    go_enter Try.func13, Try.ntmps13
    go_wp2_with fail
    refine (CF.out _ (Below.refl _ _)).mono ?_; rintro e w2 ⟨rfl, hb2⟩
    go_wp2
    go_ret
    exact ⟨ret_int HE.out.symm, hb2⟩
  · rw [hf] at CF
    cases ht : thereT L p
    · have HE : Hid (handleT L p = 0) := Lib.hid (if_neg (by rw [ht]; simp))
      rw [ht] at CT
      have CF := Lib.hid CF
      have CT := Lib.hid CT
      clear hR hl hf ht
      go_enter Try.func13, Try.ntmps13
      go_wp2_with fail
      refine (CF.out _ (Below.refl _ _)).mono ?_; rintro e w2 ⟨rfl, hb2⟩
      have HB := Lib.hid hb2
      clear hb2
      go_wp2_with fail
      refine (CT.out _ HB.out).mono ?_; rintro e w3 ⟨rfl, rfl⟩
      go_wp2
      go_ret
      exact ⟨ret_int HE.out.symm, HB.out⟩
    · have HE : Hid (handleT L p = makeH p (getP L p).gen) := Lib.hid (if_pos ⟨hf, ht⟩)
      obtain ⟨t0, t1, t2⟩ := there_of ht
      obtain ⟨k, rfl⟩ : ∃ k : Nat, p = k := ⟨p.toNat, by omega⟩
      have CH := Lib.hid (fun W (hb : Below w.heap.size w W) => c_prtold (c := c) (hR.below hb) k (by omega))
      rw [ht] at CT
      have CF := Lib.hid CF
      have CT := Lib.hid CT
      clear hR hl hf ht t0 t1 t2
      go_enter Try.func13, Try.ntmps13
      go_wp2_with fail
      refine (CF.out _ (Below.refl _ _)).mono ?_; rintro e w2 ⟨rfl, hb2⟩
      have HB := Lib.hid hb2
      clear hb2
      go_wp2_with fail
      refine (CT.out _ HB.out).mono ?_; rintro e w3 ⟨rfl, rfl⟩
      go_wp2_with fail
      refine (CH.out _ HB.out).mono ?_; rintro e w4 ⟨rfl, rfl⟩
      go_wp2
      go_ret
      exact ⟨ret_int HE.out.symm, HB.out⟩
end Go.Proofs.Ytflpjpdgacjlcaa

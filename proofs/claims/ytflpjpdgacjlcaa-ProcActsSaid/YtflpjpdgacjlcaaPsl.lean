/- The law on any table with one more process, one that ends, one that is reaped. -/
import Derived.Test.YtflpjpdgacjlcaaPsf
import Derived.Test.YtflpjpdgacjlcaaPse
import Derived.Test.YtflpjpdgacjlcaaPsg
import Derived.Test.YtflpjpdgacjlcaaPsi
import Derived.Test.YtflpjpdgacjlcaaPsj
namespace Go.Proofs.Ytflpjpdgacjlcaa
open Go.RowKit

def fewG (L : List PR) : Prop := ∀ q ∈ L, q.gn ≤ 1000
theorem few_set {L : List PR} (h : fewG L) (k : Nat) {q : PR} (hq : q.gn ≤ 1000) : fewG (L.set k q) := fun x hx => by
  rcases List.mem_or_eq_of_mem_set hx with hx | rfl
  · exact h x hx
  · exact hq
theorem spawn_few {L : List PR} (h : fewG L) (pg arg : Int) : fewG (spawnT L pg arg).1 := by
  unfold spawnT
  split
  · exact h
  · split
    · exact h
    · split
      · exact h
      · exact few_set h _ (by show (0 : Nat) ≤ 1000; omega)
theorem reap_few {L : List PR} (h : fewG L) (x : Int) : fewG (reapT L x).1 := by
  unfold reapT
  split
  · split
    · exact few_set h _ (by show (0 : Nat) ≤ 1000; omega)
    · exact h
  · exact h
theorem end_both {L : List PR} (h : fewG L) (hE : ∀ q ∈ L, q.gs.length = q.gn) (p how : Int) : ∃ L1 L2 e, endT (prEnd how) L p = (L1, e) ∧ endT (prEndR how) L p = (L2, e) ∧ SameT L1 L2 ∧ fewG L1 := by
  unfold endT
  by_cases hf : fineT L = false
  · exact ⟨L, L, 1, if_pos hf, if_pos hf, SameT.refl L, h⟩
  · rw [if_neg hf, if_neg hf]
    by_cases ht : thereT L p = false
    · exact ⟨L, L, 8, if_pos ht, if_pos ht, SameT.refl L, h⟩
    · rw [if_neg ht, if_neg ht]
      by_cases hm : (getP L p).mode = 0
      · refine ⟨_, _, 0, if_pos hm, if_pos hm, ?_, few_set h _ (by show (0 : Nat) ≤ 1000; omega)⟩
        obtain ⟨t0, t1, t2⟩ := there_of (by simpa using ht)
        obtain ⟨hk, hmem⟩ := getP_mem t0 t1
        have hgn := may_runs (fineT_all (by simpa using hf) _ hmem) t2 hm
        have hgs : (getP L p).gs = [] := List.eq_nil_of_length_eq_zero (by rw [hE _ hmem]; exact hgn)
        have hlt := (List.getElem?_eq_some_iff.1 hk).1
        intro k q hq
        by_cases he : p.toNat = k
        · subst he
          rw [List.getElem?_set_self hlt] at hq
          obtain rfl := Option.some.inj hq
          refine ⟨(getP L p).gA, (getP L p).gc, ?_⟩
          rw [List.getElem?_set_self hlt]
          congr 1
          show prEndR how (getP L p) = _
          unfold prEndR prEnd
          generalize getP L p = r at hgn hgs
          obtain ⟨a, b, c, d, e, f, g, i, j, k, l, m⟩ := r
          simp only at hgn hgs
          subst hgn hgs
          rfl
        · rw [List.getElem?_set_ne he] at hq ⊢
          exact ⟨q.gA, q.gc, hq⟩
      · exact ⟨L, L, 13, if_neg hm, if_neg hm, SameT.refl L, h⟩
/-- What may lie in a box of three. -/
structure B3 (w w1 : World) (z0 z1 z2 : Int) : Prop where
  up : Below w.heap.size w w1
  c : ∀ W, Below w1.heap.size w1 W → W.cell? ⟨w.heap.size, 0, none⟩ = some (.int .i64 z0) ∧ W.cell? ⟨w.heap.size, 1, none⟩ = some (.int .i64 z1) ∧ W.cell? ⟨w.heap.size, 2, none⟩ = some (.int .i64 z2)
theorem b3 (w : World) (z0 z1 z2 : Int) (t : TypeId) : B3 w (w.alloc (.cells #[.int .i64 z0, .int .i64 z1, .int .i64 z2] t)) z0 z1 z2 := by
  have hB := Blk.new w [.int .i64 z0, .int .i64 z1, .int .i64 z2] t
  exact ⟨up_alloc _ _, fun W hW => ⟨(hB.up hW hB.lt).cell 0 _ rfl, (hB.up hW hB.lt).cell 1 _ rfl, (hB.up hW hB.lt).cell 2 _ rfl⟩⟩
set_option maxRecDepth 100000 in
set_option maxHeartbeats 8000000 in
theorem l_pacts {w : World} {A : Option Addr} {n c : Nat} {L : List PR} (h : TW prK w tt A n L) (hn : n ≤ 9223372036854775807) (z0 z1 z2 : Int) (hz : I64 z2) :
    Calls Try.prog 4 #[.slice A n c, .agg #[.int .i64 z0, .int .i64 z1, .int .i64 z2]] w fun e w' => e = .returned (.bool true) ∧ Below w.heap.size w w' := by
  have hX := b3 w z0 z1 z2 42
  generalize hw1 : w.alloc (.cells #[.int .i64 z0, .int .i64 z1, .int .i64 z2] 42) = wb at hX
  have HW := Lib.hid hw1
  have HX := Lib.hid hX
  have CS := c_prsmall (c := c) (h.below hX.up) hn
  have HT := Lib.hid (h.below hX.up)
  have hsm := @small_iff L
  cases hs : smallP L
  · rw [hs] at CS
    have CS := Lib.hid CS
    clear h hs hX hw1 hsm
    go_enter Try.func4, Try.ntmps4
    go_upto_region 1 with fail
    rw [HW.out]
    go_wp2_with fail
    refine CS.out.mono ?_; rintro e w2 ⟨rfl, hb⟩
    have HB := Lib.hid hb
    clear hb
    go_wp2_with fail
    refine (c_pralive w2).mono ?_; rintro e w3 ⟨rfl, hb⟩
    go_wp2
    go_ret
    exact ⟨rfl, up_trans HX.out.up (up_trans HB.out hb)⟩
  rw [hs] at CS
  have CS := Lib.hid CS
  obtain ⟨hs1, hs2⟩ := hsm hs
  have HN := Lib.hid (show n ≤ 20 by rw [← h.len]; exact hs2)
  have hfew : fewG L := fun q hq => by have := hs1 q hq; omega
  obtain ⟨L1, L2, ee, hE1, hE2, hSE, hFE⟩ := end_both hfew (fun q hq => (h.each q hq).1) z0 z1
  have hFS := spawn_few hfew z0 z1
  have hFR := reap_few hfew z2
  have S1 := fun W (A' : Option Addr) (c' : Nat) (t : TW prK W tt A' n L) => c_prspawn (c := c') t z0 z1
  have S2 := fun W (A' : Option Addr) (c' : Nat) (t : TW prK W tt A' n L) => c_rprspawn (c := c') t z0 z1
  have E1 := fun W (A' : Option Addr) (c' : Nat) (t : TW prK W tt A' n L) => c_prend (c := c') t z0 z1
  have E2 := fun W (A' : Option Addr) (c' : Nat) (t : TW prK W tt A' n L) => c_rprend (c := c') t z0 z1
  have R1 := fun W (A' : Option Addr) (c' : Nat) (t : TW prK W tt A' n L) => c_prreap (c := c') t z2 hz
  have R2 := fun W (A' : Option Addr) (c' : Nat) (t : TW prK W tt A' n L) => c_rprreap (c := c') t z2
  rw [hE1] at E1
  rw [hE2] at E2
  generalize spawnT L z0 z1 = SS at S1 S2 hFS
  generalize reapT L z2 = RR at R1 R2 hFR
  obtain ⟨SL, sh, se⟩ := SS
  obtain ⟨RL, rh, re⟩ := RR
  simp only at hFS hFR
  have S1 := Lib.hid S1
  have S2 := Lib.hid S2
  have E1 := Lib.hid E1
  have E2 := Lib.hid E2
  have R1 := Lib.hid R1
  have R2 := Lib.hid R2
  have HFS := Lib.hid hFS
  have HFR := Lib.hid hFR
  have HFE := Lib.hid hFE
  have HSE := Lib.hid hSE
  have e1 : (sh == sh) = true := beq_self_eq_true _
  have e2 : (se == se) = true := beq_self_eq_true _
  have e3 : (ee == ee) = true := beq_self_eq_true _
  have e4 : (rh == rh) = true := beq_self_eq_true _
  have e5 : (re == re) = true := beq_self_eq_true _
  clear h hs hX hw1 hsm hs1 hs2 hfew hE1 hE2 hFS hFR hFE hSE
  go_enter Try.func4, Try.ntmps4
  go_upto_region 1 with fail
  rw [HW.out]
  go_wp2_with fail
  refine CS.out.mono ?_; rintro e w1 ⟨rfl, hb⟩
  have HB1 := Lib.hid hb
  clear hb
  go_wp2_with fail
  refine (c_prto (HT.out.below HB1.out) (by have := HN.out; omega)).mono ?_; rintro e w2 ⟨B, d, rfl, t2, hb⟩
  have H2 := Lib.hid (t2.lo plP_tt)
  have HB2 := Lib.hid (up_trans HB1.out hb)
  obtain ⟨i0, i1, i2⟩ := HX.out.c w2 HB2.out
  clear hb t2
  go_wp2_with fail
  refine (S1.out w2 B d H2.out).mono ?_; rintro e w3 ⟨A3, c3, rfl, t3, hb⟩
  have H3 := Lib.hid (t3.lo plP_tt)
  have HU3 := Lib.hid hb
  clear hb t3 i0 i1 i2
  obtain ⟨i0, i1, i2⟩ := HX.out.c w3 (up_trans HB2.out HU3.out)
  go_wp2_with fail
  refine (S2.out w3 A c (HT.out.below (up_trans HB2.out HU3.out))).mono ?_; rintro e w4 ⟨A4, c4, rfl, t4, hb⟩
  have H4 := Lib.hid (t4.lo plP_tt)
  have HU4 := Lib.hid (up_trans HU3.out hb)
  have H34 := Lib.hid hb
  clear hb t4 i0 i1 i2
  obtain ⟨i0, i1, i2⟩ := HX.out.c w4 (up_trans HB2.out HU4.out)
  go_wp2_with fail
  refine (E1.out w4 B d (H2.out.below HU4.out)).mono ?_; rintro e w5 ⟨A5, c5, rfl, t5, hb⟩
  have H5 := Lib.hid (t5.lo plP_tt)
  have HU5 := Lib.hid (up_trans HU4.out hb)
  have H45 := Lib.hid hb
  clear hb t5 i0 i1 i2
  obtain ⟨i0, i1, i2⟩ := HX.out.c w5 (up_trans HB2.out HU5.out)
  go_wp2_with fail
  refine (E2.out w5 A c (HT.out.below (up_trans HB2.out HU5.out))).mono ?_; rintro e w6 ⟨A6, c6, rfl, t6, hb⟩
  have H6 := Lib.hid (t6.lo plP_tt)
  have HU6 := Lib.hid (up_trans HU5.out hb)
  have H56 := Lib.hid hb
  clear hb t6 i0 i1 i2
  obtain ⟨i0, i1, i2⟩ := HX.out.c w6 (up_trans HB2.out HU6.out)
  go_wp2_with fail
  refine (R1.out w6 B d (H2.out.below HU6.out)).mono ?_; rintro e w7 ⟨A7, c7, rfl, t7, hb⟩
  have H7 := Lib.hid (t7.lo plP_tt)
  have HU7 := Lib.hid (up_trans HU6.out hb)
  have H67 := Lib.hid hb
  clear hb t7 i0 i1 i2
  obtain ⟨i0, i1, i2⟩ := HX.out.c w7 (up_trans HB2.out HU7.out)
  go_wp2_with fail
  refine (R2.out w7 A c (HT.out.below (up_trans HB2.out HU7.out))).mono ?_; rintro e w8 ⟨A8, c8, rfl, t8, hb⟩
  have H8 := Lib.hid (t8.lo plP_tt)
  have HU8 := Lib.hid (up_trans HU7.out hb)
  have H78 := Lib.hid hb
  clear hb t8 i0 i1 i2
  simp only
  go_wp2_with fail
  have H3' := Lib.hid (H3.out.below (up_trans H34.out (up_trans H45.out (up_trans H56.out (up_trans H67.out H78.out)))))
  refine (c_prfrom H3'.out (by have := HN.out; omega)).mono ?_; rintro e w9 ⟨A9, c9, rfl, t9, hb⟩
  have H9 := Lib.hid (t9.lo plP_tt)
  have HU9 := Lib.hid (up_trans HU8.out hb)
  have H4' := Lib.hid (H4.out.below (up_trans H45.out (up_trans H56.out (up_trans H67.out (up_trans H78.out hb)))))
  have H89 := Lib.hid hb
  clear hb t9
  go_wp2_with fail
  refine (c_rprsame H9.out H4'.out (SameT.refl SL) HFS.out (by have := HN.out; omega)).mono ?_; rintro e w10 ⟨rfl, hb⟩
  have HU10 := Lib.hid (up_trans HU9.out hb)
  have H5' := Lib.hid (H5.out.below (up_trans H56.out (up_trans H67.out (up_trans H78.out (up_trans H89.out hb)))))
  have H6' := Lib.hid (H6.out.below (up_trans H67.out (up_trans H78.out (up_trans H89.out hb))))
  have H7' := Lib.hid (H7.out.below (up_trans H78.out (up_trans H89.out hb)))
  have H8' := Lib.hid (H8.out.below (up_trans H89.out hb))
  clear hb
  go_wp2_with fail
  refine (c_prfrom H5'.out (by have := HN.out; omega)).mono ?_; rintro e w11 ⟨A11, c11, rfl, t11, hb⟩
  have H11 := Lib.hid (t11.lo plP_tt)
  have HU11 := Lib.hid (up_trans HU10.out hb)
  have H6'' := Lib.hid (H6'.out.below hb)
  have HD1 := Lib.hid hb
  clear hb t11
  go_wp2_with fail
  refine (c_rprsame H11.out H6''.out HSE.out HFE.out (by have := HN.out; omega)).mono ?_; rintro e w12 ⟨rfl, hb⟩
  have HU12 := Lib.hid (up_trans HU11.out hb)
  have H7'' := Lib.hid (H7'.out.below (up_trans HD1.out hb))
  have H8'' := Lib.hid (H8'.out.below (up_trans HD1.out hb))
  clear hb
  go_wp2_with fail
  refine (c_prfrom H7''.out (by have := HN.out; omega)).mono ?_; rintro e w13 ⟨A13, c13, rfl, t13, hb⟩
  have H13 := Lib.hid (t13.lo plP_tt)
  have HU13 := Lib.hid (up_trans HU12.out hb)
  have H8d := Lib.hid (H8''.out.below hb)
  clear hb t13
  go_wp2_with fail
  refine (c_rprsame H13.out H8d.out (SameT.refl RL) HFR.out (by have := HN.out; omega)).mono ?_; rintro e w14 ⟨rfl, hb⟩
  have HU14 := Lib.hid (up_trans HU13.out hb)
  clear hb
  go_wp2_with fail
  refine (c_pralive w14).mono ?_; rintro e w15 ⟨rfl, hb⟩
  go_wp2
  go_ret
  exact ⟨rfl, up_trans HX.out.up (up_trans HB2.out (up_trans HU14.out hb))⟩
end Go.Proofs.Ytflpjpdgacjlcaa

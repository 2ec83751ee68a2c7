/- The law's alive. -/
import Derived.Test.YtflpjpdgacjlcaaPrk
import Derived.Test.YtflpjpdgacjlcaaPrm
import Derived.Test.YtflpjpdgacjlcaaP1
namespace Go.Proofs.Ytflpjpdgacjlcaa
open Go.RowKit

def aT0 : List PR := List.replicate 16 (PR.nil 0)
def aT1 : List PR := (spawnT aT0 1 7).1
def aT2 : List PR := (spawnT aT1 2 8).1
def aT3 : List PR := (endT (prEnd 5) aT2 0).1
def aT4 : List PR := (reapT aT3 4096).1
def aT5 : List PR := (spawnT aT4 1 9).1
theorem av1 : (spawnT aT0 1 7).2 = (4096, 0) := by kernel_rfl
theorem av2 : (spawnT aT1 2 8).2 = (4097, 0) := by kernel_rfl
theorem av3 : (endT (prEnd 5) aT2 0).2 = 0 := by kernel_rfl
theorem av4 : (reapT aT3 4096).2 = (5, 0) := by kernel_rfl
theorem av5 : (spawnT aT4 1 9).2 = (8192, 0) := by kernel_rfl
theorem av6 : findT aT5 4096 = (0, 9) := by kernel_rfl
theorem av7 : findT aT5 4097 = (1, 0) := by kernel_rfl
theorem av8 : (reapT aT5 4097).2 = (0, 13) := by kernel_rfl
theorem av9 : inT aT3 3 = [0] := by kernel_rfl
theorem av10 : handlesT aT3 = [4097] := by kernel_rfl
theorem av11 : handleT aT5 0 = 8192 := by kernel_rfl
theorem av12 : fineT aT5 = true := by kernel_rfl
theorem av13 : ((getP aT5 0).frm.regs)[0]? = some 9 := by kernel_rfl
theorem pair_eq {a : List PR × Int × Int} {x : Int × Int} (h : a.2 = x) : a = (a.1, x.1, x.2) := by rw [← h]
theorem pair_eq' {a : List PR × Int} {x : Int} (h : a.2 = x) : a = (a.1, x) := by rw [← h]
theorem alive_facts : ∃ T0 T1 T2 T3 T4 T5 T6 : List PR, T0 = List.replicate 16 (PR.nil 0) ∧ spawnT T0 1 7 = (T1, 4096, 0) ∧ spawnT T1 2 8 = (T2, 4097, 0) ∧ endT (prEnd 5) T2 0 = (T3, 0) ∧ reapT T3 4096 = (T4, 5, 0) ∧ spawnT T4 1 9 = (T5, 8192, 0) ∧ findT T5 4096 = (0, 9) ∧ findT T5 4097 = (1, 0) ∧ reapT T5 4097 = (T6, 0, 13) ∧ inT T3 3 = [0] ∧ handlesT T3 = [4097] ∧ handleT T5 0 = 8192 ∧ fineT T5 = true ∧ ((getP T5 0).frm.regs)[0]? = some 9 ∧ T5.length = 16 :=
  ⟨aT0, aT1, aT2, aT3, aT4, aT5, (reapT aT5 4097).1, rfl, pair_eq av1, pair_eq av2, pair_eq' av3, pair_eq av4, pair_eq av5, av6, av7, pair_eq av8, av9, av10, av11, av12, av13, fineT_len av12⟩
theorem i64_c (x : Int) (h : 0 ≤ x ∧ x ≤ 100000) : I64 x := by unfold I64; omega
theorem plP_tt {w : World} {pl : Nat → Prop} : ∀ b, plP pl w b → tt b := fun _ _ => trivial
set_option maxRecDepth 100000 in
set_option maxHeartbeats 8000000 in
theorem c_pralive (w : World) : Calls Try.prog 7 #[] w fun e w' => e = .returned (.bool true) ∧ Below w.heap.size w w' := by
  obtain ⟨T0, T1, T2, T3, T4, T5, T6, a0, a1, a2, a3, a4, a5, a6, a7, a8, a9, a10, a11, a12, a13, a14⟩ := alive_facts
  have C0 := Lib.hid (c_prnew w tt)
  rw [← a0] at C0
  have A1 := Lib.hid a1
  have A2 := Lib.hid a2
  have A3 := Lib.hid a3
  have A4 := Lib.hid a4
  have A5 := Lib.hid a5
  have A6 := Lib.hid a6
  have A7 := Lib.hid a7
  have A8 := Lib.hid a8
  have A9 := Lib.hid a9
  have A10 := Lib.hid a10
  have A11 := Lib.hid a11
  have A12 := Lib.hid a12
  have A13 := Lib.hid a13
  have A14 := Lib.hid a14
  clear a0 a1 a2 a3 a4 a5 a6 a7 a8 a9 a10 a11 a12 a13 a14
  go_enter Try.func7, Try.ntmps7
  go_wp2_with fail
  refine C0.out.mono ?_
  rintro e w0 ⟨B0, c0, rfl, t0, hb⟩
  have H0 := Lib.hid (t0.lo plP_tt)
  have HB0 := Lib.hid hb
  clear t0 hb C0
  go_wp2_with fail
  refine (c_prspawn H0.out 1 7).mono ?_
  rintro e w1 ⟨B1, c1, rfl, t1, hb⟩
  rw [A1.out] at t1
  have H1 := Lib.hid (t1.lo plP_tt)
  have HB1 := Lib.hid (up_trans HB0.out hb)
  simp only [A1.out]
  clear t1 hb
  go_wp2_with fail
  refine (c_prspawn H1.out 2 8).mono ?_
  rintro e w2 ⟨B2, c2, rfl, t1, hb⟩
  rw [A2.out] at t1
  have H2 := Lib.hid (t1.lo plP_tt)
  have HB2 := Lib.hid (up_trans HB1.out hb)
  simp only [A2.out]
  clear t1 hb
  go_wp2_with fail
  refine (c_prend H2.out 0 5).mono ?_
  rintro e w3 ⟨B3, c3, rfl, t1, hb⟩
  rw [A3.out] at t1
  have H3 := Lib.hid (t1.lo plP_tt)
  have HB3 := Lib.hid (up_trans HB2.out hb)
  simp only [A3.out]
  clear t1 hb
  go_wp2_with fail
  refine (c_prreap H3.out 4096 (i64_c _ (by omega))).mono ?_
  rintro e w4 ⟨B4, c4, rfl, t1, hb⟩
  rw [A4.out] at t1
  have H4 := Lib.hid (t1.lo plP_tt)
  have HB4 := Lib.hid (up_trans HB3.out hb)
  have HU4 := Lib.hid hb
  simp only [A4.out]
  clear t1 hb
  go_wp2_with fail
  refine (c_prspawn H4.out 1 9).mono ?_
  rintro e w5 ⟨B5, c5, rfl, t1, hb⟩
  rw [A5.out] at t1
  have H5 := Lib.hid (t1.lo plP_tt)
  have HB5 := Lib.hid (up_trans HB4.out hb)
  have HU5 := Lib.hid (up_trans HU4.out hb)
  simp only [A5.out]
  clear t1 hb
  go_wp2_with fail
  refine (c_prfind H5.out 4096 (i64_c _ (by omega))).mono ?_
  rintro e w6 ⟨rfl, hb⟩
  have HU6 := Lib.hid hb
  simp only [A6.out]
  clear hb
  go_wp2_with fail
  refine (c_prfind (H5.out.below HU6.out) 4097 (i64_c _ (by omega))).mono ?_
  rintro e w7 ⟨rfl, hb⟩
  have HU7 := Lib.hid (up_trans HU6.out hb)
  simp only [A7.out]
  clear hb
  go_wp2_with fail
  refine (c_prreap (H5.out.below HU7.out) 4097 (i64_c _ (by omega))).mono ?_
  rintro e w8 ⟨B8, c8, rfl, t1, hb⟩
  have HU8 := Lib.hid (up_trans HU7.out hb)
  simp only [A8.out]
  clear hb t1
  go_wp2_with fail
  refine (c_prin (H3.out.below (up_trans HU5.out HU8.out)) 3).mono ?_
  rintro e w9 ⟨B9, c9, rfl, _, _, hr, hb⟩
  rw [A9.out] at hr
  have HR9 := Lib.hid (hr.lo (fun b _ => (trivial : tt b)))
  have HU9 := Lib.hid (up_trans HU8.out hb)
  simp only [A9.out]
  clear hr hb
  have HI9 := Lib.hid (up_alloc w9 (.cells #[.int .i64 0] 3))
  have HN9 : Hid (RD (w9.alloc (.cells #[.int .i64 0] 3)) tt 1 (some ⟨w9.heap.size, 0, none⟩) 1 [.int .i64 0]) := Lib.hid (RD.one rfl)
  go_wp2_with fail
  refine (c_same (zs := [0]) (HR9.out.below HI9.out) HN9.out (by simp)).mono ?_
  rintro e w10 ⟨rfl, hd⟩
  have HU10 := Lib.hid (up_trans (up_trans HU9.out HI9.out) hd.below)
  clear hd
  go_wp2_with fail
  refine (c_prhandles (H3.out.below (up_trans HU5.out HU10.out))).mono ?_
  rintro e w11 ⟨B11, c11, rfl, _, _, hr, hb⟩
  rw [A10.out] at hr
  have HR11 := Lib.hid (hr.lo (fun b _ => (trivial : tt b)))
  have HU11 := Lib.hid (up_trans HU10.out hb)
  simp only [A10.out]
  clear hr hb
  have HI11 := Lib.hid (up_alloc w11 (.cells #[.int .i64 4097] 3))
  have HN11 : Hid (RD (w11.alloc (.cells #[.int .i64 4097] 3)) tt 1 (some ⟨w11.heap.size, 0, none⟩) 1 [.int .i64 4097]) := Lib.hid (RD.one rfl)
  go_wp2_with fail
  refine (c_same (zs := [4097]) (HR11.out.below HI11.out) HN11.out (by simp)).mono ?_
  rintro e w12 ⟨rfl, hd⟩
  have HU12 := Lib.hid (up_trans (up_trans HU11.out HI11.out) hd.below)
  clear hd
  go_wp2_with fail
  refine (c_prhandle (H5.out.below HU12.out) 0).mono ?_
  rintro e w13 ⟨rfl, hb⟩
  have HU13 := Lib.hid (up_trans HU12.out hb)
  simp only [A11.out]
  clear hb
  go_wp2_with fail
  refine (c_prfine (H5.out.below HU13.out)).mono ?_
  rintro e w14 ⟨rfl, hb⟩
  have HU14 := Lib.hid (up_trans HU13.out hb)
  simp only [A12.out]
  clear hb
  obtain ⟨b, o, q, rfl, _, hq, hrg, _⟩ := pr_at (H5.out.below HU14.out) 0 (by omega)
  have hp : getP T5 0 = q := getP_of (k := 0) hq
  have h9 := A13.out
  rw [hp] at h9
  have c5 : w14.cell? ⟨b, o + 0 * 42 + 5, none⟩ = some (.int .i64 9) := by
    refine hrg 5 _ ?_
    show (q.frm.cells ++ _)[2]? = _
    rw [List.getElem?_append_left (by rw [FR.cells_len q.ok]; omega)]
    exact FR.c_reg q.ok 0 9 h9
  rw [Nat.zero_mul, Nat.add_zero] at c5
  clear hq hrg hp h9
  go_wp2
  go_ret
  exact ⟨rfl, up_trans HB5.out HU14.out⟩
end Go.Proofs.Ytflpjpdgacjlcaa

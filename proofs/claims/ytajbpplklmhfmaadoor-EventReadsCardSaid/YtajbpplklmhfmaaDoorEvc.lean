/- Package event: the kinds' words in memory, decimal, about, Text, find. -/
import Derived.Test.YtajbpplklmhfmaaDoorEvb
import Derived.Test.YtajbpplklmhfmaaDoorWta
namespace Go.Proofs.YtajbpplklmhfmaaDoor
open Go.RowKit

/-- The program's words lie as its text lays them. -/
def NmT (w : World) : Prop := ∀ j, j < 9 → w.cell? ⟨0, j, none⟩ = some (.string ⟨(evNm j).toArray⟩)
theorem NmT.up {w w' : World} (h : NmT w) (hb : Below w.heap.size w w') : NmT w' := fun j hj => (hb.cell (World.block_lt_of_cell? _ _ (h j hj))).trans (h j hj)
structure EnvE (w : World) : Prop where
  env : EnvW w
  nm : NmT w
theorem EnvE.up {w w' : World} (h : EnvE w) (hb : Below w.heap.size w w') : EnvE w' := ⟨h.env.up hb, h.nm.up hb⟩

theorem textW_d {n : Int} (h0 : 0 ≤ n) (h1 : n ≤ 15) : textW n = evD n := by
  rw [textW_of n (fineW_of n (by omega) (by omega)), evD_itoa h0]
set_option maxHeartbeats 400000 in
theorem c_evdec (n : Int) (h0 : 0 ≤ n) (h1 : n ≤ 15) (w : World) (hv : EnvW w) : Calls Tryd.prog 34 #[.int .i64 n] w fun e w' => e = .returned (.string ⟨(evD n).toArray⟩) ∧ Below w.heap.size w w' := by
  rw [← textW_d h0 h1]
  have CT := Lib.hid (c_wtext n w hv)
  go_enter Tryd.func34, Tryd.ntmps34
  go_wp2_with fail
  refine CT.out.mono ?_; rintro e w2 ⟨rfl, hb2⟩
  go_wp2
  go_ret
  exact ⟨rfl, hb2⟩

theorem abt_low {k o h n : Int} {c : UInt8} (hl : evLtr k = [c]) : evAbt k o h n = [c] ++ evD o := by
  unfold evAbt
  rw [if_neg (by rw [hl]; exact List.cons_ne_nil _ _), hl]
theorem abt_high {k o h n : Int} (hl : evLtr k = []) : evAbt k o h n = evD h ++ ([46] ++ evD n) := if_pos hl
set_option maxHeartbeats 1000000 in
theorem c_evabt (k o h n : Int) (hf : EvFit k o h n) (w : World) (hv : EnvW w) : Calls Tryd.prog 20 #[.agg #[.int .i64 k, .int .i64 o, .int .i64 h, .int .i64 n]] w fun e w' => e = .returned (.string ⟨(evAbt k o h n).toArray⟩) ∧ Below w.heap.size w w' := by
  have HU := Lib.hid (up_alloc w (.cells #[.int .i64 k, .int .i64 o, .int .i64 h, .int .i64 n] 27))
  have HB := Blk.new w [.int .i64 k, .int .i64 o, .int .i64 h, .int .i64 n] 27
  have CL := Lib.hid (fun W => c_evltr k W)
  have HV := Lib.hid hv
  have ho := evD_len (n := o) (by have := hf.o1; omega)
  have hh := evD_len (n := h) hf.h1
  have hn := evD_len (n := n) (by have := hf.n1; omega)
  have Co := Lib.hid (fun W => c_evdec o hf.o0 (by have := hf.o1; omega) W)
  have Ch := Lib.hid (fun W => c_evdec h hf.h0 hf.h1 W)
  have Cn := Lib.hid (fun W => c_evdec n hf.n0 (by have := hf.n1; omega) W)
  clear hv hf
  rcases ltr_ways k with ⟨hl, _⟩ | ⟨hl, _⟩ | ⟨hl, _⟩
  · rw [abt_low hl]
    rw [hl] at CL
    generalize evD o = so at ho Co ⊢
    have HV2 := HV.out.up HU.out
    clear hl
    go_enter Tryd.func20, Tryd.ntmps20
    go_wp2_with (go_at_call 33; refine (CL.out _).mono ?_; rintro e w' ⟨rfl, rfl⟩)
    refine (Co.out _ HV2).mono ?_; rintro e w2 ⟨rfl, hb2⟩
    go_wp2
    go_ret
    exact ⟨ret_str (bytes_app [98] so), up_trans HU.out hb2⟩
  · rw [abt_low hl]
    rw [hl] at CL
    generalize evD o = so at ho Co ⊢
    have HV2 := HV.out.up HU.out
    clear hl
    go_enter Tryd.func20, Tryd.ntmps20
    go_wp2_with (go_at_call 33; refine (CL.out _).mono ?_; rintro e w' ⟨rfl, rfl⟩)
    refine (Co.out _ HV2).mono ?_; rintro e w2 ⟨rfl, hb2⟩
    go_wp2
    go_ret
    exact ⟨ret_str (bytes_app [99] so), up_trans HU.out hb2⟩
  · rw [abt_high hl]
    rw [hl] at CL
    generalize evD h = sh at hh Ch ⊢
    generalize evD n = sn at hn Cn ⊢
    have HV2 := HV.out.up HU.out
    have cH := grown_call (w := w.alloc (.cells #[.int .i64 k, .int .i64 o, .int .i64 h, .int .i64 n] 27)) fun W hW => Ch.out W (HV2.up hW)
    have cN := grown_call (w := w.alloc (.cells #[.int .i64 k, .int .i64 o, .int .i64 h, .int .i64 n] 27)) fun W hW => Cn.out W (HV2.up hW)
    have i2 := cell_regrown (HB.cell 2 _ rfl)
    have i3 := cell_regrown (HB.cell 3 _ rfl)
    clear hl HB HV2 HV Ch Cn Co
    go_enter Tryd.func20, Tryd.ntmps20
    go_wp2_with (go_at_call 33; refine (CL.out _).mono ?_; rintro e w' ⟨rfl, rfl⟩)
    refine wp_region_quiet_below (by kernel_rfl) (by kernel_rfl) ?_
    repeat (go_big_quiet_step (first | (with_reducible exact cH _ _) | (with_reducible exact cN _ _)))
    refine wpQuiet_nil ?_
    intro _ hw'
    obtain ⟨⟨dq, osq⟩, hw''⟩ := hw'
    have HQ := Lib.hid (up_trans HU.out (hw'' ▸ below_regrown _ dq osq))
    clear hw'' i2 i3 cH cN
    go_wp2
    go_ret
    refine ⟨ret_str ?_, HQ.out⟩
    apply ByteArray.ext
    simp

set_option maxRecDepth 100000 in
set_option maxHeartbeats 2000000 in
theorem c_evtxt (k o h n : Int) (w : World) (hv : EnvE w) : Calls Tryd.prog 6 #[.agg #[.int .i64 k, .int .i64 o, .int .i64 h, .int .i64 n]] w fun e w' => e = .returned (.tuple #[.string ⟨(evTxt k o h n).toArray⟩, .int .i64 (evChk k o h n)]) ∧ Below w.heap.size w w' := by
  have HU := Lib.hid (up_alloc w (.cells #[.int .i64 k, .int .i64 o, .int .i64 h, .int .i64 n] 27))
  have HB := Lib.hid (Blk.new w [.int .i64 k, .int .i64 o, .int .i64 h, .int .i64 n] 27)
  have CC := Lib.hid (c_evchk k o h n (w.alloc (.cells #[.int .i64 k, .int .i64 o, .int .i64 h, .int .i64 n] 27)))
  by_cases h0 : evChk k o h n = 0
  · have HX := Lib.hid (evTxt_ok h0)
    have hf := evFit_of h0
    have la := evAbt_len hf
    have CA := Lib.hid (fun W => c_evabt k o h n hf W)
    obtain ⟨j, rfl⟩ := Int.eq_ofNat_of_zero_le (a := k) (by have := hf.k0; omega)
    have hj9 : j < 9 := by have := hf.k1; omega
    have hj0 : (0 : Int) ≤ j := by omega
    have hj1 : (j : Int) < 9 := by omega
    have ln := evNm_len j
    have HN := Lib.hid (hv.nm j hj9)
    have HV := Lib.hid hv.env
    have HJ : Hid ((j : Int).toNat = j) := Lib.hid (Int.toNat_natCast j)
    rw [h0] at CC ⊢
    rw [HJ.out] at HX
    clear h0 hf hv hj9
    generalize evAbt j o h n = sa at la CA HX
    generalize evNm j = sn at ln HN HX
    go_enter Tryd.func6, Tryd.ntmps6
    go_wp2_with fail
    refine CC.out.mono ?_; rintro e w2 ⟨rfl, hb2⟩
    have HB2 := HB.out.up hb2 HB.out.lt
    have HU2 := Lib.hid (up_trans HU.out hb2)
    have HV2 := HV.out.up HU2.out
    have cA := grown_call (w := w2) fun W hW => CA.out W (HV2.up hW)
    have i0 := cell_regrown (HB2.cell 0 _ rfl)
    have i1 := cell_regrown (HB2.cell 1 _ rfl)
    have i2 := cell_regrown (HB2.cell 2 _ rfl)
    have i3 := cell_regrown (HB2.cell 3 _ rfl)
    have in_ := cell_regrown ((HU2.out.cell (World.block_lt_of_cell? _ _ HN.out)).trans HN.out)
    clear HB2 HB HU CC CA HN HV HV2 hb2
    go_wp2_with fail
    refine wp_region_quiet_below (by kernel_rfl) (by kernel_rfl) ?_
    repeat (go_big_quiet_step (with_reducible exact cA _ _))
    refine wpQuiet_nil ?_
    intro _ hw'
    obtain ⟨⟨dq, osq⟩, hw''⟩ := hw'
    have HQ := Lib.hid (up_trans HU2.out (hw'' ▸ below_regrown w2 dq osq))
    clear hw'' i0 i1 i2 i3 in_ cA
    go_wp2
    go_ret2
    refine ⟨ret_str2 ?_ rfl, HQ.out⟩
    rw [HX.out]
    apply ByteArray.ext
    simp
  · have HX := Lib.hid (evTxt_no h0)
    have hb : (evChk k o h n != 0) = true := by simpa [bne] using h0
    generalize evChk k o h n = x at CC hb
    clear h0 hv HB
    go_enter Tryd.func6, Tryd.ntmps6
    go_wp2_with fail
    refine CC.out.mono ?_; rintro e w2 ⟨rfl, hb2⟩
    go_wp2
    go_ret2
    exact ⟨ret_str2 (by rw [HX.out]) rfl, up_trans HU.out hb2⟩

theorem evFrom_hit {m k : Nat} {l : List UInt8} (h : (evNm k == l) = true) : evFrom (m + 1) k l = k := if_pos h
theorem evFrom_go {m k : Nat} {l : List UInt8} (h : (evNm k == l) = false) : evFrom (m + 1) k l = evFrom m (k + 1) l := if_neg (by rw [h]; decide)
set_option maxHeartbeats 1000000 in
theorem c_evfind (l : List UInt8) (w : World) (hv : NmT w) : Calls Tryd.prog 27 #[.string ⟨l.toArray⟩] w fun e w' => e = .returned (.int .i64 (evFind l)) ∧ w = w' := by
  have HV := Lib.hid hv
  clear hv
  go_enter Tryd.func27, Tryd.ntmps27
  go_wp2
  go_loop [3] (fun i => ∃ m k : Nat, m + k = 9 ∧ 1 ≤ k ∧ i = .int .i64 k ∧ evFind l = evFrom m k l) (fun i => 9 - (intOf i).toNat)
  case atStart => exact ⟨8, 1, rfl, Nat.le_refl _, rfl, rfl⟩
  case round =>
    obtain ⟨m, k, hmk, hk1, rfl, hF⟩ := hrel
    have HF := Lib.hid hF
    clear hF
    by_cases hlt : k ≤ 8
    · have HN := HV.out k (by omega)
      have hk0 : (0 : Int) ≤ k := by omega
      have hk9 : (k : Int) < 9 := by omega
      obtain ⟨m', rfl⟩ : ∃ m', m = m' + 1 := ⟨m - 1, by omega⟩
      cases he : (evNm k == l)
      · have HG := Lib.hid (evFrom_go (m := m') he)
        generalize evNm k = x at HN he HG
        go_wp2
        go_round
        case rel => exact ⟨m', k + 1, by omega, by omega, by go_num, by rw [HF.out, HG.out]⟩
        case measure => simp [intOf]; omega
      · have HG := Lib.hid (evFrom_hit (m := m') he)
        generalize evNm k = x at HN he HG
        go_wp2
        go_ret
        exact ⟨ret_int (by rw [HF.out, HG.out]), rfl⟩
    · obtain rfl : k = 9 := by omega
      obtain rfl : m = 0 := by omega
      go_wp2
      go_ret
      exact ⟨ret_int (by rw [HF.out]; rfl), rfl⟩
end Go.Proofs.YtajbpplklmhfmaaDoor

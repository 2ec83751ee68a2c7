/- The law's To and Back; alive. -/
import Derived.Test.YtajbpplklmhfmaaDoorEvn
import Derived.Test.YtajbpplklmhfmaaDoorEve
import Derived.Test.YtajbpplklmhfmaaDoorEvi
namespace Go.Proofs.YtajbpplklmhfmaaDoor
open Go.RowKit

set_option maxHeartbeats 1000000 in
theorem c_to {w : World} {pl : Nat → Prop} {A : Option Addr} {c : Nat} {L : List EV} (hR : RD w pl 4 A L.length (L.flatMap evC)) (hL : L.length ≤ 100000) :
    Calls Tryd.prog 16 #[.slice A L.length c] w (EvsPost w L) := by
  have HR := Lib.hid hR
  clear hR
  go_enter Tryd.func16, Tryd.ntmps16
  go_wp2
  go_loopw [3, 8] (fun v i wr => ∃ k : Nat, k ≤ L.length ∧ i = .int .i64 k ∧ wr.ownsRow w.heap.size 27 4 v (L.take k).length ((L.take k).flatMap evC) ∧ Below w.heap.size w wr) (fun _ i _ => L.length - (intOf i).toNat)
  case atStart => exact ⟨0, Nat.zero_le _, rfl, World.ownsRow_nil _ _ _ _, Below.refl _ _⟩
  case round =>
    obtain ⟨k, hk, rfl, hown, hb⟩ := hrel
    have HB := Lib.hid hb
    have HOWN := Lib.hid hown
    have hsz := hb.size
    by_cases hlt : k < L.length
    · have hx : L[k]? = some L[k] := List.getElem?_eq_getElem hlt
      obtain ⟨bL, oL, rfl, hbl, hcells⟩ := HR.out.ev k _ hx hlt
      have HN := Lib.hid (ev_take L k _ hx)
      have htl : (L.take k).length ≤ 100000 := by rw [List.length_take]; omega
      generalize L[k] = x at hcells HN
      obtain ⟨x0, x1, x2, x3⟩ := cells_up hbl hcells hb
      have hk0 : (0 : Int) ≤ k := by omega
      have hk1 : (k : Int) < L.length := by omega
      clear hx hcells hb hown
      go_wp2_with (at_builtin; refine wpList_app ei_ev rfl (.tmp 12) (.tmp 14) rfl _ _ rfl ((HOWN.out.alloc _).alloc _) rfl (rd_new (by simp) rfl) (fun u hu => evC_one x u hu) (by omega) (by simp; omega) ?_; intro v' w4 hown4 hb4)
      go_roundw
      case rel => exact ⟨k + 1, by omega, by go_num, by rw [HN.out, ev_flat1, List.length_append]; exact hown4, ((HB.out.alloc hsz _).alloc (by simp; omega) _).trans hb4⟩
      case measure => simp [intOf]; omega
    · obtain rfl : k = L.length := by omega
      rw [List.take_length] at HOWN
      clear hown hb
      go_wp2
      go_ret
      exact EvsPost.of HOWN.out HB.out
set_option maxHeartbeats 1000000 in
theorem c_back {w : World} {pl : Nat → Prop} {A : Option Addr} {c : Nat} {L : List EV} (hR : RD w pl 4 A L.length (L.flatMap evC)) (hL : L.length ≤ 100000) :
    Calls Tryd.prog 14 #[.slice A L.length c] w (EvsPost w L) := by
  have HR := Lib.hid hR
  clear hR
  go_enter Tryd.func14, Tryd.ntmps14
  go_wp2
  go_loopw [3, 8] (fun v i wr => ∃ k : Nat, k ≤ L.length ∧ i = .int .i64 k ∧ wr.ownsRow w.heap.size 23 4 v (L.take k).length ((L.take k).flatMap evC) ∧ Below w.heap.size w wr) (fun _ i _ => L.length - (intOf i).toNat)
  case atStart => exact ⟨0, Nat.zero_le _, rfl, World.ownsRow_nil _ _ _ _, Below.refl _ _⟩
  case round =>
    obtain ⟨k, hk, rfl, hown, hb⟩ := hrel
    have HB := Lib.hid hb
    have HOWN := Lib.hid hown
    have hsz := hb.size
    by_cases hlt : k < L.length
    · have hx : L[k]? = some L[k] := List.getElem?_eq_getElem hlt
      obtain ⟨bL, oL, rfl, hbl, hcells⟩ := HR.out.ev k _ hx hlt
      have HN := Lib.hid (ev_take L k _ hx)
      have htl : (L.take k).length ≤ 100000 := by rw [List.length_take]; omega
      generalize L[k] = x at hcells HN
      obtain ⟨x0, x1, x2, x3⟩ := cells_up hbl hcells hb
      have hk0 : (0 : Int) ≤ k := by omega
      have hk1 : (k : Int) < L.length := by omega
      clear hx hcells hb hown
      go_wp2_with (at_builtin; refine wpList_app ei_rev rfl (.tmp 12) (.tmp 14) rfl _ _ rfl ((HOWN.out.alloc _).alloc _) rfl (rd_new (by simp) rfl) (fun u hu => evC_one x u hu) (by omega) (by simp; omega) ?_; intro v' w4 hown4 hb4)
      go_roundw
      case rel => exact ⟨k + 1, by omega, by go_num, by rw [HN.out, ev_flat1, List.length_append]; exact hown4, ((HB.out.alloc hsz _).alloc (by simp; omega) _).trans hb4⟩
      case measure => simp [intOf]; omega
    · obtain rfl : k = L.length := by omega
      rw [List.take_length] at HOWN
      clear hown hb
      go_wp2
      go_ret
      exact EvsPost.of HOWN.out HB.out

theorem evD_lit (d : Nat) (h : d < 10) : evD d = [UInt8.ofNat (48 + d)] := by
  have := dg_last d (by omega) []
  unfold evD
  rw [Int.toNat_natCast, ← List.append_nil (Lib.decDigits d), ← this]
theorem txt_lit : evTxt 5 0 3 0 = [98, 97, 110, 101, 32, 51, 46, 48] := by
  have h3 := evD_lit 3 (by omega)
  have h0 := evD_lit 0 (by omega)
  rw [evTxt_ok (by decide)]
  have e : evAbt 5 0 3 0 = evD ((3 : Nat) : Int) ++ ([46] ++ evD ((0 : Nat) : Int)) := rfl
  rw [e, h3, h0]
  rfl
theorem par_1 : evPar evNP [116, 97, 107, 101, 32, 99, 49] = (⟨4, 1, 0, 0⟩, 0) := by kernel_rfl
theorem par_2 : evPar evNP [116, 97, 107, 101, 32, 49] = (⟨0, 0, 0, 0⟩, 3) := by kernel_rfl
theorem par_3 : evPar evNP [102, 105, 114, 101, 32, 98, 56] = (⟨0, 0, 0, 0⟩, 8) := by kernel_rfl
theorem sort_lit : evSort [⟨6, 0, 2, 0⟩, ⟨4, 1, 0, 0⟩] = [⟨4, 1, 0, 0⟩, ⟨6, 0, 2, 0⟩] := by kernel_rfl
theorem less_lit : evLess ⟨4, 1, 0, 0⟩ ⟨6, 0, 2, 0⟩ = true := by kernel_rfl

set_option maxRecDepth 100000 in
set_option maxHeartbeats 4000000 in
theorem c_alive (w : World) (hv : EnvE w) : Calls Tryd.prog 10 #[] w fun e w' => e = .returned (.bool true) ∧ Below w.heap.size w w' := by
  have C1 := Lib.hid (c_evtxt 5 0 3 0 w hv)
  rw [txt_lit, show evChk 5 0 3 0 = 0 from by decide] at C1
  have HV := Lib.hid hv
  have CP1 := Lib.hid (fun W => c_evparse ⟨#[116, 97, 107, 101, 32, 99, 49]⟩ (by decide) W)
  have CP2 := Lib.hid (fun W => c_evparse ⟨#[116, 97, 107, 101, 32, 49]⟩ (by decide) W)
  have CP3 := Lib.hid (fun W => c_evparse ⟨#[102, 105, 114, 101, 32, 98, 56]⟩ (by decide) W)
  change Hid (∀ W, EnvE W → Calls _ _ _ _ (ParPost W (evPar evNP [116, 97, 107, 101, 32, 99, 49]))) at CP1
  change Hid (∀ W, EnvE W → Calls _ _ _ _ (ParPost W (evPar evNP [116, 97, 107, 101, 32, 49]))) at CP2
  change Hid (∀ W, EnvE W → Calls _ _ _ _ (ParPost W (evPar evNP [102, 105, 114, 101, 32, 98, 56]))) at CP3
  rw [par_1] at CP1
  rw [par_2] at CP2
  rw [par_3] at CP3
  have CL := Lib.hid (fun W => c_evless ⟨4, 1, 0, 0⟩ ⟨6, 0, 2, 0⟩ W)
  rw [less_lit] at CL
  have CC := Lib.hid (fun W => c_evchk 0 0 0 0 W)
  rw [show evChk 0 0 0 0 = 12 from by decide] at CC
  have hE := fun W => eql_ev 4 1 0 0 4 1 0 0 W
  simp only [beq_self_eq_true, Bool.and_self] at hE
  clear hv
  go_enter Tryd.func10, Tryd.ntmps10
  go_wp2_with fail
  refine C1.out.mono ?_; rintro e w1 ⟨rfl, hb1⟩
  have HV1 := Lib.hid (HV.out.up hb1)
  go_wp2_with fail
  refine (CP1.out _ HV1.out).mono ?_; rintro e w2 ⟨rfl, hb2⟩
  have hb12 := up_trans hb1 hb2
  have HV2 := Lib.hid (HV.out.up (hb12.alloc hb12.size (.cells #[.int .i64 4, .int .i64 1, .int .i64 0, .int .i64 0] 27)))
  have HU2 := Lib.hid (hb12.alloc hb12.size (.cells #[.int .i64 4, .int .i64 1, .int .i64 0, .int .i64 0] 27))
  have HE2 := Lib.hid (Blk.new w2 [.int .i64 4, .int .i64 1, .int .i64 0, .int .i64 0] 27)
  clear hb1 hb2 hb12 HV1
  go_wp2_with fail
  refine (CP2.out _ HV2.out).mono ?_; rintro e w3 ⟨rfl, hb3⟩
  have HE3 := Lib.hid (HE2.out.up hb3 HE2.out.lt)
  have hb13 := HU2.out.trans (hb3.mono HU2.out.size)
  have HU3 := Lib.hid (hb13.alloc hb13.size (.cells #[.int .i64 0, .int .i64 0, .int .i64 0, .int .i64 0] 27))
  have HV3 := Lib.hid (HV.out.up HU3.out)
  clear hb3 hb13
  go_wp2_with fail
  refine (CP3.out _ HV3.out).mono ?_; rintro e w4 ⟨rfl, hb4⟩
  have HE4 := (HE3.out.alloc (.cells #[.int .i64 0, .int .i64 0, .int .i64 0, .int .i64 0] 27)).up hb4 (HE3.out.alloc _).lt
  have hb14 := HU3.out.trans (hb4.mono HU3.out.size)
  have HE5 := Lib.hid ((HE4.alloc (.cells #[.int .i64 0, .int .i64 0, .int .i64 0, .int .i64 0] 27)).alloc (.cells #[.int .i64 6, .int .i64 0, .int .i64 2, .int .i64 0, .int .i64 4, .int .i64 1, .int .i64 0, .int .i64 0] 27))
  have hbx := hb14.alloc hb14.size (.cells #[.int .i64 0, .int .i64 0, .int .i64 0, .int .i64 0] 27)
  have HU5 := Lib.hid (hbx.alloc hbx.size (.cells #[.int .i64 6, .int .i64 0, .int .i64 2, .int .i64 0, .int .i64 4, .int .i64 1, .int .i64 0, .int .i64 0] 27))
  have hz5 : (w4.alloc (.cells #[.int .i64 0, .int .i64 0, .int .i64 0, .int .i64 0] 27)).heap.size = w4.heap.size + 1 := by simp
  have HL := Blk.new (w4.alloc (.cells #[.int .i64 0, .int .i64 0, .int .i64 0, .int .i64 0] 27)) [.int .i64 6, .int .i64 0, .int .i64 2, .int .i64 0, .int .i64 4, .int .i64 1, .int .i64 0, .int .i64 0] 27
  rw [hz5] at HL
  have CS := Lib.hid (c_evsort (A := some ⟨w4.heap.size + 1, 0, none⟩) (c := 2) (pl := fun _ => True) (L := [⟨6, 0, 2, 0⟩, ⟨4, 1, 0, 0⟩]) (RD.of_blk (xs := [.int .i64 6, .int .i64 0, .int .i64 2, .int .i64 0, .int .i64 4, .int .i64 1, .int .i64 0, .int .i64 0]) HL rfl trivial) (by decide))
  rw [sort_lit] at CS
  have e0 := HE4.cell 0 _ rfl
  have e1 := HE4.cell 1 _ rfl
  have e2 := HE4.cell 2 _ rfl
  have e3 := HE4.cell 3 _ rfl
  have k0 := fun o => Lib.cell?_alloc_some o e0
  have k1 := fun o => Lib.cell?_alloc_some o e1
  have k2 := fun o => Lib.cell?_alloc_some o e2
  have k3 := fun o => Lib.cell?_alloc_some o e3
  clear hb4 hb14 hbx hz5 HL HE4
  go_wp2_with fail
  refine CS.out.mono ?_; rintro e w6 ⟨A6, c6, rfl, hrd, hb6⟩
  have HE6 := HE5.out.up hb6 HE5.out.lt
  have HU6 := Lib.hid (HU5.out.trans (hb6.mono HU5.out.size))
  obtain ⟨b6, o6, rfl, _, a0, a1, a2, a3⟩ := hrd.ev 0 ⟨4, 1, 0, 0⟩ rfl (by decide)
  obtain ⟨b7, o7, hA7, _, d0, d1, d2, d3⟩ := hrd.ev 1 ⟨6, 0, 2, 0⟩ rfl (by decide)
  injection hA7 with hA7
  injection hA7 with q1 q2 q3
  subst q1 q2
  simp only [Nat.zero_mul, Nat.add_zero, Nat.one_mul, Nat.add_assoc, Nat.reduceAdd] at a0 a1 a2 a3 d0 d1 d2 d3
  have A0 := cell_regrown a0
  have A1 := cell_regrown a1
  have A2 := cell_regrown a2
  have A3 := cell_regrown a3
  have D0 := cell_regrown d0
  have D1 := cell_regrown d1
  have D2 := cell_regrown d2
  have D3 := cell_regrown d3
  have E0 := cell_regrown (HE6.cell 0 _ rfl)
  have E1 := cell_regrown (HE6.cell 1 _ rfl)
  have E2 := cell_regrown (HE6.cell 2 _ rfl)
  have E3 := cell_regrown (HE6.cell 3 _ rfl)
  have cL := grown_call (w := w6) fun W _ => CL.out W
  have cC := grown_call (w := w6) fun W _ => CC.out W
  clear e0 e1 e2 e3 k0 k1 k2 k3 a0 a1 a2 a3 d0 d1 d2 d3 HE6 hrd hb6 q3
  go_wp2_with fail
  refine wp_region_quiet_below (by kernel_rfl) (by kernel_rfl) ?_
  repeat (go_big_quiet_step (first | (with_reducible exact cL _ _) | (with_reducible exact cC _ _)))
  refine wpQuiet_nil ?_
  intro _ hw'
  obtain ⟨⟨dq, osq⟩, hw''⟩ := hw'
  have HQ := Lib.hid (up_trans HU6.out (hw'' ▸ below_regrown w6 dq osq))
  clear hw''
  go_wp2
  go_ret
  exact ⟨rfl, HQ.out⟩
end Go.Proofs.YtajbpplklmhfmaaDoor

/- The law's made of layer 29. -/
import Derived.Test.YtdiiilnebepfdaaGreatDoorR2
import Derived.Test.YtdiiilnebepfdaaGreatDoorRpc
namespace Go.Proofs.YtdiiilnebepfdaaGreatDoor
open Go.RowKit

def vQ0 : VQ := ⟨0, none, 0, [], none, 0, [], none, 0, [], none, 0, [], none, 0, []⟩
/-- What made answers: a view, and whether it is one that is looked at: then it knows who waits. -/
def MdP (w : World) (e : Ending) (w' : World) : Prop :=
  ∃ V b, e = .returned (.tuple #[.agg (vC V).toArray, .bool b]) ∧ (b = true → ∃ Q, VX w' V Q ∧ Few V ∧ smallT Q = true ∧ (∀ t ∈ V.Tq, t.who ≤ 9223372036854775807) ∧ KInv V.p) ∧ Below w.heap.size w w'
theorem MdP.no {w w' : World} (h : Below w.heap.size w w') : MdP w (.returned (.tuple #[.agg vZc.toArray, .bool false])) w' := ⟨vQ0, false, rfl, fun h => (by cases h), h⟩
theorem newL_len (l : List CF) : (newL l).length ≤ 8 := by
  by_cases h8 : 8 < l.length
  · have e : newR l = (8, 5) := if_pos h8
    unfold newL
    rw [e, if_neg (by decide)]
    exact Nat.zero_le _
  · unfold newL
    split
    · rw [List.length_map]; omega
    · exact Nat.zero_le _
theorem nwL_len (l : List CB) : (nwL l).length ≤ 8 := by
  by_cases h8 : 8 < l.length
  · have e : nwR l = (8, 5) := if_pos h8
    unfold nwL
    rw [e, if_neg (by decide)]
    exact Nat.zero_le _
  · unfold nwL
    split
    · rw [List.length_map]; omega
    · exact Nat.zero_le _
theorem vZc_one : ∀ v ∈ vZc, v.oneCell' = true := by
  intro v hv
  simp only [vZc, List.mem_cons, List.not_mem_nil, or_false] at hv
  rcases hv with rfl | rfl | rfl | rfl | rfl | rfl <;> rfl
theorem made_new {w : World} {X : WS} (h : WX w X) : Calls Tryz.prog 18 #[.slice X.CA X.Cl.length X.Cc] w fun e w' => ∃ A n c L, ∃ i x : Int, e = .returned (.tuple #[.slice A n c, .int .i64 i, .int .i64 x]) ∧ TbW w' ctAny A n c L ∧ L.map Prod.fst = newL X.Cl ∧ n ≤ 8 ∧ Below w.heap.size w w' :=
  (c_rtnew h.ch rfl).mono (by
    rintro e w' ⟨A, n, c, L, rfl, hT, hL, hb⟩
    refine ⟨A, n, c, L, _, _, rfl, hT, hL, ?_, hb⟩
    have := newL_len X.Cl
    rw [← hL, List.length_map, hT.len] at this
    exact this)
theorem made_unew {w : World} {X : WS} (h : WX w X) : Calls Tryz.prog 31 #[.slice X.BA X.Bl.length X.Bc] w fun e w' => ∃ A n c, ∃ i x : Int, e = .returned (.tuple #[.slice A n c, .int .i64 i, .int .i64 x]) ∧ DT w' A n (nwL X.Bl) ∧ n ≤ 8 ∧ Below w.heap.size w w' :=
  (c_unew h.br rfl).mono (by
    rintro e w' ⟨A, n, c, rfl, hD, hb⟩
    refine ⟨A, n, c, _, _, rfl, hD, ?_, hb⟩
    have := nwL_len X.Bl
    rw [hD.len] at this
    exact this)
theorem vWC_one {n : Int} {A : Option Addr} {k c : Nat} : ∀ v ∈ vWC n (.slice A k c), v.oneCell' = true := by
  intro v hv
  simp only [vWC, List.mem_cons, List.not_mem_nil, or_false] at hv
  rcases hv with rfl | rfl | rfl | rfl | rfl | rfl <;> rfl
theorem lnV_one {l : Nat} (u : Value) (hu : u.oneCell' = true) : ∀ v ∈ lnV l u, v.oneCell' = true := by
  intro v hv
  simp only [lnV, List.mem_cons, List.not_mem_nil, or_false] at hv
  rcases hv with rfl | rfl | rfl
  · rfl
  · rfl
  · exact hu
theorem ei_lw : EI Tryz.prog 24 67 (.agg ([.int .i64 0, .slice none 0 0] : List Value).toArray) 2 32 := ⟨Tryz.underlying24, by kernel_rfl, rfl, by omega, by omega⟩
set_option maxRecDepth 100000 in
set_option maxHeartbeats 16000000 in
theorem c_made {X : WS} {w : World} (h : WX w X) : Calls Tryz.prog 14 #[.agg (wsC X).toArray] w (MdP w) := by
  have hX := bl1 w (wsC X) 54 vZc 28
  have hZ := (bx2 w (wsC X) 54 vZc 28).res
  generalize hw1 : (w.alloc (.cells (wsC X).toArray 54)).alloc (.cells vZc.toArray 28) = w1 at hX hZ
  have HW := Lib.hid (show (w.alloc (.cells (wsC X).toArray 54)).alloc (.cells #[.int .i64 0, .slice none 0 0, .slice none 0 0, .slice none 0 0, .slice none 0 0, .slice none 0 0] 28) = w1 from hw1)
  have HX := Lib.hid (show BL w [(w.heap.size, wsC X, 54)] (w.heap.size + 1) 6 28 w1 from hX)
  have HZ := Lib.hid hZ
  have HH := Lib.hid (fun W (hW : Below w.heap.size w W) => h.below hW)
  have C1 := Lib.hid (fun W (hW : Below w.heap.size w W) => made_new (h.below hW))
  have C2 := Lib.hid (fun W (hW : Below w.heap.size w W) => made_unew (h.below hW))
  have HOB := Lib.hid h.ob
  have HPB := Lib.hid h.pb
  have HPM := Lib.hid h.pm
  have c0 : w1.cell? ⟨w.heap.size, 0, none⟩ = some (.slice X.CA X.Cl.length X.Cc) := (hX.ka 0 rfl).cell 0 _ rfl
  clear h hX hZ hw1
  go_enter Tryz.func14, Tryz.ntmps14
  go_upto_region 1 with fail
  rw [HW.out]
  go_wp2_with fail
  refine (C1.out _ HX.out.up).mono ?_; rintro e w2 ⟨A1, n1, k1, L1, i1, x1, rfl, hT1, hL1, hn1, b2⟩
  have HX2 := Lib.hid (HX.out.next b2)
  have HZ2 := Lib.hid (blk_up HZ.out b2)
  have HT1 := Lib.hid (new_tbY hT1 hL1 (blk_up HZ.out b2))
  have HF1 := Lib.hid (few_new hL1)
  have HL1 := Lib.hid hL1
  have c1 : w2.cell? ⟨w.heap.size, 1, none⟩ = some (.slice X.BA X.Bl.length X.Bc) := (HX2.out.ka 0 rfl).cell 1 _ rfl
  clear hT1 hL1 b2 c0 C1 HZ
  go_wp2_with fail
  refine (C2.out _ HX2.out.up).mono ?_; rintro e w3 ⟨B1, m1, d1, i2, x2, rfl, hD1, hm1, b3⟩
  have HX3 := Lib.hid (HX2.out.next b3)
  have HD1 := Lib.hid (new_dtY hD1 (blk_up HZ2.out b3))
  have HT3 := Lib.hid (HT1.out.below b3)
  have c2 : w3.cell? ⟨w.heap.size, 2, none⟩ = some (.slice X.OA X.Ol.length X.Oc) := (HX3.out.ka 0 rfl).cell 2 _ rfl
  have c3 : w3.cell? ⟨w.heap.size, 3, none⟩ = some (.slice X.WA X.Wq.length X.Wc) := (HX3.out.ka 0 rfl).cell 3 _ rfl
  clear hD1 b3 c1 C2 HT1 HZ2 HX2 HX
  by_cases g1 : x1 ≠ 0
  · have s1 : (x1 != 0) = true := by simpa using g1
    obtain ⟨es, hes, hr⟩ := HX3.out.res
    have HR := Lib.hid hr
    clear hr
    go_wp2_with (refine str (b := w.heap.size + 1) (cs := vZc) (ds := es) (t := 28) (.tmp 2) (.tmp 61) rfl rfl rfl rfl info_rvw (by rw [hes]; rfl) vZc_one ?_ ?_; (· exact HR.out))
    refine bodyPost_ret (v := .tuple #[.agg vZc.toArray, .bool false]) (results_ce (fn := Tryz.f14) (p := 2) (t := 3) rfl _ _ _ rfl (HR.out.row vZc) Tryz.underlying28 rfl info_rvw) rfl ?_
    exact MdP.no (below_setRow HX3.out.up (Nat.le_succ _) _)
  have s1 : (x1 != 0) = false := by simpa using g1
  by_cases g2 : x2 ≠ 0
  · have s2 : (x2 != 0) = true := by simpa using g2
    obtain ⟨es, hes, hr⟩ := HX3.out.res
    have HR := Lib.hid hr
    clear hr
    go_wp2_with (refine str (b := w.heap.size + 1) (cs := vZc) (ds := es) (t := 28) (.tmp 2) (.tmp 61) rfl rfl rfl rfl info_rvw (by rw [hes]; rfl) vZc_one ?_ ?_; (· exact HR.out))
    refine bodyPost_ret (v := .tuple #[.agg vZc.toArray, .bool false]) (results_ce (fn := Tryz.f14) (p := 2) (t := 3) rfl _ _ _ rfl (HR.out.row vZc) Tryz.underlying28 rfl info_rvw) rfl ?_
    exact MdP.no (below_setRow HX3.out.up (Nat.le_succ _) _)
  have s2 : (x2 != 0) = false := by simpa using g2
  by_cases g3 : 16 < X.Ol.length
  · have s3 : decide ((X.Ol.length : Int) > 16) = true := decide_eq_true (by omega)
    obtain ⟨es, hes, hr⟩ := HX3.out.res
    have HR := Lib.hid hr
    clear hr
    go_wp2_with (refine str (b := w.heap.size + 1) (cs := vZc) (ds := es) (t := 28) (.tmp 2) (.tmp 61) rfl rfl rfl rfl info_rvw (by rw [hes]; rfl) vZc_one ?_ ?_; (· exact HR.out))
    refine bodyPost_ret (v := .tuple #[.agg vZc.toArray, .bool false]) (results_ce (fn := Tryz.f14) (p := 2) (t := 3) rfl _ _ _ rfl (HR.out.row vZc) Tryz.underlying28 rfl info_rvw) rfl ?_
    exact MdP.no (below_setRow HX3.out.up (Nat.le_succ _) _)
  have s3 : decide ((X.Ol.length : Int) > 16) = false := decide_eq_false (by omega)
  by_cases g4 : 12 < X.Wq.length
  · have s4 : decide ((X.Wq.length : Int) > 12) = true := decide_eq_true (by omega)
    obtain ⟨es, hes, hr⟩ := HX3.out.res
    have HR := Lib.hid hr
    clear hr
    go_wp2_with (refine str (b := w.heap.size + 1) (cs := vZc) (ds := es) (t := 28) (.tmp 2) (.tmp 61) rfl rfl rfl rfl info_rvw (by rw [hes]; rfl) vZc_one ?_ ?_; (· exact HR.out))
    refine bodyPost_ret (v := .tuple #[.agg vZc.toArray, .bool false]) (results_ce (fn := Tryz.f14) (p := 2) (t := 3) rfl _ _ _ rfl (HR.out.row vZc) Tryz.underlying28 rfl info_rvw) rfl ?_
    exact MdP.no (below_setRow HX3.out.up (Nat.le_succ _) _)
  have s4 : decide ((X.Wq.length : Int) > 12) = false := decide_eq_false (by omega)
  have hO16 : X.Ol.length ≤ 16 := by omega
  have hW12 : X.Wq.length ≤ 12 := by omega
  obtain ⟨OA, hOA⟩ : ∃ x, X.OA = x := ⟨_, rfl⟩
  have HOA := Lib.hid hOA
  rw [hOA] at c2
  clear hOA
  have HBI := Lib.hid (binv_new X.Bl)
  generalize hBs : nwL X.Bl = Bs0 at HD1 HBI
  clear hBs
  go_wp2_with fail
  clear c2 c3 s1 s2 s3 s4 g1 g2 g3 g4
  have HRL : Hid (w.heap.size + 1 < w3.heap.size) := Lib.hid HX3.out.rlt
  go_loopw [7, 65] (fun s i wr => ∃ k : Nat, k ≤ X.Ol.length ∧ i = .int .i64 k ∧ ∃ B d Bs, s = .slice B m1 d ∧ DY wr (fun b => b ≠ w.heap.size + 1) B m1 Bs ∧ BInv [] Bs ∧ Below w3.heap.size w3 wr) (fun _ i _ => X.Ol.length - (intOf i).toNat)
  case atStart => exact ⟨0, Nat.zero_le _, rfl, B1, d1, Bs0, rfl, HD1.out, HBI.out, Below.refl _ _⟩
  case round =>
    rename World => wr0
    obtain ⟨k, hk, rfl, B2, d2, Bs, rfl, hd, hbi, hbr⟩ := hrel
    have HD := Lib.hid hd
    have HBN := Lib.hid hbi
    have HB := Lib.hid hbr
    have HX4 := Lib.hid (HX3.out.next hbr)
    clear hd hbi
    by_cases hlt : k < X.Ol.length
    · have hon := (HH.out _ HX4.out.up).on
      rw [HOA.out] at hon
      obtain ⟨b5, o5, hA, _, hb5, hat⟩ := hon.at_ (by omega)
      subst hA
      obtain ⟨z, hz⟩ : ∃ z, X.Ol[k]? = some z := ⟨_, List.getElem?_eq_getElem hlt⟩
      have hcz : wr0.cell? ⟨b5, o5 + k, none⟩ = some (.int .u8 z) := hat k _ (by rw [List.getElem?_map, hz]; rfl)
      obtain ⟨hz0, hz1⟩ := HOB.out z (List.mem_of_getElem? hz)
      have hk16 : k ≤ 16 := by omega
      clear hon hat hz hbr
      go_wp2_with fail
      clear hcz
      go_loopw [7, 72] (fun s i wr => ∃ j : Nat, j ≤ m1 ∧ i = .int .i64 j ∧ ∃ B d Bs, s = .slice B m1 d ∧ DY wr (fun b => b ≠ w.heap.size + 1) B m1 Bs ∧ BInv [] Bs ∧ Below wr0.heap.size wr0 wr) (fun _ i _ => m1 - (intOf i).toNat)
      case atStart => exact ⟨0, Nat.zero_le _, rfl, B2, d2, Bs, rfl, HD.out, HBN.out, Below.refl _ _⟩
      case round =>
        rename World => wr1
        obtain ⟨j, hj, rfl, B3, d3, Bt, rfl, hd, hbi, hbr⟩ := hrel
        have HD2 := Lib.hid hd
        have HBN2 := Lib.hid hbi
        have HB2 := Lib.hid hbr
        clear hd hbi
        by_cases hjt : j < m1
        · have hj8 : j ≤ 8 := by omega
          go_wp2_with fail
          · refine (c_uenrolY (c := d3) HD2.out (fun b hb hc => by have h1 := HRL.out; have h2 := HB.out.size; have h3 := HB2.out.size; omega) (by omega) (j : Int) (k : Int)).mono ?_; rintro e w5 ⟨A5, c5, rfl, hd5, b5'⟩
            have HD5 := Lib.hid hd5
            have HBN5 := Lib.hid (binv_enrol HBN2.out (j : Int) (k : Int))
            have HB5 := Lib.hid (up_trans HB2.out b5')
            clear hd5 b5'
            go_wp2_with fail
            go_roundw
            case rel => exact ⟨j + 1, by omega, by go_num, A5, c5, _, rfl, HD5.out, HBN5.out, HB5.out⟩
            case measure => simp [intOf]; omega
          · refine ⟨⟨j + 1, by omega, by go_num, B3, d3, Bt, rfl, HD2.out, HBN2.out, HB2.out⟩, ?_⟩
            simp [intOf]; omega
        · obtain rfl : j = m1 := by omega
          have HB9 := Lib.hid (up_trans HB.out hbr)
          clear hbr
          go_wp2_with fail
          go_roundw
          case rel => exact ⟨k + 1, by omega, by go_num, B3, d3, Bt, rfl, HD2.out, HBN2.out, HB9.out⟩
          case measure => simp [intOf]; omega
    · obtain rfl : k = X.Ol.length := by omega
      have c5 : wr0.cell? ⟨w.heap.size, 5, none⟩ = some (.int .i64 X.now) := (HX4.out.ka 0 rfl).cell 5 _ rfl
      have HBV := Lib.hid (Blk.new wr0 (vWC X.now (.slice none 0 0)) 28)
      have hup := up_alloc wr0 (.cells (vWC X.now (.slice none 0 0)).toArray 28)
      have HSZ : Hid ((wr0.alloc (.cells (vWC X.now (.slice none 0 0)).toArray 28)).heap.size = wr0.heap.size + 1) := Lib.hid (by simp)
      generalize hw5 : wr0.alloc (.cells (vWC X.now (.slice none 0 0)).toArray 28) = w5 at HBV hup HSZ
      have HW5 := Lib.hid hw5
      have HUP5 := Lib.hid hup
      clear hbr hup hw5
      go_wp2_with (refine snr (W := wr0) (cs := vWC X.now (.slice none 0 0)) (zs := vZc) (t := 28) (.tmp 13) (.tmp 92) rfl rfl rfl rfl info_rvw rfl vWC_one ?_ ?_ ?_; (· rfl); (· rfl); (rw [HW5.out]))
      refine (c_tmnew 100 _ (by omega) (by omega)).mono ?_; rintro e w6 ⟨rfl, b6⟩
      have HBL := Lib.hid (Blk.new w6 (lnV 0 (.slice none 0 0)) 92)
      have hup := up_alloc w6 (.cells (lnV 0 (.slice none 0 0)).toArray 92)
      have hsz : (w6.alloc (.cells (lnV 0 (.slice none 0 0)).toArray 92)).heap.size = w6.heap.size + 1 := by simp
      generalize hw7 : w6.alloc (.cells (lnV 0 (.slice none 0 0)).toArray 92) = w7 at HBL hup hsz
      have HW7 := Lib.hid hw7
      have hup7 : Below wr0.heap.size wr0 w7 := up_trans HUP5.out (up_trans b6 hup)
      have hX7 := HX4.out.next hup7
      have HLS0 : Hid (LSt w X wr0.heap.size w6.heap.size n1 m1 0 0 0 (-1) A1 k1 L1 B2 Bs none 0 [] 0 (.slice none 0 0) [] w7) := Lib.hid (by
        have r1 := HX4.out.rlt
        have r2 := HSZ.out
        have r3 := b6.size
        have hp : ∀ b, (b ≠ w.heap.size + 1 ∧ b < wr0.heap.size) → PlY (w.heap.size + 1) wr0.heap.size w6.heap.size (.slice none 0 0) b := fun b hb => ⟨hb.1, by omega, by omega, by simp [Value.ownBlock]⟩
        exact ⟨hX7.up, r1, by omega, by omega, ((HT3.out.below HB.out).lt.lo hp).below hup7, HF1.out, (HD.out.lt.lo hp).below hup7, blk_up HBV.out (up_trans b6 hup), HBL.out, hX7.res, hX7.ka 0 rfl, World.ownsRow_nil _ _ _ _, DR.nil _ _, fun g hg => by simp [Value.ownBlock] at hg, by rw [HL1.out]; exact MInv.new X.Cl Bs HBN.out, fun q hq => absurd hq (by simp), ⟨Nat.le_refl _, Nat.le_refl _⟩, rfl, by omega⟩)
      obtain ⟨W0, hW0⟩ : ∃ x, X.WA = x := ⟨_, rfl⟩
      have c3 : w7.cell? ⟨w.heap.size, 3, none⟩ = some (.slice W0 X.Wq.length X.Wc) := by rw [← hW0]; exact (hX7.ka 0 rfl).cell 3 _ rfl
      have HW0 := Lib.hid hW0
      generalize wr0.heap.size = b13 at HLS0 ⊢
      clear hup hsz hup7 hX7 hW0 hw7 b6 c5 HBL HBV HX4 HB HD HBN HT3 HSZ
      go_wp2_with (refine snr (W := w6) (cs := lnV 0 (.slice none 0 0)) (zs := [.int .i64 0, .int .i64 0, .slice none 0 0]) (t := 92) (.tmp 14) (.tmp 95) rfl rfl rfl rfl (by kernel_rfl) rfl (lnV_one _ (by rfl)) ?_ ?_ ?_; (· rfl); (· rfl); (rw [HW7.out]))
      clear c3
      generalize w6.heap.size = b14 at HLS0 ⊢
      go_loopw [4, 7, 16, 100] (fun s4 s7 s16 i wr => ∃ k : Nat, k ≤ X.Wq.length ∧ i = .int .i64 k ∧ ∃ f t kw last A c L B d Bs WA wc Wl l u Ts, s4 = .slice A n1 c ∧ s7 = .slice B m1 d ∧ s16 = .int .i64 last ∧ LSt w X b13 b14 n1 m1 f t kw last A c L B Bs WA wc Wl l u Ts wr ∧ f ≤ 6 * k ∧ t ≤ 6 * k ∧ kw ≤ k) (fun _ _ _ i _ => X.Wq.length - (intOf i).toNat)
      case atStart => exact ⟨0, Nat.zero_le _, rfl, 0, 0, 0, -1, A1, k1, L1, B2, d2, Bs, none, 0, [], 0, _, [], rfl, rfl, rfl, HLS0.out, by omega, by omega, by omega⟩
      clear HLS0
      case round =>
        rename World => wq
        obtain ⟨k, hk, rfl, f, t, kw, last, A, c, L, B, d, Bt, WA, wc, Wl, l, u, Ts, rfl, rfl, rfl, hls, hf6, ht6, hkw⟩ := hrel
        have HLS := Lib.hid hls
        by_cases hlt : k < X.Wq.length
        · have hwt := (HH.out _ hls.up).wt
          rw [HW0.out] at hwt
          obtain ⟨Bq, of, q, hA, _, _, hq, hrg, hE⟩ := hwt.at_ k hlt
          subst hA
          have HRG : Hid (wq.rangeAt Bq (of + k * 2) (wqC q)) := Lib.hid hrg
          have HQM := Lib.hid (List.mem_of_getElem? hq)
          have hk12 : k ≤ 12 := by omega
          have hbx := Blk.new wq (wqC q) 67
          have hup := up_alloc wq (.cells (wqC q).toArray 67)
          have hla := hls.la
          have hown := fun g hg => (hls.own_lt (g := g) hg).2
          obtain ⟨gA, hgA⟩ : ∃ x, q.A = x := ⟨_, rfl⟩
          generalize hwb : wq.alloc (.cells (wqC q).toArray 67) = wb at hbx hup
          have HWB := Lib.hid hwb
          have hb13 : b13 < wq.heap.size := Nat.lt_trans hls.h2 hls.h3
          have hb14 : b14 < wq.heap.size := hls.h3
          generalize hbq : wq.heap.size = bq at hbx hb13 hb14 hown
          have b0 : wb.cell? ⟨bq, 0, none⟩ = some (.int .i64 q.h) := hbx.cell 0 _ rfl
          have b1 : wb.cell? ⟨bq, 1, none⟩ = some (.slice gA q.gs.length q.c) := by rw [← hgA]; exact hbx.cell 1 _ rfl
          have HE := Lib.hid (show RD wb tt 5 gA q.gs.length (q.gs.flatMap gdC) from hgA ▸ RD.below hE hup)
          have HGA := Lib.hid hgA
          have HBQ := Lib.hid hbx
          have HLT := Lib.hid (hls.next hup)
          have HOW := Lib.hid hown
          have HB13 := Lib.hid hb13
          have HB14 := Lib.hid hb14
          rw [← hbq] at b0 b1
          have HBE := Lib.hid hbq
          clear hls hwt hq hrg hE hbx hup hgA hwb hown hb13 hb14 hbq
          go_upto_region 21 with (first | (refine lmr (b := Bq) (q := of + k * 2) (cs := wqC q) (.tmp 102) rfl rfl Tryz.underlying67 rfl info_rwt rfl ?_ ?_; (· exact HRG.out)) | (refine snr (W := wq) (cs := wqC q) (zs := [.int .i64 0, .slice none 0 0]) (t := 67) (.tmp 18) (.tmp 103) rfl rfl rfl rfl info_rwt rfl wqC_one ?_ ?_ ?_; (· rfl); (· rfl); (rw [HWB.out])))
          by_cases h0 : q.h ≤ last
          · have s0 : decide (q.h ≤ last) = true := decide_eq_true h0
            obtain ⟨es, hes, hr⟩ := HLT.out.rs
            have HR := Lib.hid hr
            clear hr
            go_wp2_with (refine str (b := w.heap.size + 1) (cs := vZc) (ds := es) (t := 28) (.tmp 2) (.tmp 119) rfl rfl rfl rfl info_rvw (by rw [hes]; rfl) vZc_one ?_ ?_; (· exact HR.out))
            refine bodyPost_ret (v := .tuple #[.agg vZc.toArray, .bool false]) (results_ce (fn := Tryz.f14) (p := 2) (t := 3) rfl _ _ _ rfl (HR.out.row vZc) Tryz.underlying28 rfl info_rvw) rfl ?_
            exact MdP.no (below_setRow HLT.out.up (Nat.le_succ _) _)
          by_cases h15 : 15 < q.h
          · have s0 : decide (q.h ≤ last) = false := decide_eq_false h0
            have s1 : decide (q.h > 15) = true := decide_eq_true h15
            obtain ⟨es, hes, hr⟩ := HLT.out.rs
            have HR := Lib.hid hr
            clear hr
            go_wp2_with (refine str (b := w.heap.size + 1) (cs := vZc) (ds := es) (t := 28) (.tmp 2) (.tmp 119) rfl rfl rfl rfl info_rvw (by rw [hes]; rfl) vZc_one ?_ ?_; (· exact HR.out))
            refine bodyPost_ret (v := .tuple #[.agg vZc.toArray, .bool false]) (results_ce (fn := Tryz.f14) (p := 2) (t := 3) rfl _ _ _ rfl (HR.out.row vZc) Tryz.underlying28 rfl info_rvw) rfl ?_
            exact MdP.no (below_setRow HLT.out.up (Nat.le_succ _) _)
          by_cases h6 : 6 < q.gs.length
          · have s0 : decide (q.h ≤ last) = false := decide_eq_false h0
            have s1 : decide (q.h > 15) = false := decide_eq_false h15
            have s2 : decide ((q.gs.length : Int) > 6) = true := decide_eq_true (by omega)
            obtain ⟨es, hes, hr⟩ := HLT.out.rs
            have HR := Lib.hid hr
            clear hr
            go_wp2_with (refine str (b := w.heap.size + 1) (cs := vZc) (ds := es) (t := 28) (.tmp 2) (.tmp 119) rfl rfl rfl rfl info_rvw (by rw [hes]; rfl) vZc_one ?_ ?_; (· exact HR.out))
            refine bodyPost_ret (v := .tuple #[.agg vZc.toArray, .bool false]) (results_ce (fn := Tryz.f14) (p := 2) (t := 3) rfl _ _ _ rfl (HR.out.row vZc) Tryz.underlying28 rfl info_rvw) rfl ?_
            exact MdP.no (below_setRow HLT.out.up (Nat.le_succ _) _)
          have s0 : decide (q.h ≤ last) = false := decide_eq_false h0
          have s1 : decide (q.h > 15) = false := decide_eq_false h15
          have s2 : decide ((q.gs.length : Int) > 6) = false := decide_eq_false (by omega)
          have hg6 : q.gs.length ≤ 6 := by omega
          obtain ⟨al, hal⟩ : ∃ al, decide ((q.gs.length : Int) > 1) = al := ⟨_, rfl⟩
          obtain ⟨Cs9, i9, x9, hr1⟩ : ∃ a b c, offRun q.h al (L.map Prod.fst) 0 q.gs = (a, b, c) := ⟨_, _, _, rfl⟩
          obtain ⟨Bs10, i10, x10, hr2⟩ : ∃ a b c, offR q.h al Bt Bt 0 q.gs = (a, b, c) := ⟨_, _, _, rfl⟩
          have CO : Hid (Calls Tryz.prog 19 #[.slice A n1 c, .int .i64 q.h, .slice gA q.gs.length q.c, .bool al] wb fun e w' => ∃ A' c' L', e = .returned (.tuple #[.slice A' n1 c', .int .i64 (i9 : Int), .int .i64 x9]) ∧ TbY w' (PlY (w.heap.size + 1) b13 b14 (.slice WA kw wc)) A' n1 c' L' ∧ (x9 = 0 → L'.map Prod.fst = Cs9) ∧ fewL (f + q.gs.length) L' ∧ Below wb.heap.size wb w') := Lib.hid (
            (c_rtofferY (d := q.c) HLT.out.tb HLT.out.pl HE.out rfl HLT.out.fw (by omega) (by omega) q.h al).mono (by
              rw [hr1]
              rintro e w' ⟨A', c', L', rfl, k1, k2, _, k3, k4⟩
              exact ⟨A', c', L', rfl, k1, k2, k3, k4⟩))
          have CB : Hid (∀ W, Below wb.heap.size wb W → Calls Tryz.prog 34 #[.slice B m1 d, .int .i64 q.h, .slice gA q.gs.length q.c, .bool al] W fun e w' => ∃ A' c', e = .returned (.tuple #[.slice A' m1 c', .int .i64 (i10 : Int), .int .i64 x10]) ∧ DY w' (PlY (w.heap.size + 1) b13 b14 (.slice WA kw wc)) A' m1 Bs10 ∧ Below W.heap.size W w') := Lib.hid (fun W hW =>
            (c_uofferY (d := q.c) (HLT.out.next hW).dy (HLT.out.next hW).pl (by omega) (HE.out.below hW) rfl (by omega) q.h al).mono (by
              rw [hr2]
              rintro e w' ⟨A', c', rfl, k1, k2⟩
              exact ⟨A', c', rfl, k1, k2⟩))
          have HM0 : Hid (x9 = 0 → MInv q.h (Wl ++ [q]) Cs9 Bs10 Ts) := Lib.hid (fun _ => by
            have k := HLT.out.mi.step (q := q) (by omega) (by omega) al
            rw [hr1, hr2] at k
            exact k)
          have HLA : Hid (-1 ≤ q.h ∧ q.h ≤ 15) := Lib.hid (by omega)
          have HLL : Hid (last ≤ q.h) := Lib.hid (by omega)
          have HLH : Hid (0 ≤ q.h) := Lib.hid (by omega)
          clear hr1 hr2 hla
          go_wp2_with fail
          refine CO.out.mono ?_; rintro e w9 ⟨A9, c9, L9, rfl, ht9, he9, hf9, b9⟩
          have HT9 := Lib.hid ht9
          have HE9 := Lib.hid he9
          have HF9 := Lib.hid hf9
          have HB9 := Lib.hid b9
          have e0 : w9.cell? ⟨wq.heap.size, 0, none⟩ = some (.int .i64 q.h) := by rw [HBE.out]; exact (blk_up HBQ.out b9).cell 0 _ rfl
          have e1 : w9.cell? ⟨wq.heap.size, 1, none⟩ = some (.slice gA q.gs.length q.c) := by rw [HBE.out, ← HGA.out]; exact (blk_up HBQ.out b9).cell 1 _ rfl
          clear ht9 he9 hf9 b9 b0 b1 CO s0 s1 s2 h0 h15 h6
          go_wp2_with fail
          refine (CB.out _ HB9.out).mono ?_; rintro e w10 ⟨B10, d10, rfl, hd10, b10⟩
          have HD10 := Lib.hid hd10
          have HLS10 := Lib.hid (HLT.out.next (up_trans HB9.out b10))
          have HT10 := Lib.hid (HT9.out.below b10)
          have HBQ10 := Lib.hid (blk_up HBQ.out (up_trans HB9.out b10))
          clear hd10 b10 e0 e1 CB HT9 HB9 HBQ
          have HRJ : Hid (LSt w X b13 b14 n1 m1 f t kw q.h A c L B Bt WA wc Wl l u Ts w10) := Lib.hid (HLS10.out.tabs HLS10.out.tb HLS10.out.fw HLS10.out.dy (HLS10.out.mi.later HLL.out) HLA.out)
          by_cases hx9 : x9 ≠ 0
          · have s0 : (x9 != 0) = true := by simpa using hx9
            go_wp2_with fail
            go_roundw
            case rel => exact ⟨k + 1, by omega, by go_num, f, t, kw, q.h, A, c, L, B, d, Bt, WA, wc, Wl, l, u, Ts, rfl, rfl, rfl, HRJ.out, by omega, by omega, by omega⟩
            case measure => simp [intOf]; omega
          have s0 : (x9 != 0) = false := by simpa using hx9
          by_cases hx10 : x10 ≠ 0
          · have s1 : (x10 != 0) = true := by simpa using hx10
            go_wp2_with fail
            go_roundw
            case rel => exact ⟨k + 1, by omega, by go_num, f, t, kw, q.h, A, c, L, B, d, Bt, WA, wc, Wl, l, u, Ts, rfl, rfl, rfl, HRJ.out, by omega, by omega, by omega⟩
            case measure => simp [intOf]; omega
          have s1 : (x10 != 0) = false := by simpa using hx10
          have hx90 : x9 = 0 := by omega
          have HM1 : Hid (MInv q.h (Wl ++ [q]) (L9.map Prod.fst) Bs10 Ts) := Lib.hid (by rw [HE9.out hx90]; exact HM0.out hx90)
          clear HM0 HE9 HRJ hx9 hx10 hx90
          have c3 : w10.cell? ⟨b13, 3, none⟩ = some (.slice WA kw wc) := HLS10.out.vb.cell 3 _ rfl
          have hup := up_alloc w10 (.cells (wqC q).toArray 67)
          have HLS11 := Lib.hid (HLS10.out.next hup)
          have HT11 := Lib.hid (HT10.out.below hup)
          have HD11 := Lib.hid (HD10.out.below hup)
          have HBQ11 := Lib.hid (blk_up HBQ10.out hup)
          have HO11 := Lib.hid HLS11.out.ow
          have HLO := Lib.hid (show b14 + 1 ≤ (w10.alloc (.cells (wqC q).toArray 67)).heap.size from HLS11.out.h3)
          have hkn : kw ≤ 12 := by omega
          clear hup HT10 HD10
          go_upto_region 28 with fail
          go_wp2_with (first | (refine ldr (b := wq.heap.size) (t := 67) (cs := wqC q) (.tmp 18) rfl rfl Tryz.underlying67 rfl info_rwt rfl ?_ ?_; (· rw [HBE.out]; exact HBQ10.out)) | (refine wpList_oneW ei_lw rfl (.tmp 160) rfl q rfl ?_) | (at_builtin; refine wpList_app3 ei_lw rfl (.tmp 159) (.tmp 161) rfl _ _ rfl HO11.out rfl (RD.oneK wK (q := q) (by simp)) (wK.oneL [q]) (by omega) HLO.out ?_; intro v4 w4 hown4 hg4 h54; obtain ⟨A4, d4, rfl, _, _, _⟩ := own_slice hown4; have c4 := (HLS11.out.vb_app hg4).cell 3 _ rfl; have f4 := (HLS11.out.vb_app hg4).free 3; have HBQ13 := Lib.hid (blk_only (blk_only HBQ11.out ((Only.refl (fun b => (Value.slice WA kw wc).ownBlock = some b) _).grown hg4 (fun k hk => .inl hk)) (fun hk => by have := HOW.out _ hk; omega)) ((Only.refl (· = b13) w4).put 3 (.slice A4 (kw + 1) d4)) (fun e => by have := HB13.out; omega)); have g1 : (w4.setCell ⟨b13, 3, none⟩ (.slice A4 (kw + 1) d4)).cell? ⟨wq.heap.size, 1, none⟩ = some (.slice gA q.gs.length q.c) := by { rw [HBE.out, ← HGA.out]; exact HBQ13.out.cell 1 _ rfl }; have HO4 := Lib.hid hown4; have HG4 := Lib.hid hg4; have H54 := Lib.hid h54; clear hown4 hg4 h54))
          have HW4 : Hid (LSt w X b13 b14 n1 m1 (f + q.gs.length) t (kw + 1) q.h A9 c9 L9 B10 Bs10 A4 d4 (Wl ++ [q]) l u Ts (w4.setCell ⟨b13, 3, none⟩ (.slice A4 (kw + 1) d4))) := Lib.hid (HLS11.out.app HO4.out HG4.out H54.out HQM.out HT11.out HF9.out HD11.out HM1.out HLA.out)
          have HBN4 : Hid (bq ≠ b14) := Lib.hid (fun e => by have h1 := HB14.out; omega)
          generalize hwv : w4.setCell ⟨b13, 3, none⟩ (.slice A4 (kw + 1) d4) = wv at HW4 HBQ13 g1 ⊢
          have HGE : Hid (RD wv tt 5 gA q.gs.length (q.gs.flatMap gdC)) := Lib.hid (HGA.out ▸ (HH.out _ HW4.out.up).wt.each q HQM.out)
          clear hwv HO4 HG4 H54 HLS11 HT11 HD11 HBQ11 HO11 HLO HLS10 HBQ10 HM1 c3 c4 f4 s0 s1 g1
          go_loopw [167] (fun i wr => ∃ j : Nat, j ≤ q.gs.length ∧ i = .int .i64 j ∧ ∃ t l u Ts, LSt w X b13 b14 n1 m1 (f + q.gs.length) t (kw + 1) q.h A9 c9 L9 B10 Bs10 A4 d4 (Wl ++ [q]) l u Ts wr ∧ t ≤ 6 * k + j ∧ Blk wr bq (wqC q) 67) (fun i _ => q.gs.length - (intOf i).toNat)
          case atStart => exact ⟨0, Nat.zero_le _, rfl, t, l, u, Ts, HW4.out, by omega, HBQ13.out⟩
          case round =>
            rename World => wr
            obtain ⟨j, hj, rfl, t, l, u, Ts, hls, htj, hbq⟩ := hrel
            by_cases hjt : j < q.gs.length
            · obtain ⟨g, hg⟩ : ∃ g, q.gs[j]? = some g := ⟨_, List.getElem?_eq_getElem hjt⟩
              have hge : RD wr tt 5 gA q.gs.length (q.gs.flatMap gdC) := HGA.out ▸ (HH.out _ hls.up).wt.each q HQM.out
              obtain ⟨b5, o5, hA5, _, hb5, hrg⟩ := RD.row' gdC_len hge hg hjt
              have HRG1 := Lib.hid hrg
              have HGM := Lib.hid (List.mem_of_getElem? hg)
              have hup := up_alloc wr (.cells (gdC g).toArray 63)
              have hbx := Blk.new wr (gdC g) 63
              have HLS := Lib.hid (hls.next hup)
              have HBQ := Lib.hid (blk_up hbq hup)
              have dd0 : (wr.alloc (.cells (gdC g).toArray 63)).cell? ⟨wr.heap.size, 0, none⟩ = some (.int .i64 g.k) := hbx.cell 0 _ rfl
              have hj6 : j ≤ 6 := by omega
              clear hge hrg hup hls hbq hg hb5
              subst hA5
              by_cases h4 : g.k = 4
              · have s0 : (g.k == 4) = true := by simpa using h4
                have dd2 : (wr.alloc (.cells (gdC g).toArray 63)).cell? ⟨wr.heap.size, 2, none⟩ = some (.int .i64 g.v) := hbx.cell 2 _ rfl
                have dd4 : (wr.alloc (.cells (gdC g).toArray 63)).cell? ⟨wr.heap.size, 4, none⟩ = some (.int .i64 g.n) := hbx.cell 4 _ rfl
                have e0 : (wr.alloc (.cells (gdC g).toArray 63)).cell? ⟨wq.heap.size, 0, none⟩ = some (.int .i64 q.h) := by rw [HBE.out]; exact HBQ.out.cell 0 _ rfl
                have HTK := Lib.hid HLS.out.tk
                have hh := HLA.out
                have h0h := HLH.out
                have hlt1 : l ≤ 1000 := by have h1 := HLS.out.ll.1; omega
                have hlt2 : Ts.length < 100 := by have h1 := HLS.out.ll.2; omega
                have CA := Lib.hid (c_tmaddY HLS.out.dr HLS.out.h3 g.v (wrap64 (8 * q.h + g.n)) hlt2 hlt1)
                have H4 := Lib.hid h4
                clear hbx h4
                go_wp2_with (first | (refine lmr (b := b5) (q := o5 + j * 5) (cs := gdC g) (.tmp 169) rfl rfl Tryz.underlying63 rfl info_gd5 rfl ?_ ?_; (· exact HRG1.out)) | (refine snr (W := wr) (cs := gdC g) (zs := gdC ⟨0, 0, 0, 0, 0⟩) (t := 63) (.tmp 26) (.tmp 170) rfl rfl rfl rfl info_gd5 rfl (gdC_one _) ?_ ?_ ?_; (· rfl); (· rfl)) | (refine ldr (b := b14) (t := 92) (cs := lnV l u) (.tmp 14) rfl rfl Tryz.underlying92 rfl (by kernel_rfl) rfl ?_ ?_; (· exact HTK.out)))
                refine CA.out.mono ?_; rintro e w15 ⟨l', u', Ts', x15, y15, rfl, hdr, hl', hT', hins, hu', b15⟩
                rw [← IntWalk.i64_left] at hins
                obtain ⟨TA, tc, rfl, _, _, _⟩ := hdr.slice
                generalize htn : Ts'.length = tn' at hdr hu' ⊢
                have HL15 := Lib.hid (HLS.out.next b15)
                have HTK2 := Lib.hid HL15.out.tk
                have HBQ15 := Lib.hid (blk_up HBQ.out b15)
                have HL16 : Hid (LSt w X b13 b14 n1 m1 (f + q.gs.length) (t + 1) (kw + 1) q.h A9 c9 L9 B10 Bs10 A4 d4 (Wl ++ [q]) l' (.slice TA tn' tc) Ts' (w15.setRow b14 (lnV l' (.slice TA tn' tc)).toArray)) := Lib.hid (HL15.out.line hdr (fun g hg => hu'.elim (fun e => e ▸ HL15.out.dj g hg) (fun k hk => by
                  have h1 := k g hk
                  have h2 := (HLS.out.own_lt hg).2
                  omega)) ⟨by have := HL15.out.ll.1; omega, by have := HL15.out.ll.2; omega⟩ (HL15.out.mi.time (q := q) (by simp) HGM.out H4.out hins))
                have HBQ16 := Lib.hid (blk_only HBQ15.out ((Only.refl (· = b14) w15).row rfl (lnV l' (.slice TA tn' tc)).toArray) (fun e => by have := HBN4.out; omega))
                clear hdr hl' hT' hins hu' b15 CA dd0 dd2 dd4 e0 HTK htn
                go_wp2_with (refine str (b := b14) (cs := lnV l' (.slice TA tn' tc)) (ds := lnV l u) (t := 92) (.tmp 14) (.tmp 185) rfl rfl rfl rfl (by kernel_rfl) rfl (lnV_one _ rfl) ?_ ?_; (· exact HTK2.out))
                go_roundw
                case rel => exact ⟨j + 1, by omega, by go_num, t + 1, l', (.slice TA tn' tc), Ts', HL16.out, by omega, HBQ16.out⟩
                case measure => simp [intOf]; omega
              · have s0 : (g.k == 4) = false := by simpa using h4
                clear hbx h4
                go_wp2_with (first | (refine lmr (b := b5) (q := o5 + j * 5) (cs := gdC g) (.tmp 169) rfl rfl Tryz.underlying63 rfl info_gd5 rfl ?_ ?_; (· exact HRG1.out)) | (refine snr (W := wr) (cs := gdC g) (zs := gdC ⟨0, 0, 0, 0, 0⟩) (t := 63) (.tmp 26) (.tmp 170) rfl rfl rfl rfl info_gd5 rfl (gdC_one _) ?_ ?_ ?_; (· rfl); (· rfl)))
                go_roundw
                case rel => exact ⟨j + 1, by omega, by go_num, t, l, u, Ts, HLS.out, by omega, HBQ.out⟩
                case measure => simp [intOf]; omega
            · obtain rfl : j = q.gs.length := by omega
              have HLS := Lib.hid hls
              clear hls hbq
              go_wp2_with fail
              go_roundw
              case rel => exact ⟨k + 1, by omega, by go_num, f + q.gs.length, t, kw + 1, q.h, A9, c9, L9, B10, d10, Bs10, A4, d4, Wl ++ [q], l, u, Ts, rfl, rfl, rfl, HLS.out, by omega, by omega, by omega⟩
              case measure => simp [intOf]; omega
        · obtain rfl : k = X.Wq.length := by omega
          obtain ⟨P0, hP0⟩ : ∃ x, X.PA = x := ⟨_, rfl⟩
          have c4 : wq.cell? ⟨w.heap.size, 4, none⟩ = some (.slice P0 X.Pl.length X.Pc) := by rw [← hP0]; exact hls.bx.cell 4 _ rfl
          have HP0 := Lib.hid hP0
          have hfb : f ≤ 1000 := by omega
          clear hls hP0
          go_wp2_with fail
          clear c4
          go_loopw [4, 193] (fun s4 i wr => ∃ k : Nat, k ≤ X.Pl.length ∧ i = .int .i64 k ∧ ∃ A c L, s4 = .slice A n1 c ∧ LSt w X b13 b14 n1 m1 f t kw last A c L B Bt WA wc Wl l u Ts wr) (fun _ i _ => X.Pl.length - (intOf i).toNat)
          case atStart => exact ⟨0, Nat.zero_le _, rfl, A, c, L, rfl, HLS.out⟩
          case round =>
            rename World => wp
            obtain ⟨k, hk, rfl, A, c, L, rfl, hls⟩ := hrel
            clear HLS
            have HLS := Lib.hid hls
            by_cases hlt : k < X.Pl.length
            · have hpo := (HH.out _ hls.up).po
              rw [HP0.out] at hpo
              obtain ⟨b5, o5, hA, _, hb5, hat⟩ := hpo.at_ (by omega)
              subst hA
              obtain ⟨z, hz⟩ : ∃ z, X.Pl[k]? = some z := ⟨_, List.getElem?_eq_getElem hlt⟩
              have hcz : wp.cell? ⟨b5, o5 + k, none⟩ = some (.int .u8 z) := hat k _ (by rw [List.getElem?_map, hz]; rfl)
              obtain ⟨hz0, hz1⟩ := HPB.out z (List.mem_of_getElem? hz)
              have hkm : (k : Int) + 1 ≤ 9223372036854775807 := by
                have h1 := HPM.out
                unfold maxLen at h1
                omega
              clear hpo hat hz hb5 hls
              by_cases hkn : k < n1
              · have s0 : decide ((k : Int) < (n1 : Int)) = true := decide_eq_true (by omega)
                by_cases hzp : 0 < z
                · have s1 : decide (z > 0) = true := decide_eq_true hzp
                  have CP := Lib.hid (c_rtpoisY HLS.out.tb HLS.out.pl HLS.out.fw hfb (by omega) (k : Int) z)
                  go_wp2_with fail
                  refine CP.out.mono ?_; rintro e w7 ⟨A7, c7, L7, rfl, ht, hL, hf, hb⟩
                  have HL7 : Hid (LSt w X b13 b14 n1 m1 f t kw last A7 c7 L7 B Bt WA wc Wl l u Ts w7) := Lib.hid ((HLS.out.next hb).tabs ht hf (HLS.out.next hb).dy (by rw [hL]; exact HLS.out.mi.pois _ _) HLS.out.la)
                  clear ht hL hf hb CP
                  go_wp2_with fail
                  go_roundw
                  case rel => exact ⟨k + 1, by omega, by go_num, A7, c7, L7, rfl, HL7.out⟩
                  case measure => simp [intOf]; omega
                · have s1 : decide (z > 0) = false := decide_eq_false hzp
                  go_wp2_with fail
                  go_roundw
                  case rel => exact ⟨k + 1, by omega, by go_num, A, c, L, rfl, HLS.out⟩
                  case measure => simp [intOf]; omega

              · have s0 : decide ((k : Int) < (n1 : Int)) = false := decide_eq_false (by omega)
                go_wp2_with fail
                go_roundw
                case rel => exact ⟨k + 1, by omega, by go_num, A, c, L, rfl, HLS.out⟩
                case measure => simp [intOf]; omega

            · obtain rfl : k = X.Pl.length := by omega
              obtain ⟨TA, tc, rfl, _, _, _⟩ := hls.dr.slice
              generalize htn : Ts.length = tn at hls ⊢
              have v1 := hls.vb
              have v2 := v1.set 1 (.slice A n1 c)
              have v3 := v2.set 2 (.slice B m1 d)
              have v4 := v3.set 4 (.slice TA tn tc)
              have o3 := ((((Only.refl (· = b13) wp).put 1 (.slice A n1 c)).put 2 (.slice B m1 d)))
              have t3 := blk_only hls.tk o3 (fun e => by have := hls.h2; omega)
              have o4 := o3.put 4 (.slice TA tn tc)
              have HLP := Lib.hid (hls.lp.only o4 (fun k hk => .inl hk))
              have HV4 := Lib.hid v4
              obtain ⟨es, q1, q2⟩ := hls.rs
              have q3 := blk_only q2 o4 (fun e => by have := hls.h1; omega)
              have HRS := Lib.hid q3
              have HES := Lib.hid q1
              have HMI := Lib.hid hls.mi
              have HBN := Lib.hid (show b13 ≠ w.heap.size + 1 from fun e => by have := hls.h1; omega)
              have c1 := v1.cell 1 _ rfl
              have f1 := v1.free 1
              have c2 := v2.cell 2 _ rfl
              have f2 := v2.free 2
              have c4 := v3.cell 4 _ rfl
              have f4 := v3.free 4
              have g2 := t3.cell 2 _ rfl
              clear v1 v2 v3 v4 o3 o4 t3 hls q1 q2 q3 HLS htn
              go_upto_region 45 with fail
              obtain ⟨Q, r1, hQe, hQl⟩ := dy_raw HLP.out.dy
              have hvv := HV4.out
              have hmc := mV_c HLP.out d
              have hfs : FS w X b13 b14 n1 m1 kw A c L B d Bt WA wc Wl TA tn tc Ts Q _ := ⟨HLP.out, r1, by rw [hmc]; exact hvv, ⟨es, HES.out, HRS.out⟩⟩
              generalize ((wp.setCell ⟨b13, 1, none⟩ (.slice A n1 c)).setCell ⟨b13, 2, none⟩ (.slice B m1 d)).setCell ⟨b13, 4, none⟩ (.slice TA tn tc) = wz at hfs ⊢
              have HFS := Lib.hid hfs
              have HQE := Lib.hid hQe
              have HQL := Lib.hid hQl
              clear hfs hQe hQl r1 hvv hmc c1 f1 c2 f2 c4 f4 g2 HLP HV4 HRS HES
              refine wp_region_held_drew (S := FS w X b13 b14 n1 m1 kw A c L B d Bt WA wc Wl TA tn tc Ts Q) (by kernel_rfl) (HFS.out.next (up_drewN _ 1)) (fun hHeld => ?_)
              refine wpAnyH_take (i := 0) (oi := ?_) (v := (.agg (vC (mV X A c L B d Bt WA wc Wl TA tc Ts)).toArray)) ?_ (by kernel_rfl) (by kernel_rfl) (by kernel_rfl) ?_ (Or.inl ⟨?_, ?_⟩) hHeld ?_
              rotate_left 1
              · conv => lhs; simp only [List.getElem?_toArray, List.getElem?_cons_succ, List.getElem?_cons_zero]
              · exact fun _ _ _ h => h
              · rfl
              · intro W hSw
                exact tk_load rfl rfl (load_row hSw.vb Tryz.underlying28 rfl info_rvw)
              try simp only [Act.put, List.setIfInBounds_toArray, List.set_cons_zero, List.set_cons_succ]
              refine wpAnyH_take (i := 1) (oi := ?_) (v := (.agg (vC (mV X A c L B d Bt WA wc Wl TA tc Ts)).toArray)) ?_ (by kernel_rfl) (by kernel_rfl) (by kernel_rfl) ?_ (Or.inl ⟨?_, ?_⟩) hHeld ?_
              rotate_left 1
              · conv => lhs; simp only [List.getElem?_toArray, List.getElem?_cons_succ, List.getElem?_cons_zero]
              · exact fun _ _ _ h => h
              · rfl
              · intro W hSw
                exact tk_load rfl rfl (load_row hSw.vb Tryz.underlying28 rfl info_rvw)
              try simp only [Act.put, List.setIfInBounds_toArray, List.set_cons_zero, List.set_cons_succ]
              refine wpAnyH_ready (rs := [2]) (by kernel_rfl) (by simp) ?_
              refine AllReadyH.cons (o := ?_) ?_ (fun K hK => ?_) AllReadyH.nil
              rotate_left 1
              · conv => lhs; simp only [List.getElem?_toArray, List.getElem?_cons_succ, List.getElem?_cons_zero]
              go_simp
              refine (c_small29 (hHeld.vx (HH.out _ hHeld.lp.up) hm1 HQE.out HQL.out)).mono ?_
              rintro e wA ⟨b, rfl, hsb, hb⟩
              cases b
              · go_wp2_with fail
                refine hK.out _ _ (hHeld.next hb) (fun hHeld => ?_)
                clear hK K
                try simp only [Act.put, List.setIfInBounds_toArray, List.set_cons_zero, List.set_cons_succ]
                refine wpAnyH_take (i := 3) (oi := ?_) (v := ?_) ?_ (by kernel_rfl) (by kernel_rfl) (by kernel_rfl) ?_ (Or.inl ⟨?_, ?_⟩) hHeld ?_
                rotate_left 2
                · conv => lhs; simp only [List.getElem?_toArray, List.getElem?_cons_succ, List.getElem?_cons_zero]
                · exact fun _ _ _ h => h
                · rfl
                · intro W hSw
                  go_simp
                  try with_reducible rfl
                try simp only [Act.put, List.setIfInBounds_toArray, List.set_cons_zero, List.set_cons_succ]
                refine wpAnyH_take (i := 4) (oi := ?_) (v := undef) ?_ (by kernel_rfl) (by kernel_rfl) (by kernel_rfl) ?_ (Or.inr ⟨?_, rfl⟩) hHeld ?_
                rotate_left 1
                · conv => lhs; simp only [List.getElem?_toArray, List.getElem?_cons_succ, List.getElem?_cons_zero]
                · exact fun _ _ _ h => h
                · rfl
                try simp only [Act.put, List.setIfInBounds_toArray, List.set_cons_zero, List.set_cons_succ]
                refine wpAnyH_take (i := 5) (oi := ?_) (v := undef) ?_ (by kernel_rfl) (by kernel_rfl) (by kernel_rfl) ?_ (Or.inr ⟨?_, rfl⟩) hHeld ?_
                rotate_left 1
                · conv => lhs; simp only [List.getElem?_toArray, List.getElem?_cons_succ, List.getElem?_cons_zero]
                · exact fun _ _ _ h => h
                · rfl
                try simp only [Act.put, List.setIfInBounds_toArray, List.set_cons_zero, List.set_cons_succ]
                refine wpAnyH_take (i := 6) (oi := ?_) (v := (.bool false)) ?_ (by kernel_rfl) (by kernel_rfl) (by kernel_rfl) ?_ (Or.inl ⟨?_, ?_⟩) hHeld ?_
                rotate_left 1
                · conv => lhs; simp only [List.getElem?_toArray, List.getElem?_cons_succ, List.getElem?_cons_zero]
                · exact fun _ _ _ h => h
                · rfl
                · intro W hSw
                  go_simp
                try simp only [Act.put, List.setIfInBounds_toArray, List.set_cons_zero, List.set_cons_succ]
                obtain ⟨ds, hds, hres⟩ := hHeld.rs
                refine wpAnyH_ready (rs := [7]) (by kernel_rfl) (by simp) ?_
                refine AllReadyH.cons (o := ?_) ?_ (fun K hK => ?_) AllReadyH.nil
                rotate_left 1
                · conv => lhs; simp only [List.getElem?_toArray, List.getElem?_cons_succ, List.getElem?_cons_zero]
                rw [if_pos (by rfl)]
                refine wp_store_row 28 (.tmp 2) (.tmp 222) rfl (w.heap.size + 1) (vC (mV X A c L B d Bt WA wc Wl TA tc Ts)).toArray rfl rfl 28 ds.toArray hres info_rvw (by rw [List.size_toArray, List.size_toArray, hds]; rfl) (al_one vC_one) ?_
                refine hK.out _ _ (hHeld.put) (fun hHeld => ?_)
                clear hK K
                refine wpAnyH_take (i := 8) (oi := ?_) (v := ?_) ?_ (by kernel_rfl) (by kernel_rfl) (by kernel_rfl) ?_ (Or.inl ⟨?_, ?_⟩) hHeld ?_
                rotate_left 2
                · conv => lhs; simp only [List.getElem?_toArray, List.getElem?_cons_succ, List.getElem?_cons_zero]
                · exact fun _ _ _ h => h
                · rfl
                · intro W hSw
                  go_simp
                  try with_reducible rfl
                try simp only [Act.put, List.setIfInBounds_toArray, List.set_cons_zero, List.set_cons_succ]
                rename_i z0 z1 z2 z3 z4 z5 z6 z7 z8 z9 z10 z11 z12 z13 z14 z15 z16 z17 z18 z19 z20 z21 z22 z23 z24 z25
                refine wpAnyH_done (by kernel_rfl) ?_ _
                refine z23 _ _ ?_
                first | refine wp_ret ?_ | refine Code.wp_ret ?_
                refine bodyPost_ret (v := .tuple #[.agg (vC (mV X A c L B d Bt WA wc Wl TA tc Ts)).toArray, .bool false]) (results_ce (fn := Tryz.f14) (p := 2) (t := 3) rfl _ _ _ rfl (hres.row (vC (mV X A c L B d Bt WA wc Wl TA tc Ts))) Tryz.underlying28 rfl info_rvw) rfl ?_
                exact ⟨(mV X A c L B d Bt WA wc Wl TA tc Ts), false, rfl, fun h => (by cases h), hHeld.lp.up⟩
              · go_wp2_with fail
                refine hK.out _ _ (hHeld.next hb) (fun hHeld => ?_)
                clear hK K
                try simp only [Act.put, List.setIfInBounds_toArray, List.set_cons_zero, List.set_cons_succ]
                obtain ⟨hfw, hsm⟩ := hsb (by first | rfl | trivial)
                refine wpAnyH_take (i := 3) (oi := ?_) (v := ?_) ?_ (by kernel_rfl) (by kernel_rfl) (by kernel_rfl) ?_ (Or.inl ⟨?_, ?_⟩) hHeld ?_
                rotate_left 2
                · conv => lhs; simp only [List.getElem?_toArray, List.getElem?_cons_succ, List.getElem?_cons_zero]
                · exact fun _ _ _ h => h
                · rfl
                · intro W hSw
                  go_simp
                  try with_reducible rfl
                try simp only [Act.put, List.setIfInBounds_toArray, List.set_cons_zero, List.set_cons_succ]
                refine wpAnyH_take (i := 4) (oi := ?_) (v := (.agg (vC (mV X A c L B d Bt WA wc Wl TA tc Ts)).toArray)) ?_ (by kernel_rfl) (by kernel_rfl) (by kernel_rfl) ?_ (Or.inl ⟨?_, ?_⟩) hHeld ?_
                rotate_left 1
                · conv => lhs; simp only [List.getElem?_toArray, List.getElem?_cons_succ, List.getElem?_cons_zero]
                · exact fun _ _ _ h => h
                · rfl
                · intro W hSw
                  exact tk_load rfl rfl (load_row hSw.vb Tryz.underlying28 rfl info_rvw)
                try simp only [Act.put, List.setIfInBounds_toArray, List.set_cons_zero, List.set_cons_succ]
                refine wpAnyH_ready (rs := [5]) (by kernel_rfl) (by simp) ?_
                refine AllReadyH.cons (o := ?_) ?_ (fun K hK => ?_) AllReadyH.nil
                rotate_left 1
                · conv => lhs; simp only [List.getElem?_toArray, List.getElem?_cons_succ, List.getElem?_cons_zero]
                go_simp
                refine (c_right (hHeld.vx (HH.out _ hHeld.lp.up) hm1 HQE.out HQL.out).r hfw).mono ?_
                rintro e wB ⟨b2, rfl, hri, hb2⟩
                go_wp2_with fail
                refine hK.out _ _ (hHeld.next hb2) (fun hHeld => ?_)
                clear hK K
                try simp only [Act.put, List.setIfInBounds_toArray, List.set_cons_zero, List.set_cons_succ]
                refine wpAnyH_take (i := 6) (oi := ?_) (v := (.bool b2)) ?_ (by kernel_rfl) (by kernel_rfl) (by kernel_rfl) ?_ (Or.inl ⟨?_, ?_⟩) hHeld ?_
                rotate_left 1
                · conv => lhs; simp only [List.getElem?_toArray, List.getElem?_cons_succ, List.getElem?_cons_zero]
                · exact fun _ _ _ h => h
                · rfl
                · intro W hSw
                  go_simp
                try simp only [Act.put, List.setIfInBounds_toArray, List.set_cons_zero, List.set_cons_succ]
                obtain ⟨ds, hds, hres⟩ := hHeld.rs
                refine wpAnyH_ready (rs := [7]) (by kernel_rfl) (by simp) ?_
                refine AllReadyH.cons (o := ?_) ?_ (fun K hK => ?_) AllReadyH.nil
                rotate_left 1
                · conv => lhs; simp only [List.getElem?_toArray, List.getElem?_cons_succ, List.getElem?_cons_zero]
                rw [if_pos (by rfl)]
                refine wp_store_row 28 (.tmp 2) (.tmp 222) rfl (w.heap.size + 1) (vC (mV X A c L B d Bt WA wc Wl TA tc Ts)).toArray rfl rfl 28 ds.toArray hres info_rvw (by rw [List.size_toArray, List.size_toArray, hds]; rfl) (al_one vC_one) ?_
                refine hK.out _ _ (hHeld.put) (fun hHeld => ?_)
                clear hK K
                refine wpAnyH_take (i := 8) (oi := ?_) (v := ?_) ?_ (by kernel_rfl) (by kernel_rfl) (by kernel_rfl) ?_ (Or.inl ⟨?_, ?_⟩) hHeld ?_
                rotate_left 2
                · conv => lhs; simp only [List.getElem?_toArray, List.getElem?_cons_succ, List.getElem?_cons_zero]
                · exact fun _ _ _ h => h
                · rfl
                · intro W hSw
                  go_simp
                  try with_reducible rfl
                try simp only [Act.put, List.setIfInBounds_toArray, List.set_cons_zero, List.set_cons_succ]
                rename_i z0 z1 z2 z3 z4 z5 z6 z7 z8 z9 z10 z11 z12 z13 z14 z15 z16 z17 z18 z19 z20 z21 z22 z23 z24 z25 z26
                refine wpAnyH_done (by kernel_rfl) ?_ _
                refine z23 _ _ ?_
                first | refine wp_ret ?_ | refine Code.wp_ret ?_
                refine bodyPost_ret (v := .tuple #[.agg (vC (mV X A c L B d Bt WA wc Wl TA tc Ts)).toArray, .bool b2]) (results_ce (fn := Tryz.f14) (p := 2) (t := 3) rfl _ _ _ rfl (hres.row (vC (mV X A c L B d Bt WA wc Wl TA tc Ts))) Tryz.underlying28 rfl info_rvw) rfl ?_
                exact ⟨(mV X A c L B d Bt WA wc Wl TA tc Ts), b2, rfl, fun h2 => ⟨Q, (hHeld.vx (HH.out _ hHeld.lp.up) hm1 HQE.out HQL.out), hfw, hsm, HMI.out.who, MInv.k (V := (mV X A c L B d Bt WA wc Wl TA tc Ts)) HMI.out hfw (hri h2)⟩, hHeld.lp.up⟩
end Go.Proofs.YtdiiilnebepfdaaGreatDoor

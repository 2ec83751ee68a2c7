/- The law ReadyBoth of layer 29. -/
import Derived.Test.YtdiiilnebepfdaaGreatDoorR5
import Derived.Test.YtdiiilnebepfdaaGreatDoorOv
namespace Go.Proofs.YtdiiilnebepfdaaGreatDoor
open Go.RowKit

/-- What made answers (as XRxf has it). -/
def MdQ (w : World) (e : Ending) (w' : World) : Prop :=
  ∃ V b, e = .returned (.tuple #[.agg (vC V).toArray, .bool b]) ∧ (b = true → ∃ Q, VX w' V Q ∧ Few V ∧ smallT Q = true ∧ (∀ t ∈ V.Tq, t.who ≤ 9223372036854775807) ∧ KInv V.p) ∧ Below w.heap.size w w'
theorem info_lw9 : (Tryz.prog.info? 54).map (·.size) = some 6 := by kernel_rfl
theorem info_pw2 : (Tryz.prog.info? 61).map (·.size) = some 2 := by kernel_rfl
set_option maxRecDepth 100000 in
set_option maxHeartbeats 16000000 in
theorem l_both29 {X : WS} {w : World} (h : WX w X) (hT : TabD w) (hm : ∀ W, WX W X → Calls Tryz.prog 14 #[.agg (wsC X).toArray] W (MdQ W)) :
    Calls Tryz.prog 4 #[.agg (wsC X).toArray] w fun e w' => e = .returned (.bool true) ∧ Below w.heap.size w w' := by
  have HX := Lib.hid (fun W (hW : Below w.heap.size w W) => h.below hW)
  have HT := Lib.hid (fun W (hW : Below w.heap.size w W) => hT.up hW)
  have HB0 := Lib.hid (Blk.new w (wsC X) 54)
  have hu0 := up_alloc w (.cells (wsC X).toArray 54)
  generalize hw1 : w.alloc (.cells (wsC X).toArray 54) = w1 at HB0 hu0
  have HW1 := Lib.hid hw1
  have HU1 := Lib.hid hu0
  have CM := Lib.hid (hm w1 (h.below hu0))
  clear h hT hm hw1 hu0
  go_enter Tryz.func4, Tryz.ntmps4
  go_upto_region 1 with fail
  rw [HW1.out]
  go_wp2_with (refine ldr (b := w.heap.size) (t := 54) (cs := wsC X) (.tmp 1) rfl rfl Tryz.underlying54 rfl info_lw9 rfl ?_ ?_; (· exact HB0.out))
  refine CM.out.mono ?_; rintro e w2 ⟨V, b, rfl, hb, b2⟩
  have HBV := Lib.hid (Blk.new w2 (vC V) 28)
  have hup := up_alloc w2 (.cells (vC V).toArray 28)
  generalize hw3 : w2.alloc (.cells (vC V).toArray 28) = w3 at HBV hup
  have HW3 := Lib.hid hw3
  have HU3 := Lib.hid (up_trans HU1.out (up_trans b2 hup))
  clear hw3 CM HB0
  cases b
  · clear hb hup b2
    go_wp2_with (refine snr (W := w2) (cs := vC V) (zs := [.int .i64 0, .slice none 0 0, .slice none 0 0, .slice none 0 0, .slice none 0 0, .slice none 0 0]) (t := 28) (.tmp 3) (.tmp 29) rfl rfl rfl rfl info_rvw rfl vC_one ?_ ?_ ?_; (· rfl); (· rfl); (rw [HW3.out]))
    refine (c_alive29 _ (HT.out _ HU3.out)).mono ?_; rintro e w4 ⟨rfl, b4⟩
    go_wp2
    go_ret
    exact ⟨rfl, up_trans HU3.out b4⟩
  obtain ⟨Q, hvx, hf, hs, hw, hk⟩ := hb rfl
  have CT := Lib.hid (to_one (hvx.below hup) ⟨hf, hw⟩ hs)
  have HK0 := Lib.hid hk
  clear hb hvx hf hs hw hk hup b2
  go_wp2_with (first | (refine snr (W := w2) (cs := vC V) (zs := [.int .i64 0, .slice none 0 0, .slice none 0 0, .slice none 0 0, .slice none 0 0, .slice none 0 0]) (t := 28) (.tmp 3) (.tmp 29) rfl rfl rfl rfl info_rvw rfl vC_one ?_ ?_ ?_; (· rfl); (· rfl); (rw [HW3.out])) | (refine ldr (b := w2.heap.size) (t := 28) (cs := vC V) (.tmp 3) rfl rfl Tryz.underlying28 rfl info_rvw rfl ?_ ?_; (· exact HBV.out)))
  refine CT.out.mono ?_; rintro e w4 ⟨V1, rfl, hv1, hf1, hp1, b4⟩
  have HK := Lib.hid (show KInv V1.p from hp1 ▸ HK0.out)
  have HBP := Lib.hid (Blk.new w4 (vC V1) 40)
  have hup := up_alloc w4 (.cells (vC V1).toArray 40)
  generalize hw5 : w4.alloc (.cells (vC V1).toArray 40) = w5 at HBP hup
  have HW5 := Lib.hid hw5
  have HU5 := Lib.hid (up_trans HU3.out (up_trans b4 hup))
  have HV5 := Lib.hid (hv1.below hup)
  have HF1 := Lib.hid hf1
  obtain ⟨es, hes⟩ : ∃ es, rdEvents V1.p = es := ⟨_, rfl⟩
  have CE : Hid (Calls Tryz.prog 15 #[.agg (vC V1).toArray] w5 (EvsP w5 es)) := Lib.hid (hes ▸ c_events (hv1.below hup) hf1 (HT.out _ HU5.out))
  have HES := Lib.hid hes
  clear hv1 hf1 hp1 b4 hup hw5 hes HK0 CT HBV
  go_wp2_with (first | (refine snr (W := w4) (cs := vC V1) (zs := [.int .i64 0, .slice none 0 0, .slice none 0 0, .slice none 0 0, .slice none 0 0, .slice none 0 0]) (t := 40) (.tmp 5) (.tmp 35) rfl rfl rfl rfl info_vw rfl vC_one ?_ ?_ ?_; (· rfl); (· rfl); (rw [HW5.out])) | (refine ldr (b := w4.heap.size) (t := 40) (cs := vC V1) (.tmp 5) rfl rfl Tryz.underlying40 rfl info_vw rfl ?_ ?_; (· exact HBP.out)))
  refine CE.out.mono ?_; rintro e w6 ⟨A6, c6, rfl, q1, q2, hr6, b6⟩
  have hm6 : es.length ≤ 9223372036854775807 := by unfold maxLen at q2; omega
  clear q1 q2
  have HR6 := Lib.hid (hr6.lo (pl' := tt) (fun _ _ => trivial))
  have HU6 := Lib.hid (up_trans HU5.out b6)
  have HV6 := Lib.hid (HV5.out.below b6)
  have HBP6 := Lib.hid (blk_up HBP.out b6)
  generalize hn6 : es.length = n6 at HR6 hm6
  have HN6 := Lib.hid hn6
  obtain ⟨W1, hW1⟩ : ∃ x, V1.WA = x := ⟨_, rfl⟩
  have c3 : w6.cell? ⟨w4.heap.size, 3, none⟩ = some (.slice W1 V1.Wq.length V1.Wc) := by rw [← hW1]; exact HBP6.out.cell 3 _ rfl
  have HW1' := Lib.hid hW1
  have hw16 : V1.Wq.length ≤ 16 := HF1.out.f.wt
  clear hr6 b6 CE HBP HV5 hn6 hW1
  go_wp2_with fail
  clear c3
  have HWS : Hid (∀ x ∈ V1.p.Ws, x.2.length ≤ 8) := Lib.hid (fun x hx => by
    obtain ⟨q, hq, rfl⟩ := List.mem_map.1 hx
    exact (HF1.out.f.ws q hq).1)
  have HWL : Hid (V1.p.Ws.length = V1.Wq.length) := Lib.hid (List.length_map _)
  go_loopw [7, 41] (fun s7 i wr => ∃ k : Nat, k ≤ V1.Wq.length ∧ i = .int .i64 k ∧ ∃ A n c, s7 = .slice A n c ∧ wr.ownsRow w6.heap.size 32 4 (.slice A n c) n ((knW V1.p k).flatMap evC) ∧ Below w6.heap.size w6 wr) (fun _ i _ => V1.Wq.length - (intOf i).toNat)
  case atStart => exact ⟨0, Nat.zero_le _, rfl, none, 0, 0, rfl, World.ownsRow_nil _ _ _ _, Below.refl _ _⟩
  case round =>
    rename World => wr0
    obtain ⟨k, hk, rfl, A, n, c, rfl, hown, hbr⟩ := hrel
    have HO := Lib.hid hown
    have HB := Lib.hid hbr
    by_cases hlt : k < V1.Wq.length
    · have hwt := (HV6.out.below hbr).r.wt
      rw [HW1'.out] at hwt
      obtain ⟨Bq, of, q, hA, _, _, hq, hrg, hE⟩ := hwt.at_ k hlt
      subst hA
      have HRG : Hid (wr0.rangeAt Bq (of + k * 2) (wqC q)) := Lib.hid hrg
      have HQM : Hid ((q.h, q.gs) ∈ V1.p.Ws) := Lib.hid (List.mem_map_of_mem (f := WQ.p) (List.mem_of_getElem? hq))
      have HQK : Hid (V1.p.Ws[k]? = some (q.h, q.gs)) := Lib.hid (by
        show (V1.Wq.map WQ.p)[k]? = _
        rw [List.getElem?_map, hq]
        rfl)
      have hq8 := (HF1.out.f.ws q (List.mem_of_getElem? hq)).1
      have hbx := Blk.new wr0 (wqC q) 61
      have hup := up_alloc wr0 (.cells (wqC q).toArray 61)
      have hob : ∀ g, (Value.slice A n c).ownBlock = some g → g < wr0.heap.size := fun g hg => by
        obtain ⟨_, cs, r⟩ := own_blk hown g hg
        exact r.lt
      generalize hw7 : wr0.alloc (.cells (wqC q).toArray 61) = w7 at hbx hup
      have HW7 := Lib.hid hw7
      obtain ⟨gA, hgA⟩ : ∃ x, q.A = x := ⟨_, rfl⟩
      have HGA := Lib.hid hgA
      have HGW : Hid (∀ W, Below w6.heap.size w6 W → RD W tt 5 gA q.gs.length (q.gs.flatMap gdC)) := Lib.hid (fun W hW => by
        have hwt := (HV6.out.below hW).r.wt
        rw [HW1'.out] at hwt
        obtain ⟨_, _, q', _, _, _, hq', _, hE'⟩ := hwt.at_ k hlt
        obtain rfl : q = q' := Option.some.inj (hq.symm.trans hq')
        exact hgA ▸ hE')
      have b0 : w7.cell? ⟨wr0.heap.size, 0, none⟩ = some (.int .i64 q.h) := hbx.cell 0 _ rfl
      have HBQ := Lib.hid hbx
      have HU7 := Lib.hid (up_trans hbr hup)
      have HOB := Lib.hid hob
      have HO7 := Lib.hid (own_below hown hup)
      have HBP7 := Lib.hid (blk_up HBP6.out (up_trans hbr hup))
      obtain ⟨zs, hzs⟩ : ∃ zs, rdGds V1.p q.h = zs := ⟨_, rfl⟩
      have HZS := Lib.hid hzs
      have CG : Hid (Calls Tryz.prog 12 #[.agg (vC V1).toArray, .int .i64 q.h] w7 (IntsPost w7 zs)) := Lib.hid (hzs ▸ c_guards (HV6.out.below (up_trans hbr hup)) HF1.out (HT.out _ (up_trans HU6.out (up_trans hbr hup))) q.h)
      clear hwt hq hrg hE hbx hup hob hgA hzs hown hbr hw7
      go_wp2_with (first | (refine lmr (b := Bq) (q := of + k * 2) (cs := wqC q) (.tmp 43) rfl rfl Tryz.underlying61 rfl info_pw2 rfl ?_ ?_; (· exact HRG.out)) | (refine snr (W := wr0) (cs := wqC q) (zs := [.int .i64 0, .slice none 0 0]) (t := 61) (.tmp 9) (.tmp 44) rfl rfl rfl rfl info_pw2 rfl wqC_one ?_ ?_ ?_; (· rfl); (· rfl); (rw [HW7.out])) | (refine ldr (b := w4.heap.size) (t := 40) (cs := vC V1) (.tmp 5) rfl rfl Tryz.underlying40 rfl info_vw rfl ?_ ?_; (· exact HBP7.out)))
      refine CG.out.mono ?_; rintro e w8 ⟨A8, c8, rfl, q1, q2, hr8, b8⟩
      have hmz : zs.length ≤ 9223372036854775807 := by unfold maxLen at q2; omega
      clear q1 q2
      have HBQ8 := Lib.hid (blk_up HBQ.out b8)
      generalize hnz : zs.length = nz at hr8 hmz ⊢
      have HNZ := Lib.hid hnz
      have b1 : w8.cell? ⟨wr0.heap.size, 1, none⟩ = some (.slice gA q.gs.length q.c) := by rw [← HGA.out]; exact HBQ8.out.cell 1 _ rfl
      have HQ8 : Hid (wr0.heap.size < w8.heap.size) := Lib.hid HBQ8.out.lt
      have HL0 : Hid (LBt w6.heap.size w8.heap.size wr0.heap.size w6 q A8 nz zs w8) := Lib.hid ⟨up_trans HU7.out b8, Nat.le_refl _, (up_trans HU7.out b8).size, HBQ8.out, hr8.lt.lo fun b hb => ⟨Nat.lt_of_lt_of_le HBQ.out.lt hb.1, hb.2⟩⟩
      have HO8 : Hid (w8.ownsRow w6.heap.size 32 4 (.slice A n c) n ((knG V1.p k q.h q.gs 0).flatMap evC)) := Lib.hid (by rw [kn_start]; exact own_below HO7.out b8)
      have HOB8 : Hid (∀ g, (Value.slice A n c).ownBlock = some g → g < wr0.heap.size ∨ w8.heap.size ≤ g) := Lib.hid (fun g hg => .inl (HOB.out g hg))
      generalize hbq : wr0.heap.size = bq at HL0 HOB8 HQ8 b1 ⊢
      clear hr8 b8 b0 hnz hbq CG HO7 HOB HBP7 HBQ HBQ8 HU7 HRG HO HB HW7
      go_wp2_with fail
      clear b1
      go_loopw [7, 52] (fun s7 i wr => ∃ j : Nat, j ≤ q.gs.length ∧ i = .int .i64 j ∧ ∃ A n c, s7 = .slice A n c ∧ wr.ownsRow w6.heap.size 32 4 (.slice A n c) n ((knG V1.p k q.h q.gs j).flatMap evC) ∧ (∀ g, (Value.slice A n c).ownBlock = some g → g < bq ∨ w8.heap.size ≤ g) ∧ LBt w6.heap.size w8.heap.size bq w6 q A8 nz zs wr) (fun _ i _ => q.gs.length - (intOf i).toNat)
      case atStart => exact ⟨0, Nat.zero_le _, rfl, A, n, c, rfl, HO8.out, HOB8.out, HL0.out⟩
      clear HO8 HOB8 HL0
      case round =>
        rename World => w9
        obtain ⟨j, hj, rfl, A1, n1, c1, rfl, hown, hob, hl⟩ := hrel
        have HO := Lib.hid hown
        have HOB := Lib.hid hob
        have HL := Lib.hid hl
        by_cases hjt : j < q.gs.length
        · have hg : q.gs[j]? = some q.gs[j] := List.getElem?_eq_getElem hjt
          generalize q.gs[j] = g at hg
          have hgm : g ∈ q.gs := List.mem_of_getElem? hg
          obtain ⟨o, ho⟩ : ∃ o, rdOf V1.p q.h g = o := ⟨_, rfl⟩
          obtain ⟨x, hx⟩ : ∃ x, o.getD evZ = x := ⟨_, rfl⟩
          obtain ⟨s, hs⟩ : ∃ s, o.isSome = s := ⟨_, rfl⟩
          have HIN : Hid ((es.take n6).any (fun y => evEq y x) = s) := Lib.hid (by
            have h := in_eq HK.out HQM.out hgm
            rw [HES.out, ho, hx, hs] at h
            rw [← HN6.out]
            exact any_all h)
          have HAT : Hid ((zs.take nz).any (fun z => z == g.n) = s) := Lib.hid (by
            have h := at_eq HK.out HQM.out hgm
            rw [HZS.out, ho, hs] at h
            rw [← HNZ.out]
            exact any_all h)
          have HNE : Hid (∀ W, (binOp .neq 32 (.agg (evC x).toArray) (.agg #[.int .i64 0, .int .i64 0, .int .i64 0, .int .i64 0])).run Tryz.prog W = .ok (.bool s) W) := Lib.hid (ne_evC x (by
            have h := ne_eq (V := V1.p) (p := q.h) (g := g)
            rwa [ho, hx, hs] at h))
          have HK0 : Hid (s = false → knG V1.p k q.h q.gs (j + 1) = knG V1.p k q.h q.gs j) := Lib.hid (fun e => by
            rw [kn_next hg, ho]
            subst hs
            cases o with
            | none => simp
            | some y => cases e)
          have HK1 : Hid (s = true → knG V1.p k q.h q.gs (j + 1) = knG V1.p k q.h q.gs j ++ [x]) := Lib.hid (fun e => by
            rw [kn_next hg, ho]
            subst hs hx
            cases o with
            | none => cases e
            | some y => rfl)
          have HLEN : Hid (n1 + 1 ≤ 1000000) := Lib.hid (by
            have h1 := hown.1
            have h2 := knG_len HWS.out k q.h q.gs j
            rw [ev_len] at h1
            omega)
          obtain ⟨b5, o5, hA, _, hb5, hrg⟩ := RD.row' gdC_len (HGW.out _ hl.b) hg hjt
          subst hA
          have HRG := Lib.hid hrg
          have hbx := Blk.new w9 (gdC g) 63
          have hup := up_alloc w9 (.cells (gdC g).toArray 63)
          generalize hw10 : w9.alloc (.cells (gdC g).toArray 63) = w10 at hbx hup
          have HW10 := Lib.hid hw10
          have HBG := Lib.hid hbx
          have HL10 := Lib.hid (hl.next hup)
          have HO10 := Lib.hid (own_below hown hup)
          have HBP10 := Lib.hid (blk_up HBP6.out HL10.out.b)
          have b0 : w10.cell? ⟨bq, 0, none⟩ = some (.int .i64 q.h) := HL10.out.bx.cell 0 _ rfl
          have b4 : w10.cell? ⟨w9.heap.size, 4, none⟩ = some (.int .i64 g.n) := hbx.cell 4 _ rfl
          have CW : Hid (Calls Tryz.prog 7 #[.agg (vC V1).toArray, .int .i64 q.h, .int .i64 g.n] w10 fun e w' => e = .returned (.tuple #[.agg (evC x).toArray, .bool s]) ∧ Below w10.heap.size w10 w') := Lib.hid ((c_which (HV6.out.below HL10.out.b) HF1.out (HT.out _ (up_trans HU6.out HL10.out.b)) q.h g.n).mono (by
            rw [which_at HK.out HQM.out hgm, ho]
            rintro e w' ⟨rfl, hb⟩
            exact ⟨by unfold evV; rw [hx, hs], hb⟩))
          clear hown hob hl hg hgm ho hx hs hrg hbx hup hw10 hb5 HO HL
          go_wp2_with (first | (refine lmr (b := b5) (q := o5 + j * 5) (cs := gdC g) (.tmp 54) rfl rfl Tryz.underlying63 rfl info_gd5 rfl ?_ ?_; (· exact HRG.out)) | (refine snr (W := w9) (cs := gdC g) (zs := [.int .i64 0, .int .i64 0, .int .i64 0, .int .i64 0, .int .i64 0]) (t := 63) (.tmp 12) (.tmp 55) rfl rfl rfl rfl info_gd5 rfl (gdC_one _) ?_ ?_ ?_; (· rfl); (· rfl); (rw [HW10.out])) | (refine ldr (b := w4.heap.size) (t := 40) (cs := vC V1) (.tmp 5) rfl rfl Tryz.underlying40 rfl info_vw rfl ?_ ?_; (· exact HBP10.out)))
          refine CW.out.mono ?_; rintro e w11 ⟨rfl, b11⟩
          have hbx := Blk.new w11 (evC x) 32
          have hup := up_alloc w11 (.cells (evC x).toArray 32)
          generalize hw12 : w11.alloc (.cells (evC x).toArray 32) = w12 at hbx hup
          have HW12 := Lib.hid hw12
          have HBX := Lib.hid hbx
          have HL12 := Lib.hid (HL10.out.next (up_trans b11 hup))
          have HO12 := Lib.hid (own_below HO10.out (up_trans b11 hup))
          have HBG12 := Lib.hid (blk_up HBG.out (up_trans b11 hup))
          clear b11 hbx hup hw12 b0 b4 CW HL10 HO10 HBG HBP10 HW10 HRG
          go_wp2_with (refine snr (W := w11) (cs := evC x) (zs := evZC) (t := 32) (.tmp 13) (.tmp 63) rfl rfl rfl rfl info_ev4 rfl (evC_one _) ?_ ?_ ?_; (· rfl); (· rfl); (rw [HW12.out]))
          go_loopw [15, 67] (fun s15 i wr => ∃ m : Nat, m ≤ n6 ∧ i = .int .i64 m ∧ s15 = .bool ((es.take m).any (fun y => evEq y x)) ∧ Below w12.heap.size w12 wr) (fun _ i _ => n6 - (intOf i).toNat)
          case atStart => exact ⟨0, Nat.zero_le _, rfl, rfl, Below.refl _ _⟩
          case round =>
            rename World => w13
            obtain ⟨m, hm, rfl, rfl, hb⟩ := hrel
            by_cases hmt : m < n6
            · have hy : es[m]? = some (es[m]'(by rw [HN6.out]; exact hmt)) := List.getElem?_eq_getElem _
              generalize es[m]'(by rw [HN6.out]; exact hmt) = y at hy
              obtain ⟨b7, o7, hA, _, hb7, hrg⟩ := RD.row' evC_len (HR6.out.below (HL12.out.next hb).b) hy hmt
              subst hA
              have HRG := Lib.hid hrg
              have hbx := Blk.new w13 (evC y) 32
              have hup := up_alloc w13 (.cells (evC y).toArray 32)
              generalize hw14 : w13.alloc (.cells (evC y).toArray 32) = w14 at hbx hup
              have HW14 := Lib.hid hw14
              have HBY := Lib.hid hbx
              have HB14 := Lib.hid (up_trans hb hup)
              have HBX14 := Lib.hid (blk_up HBX.out HB14.out)
              obtain ⟨t, ht⟩ : ∃ t, evEq y x = t := ⟨_, rfl⟩
              have HQ := Lib.hid (eq_evC y x ht)
              have HNX : Hid ((es.take (m + 1)).any (fun y => evEq y x) = ((es.take m).any (fun y => evEq y x) || t)) := Lib.hid (by rw [any_next hy, ht])
              clear hb hy hb7 hrg hbx hup hw14 ht
              generalize (es.take m).any (fun y => evEq y x) = fl at HNX ⊢
              cases fl
              · have hq := HQ.out
                go_wp2_with (first | (refine lmr (b := b7) (q := o7 + m * 4) (cs := evC y) (.tmp 69) rfl rfl Tryz.underlying32 rfl info_ev4 rfl ?_ ?_; (· exact HRG.out)) | (refine snr (W := w13) (cs := evC y) (zs := evZC) (t := 32) (.tmp 18) (.tmp 70) rfl rfl rfl rfl info_ev4 rfl (evC_one _) ?_ ?_ ?_; (· rfl); (· rfl); (rw [HW14.out])) | (refine ldr (b := w13.heap.size) (t := 32) (cs := evC y) (.tmp 18) rfl rfl Tryz.underlying32 rfl info_ev4 rfl ?_ ?_; (· exact HBY.out)) | (refine ldr (b := w11.heap.size) (t := 32) (cs := evC x) (.tmp 13) rfl rfl Tryz.underlying32 rfl info_ev4 rfl ?_ ?_; (· exact HBX14.out)))
                go_roundw
                case rel => exact ⟨m + 1, by omega, by go_num, by rw [HNX.out]; rfl, HB14.out⟩
                case measure => simp [intOf]; omega
              · go_wp2_with (first | (refine lmr (b := b7) (q := o7 + m * 4) (cs := evC y) (.tmp 69) rfl rfl Tryz.underlying32 rfl info_ev4 rfl ?_ ?_; (· exact HRG.out)) | (refine snr (W := w13) (cs := evC y) (zs := evZC) (t := 32) (.tmp 18) (.tmp 70) rfl rfl rfl rfl info_ev4 rfl (evC_one _) ?_ ?_ ?_; (· rfl); (· rfl); (rw [HW14.out])))
                go_roundw
                case rel => exact ⟨m + 1, by omega, by go_num, by rw [HNX.out]; rfl, HB14.out⟩
                case measure => simp [intOf]; omega
            · obtain rfl : m = n6 := by omega
              rw [HIN.out]
              have HL13 := Lib.hid (HL12.out.next hb)
              have HO13 := Lib.hid (own_below HO12.out hb)
              have HBG13 := Lib.hid (blk_up HBG12.out hb)
              have HBX13 := Lib.hid (blk_up HBX.out hb)
              clear hb HL12 HO12 HBG12 HBX
              go_wp2_with fail
              go_loopw [16, 80] (fun s16 i wr => ∃ m : Nat, m ≤ nz ∧ i = .int .i64 m ∧ s16 = .bool ((zs.take m).any (fun z => z == g.n)) ∧ Below w13.heap.size w13 wr) (fun _ i _ => nz - (intOf i).toNat)
              case atStart => exact ⟨0, Nat.zero_le _, rfl, rfl, Below.refl _ _⟩
              case round =>
                rename World => w15
                obtain ⟨m, hm, rfl, rfl, hb⟩ := hrel
                by_cases hmt : m < nz
                · have hz : zs[m]? = some (zs[m]'(by rw [HNZ.out]; exact hmt)) := List.getElem?_eq_getElem _
                  generalize zs[m]'(by rw [HNZ.out]; exact hmt) = z at hz
                  obtain ⟨b7, o7, hA, _, hb7, r0⟩ := RD.int1 (HL13.out.next hb).rd hz hmt
                  subst hA
                  have r4 : w15.cell? ⟨w9.heap.size, 4, none⟩ = some (.int .i64 g.n) := (blk_up HBG13.out hb).cell 4 _ rfl
                  have HB15 := Lib.hid hb
                  obtain ⟨t, ht⟩ : ∃ t, (z == g.n) = t := ⟨_, rfl⟩
                  have HNX : Hid ((zs.take (m + 1)).any (fun z => z == g.n) = ((zs.take m).any (fun z => z == g.n) || t)) := Lib.hid (by rw [any_next hz, ht])
                  clear hb hz hb7
                  generalize (zs.take m).any (fun z => z == g.n) = fl at HNX ⊢
                  cases fl
                  · go_wp2_with fail
                    go_roundw
                    case rel => exact ⟨m + 1, by omega, by go_num, by rw [HNX.out]; first | rfl | simp [ht], HB15.out⟩
                    case measure => simp [intOf]; omega
                  · clear ht r4
                    go_wp2_with fail
                    go_roundw
                    case rel => exact ⟨m + 1, by omega, by go_num, by rw [HNX.out]; rfl, HB15.out⟩
                    case measure => simp [intOf]; omega
                · obtain rfl : m = nz := by omega
                  rw [HAT.out]
                  have HL15 := Lib.hid (HL13.out.next hb)
                  have HO15 := Lib.hid (own_below HO13.out hb)
                  have HBX15 := Lib.hid (blk_up HBX13.out hb)
                  clear hb HL13 HO13 HBG13 HBX13
                  cases s
                  · have hne := HNE.out
                    go_wp2_with (refine ldr (b := w11.heap.size) (t := 32) (cs := evC x) (.tmp 13) rfl rfl Tryz.underlying32 rfl info_ev4 rfl ?_ ?_; (· exact HBX15.out))
                    go_roundw
                    case rel => exact ⟨j + 1, by omega, by go_num, A1, n1, c1, rfl, by rw [HK0.out rfl]; exact HO15.out, HOB.out, HL15.out⟩
                    case measure => simp [intOf]; omega
                  · have hne := HNE.out
                    go_upto_region 29 with (refine ldr (b := w11.heap.size) (t := 32) (cs := evC x) (.tmp 13) rfl rfl Tryz.underlying32 rfl info_ev4 rfl ?_ ?_; (· exact HBX15.out))
                    clear hne
                    have hup := up_alloc w15 (.cells (evC x).toArray 32)
                    generalize hw16 : w15.alloc (.cells (evC x).toArray 32) = w16 at hup
                    have HRX := Lib.hid (rd_evC hw16 rfl)
                    have HL16 := Lib.hid (HL15.out.next hup)
                    have HO16 := Lib.hid (own_below HO15.out hup)
                    have HW16 := Lib.hid hw16
                    have HZ : Hid (w6.heap.size ≤ w16.heap.size) := Lib.hid HL16.out.l6
                    have HZ8 := Lib.hid HL16.out.sz
                    clear hup hw16 HL15 HO15
                    go_wp2_with (first | (refine ldr (b := w11.heap.size) (t := 32) (cs := evC x) (.tmp 13) rfl rfl Tryz.underlying32 rfl info_ev4 rfl ?_ ?_; (· exact HBX15.out)) | (refine wpList_oneEv ei_ev rfl (.tmp 109) rfl x rfl ?_; rw [HW16.out]) | (at_builtin; refine wpList_app3 ei_ev rfl (.tmp 108) (.tmp 110) rfl _ _ rfl HO16.out rfl HRX.out (evL_one [x]) HLEN.out HZ.out ?_; intro v2 w17 hown2 hg2 hv2; obtain ⟨A2, c2, rfl, _, _, _⟩ := own_slice hown2; have HO17 := Lib.hid hown2; have HL17 := Lib.hid (HL16.out.grown hg2 (fun k e => ⟨(HO16.out.lt k e).1, HOB.out k e⟩) HQ8.out); have HOB17 := Lib.hid (fun g hg => (hv2 g hg).elim (HOB.out g) fun h => .inr (Nat.le_trans HZ8.out h)); clear hown2 hg2 hv2))
                    go_roundw
                    case rel => exact ⟨j + 1, by omega, by go_num, A2, n1 + 1, c2, rfl, by rw [HK1.out rfl, List.flatMap_append]; exact HO17.out, HOB17.out, HL17.out⟩
                    case measure => simp [intOf]; omega
        · obtain rfl : j = q.gs.length := by omega
          have HE : Hid (w9.ownsRow w6.heap.size 32 4 (.slice A1 n1 c1) n1 ((knW V1.p (k + 1)).flatMap evC)) := Lib.hid (by rw [← kn_end HQK.out]; exact hown)
          have HB9 := Lib.hid hl.b
          clear hown hob hl HO HOB HL
          go_wp2_with fail
          go_roundw
          case rel => exact ⟨k + 1, by omega, by go_num, A1, n1, c1, rfl, HE.out, HB9.out⟩
          case measure => simp [intOf]; omega
    · obtain rfl : k = V1.Wq.length := by omega
      have HKN : Hid (RD wr0 tt 4 A n ((rdAsks V1.p).flatMap evC)) := Lib.hid (by
        obtain ⟨A', c', e, _, _, h⟩ := own_slice hown
        cases e
        rw [← HWL.out, kn_all] at h
        exact h.lo fun _ _ => trivial)
      obtain ⟨ks, hks⟩ : ∃ ks, rdAsks V1.p = ks := ⟨_, rfl⟩
      rw [hks] at HKN
      have HKL : Hid (ks.length = n) := Lib.hid (by
        have h1 := HKN.out.1
        rw [ev_len] at h1
        omega)
      have hmk : n < 4611686018427387904 := by
        have h1 := hown.1
        have h2 := knW_len HWS.out V1.Wq.length
        rw [ev_len] at h1
        omega
      have HKA : Hid (∀ y ∈ es, (ks.take n).any (fun e => evEq e y) = true) := Lib.hid (fun y hy => by
        rw [← HKL.out]
        refine any_all ?_
        rw [← hks]
        exact known_all HK.out (HES.out ▸ hy))
      clear hown hbr hks HO
      go_wp2_with fail
      go_loopw [116] (fun i wr => ∃ m : Nat, m ≤ n6 ∧ i = .int .i64 m ∧ Below wr0.heap.size wr0 wr) (fun i _ => n6 - (intOf i).toNat)
      case atStart => exact ⟨0, Nat.zero_le _, rfl, Below.refl _ _⟩
      case round =>
        rename World => w20
        obtain ⟨m, hm, rfl, hb⟩ := hrel
        by_cases hmt : m < n6
        · have hy : es[m]? = some (es[m]'(by rw [HN6.out]; exact hmt)) := List.getElem?_eq_getElem _
          generalize es[m]'(by rw [HN6.out]; exact hmt) = y at hy
          have HKY := Lib.hid (HKA.out y (List.mem_of_getElem? hy))
          obtain ⟨b7, o7, hA, _, hb7, hrg⟩ := RD.row' evC_len (HR6.out.below (up_trans HB.out hb)) hy hmt
          subst hA
          have HRG := Lib.hid hrg
          have hbx := Blk.new w20 (evC y) 32
          have hup := up_alloc w20 (.cells (evC y).toArray 32)
          generalize hw21 : w20.alloc (.cells (evC y).toArray 32) = w21 at hbx hup
          have HW21 := Lib.hid hw21
          have HBY := Lib.hid hbx
          have HB21 := Lib.hid (up_trans hb hup)
          clear hb hy hb7 hrg hbx hup hw21
          go_wp2_with (first | (refine lmr (b := b7) (q := o7 + m * 4) (cs := evC y) (.tmp 118) rfl rfl Tryz.underlying32 rfl info_ev4 rfl ?_ ?_; (· exact HRG.out)) | (refine snr (W := w20) (cs := evC y) (zs := evZC) (t := 32) (.tmp 22) (.tmp 119) rfl rfl rfl rfl info_ev4 rfl (evC_one _) ?_ ?_ ?_; (· rfl); (· rfl); (rw [HW21.out])))
          go_loopw [23, 122] (fun s23 i wr => ∃ l : Nat, l ≤ n ∧ i = .int .i64 l ∧ s23 = .bool ((ks.take l).any (fun e => evEq e y)) ∧ Below w21.heap.size w21 wr) (fun _ i _ => n - (intOf i).toNat)
          case atStart => exact ⟨0, Nat.zero_le _, rfl, rfl, Below.refl _ _⟩
          case round =>
            rename World => w22
            obtain ⟨l, hl, rfl, rfl, hb⟩ := hrel
            by_cases hlt : l < n
            · have hu : ks[l]? = some (ks[l]'(by rw [HKL.out]; exact hlt)) := List.getElem?_eq_getElem _
              generalize ks[l]'(by rw [HKL.out]; exact hlt) = u at hu
              obtain ⟨b8, o8, hA, _, hb8, hrg⟩ := RD.row' evC_len (HKN.out.below (up_trans HB21.out hb)) hu hlt
              subst hA
              have HRU := Lib.hid hrg
              have hbx := Blk.new w22 (evC u) 32
              have hup := up_alloc w22 (.cells (evC u).toArray 32)
              generalize hw23 : w22.alloc (.cells (evC u).toArray 32) = w23 at hbx hup
              have HW23 := Lib.hid hw23
              have HBU := Lib.hid hbx
              have HB23 := Lib.hid (up_trans hb hup)
              have HBY23 := Lib.hid (blk_up HBY.out HB23.out)
              obtain ⟨t, ht⟩ : ∃ t, evEq u y = t := ⟨_, rfl⟩
              have HQ := Lib.hid (eq_evC u y ht)
              have HNX : Hid ((ks.take (l + 1)).any (fun e => evEq e y) = ((ks.take l).any (fun e => evEq e y) || t)) := Lib.hid (by rw [any_next hu, ht])
              clear hb hu hb8 hrg hbx hup hw23 ht
              generalize (ks.take l).any (fun e => evEq e y) = fl at HNX ⊢
              cases fl
              · have hq := HQ.out
                go_wp2_with (first | (refine lmr (b := b8) (q := o8 + l * 4) (cs := evC u) (.tmp 124) rfl rfl Tryz.underlying32 rfl info_ev4 rfl ?_ ?_; (· exact HRU.out)) | (refine snr (W := w22) (cs := evC u) (zs := evZC) (t := 32) (.tmp 25) (.tmp 125) rfl rfl rfl rfl info_ev4 rfl (evC_one _) ?_ ?_ ?_; (· rfl); (· rfl); (rw [HW23.out])) | (refine ldr (b := w22.heap.size) (t := 32) (cs := evC u) (.tmp 25) rfl rfl Tryz.underlying32 rfl info_ev4 rfl ?_ ?_; (· exact HBU.out)) | (refine ldr (b := w20.heap.size) (t := 32) (cs := evC y) (.tmp 22) rfl rfl Tryz.underlying32 rfl info_ev4 rfl ?_ ?_; (· exact HBY23.out)))
                go_roundw
                case rel => exact ⟨l + 1, by omega, by go_num, by rw [HNX.out]; rfl, HB23.out⟩
                case measure => simp [intOf]; omega
              · go_wp2_with (first | (refine lmr (b := b8) (q := o8 + l * 4) (cs := evC u) (.tmp 124) rfl rfl Tryz.underlying32 rfl info_ev4 rfl ?_ ?_; (· exact HRU.out)) | (refine snr (W := w22) (cs := evC u) (zs := evZC) (t := 32) (.tmp 25) (.tmp 125) rfl rfl rfl rfl info_ev4 rfl (evC_one _) ?_ ?_ ?_; (· rfl); (· rfl); (rw [HW23.out])))
                go_roundw
                case rel => exact ⟨l + 1, by omega, by go_num, by rw [HNX.out]; rfl, HB23.out⟩
                case measure => simp [intOf]; omega
            · obtain rfl : l = n := by omega
              rw [HKY.out]
              have HB22 := Lib.hid (up_trans HB21.out hb)
              clear hb HB21
              go_wp2_with fail
              go_roundw
              case rel => exact ⟨m + 1, by omega, by go_num, HB22.out⟩
              case measure => simp [intOf]; omega
        · have HE := Lib.hid (up_trans HU6.out (up_trans HB.out hb))
          clear hb
          go_wp2_with fail
          refine (c_alive29 _ (HT.out _ HE.out)).mono ?_; rintro e w30 ⟨rfl, b30⟩
          have HF := Lib.hid (up_trans HE.out b30)
          clear b30
          go_wp2
          go_ret
          exact ⟨rfl, HF.out⟩
end Go.Proofs.YtdiiilnebepfdaaGreatDoor

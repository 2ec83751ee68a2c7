/- The law BartabQuits. -/
import Derived.Test.YtlfglibepldjpaaDoorBtl
namespace Go.Proofs.YtlfglibepldjpaaDoor
open Go.RowKit

theorem hasL_snoc (L : List Int) (z b : Int) : hasL (L ++ [z]) b = (hasL L b || (z == b)) := by
  unfold hasL
  rw [Bool.eq_iff_iff]
  simp only [decide_eq_true_eq, List.mem_append, List.mem_singleton, Bool.or_eq_true, beq_iff_eq]
  exact or_congr Iff.rfl eq_comm

set_option maxRecDepth 100000 in
set_option maxHeartbeats 16000000 in
theorem l_tquits {w : World} {A : Option Addr} {n c : Nat} {Q : List RB} (hm : n ≤ maxLen) (hQ : TW rB w tt A n Q) (p : Int) (G : Option Addr) (m d : Nat) (gs : List GD) (al : Bool) (hgl : gs.length = m) (hG : RD w (fun _ => True) 5 G m (gs.flatMap gdC)) (b : Int) (hT : TabD w) :
    Calls Tryd.prog 6 #[.slice A n c, .agg #[.int .i64 p, .slice G m d, .bool al], .int .i64 b] w fun e w' => e = .returned (.bool true) ∧ Below w.heap.size w w' := by
  have HT := Lib.hid (fun W (hW : Below w.heap.size w W) => hT.up hW)
  have hX := bx1 w [.int .i64 p, .slice G m d, .bool al] 25
  generalize hw1 : w.alloc (.cells ([.int .i64 p, .slice G m d, .bool al] : List Value).toArray 25) = w1 at hX
  have HW := Lib.hid (show w.alloc (.cells #[.int .i64 p, .slice G m d, .bool al] 25) = w1 from hw1)
  have HS : Hid (Mm w [(w.heap.size, [.int .i64 p, .slice G m d, .bool al], 25)] [kG G m gs, kQ A n Q] w1) := Lib.hid (((((Mm.nil hX.up).fact (kQ A n Q) (hQ.below hX.up)).fact (kG G m gs) (hG.below hX.up)).var hX.box))
  have HM := Lib.hid hm
  have HGL := Lib.hid hgl
  obtain ⟨q, hq, hs⟩ := small23 Q
  obtain ⟨L, hp⟩ := plain23 Q
  have CS := Lib.hid hs
  have CP := Lib.hid hp
  have HN : Hid (smallT Q = true → n ≤ 100000) := Lib.hid (fun h => by have := (smallT_iff h).1; have := hQ.len; omega)
  clear hQ hT hm hs hp hG hgl hX hw1
  cases q
  case false =>
    clear CP hq HN
    go_enter Tryd.func6, Tryd.ntmps6
    go_upto_region 1 with fail
    rw [HW.out]
    go_wp2_with fail
    refine (CS.out _ _ _ _ (HS.out.da 1 rfl) HM.out).mono ?_; rintro e w2 ⟨rfl, hb⟩
    have HS := Lib.hid (HS.out.next hb)
    clear hb
    go_wp2_with fail
    refine (c_alive23 _ (HT.out _ HS.out.up)).mono ?_; rintro e w3 ⟨rfl, hb⟩
    go_wp2
    go_ret
    exact ⟨rfl, up_trans HS.out.up hb⟩
  have HQ := Lib.hid (hq rfl)
  have HN2 := Lib.hid (HN.out HQ.out)
  clear hq HN
  by_cases h8 : (8 : Int) < (m : Int)
  · clear CP
    go_enter Tryd.func6, Tryd.ntmps6
    go_upto_region 1 with fail
    rw [HW.out]
    go_wp2_with fail
    refine (CS.out _ _ _ _ (HS.out.da 1 rfl) HM.out).mono ?_; rintro e w2 ⟨rfl, hb⟩
    have HS := Lib.hid (HS.out.next hb)
    have c1 := (HS.out.ka 0 rfl).cell 1 _ rfl
    clear hb
    go_wp2_with fail
    refine (c_alive23 _ (HT.out _ HS.out.up)).mono ?_; rintro e w3 ⟨rfl, hb⟩
    go_wp2
    go_ret
    exact ⟨rfl, up_trans HS.out.up hb⟩
  have HM8 : Hid (m ≤ 100000) := Lib.hid (by omega)
  obtain ⟨R1, i1, x1, hr1, p1, -⟩ := pairOffer L p gs al
  obtain ⟨R3, hR3, p3, -⟩ := pairQuit R1 p
  obtain ⟨Z4, hZ4, hz4, p4, -⟩ := pairReady R1
  obtain ⟨R5, Z5, x5, -, hx5, p5, -⟩ := pairFire R1 b
  rw [← hZ4] at hx5
  have P1 := Lib.hid p1
  have P3 := Lib.hid p3
  have P4 := Lib.hid p4
  have P5 := Lib.hid p5
  have HR1 := Lib.hid hr1
  have HX5 := Lib.hid hx5
  have HZ4 := Lib.hid hz4
  have HNO : Hid (∀ k q, R3[k]? = some q → brFine q = true → hasL q.r.m.ints p = false ∧ hasL q.r.a.ints p = false) := Lib.hid (fun k q hk hf => by
    rw [hR3] at hk
    unfold tQuit at hk
    rw [List.getElem?_map] at hk
    cases hc : R1[k]? with
    | none => rw [hc] at hk; cases hk
    | some c =>
      rw [hc] at hk
      obtain rfl : (brResign c p).1 = q := by simpa using hk
      exact quit_no hf)
  clear p1 p3 p4 p5 hr1 hx5 hz4 hR3 hZ4
  go_enter Tryd.func6, Tryd.ntmps6
  go_upto_region 1 with fail
  rw [HW.out]
  generalize hbx : w.heap.size = bw at HS ⊢
  clear hbx
  go_wp2_with fail
  refine (CS.out _ _ _ _ (HS.out.da 1 rfl) HM.out).mono ?_; rintro e w2 ⟨rfl, hb⟩
  have HS := Lib.hid (HS.out.next hb)
  clear hb
  have c1 := (HS.out.ka 0 rfl).cell 1 _ rfl
  go_wp2_with fail
  refine (CP.out _ _ _ _ (HS.out.da 1 rfl) HQ.out).mono ?_; rintro e w3 ⟨A1, c1', rfl, hd, hb⟩
  have HS := Lib.hid ((HS.out.next hb).fact (kT A1 n L) hd)
  clear hb hd
  clear c1
  go_wp2_with fail
  refine (to23 (HS.out.da 0 rfl) HN2.out).mono ?_; rintro e w4 ⟨A2, c2', rfl, hd, hb⟩
  have HS := Lib.hid ((HS.out.next hb).fact (kP A2 n L) hd)
  clear hb hd
  have c0 : _ = some (Value.int .i64 p) := (HS.out.ka 0 rfl).cell 0 _ rfl
  have c1 : _ = some (Value.slice G m d) := (HS.out.ka 0 rfl).cell 1 _ rfl
  have c2 : _ = some (Value.bool al) := (HS.out.ka 0 rfl).cell 2 _ rfl
  go_wp2_with fail
  refine (P1.out _ _ _ _ _ _ _ (HT.out _ HS.out.up) (HS.out.da 0 rfl) HN2.out (HS.out.da 2 rfl) HGL.out HM8.out).mono ?_; rintro e w5 ⟨B1, b1, rfl, hd, hb⟩
  have HS := Lib.hid ((HS.out.next hb).fact (kP B1 n R1) hd)
  clear hb hd
  clear c0 c1 c2
  have c0 : _ = some (Value.int .i64 p) := (HS.out.ka 0 rfl).cell 0 _ rfl
  have HRE := Lib.hid (fun h => HR1.out h)
  by_cases h0 : x1 = 0
  case' pos =>
    subst h0
    clear HRE
    go_wp2_with fail
  case' neg =>
    have hx1 : (x1 != 0) = true := by simp [bne, h0]
    have HRE2 := Lib.hid (HRE.out h0)
    clear HRE h0 c0
    go_wp2_with fail
    refine (from23 (HS.out.da 0 rfl) HN2.out (HT.out _ HS.out.up)).mono ?_; rintro e w8 ⟨F1, f1, rfl, hd, hb⟩
    rw [HRE2.out] at hd
    have HS := Lib.hid ((HS.out.next hb).fact (kT F1 n L) hd)
    clear hb hd
    go_wp2_with fail
    refine (same23 (HS.out.da 0 rfl) (HS.out.da 3 rfl) HN2.out).mono ?_; rintro e w9 ⟨rfl, hb⟩
    have HS : Hid (Mm w [(bw, [.int .i64 p, .slice G m d, .bool al], 25)] [kP B1 n R1, kP A2 n L, kT A1 n L, kG G m gs, kQ A n Q] w9) := Lib.hid (have k := HS.out.next hb; ⟨k.up, k.k, fun y hy => k.d y (List.mem_cons_of_mem _ hy)⟩)
    clear hb
    have c0 : _ = some (Value.int .i64 p) := (HS.out.ka 0 rfl).cell 0 _ rfl
    go_wp2_with fail
  all_goals
    refine (P3.out _ _ _ _ (HT.out _ HS.out.up) (HS.out.da 0 rfl) HN2.out).mono ?_; rintro e wA ⟨A6, c6, rfl, hd, hb⟩
    have HS := Lib.hid ((HS.out.next hb).fact (kP A6 n R3) hd)
    clear hb hd c0
    go_wp2_with fail
    go_loopw [60] (fun i wr => ∃ k : Nat, k ≤ n ∧ i = .int .i64 k ∧ Mm w [(bw, [.int .i64 p, .slice G m d, .bool al], 25)] (kP A6 n R3 :: [kP B1 n R1, kP A2 n L, kT A1 n L, kG G m gs, kQ A n Q]) wr) (fun i _ => n - (intOf i).toNat)
    case atStart => exact ⟨0, Nat.zero_le _, rfl, HS.out⟩
    case round =>
      obtain ⟨k, hk, rfl, hmm⟩ := hrel
      have hn5 : n ≤ 100000 := HN2.out
      by_cases hlt : k < n
      · obtain ⟨g, o, q, rfl, _, _, hq, hrg, _⟩ := (show TW pB wr tt A6 n R3 from hmm.da 0 rfl).at_ k hlt
        have HRG : Hid (wr.rangeAt g (o + k * 11) (brC q)) := Lib.hid hrg
        have HNQ := Lib.hid (HNO.out k q hq)
        have HM1 := Lib.hid (hmm.new (brC q) 66)
        have CF := Lib.hid (fun W (hW : Below w.heap.size w W) => c_brfine q W (HT.out W hW))
        clear hrg hq hmm
        generalize hbx : wr.heap.size = bx at HM1
        have HBX := Lib.hid hbx
        clear hbx
        cases hf : brFine q
        · rw [hf] at CF
          clear HNQ hf
          go_wp2_with (first | (refine lmr (b := g) (q := o + k * 11) (cs := brC q) (.tmp 62) rfl rfl Tryd.underlying66 rfl info_bar rfl ?_ ?_; (· exact HRG.out)) | (refine snr (W := wr) (cs := brC q) (zs := brZ) (t := 66) (.tmp 13) (.tmp 63) rfl rfl rfl rfl info_bar rfl brC_one ?_ ?_ ?_; (· rfl); (· rfl)) | (refine ldr (b := wr.heap.size) (t := 66) (cs := brC q) (.tmp 13) rfl rfl Tryd.underlying66 rfl info_bar rfl ?_ ?_; (· rw [HBX.out]; exact HM1.out.ka 0 rfl)))
          refine (CF.out _ HM1.out.up).mono ?_; rintro e wB ⟨rfl, hb⟩
          have HM2 := Lib.hid (HM1.out.next hb)
          clear hb
          go_wp2_with fail
          go_roundw
          case rel => exact ⟨k + 1, by omega, by go_num, ⟨HM2.out.up, fun x hx => HM2.out.k x (List.mem_cons_of_mem _ hx), HM2.out.d⟩⟩
          case measure => simp [intOf]; omega
        · rw [hf] at CF
          have h1 := HNQ.out hf
          have HH1 := Lib.hid (fun W => c_hasB q.r.m p W h1.1)
          have HH2 := Lib.hid (fun W => c_hasB q.r.a p W h1.2)
          clear HNQ hf h1
          go_wp2_with (first | (refine lmr (b := g) (q := o + k * 11) (cs := brC q) (.tmp 62) rfl rfl Tryd.underlying66 rfl info_bar rfl ?_ ?_; (· exact HRG.out)) | (refine snr (W := wr) (cs := brC q) (zs := brZ) (t := 66) (.tmp 13) (.tmp 63) rfl rfl rfl rfl info_bar rfl brC_one ?_ ?_ ?_; (· rfl); (· rfl)) | (refine ldr (b := wr.heap.size) (t := 66) (cs := brC q) (.tmp 13) rfl rfl Tryd.underlying66 rfl info_bar rfl ?_ ?_; (· rw [HBX.out]; exact HM1.out.ka 0 rfl)))
          refine (CF.out _ HM1.out.up).mono ?_; rintro e wB ⟨rfl, hb⟩
          have HM2 := Lib.hid (HM1.out.next hb)
          clear hb
          have c0 : _ = some (Value.int .i64 p) := (HM2.out.ka 1 rfl).cell 0 _ rfl
          rw [HBX.out]
          go_wp2_with (refine lmr (b := bx) (q := 2) (cs := q.r.m.cs) (.tmp 68) rfl rfl Tryd.underlying62 rfl (by kernel_rfl) rfl ?_ ?_; (· exact (HM2.out.ka 0 rfl).part 2 4 rfl))
          refine (HH1.out _).mono ?_; rintro e wC ⟨rfl, hb⟩
          have HM3 := Lib.hid (HM2.out.next hb)
          clear hb c0
          have c0 : _ = some (Value.int .i64 p) := (HM3.out.ka 1 rfl).cell 0 _ rfl
          go_wp2_with (refine lmr (b := bx) (q := 6) (cs := q.r.a.cs) (.tmp 75) rfl rfl Tryd.underlying62 rfl (by kernel_rfl) rfl ?_ ?_; (· exact (HM3.out.ka 0 rfl).part 6 4 rfl))
          refine (HH2.out _).mono ?_; rintro e wD ⟨rfl, hb⟩
          have HM4 := Lib.hid (HM3.out.next hb)
          clear hb c0
          go_wp2_with fail
          go_roundw
          case rel => exact ⟨k + 1, by omega, by go_num, ⟨HM4.out.up, fun x hx => HM4.out.k x (List.mem_cons_of_mem _ hx), HM4.out.d⟩⟩
          case measure => simp [intOf]; omega
      · obtain rfl : k = n := by omega
        have HS := Lib.hid hmm
        have HRL : Hid (R1.length = k) := Lib.hid (TW.len (K := pB) (hmm.da 1 rfl))
        clear hmm
        go_wp2_with fail
        refine (P4.out _ _ _ _ (HT.out _ HS.out.up) (HS.out.da 1 rfl) HN2.out).mono ?_; rintro e wE ⟨B4, b4, rfl, hd, hb⟩
        have HS := Lib.hid ((HS.out.next hb).fact (kR B4 Z4.length Z4) hd)
        clear hb hd
        have hzn : Z4.length ≤ 100000 := by have h1 := HZ4.out; have h2 := HRL.out; have h3 := HN2.out; omega
        generalize hzl : Z4.length = zl at HS hzn
        have HZL := Lib.hid hzl
        clear hzl
        go_wp2_with fail
        go_loopw [14, 86] (fun r i wr => ∃ j : Nat, j ≤ zl ∧ i = .int .i64 j ∧ r = .bool (hasL (Z4.take j) b) ∧ Mm w [(bw, [.int .i64 p, .slice G m d, .bool al], 25)] (kR B4 zl Z4 :: kP A6 k R3 :: [kP B1 k R1, kP A2 k L, kT A1 k L, kG G m gs, kQ A k Q]) wr) (fun _ i _ => zl - (intOf i).toNat)
        case atStart => exact ⟨0, Nat.zero_le _, rfl, rfl, HS.out⟩
        case round =>
          obtain ⟨j, hj, rfl, rfl, hmm⟩ := hrel
          by_cases hlt : j < zl
          · have hjz : j < Z4.length := by rw [HZL.out]; exact hlt
            obtain ⟨g, o, rfl, _, _, hc⟩ := RD.at_ (show RD _ tt 1 B4 zl (Z4.map (Value.int .i64)) from hmm.da 0 rfl) (by omega)
            have hcz := hc j (.int .i64 Z4[j]) (by simp [hjz])
            have HST : Hid (hasL (Z4.take (j + 1)) b = (hasL (Z4.take j) b || (Z4[j] == b))) := Lib.hid (by
              rw [take_snoc' Z4 j hjz]
              exact hasL_snoc _ _ _)
            generalize Z4[j] = z at hcz HST
            have HS := Lib.hid hmm
            have hjl : (j : Int) < (zl : Int) := by omega
            clear hmm hc hjz
            cases hh : hasL (Z4.take j) b
            · rw [hh, Bool.false_or] at HST
              clear hh
              go_wp2_with fail
              go_roundw
              case rel => exact ⟨j + 1, by omega, by go_num, by rw [HST.out], HS.out⟩
              case measure => simp [intOf]; omega
            · rw [hh, Bool.true_or] at HST
              clear hh
              go_wp2_with fail
              go_roundw
              case rel => exact ⟨j + 1, by omega, by go_num, by rw [HST.out], HS.out⟩
              case measure => simp [intOf]; omega
          · obtain rfl : j = zl := by omega
            have HS := Lib.hid hmm
            have HE : Hid (hasL (Z4.take j) b = decide (x5 = 0)) := Lib.hid (by rw [List.take_of_length_le (by rw [HZL.out]; exact Nat.le_refl _)]; exact HX5.out)
            clear hmm
            by_cases h5 : x5 = 0
            · rw [decide_eq_true h5] at HE
              rw [HE.out]
              subst h5
              go_wp2_with fail
              refine (P5.out _ _ _ _ (HT.out _ HS.out.up) (HS.out.da 2 rfl) HN2.out).mono ?_; rintro e wF ⟨A7, c7, B7, d7, rfl, -, -, hb⟩
              have HS := Lib.hid (HS.out.next hb)
              clear hb
              go_wp2_with fail
              refine (c_alive23 _ (HT.out _ HS.out.up)).mono ?_; rintro e wG ⟨rfl, hb⟩
              go_wp2
              go_ret
              exact ⟨rfl, up_trans HS.out.up hb⟩
            · rw [decide_eq_false h5] at HE
              have hx5 : (x5 == 0) = false := by simp [h5]
              rw [HE.out]
              clear h5
              go_wp2_with fail
              refine (P5.out _ _ _ _ (HT.out _ HS.out.up) (HS.out.da 2 rfl) HN2.out).mono ?_; rintro e wF ⟨A7, c7, B7, d7, rfl, -, -, hb⟩
              have HS := Lib.hid (HS.out.next hb)
              clear hb
              go_wp2_with fail
              refine (c_alive23 _ (HT.out _ HS.out.up)).mono ?_; rintro e wG ⟨rfl, hb⟩
              go_wp2
              go_ret
              exact ⟨rfl, up_trans HS.out.up hb⟩
end Go.Proofs.YtlfglibepldjpaaDoor

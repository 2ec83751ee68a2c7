/- The law on whoever comes and goes. -/
import Derived.Test.YtflpjpdgacjlcaaPsn
import Derived.Test.YtflpjpdgacjlcaaPrj
import Derived.Test.YtflpjpdgacjlcaaPsj
import Derived.IntWalk
import Derived.Deep.DeepCutAuto
import Derived.Deep.CutBlock
import Derived.LoopTactic
namespace Go.Proofs.Ytflpjpdgacjlcaa
open Go.RowKit

theorem oi_big {L : List PR} {G O : List Int} {i : Int} (h : OI L G O i) {x : Int} (hx : x ∈ O) : I64 x := by
  obtain ⟨k, q, hk, hl, rfl⟩ := (h.opn x).1 hx
  have hkl := lt_of_at hk
  have h16 := fineT_len h.fine
  have hg := may_gen (fineT_all h.fine q (List.mem_of_getElem? hk))
  unfold I64
  omega
theorem oi_len {L : List PR} {G O : List Int} {i : Int} (h : OI L G O i) : O.length ≤ 16 := by
  rw [h.cnt, ← fineT_len h.fine]
  exact List.countP_le_length
/-- Who is left, of the first j. -/
def leftO (O : List Int) (m j : Nat) : List Int := (O.take j).eraseIdx m
theorem left_zero (O : List Int) (m : Nat) : leftO O m 0 = [] := rfl
theorem left_all (O : List Int) (m : Nat) : leftO O m O.length = O.eraseIdx m := by unfold leftO; rw [List.take_length]
theorem left_skip {O : List Int} {m : Nat} (hm : m < O.length) : leftO O m (m + 1) = leftO O m m := by
  have e2 : (O.take m).eraseIdx m = O.take m := List.eraseIdx_of_length_le (by rw [List.length_take]; omega)
  have e3 : (O.take m).length = m := by rw [List.length_take]; omega
  have e4 : O.take (m + 1) = O.take m ++ [O[m]] := by rw [List.take_add_one, List.getElem?_eq_getElem hm]; rfl
  unfold leftO
  rw [e4, List.eraseIdx_append_of_length_le (by omega), e3, e2, Nat.sub_self]
  simp
theorem left_next {O : List Int} {m j : Nat} {z : Int} (hj : O[j]? = some z) (hne : j ≠ m) : leftO O m (j + 1) = leftO O m j ++ [z] := by
  have hjl := (List.getElem?_eq_some_iff.1 hj).1
  unfold leftO
  rw [List.take_add_one, hj]
  by_cases hlt : m < j
  · rw [List.eraseIdx_append_of_lt_length (by rw [List.length_take]; omega)]
    rfl
  · rw [List.eraseIdx_of_length_le (by simp; omega), List.eraseIdx_of_length_le (by rw [List.length_take]; omega)]
    rfl
theorem left_len (O : List Int) (m j : Nat) : (leftO O m j).length ≤ O.length := by
  unfold leftO
  have := (List.eraseIdx_sublist (O.take j) m).length_le
  rw [List.length_take] at this
  omega
/-- What stands at the end of a step. -/
def OnC (w : World) (k : Nat) (v3 v4 v5 : Value) (wx : World) : Prop := ∃ L G O, OM w wx v3 v4 v5 L G O ∧ OI L G O ((k : Int) + 1) ∧ G.length ≤ k + 1

set_option maxRecDepth 100000 in
set_option maxHeartbeats 8000000 in
theorem l_ponce (A : Option Addr) (n c : Nat) (M : List (List Int)) (hl : M.length = n) (hok : ∀ r ∈ M, RowOk (List.replicate 2 .u8) r) (w : World) (hR : RD w (fun _ => True) (List.replicate 2 IntKind.u8).length A n (M.flatMap (rowV (List.replicate 2 .u8)))) :
    Calls Try.prog 5 #[.slice A n c] w fun e w' => e = .returned (.bool true) ∧ Below w.heap.size w w' := by
  have hR2 : RD w (fun _ => True) 2 A n (M.flatMap (rowV (List.replicate 2 .u8))) := hR
  have HP := Lib.hid (fun W (hb : Below w.heap.size w W) k (hk : k < n) => pair_at hl hok (hR2.below hb) k hk)
  clear hl hok hR hR2
  go_enter Try.func5, Try.ntmps5
  go_wp2_with fail
  refine (c_prnew w tt).mono ?_
  rintro e w0 ⟨A0, c0, rfl, t0, hb0⟩
  have HM0 := Lib.hid (OM.start (c := c0) (t0.lo plP_tt) hb0)
  clear t0 hb0
  go_wp2_with fail
  go_loopw [3, 4, 5, 6] (fun v3 v4 v5 i wr => ∃ k : Nat, k ≤ 80 ∧ i = .int .i64 k ∧ ∃ L G O, OM w wr v3 v4 v5 L G O ∧ OI L G O k ∧ G.length ≤ k) (fun _ _ _ i _ => 80 - (intOf i).toNat)
  case atStart => exact ⟨0, by omega, rfl, _, [], [], HM0.out, oi_start, Nat.le_refl _⟩
  case round =>
    clear HM0
    obtain ⟨k, hk, rfl, L, G, O, hM, hI, hG⟩ := hrel
    obtain ⟨AT, cT, rfl, hT⟩ := hM.t
    obtain ⟨AG, cG, rfl, _, _, _⟩ := own_slice hM.g
    obtain ⟨AO, cO, rfl, _, _, _⟩ := own_slice hM.o
    by_cases hlt : k < n ∧ k < 80
    · obtain ⟨hlt1, hlt2⟩ := hlt
      obtain ⟨bL, oL, x, y, rfl, _, ⟨hx0, hx1⟩, ⟨hy0, hy1⟩, a0, a1⟩ := HP.out wr hM.up k hlt1
      have hk0 : (0 : Int) ≤ k := by omega
      have hk1 : (k : Int) < n := by omega
      have hk2 : (k : Int) < 80 := by omega
      have HM := Lib.hid hM
      have HI := Lib.hid hI
      have HG := Lib.hid hG
      have HT := Lib.hid hT
      have hO16 := oi_len hI
      clear hM hI hT hG
      go_upto_if 44 with fail
      go_cut [3, 4, 5] (fun v3 v4 v5 wx => OnC w k v3 v4 v5 wx)
      case first =>
        by_cases hx2 : x % 2 = 0
        · have q0 : (x % 2 == 0) = true := by simp [hx2]
          clear a0 hx2
          obtain ⟨L', hh, ee, hS, hiff, hok1, hno⟩ := oi_spawn HI.out (by omega)
          have HS := Lib.hid hS
          have HOK := Lib.hid hok1
          have HNO := Lib.hid hno
          go_wp2_with fail
          refine (c_prspawn HT.out 0 (k : Int)).mono ?_
          rintro e w1 ⟨A1, c1, rfl, t1, hb⟩
          rw [hS] at t1
          simp only [HS.out]
          have HM1 := Lib.hid (HM.out.tab (c := c1) t1 hb)
          have HU1 := Lib.hid hb
          clear t1 hb hS hok1 hno
          by_cases he : ee = 0
          · subst he
            have hlt16 : O.length < 16 := hiff.1 rfl
            have g1 : decide ((O.length : Int) < 16) = true := decide_eq_true (by omega)
            have HN1 := Lib.hid (HOK.out rfl).1
            have HI1 := Lib.hid (HOK.out rfl).2
            have hG9 := HG.out
            clear hiff
            go_wp2_with fail
            go_loopw [60] (fun i wq => ∃ j : Nat, j ≤ G.length ∧ i = .int .i64 j ∧ wq = w1) (fun i _ => G.length - (intOf i).toNat)
            case atStart => exact ⟨0, Nat.zero_le _, rfl, rfl⟩
            case round =>
              obtain ⟨j, hj, rfl, rfl⟩ := hrel
              by_cases hjl : j < G.length
              · obtain ⟨z, hz⟩ : ∃ z, G[j]? = some z := ⟨_, List.getElem?_eq_getElem hjl⟩
                obtain ⟨gg, cg, eg, hcg⟩ := int_at HM1.out.g j z hz
                injection eg with eg1 _ _
                subst eg1
                have hzne : (z == hh) = false := beq_eq_false_iff_ne.2 fun e => HN1.out (e ▸ List.mem_of_getElem? hz)
                have hj0 : (0 : Int) ≤ j := by omega
                have hj1 : (j : Int) < (G.length : Int) := by omega
                clear hz
                go_wp2
                go_roundw
                case rel => exact ⟨j + 1, by omega, by go_num, trivial⟩
                case measure => simp [intOf]; omega
              · obtain rfl : j = G.length := by omega
                have HA := Lib.hid (HM1.out.below (up_alloc wr (.cells #[.int .i64 hh] 3)))
                have hsz := HM1.out.up.size
                go_upto_region 18 with (at_builtin; refine wpList_app3 ei_int rfl (.tmp 74) (.tmp 76) rfl _ _ rfl HA.out.g rfl (RD.one (by simp)) (by simp [Value.oneCell']) (by omega) (by simp; omega) ?_; intro v4 w2 hown2 hg2 hn2)
                have HM2 := Lib.hid (HA.out.appG hown2 hg2 hn2)
                clear hown2 hg2 hn2
                have HB2 := Lib.hid (HM2.out.below (up_alloc w2 (.cells #[.int .i64 hh] 3)))
                have hsz2 := HM2.out.up.size
                go_wp2_with (at_builtin; refine wpList_app3 ei_int rfl (.tmp 78) (.tmp 80) rfl _ _ rfl HB2.out.o rfl (RD.one (by simp)) (by simp [Value.oneCell']) (by omega) (by simp; omega) ?_; intro v5 w3 hown3 hg3 hn3; have HM3 := Lib.hid (HB2.out.appO hown3 hg3 hn3); clear hown3 hg3 hn3)
                go_meet
                case rel => exact ⟨L', G ++ [hh], O ++ [hh], HM3.out, HI1.out, by rw [List.length_append, List.length_singleton]; omega⟩
          · have hlt16 : ¬ O.length < 16 := fun e => he (hiff.2 e)
            have g1 : decide ((O.length : Int) < 16) = false := decide_eq_false (by omega)
            have g2 : (ee == 0) = false := beq_eq_false_iff_ne.2 he
            obtain rfl : L' = L := HNO.out he
            clear hiff
            go_wp2_with fail
            go_loopw [60] (fun i wq => ∃ j : Nat, j ≤ G.length ∧ i = .int .i64 j ∧ wq = w1) (fun i _ => G.length - (intOf i).toNat)
            case atStart => exact ⟨0, Nat.zero_le _, rfl, rfl⟩
            case round =>
              have hG9 := HG.out
              obtain ⟨j, hj, rfl, rfl⟩ := hrel
              by_cases hjl : j < G.length
              · obtain ⟨z, hz⟩ : ∃ z, G[j]? = some z := ⟨_, List.getElem?_eq_getElem hjl⟩
                obtain ⟨gg, cg, eg, hcg⟩ := int_at HM1.out.g j z hz
                injection eg with eg1 _ _
                subst eg1
                have hj0 : (0 : Int) ≤ j := by omega
                have hj1 : (j : Int) < (G.length : Int) := by omega
                clear hz
                go_wp2
                go_roundw
                case rel => exact ⟨j + 1, by omega, by go_num, trivial⟩
                case measure => simp [intOf]; omega
              · obtain rfl : j = G.length := by omega
                go_wp2
                go_meet
                case rel => exact ⟨L', G, O, HM1.out, HI.out.later, by omega⟩
        · have q0 : (x % 2 == 0) = false := beq_eq_false_iff_ne.2 hx2
          clear hx2
          by_cases hO : 0 < O.length
          · have g1 : decide ((0 : Int) < (O.length : Int)) = true := decide_eq_true (by omega)
            have hOi : (0 : Int) < (O.length : Int) := by omega
            obtain ⟨m, hm⟩ : ∃ m : Nat, y % (O.length : Int) = m := ⟨(y % (O.length : Int)).toNat, by have := Int.emod_nonneg y (show (O.length : Int) ≠ 0 by omega); omega⟩
            have hml : m < O.length := by have := Int.emod_lt_of_pos y hOi; omega
            obtain ⟨z, hz⟩ : ∃ z, O[m]? = some z := ⟨_, List.getElem?_eq_getElem hml⟩
            obtain ⟨kk, L1, L2, hF, hE, hRp, hI2⟩ := oi_reap HI.out (by omega) m z hz
            have HZ := Lib.hid hz
            have HF := Lib.hid hF
            have HE := Lib.hid hE
            have HRp := Lib.hid hRp
            have HI2 := Lib.hid hI2
            have HZI := Lib.hid (oi_big HI.out (List.mem_of_getElem? hz))
            obtain ⟨go, co, eo, hco⟩ := int_at HM.out.o m z hz
            injection eo with eo1 _ _
            subst eo1
            have hm0 : (0 : Int) ≤ m := by omega
            have hm1 : (m : Int) < (O.length : Int) := by omega
            have HML := Lib.hid hml
            clear hz hF hE hRp hI2
            go_wp2_with fail
            refine (c_prfind HT.out z HZI.out).mono ?_
            rintro e w1 ⟨rfl, hb⟩
            simp only [HF.out]
            have HM1 := Lib.hid (HM.out.below hb)
            have HT1 := Lib.hid (HT.out.below hb)
            clear hb hco
            go_wp2_with fail
            refine (c_prend HT1.out (kk : Int) (k : Int)).mono ?_
            rintro e w2 ⟨A2, c2, rfl, t2, hb⟩
            rw [HE.out] at t2
            simp only [HE.out]
            have HM2 := Lib.hid (HM1.out.tab (c := c2) t2 hb)
            obtain ⟨A2', c2', e2', t2'⟩ := HM2.out.t
            injection e2' with e21 _ e23
            subst e21 e23
            have HT2 := Lib.hid t2'
            obtain ⟨go', co', eo, hco⟩ := int_at HM2.out.o m z HZ.out
            injection eo with eo1 _ _
            injection eo1 with eo1
            injection eo1 with eo1
            subst eo1
            clear t2 hb t2'
            go_wp2_with fail
            refine (c_prreap HT2.out z HZI.out).mono ?_
            rintro e w3 ⟨A3, c3, rfl, t3, hb⟩
            rw [HRp.out] at t3
            simp only [HRp.out]
            have HM3 := Lib.hid (HM2.out.tab (c := c3) t3 hb)
            have hkk : ((k : Int) != k) = false := by simp
            clear t3 hb hco
            go_wp2_with fail
            go_loopw [20, 138] (fun v i wq => ∃ j : Nat, j ≤ O.length ∧ i = .int .i64 j ∧ wq.ownsRow w3.heap.size 3 1 v (leftO O m j).length ((leftO O m j).map (Value.int .i64)) ∧ Below w3.heap.size w3 wq) (fun _ i _ => O.length - (intOf i).toNat)
            case atStart => exact ⟨0, Nat.zero_le _, rfl, World.ownsRow_nil _ _ _ _, Below.refl _ _⟩
            case round =>
              obtain ⟨j, hj, rfl, hown, hbq⟩ := hrel
              have HOW := Lib.hid hown
              have HBQ := Lib.hid hbq
              by_cases hjl : j < O.length
              · obtain ⟨u, hu⟩ : ∃ u, O[j]? = some u := ⟨_, List.getElem?_eq_getElem hjl⟩
                obtain ⟨go', co', eo, hcu⟩ := int_at (HM3.out.below hbq).o j u hu
                injection eo with eo1 _ _
                injection eo1 with eo1
                injection eo1 with eo1
                subst eo1
                have hj0 : (0 : Int) ≤ j := by omega
                have hj1 : (j : Int) < (O.length : Int) := by omega
                have HU := Lib.hid hu
                clear hown hbq hu
                by_cases hjm : j = m
                · subst hjm
                  have hne : ((j : Int) != j) = false := by simp
                  have HL := Lib.hid (left_skip HML.out)
                  go_wp2
                  go_roundw
                  case rel => exact ⟨j + 1, by omega, by go_num, by rw [HL.out]; exact HOW.out, HBQ.out⟩
                  case measure => simp [intOf]; omega
                · have hne : ((j : Int) != m) = true := by simp; omega
                  have HL := Lib.hid (left_next HU.out hjm)
                  have hll := left_len O m j
                  have hsz := HBQ.out.size
                  go_wp2_with (at_builtin; refine wpList_app ei_int rfl (.tmp 146) (.tmp 148) rfl _ _ rfl (HOW.out.alloc _) rfl (RD.one (by simp)) (by simp [Value.oneCell']) (by omega) (by simp; omega) ?_; intro v' w5 hown1 hb1; have HB5 := Lib.hid ((up_trans HBQ.out (up_alloc wr (.cells #[.int .i64 u] 3))).trans hb1); have HO5 := Lib.hid hown1; clear hown1 hb1)
                  go_roundw
                  case rel => exact ⟨j + 1, by omega, by go_num, by rw [HL.out, List.map_append, List.length_append]; exact HO5.out, HB5.out⟩
                  case measure => simp [intOf]; omega
              · obtain rfl : j = O.length := by omega
                clear hown hbq
                go_wp2
                go_meet
                case rel =>
                  have hO := HOW.out
                  rw [left_all] at hO
                  exact ⟨L2, G, O.eraseIdx m, HM3.out.newO HBQ.out hO, HI2.out, by have := HG.out; omega⟩
          · have hO0 : O.length = 0 := by omega
            have g1 : decide ((0 : Int) < (O.length : Int)) = false := decide_eq_false (by omega)
            go_wp2
            go_meet
            case rel => exact ⟨L, G, O, HM.out, HI.out.later, by have := HG.out; omega⟩
      case rest =>
        obtain ⟨L', G', O', hM', hI', hG'⟩ := hcut
        obtain ⟨AT', cT', rfl, hT'⟩ := hM'.t
        obtain ⟨AO', cO', rfl, _, _, _⟩ := own_slice hM'.o
        have HM' := Lib.hid hM'
        have HI' := Lib.hid hI'
        have HG' := Lib.hid hG'
        have HT' := Lib.hid hT'
        have HO' := Lib.hid (oi_len hI')
        have hfe : fineT L' = true := hI'.fine
        have CF := c_prfine (c := cT') hT'
        rw [hfe] at CF
        have CF := Lib.hid CF
        have hhl := hI'.handles
        clear hM' hI' hG' hT' hfe HM HI HG HT
        go_wp2_with fail
        refine CF.out.mono ?_; rintro e w2 ⟨rfl, hb⟩
        have HB2 := Lib.hid hb
        clear hb
        go_wp2_with fail
        refine (c_prhandles (HT'.out.below HB2.out)).mono ?_; rintro e w3 ⟨AH, cH, rfl, _, _, _, hb⟩
        rw [hhl]
        have HB3 := Lib.hid (up_trans HB2.out hb)
        have hne : ((O'.length : Int) != O'.length) = false := by simp
        clear hb hhl
        go_wp2_with fail
        go_loopw [166] (fun i wq => ∃ j : Nat, j ≤ O'.length ∧ i = .int .i64 j ∧ Below wc.heap.size wc wq) (fun i _ => O'.length - (intOf i).toNat)
        case atStart => exact ⟨0, Nat.zero_le _, rfl, HB3.out⟩
        case round =>
          obtain ⟨j, hj, rfl, hbq⟩ := hrel
          have hO9 := HO'.out
          have HBQ := Lib.hid hbq
          by_cases hjl : j < O'.length
          · obtain ⟨u, hu⟩ : ∃ u, O'[j]? = some u := ⟨_, List.getElem?_eq_getElem hjl⟩
            obtain ⟨go', co', eo, hcu⟩ := int_at (HM'.out.below hbq).o j u hu
            injection eo with eo1 _ eo3
            subst eo1 eo3
            obtain ⟨kk, q, hq1, hq2, hq3, hF, hH⟩ := HI'.out.find (List.mem_of_getElem? hu)
            have CF2 := c_prfind (c := cT') (HT'.out.below hbq) u (oi_big HI'.out (List.mem_of_getElem? hu))
            rw [hF] at CF2
            have CF2 := Lib.hid CF2
            have CH2 := fun W (hb : Below wc.heap.size wc W) => c_prhandle (c := cT') (HT'.out.below hb) (kk : Int)
            rw [hH] at CH2
            have CH2 := Lib.hid CH2
            have huu : (u != u) = false := by simp
            have hj0 : (0 : Int) ≤ j := by omega
            have hj1 : (j : Int) < (O'.length : Int) := by omega
            clear hbq hu hF hH hq1 hq2 hq3
            go_wp2_with fail
            refine CF2.out.mono ?_; rintro e w4 ⟨rfl, hb⟩
            have HB4 := Lib.hid (up_trans HBQ.out hb)
            clear hb
            go_wp2_with fail
            refine (CH2.out w4 HB4.out).mono ?_; rintro e w5 ⟨rfl, hb⟩
            have HB5 := Lib.hid (up_trans HB4.out hb)
            clear hb
            go_wp2
            go_roundw
            case rel => exact ⟨j + 1, by omega, by go_num, HB5.out⟩
            case measure => simp [intOf]; omega
          · obtain rfl : j = O'.length := by omega
            clear hbq
            go_wp2
            go_roundw
            case rel => exact ⟨k + 1, by omega, by go_num, L', G', O', HM'.out.below HBQ.out, by rw [show ((k + 1 : Nat) : Int) = (k : Int) + 1 by omega]; exact HI'.out, HG'.out⟩
            case measure => simp [intOf]; omega
    · have HUP := Lib.hid hM.up
      clear hM hI hT hG
      by_cases h1 : k < n
      · have g1 : decide ((k : Int) < (n : Int)) = true := decide_eq_true (by omega)
        have g2 : decide ((k : Int) < 80) = false := decide_eq_false (by omega)
        go_wp2_with fail
        refine (c_pralive _).mono ?_; rintro e w2 ⟨rfl, hb⟩
        go_wp2
        go_ret
        exact ⟨rfl, up_trans HUP.out hb⟩
      · have g1 : decide ((k : Int) < (n : Int)) = false := decide_eq_false (by omega)
        go_wp2_with fail
        refine (c_pralive _).mono ?_; rintro e w2 ⟨rfl, hb⟩
        go_wp2
        go_ret
        exact ⟨rfl, up_trans HUP.out hb⟩
end Go.Proofs.Ytflpjpdgacjlcaa

/- Package guard's behind, All and Find. -/
import Derived.Test.YtniijkdlphkpkaaDoorGvi
import Derived.Test.YtniijkdlphkpkaaDoorRw
import Derived.Deep.CutBlock
import Derived.StillTailTactics
import Derived.Deep.DeepCutAuto
namespace Go.Proofs.YtniijkdlphkpkaaDoor
open Go.RowKit

theorem info_gd : (Tryd.prog.info? 23).map (·.size) = some 5 := by kernel_rfl
theorem lastN_at {L : List GD} {j m : Nat} {g : GD} (hl : L.length = m) (hm : m = j + 1) (h : L[j]? = some g) : lastN L = g.n := by
  have := lastN_take h
  rwa [List.take_of_length_le (by omega)] at this
set_option maxRecDepth 100000 in
set_option maxHeartbeats 4000000 in
theorem c_gbehind {w : World} {pl : Nat → Prop} {A : Option Addr} {m c : Nat} {L : List GD} (hR : RD w pl 5 A m (L.flatMap gdC)) (hl : L.length = m) (hm : m ≤ 1000) (k o v r n : Int) :
    Calls Tryd.prog 30 #[.slice A m c, .agg #[.int .i64 k, .int .i64 o, .int .i64 v, .int .i64 r, .int .i64 n]] w fun e w' => e = .returned (.int .i64 (behE L ⟨k, o, v, r, n⟩)) ∧ Below w.heap.size w w' := by
  have HB := Blk.new w [.int .i64 k, .int .i64 o, .int .i64 v, .int .i64 r, .int .i64 n] 23
  have HU := up_alloc w (.cells #[.int .i64 k, .int .i64 o, .int .i64 v, .int .i64 r, .int .i64 n] 23)
  have CC := Lib.hid (c_gcheck k o v r n (w.alloc (.cells #[.int .i64 k, .int .i64 o, .int .i64 v, .int .i64 r, .int .i64 n] 23)))
  have HR := Lib.hid hR
  have HL := Lib.hid hl
  clear hR hl
  by_cases h0 : chkE k o v r n = 0
  · have HF := Lib.hid (fit_of h0)
    have HC0 := Lib.hid (show chkG ⟨k, o, v, r, n⟩ = 0 from h0)
    rw [h0] at CC
    clear h0
    go_enter Tryd.func30, Tryd.ntmps30
    go_wp2_with fail
    refine CC.out.mono ?_; rintro e w2 ⟨rfl, hb2⟩
    have HB2 := HB.up hb2 HB.lt
    have HU2 := Lib.hid (up_trans HU hb2)
    have i0 := HB2.cell 0 _ rfl
    have i1 := HB2.cell 1 _ rfl
    have i2 := HB2.cell 2 _ rfl
    have i3 := HB2.cell 3 _ rfl
    have i4 := HB2.cell 4 _ rfl
    have CT := Lib.hid (fun q => c_gctf (c := c) (HR.out.below (up_trans HU2.out (up_drewN w2 q))) HL.out (by omega) (says_clash (HB2.up (up_drewN w2 q) HB2.lt)))
    clear HB HU CC hb2
    rcases Nat.eq_zero_or_pos m with hm0 | hm0
    · have HN : Hid (¬ (⟨k, o, v, r, n⟩ : GD).n ≤ lastN L) := Lib.hid (by
        have e : L = [] := List.eq_nil_of_length_eq_zero (by rw [HL.out]; exact hm0)
        rw [e, lastN_nil]
        have := HF.out.n0
        show ¬ n ≤ -1
        omega)
      subst hm0
      obtain ⟨q, hq⟩ : ∃ q, L.any (clsB · ⟨k, o, v, r, n⟩) = q := ⟨_, rfl⟩
      rw [hq] at CT
      have HQ := Lib.hid hq
      clear hq
      go_wp2_with fail
      go_quiet (fail)
      go_wp2_with fail
      refine (CT.out _).mono ?_; rintro e w3 ⟨rfl, hb3⟩
      have HU3 := Lib.hid (up_trans (up_trans HU2.out (up_drewN w2 _)) hb3)
      clear hb3
      cases q
      · have HE := Lib.hid (behE_ok (a := L) HC0.out (by have := HN.out; show ¬ n ≤ lastN L; omega) HQ.out)
        go_wp2
        go_ret
        exact ⟨ret_int HE.out.symm, HU3.out⟩
      · have HE := Lib.hid (behE_cls (a := L) HC0.out (by have := HN.out; show ¬ n ≤ lastN L; omega) HQ.out)
        go_wp2
        go_ret
        exact ⟨ret_int HE.out.symm, HU3.out⟩
    · obtain ⟨j, hj⟩ : ∃ j, m = j + 1 := ⟨m - 1, by omega⟩
      have hex : ∃ g, L[j]? = some g := ⟨_, List.getElem?_eq_getElem (by rw [HL.out]; omega)⟩
      obtain ⟨g, hg⟩ := hex
      have HLN := Lib.hid (lastN_at HL.out hj hg)
      obtain ⟨b, of, rfl, hbl, e0, e1, e2, e3, e4⟩ := HR.out.guard j g hg (by omega)
      replace e4 := (HU2.out.cell (p := ⟨b, of + j * 5 + 4, none⟩) hbl).trans e4
      have hw : IntKind.i64.wrap ((m : Int) - 1) = (m : Int) - 1 := IntWalk.i64_in _ (by omega)
      have h1 : 0 ≤ (m : Int) - 1 := by omega
      have h2 : (1 : Int) ≤ (m : Int) := by omega
      have h3 : ((m : Int) - 1).toNat = j := by omega
      have h4 : (m : Int) - 1 < (m : Int) := by omega
      have h5 : decide (0 < (m : Int)) = true := decide_eq_true (by omega)
      have h6 : decide (0 < m) = true := decide_eq_true hm0
      obtain ⟨gn, hgn⟩ : ∃ x, g.n = x := ⟨_, rfl⟩
      rw [hgn] at e4 HLN
      clear hg e0 e1 e2 e3 hj hgn
      by_cases hle : n ≤ gn
      · have HE := Lib.hid (behE_no (a := L) HC0.out (by rw [HLN.out]; exact hle))
        go_wp2_with fail
        go_quiet (fail)
        go_wp2
        go_ret
        exact ⟨ret_int HE.out.symm, up_trans HU2.out (up_drewN w2 _)⟩
      · have HN : Hid (¬ (⟨k, o, v, r, n⟩ : GD).n ≤ lastN L) := Lib.hid (by rw [HLN.out]; exact hle)
        obtain ⟨q, hq⟩ : ∃ q, L.any (clsB · ⟨k, o, v, r, n⟩) = q := ⟨_, rfl⟩
        rw [hq] at CT
        have HQ := Lib.hid hq
        clear hq
        go_wp2_with fail
        go_quiet (fail)
        go_wp2_with fail
        refine (CT.out _).mono ?_; rintro e w3 ⟨rfl, hb3⟩
        have HU3 := Lib.hid (up_trans (up_trans HU2.out (up_drewN w2 _)) hb3)
        clear hb3
        cases q
        · have HE := Lib.hid (behE_ok (a := L) HC0.out (by have := HN.out; show ¬ n ≤ lastN L; omega) HQ.out)
          go_wp2
          go_ret
          exact ⟨ret_int HE.out.symm, HU3.out⟩
        · have HE := Lib.hid (behE_cls (a := L) HC0.out (by have := HN.out; show ¬ n ≤ lastN L; omega) HQ.out)
          go_wp2
          go_ret
          exact ⟨ret_int HE.out.symm, HU3.out⟩
  · have HE := Lib.hid (behE_chk (a := L) (g := ⟨k, o, v, r, n⟩) h0)
    have hb : (chkE k o v r n != 0) = true := by simpa [bne] using h0
    have HE2 : Hid (behE L ⟨k, o, v, r, n⟩ = chkE k o v r n) := HE
    clear HE
    obtain ⟨x, hx⟩ : ∃ x, chkE k o v r n = x := ⟨_, rfl⟩
    rw [hx] at CC hb HE2
    clear h0 hx
    go_enter Tryd.func30, Tryd.ntmps30
    go_wp2_with fail
    refine CC.out.mono ?_; rintro e w2 ⟨rfl, hb2⟩
    go_wp2
    go_ret
    exact ⟨ret_int HE2.out.symm, up_trans HU hb2⟩

/-- The world in which a loop over guards lays its variable. -/
abbrev gvO (g : GD) : Obj := .cells #[.int .i64 g.k, .int .i64 g.o, .int .i64 g.v, .int .i64 g.r, .int .i64 g.n] 23
theorem RD.ahead {w : World} {pl : Nat → Prop} {A : Option Addr} {n : Nat} {L : List GD} (h : RD w pl 5 A n (L.flatMap gdC)) (hl : L.length = n) (k : Nat) (hk : k ≤ n) : RD w pl 5 A k ((L.take k).flatMap gdC) := by
  have h1 := h.take k hk
  have e : (L.flatMap gdC).take (k * 5) = (L.take k).flatMap gdC := by
    have key : ∀ (l : List GD) (k : Nat), k ≤ l.length → (l.flatMap gdC).take (k * 5) = (l.take k).flatMap gdC := by
      intro l
      induction l with
      | nil => intro k hk; simp
      | cons a l ih =>
        intro k hk
        cases k with
        | zero => simp
        | succ k =>
          rw [List.flatMap_cons, List.take_succ_cons, List.flatMap_cons, ← ih k (by simpa using hk), Nat.succ_mul, Nat.add_comm, ← gdC_len a, List.take_length_add_append]
    exact key L k (by omega)
  rwa [e] at h1
set_option maxRecDepth 100000 in
set_option maxHeartbeats 4000000 in
theorem c_gall {w : World} {pl : Nat → Prop} {A : Option Addr} {n c : Nat} {L : List GD} (hR : RD w pl 5 A n (L.flatMap gdC)) (hl : L.length = n) (hn : n ≤ 1000) (hc : n ≤ c) (hcm : c ≤ maxLen) :
    Calls Tryd.prog 11 #[.slice A n c] w fun e w' => e = .returned (.tuple #[.int .i64 (allG L).1, .int .i64 (allG L).2]) ∧ Below w.heap.size w w' := by
  have HR := Lib.hid hR
  have HL := Lib.hid hl
  unfold maxLen at hcm
  clear hR hl
  rcases Nat.eq_zero_or_pos n with h0 | h0
  · rw [allG_none (by rw [HL.out]; exact h0)]
    subst h0
    go_enter Tryd.func11, Tryd.ntmps11
    go_wp2
    go_ret2
    exact ⟨rfl, Below.refl _ _⟩
  have t0 : ((n : Int) == 0) = false := by simp; omega
  by_cases h6 : 6 < n
  · rw [allG_many (by rw [HL.out]; exact h6)]
    have t6 : decide (6 < (n : Int)) = true := decide_eq_true (by omega)
    clear h0
    go_enter Tryd.func11, Tryd.ntmps11
    go_wp2
    go_ret2
    exact ⟨rfl, Below.refl _ _⟩
  rw [allG_few (by rw [HL.out]; exact h0) (by rw [HL.out]; omega)]
  have t6 : decide (6 < (n : Int)) = false := decide_eq_false (by omega)
  go_enter Tryd.func11, Tryd.ntmps11
  go_wp2_with fail
  go_loopw [17] (fun i wr => ∃ k : Nat, k ≤ n ∧ i = .int .i64 k ∧ allL (L.take k) (L.drop k) = allL [] L ∧ Below w.heap.size w wr) (fun i _ => n - (intOf i).toNat)
  case atStart => exact ⟨0, Nat.zero_le _, rfl, rfl, Below.refl _ _⟩
  case round =>
    obtain ⟨k, hk, rfl, hA, hbw⟩ := hrel
    have HA := Lib.hid hA
    have HW := Lib.hid hbw
    clear hA
    by_cases hlt : k < n
    · have hex : ∃ g, L[k]? = some g := ⟨_, List.getElem?_eq_getElem (by rw [HL.out]; exact hlt)⟩
      obtain ⟨g, hg⟩ := hex
      obtain ⟨b, o, rfl, _, i0, i1, i2, i3, i4⟩ := (HR.out.below hbw).guard k g hg hlt
      have HG := Lib.hid hg
      obtain ⟨gk, go, gv, gr, gn⟩ := g
      simp only at i0 i1 i2 i3 i4
      have HB := Blk.new wr [.int .i64 gk, .int .i64 go, .int .i64 gv, .int .i64 gr, .int .i64 gn] 23
      have HU := Lib.hid (up_alloc wr (.cells #[.int .i64 gk, .int .i64 go, .int .i64 gv, .int .i64 gr, .int .i64 gn] 23))
      generalize hws : wr.alloc (.cells [.int .i64 gk, .int .i64 go, .int .i64 gv, .int .i64 gr, .int .i64 gn].toArray 23) = ws at HB
      have HU : Hid (Below wr.heap.size wr ws) := Lib.hid (by rw [← hws]; exact HU.out)
      have HWS := Lib.hid hws
      clear hws
      have CB := Lib.hid (fun q => c_gbehind (c := c) ((HR.out.below (up_trans (up_trans hbw HU.out) (up_drewN _ q))).ahead HL.out k (by omega)) (by rw [List.length_take, HL.out]; omega) (by omega) gk go gv gr gn)
      obtain ⟨x, hx⟩ : ∃ x, behE (L.take k) ⟨gk, go, gv, gr, gn⟩ = x := ⟨_, rfl⟩
      rw [hx] at CB
      have HX := Lib.hid hx
      have hkc : (k : Int) ≤ (c : Int) := by omega
      have j0 := HB.cell 0 _ rfl
      have j1 := HB.cell 1 _ rfl
      have j2 := HB.cell 2 _ rfl
      have j3 := HB.cell 3 _ rfl
      have j4 := HB.cell 4 _ rfl
      clear hg hbw hx HB
      go_wp2_with fail
      rw [HWS.out]
      go_still_tail 4, (by kernel_rfl)
      go_wp2_with fail
      refine (CB.out _).mono ?_; rintro e w3 ⟨rfl, hb3⟩
      have HU3 := Lib.hid (up_trans (up_trans (up_trans HW.out HU.out) (up_drewN _ _)) hb3)
      clear hb3
      by_cases hx0 : x = 0
      · have HN := Lib.hid (allL_next HG.out (by rw [HX.out]; exact hx0))
        subst hx0
        go_wp2
        go_roundw
        case rel => exact ⟨k + 1, by omega, by go_num, by rw [← HN.out]; exact HA.out, HU3.out⟩
        case measure => simp [intOf]; omega
      · have HN := Lib.hid (allL_stop HG.out HX.out hx0)
        have tx : (x != 0) = true := by simpa [bne] using hx0
        clear hx0
        go_wp2
        go_ret2
        have E := HA.out.symm.trans HN.out
        exact ⟨ret_int2 (congrArg Prod.fst E).symm (congrArg Prod.snd E).symm, HU3.out⟩
    · have HN := Lib.hid (allL_end (l := L) (k := k) (by rw [HL.out]; omega))
      clear hbw
      go_wp2
      go_ret2
      have E := HA.out.symm.trans HN.out
      exact ⟨ret_int2 (congrArg Prod.fst E).symm (congrArg Prod.snd E).symm, HW.out⟩

set_option maxRecDepth 100000 in
set_option maxHeartbeats 4000000 in
theorem c_gfind {w : World} {pl : Nat → Prop} {A : Option Addr} {n c : Nat} {L : List GD} (hR : RD w pl 5 A n (L.flatMap gdC)) (hl : L.length = n) (hn : n ≤ 1000) (no : Int) :
    Calls Tryd.prog 17 #[.slice A n c, .int .i64 no] w fun e w' => e = .returned (.tuple #[.agg (gdC (fndG L no).1).toArray, .bool (fndG L no).2]) ∧ Below w.heap.size w w' := by
  have HR := Lib.hid hR
  have HL := Lib.hid hl
  clear hR hl
  have HB0 := Blk.new w [.int .i64 no] 3
  have hX := bx2 w [.int .i64 no] 3 [.int .i64 0, .int .i64 0, .int .i64 0, .int .i64 0, .int .i64 0] 23
  generalize hw1 : (w.alloc (.cells [.int .i64 no].toArray 3)).alloc (.cells [.int .i64 0, .int .i64 0, .int .i64 0, .int .i64 0, .int .i64 0].toArray 23) = w1 at hX
  have HW := Lib.hid hw1
  have CT := Lib.hid (c_gixf (c := c) (HR.out.below hX.up) HL.out (by omega) (.inr rfl) (says_no hX.box))
  have HX := Lib.hid hX
  clear hw1 hX HB0
  cases hany : L.any (fun g => g.n == no)
  · rw [fidx_no hany] at CT
    rw [fnd_no hany]
    clear hany
    go_enter Tryd.func17, Tryd.ntmps17
    go_upto_region 1 with fail
    rw [HW.out]
    go_wp2_with fail
    refine CT.out.mono ?_; rintro e w3 ⟨rfl, hb3⟩
    have H3 := Lib.hid (HX.out.next hb3)
    clear hb3
    go_wp2_with (refine str (b := w.heap.size + 1) (t := 23) (cs := gdC gdZ) (ds := [.int .i64 0, .int .i64 0, .int .i64 0, .int .i64 0, .int .i64 0]) (.tmp 4) (.tmp 12) rfl rfl rfl rfl info_gd rfl (gdC_one gdZ) ?_ ?_; (· exact H3.out.res))
    refine bodyPost_ret (v := .tuple #[.agg (gdC gdZ).toArray, .bool false]) (results_ce (fn := Tryd.f17) (p := 4) (t := 5) rfl _ _ _ rfl (H3.out.res.row _) Tryd.underlying23 rfl info_gd) rfl ?_
    exact ⟨rfl, below_setRow H3.out.up (by omega) _⟩
  · obtain ⟨k, g, hg, hp, hno⟩ := any_first hany
    rw [fidx_at hg hno hp] at CT
    rw [fnd_at hg hno (by simpa using hp)]
    have hlt : k < n := by
      have := (List.getElem?_eq_some_iff.1 hg).1
      rwa [HL.out] at this
    have HG := Lib.hid hg
    clear hany hg hp hno
    go_enter Tryd.func17, Tryd.ntmps17
    go_upto_region 1 with fail
    rw [HW.out]
    go_wp2_with fail
    refine CT.out.mono ?_; rintro e w3 ⟨rfl, hb3⟩
    have H3 := Lib.hid (HX.out.next hb3)
    obtain ⟨b, o, rfl, _, i0, i1, i2, i3, i4⟩ := (HR.out.below H3.out.up).guard k g HG.out hlt
    have tk : decide ((k : Int) < 0) = false := decide_eq_false (by omega)
    clear hb3
    go_wp2_with (refine str (b := w.heap.size + 1) (t := 23) (cs := gdC g) (ds := [.int .i64 0, .int .i64 0, .int .i64 0, .int .i64 0, .int .i64 0]) (.tmp 4) (.tmp 16) rfl rfl rfl rfl info_gd rfl (gdC_one g) ?_ ?_; (· exact H3.out.res))
    refine bodyPost_ret (v := .tuple #[.agg (gdC g).toArray, .bool true]) (results_ce (fn := Tryd.f17) (p := 4) (t := 5) rfl _ _ _ rfl (H3.out.res.row _) Tryd.underlying23 rfl info_gd) rfl ?_
    exact ⟨rfl, below_setRow H3.out.up (by omega) _⟩
end Go.Proofs.YtniijkdlphkpkaaDoor

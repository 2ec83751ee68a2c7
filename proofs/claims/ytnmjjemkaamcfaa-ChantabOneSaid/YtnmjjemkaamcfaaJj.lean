/- Package channel: Do, of any number. -/
import Derived.Test.YtnmjjemkaamcfaaJi
namespace Go.Proofs.Ytnmjjemkaamcfaa
open Go.RowKit

def hd0 (L : List Int) : Int := L.headD 0
/-- What a move does to the values; who sends, who gets, what. -/
def doC (C : CP) (m : Int) : CP := if m = 2 then { C with V := C.V ++ [hd0 C.S] } else if m = 3 then { C with V := C.V.tail } else C
def doX (C : CP) (m : Int) : Int := if m = 3 then -1 else hd0 C.W
def doY (C : CP) (m : Int) : Int := if m = 2 then -1 else hd0 C.G
def doZ (C : CP) (m : Int) : Int := if m = 3 then hd0 C.V else hd0 C.S
/-- What Do tells. -/
def chDoE (C : CP) (m : Int) : Int := if chFine C = false then 1 else if chMay C m = false then 13 else 0
def chDoC (C : CP) (m : Int) : CP := if chDoE C m = 0 then chLeave (chLeave (doC C m) (doX C m)) (doY C m) else C
def chDoX (C : CP) (m : Int) : Int := if chDoE C m = 0 then doX C m else 0
def chDoY (C : CP) (m : Int) : Int := if chDoE C m = 0 then doY C m else 0
def chDoZ (C : CP) (m : Int) : Int := if chDoE C m = 0 then doZ C m else 0
theorem chMay_is {C : CP} {m : Int} (h : chMay C m = true) : m = 1 ∨ m = 2 ∨ m = 3 := by
  unfold chMay at h
  split at h
  · omega
  · split at h
    · omega
    · split at h
      · omega
      · cases h
theorem chMay_lens {C : CP} {m : Int} (hf : chFine C = true) (h : chMay C m = true) :
    (m ≠ 3 → 0 < C.W.length ∧ 0 < C.S.length) ∧ (m ≠ 2 → 0 < C.G.length) ∧ (m = 3 → 0 < C.V.length) ∧ C.V.length ≤ 8 := by
  have hO := chOk hf
  have hr := (ccE_ok hO.e).2.1
  have hroom := hO.room
  have hlen := hO.len
  have hS : chSends C = true → 0 < C.W.length := fun e => by
    unfold chSends at e
    rw [Bool.and_eq_true, decide_eq_true_eq] at e
    omega
  have hG : chGets C = true → 0 < C.G.length := fun e => by
    unfold chGets at e
    rw [Bool.and_eq_true, decide_eq_true_eq] at e
    omega
  rcases chMay_is h with rfl | rfl | rfl
  · have e : ((C.r == 0) && (chSends C && chGets C)) = true := h
    simp only [Bool.and_eq_true] at e
    have := hS e.2.1
    have := hG e.2.2
    exact ⟨fun _ => by omega, fun _ => by omega, fun k => by omega, by omega⟩
  · have e : (decide ((C.V.length : Int) < C.r) && chSends C) = true := h
    simp only [Bool.and_eq_true] at e
    have := hS e.2
    exact ⟨fun _ => by omega, fun k => absurd rfl k, fun k => by omega, by omega⟩
  · have e : (decide (0 < (C.V.length : Int)) && chGets C) = true := h
    simp only [Bool.and_eq_true, decide_eq_true_eq] at e
    have := hG e.2
    exact ⟨fun k => absurd rfl k, fun _ => by omega, fun _ => by omega, by omega⟩
theorem DoX.values {w wc : World} {C : CP} {M : SM} (h : DoX w wc C M) (A : Option Addr) (n c : Nat) (L : List Int) : DoX w (wc.setCell ⟨w.heap.size, 5, none⟩ (.slice A n c)) { C with V := L } { M with V := ⟨A, n, c⟩ } :=
  ⟨below_put h.up (Nat.le_refl _) 5 _ (Nat.le_refl _), h.box.pValues A n c L, h.res.other ⟨w.heap.size, 5, none⟩ (by simp) _, h.mres.other ⟨w.heap.size, 5, none⟩ (by simp) _⟩
theorem ChW.puts {w wc wd : World} {pl : Nat → Prop} {C : CP} {M : SM} (h : ChW wc (pl3 w pl) C M) {A : Option Addr} {n c : Nat} {L : List Int} (hl : LnW wc (pl3 w pl) A n c L) (ho : Only (own3 w) wc wd) : ChW wd (pl3 w pl) { C with V := L } { M with V := ⟨A, n, c⟩ } :=
  (show ChW wc (pl3 w pl) { C with V := L } { M with V := ⟨A, n, c⟩ } from ⟨hl, h.w_, h.s, h.g⟩).only ho pl3_no
theorem three_one {x y z : Int} : ∀ v ∈ [Value.int .i64 x, Value.int .i64 y, Value.int .i64 z], v.oneCell' = true := by
  intro v hv
  simp only [List.mem_cons, List.not_mem_nil, or_false] at hv
  rcases hv with rfl | rfl | rfl <;> rfl
theorem few_of {C : CP} (h : C.V.length ≤ 1000 ∧ C.W.length ≤ 1000 ∧ C.S.length ≤ 1000 ∧ C.G.length ≤ 1000) (p : Int) : (chLeave C p).V.length ≤ 1000 ∧ (chLeave C p).W.length ≤ 1000 ∧ (chLeave C p).S.length ≤ 1000 ∧ (chLeave C p).G.length ≤ 1000 := by
  obtain ⟨h1, h2, h3, h4⟩ := chLeave_few C p
  rw [h1]
  omega

set_option maxRecDepth 100000 in
set_option maxHeartbeats 16000000 in
theorem c_chdo {w : World} {pl : Nat → Prop} {C : CP} {M : SM} (h : ChW w pl C M) (hn : ChFew M) (hp : ∀ b, w.heap.size ≤ b → pl b) (m : Int) :
    Calls Try.prog 33 #[.agg (chC C M).toArray, .int .i64 m] w (ChDPost w pl (chDoC C m) (chDoX C m) (chDoY C m) (chDoZ C m) (.int .i64 (chDoE C m))) := by
  have hX := dox w C M
  generalize hw1 : ((w.alloc (.cells (chC C M).toArray 73)).alloc (.cells #[.int .i64 0, .int .i64 0, .int .i64 0, .int .i64 0, .int .i64 0, .slice none 0 0, .bool false, .slice none 0 0, .slice none 0 0, .bool false, .slice none 0 0] 73)).alloc (.cells #[.int .i64 0, .int .i64 0, .int .i64 0] 34) = w1 at hX
  have HW := Lib.hid hw1
  have HX := Lib.hid hX
  have CF := Lib.hid (fun W (hW : Below w.heap.size w W) => c_chfine (h.below hW) hn)
  have CM := Lib.hid (fun W (hW : Below w.heap.size w W) => c_chmay (h.below hW) m)
  have HV := Lib.hid h
  have HN := Lib.hid hn
  have HP := Lib.hid hp
  have hgo : ∀ {e : Int}, chDoE C m = e → e ≠ 0 → chDoC C m = C ∧ chDoX C m = 0 ∧ chDoY C m = 0 ∧ chDoZ C m = 0 := fun {e} he hne => by
    unfold chDoC chDoX chDoY chDoZ
    rw [he, if_neg hne, if_neg hne, if_neg hne, if_neg hne]
    exact ⟨rfl, rfl, rfl, rfl⟩
  cases hf : chFine C
  · have he : chDoE C m = 1 := by unfold chDoE; rw [hf]; rfl
    obtain ⟨e1, e2, e3, e4⟩ := hgo he (by decide)
    rw [e1, e2, e3, e4, he]
    rw [hf] at CF
    clear h hn hp hX hw1 hgo hf he e1 e2 e3 e4
    go_enter Try.func33, Try.ntmps33
    go_upto_region 1 with fail
    rw [HW.out]
    go_wp2_with (refine ld_row HX.out.box rfl (.tmp 2) rfl rfl Try.underlying73 rfl info_ch ?_)
    refine (CF.out _ HX.out.up).mono ?_; rintro e w2 ⟨rfl, hb⟩
    have HA := Lib.hid (HX.out.next hb)
    clear hb
    have HR := Lib.hid (HA.out.mres.rowOther (show w.heap.size + 2 ≠ w.heap.size + 1 by omega) (chC C M).toArray)
    go_wp2_with (first | (refine ld_row HA.out.box rfl (.tmp 2) rfl rfl Try.underlying73 rfl info_ch ?_) | (refine st_row (cs := chC C M) HA.out.res rfl (.tmp 4) (.tmp 12) rfl rfl rfl info_ch rfl chC_one ?_) | (refine st_row (cs := [.int .i64 0, .int .i64 0, .int .i64 0]) HR.out rfl (.tmp 5) (.tmp 13) rfl rfl rfl info_mv rfl three_one ?_))
    refine bodyPost_ret (v := .tuple #[.agg (chC C M).toArray, .agg #[.int .i64 0, .int .i64 0, .int .i64 0], .int .i64 1]) (results_cce (fn := Try.f33) (p := 4) (q := 5) (t := 6) rfl _ _ (w.heap.size + 1) (w.heap.size + 2) rfl rfl ((HA.out.res.row _).rowOther (by omega) _) (HR.out.row _) Try.underlying73 rfl info_ch Try.underlying34 rfl info_mv) rfl ?_
    have hb := below_setRow (below_setRow HA.out.up (show w.heap.size ≤ w.heap.size + 1 by omega) (chC C M).toArray) (show w.heap.size ≤ w.heap.size + 2 by omega) [.int .i64 0, .int .i64 0, .int .i64 0].toArray
    exact ⟨M, rfl, HV.out.below hb, hb⟩
  cases hm : chMay C m
  · have he : chDoE C m = 13 := by unfold chDoE; rw [hf, hm]; rfl
    obtain ⟨e1, e2, e3, e4⟩ := hgo he (by decide)
    rw [e1, e2, e3, e4, he]
    rw [hf] at CF
    rw [hm] at CM
    clear h hn hp hX hw1 hgo hf hm he e1 e2 e3 e4
    go_enter Try.func33, Try.ntmps33
    go_upto_region 1 with fail
    rw [HW.out]
    go_wp2_with (refine ld_row HX.out.box rfl (.tmp 2) rfl rfl Try.underlying73 rfl info_ch ?_)
    refine (CF.out _ HX.out.up).mono ?_; rintro e w2 ⟨rfl, hb⟩
    have HA := Lib.hid (HX.out.next hb)
    clear hb
    go_wp2_with (refine ld_row HA.out.box rfl (.tmp 2) rfl rfl Try.underlying73 rfl info_ch ?_)
    refine (CM.out _ HA.out.up).mono ?_; rintro e w3 ⟨rfl, hb⟩
    have HB := Lib.hid (HA.out.next hb)
    clear hb
    have HR := Lib.hid (HB.out.mres.rowOther (show w.heap.size + 2 ≠ w.heap.size + 1 by omega) (chC C M).toArray)
    go_wp2_with (first | (refine ld_row HB.out.box rfl (.tmp 2) rfl rfl Try.underlying73 rfl info_ch ?_) | (refine st_row (cs := chC C M) HB.out.res rfl (.tmp 4) (.tmp 19) rfl rfl rfl info_ch rfl chC_one ?_) | (refine st_row (cs := [.int .i64 0, .int .i64 0, .int .i64 0]) HR.out rfl (.tmp 5) (.tmp 20) rfl rfl rfl info_mv rfl three_one ?_))
    refine bodyPost_ret (v := .tuple #[.agg (chC C M).toArray, .agg #[.int .i64 0, .int .i64 0, .int .i64 0], .int .i64 13]) (results_cce (fn := Try.f33) (p := 4) (q := 5) (t := 6) rfl _ _ (w.heap.size + 1) (w.heap.size + 2) rfl rfl ((HB.out.res.row _).rowOther (by omega) _) (HR.out.row _) Try.underlying73 rfl info_ch Try.underlying34 rfl info_mv) rfl ?_
    have hb := below_setRow (below_setRow HB.out.up (show w.heap.size ≤ w.heap.size + 1 by omega) (chC C M).toArray) (show w.heap.size ≤ w.heap.size + 2 by omega) [.int .i64 0, .int .i64 0, .int .i64 0].toArray
    exact ⟨M, rfl, HV.out.below hb, hb⟩
  have he : chDoE C m = 0 := by unfold chDoE; rw [hf, hm]; rfl
  have e1 : chDoC C m = chLeave (chLeave (doC C m) (doX C m)) (doY C m) := if_pos he
  have e2 : chDoX C m = doX C m := if_pos he
  have e3 : chDoY C m = doY C m := if_pos he
  have e4 : chDoZ C m = doZ C m := if_pos he
  rw [e1, e2, e3, e4, he]
  rw [hf] at CF
  rw [hm] at CM
  have HL := Lib.hid (chMay_lens hf hm)
  have hmi := chMay_is hm
  obtain ⟨D, hD⟩ : ∃ D, doC C m = D := ⟨_, rfl⟩
  obtain ⟨x, hx⟩ : ∃ x, doX C m = x := ⟨_, rfl⟩
  obtain ⟨y, hy⟩ : ∃ y, doY C m = y := ⟨_, rfl⟩
  obtain ⟨z, hz⟩ : ∃ z, doZ C m = z := ⟨_, rfl⟩
  have HFW : Hid ((doC C m).V.length ≤ 1000 ∧ (doC C m).W.length ≤ 1000 ∧ (doC C m).S.length ≤ 1000 ∧ (doC C m).G.length ≤ 1000) := Lib.hid (by
    have k0 := (chMay_lens hf hm).2.2.2
    have k2 := h.w_.len
    have k3 := h.s.len
    have k4 := h.g.len
    have n2 := hn.w_
    have n3 := hn.s
    have n4 := hn.g
    unfold doC
    split
    · simp; omega
    · split
      · simp; omega
      · omega)
  rw [hD, hx, hy, hz]
  rw [hD] at HFW
  have EQ := Lib.hid (And.intro hD (And.intro hx (And.intro hy hz)))
  clear h hn hp hf hm hX hw1 hgo he e1 e2 e3 e4 hD hx hy hz
  go_enter Try.func33, Try.ntmps33
  go_upto_region 1 with fail
  rw [HW.out]
  go_wp2_with (refine ld_row HX.out.box rfl (.tmp 2) rfl rfl Try.underlying73 rfl info_ch ?_)
  refine (CF.out _ HX.out.up).mono ?_; rintro e w2 ⟨rfl, hb⟩
  have HA := Lib.hid (HX.out.next hb)
  clear hb
  go_wp2_with (refine ld_row HA.out.box rfl (.tmp 2) rfl rfl Try.underlying73 rfl info_ch ?_)
  refine (CM.out _ HA.out.up).mono ?_; rintro e w3 ⟨rfl, hb⟩
  have hsz := hb.size
  have HB := Lib.hid (HA.out.next (up_trans hb (up_alloc w3 (.cells #[.int .i64 (-1), .int .i64 (-1), .int .i64 0] 34))))
  have HM := Lib.hid (Blk.new w3 [.int .i64 (-1), .int .i64 (-1), .int .i64 0] 34)
  clear hb
  go_upto_block 1 with fail
  generalize hw4 : w3.alloc (.cells #[.int .i64 (-1), .int .i64 (-1), .int .i64 0] 34) = w4 at HB HM ⊢
  obtain ⟨mb, hmb⟩ : ∃ mb, mb = w3.heap.size := ⟨_, rfl⟩
  have hmbw : w.heap.size + 2 < mb := by
    have := HA.out.mres.lt
    omega
  rw [← hmb] at HM ⊢
  have HMW := Lib.hid hmbw
  have n4 : w.heap.size ≠ mb := by omega
  have m0 := HM.out.cell 0 _ rfl
  have m1 := HM.out.cell 1 _ rfl
  have m2 := HM.out.cell 2 _ rfl
  have f0 := HM.out.free 0
  have f1 := HM.out.free 1
  have f2 := HM.out.free 2
  clear hmb hw4 hsz
  go_cut [39] (fun s39 wx => ∃ M', DoX w wx D M' ∧ Blk wx mb [.int .i64 x, .int .i64 y, .int .i64 z] 34 ∧ ChW wx (pl3 w pl) D M')
  case first =>
    rcases hmi with rfl | rfl | rfl
    · obtain ⟨b0, o0, hA0, hb0, hc0⟩ := head_cell HV.out.w_ (by have := HV.out.w_.len; have := HL.out; omega : 0 < M.W.n)
      have HC0 := Lib.hid (And.intro hA0 (And.intro hb0 hc0))
      have q0 : w4.cell? ⟨w.heap.size, 7, none⟩ = some (.slice (some ⟨b0, o0, none⟩) M.W.n M.W.c) := by rw [← hA0]; exact HB.out.box.cW
      have e0 : w4.cell? ⟨b0, o0, none⟩ = some (.int .i64 (hd0 C.W)) := (HB.out.up.cell (p := ⟨b0, o0, none⟩) hb0).trans hc0
      have n0' : b0 ≠ mb := by omega
      have i0 : (0 : Int) < M.W.n := by have := HV.out.w_.len; have := HL.out; omega
      clear hA0 hb0 hc0
      obtain ⟨b1, o1, hA1, hb1, hc1⟩ := head_cell HV.out.g (by have := HV.out.g.len; have := HL.out; omega : 0 < M.G.n)
      have HC1 := Lib.hid (And.intro hA1 (And.intro hb1 hc1))
      have q1 : w4.cell? ⟨w.heap.size, 10, none⟩ = some (.slice (some ⟨b1, o1, none⟩) M.G.n M.G.c) := by rw [← hA1]; exact HB.out.box.cG
      have e1 : w4.cell? ⟨b1, o1, none⟩ = some (.int .i64 (hd0 C.G)) := (HB.out.up.cell (p := ⟨b1, o1, none⟩) hb1).trans hc1
      have n1' : b1 ≠ mb := by omega
      have i1 : (0 : Int) < M.G.n := by have := HV.out.g.len; have := HL.out; omega
      clear hA1 hb1 hc1
      obtain ⟨b2, o2, hA2, hb2, hc2⟩ := head_cell HV.out.s (by have := HV.out.s.len; have := HL.out; omega : 0 < M.S.n)
      have HC2 := Lib.hid (And.intro hA2 (And.intro hb2 hc2))
      have q2 : w4.cell? ⟨w.heap.size, 8, none⟩ = some (.slice (some ⟨b2, o2, none⟩) M.S.n M.S.c) := by rw [← hA2]; exact HB.out.box.cS
      have e2 : w4.cell? ⟨b2, o2, none⟩ = some (.int .i64 (hd0 C.S)) := (HB.out.up.cell (p := ⟨b2, o2, none⟩) hb2).trans hc2
      have n2' : b2 ≠ mb := by omega
      have i2 : (0 : Int) < M.S.n := by have := HV.out.s.len; have := HL.out; omega
      clear hA2 hb2 hc2
      have ed : C = D := EQ.out.1
      have ex : hd0 C.W = x := EQ.out.2.1
      have ey : hd0 C.G = y := EQ.out.2.2.1
      have ez : hd0 C.S = z := EQ.out.2.2.2
      subst ed ex ey ez
      clear hmbw
      go_wp2_with fail
      go_region
      all_goals go_wp2_with fail
      all_goals
        go_meet
        have hq := (((HB.out.put HMW.out 0 (.int .i64 (hd0 C.W))).put HMW.out 1 (.int .i64 (hd0 C.G))).put HMW.out 2 (.int .i64 (hd0 C.S))).next (up_drewN _ 1)
        exact ⟨M, hq, ((HM.out.set 0 _).set 1 _).set 2 _, HV.out.old3.below hq.up⟩
    · obtain ⟨b0, o0, hA0, hb0, hc0⟩ := head_cell HV.out.w_ (by have := HV.out.w_.len; have := HL.out; omega : 0 < M.W.n)
      have HC0 := Lib.hid (And.intro hA0 (And.intro hb0 hc0))
      have q0 : w4.cell? ⟨w.heap.size, 7, none⟩ = some (.slice (some ⟨b0, o0, none⟩) M.W.n M.W.c) := by rw [← hA0]; exact HB.out.box.cW
      have e0 : w4.cell? ⟨b0, o0, none⟩ = some (.int .i64 (hd0 C.W)) := (HB.out.up.cell (p := ⟨b0, o0, none⟩) hb0).trans hc0
      have n0' : b0 ≠ mb := by omega
      have i0 : (0 : Int) < M.W.n := by have := HV.out.w_.len; have := HL.out; omega
      clear hA0 hb0 hc0
      obtain ⟨b1, o1, hA1, hb1, hc1⟩ := head_cell HV.out.s (by have := HV.out.s.len; have := HL.out; omega : 0 < M.S.n)
      have HC1 := Lib.hid (And.intro hA1 (And.intro hb1 hc1))
      have q1 : w4.cell? ⟨w.heap.size, 8, none⟩ = some (.slice (some ⟨b1, o1, none⟩) M.S.n M.S.c) := by rw [← hA1]; exact HB.out.box.cS
      have e1 : w4.cell? ⟨b1, o1, none⟩ = some (.int .i64 (hd0 C.S)) := (HB.out.up.cell (p := ⟨b1, o1, none⟩) hb1).trans hc1
      have n1' : b1 ≠ mb := by omega
      have i1 : (0 : Int) < M.S.n := by have := HV.out.s.len; have := HL.out; omega
      clear hA1 hb1 hc1
      have c5 := HB.out.box.cV
      have f5 := HB.out.box.free 5
      have ed : ({ C with V := C.V ++ [hd0 C.S] } : CP) = D := EQ.out.1
      have ex : hd0 C.W = x := EQ.out.2.1
      have ey : -1 = y := EQ.out.2.2.1
      have ez : hd0 C.S = z := EQ.out.2.2.2
      subst ed ex ey ez
      have HQ := Lib.hid (((HB.out.put HMW.out 0 (.int .i64 (hd0 C.W))).put HMW.out 2 (.int .i64 (hd0 C.S))).next (up_drewN _ 1))
      have HQM := Lib.hid (show Blk (((w4.setCell ⟨mb, 0, none⟩ (.int .i64 (hd0 C.W))).setCell ⟨mb, 2, none⟩ (.int .i64 (hd0 C.S))).drewN 1) mb [.int .i64 (hd0 C.W), .int .i64 (-1), .int .i64 (hd0 C.S)] 34 from (HM.out.set 0 _).set 2 _)
      have CB := Lib.hid (c_behind (HV.out.v.below HQ.out.up) HN.out.v (hd0 C.S))
      clear hmbw
      go_wp2_with fail
      go_region
      all_goals go_wp2_with (go_at_call 57; refine CB.out.mono ?_; rintro e w5 ⟨u5, rfl, hown5, hb5⟩; obtain ⟨A5, c5', rfl, hL5⟩ := LnW.of_own hown5; have HG := Lib.hid (HQ.out.next hb5); have HGM := Lib.hid (HQM.out.up hb5 HQM.out.lt); have HL5 := Lib.hid hL5; clear hown5 hL5 hb5 c5 f5; have c5 := HG.out.box.cV; have f5 := HG.out.box.free 5)
      all_goals
        go_meet
        have hl : LnW w5 (pl3 w pl) A5 (M.V.n + 1) c5' (C.V ++ [hd0 C.S]) := HL5.out.lo (pl3_new HP.out (by have := HQ.out.mres.lt; omega))
        exact ⟨{ M with V := ⟨A5, M.V.n + 1, c5'⟩ }, HG.out.values A5 (M.V.n + 1) c5' (C.V ++ [hd0 C.S]), HGM.out.other ⟨w.heap.size, 5, none⟩ (Ne.symm n4) _, (HV.out.old3.below HG.out.up).puts hl ((Only.refl (own3 w) w5).setCell (.inl ⟨Nat.le_refl _, by show w.heap.size < w.heap.size + 3; omega⟩) _)⟩
    · obtain ⟨b0, o0, hA0, hb0, hc0⟩ := head_cell HV.out.g (by have := HV.out.g.len; have := HL.out; omega : 0 < M.G.n)
      have HC0 := Lib.hid (And.intro hA0 (And.intro hb0 hc0))
      have q0 : w4.cell? ⟨w.heap.size, 10, none⟩ = some (.slice (some ⟨b0, o0, none⟩) M.G.n M.G.c) := by rw [← hA0]; exact HB.out.box.cG
      have e0 : w4.cell? ⟨b0, o0, none⟩ = some (.int .i64 (hd0 C.G)) := (HB.out.up.cell (p := ⟨b0, o0, none⟩) hb0).trans hc0
      have n0' : b0 ≠ mb := by omega
      have i0 : (0 : Int) < M.G.n := by have := HV.out.g.len; have := HL.out; omega
      clear hA0 hb0 hc0
      obtain ⟨b1, o1, hA1, hb1, hc1⟩ := head_cell HV.out.v (by have := HV.out.v.len; have := HL.out; omega : 0 < M.V.n)
      have HC1 := Lib.hid (And.intro hA1 (And.intro hb1 hc1))
      have q1 : w4.cell? ⟨w.heap.size, 5, none⟩ = some (.slice (some ⟨b1, o1, none⟩) M.V.n M.V.c) := by rw [← hA1]; exact HB.out.box.cV
      have e1 : w4.cell? ⟨b1, o1, none⟩ = some (.int .i64 (hd0 C.V)) := (HB.out.up.cell (p := ⟨b1, o1, none⟩) hb1).trans hc1
      have n1' : b1 ≠ mb := by omega
      have i1 : (0 : Int) < M.V.n := by have := HV.out.v.len; have := HL.out; omega
      clear hA1 hb1 hc1
      have f5 := HB.out.box.free 5
      have ed : ({ C with V := C.V.tail } : CP) = D := EQ.out.1
      have ex : -1 = x := EQ.out.2.1
      have ey : hd0 C.G = y := EQ.out.2.2.1
      have ez : hd0 C.V = z := EQ.out.2.2.2
      subst ed ex ey ez
      have HQ := Lib.hid (((HB.out.put HMW.out 1 (.int .i64 (hd0 C.G))).put HMW.out 2 (.int .i64 (hd0 C.V))).next (up_drewN _ 1))
      have HQM := Lib.hid (show Blk (((w4.setCell ⟨mb, 1, none⟩ (.int .i64 (hd0 C.G))).setCell ⟨mb, 2, none⟩ (.int .i64 (hd0 C.V))).drewN 1) mb [.int .i64 (-1), .int .i64 (hd0 C.G), .int .i64 (hd0 C.V)] 34 from (HM.out.set 1 _).set 2 _)
      have hv1 : 1 ≤ M.V.n := by omega
      have hvc : 1 ≤ M.V.c := by have := HV.out.v.nc; omega
      clear hmbw
      by_cases hcc : M.V.c = 1
      · have HRT : Hid (RD w pl 1 (some ⟨b1, o1, none⟩) (M.V.n - 1) (C.V.tail.map (Value.int .i64))) := Lib.hid (by
          have h0 := HV.out.v.rd
          rw [HC1.out.1] at h0
          have h1 := RD.rest' h0 1 M.V.c (by have := HV.out.v.len; have := HL.out; omega) HV.out.v.nc
          rw [if_pos hcc] at h1
          simp only [Nat.one_mul, ← List.map_drop, List.drop_one] at h1
          exact h1)
        have CK := Lib.hid (c_sclone (c := 0) (HRT.out.below HQ.out.up) (by have := HV.out.v.len; simp; omega) (by have := HN.out.v; omega))
        go_wp2_with fail
        go_region
        all_goals go_wp2_with (go_at_call 58; refine CK.out.mono ?_; rintro e w5 ⟨u5, rfl, hown5, hb5⟩; obtain ⟨A5, c5', rfl, hL5⟩ := LnW.of_own hown5; have HG := Lib.hid (HQ.out.next hb5); have HGM := Lib.hid (HQM.out.up hb5 HQM.out.lt); have HL5 := Lib.hid hL5; clear hown5 hL5 hb5 q1 f5; have q1 := HG.out.box.cV; have f5 := HG.out.box.free 5)
        all_goals
          go_meet
          have hl : LnW w5 (pl3 w pl) A5 (M.V.n - 1) c5' C.V.tail := HL5.out.lo (pl3_new HP.out (by have := HQ.out.mres.lt; omega))
          exact ⟨{ M with V := ⟨A5, M.V.n - 1, c5'⟩ }, HG.out.values A5 (M.V.n - 1) c5' C.V.tail, HGM.out.other ⟨w.heap.size, 5, none⟩ (Ne.symm n4) _, (HV.out.old3.below HG.out.up).puts hl ((Only.refl (own3 w) w5).setCell (.inl ⟨Nat.le_refl _, by show w.heap.size < w.heap.size + 3; omega⟩) _)⟩
      · have HRT : Hid (RD w pl 1 (some ⟨b1, o1 + 1, none⟩) (M.V.n - 1) (C.V.tail.map (Value.int .i64))) := Lib.hid (by
          have h0 := HV.out.v.rd
          rw [HC1.out.1] at h0
          have h1 := RD.rest' h0 1 M.V.c (by have := HV.out.v.len; have := HL.out; omega) HV.out.v.nc
          rw [if_neg hcc] at h1
          simp only [Nat.one_mul, ← List.map_drop, List.drop_one] at h1
          exact h1)
        have CK := Lib.hid (c_sclone (c := M.V.c - 1) (HRT.out.below HQ.out.up) (by have := HV.out.v.len; simp; omega) (by have := HN.out.v; omega))
        go_wp2_with fail
        go_region
        all_goals go_wp2_with (go_at_call 58; refine CK.out.mono ?_; rintro e w5 ⟨u5, rfl, hown5, hb5⟩; obtain ⟨A5, c5', rfl, hL5⟩ := LnW.of_own hown5; have HG := Lib.hid (HQ.out.next hb5); have HGM := Lib.hid (HQM.out.up hb5 HQM.out.lt); have HL5 := Lib.hid hL5; clear hown5 hL5 hb5 q1 f5; have q1 := HG.out.box.cV; have f5 := HG.out.box.free 5)
        all_goals
          go_meet
          have hl : LnW w5 (pl3 w pl) A5 (M.V.n - 1) c5' C.V.tail := HL5.out.lo (pl3_new HP.out (by have := HQ.out.mres.lt; omega))
          exact ⟨{ M with V := ⟨A5, M.V.n - 1, c5'⟩ }, HG.out.values A5 (M.V.n - 1) c5' C.V.tail, HGM.out.other ⟨w.heap.size, 5, none⟩ (Ne.symm n4) _, (HV.out.old3.below HG.out.up).puts hl ((Only.refl (own3 w) w5).setCell (.inl ⟨Nat.le_refl _, by show w.heap.size < w.heap.size + 3; omega⟩) _)⟩
  case rest =>
    obtain ⟨M', hq, hm, hv⟩ := hcut
    have HD := Lib.hid hq
    have HE := Lib.hid hm
    have HC := Lib.hid hv
    clear hq hm hv m0 m1 m2 f0 f1 f2 n4 hmbw hmi
    clear HV HN HX HA HB HM CF CM HL EQ
    go_wp2_with fail
    refine wp_region_held_drew (S := fun W => DoS w mb D M' x y z W ∧ ChW W (pl3 w pl) D M') (by kernel_rfl) ⟨(HD.out.next (up_drewN _ 1)).held HE.out, HC.out.below (up_drewN _ 1)⟩ (fun hHeld => ?_)
    refine wpAnyH_take (i := 0) (oi := ?_) (v := (.agg (chC D M').toArray)) ?_ (by kernel_rfl) (by kernel_rfl) (by kernel_rfl) ?_ (Or.inl ⟨?_, ?_⟩) hHeld ?_
    rotate_left 1
    · conv => lhs; simp only [List.getElem?_toArray, List.getElem?_cons_succ, List.getElem?_cons_zero]
    · exact fun _ _ _ h => h
    · rfl
    · intro W hSw
      exact take_load rfl rfl (load_row hSw.1.box Try.underlying73 rfl info_ch)
    try simp only [Act.put, List.setIfInBounds_toArray, List.set_cons_zero, List.set_cons_succ]
    refine wpAnyH_take (i := 1) (oi := ?_) (v := ?_) ?_ (by kernel_rfl) (by kernel_rfl) (by kernel_rfl) ?_ (Or.inl ⟨?_, ?_⟩) hHeld ?_
    rotate_left 2
    · conv => lhs; simp only [List.getElem?_toArray, List.getElem?_cons_succ, List.getElem?_cons_zero]
    · exact fun _ _ _ h => h
    · rfl
    · intro W hSw
      have k0 := hSw.1.m.cell 0 _ rfl
      have k1 := hSw.1.m.cell 1 _ rfl
      have k2 := hSw.1.m.cell 2 _ rfl
      go_simp
      try with_reducible rfl
    try simp only [Act.put, List.setIfInBounds_toArray, List.set_cons_zero, List.set_cons_succ]
    refine wpAnyH_take (i := 2) (oi := ?_) (v := ?_) ?_ (by kernel_rfl) (by kernel_rfl) (by kernel_rfl) ?_ (Or.inl ⟨?_, ?_⟩) hHeld ?_
    rotate_left 2
    · conv => lhs; simp only [List.getElem?_toArray, List.getElem?_cons_succ, List.getElem?_cons_zero]
    · exact fun _ _ _ h => h
    · rfl
    · intro W hSw
      have k0 := hSw.1.m.cell 0 _ rfl
      have k1 := hSw.1.m.cell 1 _ rfl
      have k2 := hSw.1.m.cell 2 _ rfl
      go_simp
      try with_reducible rfl
    try simp only [Act.put, List.setIfInBounds_toArray, List.set_cons_zero, List.set_cons_succ]
    refine wpAnyH_take (i := 4) (oi := ?_) (v := ?_) ?_ (by kernel_rfl) (by kernel_rfl) (by kernel_rfl) ?_ (Or.inl ⟨?_, ?_⟩) hHeld ?_
    rotate_left 2
    · conv => lhs; simp only [List.getElem?_toArray, List.getElem?_cons_succ, List.getElem?_cons_zero]
    · exact fun _ _ _ h => h
    · rfl
    · intro W hSw
      have k0 := hSw.1.m.cell 0 _ rfl
      have k1 := hSw.1.m.cell 1 _ rfl
      have k2 := hSw.1.m.cell 2 _ rfl
      go_simp
      try with_reducible rfl
    try simp only [Act.put, List.setIfInBounds_toArray, List.set_cons_zero, List.set_cons_succ]
    refine wpAnyH_take (i := 5) (oi := ?_) (v := ?_) ?_ (by kernel_rfl) (by kernel_rfl) (by kernel_rfl) ?_ (Or.inl ⟨?_, ?_⟩) hHeld ?_
    rotate_left 2
    · conv => lhs; simp only [List.getElem?_toArray, List.getElem?_cons_succ, List.getElem?_cons_zero]
    · exact fun _ _ _ h => h
    · rfl
    · intro W hSw
      have k0 := hSw.1.m.cell 0 _ rfl
      have k1 := hSw.1.m.cell 1 _ rfl
      have k2 := hSw.1.m.cell 2 _ rfl
      go_simp
      try with_reducible rfl
    try simp only [Act.put, List.setIfInBounds_toArray, List.set_cons_zero, List.set_cons_succ]
    refine wpAnyH_take (i := 7) (oi := ?_) (v := (.agg #[.int .i64 x, .int .i64 y, .int .i64 z])) ?_ (by kernel_rfl) (by kernel_rfl) (by kernel_rfl) ?_ (Or.inl ⟨?_, ?_⟩) hHeld ?_
    rotate_left 1
    · conv => lhs; simp only [List.getElem?_toArray, List.getElem?_cons_succ, List.getElem?_cons_zero]
    · exact fun _ _ _ h => h
    · rfl
    · intro W hSw
      exact take_load rfl rfl (load_row hSw.1.m Try.underlying34 rfl info_mv)
    try simp only [Act.put, List.setIfInBounds_toArray, List.set_cons_zero, List.set_cons_succ]
    have HF0 := Lib.hid (ChFew.of hHeld.2 HFW.out)
    refine wpAnyH_ready (rs := [3]) (by kernel_rfl) (by simp) ?_
    refine AllReadyH.cons (o := ?_) ?_ (fun K hK => ?_) AllReadyH.nil
    rotate_left 1
    · conv => lhs; simp only [List.getElem?_toArray, List.getElem?_cons_succ, List.getElem?_cons_zero]
    go_simp
    refine (c_chleave (pl := pl3 w pl) hHeld.2 HF0.out (pl3_new HP.out (by obtain ⟨_, _, _, hm⟩ := hHeld.1.mres; exact hm.lt)) x).mono ?_
    rintro e wA ⟨M1, rfl, hch1, hbA⟩
    have H1 := Lib.hid hch1
    have HF1 := Lib.hid (ChFew.of hch1 (few_of HFW.out x))
    clear hch1
    go_wp2_with fail
    refine hK.out _ _ (⟨hHeld.1.next hbA, hHeld.2.below hbA⟩) (fun hHeld => ?_)
    clear hK K
    try simp only [Act.put, List.setIfInBounds_toArray, List.set_cons_zero, List.set_cons_succ]
    refine wpAnyH_ready (rs := [6]) (by kernel_rfl) (by simp) ?_
    refine AllReadyH.cons (o := ?_) ?_ (fun K hK => ?_) AllReadyH.nil
    rotate_left 1
    · conv => lhs; simp only [List.getElem?_toArray, List.getElem?_cons_succ, List.getElem?_cons_zero]
    go_simp
    refine (c_chleave (pl := pl3 w pl) H1.out HF1.out (pl3_new HP.out (by obtain ⟨_, _, _, hm⟩ := hHeld.1.mres; exact hm.lt)) y).mono ?_
    rintro e wB ⟨M2, rfl, hch2, hbB⟩
    have H2 := Lib.hid hch2
    have HBB := Lib.hid (up_trans hHeld.1.up hbB)
    clear hch2
    go_wp2_with fail
    refine hK.out _ _ (⟨hHeld.1.next hbB, hHeld.2.below hbB⟩) (fun hHeld => ?_)
    clear hK K
    try simp only [Act.put, List.setIfInBounds_toArray, List.set_cons_zero, List.set_cons_succ]
    obtain ⟨ds, hds, hres⟩ := hHeld.1.res
    refine wpAnyH_ready (rs := [8]) (by kernel_rfl) (by simp) ?_
    refine AllReadyH.cons (o := ?_) ?_ (fun K hK => ?_) AllReadyH.nil
    rotate_left 1
    · conv => lhs; simp only [List.getElem?_toArray, List.getElem?_cons_succ, List.getElem?_cons_zero]
    rw [if_pos (by rfl)]
    refine wp_store_row 73 (.tmp 4) (.tmp 85) rfl (w.heap.size + 1) (chC (chLeave (chLeave D x) y) M2).toArray rfl rfl 73 ds.toArray hres info_ch (by rw [List.size_toArray, List.size_toArray, hds]; rfl) (all_one chC_one) ?_
    refine hK.out _ _ (⟨hHeld.1.setRes HMW.out _ rfl, hHeld.2.only ((Only.refl (own3 w) _).row ⟨by omega, by omega⟩ _) pl3_no⟩) (fun hHeld => ?_)
    clear hK K
    obtain ⟨ma, mb', mc, hmres⟩ := hHeld.1.mres
    refine wpAnyH_ready (rs := [9]) (by kernel_rfl) (by simp) ?_
    refine AllReadyH.cons (o := ?_) ?_ (fun K hK => ?_) AllReadyH.nil
    rotate_left 1
    · conv => lhs; simp only [List.getElem?_toArray, List.getElem?_cons_succ, List.getElem?_cons_zero]
    rw [if_pos (by rfl)]
    refine wp_store_row 34 (.tmp 5) (.tmp 86) rfl (w.heap.size + 2) [.int .i64 x, .int .i64 y, .int .i64 z].toArray rfl rfl 34 [ma, mb', mc].toArray hmres info_mv rfl (all_one three_one) ?_
    refine hK.out _ _ (⟨hHeld.1.setM HMW.out _ _ _, hHeld.2.only ((Only.refl (own3 w) _).row ⟨by omega, by omega⟩ _) pl3_no⟩) (fun hHeld => ?_)
    clear hK K
    refine wpAnyH_take (i := 10) (oi := ?_) (v := ?_) ?_ (by kernel_rfl) (by kernel_rfl) (by kernel_rfl) ?_ (Or.inl ⟨?_, ?_⟩) hHeld ?_
    rotate_left 2
    · conv => lhs; simp only [List.getElem?_toArray, List.getElem?_cons_succ, List.getElem?_cons_zero]
    · exact fun _ _ _ h => h
    · rfl
    · intro W hSw
      have k0 := hSw.1.m.cell 0 _ rfl
      have k1 := hSw.1.m.cell 1 _ rfl
      have k2 := hSw.1.m.cell 2 _ rfl
      go_simp
      try with_reducible rfl
    try simp only [Act.put, List.setIfInBounds_toArray, List.set_cons_zero, List.set_cons_succ]
    refine wpAnyH_done (by kernel_rfl) ?_ _
    go_wp2_with fail
    refine bodyPost_ret (v := .tuple #[.agg (chC (chLeave (chLeave D x) y) M2).toArray, .agg #[.int .i64 x, .int .i64 y, .int .i64 z], .int .i64 0]) (results_cce (fn := Try.f33) (p := 4) (q := 5) (t := 6) rfl _ _ (w.heap.size + 1) (w.heap.size + 2) rfl rfl ((hres.row _).rowOther (by omega) _) (hmres.row _) Try.underlying73 rfl info_ch Try.underlying34 rfl info_mv) rfl ?_
    have ho : Only (own3 w) wB ((wB.setRow (w.heap.size + 1) (chC (chLeave (chLeave D x) y) M2).toArray).setRow (w.heap.size + 2) [.int .i64 x, .int .i64 y, .int .i64 z].toArray) := ((Only.refl (own3 w) wB).res3 _).row ⟨by omega, by omega⟩ _
    exact ⟨M2, rfl, (H2.out.only ho pl3_no).lo (fun _ h => h.1), ho.own_below HBB.out⟩
end Go.Proofs.Ytnmjjemkaamcfaa

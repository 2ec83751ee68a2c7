/- Package channel: behind, Send, Recv, Poison. -/
import Derived.Test.YtnmjjemkaamcfaaJf
import Derived.StillTailTactics
namespace Go.Proofs.Ytnmjjemkaamcfaa
open Go.RowKit

set_option maxHeartbeats 1000000 in
theorem c_behind {w : World} {pl : Nat → Prop} {A : Option Addr} {n c : Nat} {L : List Int} (h : LnW w pl A n c L) (hn : n ≤ 1000) (v : Int) :
    Calls Try.prog 57 #[.slice A n c, .int .i64 v] w (OwnPost w (n + 1) (L ++ [v])) := by
  have CK := Lib.hid (c_sclone (c := c) h.rd h.len (by omega))
  clear h
  go_enter Try.func57, Try.ntmps57
  go_wp2_with fail
  refine CK.out.mono ?_; rintro e w3 ⟨u, rfl, hown, hb3⟩
  have HO3 := Lib.hid (own_below hown (up_alloc w3 (.cells #[.int .i64 v] 3)))
  have HB3 := Lib.hid (up_trans hb3 (up_alloc w3 (.cells #[.int .i64 v] 3)))
  clear hown hb3
  go_wp2_with (at_builtin; refine wpList_app ei_int rfl (.tmp 6) (.tmp 8) rfl _ _ rfl HO3.out rfl (RD.one rfl) (by simp [Value.oneCell']) (by omega) (HB3.out.size) ?_; intro v4 w4 hown4 hb4; have HO4 := Lib.hid hown4; have HB4 := Lib.hid hb4; clear hown4 hb4)
  go_ret
  exact ⟨_, rfl, by rw [List.map_append]; exact HO4.out, HB3.out.trans HB4.out⟩
theorem LnW.of_own {w : World} {lo n : Nat} {v : Value} {L : List Int} (h : w.ownsRow lo 3 1 v n (L.map (Value.int .i64))) : ∃ A c, v = .slice A n c ∧ LnW w (lo ≤ ·) A n c L := by
  obtain ⟨A, c, rfl, h1, h2, h3⟩ := own_slice h
  exact ⟨A, c, rfl, h3, by have := h.1; simpa using this, h1, h2⟩

theorem bx2_ch (w : World) (C : CP) (M : SM) : Bx2 w ((w.alloc (.cells (chC C M).toArray 73)).alloc (.cells #[.int .i64 0, .int .i64 0, .int .i64 0, .int .i64 0, .int .i64 0, .slice none 0 0, .bool false, .slice none 0 0, .slice none 0 0, .bool false, .slice none 0 0] 73)) (chC C M) 73 chZ 73 := bx2 w _ _ chZ _
/-- The two blocks that a function lays for itself: its channel's box, and its answer's cell. -/
def two (w : World) : Nat → Prop := fun k => k = w.heap.size ∨ k = w.heap.size + 1
def plN (w : World) (pl : Nat → Prop) : Nat → Prop := fun b => pl b ∧ ¬ two w b
theorem plN_no {w : World} {pl : Nat → Prop} : ∀ k, two w k → ¬ plN w pl k := fun _ h g => g.2 h
theorem plN_new {w W : World} {pl : Nat → Prop} (hp : ∀ b, w.heap.size ≤ b → pl b) (hW : w.heap.size + 2 ≤ W.heap.size) : ∀ b, W.heap.size ≤ b → plN w pl b := fun b hb => ⟨hp b (by omega), by unfold two; omega⟩
theorem LnW.old {w : World} {pl : Nat → Prop} {A : Option Addr} {n c : Nat} {L : List Int} (h : LnW w pl A n c L) : LnW w (plN w pl) A n c L := ⟨h.rd.lt.lo fun b hb => ⟨hb.1, by unfold two; omega⟩, h.len, h.nc, h.cm⟩
theorem ChW.old {w : World} {pl : Nat → Prop} {C : CP} {M : SM} (h : ChW w pl C M) : ChW w (plN w pl) C M := ⟨h.v.old, h.w_.old, h.s.old, h.g.old⟩
theorem Only.box {w a b : World} (h : Only (two w) a b) (j : Nat) (u : Value) : Only (two w) a (b.setCell ⟨w.heap.size, j, none⟩ u) := h.setCell (.inl (.inl rfl)) u
theorem Only.res {w a b : World} (h : Only (two w) a b) (cs : Array Value) : Only (two w) a (b.setRow (w.heap.size + 1) cs) := h.row (.inr rfl) cs
theorem Only.two_below {w a b : World} (h : Only (two w) a b) (hw : Below w.heap.size w a) : Below w.heap.size w b := hw.trans (h.toBelow hw.size (fun k hk => by rcases hk with rfl | rfl <;> omega))
/-- What a call gives that answers a channel and something more. -/
def ChPost (w : World) (pl : Nat → Prop) (C : CP) (k : Value) (e : Ending) (w' : World) : Prop :=
  ∃ M, e = .returned (.tuple #[.agg (chC C M).toArray, k]) ∧ ChW w' pl C M ∧ Below w.heap.size w w'
/-- The channel's cells behind stores. -/
theorem Blk.pOut {w : World} {b : Nat} {C : CP} {M : SM} {t : TypeId} (h : Blk w b (chC C M) t) (A : Option Addr) (n c : Nat) (L : List Int) : Blk ((w.setCell ⟨b, 6, none⟩ (.bool C.os)).setCell ⟨b, 7, none⟩ (.slice A n c)) b (chC { C with W := L } { M with W := ⟨A, n, c⟩ }) t := (h.set 6 _).set 7 _
theorem Blk.pIn {w : World} {b : Nat} {C : CP} {M : SM} {t : TypeId} (h : Blk w b (chC C M) t) (A : Option Addr) (n c : Nat) (L : List Int) : Blk ((w.setCell ⟨b, 9, none⟩ (.bool C.is)).setCell ⟨b, 10, none⟩ (.slice A n c)) b (chC { C with G := L } { M with G := ⟨A, n, c⟩ }) t := (h.set 9 _).set 10 _
theorem Blk.pVals {w : World} {b : Nat} {C : CP} {M : SM} {t : TypeId} (h : Blk w b (chC C M) t) (A : Option Addr) (n c : Nat) (L : List Int) : Blk (w.setCell ⟨b, 8, none⟩ (.slice A n c)) b (chC { C with S := L } { M with S := ⟨A, n, c⟩ }) t := h.set 8 _
theorem Blk.pValues {w : World} {b : Nat} {C : CP} {M : SM} {t : TypeId} (h : Blk w b (chC C M) t) (A : Option Addr) (n c : Nat) (L : List Int) : Blk (w.setCell ⟨b, 5, none⟩ (.slice A n c)) b (chC { C with V := L } { M with V := ⟨A, n, c⟩ }) t := h.set 5 _
theorem Blk.pLevel {w : World} {b : Nat} {C : CP} {M : SM} {t : TypeId} (h : Blk w b (chC C M) t) (x : Int) : Blk (w.setCell ⟨b, 4, none⟩ (.int .i64 x)) b (chC { C with lv := x } M) t := h.set 4 _

set_option maxRecDepth 100000 in
set_option maxHeartbeats 4000000 in
theorem c_chsend {w : World} {pl : Nat → Prop} {C : CP} {M : SM} (h : ChW w pl C M) (hn : ChFew M) (hp : ∀ b, w.heap.size ≤ b → pl b) (p v : Int) :
    Calls Try.prog 82 #[.agg (chC C M).toArray, .int .i64 p, .int .i64 v] w (ChPost w pl (chSend C p v) (.int .i64 (chSendE C p v))) := by
  have hX := bx2_ch w C M
  generalize hw1 : (w.alloc (.cells (chC C M).toArray 73)).alloc (.cells #[.int .i64 0, .int .i64 0, .int .i64 0, .int .i64 0, .int .i64 0, .slice none 0 0, .bool false, .slice none 0 0, .slice none 0 0, .bool false, .slice none 0 0] 73) = w1 at hX
  have HW := Lib.hid hw1
  have HX := Lib.hid hX
  have HV := Lib.hid h
  have HP := Lib.hid hp
  have CF := Lib.hid (fun W (hW : Below w.heap.size w W) => c_chfine (h.below hW) hn)
  have CJ := Lib.hid (fun W (hW : Below w.heap.size w W) (hz : w.heap.size + 2 ≤ W.heap.size) => c_lnjoin (pl := plN w pl) (h.w_.old.below hW) (by have := hn.w_; omega) (plN_new hp hz) C.os p)
  have CB := Lib.hid (fun W (hW : Below w.heap.size w W) => c_behind (h.s.below hW) (by have := hn.s; omega) v)
  have CZ := Lib.hid (fun W => c_wfine v W)
  have HE := Lib.hid (show chSendE C p v = if chFine C = false then 1 else if fineW v = false then 8 else lnJoinE C.os C.W p from rfl)
  have HC := Lib.hid (show chSend C p v = if chSendE C p v = 0 then { C with W := C.W ++ [p], S := C.S ++ [v] } else C from rfl)
  have HJ := Lib.hid (show lnJoinL C.os C.W p = if lnJoinE C.os C.W p = 0 then C.W ++ [p] else C.W from rfl)
  generalize chSendE C p v = er at HE HC ⊢
  generalize chSend C p v = C2 at HC ⊢
  generalize chFine C = q1 at CF HE
  generalize fineW v = q2 at CZ HE
  generalize lnJoinE C.os C.W p = ej at CJ HE HJ
  generalize lnJoinL C.os C.W p = LJ at CJ HJ
  clear h hp hn hX hw1

  cases q1
  · go_enter Try.func82, Try.ntmps82
    go_upto_region 1 with fail
    rw [HW.out]
    go_wp2_with (refine ld_row HX.out.box rfl (.tmp 3) rfl rfl Try.underlying73 rfl info_ch ?_)
    refine (CF.out _ HX.out.up).mono ?_; rintro e w2 ⟨rfl, hb2⟩
    have HA := Lib.hid (HX.out.next hb2)
    clear hb2
    go_wp2_with (first | (refine ld_row HA.out.box rfl (.tmp 3) rfl rfl Try.underlying73 rfl info_ch ?_) | (refine st_row (cs := chC C M) HA.out.res rfl (.tmp 6) (.tmp 14) rfl rfl rfl info_ch rfl chC_one ?_))
    refine bodyPost_ret (v := .tuple #[.agg (chC C M).toArray, .int .i64 1]) (results_ce (fn := Try.f82) (p := 6) (t := 7) rfl _ _ _ rfl (HA.out.res.row _) Try.underlying73 rfl info_ch) rfl ?_
    have e1 : er = 1 := by rw [HE.out]; rfl
    have e2 : C2 = C := by rw [HC.out, e1]; rfl
    rw [e1, e2]
    exact ⟨M, rfl, HV.out.below (below_setRow HA.out.up (by omega) _), below_setRow HA.out.up (by omega) _⟩
  cases q2
  · go_enter Try.func82, Try.ntmps82
    go_upto_region 1 with fail
    rw [HW.out]
    go_wp2_with (refine ld_row HX.out.box rfl (.tmp 3) rfl rfl Try.underlying73 rfl info_ch ?_)
    refine (CF.out _ HX.out.up).mono ?_; rintro e w2 ⟨rfl, hb2⟩
    have HA := Lib.hid (HX.out.next hb2)
    clear hb2
    go_wp2_with fail
    refine (CZ.out _).mono ?_; rintro e w' ⟨rfl, rfl⟩
    go_wp2_with (first | (refine ld_row HA.out.box rfl (.tmp 3) rfl rfl Try.underlying73 rfl info_ch ?_) | (refine st_row (cs := chC C M) HA.out.res rfl (.tmp 6) (.tmp 19) rfl rfl rfl info_ch rfl chC_one ?_))
    refine bodyPost_ret (v := .tuple #[.agg (chC C M).toArray, .int .i64 8]) (results_ce (fn := Try.f82) (p := 6) (t := 7) rfl _ _ _ rfl (HA.out.res.row _) Try.underlying73 rfl info_ch) rfl ?_
    have e1 : er = 8 := by rw [HE.out]; rfl
    have e2 : C2 = C := by rw [HC.out, e1]; rfl
    rw [e1, e2]
    exact ⟨M, rfl, HV.out.below (below_setRow HA.out.up (by omega) _), below_setRow HA.out.up (by omega) _⟩
  have HE' : Hid (er = ej) := Lib.hid (by rw [HE.out]; rfl)
  by_cases h0 : ej = 0
  · subst h0
    have e1 : Hid (er = 0) := HE'
    have e2 : Hid (C2 = { C with W := C.W ++ [p], S := C.S ++ [v] }) := Lib.hid (by rw [HC.out, e1.out]; rfl)
    have e3 : Hid (LJ = C.W ++ [p]) := Lib.hid (by rw [HJ.out]; rfl)
    go_enter Try.func82, Try.ntmps82
    go_upto_region 1 with fail
    rw [HW.out]
    go_wp2_with (refine ld_row HX.out.box rfl (.tmp 3) rfl rfl Try.underlying73 rfl info_ch ?_)
    refine (CF.out _ HX.out.up).mono ?_; rintro e w2 ⟨rfl, hb2⟩
    have HA := Lib.hid (HX.out.next hb2)
    clear hb2
    have c6 := HA.out.box.cos
    have c7 := HA.out.box.cW
    go_wp2_with fail
    refine (CZ.out _).mono ?_; rintro e w' ⟨rfl, rfl⟩
    go_wp2_with fail
    refine (CJ.out _ HA.out.up (by have := HA.out.res.lt; omega)).mono ?_; rintro e w3 ⟨A3, n3, c3, rfl, hL3, hb3⟩
    clear c6 c7
    have HB := Lib.hid (HA.out.next (up_trans hb3 (up_alloc w3 (.cells #[.bool C.os, .slice A3 n3 c3] 71))))
    have HL := Lib.hid hL3
    have hk := Blk.new w3 [.bool C.os, .slice A3 n3 c3] 71
    have HK := Lib.hid hk
    have HL2 := Lib.hid (hL3.below (up_alloc w3 (.cells #[.bool C.os, .slice A3 n3 c3] 71)))
    clear hL3 hb3 hk
    obtain ⟨W3, hW3⟩ : ∃ W3, W3 = w3.alloc (.cells #[.bool C.os, .slice A3 n3 c3] 71) := ⟨_, rfl⟩
    rw [← hW3] at HB HK HL2
    have HW3 := Lib.hid hW3
    clear hW3
    have k0 := HK.out.cell 0 _ rfl
    have k1 := HK.out.cell 1 _ rfl
    have c8 := HB.out.box.cS
    have HD := Lib.hid (show Bx2 w W3.drew (chC C M) 73 chZ 73 from HB.out.next (up_drewN W3 1))
    have HLD := Lib.hid (show LnW W3.drew (plN w pl) A3 n3 c3 LJ from HL2.out.below (up_drewN W3 1))
    have HKD := Lib.hid (show Blk W3.drew w3.heap.size [.bool C.os, .slice A3 n3 c3] 71 from HK.out.up (up_drewN W3 1) HK.out.lt)
    go_wp2_with fail
    rw [← HW3.out]
    go_cut [37] (fun s37 wx => ∃ A5 c5, Blk wx w.heap.size (chC { C with W := C.W ++ [p], S := C.S ++ [v] } { M with W := ⟨A3, n3, c3⟩, S := ⟨A5, M.S.n + 1, c5⟩ }) 73 ∧ Blk wx (w.heap.size + 1) chZ 73 ∧ Below w.heap.size w wx ∧ LnW wx (plN w pl) A3 n3 c3 LJ ∧ LnW wx (plN w pl) A5 (M.S.n + 1) c5 (C.S ++ [v]))
    case first =>
      go_region_with (go_at_call 57; refine (CB.out _ HD.out.up).mono ?_; rintro e w5 ⟨u5, rfl, hown5, hb5⟩; obtain ⟨A5, c5, rfl, hL5⟩ := LnW.of_own hown5; have HG := Lib.hid (HD.out.next hb5); have HL5 := Lib.hid hL5; have HL3 := Lib.hid (HLD.out.below hb5); have hK5 := HKD.out.up hb5 HKD.out.lt; have k05 := hK5.cell 0 _ rfl; have k15 := hK5.cell 1 _ rfl; clear hown5 hL5 hb5 hK5; have c6 := HG.out.box.cos; have c7 := HG.out.box.cW; have c85 := HG.out.box.cS; have f6 := HG.out.box.free 6; have f7 := HG.out.box.free 7; have f8 := HG.out.box.free 8)
      all_goals
        go_wp2_with fail
        go_meet
        refine ⟨A5, c5, (HG.out.box.pOut A3 n3 c3 (C.W ++ [p])).pVals A5 (M.S.n + 1) c5 (C.S ++ [v]), ((HG.out.res.other ⟨w.heap.size, 6, none⟩ (by simp) (.bool C.os)).other ⟨w.heap.size, 7, none⟩ (by simp) (.slice A3 n3 c3)).other ⟨w.heap.size, 8, none⟩ (by simp) (.slice A5 (M.S.n + 1) c5), ?_, ?_, ?_⟩
        · exact ((((Only.refl (two w) w5).box 6 _).box 7 _).box 8 _).two_below HG.out.up
        · exact HL3.out.only ((((Only.refl (two w) w5).box 6 _).box 7 _).box 8 _) plN_no
        · exact (HL5.out.lo (plN_new HP.out (by have := HD.out.res.lt; omega))).only ((((Only.refl (two w) w5).box 6 _).box 7 _).box 8 _) plN_no
    case rest =>
      obtain ⟨A5, c5, hQ, hR, hU, hl3, hl5⟩ := hcut
      have HQ := Lib.hid hQ
      have HR := Lib.hid hR
      have HU := Lib.hid hU
      have HL3 := Lib.hid hl3
      have HL5 := Lib.hid hl5
      clear hQ hR hU hl3 hl5
      go_wp2_with (first | (refine ld_row HQ.out rfl (.tmp 3) rfl rfl Try.underlying73 rfl info_ch ?_) | (refine st_row (cs := chC { C with W := C.W ++ [p], S := C.S ++ [v] } { M with W := ⟨A3, n3, c3⟩, S := ⟨A5, M.S.n + 1, c5⟩ }) HR.out rfl (.tmp 6) (.tmp 38) rfl rfl rfl info_ch rfl chC_one ?_))
      refine bodyPost_ret (v := .tuple #[.agg (chC { C with W := C.W ++ [p], S := C.S ++ [v] } { M with W := ⟨A3, n3, c3⟩, S := ⟨A5, M.S.n + 1, c5⟩ }).toArray, .int .i64 0]) (results_ce (fn := Try.f82) (p := 6) (t := 7) rfl _ _ _ rfl (HR.out.row _) Try.underlying73 rfl info_ch) rfl ?_
      rw [e1.out, e2.out]
      have ho : Only (two w) wc (wc.setRow (w.heap.size + 1) (chC { C with W := C.W ++ [p], S := C.S ++ [v] } { M with W := ⟨A3, n3, c3⟩, S := ⟨A5, M.S.n + 1, c5⟩ }).toArray) := (Only.refl _ _).res _
      have hv := HV.out.old.below HU.out
      have hl3 := HL3.out
      rw [e3.out] at hl3
      exact ⟨{ M with W := ⟨A3, n3, c3⟩, S := ⟨A5, M.S.n + 1, c5⟩ }, rfl, ((show ChW wc (plN w pl) { C with W := C.W ++ [p], S := C.S ++ [v] } { M with W := ⟨A3, n3, c3⟩, S := ⟨A5, M.S.n + 1, c5⟩ } from ⟨hv.v, hl3, HL5.out, hv.g⟩).only ho plN_no).lo (fun _ h => h.1), ho.two_below HU.out⟩
  · have hne : (ej == 0) = false := beq_eq_false_iff_ne.2 h0
    have hne' : (ej != 0) = true := by simp [bne, hne]
    have e2 : Hid (C2 = C) := Lib.hid (by rw [HC.out, HE'.out, if_neg h0])
    clear h0
    go_enter Try.func82, Try.ntmps82
    go_upto_region 1 with fail
    rw [HW.out]
    go_wp2_with (refine ld_row HX.out.box rfl (.tmp 3) rfl rfl Try.underlying73 rfl info_ch ?_)
    refine (CF.out _ HX.out.up).mono ?_; rintro e w2 ⟨rfl, hb2⟩
    have HA := Lib.hid (HX.out.next hb2)
    clear hb2
    have c6 := HA.out.box.cos
    have c7 := HA.out.box.cW
    go_wp2_with fail
    refine (CZ.out _).mono ?_; rintro e w' ⟨rfl, rfl⟩
    go_wp2_with fail
    refine (CJ.out _ HA.out.up (by have := HA.out.res.lt; omega)).mono ?_; rintro e w3 ⟨A3, n3, c3, rfl, hL3, hb3⟩
    clear c6 c7
    have HB := Lib.hid (HA.out.next (up_trans hb3 (up_alloc w3 (.cells #[.bool C.os, .slice A3 n3 c3] 71))))
    have HL := Lib.hid hL3
    clear hL3 hb3
    go_wp2_with (first | (refine ld_row HB.out.box rfl (.tmp 3) rfl rfl Try.underlying73 rfl info_ch ?_) | (refine st_row (cs := chC C M) HB.out.res rfl (.tmp 6) (.tmp 29) rfl rfl rfl info_ch rfl chC_one ?_))
    refine bodyPost_ret (v := .tuple #[.agg (chC C M).toArray, .int .i64 ej]) (results_ce (fn := Try.f82) (p := 6) (t := 7) rfl _ _ _ rfl (HB.out.res.row _) Try.underlying73 rfl info_ch) rfl ?_
    rw [HE'.out, e2.out]
    exact ⟨M, rfl, HV.out.below (below_setRow HB.out.up (by omega) _), below_setRow HB.out.up (by omega) _⟩
set_option maxRecDepth 100000 in
set_option maxHeartbeats 4000000 in
theorem c_chrecv {w : World} {pl : Nat → Prop} {C : CP} {M : SM} (h : ChW w pl C M) (hn : ChFew M) (hp : ∀ b, w.heap.size ≤ b → pl b) (p : Int) :
    Calls Try.prog 81 #[.agg (chC C M).toArray, .int .i64 p] w (ChPost w pl (chRecv C p) (.int .i64 (chRecvE C p))) := by
  have hX := bx2_ch w C M
  generalize hw1 : (w.alloc (.cells (chC C M).toArray 73)).alloc (.cells #[.int .i64 0, .int .i64 0, .int .i64 0, .int .i64 0, .int .i64 0, .slice none 0 0, .bool false, .slice none 0 0, .slice none 0 0, .bool false, .slice none 0 0] 73) = w1 at hX
  have HW := Lib.hid hw1
  have HX := Lib.hid hX
  have HV := Lib.hid h
  have HP := Lib.hid hp
  have CF := Lib.hid (fun W (hW : Below w.heap.size w W) => c_chfine (h.below hW) hn)
  have CJ := Lib.hid (fun W (hW : Below w.heap.size w W) (hz : w.heap.size + 2 ≤ W.heap.size) => c_lnjoin (pl := plN w pl) (h.g.old.below hW) (by have := hn.g; omega) (plN_new hp hz) C.is p)
  have HE := Lib.hid (show chRecvE C p = if chFine C = false then 1 else lnJoinE C.is C.G p from rfl)
  have HC := Lib.hid (show chRecv C p = if chRecvE C p = 0 then { C with G := C.G ++ [p] } else C from rfl)
  have HJ := Lib.hid (show lnJoinL C.is C.G p = if lnJoinE C.is C.G p = 0 then C.G ++ [p] else C.G from rfl)
  generalize chRecvE C p = er at HE HC ⊢
  generalize chRecv C p = C2 at HC ⊢
  generalize chFine C = q1 at CF HE
  generalize lnJoinE C.is C.G p = ej at CJ HE HJ
  generalize lnJoinL C.is C.G p = LJ at CJ HJ
  clear h hp hn hX hw1

  cases q1
  · go_enter Try.func81, Try.ntmps81
    go_upto_region 1 with fail
    rw [HW.out]
    go_wp2_with (refine ld_row HX.out.box rfl (.tmp 2) rfl rfl Try.underlying73 rfl info_ch ?_)
    refine (CF.out _ HX.out.up).mono ?_; rintro e w2 ⟨rfl, hb2⟩
    have HA := Lib.hid (HX.out.next hb2)
    clear hb2
    go_wp2_with (first | (refine ld_row HA.out.box rfl (.tmp 2) rfl rfl Try.underlying73 rfl info_ch ?_) | (refine st_row (cs := chC C M) HA.out.res rfl (.tmp 4) (.tmp 11) rfl rfl rfl info_ch rfl chC_one ?_))
    refine bodyPost_ret (v := .tuple #[.agg (chC C M).toArray, .int .i64 1]) (results_ce (fn := Try.f81) (p := 4) (t := 5) rfl _ _ _ rfl (HA.out.res.row _) Try.underlying73 rfl info_ch) rfl ?_
    have e1 : er = 1 := by rw [HE.out]; rfl
    have e2 : C2 = C := by rw [HC.out, e1]; rfl
    rw [e1, e2]
    exact ⟨M, rfl, HV.out.below (below_setRow HA.out.up (by omega) _), below_setRow HA.out.up (by omega) _⟩
  have HE' : Hid (er = ej) := Lib.hid (by rw [HE.out]; rfl)
  by_cases h0 : ej = 0
  · subst h0
    have e1 : Hid (er = 0) := HE'
    have e2 : Hid (C2 = { C with G := C.G ++ [p] }) := Lib.hid (by rw [HC.out, e1.out]; rfl)
    have e3 : Hid (LJ = C.G ++ [p]) := Lib.hid (by rw [HJ.out]; rfl)
    go_enter Try.func81, Try.ntmps81
    go_upto_region 1 with fail
    rw [HW.out]
    go_wp2_with (refine ld_row HX.out.box rfl (.tmp 2) rfl rfl Try.underlying73 rfl info_ch ?_)
    refine (CF.out _ HX.out.up).mono ?_; rintro e w2 ⟨rfl, hb2⟩
    have HA := Lib.hid (HX.out.next hb2)
    clear hb2
    have c9 := HA.out.box.cis
    have c10 := HA.out.box.cG
    go_wp2_with fail
    refine (CJ.out _ HA.out.up (by have := HA.out.res.lt; omega)).mono ?_; rintro e w3 ⟨A3, n3, c3, rfl, hL3, hb3⟩
    clear c9 c10
    have HB := Lib.hid (HA.out.next (up_trans hb3 (up_alloc w3 (.cells #[.bool C.is, .slice A3 n3 c3] 71))))
    have HL2 := Lib.hid (hL3.below (up_alloc w3 (.cells #[.bool C.is, .slice A3 n3 c3] 71)))
    have f9 := HB.out.box.free 9
    have f10 := HB.out.box.free 10
    have c9 := HB.out.box.cis
    have c10 := HB.out.box.cG
    clear hL3 hb3
    have HQ := Lib.hid (HB.out.box.pIn A3 n3 c3 (C.G ++ [p]))
    have HR := Lib.hid ((HB.out.res.other ⟨w.heap.size, 9, none⟩ (by simp) (.bool C.is)).other ⟨w.heap.size, 10, none⟩ (by simp) (.slice A3 n3 c3))
    go_wp2_with (first | (refine ld_row HQ.out rfl (.tmp 2) rfl rfl Try.underlying73 rfl info_ch ?_) | (refine st_row (cs := chC { C with G := C.G ++ [p] } { M with G := ⟨A3, n3, c3⟩ }) HR.out rfl (.tmp 4) (.tmp 25) rfl rfl rfl info_ch rfl chC_one ?_))
    refine bodyPost_ret (v := .tuple #[.agg (chC { C with G := C.G ++ [p] } { M with G := ⟨A3, n3, c3⟩ }).toArray, .int .i64 0]) (results_ce (fn := Try.f81) (p := 4) (t := 5) rfl _ _ _ rfl (HR.out.row _) Try.underlying73 rfl info_ch) rfl ?_
    rw [e1.out, e2.out]
    have ho : Only (two w) (w3.alloc (.cells #[.bool C.is, .slice A3 n3 c3] 71)) _ := (((Only.refl (two w) _).box 9 (.bool C.is)).box 10 (.slice A3 n3 c3)).res (chC { C with G := C.G ++ [p] } { M with G := ⟨A3, n3, c3⟩ }).toArray
    have hv := HV.out.old.below HB.out.up
    have hl3 := HL2.out
    rw [e3.out] at hl3
    exact ⟨{ M with G := ⟨A3, n3, c3⟩ }, rfl, ((show ChW _ (plN w pl) { C with G := C.G ++ [p] } { M with G := ⟨A3, n3, c3⟩ } from ⟨hv.v, hv.w_, hv.s, hl3⟩).only ho plN_no).lo (fun _ h => h.1), ho.two_below HB.out.up⟩
  · have hne : (ej == 0) = false := beq_eq_false_iff_ne.2 h0
    have hne' : (ej != 0) = true := by simp [bne, hne]
    have e2 : Hid (C2 = C) := Lib.hid (by rw [HC.out, HE'.out, if_neg h0])
    clear h0
    go_enter Try.func81, Try.ntmps81
    go_upto_region 1 with fail
    rw [HW.out]
    go_wp2_with (refine ld_row HX.out.box rfl (.tmp 2) rfl rfl Try.underlying73 rfl info_ch ?_)
    refine (CF.out _ HX.out.up).mono ?_; rintro e w2 ⟨rfl, hb2⟩
    have HA := Lib.hid (HX.out.next hb2)
    clear hb2
    have c9 := HA.out.box.cis
    have c10 := HA.out.box.cG
    go_wp2_with fail
    refine (CJ.out _ HA.out.up (by have := HA.out.res.lt; omega)).mono ?_; rintro e w3 ⟨A3, n3, c3, rfl, hL3, hb3⟩
    clear c9 c10
    have HB := Lib.hid (HA.out.next (up_trans hb3 (up_alloc w3 (.cells #[.bool C.is, .slice A3 n3 c3] 71))))
    clear hL3 hb3
    go_wp2_with (first | (refine ld_row HB.out.box rfl (.tmp 2) rfl rfl Try.underlying73 rfl info_ch ?_) | (refine st_row (cs := chC C M) HB.out.res rfl (.tmp 4) (.tmp 21) rfl rfl rfl info_ch rfl chC_one ?_))
    refine bodyPost_ret (v := .tuple #[.agg (chC C M).toArray, .int .i64 ej]) (results_ce (fn := Try.f81) (p := 4) (t := 5) rfl _ _ _ rfl (HB.out.res.row _) Try.underlying73 rfl info_ch) rfl ?_
    rw [HE'.out, e2.out]
    exact ⟨M, rfl, HV.out.below (below_setRow HB.out.up (by omega) _), below_setRow HB.out.up (by omega) _⟩
set_option maxRecDepth 100000 in
set_option maxHeartbeats 4000000 in
theorem c_chpois {w : World} {pl : Nat → Prop} {C : CP} {M : SM} (h : ChW w pl C M) (hn : ChFew M) (hp : ∀ b, w.heap.size ≤ b → pl b) (b : Int) :
    Calls Try.prog 28 #[.agg (chC C M).toArray, .int .i64 b] w (ChPost w pl (chPois C b) (.int .i64 (chPoisE C b))) := by
  have hX := bx2_ch w C M
  generalize hw1 : (w.alloc (.cells (chC C M).toArray 73)).alloc (.cells #[.int .i64 0, .int .i64 0, .int .i64 0, .int .i64 0, .int .i64 0, .slice none 0 0, .bool false, .slice none 0 0, .slice none 0 0, .bool false, .slice none 0 0] 73) = w1 at hX
  have HW := Lib.hid hw1
  have HX := Lib.hid hX
  have HV := Lib.hid h
  have HP := Lib.hid hp
  have CF := Lib.hid (fun W (hW : Below w.heap.size w W) => c_chfine (h.below hW) hn)
  have CR := Lib.hid (fun W => c_pzraise C.lv b W)
  have HE := Lib.hid (show chPoisE C b = if chFine C = false then 1 else pzErr C.lv b from rfl)
  have HC := Lib.hid (show chPois C b = if chPoisE C b = 0 then { C with lv := pzRaise C.lv b } else C from rfl)
  generalize chPoisE C b = er at HE HC ⊢
  generalize chPois C b = C2 at HC ⊢
  generalize chFine C = q1 at CF HE
  generalize pzErr C.lv b = ej at CR HE
  generalize pzRaise C.lv b = x at CR HC
  clear h hp hn hX hw1

  cases q1
  · go_enter Try.func28, Try.ntmps28
    go_upto_region 1 with fail
    rw [HW.out]
    go_wp2_with (refine ld_row HX.out.box rfl (.tmp 2) rfl rfl Try.underlying73 rfl info_ch ?_)
    refine (CF.out _ HX.out.up).mono ?_; rintro e w2 ⟨rfl, hb2⟩
    have HA := Lib.hid (HX.out.next hb2)
    clear hb2
    go_wp2_with (first | (refine ld_row HA.out.box rfl (.tmp 2) rfl rfl Try.underlying73 rfl info_ch ?_) | (refine st_row (cs := chC C M) HA.out.res rfl (.tmp 4) (.tmp 11) rfl rfl rfl info_ch rfl chC_one ?_))
    refine bodyPost_ret (v := .tuple #[.agg (chC C M).toArray, .int .i64 1]) (results_ce (fn := Try.f28) (p := 4) (t := 5) rfl _ _ _ rfl (HA.out.res.row _) Try.underlying73 rfl info_ch) rfl ?_
    have e1 : er = 1 := by rw [HE.out]; rfl
    have e2 : C2 = C := by rw [HC.out, e1]; rfl
    rw [e1, e2]
    exact ⟨M, rfl, HV.out.below (below_setRow HA.out.up (by omega) _), below_setRow HA.out.up (by omega) _⟩
  have HE' : Hid (er = ej) := Lib.hid (by rw [HE.out]; rfl)
  by_cases h0 : ej = 0
  · subst h0
    have e1 : Hid (er = 0) := HE'
    have e2 : Hid (C2 = { C with lv := x }) := Lib.hid (by rw [HC.out, e1.out]; rfl)
    go_enter Try.func28, Try.ntmps28
    go_upto_region 1 with fail
    rw [HW.out]
    go_wp2_with (refine ld_row HX.out.box rfl (.tmp 2) rfl rfl Try.underlying73 rfl info_ch ?_)
    refine (CF.out _ HX.out.up).mono ?_; rintro e w2 ⟨rfl, hb2⟩
    have HA := Lib.hid (HX.out.next hb2)
    clear hb2
    have c4 := HA.out.box.clv
    go_wp2_with fail
    refine (CR.out _).mono ?_; rintro e w' ⟨rfl, rfl⟩
    have f4 := HA.out.box.free 4
    have HQ := Lib.hid (HA.out.box.pLevel x)
    have HR := Lib.hid (HA.out.res.other ⟨w.heap.size, 4, none⟩ (by simp) (.int .i64 x))
    go_wp2_with (first | (refine ld_row HQ.out rfl (.tmp 2) rfl rfl Try.underlying73 rfl info_ch ?_) | (refine st_row (cs := chC { C with lv := x } M) HR.out rfl (.tmp 4) (.tmp 25) rfl rfl rfl info_ch rfl chC_one ?_))
    refine bodyPost_ret (v := .tuple #[.agg (chC { C with lv := x } M).toArray, .int .i64 0]) (results_ce (fn := Try.f28) (p := 4) (t := 5) rfl _ _ _ rfl (HR.out.row _) Try.underlying73 rfl info_ch) rfl ?_
    rw [e1.out, e2.out]
    have ho : Only (two w) w2 _ := ((Only.refl (two w) _).box 4 (.int .i64 x)).res (chC { C with lv := x } M).toArray
    have hv := HV.out.old.below HA.out.up
    exact ⟨M, rfl, ((show ChW _ (plN w pl) { C with lv := x } M from ⟨hv.v, hv.w_, hv.s, hv.g⟩).only ho plN_no).lo (fun _ h => h.1), ho.two_below HA.out.up⟩
  · have hne : (ej == 0) = false := beq_eq_false_iff_ne.2 h0
    have hne' : (ej != 0) = true := by simp [bne, hne]
    have e2 : Hid (C2 = C) := Lib.hid (by rw [HC.out, HE'.out, if_neg h0])
    clear h0
    go_enter Try.func28, Try.ntmps28
    go_upto_region 1 with fail
    rw [HW.out]
    go_wp2_with (refine ld_row HX.out.box rfl (.tmp 2) rfl rfl Try.underlying73 rfl info_ch ?_)
    refine (CF.out _ HX.out.up).mono ?_; rintro e w2 ⟨rfl, hb2⟩
    have HA := Lib.hid (HX.out.next hb2)
    clear hb2
    have c4 := HA.out.box.clv
    go_wp2_with fail
    refine (CR.out _).mono ?_; rintro e w' ⟨rfl, rfl⟩
    clear c4
    go_wp2_with (first | (refine ld_row HA.out.box rfl (.tmp 2) rfl rfl Try.underlying73 rfl info_ch ?_) | (refine st_row (cs := chC C M) HA.out.res rfl (.tmp 4) (.tmp 21) rfl rfl rfl info_ch rfl chC_one ?_))
    refine bodyPost_ret (v := .tuple #[.agg (chC C M).toArray, .int .i64 ej]) (results_ce (fn := Try.f28) (p := 4) (t := 5) rfl _ _ _ rfl (HA.out.res.row _) Try.underlying73 rfl info_ch) rfl ?_
    rw [HE'.out, e2.out]
    exact ⟨M, rfl, HV.out.below (below_setRow HA.out.up (by omega) _), below_setRow HA.out.up (by omega) _⟩
end Go.Proofs.Ytnmjjemkaamcfaa

/- Package channel: Leave. -/
import Derived.Test.YtnmjjemkaamcfaaJg
import Derived.Test.YtnmjjemkaamcfaaSd
namespace Go.Proofs.Ytnmjjemkaamcfaa
open Go.RowKit

/-- A channel's box that is written to, and a cell for the answer: what they hold in a world behind. -/
structure BxC (w wc : World) (pl : Nat → Prop) (C : CP) (M : SM) (t : TypeId) : Prop where
  up : Below w.heap.size w wc
  box : Blk wc w.heap.size (chC C M) t
  res : Blk wc (w.heap.size + 1) chZ t
  ch : ChW wc (plN w pl) C M
theorem BxC.next {w wc wd : World} {pl : Nat → Prop} {C : CP} {M : SM} {t : TypeId} (h : BxC w wc pl C M t) (hb : Below wc.heap.size wc wd) : BxC w wd pl C M t :=
  ⟨up_trans h.up hb, h.box.up hb h.box.lt, h.res.up hb h.res.lt, h.ch.below hb⟩
theorem BxC.big {w wc : World} {pl : Nat → Prop} {C : CP} {M : SM} {t : TypeId} (h : BxC w wc pl C M t) : w.heap.size + 2 ≤ wc.heap.size := h.res.lt
theorem BxC.out {w wc : World} {pl : Nat → Prop} {C : CP} {M : SM} {t : TypeId} (h : BxC w wc pl C M t) {A : Option Addr} {n c : Nat} {L : List Int} (hl : LnW wc (plN w pl) A n c L) :
    BxC w ((wc.setCell ⟨w.heap.size, 6, none⟩ (.bool C.os)).setCell ⟨w.heap.size, 7, none⟩ (.slice A n c)) pl { C with W := L } { M with W := ⟨A, n, c⟩ } t :=
  ⟨(((Only.refl (two w) wc).box 6 _).box 7 _).two_below h.up, h.box.pOut A n c L, (h.res.other ⟨w.heap.size, 6, none⟩ (by simp) _).other ⟨w.heap.size, 7, none⟩ (by simp) _,
   (show ChW wc (plN w pl) { C with W := L } { M with W := ⟨A, n, c⟩ } from ⟨h.ch.v, hl, h.ch.s, h.ch.g⟩).only (((Only.refl (two w) wc).box 6 _).box 7 _) plN_no⟩
theorem BxC.inn {w wc : World} {pl : Nat → Prop} {C : CP} {M : SM} {t : TypeId} (h : BxC w wc pl C M t) {A : Option Addr} {n c : Nat} {L : List Int} (hl : LnW wc (plN w pl) A n c L) :
    BxC w ((wc.setCell ⟨w.heap.size, 9, none⟩ (.bool C.is)).setCell ⟨w.heap.size, 10, none⟩ (.slice A n c)) pl { C with G := L } { M with G := ⟨A, n, c⟩ } t :=
  ⟨(((Only.refl (two w) wc).box 9 _).box 10 _).two_below h.up, h.box.pIn A n c L, (h.res.other ⟨w.heap.size, 9, none⟩ (by simp) _).other ⟨w.heap.size, 10, none⟩ (by simp) _,
   (show ChW wc (plN w pl) { C with G := L } { M with G := ⟨A, n, c⟩ } from ⟨h.ch.v, h.ch.w_, h.ch.s, hl⟩).only (((Only.refl (two w) wc).box 9 _).box 10 _) plN_no⟩
theorem BxC.vals {w wc : World} {pl : Nat → Prop} {C : CP} {M : SM} {t : TypeId} (h : BxC w wc pl C M t) {A : Option Addr} {n c : Nat} {L : List Int} (hl : LnW wc (plN w pl) A n c L) :
    BxC w (wc.setCell ⟨w.heap.size, 8, none⟩ (.slice A n c)) pl { C with S := L } { M with S := ⟨A, n, c⟩ } t :=
  ⟨((Only.refl (two w) wc).box 8 _).two_below h.up, h.box.pVals A n c L, h.res.other ⟨w.heap.size, 8, none⟩ (by simp) _,
   (show ChW wc (plN w pl) { C with S := L } { M with S := ⟨A, n, c⟩ } from ⟨h.ch.v, h.ch.w_, hl, h.ch.g⟩).only ((Only.refl (two w) wc).box 8 _) plN_no⟩
theorem BxC.values {w wc : World} {pl : Nat → Prop} {C : CP} {M : SM} {t : TypeId} (h : BxC w wc pl C M t) {A : Option Addr} {n c : Nat} {L : List Int} (hl : LnW wc (plN w pl) A n c L) :
    BxC w (wc.setCell ⟨w.heap.size, 5, none⟩ (.slice A n c)) pl { C with V := L } { M with V := ⟨A, n, c⟩ } t :=
  ⟨((Only.refl (two w) wc).box 5 _).two_below h.up, h.box.pValues A n c L, h.res.other ⟨w.heap.size, 5, none⟩ (by simp) _,
   (show ChW wc (plN w pl) { C with V := L } { M with V := ⟨A, n, c⟩ } from ⟨hl, h.ch.w_, h.ch.s, h.ch.g⟩).only ((Only.refl (two w) wc).box 5 _) plN_no⟩
theorem BxC.fin {w wc : World} {pl : Nat → Prop} {C : CP} {M : SM} {t : TypeId} (h : BxC w wc pl C M t) (cs : Array Value) : ChW (wc.setRow (w.heap.size + 1) cs) pl C M ∧ Below w.heap.size w (wc.setRow (w.heap.size + 1) cs) :=
  ⟨(h.ch.only ((Only.refl (two w) wc).res cs) plN_no).lo (fun _ h => h.1), ((Only.refl (two w) wc).res cs).two_below h.up⟩
theorem BxC.of {w w2 : World} {pl : Nat → Prop} {C : CP} {M : SM} {t : TypeId} (h : Bx2 w w2 (chC C M) t chZ t) (hv : ChW w pl C M) : BxC w w2 pl C M t := ⟨h.up, h.box, h.res, hv.old.below h.up⟩
/-- What a call gives that answers a channel alone. -/
def ChLPost (w : World) (pl : Nat → Prop) (C : CP) (e : Ending) (w' : World) : Prop :=
  ∃ M, e = .returned (.agg (chC C M).toArray) ∧ ChW w' pl C M ∧ Below w.heap.size w w'
theorem bxc_ch {w : World} {pl : Nat → Prop} {C : CP} {M : SM} (h : ChW w pl C M) : BxC w ((w.alloc (.cells (chC C M).toArray 73)).alloc (.cells #[.int .i64 0, .int .i64 0, .int .i64 0, .int .i64 0, .int .i64 0, .slice none 0 0, .bool false, .slice none 0 0, .slice none 0 0, .bool false, .slice none 0 0] 73)) pl C M 73 := BxC.of (bx2_ch w C M) h

set_option maxRecDepth 100000 in
set_option maxHeartbeats 8000000 in
theorem c_chleave {w : World} {pl : Nat → Prop} {C : CP} {M : SM} (h : ChW w pl C M) (hn : ChFew M) (hp : ∀ b, w.heap.size ≤ b → pl b) (p : Int) :
    Calls Try.prog 38 #[.agg (chC C M).toArray, .int .i64 p] w (ChLPost w pl (chLeave C p)) := by
  have hX := bxc_ch h
  generalize hw1 : (w.alloc (.cells (chC C M).toArray 73)).alloc (.cells #[.int .i64 0, .int .i64 0, .int .i64 0, .int .i64 0, .int .i64 0, .slice none 0 0, .bool false, .slice none 0 0, .slice none 0 0, .bool false, .slice none 0 0] 73) = w1 at hX
  have HW := Lib.hid hw1
  have HX := Lib.hid hX
  have HP := Lib.hid hp
  have HN := Lib.hid hn
  have CF := Lib.hid (fun W (hW : Below w.heap.size w W) => c_chfine (h.below hW) hn)
  have CA := Lib.hid (fun W (hW : Below w.heap.size w W) => c_lnahead (h.w_.below hW) (by have := hn.w_; omega) C.os p)
  have CK := Lib.hid (fun W (hW : Below w.heap.size w W) => c_sclone (c := M.S.c) (h.s.below hW).rd h.s.len (by have := hn.s; omega))
  have HLS := Lib.hid h.s.len
  have HLW := Lib.hid h.w_.len
  cases hf : chFine C
  · have e1 : Hid (chLeave C p = C) := Lib.hid (by unfold chLeave; rw [if_neg (by rw [hf]; decide)])
    rw [hf] at CF
    rw [e1.out]
    clear h hp hn hX hw1 hf
    go_enter Try.func38, Try.ntmps38
    go_upto_region 1 with fail
    rw [HW.out]
    go_wp2_with (refine ld_row HX.out.box rfl (.tmp 2) rfl rfl Try.underlying73 rfl info_ch ?_)
    refine (CF.out _ HX.out.up).mono ?_; rintro e w2 ⟨rfl, hb2⟩
    have HA := Lib.hid (HX.out.next hb2)
    clear hb2
    go_wp2_with (first | (refine ld_row HA.out.box rfl (.tmp 2) rfl rfl Try.underlying73 rfl info_ch ?_) | (refine st_row (cs := chC C M) HA.out.res rfl (.tmp 4) (.tmp 10) rfl rfl rfl info_ch rfl chC_one ?_))
    refine bodyPost_ret (v := .agg (chC C M).toArray) (results_c (fn := Try.f38) (p := 4) rfl _ _ _ rfl (HA.out.res.row _) Try.underlying73 rfl info_ch) rfl ?_
    have hfin := HA.out.fin (chC C M).toArray
    exact ⟨M, rfl, hfin.1, hfin.2⟩
  have HO := Lib.hid (chOk hf)
  have HT := Lib.hid (show lnThere C.os C.W p = decide (p ∈ C.W) by unfold lnThere; rw [(chOk hf).lw]; rfl)
  have HH := Lib.hid (show lnAhead C.os C.W p = if lnThere C.os C.W p = true then (ixN C.W p : Int) else 0 from rfl)
  have HE : Hid (chLeave C p = { C with S := if p ∈ C.W then cutL C.S (ixN C.W p) else C.S, W := lnLeaveL C.os C.W p, G := lnLeaveL C.is C.G p }) := Lib.hid (by unfold chLeave; rw [if_pos hf])
  have CL := Lib.hid (fun W (hW : Below w.heap.size w W) (hz : w.heap.size + 2 ≤ W.heap.size) => c_lnleave (pl := plN w pl) (h.w_.old.below hW) (by have := hn.w_; omega) (plN_new hp hz) C.os p)
  have CM := Lib.hid (fun W (hW : Below w.heap.size w W) (hz : w.heap.size + 2 ≤ W.heap.size) => c_lnleave (pl := plN w pl) (h.g.old.below hW) (by have := hn.g; omega) (plN_new hp hz) C.is p)
  rw [HE.out]
  rw [hf] at CF
  have HLW0 : Hid (p ∉ C.W → lnLeaveL C.os C.W p = C.W) := Lib.hid fun hm => by unfold lnLeaveL; rw [HT.out, decide_eq_false hm]; rfl
  generalize lnLeaveL C.os C.W p = LW at CL HLW0 ⊢
  generalize lnLeaveL C.is C.G p = LG at CM ⊢
  generalize lnThere C.is C.G p = tg at CM
  clear h hp hn hX hw1 hf HE
  by_cases hm : p ∈ C.W
  case neg =>
    rw [HT.out, decide_eq_false hm] at HH CL
    rw [HT.out, decide_eq_false hm] at CA
    have HH' : Hid (lnAhead C.os C.W p = 0) := Lib.hid (by rw [HH.out]; rfl)
    rw [HH'.out] at CA
    rw [if_neg hm]
    rw [HLW0.out hm]
    clear hm HH HT HLW0 CL
    go_enter Try.func38, Try.ntmps38
    go_upto_region 1 with fail
    rw [HW.out]
    go_wp2_with (refine ld_row HX.out.box rfl (.tmp 2) rfl rfl Try.underlying73 rfl info_ch ?_)
    refine (CF.out _ HX.out.up).mono ?_; rintro e w2 ⟨rfl, hb2⟩
    have HA := Lib.hid (HX.out.next hb2)
    clear hb2
    have c6 := HA.out.box.cos
    have c7 := HA.out.box.cW
    go_wp2_with fail
    refine (CA.out _ HA.out.up).mono ?_; rintro e w3 ⟨rfl, hb3⟩
    clear c6 c7
    have HB := Lib.hid (HA.out.next hb3)
    clear hb3
    have c9 := HB.out.box.cis
    have c10 := HB.out.box.cG
    go_wp2_with fail
    refine (CM.out _ HB.out.up HB.out.big).mono ?_; rintro e w8 ⟨A8, n8, c8, rfl, hL8, hb8⟩
    clear c9 c10
    have HI := Lib.hid (HB.out.next hb8)
    have HI2 : Hid (BxC w ((w8.setCell ⟨w.heap.size, 9, none⟩ (.bool C.is)).setCell ⟨w.heap.size, 10, none⟩ (.slice A8 n8 c8)) pl (⟨C.k, C.r, C.i, C.o, C.lv, C.V, C.os, C.W, C.S, C.is, LG⟩ : CP) (⟨M.V, M.W, M.S, ⟨A8, n8, c8⟩⟩ : SM) 73) := Lib.hid (HI.out.inn hL8)
    have c9 := HI.out.box.cis
    have c10 := HI.out.box.cG
    have f9 := HI.out.box.free 9
    have f10 := HI.out.box.free 10
    clear hb8 hL8
    go_wp2_with (first | (refine ld_row HI2.out.box rfl (.tmp 2) rfl rfl Try.underlying73 rfl info_ch ?_) | (refine st_row (cs := chC (⟨C.k, C.r, C.i, C.o, C.lv, C.V, C.os, C.W, C.S, C.is, LG⟩ : CP) (⟨M.V, M.W, M.S, ⟨A8, n8, c8⟩⟩ : SM)) HI2.out.res rfl (.tmp 4) (.tmp 43) rfl rfl rfl info_ch rfl chC_one ?_))
    refine bodyPost_ret (v := .agg (chC (⟨C.k, C.r, C.i, C.o, C.lv, C.V, C.os, C.W, C.S, C.is, LG⟩ : CP) (⟨M.V, M.W, M.S, ⟨A8, n8, c8⟩⟩ : SM)).toArray) (results_c (fn := Try.f38) (p := 4) rfl _ _ _ rfl (HI2.out.res.row _) Try.underlying73 rfl info_ch) rfl ?_
    have hfin := HI2.out.fin (chC (⟨C.k, C.r, C.i, C.o, C.lv, C.V, C.os, C.W, C.S, C.is, LG⟩ : CP) (⟨M.V, M.W, M.S, ⟨A8, n8, c8⟩⟩ : SM)).toArray
    exact ⟨(⟨M.V, M.W, M.S, ⟨A8, n8, c8⟩⟩ : SM), rfl, hfin.1, hfin.2⟩
  case pos =>
    rw [HT.out, decide_eq_true hm] at HH CL
    rw [HT.out, decide_eq_true hm] at CA
    have HH' : Hid (lnAhead C.os C.W p = (ixN C.W p : Int)) := Lib.hid (by rw [HH.out]; rfl)
    rw [HH'.out] at CA
    rw [if_pos hm]
    have hi : ixN C.W p < M.S.n := by
      have h1 := ixN_mem.2 hm
      have h2 := HO.out.len
      have h3 := HLS.out
      omega
    generalize ixN C.W p = i at CA hi ⊢
    have hi' : (i : Int) ≤ M.S.n := by omega
    have hi3 : (i : Int) ≤ 1000 := by have := HN.out.s; omega
    clear hm HH HT HH'
    go_enter Try.func38, Try.ntmps38
    go_upto_region 1 with fail
    rw [HW.out]
    go_wp2_with (refine ld_row HX.out.box rfl (.tmp 2) rfl rfl Try.underlying73 rfl info_ch ?_)
    refine (CF.out _ HX.out.up).mono ?_; rintro e w2 ⟨rfl, hb2⟩
    have HA := Lib.hid (HX.out.next hb2)
    clear hb2
    have c6 := HA.out.box.cos
    have c7 := HA.out.box.cW
    go_wp2_with fail
    refine (CA.out _ HA.out.up).mono ?_; rintro e w3 ⟨rfl, hb3⟩
    clear c6 c7
    have HB := Lib.hid (HA.out.next hb3)
    clear hb3
    have c8 := HB.out.box.cS
    go_wp2_with fail
    refine (CK.out _ HB.out.up).mono ?_; rintro e w4 ⟨v, rfl, hown, hb4⟩
    clear c8
    obtain ⟨m, hm⟩ : ∃ m, M.S.n = m + 1 := ⟨M.S.n - 1, by omega⟩
    obtain ⟨g, c3, rfl, hnc3, hcm3, hlo3, hg3⟩ := own_form hown (by omega)
    have CD := Lib.hid (c_sdel hown i hi hnc3 m hm)
    have HD := Lib.hid (HB.out.next hb4)
    have H4 := Lib.hid hb4
    have HM1 := Lib.hid hm
    clear hown hb4 hm
    go_wp2_with fail
    refine CD.out.mono ?_; rintro e w5 ⟨rfl, hown5, ho5⟩
    have HE := Lib.hid (HB.out.next (H4.out.trans (ho5.toBelow H4.out.size (fun k hk => by rw [hk]; exact hlo3))))
    obtain ⟨A5, c5, e5, hnc5, hcm5, hrd5⟩ := own_slice hown5
    injection e5 with e5 _ e6
    subst e5
    subst e6
    have HL5 : Hid (LnW w5 (plN w pl) (some ⟨g, 0, none⟩) m c3 (cutL C.S i)) := Lib.hid ⟨hrd5.lo (plN_new HP.out HB.out.big), by have := HLS.out; have := HM1.out; unfold cutL; simp; omega, hnc5, hcm5⟩
    have HF : Hid (BxC w (w5.setCell ⟨w.heap.size, 8, none⟩ (.slice (some ⟨g, 0, none⟩) m c3)) pl (⟨C.k, C.r, C.i, C.o, C.lv, C.V, C.os, C.W, cutL C.S i, C.is, C.G⟩ : CP) (⟨M.V, M.W, ⟨some ⟨g, 0, none⟩, m, c3⟩, M.G⟩ : SM) 73) := Lib.hid (HE.out.vals HL5.out)
    clear hnc5 hcm5 hrd5 hown5 ho5
    have c8 := HE.out.box.cS
    have f8 := HE.out.box.free 8
    have c6 := HE.out.box.cos
    have c7 := HE.out.box.cW
    go_wp2_with fail
    refine (CL.out _ HF.out.up HF.out.big).mono ?_; rintro e w6 ⟨A6, n6, c6', rfl, hL6, hb6⟩
    clear c6 c7 c8 f8
    have HG := Lib.hid (HF.out.next hb6)
    have HG2 : Hid (BxC w ((w6.setCell ⟨w.heap.size, 6, none⟩ (.bool C.os)).setCell ⟨w.heap.size, 7, none⟩ (.slice A6 n6 c6')) pl (⟨C.k, C.r, C.i, C.o, C.lv, C.V, C.os, LW, cutL C.S i, C.is, C.G⟩ : CP) (⟨M.V, ⟨A6, n6, c6'⟩, ⟨some ⟨g, 0, none⟩, m, c3⟩, M.G⟩ : SM) 73) := Lib.hid (HG.out.out hL6)
    have c6 := HG.out.box.cos
    have c7 := HG.out.box.cW
    have f6 := HG.out.box.free 6
    have f7 := HG.out.box.free 7
    clear hb6 hL6
    have c9 := HG2.out.box.cis
    have c10 := HG2.out.box.cG
    go_wp2_with fail
    refine (CM.out _ HG2.out.up HG2.out.big).mono ?_; rintro e w8 ⟨A8, n8, c8, rfl, hL8, hb8⟩
    clear c9 c10
    have HI := Lib.hid (HG2.out.next hb8)
    have HI2 : Hid (BxC w ((w8.setCell ⟨w.heap.size, 9, none⟩ (.bool C.is)).setCell ⟨w.heap.size, 10, none⟩ (.slice A8 n8 c8)) pl (⟨C.k, C.r, C.i, C.o, C.lv, C.V, C.os, LW, cutL C.S i, C.is, LG⟩ : CP) (⟨M.V, ⟨A6, n6, c6'⟩, ⟨some ⟨g, 0, none⟩, m, c3⟩, ⟨A8, n8, c8⟩⟩ : SM) 73) := Lib.hid (HI.out.inn hL8)
    have c9 := HI.out.box.cis
    have c10 := HI.out.box.cG
    have f9 := HI.out.box.free 9
    have f10 := HI.out.box.free 10
    clear hb8 hL8
    go_wp2_with (first | (refine ld_row HI2.out.box rfl (.tmp 2) rfl rfl Try.underlying73 rfl info_ch ?_) | (refine st_row (cs := chC (⟨C.k, C.r, C.i, C.o, C.lv, C.V, C.os, LW, cutL C.S i, C.is, LG⟩ : CP) (⟨M.V, ⟨A6, n6, c6'⟩, ⟨some ⟨g, 0, none⟩, m, c3⟩, ⟨A8, n8, c8⟩⟩ : SM)) HI2.out.res rfl (.tmp 4) (.tmp 43) rfl rfl rfl info_ch rfl chC_one ?_))
    refine bodyPost_ret (v := .agg (chC (⟨C.k, C.r, C.i, C.o, C.lv, C.V, C.os, LW, cutL C.S i, C.is, LG⟩ : CP) (⟨M.V, ⟨A6, n6, c6'⟩, ⟨some ⟨g, 0, none⟩, m, c3⟩, ⟨A8, n8, c8⟩⟩ : SM)).toArray) (results_c (fn := Try.f38) (p := 4) rfl _ _ _ rfl (HI2.out.res.row _) Try.underlying73 rfl info_ch) rfl ?_
    have hfin := HI2.out.fin (chC (⟨C.k, C.r, C.i, C.o, C.lv, C.V, C.os, LW, cutL C.S i, C.is, LG⟩ : CP) (⟨M.V, ⟨A6, n6, c6'⟩, ⟨some ⟨g, 0, none⟩, m, c3⟩, ⟨A8, n8, c8⟩⟩ : SM)).toArray
    exact ⟨(⟨M.V, ⟨A6, n6, c6'⟩, ⟨some ⟨g, 0, none⟩, m, c3⟩, ⟨A8, n8, c8⟩⟩ : SM), rfl, hfin.1, hfin.2⟩
end Go.Proofs.Ytnmjjemkaamcfaa

/- Package ready: the closures over asked; Guards, Which. -/
import Derived.Test.YtdiiilnebepfdaaGreatDoorRej
import Derived.Test.YtdiiilnebepfdaaGreatDoorRei
namespace Go.Proofs.YtdiiilnebepfdaaGreatDoor
open Go.RowKit

theorem ws_few {V : VQ} (hf : FewV V) (who : Int) : (rdWs V.p who).length ≤ 8 ∧ ∀ g ∈ rdWs V.p who, 0 ≤ g.n ∧ g.n ≤ 5 := by
  cases ha : V.Wq.any fun q => q.h == who
  · rw [ws_none ha]
    exact ⟨by simp, fun g hg => absurd hg (by simp)⟩
  · obtain ⟨k, q, _, _, _, hg, hm, _⟩ := ws_at ha
    rw [hg]
    have := hf.f.ws q hm
    exact ⟨this.1, this.2.2⟩
theorem ask_i {V : VQ} {who : Int} {g : GD} {w w' : World} {e : Ending} (he : e = .returned (.tuple #[.int .i64 g.n, .bool (rdOf V.p who g).isSome])) (hb : Below w.heap.size w w') : AskI (fun g => (rdOf V.p who g).map fun _ => g.n) g w e w' :=
  ⟨g.n, by rw [he, Option.isSome_map], fun z hz => by
    obtain ⟨_, _, h⟩ := Option.map_eq_some_iff.1 hz
    exact h, hb⟩
theorem ask_e {o : Option EV} {f : GD → Option EV} {g : GD} (hf : f g = o) {w w' : World} {e : Ending} (he : e = .returned (.tuple #[evV o, .bool o.isSome])) (hb : Below w.heap.size w w') : AskP f g w e w' := by
  refine ⟨o.getD evZ, by rw [he, hf]; rfl, fun z hz => ?_, hb⟩
  rw [hf] at hz
  rw [hz]
  rfl
set_option maxRecDepth 100000 in
set_option maxHeartbeats 2000000 in
theorem c_guards1 {V : VQ} {w : World} (h : VW w V) (hf : FewV V) (hT : TabD w) (who : Int) (g : GD) (hn : 0 ≤ g.n ∧ g.n ≤ 5) (b0 b1 : Nat) (h0 : Blk w b0 (vC V) 40) (h1 : Blk w b1 [.int .i64 who] 3) :
    Calls Tryz.prog 30 #[.agg (gdC g).toArray, .pointer (some ⟨b0, 0, none⟩), .pointer (some ⟨b1, 0, none⟩)] w (AskI (fun g => (rdOf V.p who g).map fun _ => g.n) g w) := by
  have hb1 := up_alloc w (.cells (gdC g).toArray 63)
  have hG := Blk.new w (gdC g) 63
  have k0 := h0.up hb1 h0.lt
  have k1 := (h1.up hb1 h1.lt).cell 0 _ rfl
  have CA := Lib.hid (c_asked (h.below hb1) hf (hT.up hb1) who g hn)
  generalize hw1 : w.alloc (.cells (gdC g).toArray 63) = w1 at hb1 hG k0 k1 CA
  have HW := Lib.hid hw1
  have HB := Lib.hid hb1
  have HG := Lib.hid hG
  have HK := Lib.hid k0
  have HP := Lib.hid (fun (w' : World) (e : Ending) => ask_i (V := V) (who := who) (g := g) (w := w) (w' := w') (e := e))
  generalize rdOf V.p who g = o at CA HP
  clear h hf hT hn h0 h1 hw1 hb1 hG k0
  go_enter Tryz.func30, Tryz.ntmps30
  go_upto_region 1 with fail
  rw [HW.out]
  go_wp2_with (first | (refine ldr (b := b0) (t := 40) (cs := vC V) (.tmp 1) rfl rfl Tryz.underlying40 rfl info_vw rfl ?_ ?_; (· exact HK.out)) | (refine ldr (b := w.heap.size) (t := 63) (cs := gdC g) (.tmp 3) rfl rfl Tryz.underlying63 rfl info_gd5 rfl ?_ ?_; (· exact HG.out)))
  refine CA.out.mono ?_; rintro e w2 ⟨rfl, hb⟩
  have hbb := up_trans hb (up_alloc w2 (.cells (evC (o.getD evZ)).toArray 32))
  have n4 : (w2.alloc (.cells (evC (o.getD evZ)).toArray 32)).cell? ⟨w.heap.size, 4, none⟩ = some (.int .i64 g.n) := (HG.out.up hbb HG.out.lt).cell 4 _ rfl
  have HU := Lib.hid (up_trans HB.out hbb)
  clear hb hbb k1
  go_wp2_with (refine snr (W := w2) (cs := evC (o.getD evZ)) (zs := evZC) (t := 32) (.tmp 6) (.tmp 13) rfl rfl rfl rfl info_ev4 rfl (evC_one _) ?_ ?_ ?_; (· rfl); (· rfl))
  go_ret2
  exact HP.out _ _ rfl HU.out

set_option maxRecDepth 100000 in
set_option maxHeartbeats 2000000 in
theorem c_events1 {V : VQ} {w : World} (h : VW w V) (hf : FewV V) (hT : TabD w) (q : WQ) (g : GD) (hn : 0 ≤ g.n ∧ g.n ≤ 5) (b0 b1 : Nat) (h0 : Blk w b0 (vC V) 40) (h1 : Blk w b1 (wqC q) 61) :
    Calls Tryz.prog 39 #[.agg (gdC g).toArray, .pointer (some ⟨b0, 0, none⟩), .pointer (some ⟨b1, 0, none⟩)] w (AskP (rdOf V.p q.h) g w) := by
  have hX := bl1 w (gdC g) 63 evZC 32
  have k0 := h0.up hX.up h0.lt
  have k1 : _ = some (Value.int .i64 q.h) := (h1.up hX.up h1.lt).cell 0 _ rfl
  have CA := Lib.hid (c_asked (h.below hX.up) hf (hT.up hX.up) q.h g hn)
  generalize hw1 : (w.alloc (.cells (gdC g).toArray 63)).alloc (.cells evZC.toArray 32) = w1 at hX k0 k1 CA
  have HW := Lib.hid (show (w.alloc (.cells (gdC g).toArray 63)).alloc (.cells #[.int .i64 0, .int .i64 0, .int .i64 0, .int .i64 0] 32) = w1 from hw1)
  have HX := Lib.hid hX
  have HK := Lib.hid k0
  have HP := Lib.hid (fun (o : Option EV) (ho : rdOf V.p q.h g = o) (w' : World) (e : Ending) => ask_e (f := rdOf V.p q.h) (g := g) ho (w := w) (w' := w') (e := e))
  obtain ⟨o, ho⟩ : ∃ o, rdOf V.p q.h g = o := ⟨_, rfl⟩
  rw [ho] at CA
  have HPP := Lib.hid (HP.out o ho)
  clear h hf hT hn h0 h1 hw1 hX k0 ho HP
  go_enter Tryz.func39, Tryz.ntmps39
  go_upto_region 1 with fail
  rw [HW.out]
  go_wp2_with (first | (refine ldr (b := b0) (t := 40) (cs := vC V) (.tmp 1) rfl rfl Tryz.underlying40 rfl info_vw rfl ?_ ?_; (· exact HK.out)) | (refine ldr (b := w.heap.size) (t := 63) (cs := gdC g) (.tmp 3) rfl rfl Tryz.underlying63 rfl info_gd5 rfl ?_ ?_; (· exact HX.out.ka 0 rfl)))
  refine CA.out.mono ?_; rintro e w2 ⟨rfl, hb⟩
  have HE := Lib.hid (HX.out.next hb)
  clear hb k1
  obtain ⟨ds, hds, hres⟩ := HE.out.res
  have HR := Lib.hid hres
  have HD := Lib.hid (show ds.length = 4 from hds)
  clear hds hres
  go_wp2_with (refine str (b := w.heap.size + 1) (t := 32) (cs := evC (o.getD evZ)) (ds := ds) (.tmp 4) (.tmp 11) rfl rfl rfl rfl info_ev4 HD.out (evC_one _) ?_ ?_; (· exact HR.out))
  refine bodyPost_ret (v := .tuple #[.agg (evC (o.getD evZ)).toArray, .bool o.isSome]) (results_ce (fn := Tryz.f39) (p := 4) (t := 5) rfl _ _ _ rfl (HR.out.row _) Tryz.underlying32 rfl info_ev4) rfl ?_
  exact HPP.out _ _ rfl (below_setRow HE.out.up HE.out.lo _)

set_option maxRecDepth 100000 in
set_option maxHeartbeats 2000000 in
theorem c_guards {V : VQ} {w : World} (h : VW w V) (hf : FewV V) (hT : TabD w) (who : Int) :
    Calls Tryz.prog 12 #[.agg (vC V).toArray, .int .i64 who] w (IntsPost w (rdGds V.p who)) := by
  have h2 := bx2 w (vC V) 40 [.int .i64 who] 3
  generalize hw1 : (w.alloc (.cells (vC V).toArray 40)).alloc (.cells [Value.int .i64 who].toArray 3) = w1 at h2
  have HW := Lib.hid (show (w.alloc (.cells (vC V).toArray 40)).alloc (.cells #[.int .i64 who] 3) = w1 from hw1)
  have HX := Lib.hid h2
  have c1 := h2.res.cell 0 _ rfl
  have CW := Lib.hid (c_wtd (h.below h2.up) hf.f who)
  have hfw := ws_few hf who
  have CE := Lib.hid (fun (W : World) A c (hW : Below w1.heap.size w1 W) (hR : ∀ W, VR W V → RD W tt 5 A (rdWs V.p who).length ((rdWs V.p who).flatMap gdC)) =>
    c_eachGI (f := fun g => (rdOf V.p who g).map fun _ => g.n) (c := c) (hR W (h.below (up_trans h2.up hW)).r) rfl (by omega) (c1 := .pointer (some ⟨w.heap.size, 0, none⟩)) (c2 := .pointer (some ⟨w.heap.size + 1, 0, none⟩))
      (fun x hx W' hW' => c_guards1 (h.below (up_trans h2.up (up_trans hW hW'))) hf (hT.up (up_trans h2.up (up_trans hW hW'))) who x (hfw.2 x hx) w.heap.size (w.heap.size + 1) (h2.box.up (up_trans hW hW') h2.box.lt) (h2.res.up (up_trans hW hW') h2.res.lt)))
  unfold rdGds
  generalize rdWs V.p who = gs at CW CE
  generalize hz : gs.filterMap (fun g => (rdOf V.p who g).map fun _ => g.n) = R at CE ⊢
  clear h hf hT hw1 h2 hfw hz
  go_enter Tryz.func12, Tryz.ntmps12
  go_upto_region 1 with fail
  rw [HW.out]
  go_wp2_with (refine ldr (b := w.heap.size) (t := 40) (cs := vC V) (.tmp 2) rfl rfl Tryz.underlying40 rfl info_vw rfl ?_ ?_; (· exact HX.out.box))
  refine CW.out.mono ?_; rintro e w2 ⟨A2, d2, rfl, hr, hb⟩
  have CE2 := Lib.hid (CE.out w2 A2 d2 hb hr)
  have HB := Lib.hid (up_trans HX.out.up hb)
  clear hr hb c1 CE
  go_wp2_with fail
  refine CE2.out.mono ?_; rintro e w3 ⟨A3, d3, rfl, h1, h2, hr, hb⟩
  have HR := Lib.hid (hr.lo (pl' := (w.heap.size ≤ ·)) fun b hb' => Nat.le_trans HB.out.size hb')
  have HB3 := Lib.hid (up_trans HB.out hb)
  have H1 := Lib.hid h1
  have H2 := Lib.hid h2
  clear hr hb h1 h2
  go_wp2_with fail
  go_ret
  exact ⟨A3, d3, rfl, H1.out, H2.out, HR.out, HB3.out⟩

theorem lt_of_range {w : World} {b o : Nat} {g : GD} (h : w.rangeAt b o (gdC g)) : b < w.heap.size := by
  have h1 := h 0 _ rfl
  unfold World.cell? at h1
  by_cases hb : b < w.heap.size
  · exact hb
  · rw [Array.getElem?_eq_none (show w.heap.size ≤ b by omega)] at h1
    cases h1
theorem range_row {w : World} {b o r : Nat} {cs : List Value} (h : w.rangeAt b o cs) (hn : b ≠ r) (ds : Array Value) : (w.setRow r ds).rangeAt b o cs := fun j v hv => (World.cell?_of_block (a := ⟨b, o + j, none⟩) (setRow_other w r b ds hn)).trans (h j v hv)
theorem which_none {V : VP} {who no : Int} (h : (rdWs V who).any (fun g => g.n == no) = false) : rdWhich V who no = none := by
  unfold rdWhich
  rw [List.find?_eq_none.2 (by
    intro x hx
    rw [List.any_eq_false] at h
    exact h x hx)]
  rfl
theorem find_ix {α : Type} {p : α → Bool} : ∀ {l : List α} {k : Nat} {g : α}, l[k]? = some g → (l.take k).any p = false → p g = true → l.find? p = some g
  | a :: l, 0, g, h, _, hp => by
    obtain rfl : a = g := by simpa using h
    rw [List.find?_cons_of_pos hp]
  | a :: l, k + 1, g, h, h0, hp => by
    rw [List.take_succ_cons, List.any_cons, Bool.or_eq_false_iff] at h0
    rw [List.find?_cons_of_neg (by rw [h0.1]; decide)]
    exact find_ix (by simpa using h) h0.2 hp
theorem ix_at {α : Type} {p : α → Bool} {l : List α} (h : l.any p = true) : ∃ (k : Nat) (g : α), ixF p l = k ∧ k < l.length ∧ l[k]? = some g ∧ l.find? p = some g := by
  have hlt : l.findIdx p < l.length := List.findIdx_lt_length_of_exists (List.any_eq_true.1 h)
  refine ⟨l.findIdx p, l[l.findIdx p]'hlt, if_pos h, hlt, List.getElem?_eq_getElem hlt, find_ix (List.getElem?_eq_getElem hlt) ?_ List.findIdx_getElem⟩
  rw [List.any_eq_false]
  intro x hx
  obtain ⟨j, hj, rfl⟩ := List.mem_take_iff_getElem.1 hx
  have := List.not_of_lt_findIdx (p := p) (xs := l) (i := j) (by omega)
  simpa using this
theorem which_some {V : VP} {who no : Int} {g : GD} (h : (rdWs V who).find? (fun g => g.n == no) = some g) : rdWhich V who no = rdOf V who g := by
  unfold rdWhich
  rw [h]
  rfl
set_option maxRecDepth 100000 in
set_option maxHeartbeats 4000000 in
theorem c_which {V : VQ} {w : World} (h : VW w V) (hf : FewV V) (hT : TabD w) (who no : Int) :
    Calls Tryz.prog 7 #[.agg (vC V).toArray, .int .i64 who, .int .i64 no] w (EvPost w (rdWhich V.p who no)) := by
  have hX := bl2 w (vC V) 40 [.int .i64 no] 3 evZC 32
  generalize hw1 : ((w.alloc (.cells (vC V).toArray 40)).alloc (.cells [Value.int .i64 no].toArray 3)).alloc (.cells evZC.toArray 32) = w1 at hX
  have HW := Lib.hid (show ((w.alloc (.cells (vC V).toArray 40)).alloc (.cells #[.int .i64 no] 3)).alloc (.cells #[.int .i64 0, .int .i64 0, .int .i64 0, .int .i64 0] 32) = w1 from hw1)
  have HX := Lib.hid hX
  have CW := Lib.hid (c_wtd (h.below hX.up) hf.f who)
  have hfw := ws_few hf who
  have CI := Lib.hid (fun (W : World) A c (hW : Below w1.heap.size w1 W) (hR : ∀ W, VR W V → RD W tt 5 A (rdWs V.p who).length ((rdWs V.p who).flatMap gdC)) =>
    c_ixG (p := fun g => g.n == no) (c := c) (hR W (h.below (up_trans hX.up hW)).r) rfl (by omega) (c1 := .pointer (some ⟨w.heap.size + 1, 0, none⟩))
      (fun x _ W' hW' => c_which1 x (w.heap.size + 1) no 3 W' ((hX.ka 1 rfl).up (up_trans hW hW') (hX.ka 1 rfl).lt)))
  have CA := Lib.hid (fun W (hW : Below w.heap.size w W) (g : GD) (hg : g ∈ rdWs V.p who) => c_asked (h.below hW) hf (hT.up hW) who g (hfw.2 g hg))
  obtain ⟨R, hR⟩ : ∃ R, rdWhich V.p who no = R := ⟨_, rfl⟩
  rw [hR]
  cases ha : (rdWs V.p who).any (fun g => g.n == no)
  · have HE := Lib.hid (hR.symm.trans (which_none ha))
    have HI := Lib.hid (ixF_no ha)
    generalize rdWs V.p who = gs at CW CI HI
    clear h hf hT hX hw1 hfw hR ha CA
    go_enter Tryz.func7, Tryz.ntmps7
    go_upto_region 1 with fail
    rw [HW.out]
    go_wp2_with (refine ldr (b := w.heap.size) (t := 40) (cs := vC V) (.tmp 3) rfl rfl Tryz.underlying40 rfl info_vw rfl ?_ ?_; (· exact HX.out.ka 0 rfl))
    refine CW.out.mono ?_; rintro e w2 ⟨A2, d2, rfl, hr, hb⟩
    have CI2 := CI.out w2 A2 d2 hb hr
    rw [HI.out] at CI2
    have CI3 := Lib.hid CI2
    have HB := Lib.hid (HX.out.next hb)
    clear hr hb CI CI2
    go_wp2_with fail
    refine CI3.out.mono ?_; rintro e w3 ⟨rfl, hb⟩
    have HB3 := Lib.hid (HB.out.next hb)
    clear hb
    obtain ⟨ds, hds, hres⟩ := HB3.out.res
    have HRS := Lib.hid hres
    have HD := Lib.hid (show ds.length = 4 from hds)
    clear hds hres
    go_wp2_with (refine str (b := w.heap.size + 2) (t := 32) (cs := evZC) (ds := ds) (.tmp 6) (.tmp 18) rfl rfl rfl rfl info_ev4 HD.out (evC_one evZ) ?_ ?_; (· exact HRS.out))
    refine bodyPost_ret (v := .tuple #[.agg evZC.toArray, .bool false]) (results_ce (fn := Tryz.f7) (p := 6) (t := 7) rfl _ _ _ rfl (HRS.out.row _) Tryz.underlying32 rfl info_ev4) rfl ?_
    exact evp_of HE.out (below_setRow HB3.out.up HB3.out.lo _)
  · obtain ⟨k, g, hi, hk, hg, hfd⟩ := ix_at ha
    have HE := Lib.hid (hR.symm.trans (which_some hfd))
    have HI := Lib.hid hi
    have CA2 := Lib.hid (fun W (hW : Below w.heap.size w W) => CA.out W hW g (List.mem_of_getElem? hg))
    obtain ⟨o, ho⟩ : ∃ o, rdOf V.p who g = o := ⟨_, rfl⟩
    rw [ho] at CA2 HE
    generalize rdWs V.p who = gs at CW CI HI hk hg hfw
    have hk8 : k ≤ 8 := by omega
    have hkn : (k : Int) < (gs.length : Int) := by omega
    have g0 : decide ((k : Int) < 0) = false := decide_eq_false (by omega)
    have HK := Lib.hid hk
    have HG := Lib.hid hg
    have HV := Lib.hid h.r
    clear h hf hT hX hw1 hfw hR ha CA hi hfd ho hg
    go_enter Tryz.func7, Tryz.ntmps7
    go_upto_region 1 with fail
    rw [HW.out]
    go_wp2_with (refine ldr (b := w.heap.size) (t := 40) (cs := vC V) (.tmp 3) rfl rfl Tryz.underlying40 rfl info_vw rfl ?_ ?_; (· exact HX.out.ka 0 rfl))
    refine CW.out.mono ?_; rintro e w2 ⟨A2, d2, rfl, hr, hb⟩
    have CI2 := CI.out w2 A2 d2 hb hr
    rw [HI.out] at CI2
    have CI3 := Lib.hid CI2
    have HB := Lib.hid (HX.out.next hb)
    obtain ⟨b5, o5, hA, _, hb5, hrg⟩ := RD.row' gdC_len (hr w HV.out) HG.out HK.out
    subst hA
    have HRW := Lib.hid (fun W (hW : Below w.heap.size w W) => range_below hrg hW hb5)
    have HNE : Hid (b5 ≠ w.heap.size + 2) := Lib.hid (by omega)
    clear hr hb CI CI2 hrg hb5
    go_wp2_with fail
    refine CI3.out.mono ?_; rintro e w3 ⟨rfl, hb⟩
    have HX := Lib.hid (HB.out.next hb)
    have HR3 := Lib.hid (HRW.out w3 HX.out.up)
    clear hb
    go_wp2_with fail
    refine wp_region_held_drew (S := fun W => BL w [(w.heap.size, vC V, 40), (w.heap.size + 1, [.int .i64 no], 3)] (w.heap.size + 2) 4 32 W ∧ W.rangeAt b5 (o5 + k * 5) (gdC g)) (by kernel_rfl) ⟨HX.out.next (up_drewN _ 1), HR3.out⟩ (fun hHeld => ?_)
    refine wpAnyH_take (i := 0) (oi := ?_) (v := (.agg (vC V).toArray)) ?_ (by kernel_rfl) (by kernel_rfl) (by kernel_rfl) ?_ (Or.inl ⟨?_, ?_⟩) hHeld ?_
    rotate_left 1
    · conv => lhs; simp only [List.getElem?_toArray, List.getElem?_cons_succ, List.getElem?_cons_zero]
    · exact fun _ _ _ h => h
    · rfl
    · intro W hSw
      exact tk_load rfl rfl (load_row (hSw.1.ka 0 rfl) Tryz.underlying40 rfl info_vw)
    try simp only [Act.put, List.setIfInBounds_toArray, List.set_cons_zero, List.set_cons_succ]
    refine wpAnyH_take (i := 1) (oi := ?_) (v := ?_) ?_ (by kernel_rfl) (by kernel_rfl) (by kernel_rfl) ?_ (Or.inl ⟨?_, ?_⟩) hHeld ?_
    rotate_left 2
    · conv => lhs; simp only [List.getElem?_toArray, List.getElem?_cons_succ, List.getElem?_cons_zero]
    · exact fun _ _ _ h => h
    · rfl
    · intro W hSw
      go_simp
      try with_reducible rfl
    try simp only [Act.put, List.setIfInBounds_toArray, List.set_cons_zero, List.set_cons_succ]
    refine wpAnyH_take (i := 2) (oi := ?_) (v := ?_) ?_ (by kernel_rfl) (by kernel_rfl) (by kernel_rfl) ?_ (Or.inl ⟨?_, ?_⟩) hHeld ?_
    rotate_left 2
    · conv => lhs; simp only [List.getElem?_toArray, List.getElem?_cons_succ, List.getElem?_cons_zero]
    · exact fun _ _ _ h => h
    · rfl
    · intro W hSw
      go_simp
      try with_reducible rfl
    try simp only [Act.put, List.setIfInBounds_toArray, List.set_cons_zero, List.set_cons_succ]
    refine wpAnyH_take (i := 3) (oi := ?_) (v := ?_) ?_ (by kernel_rfl) (by kernel_rfl) (by kernel_rfl) ?_ (Or.inl ⟨?_, ?_⟩) hHeld ?_
    rotate_left 2
    · conv => lhs; simp only [List.getElem?_toArray, List.getElem?_cons_succ, List.getElem?_cons_zero]
    · exact fun _ _ _ h => h
    · rfl
    · intro W hSw
      go_simp
      try with_reducible rfl
    try simp only [Act.put, List.setIfInBounds_toArray, List.set_cons_zero, List.set_cons_succ]
    refine wpAnyH_take (i := 4) (oi := ?_) (v := ?_) ?_ (by kernel_rfl) (by kernel_rfl) (by kernel_rfl) ?_ (Or.inl ⟨?_, ?_⟩) hHeld ?_
    rotate_left 2
    · conv => lhs; simp only [List.getElem?_toArray, List.getElem?_cons_succ, List.getElem?_cons_zero]
    · exact fun _ _ _ h => h
    · rfl
    · intro W hSw
      go_simp
      try with_reducible rfl
    try simp only [Act.put, List.setIfInBounds_toArray, List.set_cons_zero, List.set_cons_succ]
    refine wpAnyH_take (i := 5) (oi := ?_) (v := (.agg (gdC g).toArray)) ?_ (by kernel_rfl) (by kernel_rfl) (by kernel_rfl) ?_ (Or.inl ⟨?_, ?_⟩) hHeld ?_
    rotate_left 1
    · conv => lhs; simp only [List.getElem?_toArray, List.getElem?_cons_succ, List.getElem?_cons_zero]
    · exact fun _ _ _ h => h
    · rfl
    · intro W hSw
      exact tk_part (q := o5 + k * 5) rfl rfl Tryz.underlying63 rfl info_gd5 hSw.2
    try simp only [Act.put, List.setIfInBounds_toArray, List.set_cons_zero, List.set_cons_succ]
    refine wpAnyH_ready (rs := [6]) (by kernel_rfl) (by simp) ?_
    refine AllReadyH.cons (o := ?_) ?_ (fun K hK => ?_) AllReadyH.nil
    rotate_left 1
    · conv => lhs; simp only [List.getElem?_toArray, List.getElem?_cons_succ, List.getElem?_cons_zero]
    go_simp
    refine (CA2.out _ hHeld.1.up).mono ?_
    rintro e wA ⟨rfl, hb⟩
    go_wp2_with fail
    refine hK.out _ _ (⟨hHeld.1.next hb, fun j v hv => (hb.cell (p := ⟨b5, o5 + k * 5 + j, none⟩) (lt_of_range hHeld.2)).trans (hHeld.2 j v hv)⟩) (fun hHeld => ?_)
    clear hK K
    try simp only [Act.put, List.setIfInBounds_toArray, List.set_cons_zero, List.set_cons_succ]
    refine wpAnyH_take (i := 7) (oi := ?_) (v := ?_) ?_ (by kernel_rfl) (by kernel_rfl) (by kernel_rfl) ?_ (Or.inl ⟨?_, ?_⟩) hHeld ?_
    rotate_left 2
    · conv => lhs; simp only [List.getElem?_toArray, List.getElem?_cons_succ, List.getElem?_cons_zero]
    · exact fun _ _ _ h => h
    · rfl
    · intro W hSw
      go_simp
      try with_reducible rfl
    try simp only [Act.put, List.setIfInBounds_toArray, List.set_cons_zero, List.set_cons_succ]
    refine wpAnyH_take (i := 8) (oi := ?_) (v := ?_) ?_ (by kernel_rfl) (by kernel_rfl) (by kernel_rfl) ?_ (Or.inl ⟨?_, ?_⟩) hHeld ?_
    rotate_left 2
    · conv => lhs; simp only [List.getElem?_toArray, List.getElem?_cons_succ, List.getElem?_cons_zero]
    · exact fun _ _ _ h => h
    · rfl
    · intro W hSw
      go_simp
      try with_reducible rfl
    try simp only [Act.put, List.setIfInBounds_toArray, List.set_cons_zero, List.set_cons_succ]
    obtain ⟨ds, hds, hres⟩ := hHeld.1.res
    refine wpAnyH_ready (rs := [9]) (by kernel_rfl) (by simp) ?_
    refine AllReadyH.cons (o := ?_) ?_ (fun K hK => ?_) AllReadyH.nil
    rotate_left 1
    · conv => lhs; simp only [List.getElem?_toArray, List.getElem?_cons_succ, List.getElem?_cons_zero]
    rw [if_pos (by rfl)]
    refine wp_store_row 32 (.tmp 6) (.tmp 26) rfl (w.heap.size + 2) (evC (o.getD evZ)).toArray rfl rfl 32 ds.toArray hres info_ev4 (by rw [List.size_toArray, List.size_toArray, hds]; rfl) (al_one (evC_one _)) ?_
    refine hK.out _ _ (⟨hHeld.1.put (evC (o.getD evZ)) rfl, range_row hHeld.2 HNE.out _⟩) (fun hHeld => ?_)
    clear hK K
    refine wpAnyH_take (i := 10) (oi := ?_) (v := ?_) ?_ (by kernel_rfl) (by kernel_rfl) (by kernel_rfl) ?_ (Or.inl ⟨?_, ?_⟩) hHeld ?_
    rotate_left 2
    · conv => lhs; simp only [List.getElem?_toArray, List.getElem?_cons_succ, List.getElem?_cons_zero]
    · exact fun _ _ _ h => h
    · rfl
    · intro W hSw
      go_simp
      try with_reducible rfl
    try simp only [Act.put, List.setIfInBounds_toArray, List.set_cons_zero, List.set_cons_succ]
    refine wpAnyH_done (by kernel_rfl) ?_ _
    go_wp2_with fail
    refine bodyPost_ret (v := .tuple #[.agg (evC (o.getD evZ)).toArray, .bool o.isSome]) (results_ce (fn := Tryz.f7) (p := 6) (t := 7) rfl _ _ _ rfl (hres.row _) Tryz.underlying32 rfl info_ev4) rfl ?_
    exact evp_of HE.out hHeld.1.up
end Go.Proofs.YtdiiilnebepfdaaGreatDoor

/- The document's Put and Drop. (Written by wip/tools/gen26/gendput.py.) -/
import Derived.Test.YtgigcjhggpknnaaOqa
import Derived.Test.YtgigcjhggpknnaaOpd
import Derived.Test.YtgigcjhggpknnaaNe
namespace Go.Proofs.Ytgigcjhggpknnaa
open Go.RowKit

theorem dx3_of (w : World) (room : Int) (u : Value) (gk go gv gr gn : Int) :
    DX w (((w.alloc (.cells #[.int .i64 room, u] 30)).alloc (.cells #[.int .i64 gk, .int .i64 go, .int .i64 gv, .int .i64 gr, .int .i64 gn] 34)).alloc (.cells #[.int .i64 0, .slice none 0 0] 30)) (w.heap.size + 2) room u ∧
    Blk (((w.alloc (.cells #[.int .i64 room, u] 30)).alloc (.cells #[.int .i64 gk, .int .i64 go, .int .i64 gv, .int .i64 gr, .int .i64 gn] 34)).alloc (.cells #[.int .i64 0, .slice none 0 0] 30)) (w.heap.size + 1) [.int .i64 gk, .int .i64 go, .int .i64 gv, .int .i64 gr, .int .i64 gn] 34 := by
  have h2 := Blk.new (w.alloc (.cells #[.int .i64 room, u] 30)) [.int .i64 gk, .int .i64 go, .int .i64 gv, .int .i64 gr, .int .i64 gn] 34
  have h3 := Blk.new ((w.alloc (.cells #[.int .i64 room, u] 30)).alloc (.cells #[.int .i64 gk, .int .i64 go, .int .i64 gv, .int .i64 gr, .int .i64 gn] 34)) [.int .i64 0, .slice none 0 0] 30
  have e1 : (w.alloc (.cells #[.int .i64 room, u] 30)).heap.size = w.heap.size + 1 := by simp
  have e2 : ((w.alloc (.cells #[.int .i64 room, u] 30)).alloc (.cells #[.int .i64 gk, .int .i64 go, .int .i64 gv, .int .i64 gr, .int .i64 gn] 34)).heap.size = w.heap.size + 2 := by simp
  rw [e1] at h2
  rw [e2] at h3
  exact ⟨⟨up_trans (up_trans (up_alloc _ _) (up_alloc _ _)) (up_alloc _ _), ((Blk.new w [.int .i64 room, u] _).alloc _).alloc _, h3, by omega⟩, h2.alloc _⟩
theorem flat_cut {α β : Type} (f : α → List β) (m : Nat) (hf : ∀ a, (f a).length = m) : ∀ (k : Nat) (l : List α), (l.flatMap f).take (k * m) = (l.take k).flatMap f ∧ (l.flatMap f).drop (k * m) = (l.drop k).flatMap f
  | 0, l => by simp
  | k + 1, [] => by simp
  | k + 1, a :: l => by
    have ih := flat_cut f m hf k l
    rw [List.flatMap_cons, List.take_succ_cons, List.drop_succ_cons, List.flatMap_cons, ← ih.1, ← ih.2, Nat.succ_mul, Nat.add_comm (k * m) m, List.take_append, List.drop_append, hf]
    constructor
    · rw [List.take_of_length_le (by rw [hf]; omega), Nat.add_sub_cancel_left]
    · rw [List.drop_of_length_le (by rw [hf]; omega), Nat.add_sub_cancel_left, List.nil_append]
theorem DPost.same {w w2 : World} {pl : Nat → Prop} {D : List OF} {A : Option Addr} {c r : Nat} (h : DO w pl D A c) (room : Int) (u : Value) (hX : DX w w2 r room u) (er : Int) :
    DPost w pl room D er (.returned (.tuple #[.agg #[.int .i64 room, .slice A D.length c], .int .i64 er])) ((w2.setCell ⟨r, 0, none⟩ (.int .i64 room)).setCell ⟨r, 1, none⟩ (.slice A D.length c)) :=
  ⟨A, c, rfl, h.below (hX.out _ _), hX.out _ _⟩

set_option maxRecDepth 100000 in
set_option maxHeartbeats 4000000 in
theorem d_put {w : World} {pl : Nat → Prop} {D : List OF} {A : Option Addr} {c : Nat} (h : DO w pl D A c) (hq : ∀ b, w.heap.size ≤ b → pl b) (room : Nat) (hr : D.length ≤ room) (hr2 : room ≤ 1024) (who gk go gv gr gn : Int) :
    Calls Try.prog 14 #[.agg #[.int .i64 (room : Int), .slice A D.length c], .int .i64 who, .agg #[.int .i64 gk, .int .i64 go, .int .i64 gv, .int .i64 gr, .int .i64 gn]] w (DPost w pl room (putL room D who ⟨gk, go, gv, gr, gn⟩) (putE room D who gn)) := by
  obtain ⟨hX, hG⟩ := dx3_of w room (.slice A D.length c) gk go gv gr gn
  generalize hw1 : ((w.alloc (.cells #[.int .i64 (room : Int), .slice A D.length c] 30)).alloc (.cells #[.int .i64 gk, .int .i64 go, .int .i64 gv, .int .i64 gr, .int .i64 gn] 34)).alloc (.cells #[.int .i64 0, .slice none 0 0] 30) = w1 at hX hG
  have HW1 := Lib.hid hw1
  have HX := Lib.hid hX
  have HG := Lib.hid hG
  have HH := Lib.hid h
  have HQ := Lib.hid hq
  have CI := d_is who w1
  have CF := d_find (h.below hX.up) room who gn
  have c0 := hX.box.cell 0 _ rfl
  have c1 := hX.box.cell 1 _ rfl
  have i4 := hG.cell 4 _ rfl
  have hf := h.few
  cases ho : oRng who
  · rw [ho] at CI
    have CI := Lib.hid CI
    cases hh : hasO D who gn
    · rw [hh, if_neg (by decide)] at CF
      have CF := Lib.hid CF
      by_cases hfull : D.length = room
      · have HE := Lib.hid (put_full (room := room) ho hh hfull)
        have HP := Lib.hid (putL_no (room := room) (D := D) (who := who) (g := ⟨gk, go, gv, gr, gn⟩) (by rw [HE.out]; decide))
        have tf : ((D.length : Int) == (room : Int)) = true := by rw [hfull]; exact beq_self_eq_true _
        clear hw1 hX hG h hq ho hh hfull
        go_enter Try.func14, Try.ntmps14
        go_wp2_with fail
        rw [HW1.out]
        refine Calls.mono CI.out ?_
        rintro e w' ⟨rfl, rfl⟩
        go_wp2_with fail
        refine Calls.mono CF.out ?_
        rintro e w2 ⟨rfl, hb2⟩
        have hX2 := HX.out.next hb2
        have c0 := hX2.box.cell 0 _ rfl
        have c1 := hX2.box.cell 1 _ rfl
        have r0 := hX2.res.cell 0 _ rfl
        have r1 := hX2.res.cell 1 _ rfl
        have f0 := hX2.res.free 0
        have f1 := hX2.res.free 1
        go_wp2_with fail
        refine bodyPost_ret (v := .tuple #[.agg #[.int .i64 (room : Int), .slice A D.length c], .int .i64 10]) (by simp [results, Try.results14, go_sem, r0, r1]) rfl ?_
        rw [HE.out, HP.out]
        exact DPost.same HH.out _ _ (HX.out.next hb2) _
      · have HE := Lib.hid (put_ok (room := room) ho hh hfull)
        have HP := Lib.hid (putL_ok (room := room) (D := D) (who := who) (g := ⟨gk, go, gv, gr, gn⟩) HE.out)
        have tf : ((D.length : Int) == (room : Int)) = false := beq_eq_false_iff_ne.2 (by omega)
        have hlt : D.length < room := by omega
        clear hw1 hX hG h hq ho hh hfull
        go_enter Try.func14, Try.ntmps14
        go_wp2_with fail
        rw [HW1.out]
        refine Calls.mono CI.out ?_
        rintro e w' ⟨rfl, rfl⟩
        go_wp2_with fail
        refine Calls.mono CF.out ?_
        rintro e w2 ⟨rfl, hb2⟩
        have hX2 := HX.out.next hb2
        have c0 := hX2.box.cell 0 _ rfl
        have c1 := hX2.box.cell 1 _ rfl
        have r0 := hX2.res.cell 0 _ rfl
        have r1 := hX2.res.cell 1 _ rfl
        have f0 := hX2.res.free 0
        have f1 := hX2.res.free 1
        have HRD := Lib.hid (HH.out.rd.below (HX.out.up))
        have HG2 := Lib.hid (HG.out.up hb2 HG.out.lt)
        have HX2 := Lib.hid hX2
        have g1 := hX2.box.free 1
        have i0 := HG2.out.cell 0 _ rfl
        have i1 := HG2.out.cell 1 _ rfl
        have i2 := HG2.out.cell 2 _ rfl
        have i3 := HG2.out.cell 3 _ rfl
        have i4 := HG2.out.cell 4 _ rfl
        have HB2 := Lib.hid hb2
        have k1 : (w2.drew.alloc (.cells #[.int .i64 who, .int .i64 gk, .int .i64 go, .int .i64 gv, .int .i64 gr, .int .i64 gn] 75)).cell? ⟨w.heap.size, 1, none⟩ = some (.slice A D.length c) := (hX2.next (up_trans (up_drewN w2 1) (up_alloc _ _))).box.cell 1 _ rfl
        have k2 : (w2.alloc (.cells #[.int .i64 who, .int .i64 gk, .int .i64 go, .int .i64 gv, .int .i64 gr, .int .i64 gn] 75)).drew.cell? ⟨w.heap.size, 1, none⟩ = some (.slice A D.length c) := k1
        clear hX2 hb2
        go_wp2_with fail
        go_region_law (first
          | (refine step_app ei_dof rfl (.const (.slice none 0 0)) (.tmp 27) rfl (.slice none 0 0) [] rfl (World.ownsRow_nil _ _ _ _) rfl (HRD.out.below (up_trans HB2.out (by first | exact up_drewN w2 1 | exact up_trans (up_drewN w2 1) (up_alloc _ _)))) (ofs_one _) (by omega) (Nat.le_refl _) ?_; intro v3 w3 hown3 hb3; have HO := Lib.hid hown3; have H3' := Lib.hid hb3; have hb23 : Below w2.heap.size w2 w3 := up_trans (by first | exact up_drewN w2 1 | exact up_trans (up_drewN w2 1) (up_alloc _ _)) hb3; have HX3 := Lib.hid (HX2.out.next hb23); have HG3 := Lib.hid (HG2.out.up hb23 HG2.out.lt); have HB23 := Lib.hid hb23; have c0 := HX3.out.box.cell 0 _ rfl; have c1 := HX3.out.box.cell 1 _ rfl; have g1 := HX3.out.box.free 1; have i0 := HG3.out.cell 0 _ rfl; have i1 := HG3.out.cell 1 _ rfl; have i2 := HG3.out.cell 2 _ rfl; have i3 := HG3.out.cell 3 _ rfl; have i4 := HG3.out.cell 4 _ rfl; have hs3 := hb23.size; clear hown3 hb3 hb23)
          | (refine step_app ei_dof rfl (.tmp 28) (.tmp 32) rfl v3 _ rfl (HO.out.alloc _) rfl (RD.new (by simp) rfl) (fun u hu => ofC_one ⟨who, gk, go, gv, gr, gn⟩ u hu) (by omega) (by first | exact H3'.out.size | (have hh3 := H3'.out.size; simp at hh3 ⊢; omega)) ?_; intro v4 w4 hown4 hb4; have HB4 := Lib.hid ((HB23.out.trans ((up_alloc _ _).mono hs3)).trans (hb4.mono (by first | exact Nat.le_refl _ | simp))); obtain ⟨A4, c4, rfl, dok4⟩ := DO.of (D := D ++ [⟨who, gk, go, gv, gr, gn⟩]) (pl := fun b => w2.heap.size ≤ b) (by rw [ofC_two]; have h := hown4; simp only [Nat.zero_add, List.nil_append] at h; exact h) (fun _ h => Nat.le_trans (by first | exact Nat.le_refl _ | simp) h) (by rw [List.length_append, List.length_singleton]; omega); have HO4 := Lib.hid dok4; have HX4 := Lib.hid (HX2.out.next HB4.out); clear c0 c1 g1 hown4 hb4 dok4; have c0 := HX4.out.box.cell 0 _ rfl; have c1 := HX4.out.box.cell 1 _ rfl; have g1 := HX4.out.box.free 1)
          | (refine step_app ei_dof rfl (.tmp 28) (.tmp 32) rfl v3 _ rfl HO.out rfl (RD.below (RD.new (w := w2.drew) (n := w2.heap.size) (cs := #[.int .i64 who, .int .i64 gk, .int .i64 go, .int .i64 gv, .int .i64 gr, .int .i64 gn]) (t := 75) rfl rfl) H3'.out) (fun u hu => ofC_one ⟨who, gk, go, gv, gr, gn⟩ u hu) (by omega) (by first | exact H3'.out.size | (have hh3 := H3'.out.size; simp at hh3 ⊢; omega)) ?_; intro v4 w4 hown4 hb4; have HB4 := Lib.hid (HB23.out.trans (hb4.mono (by first | exact Nat.le_refl _ | simp))); obtain ⟨A4, c4, rfl, dok4⟩ := DO.of (D := D ++ [⟨who, gk, go, gv, gr, gn⟩]) (pl := fun b => w2.heap.size ≤ b) (by rw [ofC_two]; have h := hown4; simp only [Nat.zero_add, List.nil_append] at h; exact h) (fun _ h => Nat.le_trans (by first | exact Nat.le_refl _ | simp) h) (by rw [List.length_append, List.length_singleton]; omega); have HO4 := Lib.hid dok4; have HX4 := Lib.hid (HX2.out.next HB4.out); clear c0 c1 g1 hown4 hb4 dok4; have c0 := HX4.out.box.cell 0 _ rfl; have c1 := HX4.out.box.cell 1 _ rfl; have g1 := HX4.out.box.free 1))
        all_goals
          clear c0 c1 g1 r0 r1 f0 f1
          have c0 := ((HX4.out.box.set 1 (Value.slice A4 (D.length + 1) c4)).cell 0 _ rfl)
          have c1 := ((HX4.out.box.set 1 (Value.slice A4 (D.length + 1) c4)).cell 1 _ rfl)
          have hres := HX4.out.res.other ⟨w.heap.size, 1, none⟩ (by simp) (Value.slice A4 (D.length + 1) c4)
          have r0 := hres.cell 0 _ rfl
          have r1 := hres.cell 1 _ rfl
          have f0 := hres.free 0
          have f1 := hres.free 1
          clear hres
          go_wp2_with fail
        all_goals
          refine bodyPost_ret (v := .tuple #[.agg #[.int .i64 (room : Int), .slice A4 (D.length + 1) c4], .int .i64 0]) (by simp [results, Try.results14, go_sem, r0, r1]) rfl ?_
          rw [HE.out, HP.out]
          refine ⟨A4, c4, by rw [List.length_append, List.length_singleton], ?_, HX4.out.out2 _ _ _⟩
          have hs2 := HX2.out.res.lt
          have hr := HX.out.hr
          exact (HO4.out.only (HX4.out.after _ _ _) (fun k e h => by rcases e with e | e <;> omega)).lo fun b hb => HQ.out b (by omega)
    · have hfx := fx_yes hh
      rw [hh, if_pos rfl] at CF
      have CF := Lib.hid CF
      have HE := Lib.hid (put_there (room := room) ho hh)
      have HP := Lib.hid (putL_no (room := room) (D := D) (who := who) (g := ⟨gk, go, gv, gr, gn⟩) (by rw [HE.out]; decide))
      generalize fxO D who gn = k at CF
      clear hw1 hX hG h hq ho hh hfx
      have tk : ¬ (k : Int) < 0 := by omega
      have tk0 : (0 : Int) ≤ k := by omega
      go_enter Try.func14, Try.ntmps14
      go_wp2_with fail
      rw [HW1.out]
      refine Calls.mono CI.out ?_
      rintro e w' ⟨rfl, rfl⟩
      go_wp2_with fail
      refine Calls.mono CF.out ?_
      rintro e w2 ⟨rfl, hb2⟩
      have hX2 := HX.out.next hb2
      have c0 := hX2.box.cell 0 _ rfl
      have c1 := hX2.box.cell 1 _ rfl
      have r0 := hX2.res.cell 0 _ rfl
      have r1 := hX2.res.cell 1 _ rfl
      have f0 := hX2.res.free 0
      have f1 := hX2.res.free 1
      go_wp2_with fail
      refine bodyPost_ret (v := .tuple #[.agg #[.int .i64 (room : Int), .slice A D.length c], .int .i64 7]) (by simp [results, Try.results14, go_sem, r0, r1]) rfl ?_
      rw [HE.out, HP.out]
      exact DPost.same HH.out _ _ (HX.out.next hb2) _
  · rw [ho] at CI
    have CI := Lib.hid CI
    have HE := Lib.hid (put_rng (room := room) (D := D) (no := gn) ho)
    have HP := Lib.hid (putL_no (room := room) (D := D) (who := who) (g := ⟨gk, go, gv, gr, gn⟩) (by rw [HE.out]; decide))
    have r0 := hX.res.cell 0 _ rfl
    have r1 := hX.res.cell 1 _ rfl
    have f0 := hX.res.free 0
    have f1 := hX.res.free 1
    clear hw1 hX hG h hq ho CF
    go_enter Try.func14, Try.ntmps14
    go_wp2_with fail
    rw [HW1.out]
    refine Calls.mono CI.out ?_
    rintro e w' ⟨rfl, rfl⟩
    go_wp2_with fail
    refine bodyPost_ret (v := .tuple #[.agg #[.int .i64 (room : Int), .slice A D.length c], .int .i64 8]) (by simp [results, Try.results14, go_sem, r0, r1]) rfl ?_
    rw [HE.out, HP.out]
    exact DPost.same HH.out _ _ HX.out _

set_option maxRecDepth 100000 in
set_option maxHeartbeats 4000000 in
theorem d_drop {w : World} {pl : Nat → Prop} {D : List OF} {A : Option Addr} {c : Nat} (h : DO w pl D A c) (hw : ∀ x ∈ D, 0 ≤ x.w ∧ x.w < 16) (hq : ∀ b, w.heap.size ≤ b → pl b) (room who no : Int) :
    Calls Try.prog 12 #[.agg #[.int .i64 room, .slice A D.length c], .int .i64 who, .int .i64 no] w (DPost w pl room (drpO D who no) (drpE D who no)) := by
  have hX := dx_of w room (.slice A D.length c)
  generalize hw1 : (w.alloc (.cells #[.int .i64 room, .slice A D.length c] 30)).alloc (.cells #[.int .i64 0, .slice none 0 0] 30) = w1 at hX
  have HW1 := Lib.hid hw1
  have HX := Lib.hid hX
  have HH := Lib.hid h
  have HQ := Lib.hid hq
  have CI := d_is who w1
  have CF := d_find (h.below hX.up) room who no
  have c0 := hX.box.cell 0 _ rfl
  have c1 := hX.box.cell 1 _ rfl
  have hf := h.few
  have hcap := h.cap
  have htop := h.top
  unfold maxLen at htop
  cases ho : oRng who
  · rw [ho] at CI
    have CI := Lib.hid CI
    cases hh : hasO D who no
    · rw [hh, if_neg (by decide)] at CF
      have CF := Lib.hid CF
      have HE := Lib.hid (show drpE D who no = 6 by unfold drpE; rw [ho, hh]; rfl)
      have HP := Lib.hid (has_no hh).2
      clear hw1 hX h hw hq ho hh
      go_enter Try.func12, Try.ntmps12
      go_wp2_with fail
      rw [HW1.out]
      refine Calls.mono CI.out ?_
      rintro e w' ⟨rfl, rfl⟩
      go_wp2_with fail
      refine Calls.mono CF.out ?_
      rintro e w2 ⟨rfl, hb2⟩
      have hX2 := HX.out.next hb2
      have c0 := hX2.box.cell 0 _ rfl
      have c1 := hX2.box.cell 1 _ rfl
      have r0 := hX2.res.cell 0 _ rfl
      have r1 := hX2.res.cell 1 _ rfl
      have f0 := hX2.res.free 0
      have f1 := hX2.res.free 1
      go_wp2_with fail
      refine bodyPost_ret (v := .tuple #[.agg #[.int .i64 room, .slice A D.length c], .int .i64 6]) (by simp [results, Try.results12, go_sem, r0, r1]) rfl ?_
      rw [HE.out, HP.out]
      exact DPost.same HH.out _ _ (HX.out.next hb2) _
    · obtain ⟨hlt, hcut⟩ := fx_yes hh
      rw [hh, if_pos rfl] at CF
      have CF := Lib.hid CF
      have HE := Lib.hid (show drpE D who no = 0 by unfold drpE; rw [ho, hh]; rfl)
      generalize fxO D who no = i at CF hlt hcut
      have HP := Lib.hid hcut
      have hR := h.rd
      obtain ⟨b, o, rfl, _, _, _⟩ := hR.at_ (by omega)
      have ht : ∀ k, (D.flatMap ofC).take (k * 6) = (D.take k).flatMap ofC ∧ (D.flatMap ofC).drop (k * 6) = (D.drop k).flatMap ofC := fun k => flat_cut ofC 6 ofC_len k D
      have HR1 : Hid (RD w pl 6 (some ⟨b, o, none⟩) i ((D.take i).flatMap ofC)) := Lib.hid (by rw [← (ht i).1]; exact hR.take i (by omega))
      have HR2 : Hid (RD w pl 6 (if c = i + 1 then some ⟨b, o, none⟩ else some ⟨b, o + (i + 1) * 6, none⟩) (D.length - (i + 1)) ((D.drop (i + 1)).flatMap ofC)) := Lib.hid (by rw [← (ht (i + 1)).2]; exact RD.rest' hR (i + 1) c (by omega) hcap)
      have hi0 : ¬ (i : Int) < 0 := by omega
      have h01 : (0 : Int) ≤ (i : Int) + 1 := by omega
      have h02 : (i : Int) + 1 ≤ D.length := by omega
      have hic : i ≤ c := by omega
      have hic1 : i + 1 ≤ c := by omega
      have hin : i + 1 ≤ D.length := by omega
      have hwr : IntKind.i64.wrap ((i : Int) + 1) = (i : Int) + 1 := IntWalk.i64_in _ (by omega)
      have hdi : decide ((i : Int) < 0) = false := by rw [decide_eq_false_iff_not]; omega
      have hlen : (drpO D who no).length = i + (D.length - (i + 1)) := by rw [hcut, List.length_append, List.length_take, List.length_drop]; omega
      obtain ⟨m, hmq⟩ : ∃ m, (drpO D who no).length = m := ⟨_, rfl⟩
      have HMQ := Lib.hid hmq
      have HLN := Lib.hid hlen
      clear hw1 hX h hw hq ho hh ht hR hcut hmq hlen
      go_enter Try.func12, Try.ntmps12
      go_wp2_with fail
      rw [HW1.out]
      refine Calls.mono CI.out ?_
      rintro e w' ⟨rfl, rfl⟩
      go_wp2_with fail
      refine Calls.mono CF.out ?_
      rintro e w2 ⟨rfl, hb2⟩
      have hX2 := HX.out.next hb2
      have c0 := hX2.box.cell 0 _ rfl
      have c1 := hX2.box.cell 1 _ rfl
      have r0 := hX2.res.cell 0 _ rfl
      have r1 := hX2.res.cell 1 _ rfl
      have f0 := hX2.res.free 0
      have f1 := hX2.res.free 1
      have HX2 := Lib.hid hX2
      have g1 := hX2.box.free 1
      have HB2 := Lib.hid hb2
      clear hX2 hb2
      go_wp2_with fail
      go_region_law (first
        | (refine step_app ei_dof rfl (.const (.slice none 0 0)) (.tmp 23) rfl (.slice none 0 0) [] rfl (World.ownsRow_nil _ w2.heap.size _ _) rfl (HR1.out.below (up_trans HX2.out.up (up_drewN w2 1))) (ofs_one _) (by omega) (by simp) ?_; intro v3 w3 hown3 hb3; have HO := Lib.hid hown3; have H3' := Lib.hid hb3; have HX3 := Lib.hid (HX2.out.next ((up_drewN w2 1).trans hb3)); have c0 := HX3.out.box.cell 0 _ rfl; have c1 := HX3.out.box.cell 1 _ rfl; have g1 := HX3.out.box.free 1; clear hown3 hb3)
        | (refine step_app ei_dof rfl (.tmp 24) (.tmp 29) rfl v3 _ rfl HO.out rfl (HR2.out.below HX3.out.up) (ofs_one _) (by omega) (by have := H3'.out.size; simp at this; omega) ?_; intro v4 w4 hown4 hb4; obtain ⟨A4, c4, rfl, dok4⟩ := DO.of (D := drpO D who no) (pl := fun b => w2.heap.size ≤ b) (by rw [HP.out, List.flatMap_append]; have h := hown4; simp only [Nat.zero_add, List.nil_append] at h; exact h) (fun _ h => h) (by have := HLN.out; omega); have HO4 := Lib.hid dok4; have HX4 := Lib.hid (HX2.out.next (((up_drewN w2 1).trans H3'.out).trans hb4)); clear c0 c1 g1 hown4 hb4 dok4; have c0 := HX4.out.box.cell 0 _ rfl; have c1 := HX4.out.box.cell 1 _ rfl; have g1 := HX4.out.box.free 1))
      all_goals
        clear c0 c1 g1 r0 r1 f0 f1
        rw [HMQ.out]
        have c0 := ((HX4.out.box.set 1 (Value.slice A4 m c4)).cell 0 _ rfl)
        have c1 := ((HX4.out.box.set 1 (Value.slice A4 m c4)).cell 1 _ rfl)
        have hres := HX4.out.res.other ⟨w.heap.size, 1, none⟩ (by simp) (Value.slice A4 m c4)
        have r0 := hres.cell 0 _ rfl
        have r1 := hres.cell 1 _ rfl
        have f0 := hres.free 0
        have f1 := hres.free 1
        clear hres
        go_wp2_with fail
      all_goals
        refine bodyPost_ret (v := .tuple #[.agg #[.int .i64 room, .slice A4 m c4], .int .i64 0]) (by simp [results, Try.results12, go_sem, r0, r1]) rfl ?_
        rw [HE.out]
        refine ⟨A4, c4, by rw [HMQ.out], ?_, HX4.out.out2 _ _ _⟩
        have hs2 := HX2.out.res.lt
        have hr := HX.out.hr
        exact (HO4.out.only (HX4.out.after _ _ _) (fun k e h => by rcases e with e | e <;> omega)).lo fun b hb => HQ.out b (by omega)
  · rw [ho] at CI
    have CI := Lib.hid CI
    have HE := Lib.hid (show drpE D who no = 8 by unfold drpE; rw [ho]; rfl)
    have h0 : hasO D who no = false := List.any_eq_false.2 fun x hx e => by
      have h1 := (wn_w e).1
      have h2 := hw x hx
      have h3 := oRng_yes ho
      omega
    have HP := Lib.hid (has_no h0).2
    have r0 := hX.res.cell 0 _ rfl
    have r1 := hX.res.cell 1 _ rfl
    have f0 := hX.res.free 0
    have f1 := hX.res.free 1
    clear hw1 hX h hw hq ho CF h0
    go_enter Try.func12, Try.ntmps12
    go_wp2_with fail
    rw [HW1.out]
    refine Calls.mono CI.out ?_
    rintro e w' ⟨rfl, rfl⟩
    go_wp2_with fail
    refine bodyPost_ret (v := .tuple #[.agg #[.int .i64 room, .slice A D.length c], .int .i64 8]) (by simp [results, Try.results12, go_sem, r0, r1]) rfl ?_
    rw [HE.out, HP.out]
    exact DPost.same HH.out _ _ HX.out _
end Go.Proofs.Ytgigcjhggpknnaa

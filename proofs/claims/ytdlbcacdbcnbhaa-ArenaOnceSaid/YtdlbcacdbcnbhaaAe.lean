/- The contract of the document's Add. -/
import Derived.Test.YtdlbcacdbcnbhaaAd
namespace Go.Proofs.Ytdlbcacdbcnbhaa
open Go.RowKit

/-- A document's table, a number, and an error. -/
def RTPost3 (w : World) (pl : Nat → Prop) (last : Int) (τ : List Slot) (h er : Int) (e : Ending) (w' : World) : Prop :=
  ∃ A c B d, e = .returned (.tuple #[.agg #[.int .i64 last, .slice A τ.length c, .slice B (lenT τ) d], .int .i64 h, .int .i64 er]) ∧ RT w' pl τ A c B d ∧ Below w.heap.size w w'

set_option maxRecDepth 100000 in
set_option maxHeartbeats 1000000 in
theorem c_radd_no {w : World} {pl : Nat → Prop} {τ : List Slot} {A B : Option Addr} {c d : Nat} (h0 : RT w pl τ A c B d) (last y : Int) (hno : ∀ s ∈ τ, isFree last s = false) :
    Calls Try.prog 14 #[.agg #[.int .i64 last, .slice A τ.length c, .slice B (lenT τ) d], .int .i64 y] w (RTPost3 w pl last τ 0 10) := by
  have hX := box2 w last A τ.length c B (lenT τ) d
  have hf := h0.few
  generalize hw2 : (w.alloc (.cells #[.int .i64 last, .slice A τ.length c, .slice B (lenT τ) d] 31)).alloc (.cells #[.int .i64 0, .slice none 0 0, .slice none 0 0] 31) = w2 at hX
  have h2 := h0.below hX.up
  have HW := Lib.hid hw2
  have hz := hX.res.lt
  have HNO := Lib.hid hno
  clear hw2 hno
  go_enter Try.func14, Try.ntmps14
  go_wp2_with fail
  rw [HW.out]
  go_loopw [7, 8, 9, 10, 11, 12] (fun i _ _ _ _ _ wr => ∃ j : Nat, j ≤ τ.length ∧ i = .int .i64 j ∧ Below w2.heap.size w2 wr) (fun i _ _ _ _ _ _ => τ.length - (intOf i).toNat)
  case atStart => exact ⟨0, Nat.zero_le _, rfl, Below.refl _ _⟩
  case round =>
    obtain ⟨j, hj, rfl, hb⟩ := hrel
    have hB := hX.box.up hb hX.box.lt
    have hR := hX.res.up hb hX.res.lt
    have c0 := hB.cell 0 _ rfl
    have c1 := hB.cell 1 _ rfl
    have c2 := hB.cell 2 _ rfl
    have hzr := hR.lt
    have hr := h2.below hb
    by_cases hjk : j < τ.length
    · have hs : τ[j]? = some (τ[j].1, τ[j].2) := List.getElem?_eq_getElem hjk
      have CO := c_ropen hr last j _ _ hs
      rw [HNO.out _ (List.mem_of_getElem? hs)] at CO
      have CO := Lib.hid CO
      clear hs
      go_wp2_with (go_at_call 25; refine Calls.mono CO.out ?_; rintro e w' ⟨rfl, hb1⟩)
      go_roundw
      case rel => exact ⟨j + 1, by omega, by go_num, up_trans hb hb1⟩
      case measure => simp [intOf]; omega
    · obtain rfl : j = τ.length := by omega
      have r0 := hR.cell 0 _ rfl
      have r1 := hR.cell 1 _ rfl
      have r2 := hR.cell 2 _ rfl
      have f0 := hR.free 0
      have f1 := hR.free 1
      have f2 := hR.free 2
      go_wp2_with fail
      refine bodyPost_ret (v := .tuple #[.agg #[.int .i64 last, .slice A τ.length c, .slice B (lenT τ) d], .int .i64 0, .int .i64 10]) (by simp [results, Try.results14, go_sem, r0, r1, r2]) rfl ?_
      have up3 := up_trans hX.up hb
      have up4 : Below w.heap.size w (((wr.setCell ⟨w.heap.size + 1, 0, none⟩ (.int .i64 last)).setCell ⟨w.heap.size + 1, 1, none⟩ (.slice A τ.length c)).setCell ⟨w.heap.size + 1, 2, none⟩ (.slice B (lenT τ) d)) := ((up3.setCell (by simp) _).setCell (by simp) _).setCell (by simp) _
      exact ⟨A, c, B, d, rfl, h0.below up4, up4⟩

theorem filt_next {α : Type} (p : α → Bool) (L : List α) (q : Nat) (a : α) (h : L[q]? = some a) : (L.take (q + 1)).filter p = (L.take q).filter p ++ (if p a = true then [a] else []) := by
  rw [take_next L q a h, List.filter_append]
  by_cases hp : p a = true
  · rw [if_pos hp]; simp [hp]
  · rw [if_neg hp]; simp [hp]
theorem filt_len {α : Type} (p : α → Bool) (L : List α) (q : Nat) : ((L.take q).filter p).length ≤ q := Nat.le_trans (List.length_filter_le _ _) (List.length_take_le _ _)

theorem add_tail {w wr : World} {pl : Nat → Prop} {lo3 lo5 : Nat} {τ' : List Slot} {A AL : Option Addr} {n c nL cL : Nat} (last hd : Int) (up : Below w.heap.size w wr) (h3 : w.heap.size + 1 < lo3) (h5 : w.heap.size + 1 < lo5) (l3 : ∀ b, lo3 ≤ b → pl b) (l5 : ∀ b, lo5 ≤ b → pl b)
    (og : wr.ownsRow lo3 3 1 (.slice A n c) n ((gensT τ').map (Value.int .i64))) (ol : wr.ownsRow lo5 64 2 (.slice AL nL cL) nL ((thingsF 0 τ').flatMap pairV)) (hn : n = τ'.length) (hL : nL = lenT τ') (pos : 0 < τ'.length) (few : τ'.length ≤ 4096) :
    RTPost3 w pl last τ' hd 0 (.returned (.tuple #[.agg #[.int .i64 last, .slice A n c, .slice AL nL cL], .int .i64 hd, .int .i64 0]))
      ((((wr.setCell ⟨w.heap.size, 2, none⟩ (.slice AL nL cL)).setCell ⟨w.heap.size + 1, 0, none⟩ (.int .i64 last)).setCell ⟨w.heap.size + 1, 1, none⟩ (.slice A n c)).setCell ⟨w.heap.size + 1, 2, none⟩ (.slice AL nL cL)) := by
  have o6 := ownsRow_setCell_below (ownsRow_setCell_below (ownsRow_setCell_below (ownsRow_setCell_below ol (a := ⟨w.heap.size, 2, none⟩) (by simp; omega) (.slice AL nL cL)) (a := ⟨w.heap.size + 1, 0, none⟩) (by simp; omega) (.int .i64 last)) (a := ⟨w.heap.size + 1, 1, none⟩) (by simp; omega) (.slice A n c)) (a := ⟨w.heap.size + 1, 2, none⟩) (by simp; omega) (.slice AL nL cL)
  have g6 := ownsRow_setCell_below (ownsRow_setCell_below (ownsRow_setCell_below (ownsRow_setCell_below og (a := ⟨w.heap.size, 2, none⟩) (by simp; omega) (.slice AL nL cL)) (a := ⟨w.heap.size + 1, 0, none⟩) (by simp; omega) (.int .i64 last)) (a := ⟨w.heap.size + 1, 1, none⟩) (by simp; omega) (.slice A n c)) (a := ⟨w.heap.size + 1, 2, none⟩) (by simp; omega) (.slice AL nL cL)
  have up6 := (((up.setCell (p := ⟨w.heap.size, 2, none⟩) (by simp) (.slice AL nL cL)).setCell (p := ⟨w.heap.size + 1, 0, none⟩) (by simp) (.int .i64 last)).setCell (p := ⟨w.heap.size + 1, 1, none⟩) (by simp) (.slice A n c)).setCell (p := ⟨w.heap.size + 1, 2, none⟩) (by simp) (.slice AL nL cL)
  obtain ⟨A6, c6, e6, hc6, hm6, rd⟩ := own_slice o6
  cases e6
  obtain ⟨A7, c7, e7, hc7, hm7, rg⟩ := own_slice g6
  cases e7
  subst hn
  subst hL
  exact ⟨A, c, AL, cL, rfl, ⟨rg.lo l3, rd.lo l5, hc7, hm7, hc6, hm6, pos, few⟩, up6⟩

set_option maxRecDepth 100000 in
set_option maxHeartbeats 4000000 in
theorem c_radd {w : World} {pl : Nat → Prop} {τ : List Slot} {A B : Option Addr} {c d : Nat} (h0 : RT w pl τ A c B d) (hq : ∀ b, w.heap.size ≤ b → pl b) (last y : Int) (k : Nat) (g : Int) (hk : τ[k]? = some (g, none)) (hg : g < last) (g0 : 0 ≤ g) (hl : last ≤ 65535) (hno : ∀ s ∈ τ.take k, isFree last s = false) (b' : Nat) :
    Calls Try.prog 14 #[.agg #[.int .i64 last, .slice A τ.length c, .slice B (lenT τ) d], .int .i64 y] w (RTPost3 w pl last (τ.set k (g + 1, some (b', y))) (4096 * (g + 1) + k) 0) := by
  have hX := box2 w last A τ.length c B (lenT τ) d
  have hf := h0.few
  have hlt := lenT_le τ
  generalize hw2 : (w.alloc (.cells #[.int .i64 last, .slice A τ.length c, .slice B (lenT τ) d] 31)).alloc (.cells #[.int .i64 0, .slice none 0 0, .slice none 0 0] 31) = w2 at hX
  have h2 := h0.below hX.up
  have HW := Lib.hid hw2
  have hz := hX.res.lt
  have HNO := Lib.hid hno
  have hkl : k < τ.length := (List.getElem?_eq_some_iff.1 hk).1
  have hfr : isFree last (g, none) = true := by simp [isFree, hg]
  have HFR := Lib.hid hfr
  have HLo := Lib.hid (filter_low τ k g hk)
  have HHi := Lib.hid (filter_high τ k g hk)
  have HST := Lib.hid (things_set τ k hkl (g + 1) (some (b', y)))
  have HLT := Lib.hid (thingsF_len τ 0)
  have hm : makeH k (g + 1) = 4096 * (g + 1) + k := makeH_of _ _ ⟨by omega, by omega, by omega, by omega⟩
  have he : makeE k (g + 1) = 0 := makeE_of _ _ ⟨by omega, by omega, by omega, by omega⟩
  have cm := fun W => c_rmake k (g + 1) W
  rw [hm, he] at cm
  have CM := Lib.hid cm
  have HK := Lib.hid hk
  clear hm he cm
  clear hw2 hno hfr hk
  go_enter Try.func14, Try.ntmps14
  go_wp2_with fail
  rw [HW.out]
  go_loopw [7, 8, 9, 10, 11, 12] (fun i _ _ _ _ _ wr => ∃ j : Nat, j ≤ k ∧ i = .int .i64 j ∧ Below w2.heap.size w2 wr) (fun i _ _ _ _ _ _ => k - (intOf i).toNat)
  case atStart => exact ⟨0, Nat.zero_le _, rfl, Below.refl _ _⟩
  case round =>
    obtain ⟨j, hj, rfl, hb⟩ := hrel
    have hB := hX.box.up hb hX.box.lt
    have hR := hX.res.up hb hX.res.lt
    have c0 := hB.cell 0 _ rfl
    have c1 := hB.cell 1 _ rfl
    have c2 := hB.cell 2 _ rfl
    have hzr := hR.lt
    have hr := h2.below hb
    by_cases hjk : j < k
    · have hs : τ[j]? = some (τ[j].1, τ[j].2) := List.getElem?_eq_getElem (by omega)
      have CO := c_ropen hr last j _ _ hs
      rw [HNO.out _ (List.mem_of_getElem? (i := j) (by rw [List.getElem?_take_of_lt hjk]; exact hs))] at CO
      have CO := Lib.hid CO
      clear hs
      go_wp2_with (go_at_call 25; refine Calls.mono CO.out ?_; rintro e w' ⟨rfl, hb1⟩)
      go_roundw
      case rel => exact ⟨j + 1, by omega, by go_num, up_trans hb hb1⟩
      case measure => simp [intOf]; omega
    · obtain rfl : j = k := by omega
      have CO := c_ropen hr last j _ _ HK.out
      rw [HFR.out] at CO
      have CO := Lib.hid CO
      go_wp2_with fail
      refine Calls.mono CO.out ?_
      rintro e w3 ⟨rfl, hb1⟩
      have hb3 := up_trans hb hb1
      have h3 := h2.below hb3
      have hB3 := hX.box.up hb3 hX.box.lt
      have hR3 := hX.res.up hb3 hX.res.lt
      have hz3 := hR3.lt
      have elo : ∀ b, w3.heap.size ≤ b → pl b := fun b hb => hq b (by omega)
      clear hB hR c0 c1 c2 hr
      have c0 := hB3.cell 0 _ rfl
      have c1 := hB3.cell 1 _ rfl
      have c2 := hB3.cell 2 _ rfl
      go_wp2_with (at_builtin; refine wpList_app ei_int rfl (.const (.slice none 0 0)) (.tmp 25) rfl (.slice none 0 0) [] rfl (World.ownsRow_nil _ w3.heap.size _ _) rfl h3.gens (int_cells _ _) (by omega) (Nat.le_refl _) ?_; intro v' w4 hown hb4; simp only [Nat.zero_add, List.nil_append] at hown; obtain ⟨G, cap, rfl, hcap, hcm, hge, hg4⟩ := own_form hown (by omega); have hB4 := hB3.up hb4 (by omega); have c0 := hB4.cell 0 _ rfl; have c1 := hB4.cell 1 _ rfl; have c2 := hB4.cell 2 _ rfl; have g1 := hB4.free 1; have hne1 : G ≠ w.heap.size := (by omega); have hne2 : w.heap.size ≠ G := (by omega); have gc := (hown.cellAt j (by omega)).trans (show (List.map (Value.int .i64) (gensT τ))[j]? = some (.int .i64 g) by simp [gensT, HK.out]); have gf := hown.frozenAt j)
      generalize hw5 : (w4.setCell ⟨w.heap.size, 1, none⟩ (.slice (some ⟨G, 0, none⟩) τ.length cap)).setCell ⟨G, j, none⟩ (.int .i64 (g + 1)) = w5
      have hB5 : Blk w5 w.heap.size [.int .i64 last, .slice (some ⟨G, 0, none⟩) τ.length cap, .slice B (lenT τ) d] 31 := hw5 ▸ (hB4.set 1 (.slice (some ⟨G, 0, none⟩) τ.length cap)).other ⟨G, j, none⟩ hne2 _
      have hown5 : w5.ownsRow w3.heap.size 3 1 (.slice (some ⟨G, 0, none⟩) τ.length cap) τ.length (((gensT τ).set j (g + 1)).map (Value.int .i64)) := by
        rw [List.map_set, ← hw5]
        exact ((ownsRow_setCell_below hown (a := ⟨w.heap.size, 1, none⟩) (by simp; omega) _).stored j _).1
      have hR5 : Blk w5 (w.heap.size + 1) [.int .i64 0, .slice none 0 0, .slice none 0 0] 31 := hw5 ▸ ((hR3.up hb4 (by omega)).other ⟨w.heap.size, 1, none⟩ (by simp) _).other ⟨G, j, none⟩ (by simp; omega) _
      have up5 : Below w.heap.size w w5 := hw5 ▸ ((up_trans (up_trans hX.up hb3) (hb4.mono (Nat.le_refl _))).setCell (p := ⟨w.heap.size, 1, none⟩) (by simp) _).setCell (p := ⟨G, j, none⟩) (by simp; omega) _
      have h5 := h0.below up5
      have hz5 := hR5.lt
      have hs35 : w3.heap.size ≤ w5.heap.size := by rw [← hw5]; simpa [World.setCell] using hb4.size
      clear hw5 hown hb4 hB4 c0 c1 c2 g1 gc gf hB3 hR3 hb3 h3 hg4
      go_loopw [8, 9] (fun l i wr => ∃ q : Nat, q ≤ lenT τ ∧ i = .int .i64 q ∧ wr.ownsRow w5.heap.size 64 2 l (((thingsF 0 τ).take q).filter (fun p => decide (p.1 < (j : Int)))).length ((((thingsF 0 τ).take q).filter (fun p => decide (p.1 < (j : Int)))).flatMap pairV) ∧ Below w5.heap.size w5 wr) (fun _ i _ => lenT τ - (intOf i).toNat)
      case atStart => exact ⟨0, Nat.zero_le _, rfl, World.ownsRow_nil _ _ _ _, Below.refl _ _⟩
      case round =>
        obtain ⟨q, hq, rfl, hl, hbr⟩ := hrel
        have hBr := hB5.up hbr hB5.lt
        have c2 := hBr.cell 2 _ rfl
        have hzq := hbr.size
        have hfl := filt_len (fun p : Int × Int => decide (p.1 < (j : Int))) (thingsF 0 τ) q
        by_cases hql : q < lenT τ
        · obtain ⟨bB, oB, s, x, rfl, _, _, hgq, hs0, hx0⟩ := (h5.below hbr).things'.pair q (by rw [HLT.out]; exact hql)
          have HN := Lib.hid (filt_next (fun p : Int × Int => decide (p.1 < (j : Int))) _ q _ hgq)
          clear hgq
          by_cases hsj : s < (j : Int)
          · go_wp2_with (at_builtin; refine wpList_app ei_thing rfl (.tmp 50) (.tmp 56) rfl _ _ rfl (hl.alloc _) rfl (RD.one2 (by simp)) (by simp [Value.oneCell']) (by omega) (by simp; omega) ?_; intro v' w6 hown1 hb6)
            go_roundw
            case rel => exact ⟨q + 1, by omega, by go_num, by rw [HN.out, if_pos (decide_eq_true hsj), List.flatMap_append, List.length_append]; exact hown1, (up_trans hbr (up_alloc _ _)).trans hb6⟩
            case measure => simp [intOf]; omega
          · go_wp2_with fail
            go_roundw
            case rel => exact ⟨q + 1, by omega, by go_num, by rw [HN.out, if_neg (by simpa using hsj), List.append_nil]; exact hl, hbr⟩
            case measure => simp [intOf]; omega
        · obtain rfl : q = lenT τ := by omega
          rw [List.take_of_length_le (by rw [HLT.out]; exact Nat.le_refl _), HLo.out] at hl
          rw [List.take_of_length_le (by rw [HLT.out]; exact Nat.le_refl _), HLo.out] at hfl
          obtain ⟨wo, rfl⟩ : ∃ wo : World, wo = wr := ⟨_, rfl⟩
          go_wp2_with (at_builtin; refine wpList_app ei_thing rfl (.tmp 58) (.tmp 62) rfl _ _ rfl (hl.alloc _) rfl (RD.one2 (by simp)) (by simp [Value.oneCell']) (by omega) (by simp; omega) ?_; intro v' w6 hown6 hb6)
          have hb56 : Below w5.heap.size w5 w6 := (up_trans hbr (up_alloc _ _)).trans hb6
          obtain ⟨LA, hLA⟩ : ∃ LA, LA = thingsF 0 (τ.take j) := ⟨_, rfl⟩
          rw [← hLA] at hown6 hfl
          have HLA := Lib.hid hLA
          clear hBr c2 hl hb6 hbr hLA
          go_loopw [8, 10] (fun l i wr => ∃ q : Nat, q ≤ lenT τ ∧ i = .int .i64 q ∧ wr.ownsRow w5.heap.size 64 2 l (LA.length + 1 + (((thingsF 0 τ).take q).filter (fun p => decide ((j : Int) < p.1))).length) (LA.flatMap pairV ++ [.int .i64 j, .int .i64 y] ++ (((thingsF 0 τ).take q).filter (fun p => decide ((j : Int) < p.1))).flatMap pairV) ∧ Below w5.heap.size w5 wr) (fun _ i _ => lenT τ - (intOf i).toNat)
          case atStart => exact ⟨0, Nat.zero_le _, rfl, by simpa using hown6, hb56⟩
          case round =>
            clear hown6 hb56
            obtain ⟨q, hq, rfl, hl, hbr⟩ := hrel
            have hBr := hB5.up hbr hB5.lt
            have c1 := hBr.cell 1 _ rfl
            have c2 := hBr.cell 2 _ rfl
            have hzq := hbr.size
            have hfl3 := filt_len (fun p : Int × Int => decide ((j : Int) < p.1)) (thingsF 0 τ) q
            by_cases hql : q < lenT τ
            · obtain ⟨bB, oB, s, x, rfl, _, _, hgq, hs0, hx0⟩ := (h5.below hbr).things'.pair q (by rw [HLT.out]; exact hql)
              have HN := Lib.hid (filt_next (fun p : Int × Int => decide ((j : Int) < p.1)) _ q _ hgq)
              clear hgq
              by_cases hsj : (j : Int) < s
              · go_wp2_with (at_builtin; refine wpList_app ei_thing rfl (.tmp 79) (.tmp 85) rfl _ _ rfl (hl.alloc _) rfl (RD.one2 (by simp)) (by simp [Value.oneCell']) (by omega) (by simp; omega) ?_; intro v' w7 hown1 hb7)
                go_roundw
                case rel => exact ⟨q + 1, by omega, by go_num, by rw [HN.out, if_pos (decide_eq_true hsj), List.flatMap_append, List.length_append, ← List.append_assoc]; exact hown1, (up_trans hbr (up_alloc _ _)).trans hb7⟩
                case measure => simp [intOf]; omega
              · go_wp2_with fail
                go_roundw
                case rel => exact ⟨q + 1, by omega, by go_num, by rw [HN.out, if_neg (by simpa using hsj), List.append_nil]; exact hl, hbr⟩
                case measure => simp [intOf]; omega
            · obtain rfl : q = lenT τ := by omega
              rw [List.take_of_length_le (by rw [HLT.out]; exact Nat.le_refl _), HHi.out] at hl
              rw [List.take_of_length_le (by rw [HLT.out]; exact Nat.le_refl _), HHi.out] at hfl3
              obtain ⟨AL, cL, rfl, hnL, hcL, _⟩ := own_slice hl
              have g2 := hBr.free 2
              have hownr := own_below hown5 (hbr.mono (Nat.le_refl _))
              have hGlt := (hown5.lt G rfl).2
              have gcr := (hownr.cellAt j (by omega)).trans (show (((gensT τ).set j (g + 1)).map (Value.int .i64))[j]? = some (.int .i64 (g + 1)) by simp [gensT, hkl])
              have hRr := hR5.up hbr (by omega)
              have r0 := hRr.cell 0 _ rfl
              have r1 := hRr.cell 1 _ rfl
              have r2 := hRr.cell 2 _ rfl
              have f0 := hRr.free 0
              have f1 := hRr.free 1
              have f2 := hRr.free 2
              have c0 := hBr.cell 0 _ rfl
              have hne3 : G ≠ w.heap.size + 1 := by omega
              have hne4 : w.heap.size + 1 ≠ G := by omega
              go_wp2_with (go_at_call 26; refine (CM.out _).mono ?_; rintro e w' ⟨rfl, rfl⟩)
              refine bodyPost_ret (v := .tuple #[.agg #[.int .i64 last, .slice (some ⟨G, 0, none⟩) τ.length cap, .slice AL (LA.length + 1 + (thingsF (j + 1) (τ.drop (j + 1))).length) cL], .int .i64 (4096 * (g + 1) + j), .int .i64 0]) (by simp [results, Try.results14, go_sem, r0, r1, r2]) rfl ?_
              have e1 : thingsF 0 (τ.set j (g + 1, some (b', y))) = LA ++ ([((j : Int), y)] ++ thingsF (j + 1) (τ.drop (j + 1))) := by rw [HST.out, HLA.out]; rfl
              refine add_tail last _ (up_trans up5 hbr) hz3 hz5 elo (fun b hb => elo b (by omega)) ?_ ?_ (by simp) ?_ (by simp; omega) (by simpa using hf)
              · rw [gens_set]
                exact hownr
              · rw [e1, List.flatMap_append, List.flatMap_append, ← List.append_assoc]
                exact hl
              · rw [← thingsF_len _ 0, e1]
                simp
                omega
end Go.Proofs.Ytdlbcacdbcnbhaa

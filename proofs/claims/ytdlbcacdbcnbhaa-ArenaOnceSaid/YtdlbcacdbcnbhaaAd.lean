/- The contract of the document's Drop. -/
import Derived.Test.YtdlbcacdbcnbhaaAx
namespace Go.Proofs.Ytdlbcacdbcnbhaa
open Go.RowKit

theorem things_out (τ : List Slot) (k : Nat) (g : Int) (b : Nat) (x : Int) (hk : τ[k]? = some (g, some (b, x))) : thingsF 0 (τ.set k (g, none)) = (thingsF 0 τ).take (ixT τ k) ++ (thingsF 0 τ).drop (ixT τ k + 1) := by
  have hlt := (List.getElem?_eq_some_iff.1 hk).1
  rw [things_set τ k hlt, things_split τ k g _ hk, ixT, List.take_left, List.drop_append, List.drop_of_length_le (i := (thingsF 0 (τ.take k)).length + 1) (by omega), Nat.add_sub_cancel_left]
  rfl
theorem lenT_out (τ : List Slot) (k : Nat) (g : Int) (b : Nat) (x : Int) (hk : τ[k]? = some (g, some (b, x))) : lenT (τ.set k (g, none)) + 1 = lenT τ := by
  have h1 := congrArg List.length (things_out τ k g b x hk)
  have h2 := (List.getElem?_eq_some_iff.1 (things_yes τ k g b x hk).1).1
  rw [thingsF_len, List.length_append, List.length_take, List.length_drop, thingsF_len] at h1
  rw [thingsF_len τ 0] at h2
  unfold ixT at h1
  omega

set_option maxHeartbeats 1000000 in
theorem c_rdrop_no {w : World} {pl : Nat → Prop} {τ : List Slot} {A B : Option Addr} {c d : Nat} (h0 : RT w pl τ A c B d) (last : Int) (h : Int) (er : Int) (he : (er == 0) = false)
    (C0 : ∀ W, Below w.heap.size w W → Calls Try.prog 21 #[.agg #[.int .i64 last, .slice A τ.length c, .slice B (lenT τ) d], .int .i64 h] W fun e w' => e = .returned (.tuple #[.int .i64 0, .int .i64 er]) ∧ Below W.heap.size W w') :
    Calls Try.prog 12 #[.agg #[.int .i64 last, .slice A τ.length c, .slice B (lenT τ) d], .int .i64 h] w (RTPost w pl last τ er) := by
  have hX := box2 w last A τ.length c B (lenT τ) d
  generalize hw2 : (w.alloc (.cells #[.int .i64 last, .slice A τ.length c, .slice B (lenT τ) d] 31)).alloc (.cells #[.int .i64 0, .slice none 0 0, .slice none 0 0] 31) = w2 at hX
  have C := Lib.hid (C0 w2 hX.up)
  have HW := Lib.hid hw2
  have hz := hX.res.lt
  have c0 := hX.box.cell 0 _ rfl
  have c1 := hX.box.cell 1 _ rfl
  have c2 := hX.box.cell 2 _ rfl
  clear hw2 C0
  go_enter Try.func12, Try.ntmps12
  go_wp2_with fail
  rw [HW.out]
  refine Calls.mono C.out ?_
  rintro e w3 ⟨rfl, hb3⟩
  have hB := hX.box.up hb3 hX.box.lt
  have hR := hX.res.up hb3 hX.res.lt
  have c0 := hB.cell 0 _ rfl
  have c1 := hB.cell 1 _ rfl
  have c2 := hB.cell 2 _ rfl
  have r0 := hR.cell 0 _ rfl
  have r1 := hR.cell 1 _ rfl
  have r2 := hR.cell 2 _ rfl
  have f0 := hR.free 0
  have f1 := hR.free 1
  have f2 := hR.free 2
  go_wp2_with fail
  refine bodyPost_ret (v := .tuple #[.agg #[.int .i64 last, .slice A τ.length c, .slice B (lenT τ) d], .int .i64 er]) (by simp [results, Try.results12, go_sem, r0, r1, r2]) rfl ?_
  have up3 := up_trans hX.up hb3
  have up4 : Below w.heap.size w (((w3.setCell ⟨w.heap.size + 1, 0, none⟩ (.int .i64 last)).setCell ⟨w.heap.size + 1, 1, none⟩ (.slice A τ.length c)).setCell ⟨w.heap.size + 1, 2, none⟩ (.slice B (lenT τ) d)) := ((up3.setCell (by simp) _).setCell (by simp) _).setCell (by simp) _
  exact ⟨A, c, B, d, rfl, h0.below up4, up4⟩

/-- What lies behind the first k: the slice, where it may be the old address if nothing is left. -/
theorem RD.rest {w : World} {pl : Nat → Prop} {size n b o : Nat} {xs : List Value} (h : RD w pl size (some ⟨b, o, none⟩) n xs) (k d : Nat) (hk : k ≤ n) (hd : n ≤ d) :
    RD w pl size (if d = k then some ⟨b, o, none⟩ else some ⟨b, o + k * size, none⟩) (n - k) (xs.drop (k * size)) := by
  split
  · next e =>
    have hnk : n - k = 0 := by omega
    have : xs.drop (k * size) = [] := List.drop_of_length_le (by rw [h.1]; exact Nat.mul_le_mul_right _ (by omega))
    rw [hnk, this]
    exact RD.nil _ _ _ _
  · exact h.drop k hk

theorem rt_tail {w w5 : World} {pl : Nat → Prop} {lo5 : Nat} {τ τ' : List Slot} {A B A5 : Option Addr} {c d n5 c5 : Nat} (h0 : RT w pl τ A c B d) (last er : Int) (up5 : Below w.heap.size w w5) (hlo5 : w.heap.size + 1 < lo5) (hlo : ∀ b, lo5 ≤ b → pl b)
    (own5 : w5.ownsRow lo5 64 2 (.slice A5 n5 c5) n5 ((thingsF 0 τ').flatMap pairV)) (hn : n5 = lenT τ') (hg : gensT τ' = gensT τ) (hl : τ'.length = τ.length) :
    RTPost w pl last τ' er (.returned (.tuple #[.agg #[.int .i64 last, .slice A τ.length c, .slice A5 n5 c5], .int .i64 er]))
      ((((w5.setCell ⟨w.heap.size, 2, none⟩ (.slice A5 n5 c5)).setCell ⟨w.heap.size + 1, 0, none⟩ (.int .i64 last)).setCell ⟨w.heap.size + 1, 1, none⟩ (.slice A τ.length c)).setCell ⟨w.heap.size + 1, 2, none⟩ (.slice A5 n5 c5)) := by
  have own6 := ownsRow_setCell_below (ownsRow_setCell_below (ownsRow_setCell_below (ownsRow_setCell_below own5 (a := ⟨w.heap.size, 2, none⟩) (by simp; omega) (.slice A5 n5 c5)) (a := ⟨w.heap.size + 1, 0, none⟩) (by simp; omega) (.int .i64 last)) (a := ⟨w.heap.size + 1, 1, none⟩) (by simp; omega) (.slice A τ.length c)) (a := ⟨w.heap.size + 1, 2, none⟩) (by simp; omega) (.slice A5 n5 c5)
  have up6 := (((up5.setCell (p := ⟨w.heap.size, 2, none⟩) (by simp) (.slice A5 n5 c5)).setCell (p := ⟨w.heap.size + 1, 0, none⟩) (by simp) (.int .i64 last)).setCell (p := ⟨w.heap.size + 1, 1, none⟩) (by simp) (.slice A τ.length c)).setCell (p := ⟨w.heap.size + 1, 2, none⟩) (by simp) (.slice A5 n5 c5)
  obtain ⟨A6, c6, e6, hc6, hm6, rd⟩ := own_slice own6
  cases e6
  subst hn
  refine ⟨A, c, A5, c5, by rw [hl], ⟨?_, rd.lo hlo, by rw [hl]; exact h0.c0, h0.c1, hc6, hm6, by rw [hl]; exact h0.pos, by rw [hl]; exact h0.few⟩, up6⟩
  rw [hl, hg]
  exact (h0.below up6).gens

theorem pairs_cut (L : List (Int × Int)) (k : Nat) : (L.flatMap pairV).take (k * 2) ++ (L.flatMap pairV).drop ((k + 1) * 2) = (L.take k ++ L.drop (k + 1)).flatMap pairV := by
  have t : ∀ (L : List (Int × Int)) (k : Nat), (L.flatMap pairV).take (k * 2) = (L.take k).flatMap pairV ∧ (L.flatMap pairV).drop (k * 2) = (L.drop k).flatMap pairV := by
    intro L
    induction L with
    | nil => intro k; simp
    | cons p L ih =>
      intro k
      cases k with
      | zero => simp
      | succ k =>
        rw [show (k + 1) * 2 = k * 2 + 2 by omega]
        simp [pairV, (ih k).1, (ih k).2]
  rw [(t L k).1, (t L (k + 1)).2, List.flatMap_append]

set_option maxHeartbeats 1000000 in
theorem c_rdrop_ok {w : World} {pl : Nat → Prop} {τ : List Slot} {A B : Option Addr} {c d : Nat} (h0 : RT w pl τ A c B d) (hq : ∀ b, w.heap.size ≤ b → pl b) (last : Int) (h : Int) (k : Nat) (hk : slotF h = k) (b : Nat) (x : Int) (hs : τ[k]? = some (genF h, some (b, x))) :
    Calls Try.prog 12 #[.agg #[.int .i64 last, .slice A τ.length c, .slice B (lenT τ) d], .int .i64 h] w (RTPost w pl last (τ.set k (genF h, none)) 0) := by
  have hX := box2 w last A τ.length c B (lenT τ) d
  have hf := h0.few
  have hl := lenT_le τ
  have hd0 := h0.d0
  have hd1 := h0.d1
  unfold maxLen at hd1
  generalize hw2 : (w.alloc (.cells #[.int .i64 last, .slice A τ.length c, .slice B (lenT τ) d] 31)).alloc (.cells #[.int .i64 0, .slice none 0 0, .slice none 0 0] 31) = w2 at hX
  have h2 := h0.below hX.up
  have C := Lib.hid (c_rat_ok h2 last h k hk b x hs)
  have hix := h2.ixlt k _ b x hs
  have HW := Lib.hid hw2
  have hz := hX.res.lt
  have c0 := hX.box.cell 0 _ rfl
  have c1 := hX.box.cell 1 _ rfl
  have c2 := hX.box.cell 2 _ rfl
  have HP := Lib.hid (things_out τ k _ b x hs)
  have HG := Lib.hid (gens_put τ k _ _ none hs)
  have HLn := Lib.hid (lenT_out τ k _ b x hs)
  clear hw2 hs hk
  go_enter Try.func12, Try.ntmps12
  go_wp2_with fail
  rw [HW.out]
  refine Calls.mono C.out ?_
  rintro e w3 ⟨rfl, hb3⟩
  have hB := hX.box.up hb3 hX.box.lt
  have hR := hX.res.up hb3 hX.res.lt
  clear c0 c1 c2
  have c0 := hB.cell 0 _ rfl
  have c1 := hB.cell 1 _ rfl
  have c2 := hB.cell 2 _ rfl
  have h3 := h2.below hb3
  have hz3 := hR.lt
  obtain ⟨bB, oB, rfl, _, hlB, _⟩ := h3.things.at_ (by omega)
  generalize hik : ixT τ k = ik at HP hix
  have HIK := Lib.hid hik
  clear hik
  have rd1 := h3.things.take ik (by omega)
  have rd2 := h3.things.rest (ik + 1) d (by omega) hd0
  have hll : lenT τ - (ik + 1) + ik = lenT (τ.set k (genF h, none)) := by have := HLn.out; omega
  have HLL := Lib.hid hll
  have hl3 : ik + (lenT τ - (ik + 1)) ≤ 1000000 := by omega
  clear hll
  have elo : ∀ b, w3.heap.size ≤ b → pl b := fun b hb => hq b (by omega)
  by_cases hcd : d = ik + 1
  · subst hcd
    rw [if_pos rfl, show lenT τ - (ik + 1) = 0 by omega] at rd2
    go_wp2_with (first | (at_builtin; refine wpList_app ei_thing rfl (.const (.slice none 0 0)) (.tmp 20) rfl (.slice none 0 0) [] rfl (World.ownsRow_nil _ w3.heap.size _ _) rfl rd1 (fun u hu => pairs_one _ u (List.mem_of_mem_take hu)) (by omega) (Nat.le_refl _) ?_; intro v' w4 hown hb4; simp only [Nat.zero_add, List.nil_append] at hown; have hB4 := hB.up hb4 (by omega); have c0 := hB4.cell 0 _ rfl; have c1 := hB4.cell 1 _ rfl; have c2 := hB4.cell 2 _ rfl; have hs4 := hb4.size) | (at_builtin; refine wpList_app ei_thing rfl (.tmp 22) (.tmp 27) rfl _ _ rfl hown rfl (rd2.below (hb4.mono (Nat.le_refl _))) (fun u hu => pairs_one _ u (List.mem_of_mem_drop hu)) (by omega) (by omega) ?_; intro v'' w5 hown5 hb5; simp only [Nat.add_zero] at hown5; obtain ⟨A5, c5, rfl, hn5, hc5, _⟩ := own_slice hown5; have hB5 := hB4.up hb5 (by omega); have c0 := hB5.cell 0 _ rfl; have c1 := hB5.cell 1 _ rfl; have c2 := hB5.cell 2 _ rfl; have g2 := hB5.free 2; have hR5 := hR.up (hb4.trans hb5) (by omega); have r0 := hR5.cell 0 _ rfl; have r1 := hR5.cell 1 _ rfl; have r2 := hR5.cell 2 _ rfl; have f0 := hR5.free 0; have f1 := hR5.free 1; have f2 := hR5.free 2))
    refine bodyPost_ret (v := .tuple #[.agg #[.int .i64 last, .slice A τ.length c, .slice A5 ik c5], .int .i64 0]) (by simp [results, Try.results12, go_sem, r0, r1, r2]) rfl ?_
    refine rt_tail h0 last 0 (up_trans hX.up (hb3.trans ((hb4.trans hb5).mono hb3.size))) hz3 elo (τ' := τ.set k (genF h, none)) ?_ (by have := HLL.out; omega) HG.out (by simp)
    rw [HP.out, ← pairs_cut]
    exact hown5
  · rw [if_neg hcd] at rd2
    go_wp2_with (first | (at_builtin; refine wpList_app ei_thing rfl (.const (.slice none 0 0)) (.tmp 20) rfl (.slice none 0 0) [] rfl (World.ownsRow_nil _ w3.heap.size _ _) rfl rd1 (fun u hu => pairs_one _ u (List.mem_of_mem_take hu)) (by omega) (Nat.le_refl _) ?_; intro v' w4 hown hb4; simp only [Nat.zero_add, List.nil_append] at hown; have hB4 := hB.up hb4 (by omega); have c0 := hB4.cell 0 _ rfl; have c1 := hB4.cell 1 _ rfl; have c2 := hB4.cell 2 _ rfl; have hs4 := hb4.size) | (at_builtin; refine wpList_app ei_thing rfl (.tmp 22) (.tmp 27) rfl _ _ rfl hown rfl (rd2.below (hb4.mono (Nat.le_refl _))) (fun u hu => pairs_one _ u (List.mem_of_mem_drop hu)) (by omega) (by omega) ?_; intro v'' w5 hown5 hb5; skip; obtain ⟨A5, c5, rfl, hn5, hc5, _⟩ := own_slice hown5; have hB5 := hB4.up hb5 (by omega); have c0 := hB5.cell 0 _ rfl; have c1 := hB5.cell 1 _ rfl; have c2 := hB5.cell 2 _ rfl; have g2 := hB5.free 2; have hR5 := hR.up (hb4.trans hb5) (by omega); have r0 := hR5.cell 0 _ rfl; have r1 := hR5.cell 1 _ rfl; have r2 := hR5.cell 2 _ rfl; have f0 := hR5.free 0; have f1 := hR5.free 1; have f2 := hR5.free 2))
    refine bodyPost_ret (v := .tuple #[.agg #[.int .i64 last, .slice A τ.length c, .slice A5 (ik + (lenT τ - (ik + 1))) c5], .int .i64 0]) (by simp [results, Try.results12, go_sem, r0, r1, r2]) rfl ?_
    refine rt_tail h0 last 0 (up_trans hX.up (hb3.trans ((hb4.trans hb5).mono hb3.size))) hz3 elo (τ' := τ.set k (genF h, none)) ?_ (by have := HLL.out; omega) HG.out (by simp)
    rw [HP.out, ← pairs_cut]
    exact hown5
end Go.Proofs.Ytdlbcacdbcnbhaa

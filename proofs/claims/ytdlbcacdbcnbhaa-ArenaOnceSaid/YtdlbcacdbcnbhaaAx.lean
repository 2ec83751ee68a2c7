/- The contracts of the document's Handles, Set and Drop. -/
import Derived.Test.YtdlbcacdbcnbhaaAv
namespace Go.Proofs.Ytdlbcacdbcnbhaa
open Go.RowKit

def hdl (τ : List Slot) (p : Int × Int) : Int := makeH p.1 ((gensT τ).getD p.1.toNat 0)
theorem hdls (τ : List Slot) : (thingsF 0 τ).map (hdl τ) = handlesF 0 τ := (handles_map τ 0 τ fun j s h => by rwa [Nat.zero_add]).symm

set_option maxHeartbeats 1000000 in
theorem c_rhandles {w : World} {pl : Nat → Prop} {τ : List Slot} {A B : Option Addr} {c d : Nat} (h0 : RT w pl τ A c B d) (last : Int) :
    Calls Try.prog 29 #[.agg #[.int .i64 last, .slice A τ.length c, .slice B (lenT τ) d]] w (IntsPost w (handlesF 0 τ)) := by
  have hb0 := up_alloc w (.cells #[.int .i64 last, .slice A τ.length c, .slice B (lenT τ) d] 31)
  have hB := box3 w last A τ.length c B (lenT τ) d
  have hf := h0.few
  have hl := lenT_le τ
  generalize hw1 : w.alloc (.cells #[.int .i64 last, .slice A τ.length c, .slice B (lenT τ) d] 31) = w1 at hB hb0
  have h := h0.below hb0
  have hz := hB.lt
  have HW := Lib.hid hw1
  have HL := Lib.hid (thingsF_len τ 0)
  clear h0 hw1
  rw [← hdls τ]
  go_enter Try.func29, Try.ntmps29
  go_wp2_with fail
  rw [HW.out]
  go_loopw [3, 4] (fun v i wr => ∃ k : Nat, k ≤ lenT τ ∧ i = .int .i64 k ∧ wr.ownsRow w1.heap.size 3 1 v (((thingsF 0 τ).take k).map (hdl τ)).length ((((thingsF 0 τ).take k).map (hdl τ)).map (Value.int .i64)) ∧ Below w1.heap.size w1 wr) (fun _ i _ => lenT τ - (intOf i).toNat)
  case atStart => exact ⟨0, Nat.zero_le _, rfl, World.ownsRow_nil _ _ _ _, Below.refl _ _⟩
  case round =>
    obtain ⟨k, hk, rfl, hown, hb⟩ := hrel
    have hBr := hB.up hb hz
    have c1 := hBr.cell 1 _ rfl
    have c2 := hBr.cell 2 _ rfl
    have hsz := hb.size
    have hl5 : (((thingsF 0 τ).take k).map (hdl τ)).length ≤ 4096 := by
      rw [List.length_map, List.length_take, HL.out]; omega
    clear hBr
    by_cases hlt : k < lenT τ
    · obtain ⟨bB, oB, s, x, rfl, _, _, hg, hs0, _⟩ := (h.below hb).things'.pair k (by rw [HL.out]; exact hlt)
      obtain ⟨bA, oA, rfl, _, _, hA⟩ := (h.below hb).gen
      have hbd := thingsF_bd τ 0 _ (List.mem_of_getElem? hg)
      obtain ⟨ks, rfl⟩ : ∃ ks : Nat, s = ks := ⟨s.toNat, by have := hbd.1; simp only at this; omega⟩
      have hks : ks < τ.length := by have := hbd.2; simp only at this; omega
      have hA := hA ks _ (List.getElem?_eq_getElem hks)
      have hgd : hdl τ ((ks : Int), x) = makeH ks τ[ks].1 := by
        simp [hdl, gensT, hks]
      have HN := Lib.hid (show ((thingsF 0 τ).take (k + 1)).map (hdl τ) = ((thingsF 0 τ).take k).map (hdl τ) ++ [makeH ks τ[ks].1] by rw [take_next _ k _ hg, List.map_append, ← hgd]; rfl)
      generalize hgen : τ[ks].1 = g at hA HN
      have HG := Lib.hid hgen
      clear hg hbd hgd hgen
      go_wp2_with (first | (go_at_call 26; refine (c_rmake _ _ _).mono ?_; rintro e w' ⟨rfl, rfl⟩) | (at_builtin; refine wpList_app ei_int rfl (.tmp 31) (.tmp 33) rfl _ _ rfl (hown.alloc _) rfl (RD.one (by simp)) (by simp [Value.oneCell']) (by omega) (by simp; omega) ?_; intro v' w2 hown1 hb1))
      go_roundw
      case rel => exact ⟨k + 1, by omega, by go_num, by rw [HN.out, List.map_append, List.length_append, ← HG.out]; exact hown1, (up_trans hb (up_alloc _ _)).trans hb1⟩
      case measure => simp [intOf]; omega
    · obtain rfl : k = lenT τ := by omega
      go_wp2
      go_ret
      rw [List.take_of_length_le (by rw [HL.out]; exact Nat.le_refl _)] at hown
      exact IntsPost.of' hown (by omega) (up_trans hb0 hb)

/-- A document's table, and an error. -/
def RTPost (w : World) (pl : Nat → Prop) (last : Int) (τ : List Slot) (er : Int) (e : Ending) (w' : World) : Prop :=
  ∃ A c B d, e = .returned (.tuple #[.agg #[.int .i64 last, .slice A τ.length c, .slice B (lenT τ) d], .int .i64 er]) ∧ RT w' pl τ A c B d ∧ Below w.heap.size w w'

/-- The world of a function that boxes its table, and has a cell for the table that it gives. -/
structure Box2 (w w2 : World) (last : Int) (A : Option Addr) (n c : Nat) (B : Option Addr) (m d : Nat) : Prop where
  up : Below w.heap.size w w2
  box : Blk w2 w.heap.size [.int .i64 last, .slice A n c, .slice B m d] 31
  res : Blk w2 (w.heap.size + 1) [.int .i64 0, .slice none 0 0, .slice none 0 0] 31
theorem box2 (w : World) (last : Int) (A : Option Addr) (n c : Nat) (B : Option Addr) (m d : Nat) :
    Box2 w ((w.alloc (.cells #[.int .i64 last, .slice A n c, .slice B m d] 31)).alloc (.cells #[.int .i64 0, .slice none 0 0, .slice none 0 0] 31)) last A n c B m d := by
  refine ⟨up_trans (up_alloc _ _) (up_alloc _ _), (box3 w last A n c B m d).alloc _, ?_⟩
  have := box3 (w.alloc (.cells #[.int .i64 last, .slice A n c, .slice B m d] 31)) 0 none 0 0 none 0 0
  simpa using this

set_option maxHeartbeats 1000000 in
theorem c_rset_no {w : World} {pl : Nat → Prop} {τ : List Slot} {A B : Option Addr} {c d : Nat} (h0 : RT w pl τ A c B d) (last : Int) (h y : Int) (er : Int) (he : (er == 0) = false)
    (C0 : ∀ W, Below w.heap.size w W → Calls Try.prog 21 #[.agg #[.int .i64 last, .slice A τ.length c, .slice B (lenT τ) d], .int .i64 h] W fun e w' => e = .returned (.tuple #[.int .i64 0, .int .i64 er]) ∧ Below W.heap.size W w') :
    Calls Try.prog 10 #[.agg #[.int .i64 last, .slice A τ.length c, .slice B (lenT τ) d], .int .i64 h, .int .i64 y] w (RTPost w pl last τ er) := by
  have hX := box2 w last A τ.length c B (lenT τ) d
  generalize hw2 : (w.alloc (.cells #[.int .i64 last, .slice A τ.length c, .slice B (lenT τ) d] 31)).alloc (.cells #[.int .i64 0, .slice none 0 0, .slice none 0 0] 31) = w2 at hX
  have C := Lib.hid (C0 w2 hX.up)
  have HW := Lib.hid hw2
  have hz := hX.res.lt
  have c0 := hX.box.cell 0 _ rfl
  have c1 := hX.box.cell 1 _ rfl
  have c2 := hX.box.cell 2 _ rfl
  clear hw2 C0
  go_enter Try.func10, Try.ntmps10
  go_wp2_with fail
  rw [HW.out]
  refine Calls.mono C.out ?_
  rintro e w3 ⟨rfl, hb3⟩
  have hB := hX.box.up hb3 hX.box.lt
  have hR := hX.res.up hb3 hX.res.lt
  have c0 := hB.cell 0 _ rfl
  have c1 := hB.cell 1 _ rfl
  have c2 := hB.cell 2 _ rfl
  have r0 := hR.cell 0 _ rfl
  have r1 := hR.cell 1 _ rfl
  have r2 := hR.cell 2 _ rfl
  have f0 := hR.free 0
  have f1 := hR.free 1
  have f2 := hR.free 2
  go_wp2_with fail
  refine bodyPost_ret (v := .tuple #[.agg #[.int .i64 last, .slice A τ.length c, .slice B (lenT τ) d], .int .i64 er]) (by simp [results, Try.results10, go_sem, r0, r1, r2]) rfl ?_
  have up3 := up_trans hX.up hb3
  have up4 : Below w.heap.size w (((w3.setCell ⟨w.heap.size + 1, 0, none⟩ (.int .i64 last)).setCell ⟨w.heap.size + 1, 1, none⟩ (.slice A τ.length c)).setCell ⟨w.heap.size + 1, 2, none⟩ (.slice B (lenT τ) d)) := ((up3.setCell (by simp) _).setCell (by simp) _).setCell (by simp) _
  exact ⟨A, c, B, d, rfl, h0.below up4, up4⟩

theorem RT.ixlt {w : World} {pl : Nat → Prop} {τ : List Slot} {A B : Option Addr} {c d : Nat} (_ : RT w pl τ A c B d) (k : Nat) (g : Int) (b : Nat) (x : Int) (hk : τ[k]? = some (g, some (b, x))) : ixT τ k < lenT τ := by
  have := (List.getElem?_eq_some_iff.1 (things_yes τ k g b x hk).1).1
  rwa [thingsF_len τ 0] at this
/-- The thing of a slot is another one. -/
theorem things_put (τ : List Slot) (k : Nat) (g : Int) (b : Nat) (x : Int) (hk : τ[k]? = some (g, some (b, x))) (b' : Nat) (y : Int) : thingsF 0 (τ.set k (g, some (b', y))) = (thingsF 0 τ).set (ixT τ k) ((k : Int), y) := by
  have hlt := (List.getElem?_eq_some_iff.1 hk).1
  rw [things_set τ k hlt, things_split τ k g _ hk, ixT, List.set_append_right _ _ (Nat.le_refl _), Nat.sub_self]
  rfl
theorem lenT_put (τ : List Slot) (k : Nat) (g : Int) (b : Nat) (x : Int) (hk : τ[k]? = some (g, some (b, x))) (b' : Nat) (y : Int) : lenT (τ.set k (g, some (b', y))) = lenT τ := by
  rw [← thingsF_len _ 0, things_put τ k g b x hk, List.length_set, thingsF_len]
theorem gens_put (τ : List Slot) (k : Nat) (g : Int) (o o' : Option (Nat × Int)) (hk : τ[k]? = some (g, o)) : gensT (τ.set k (g, o')) = gensT τ := by
  rw [gens_set]
  apply List.ext_getElem?
  intro i
  rw [List.getElem?_set]
  split
  · next e =>
    subst e
    have hlt := (List.getElem?_eq_some_iff.1 hk).1
    rw [if_pos (by simpa [gensT] using hlt)]
    simp [gensT, hk]
  · rfl

theorem pairs_one (L : List (Int × Int)) : ∀ u ∈ L.flatMap pairV, u.oneCell' = true := by
  intro u hu
  obtain ⟨p, _, hp⟩ := List.mem_flatMap.1 hu
  simp only [pairV, List.mem_cons, List.not_mem_nil, or_false] at hp
  rcases hp with rfl | rfl <;> rfl

set_option maxHeartbeats 1000000 in
theorem c_rset_ok {w : World} {pl : Nat → Prop} {τ : List Slot} {A B : Option Addr} {c d : Nat} (h0 : RT w pl τ A c B d) (hq : ∀ b, w.heap.size ≤ b → pl b) (last : Int) (h y : Int) (k : Nat) (hk : slotF h = k) (b : Nat) (x : Int) (hs : τ[k]? = some (genF h, some (b, x))) (b' : Nat) :
    Calls Try.prog 10 #[.agg #[.int .i64 last, .slice A τ.length c, .slice B (lenT τ) d], .int .i64 h, .int .i64 y] w (RTPost w pl last (τ.set k (genF h, some (b', y))) 0) := by
  have hX := box2 w last A τ.length c B (lenT τ) d
  have hf := h0.few
  have hl := lenT_le τ
  generalize hw2 : (w.alloc (.cells #[.int .i64 last, .slice A τ.length c, .slice B (lenT τ) d] 31)).alloc (.cells #[.int .i64 0, .slice none 0 0, .slice none 0 0] 31) = w2 at hX
  have h2 := h0.below hX.up
  have C := Lib.hid (c_rat_ok h2 last h k hk b x hs)
  have hix := h2.ixlt k _ b x hs
  have HW := Lib.hid hw2
  have hz := hX.res.lt
  have c0 := hX.box.cell 0 _ rfl
  have c1 := hX.box.cell 1 _ rfl
  have c2 := hX.box.cell 2 _ rfl
  have HP := Lib.hid (things_put τ k _ b x hs b' y)
  have HG := Lib.hid (gens_put τ k _ _ (some (b', y)) hs)
  have HLn := Lib.hid (lenT_put τ k _ b x hs b' y)
  have hyy : (thingsF 0 τ)[ixT τ k]? = some ((k : Int), x) := (things_yes τ k _ b x hs).1
  have hy : ((thingsF 0 τ).flatMap pairV)[ixT τ k * 2 + 1]? = some (.int .i64 x) := by
    rw [ixT, flat2_get pairV pairV_len _ _ 1 _ (things_yes τ k _ b x hs).1 (by omega)]
    rfl
  clear hw2 hs hk
  go_enter Try.func10, Try.ntmps10
  go_wp2_with fail
  rw [HW.out]
  refine Calls.mono C.out ?_
  rintro e w3 ⟨rfl, hb3⟩
  have hB := hX.box.up hb3 hX.box.lt
  have hR := hX.res.up hb3 hX.res.lt
  clear c0 c1 c2
  have c0 := hB.cell 0 _ rfl
  have c1 := hB.cell 1 _ rfl
  have c2 := hB.cell 2 _ rfl
  have g2 := hB.free 2
  have h3 := h2.below hb3
  have hz3 := hR.lt
  generalize hik : ixT τ k = ik at HP hix hy hyy
  have HIK := Lib.hid hik
  have HY := Lib.hid hy
  have HYY := Lib.hid hyy
  clear hik hy hyy
  go_wp2_with (at_builtin; refine wpList_app ei_thing rfl (.const (.slice none 0 0)) (.tmp 19) rfl (.slice none 0 0) [] rfl (World.ownsRow_nil _ w3.heap.size _ _) rfl h3.things (pairs_one _) (by omega) (Nat.le_refl _) ?_; intro v' w4 hown hb4; simp only [Nat.zero_add, List.nil_append] at hown; obtain ⟨g, cap, rfl, hcap, hcm, hge, hg4⟩ := own_form hown (by omega); have hB4 := hB.up hb4 (by omega); have c0 := hB4.cell 0 _ rfl; have c1 := hB4.cell 1 _ rfl; have c2 := hB4.cell 2 _ rfl; have g2 := hB4.free 2; have hne1 : g ≠ w.heap.size := (by omega); have hne2 : w.heap.size ≠ g := (by omega); have hne3 : g ≠ w.heap.size + 1 := (by omega); have hne4 : w.heap.size + 1 ≠ g := (by omega); have gc := (hown.cellAt (ik * 2 + 1) (by omega)).trans HY.out; have gf := hown.frozenAt (ik * 2 + 1); have hR4 := hR.up hb4 (by omega); have r0 := hR4.cell 0 _ rfl; have r1 := hR4.cell 1 _ rfl; have r2 := hR4.cell 2 _ rfl; have f0 := hR4.free 0; have f1 := hR4.free 1; have f2 := hR4.free 2)
  refine bodyPost_ret (v := .tuple #[.agg #[.int .i64 last, .slice A τ.length c, .slice (some ⟨g, 0, none⟩) (lenT τ) cap], .int .i64 0]) (by simp [results, Try.results10, go_sem, r0, r1, r2]) rfl ?_
  have up4 := up_trans hX.up (up_trans hb3 hb4)
  have own2 := (ownsRow_setCell_below hown (a := ⟨w.heap.size, 2, none⟩) (by simp; omega) (.slice (some ⟨g, 0, none⟩) (lenT τ) cap))
  have own3 := (own2.stored (ik * 2 + 1) (.int .i64 y)).1
  have own4 := ownsRow_setCell_below (ownsRow_setCell_below (ownsRow_setCell_below own3 (a := ⟨w.heap.size + 1, 0, none⟩) (by simp; omega) (.int .i64 last)) (a := ⟨w.heap.size + 1, 1, none⟩) (by simp; omega) (.slice A τ.length c)) (a := ⟨w.heap.size + 1, 2, none⟩) (by simp; omega) (.slice (some ⟨g, 0, none⟩) (lenT τ) cap)
  have up5 := ((((up4.setCell (p := ⟨w.heap.size, 2, none⟩) (by simp) (.slice (some ⟨g, 0, none⟩) (lenT τ) cap)).setCell (p := ⟨g, ik * 2 + 1, none⟩) (by simp; omega) (.int .i64 y)).setCell (p := ⟨w.heap.size + 1, 0, none⟩) (by simp) (.int .i64 last)).setCell (p := ⟨w.heap.size + 1, 1, none⟩) (by simp) (.slice A τ.length c)).setCell (p := ⟨w.heap.size + 1, 2, none⟩) (by simp) (.slice (some ⟨g, 0, none⟩) (lenT τ) cap)
  have h5 := h0.below up5
  have rd := RD.of_own own4
  have elo : ∀ b, w3.heap.size ≤ b → pl b := fun b hb => hq b (by omega)
  refine ⟨A, c, some ⟨g, 0, none⟩, cap, by rw [List.length_set, HLn.out], ⟨?_, ?_, by rw [List.length_set]; exact h0.c0, h0.c1, by rw [HLn.out]; exact hcap, ?_, by rw [List.length_set]; exact h0.pos, by rw [List.length_set]; exact hf⟩, up5⟩
  · rw [List.length_set, HG.out]
    exact h5.gens
  · rw [HLn.out, HP.out, ← flat2_set pairV pairV_len (thingsF 0 τ) ik ((k : Int), x) ((k : Int), y) (.int .i64 y) 1 HYY.out (by omega) rfl]
    exact rd.lo elo
  · exact hcm
end Go.Proofs.Ytdlbcacdbcnbhaa

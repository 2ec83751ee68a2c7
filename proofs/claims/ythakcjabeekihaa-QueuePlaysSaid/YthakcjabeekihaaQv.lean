/- The contracts of the document's Push. -/
import Derived.Test.YthakcjabeekihaaQu
namespace Go.Proofs.Ythakcjabeekihaa
open Go.RowKit

theorem own_snoc {w : World} {lo n : Nat} {v : Value} {dl : List Int} {x : Int} (h : w.ownsRow lo 3 1 v n (dl.map (Value.int .i64) ++ [.int .i64 x])) : w.ownsRow lo 3 1 v n ((dl ++ [x]).map (Value.int .i64)) := by
  rw [List.map_append]
  exact h

set_option maxHeartbeats 1000000 in
theorem c_rpush_range {w : World} {pl : Nat → Prop} {D : List DQ} {A : Option Addr} {c : Nat} (h0 : RQ w pl D A c) (room q x : Int) (hq : q < 0 ∨ (D.length : Int) ≤ q) :
    Calls Try.prog 14 #[.agg #[.int .i64 room, .slice A D.length c], .int .i64 q, .int .i64 x] w (DPost w pl room (numsD D) fun v => .tuple #[v, .int .i64 8]) := by
  have hX := qbox w room A D.length c
  generalize hw2 : (w.alloc (.cells #[.int .i64 room, .slice A D.length c] 30)).alloc (.cells #[.int .i64 0, .slice none 0 0] 30) = w2 at hX
  have C := Lib.hid (fun W => c_is_no room A D.length c q hq W)
  have HW := Lib.hid hw2
  have hz := hX.res.lt
  clear hw2 hq
  go_enter Try.func14, Try.ntmps14
  go_wp2_with fail
  rw [HW.out]
  refine Calls.mono (C.out _) ?_
  rintro e w3 ⟨rfl, hb3⟩
  have hB := hX.box.up hb3 hX.box.lt
  have hR := hX.res.up hb3 hX.res.lt
  have c0 := hB.cell 0 _ rfl
  have c1 := hB.cell 1 _ rfl
  have r0 := hR.cell 0 _ rfl
  have r1 := hR.cell 1 _ rfl
  have f0 := hR.free 0
  have f1 := hR.free 1
  go_wp2_with fail
  refine bodyPost_ret (v := .tuple #[.agg #[.int .i64 room, .slice A D.length c], .int .i64 8]) (by simp [results, Try.results14, go_sem, r0, r1]) rfl ?_
  exact d_same h0 room (fun v => .tuple #[v, .int .i64 8]) (up_trans hX.up hb3)

set_option maxHeartbeats 1000000 in
theorem c_rpush_full {w : World} {pl : Nat → Prop} {D : List DQ} {A : Option Addr} {c : Nat} (h0 : RQ w pl D A c) (room : Nat) (hr : sumlen (numsD D) = room) (h1 : room ≤ 1024) (q : Nat) (x : Int) (hq : q < D.length) :
    Calls Try.prog 14 #[.agg #[.int .i64 room, .slice A D.length c], .int .i64 q, .int .i64 x] w (DPost w pl room (numsD D) fun v => .tuple #[v, .int .i64 10]) := by
  have hX := qbox w room A D.length c
  generalize hw2 : (w.alloc (.cells #[.int .i64 room, .slice A D.length c] 30)).alloc (.cells #[.int .i64 0, .slice none 0 0] 30) = w2 at hX
  have h2 := h0.below hX.up
  have C := Lib.hid (fun W => c_is room A D.length c q hq W)
  have C2 := Lib.hid (fun W (hb : Below w2.heap.size w2 W) => c_rfree (h2.below hb) room 0 (by omega) h1)
  have HW := Lib.hid hw2
  have hz := hX.res.lt
  clear hw2 hq hr
  go_enter Try.func14, Try.ntmps14
  go_wp2_with fail
  rw [HW.out]
  refine Calls.mono (C.out _) ?_
  rintro e w3 ⟨rfl, hb3⟩
  have hB := hX.box.up hb3 hX.box.lt
  have hR := hX.res.up hb3 hX.res.lt
  have c0 := hB.cell 0 _ rfl
  have c1 := hB.cell 1 _ rfl
  go_wp2_with fail
  refine Calls.mono (C2.out _ hb3) ?_
  rintro e w4 ⟨rfl, hb4⟩
  have hB4 := hB.up hb4 hB.lt
  have hR4 := hR.up hb4 hR.lt
  clear c0 c1
  have c0 := hB4.cell 0 _ rfl
  have c1 := hB4.cell 1 _ rfl
  have r0 := hR4.cell 0 _ rfl
  have r1 := hR4.cell 1 _ rfl
  have f0 := hR4.free 0
  have f1 := hR4.free 1
  go_wp2_with fail
  refine bodyPost_ret (v := .tuple #[.agg #[.int .i64 room, .slice A D.length c], .int .i64 10]) (by simp [results, Try.results14, go_sem, r0, r1]) rfl ?_
  exact d_same h0 room (fun v => .tuple #[v, .int .i64 10]) (up_trans (up_trans hX.up hb3) hb4)

set_option maxHeartbeats 4000000 in
theorem c_rpush_ok {w : World} {pl : Nat → Prop} {D : List DQ} {A : Option Addr} {c : Nat} (h0 : RQ w pl D A c) (hq : ∀ b, w.heap.size ≤ b → pl b) (room fr : Nat) (hr : fr + 1 + sumlen (numsD D) = room) (h1 : room ≤ 1024) (q : Nat) (x : Int) (d : DQ) (hd : D[q]? = some d) :
    Calls Try.prog 14 #[.agg #[.int .i64 room, .slice A D.length c], .int .i64 q, .int .i64 x] w (DPost w pl room ((numsD D).set q (d.2.2 ++ [x])) fun v => .tuple #[v, .int .i64 0]) := by
  have hX := qbox w room A D.length c
  have hsl := sumlen_le _ _ _ (nums_get hd)
  generalize hw2 : (w.alloc (.cells #[.int .i64 room, .slice A D.length c] 30)).alloc (.cells #[.int .i64 0, .slice none 0 0] 30) = w2 at hX
  have h2 := h0.below hX.up
  have hql := (List.getElem?_eq_some_iff.1 hd).1
  have C := Lib.hid (fun W => c_is room A D.length c q hql W)
  have C2 := Lib.hid (fun W (hb : Below w2.heap.size w2 W) => c_rfree (h2.below hb) room (fr + 1) (by omega) h1)
  have HW := Lib.hid hw2
  have hz := hX.res.lt
  have hq2 := h0.q2
  have hql2 : (q : Int) < D.length := by omega
  have hq0 : (0 : Int) ≤ q := by omega
  have HD := Lib.hid hd
  have hfr : (((fr + 1 : Nat) : Int) == 0) = false := beq_eq_false_iff_ne.2 (by omega)
  have HR := Lib.hid hr
  clear hw2 hd hr
  go_enter Try.func14, Try.ntmps14
  go_wp2_with fail
  rw [HW.out]
  refine Calls.mono (C.out _) ?_
  rintro e w3 ⟨rfl, hb3⟩
  have hB := hX.box.up hb3 hX.box.lt
  have hR := hX.res.up hb3 hX.res.lt
  have c0 := hB.cell 0 _ rfl
  have c1 := hB.cell 1 _ rfl
  go_wp2_with fail
  refine Calls.mono (C2.out _ hb3) ?_
  rintro e w4 ⟨rfl, hb4'⟩
  have hb4 := up_trans hb3 hb4'
  have hB4 := hB.up hb4' hB.lt
  have hR4 := hR.up hb4' hR.lt
  clear c0 c1 hB hR hb3 hb4'
  have hz3 := hR4.lt
  have h3' : RQ w4 (fun b => pl b ∧ b ≠ w.heap.size + 1) D A c := ((h0.lo (pl' := fun b => pl b ∧ b ≠ w.heap.size + 1) fun b hb hp => ⟨hp, by omega⟩).below hX.up).below hb4
  have hq3 : ∀ b, w4.heap.size ≤ b → pl b ∧ b ≠ w.heap.size + 1 := fun b hb => ⟨hq b (by omega), by omega⟩
  obtain ⟨b, o, rfl, hpb, hlb, hA⟩ := h3'.at_
  have hr1 : w.heap.size ≠ w.heap.size + 1 := by omega
  have hr2 := hpb.2
  have hA := hA q d HD.out
  have hok := h3'.inn d (List.mem_of_getElem? HD.out)
  obtain ⟨dA, dc, dl⟩ := d
  have hfew : dl.length ≤ 1023 := by simp only at hsl; have := HR.out; omega
  have HNS := Lib.hid (fun A' c' => nums_set D q (A', c', dl ++ [x]))
  simp only [sliceV] at hA
  have hrd := hok.rd
  simp only at hrd
  clear hsl hok C C2
  go_wp2_with fail
  go_region_held3 (fun W => Only (· = w.heap.size + 1) w4 W ∧ W.cell? ⟨w.heap.size, 0, none⟩ = some (.int .i64 room) ∧ W.cell? ⟨w.heap.size, 1, none⟩ = some (.slice (some ⟨b, o, none⟩) D.length c) ∧ W.cell? ⟨b, o + q, none⟩ = some (.slice dA dl.length dc) ∧ ∃ y z, Blk W (w.heap.size + 1) [y, z] 30)
    (first | exact dr_S hB4 hr1 hA hlb hr2 ((Only.refl _ _).drewN 1) ⟨_, _, hR4⟩ | exact dr_next hB4 hr1 hA hlb hr2 (by assumption) (by assumption) | exact dr_next hB4 hr1 hA hlb hr2 (up_alloc _ _) (by assumption) | exact dr_put hB4 hr1 hA hlb hr2 _ _ (by assumption) | exact dr_low hB4 hr1 hA hlb hr2 hb2 (by simp) hz3 (by assumption))
    (first
      | (refine step_app ei_int rfl (.const (.slice none 0 0)) (.tmp 23) rfl (.slice none 0 0) [] rfl (World.ownsRow_nil _ _ _ _) rfl (hrd.only (And.left (by assumption)) (fun k e h => h.2 e)) (int_cells _ _) (by omega) (Nat.le_refl _) ?_; intro v1 W1 hown1 hb1; simp only [Nat.zero_add, List.nil_append] at hown1; have hs1 : w4.heap.size ≤ W1.heap.size := (by have := hb1.size; simp at this; omega); have hsA : w4.heap.size ≤ W1.heap.size := hs1)
      | (refine step_app ei_int rfl (.tmp 24) (.tmp 26) rfl _ _ rfl (hown1.alloc _) rfl (RD.one (by simp)) (by simp [Value.oneCell']) (by omega) (by simp; omega) ?_; intro v2 W2 hown2 hb2; have hs2 : w4.heap.size ≤ W2.heap.size := (by have := hb2.size; first | exact Nat.le_trans hs1 this | (simp at this; omega)); have hown2 := own_snoc hown2)
      | (refine step_app ei_int rfl (.tmp 24) (.tmp 26) rfl _ _ rfl hown1 rfl (RD.below (RD.below (RD.one (w := w4) rfl) (up_drewN _ 1)) hb1) (by simp [Value.oneCell']) (by omega) (by have := hb1.size; exact this) ?_; intro v2 W2 hown2 hb2; have hs2 : w4.heap.size ≤ W2.heap.size := (by have := hb2.size; first | exact Nat.le_trans hs1 this | (simp at this; omega)); have hown2 := own_snoc hown2)
      | (go_at_call 24; obtain ⟨A2, c2, rfl, dok2⟩ := dok_of (pl := fun b => pl b ∧ b ≠ w.heap.size + 1) hown2 (fun b hb => hq3 b (Nat.le_trans (by first | exact Nat.le_refl _ | simp) hb)) (by simp; omega); have ho2 : Only (· = w.heap.size + 1) w4 W2 := (And.left (by assumption)); have cP := c_put (h3'.only ho2 (fun k e h => h.2 e)) (fun b hb => hq3 b (Nat.le_trans ho2.size hb)) room q hql _ dok2; simp only [List.length_append, List.length_singleton] at cP; refine cP.mono ?_; rintro e w5 ⟨A4, c4, rfl, R4, hb5⟩; have ho5 := dr_only hb5 (by assumption); obtain ⟨y4, z4, hR5⟩ := dr_res hb5 (by assumption); have r0 := hR5.cell 0 _ rfl; have r1 := hR5.cell 1 _ rfl; have f0 := hR5.free 0; have f1 := hR5.free 1))
  all_goals
    go_wp2
    refine bodyPost_ret (v := .tuple #[.agg #[.int .i64 room, .slice A4 D.length c4], .int .i64 0]) (by simp [results, Try.results14, go_sem, r0, r1]) rfl ?_
    have hfin := d_put R4 (HNS.out _ _) room (fun v => .tuple #[v, .int .i64 0]) (hX.up.trans ((hb4.mono (by omega)).trans (ho5.toBelow (by omega) (fun k e => by omega))))
    rw [List.length_set] at hfin
    exact hfin
end Go.Proofs.Ythakcjabeekihaa

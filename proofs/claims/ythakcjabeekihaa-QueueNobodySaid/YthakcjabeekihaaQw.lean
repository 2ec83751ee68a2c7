/- The contracts of the document's Remove. -/
import Derived.Test.YthakcjabeekihaaQv
import Derived.IntWalk
namespace Go.Proofs.Ythakcjabeekihaa
open Go.RowKit

set_option maxHeartbeats 1000000 in
theorem c_rremove_range {w : World} {pl : Nat → Prop} {D : List DQ} {A : Option Addr} {c : Nat} (h0 : RQ w pl D A c) (room q x : Int) (hq : q < 0 ∨ (D.length : Int) ≤ q) :
    Calls Try.prog 10 #[.agg #[.int .i64 room, .slice A D.length c], .int .i64 q, .int .i64 x] w (DPost w pl room (numsD D) fun v => .tuple #[v, .bool false]) := by
  have hX := qbox w room A D.length c
  generalize hw2 : (w.alloc (.cells #[.int .i64 room, .slice A D.length c] 30)).alloc (.cells #[.int .i64 0, .slice none 0 0] 30) = w2 at hX
  have C := Lib.hid (fun W => c_is_no room A D.length c q hq W)
  have HW := Lib.hid hw2
  have hz := hX.res.lt
  clear hw2 hq
  go_enter Try.func10, Try.ntmps10
  go_wp2_with fail
  rw [HW.out]
  refine Calls.mono (C.out _) ?_
  rintro e w3 ⟨rfl, hb3⟩
  have hB := hX.box.up hb3 hX.box.lt
  have hR := hX.res.up hb3 hX.res.lt
  have c0 := hB.cell 0 _ rfl
  have c1 := hB.cell 1 _ rfl
  have r0 := hR.cell 0 _ rfl
  have r1 := hR.cell 1 _ rfl
  have f0 := hR.free 0
  have f1 := hR.free 1
  go_wp2_with fail
  refine bodyPost_ret (v := .tuple #[.agg #[.int .i64 room, .slice A D.length c], .bool false]) (by simp [results, Try.results10, go_sem, r0, r1]) rfl ?_
  exact d_same h0 room (fun v => .tuple #[v, .bool false]) (up_trans hX.up hb3)

theorem RQ.row {w : World} {pl : Nat → Prop} {D : List DQ} {A : Option Addr} {c : Nat} (h : RQ w pl D A c) (q : Nat) (d : DQ) (hd : D[q]? = some d) (k : Nat) (y : Int) (hk : d.2.2[k]? = some y) :
    ∃ b o, d.1 = some ⟨b, o, none⟩ ∧ b < w.heap.size ∧ w.cell? ⟨b, o + k, none⟩ = some (.int .i64 y) := by
  have hok := (h.inn d (List.mem_of_getElem? hd)).rd
  have hlt := (List.getElem?_eq_some_iff.1 hk).1
  obtain ⟨b, o, e, _, hl, hc⟩ := hok.at_ (by omega)
  exact ⟨b, o, e, hl, hc k _ (by simp [hk])⟩

set_option maxHeartbeats 1000000 in
theorem c_rremove_no {w : World} {pl : Nat → Prop} {D : List DQ} {A : Option Addr} {c : Nat} (h0 : RQ w pl D A c) (hq : ∀ b, w.heap.size ≤ b → pl b) (room : Int) (q : Nat) (x : Int) (d : DQ) (hd : D[q]? = some d) (hx : ∀ y ∈ d.2.2, y ≠ x) :
    Calls Try.prog 10 #[.agg #[.int .i64 room, .slice A D.length c], .int .i64 q, .int .i64 x] w (DPost w pl room (numsD D) fun v => .tuple #[v, .bool false]) := by
  have hX := qbox w room A D.length c
  generalize hw2 : (w.alloc (.cells #[.int .i64 room, .slice A D.length c] 30)).alloc (.cells #[.int .i64 0, .slice none 0 0] 30) = w2 at hX
  have h2 := h0.below hX.up
  have hql := (List.getElem?_eq_some_iff.1 hd).1
  have C := Lib.hid (fun W => c_is room A D.length c q hql W)
  have HW := Lib.hid hw2
  have hz := hX.res.lt
  have hq2 := h0.q2
  have hql2 : (q : Int) < D.length := by omega
  have hq0 : (0 : Int) ≤ q := by omega
  have HD := Lib.hid hd
  have HXX := Lib.hid hx
  clear hx
  clear hw2 hd
  go_enter Try.func10, Try.ntmps10
  go_wp2_with fail
  rw [HW.out]
  refine Calls.mono (C.out _) ?_
  rintro e w4 ⟨rfl, hb4⟩
  have hB4 := hX.box.up hb4 hX.box.lt
  have hR4 := hX.res.up hb4 hX.res.lt
  have hz3 := hR4.lt
  have h3' : RQ w4 (fun b => pl b ∧ b ≠ w.heap.size + 1) D A c := ((h0.lo (pl' := fun b => pl b ∧ b ≠ w.heap.size + 1) fun b hb hp => ⟨hp, by omega⟩).below hX.up).below hb4
  have hq3 : ∀ b, w4.heap.size ≤ b → pl b ∧ b ≠ w.heap.size + 1 := fun b hb => ⟨hq b (by omega), by omega⟩
  obtain ⟨b, o, rfl, hpb, hlb, hAll⟩ := h3'.at_
  have hr1 : w.heap.size ≠ w.heap.size + 1 := by omega
  have hr2 := hpb.2
  have hA := hAll q d HD.out
  have hok := h3'.inn d (List.mem_of_getElem? HD.out)
  obtain ⟨dA, dc, dl⟩ := d
  have hfew := hok.few
  have hcap := hok.cap
  have htop := hok.top
  have hrd := hok.rd
  simp only [sliceV] at hA hfew hcap htop hrd HXX
  unfold maxLen at htop
  have c0 := hB4.cell 0 _ rfl
  have c1 := hB4.cell 1 _ rfl
  clear C hok hAll
  go_wp2_with fail
  go_loop [9] (fun i => ∃ k : Nat, k ≤ dl.length ∧ i = .int .i64 k) (fun i => dl.length - (intOf i).toNat)
  case atStart => exact ⟨0, Nat.zero_le _, rfl⟩
  case round =>
    obtain ⟨k, hk, rfl⟩ := hrel
    by_cases hlt : k < dl.length
    · obtain ⟨b2, o2, e2, _, hy⟩ := h3'.row q _ HD.out k dl[k] (List.getElem?_eq_getElem hlt)
      obtain rfl : dA = some ⟨b2, o2, none⟩ := e2
      have hne : (dl[k] == x) = false := beq_eq_false_iff_ne.2 (HXX.out _ (List.getElem_mem hlt))
      generalize dl[k] = y at hy hne
      go_wp2
      go_round
      case rel => exact ⟨k + 1, by omega, by go_num⟩
      case measure => simp [intOf]; omega
    · obtain rfl : k = dl.length := by omega
      have r0 := hR4.cell 0 _ rfl
      have r1 := hR4.cell 1 _ rfl
      have f0 := hR4.free 0
      have f1 := hR4.free 1
      go_wp2
      refine bodyPost_ret (v := .tuple #[.agg #[.int .i64 room, .slice (some ⟨b, o, none⟩) D.length c], .bool false]) (by simp [results, Try.results10, go_sem, r0, r1]) rfl ?_
      exact d_same h0 room (fun v => .tuple #[v, .bool false]) (up_trans hX.up hb4)

theorem own_cut {w : World} {lo n : Nat} {v : Value} {dl : List Int} {i : Nat} (h : w.ownsRow lo 3 1 v n ((dl.map (Value.int .i64)).take i ++ (dl.map (Value.int .i64)).drop (i + 1))) : w.ownsRow lo 3 1 v n ((dl.take i ++ dl.drop (i + 1)).map (Value.int .i64)) := by
  rw [List.map_append, List.map_take, List.map_drop]
  exact h

set_option maxHeartbeats 4000000 in
theorem c_rremove_yes {w : World} {pl : Nat → Prop} {D : List DQ} {A : Option Addr} {c : Nat} (h0 : RQ w pl D A c) (hq : ∀ b, w.heap.size ≤ b → pl b) (room : Int) (q : Nat) (x : Int) (d : DQ) (hd : D[q]? = some d) (i : Nat) (hxi : d.2.2[i]? = some x) (hx : ∀ y ∈ d.2.2.take i, y ≠ x) :
    Calls Try.prog 10 #[.agg #[.int .i64 room, .slice A D.length c], .int .i64 q, .int .i64 x] w (DPost w pl room ((numsD D).set q (d.2.2.take i ++ d.2.2.drop (i + 1))) fun v => .tuple #[v, .bool true]) := by
  have hX := qbox w room A D.length c
  generalize hw2 : (w.alloc (.cells #[.int .i64 room, .slice A D.length c] 30)).alloc (.cells #[.int .i64 0, .slice none 0 0] 30) = w2 at hX
  have h2 := h0.below hX.up
  have hql := (List.getElem?_eq_some_iff.1 hd).1
  have C := Lib.hid (fun W => c_is room A D.length c q hql W)
  have HW := Lib.hid hw2
  have hz := hX.res.lt
  have hq2 := h0.q2
  have hql2 : (q : Int) < D.length := by omega
  have hq0 : (0 : Int) ≤ q := by omega
  have HD := Lib.hid hd
  have HXX := Lib.hid hx
  have HXI := Lib.hid hxi
  have hil := (List.getElem?_eq_some_iff.1 hxi).1
  clear hx hxi
  clear hw2 hd
  go_enter Try.func10, Try.ntmps10
  go_wp2_with fail
  rw [HW.out]
  refine Calls.mono (C.out _) ?_
  rintro e w4 ⟨rfl, hb4⟩
  have hB4 := hX.box.up hb4 hX.box.lt
  have hR4 := hX.res.up hb4 hX.res.lt
  have hz3 := hR4.lt
  have h3' : RQ w4 (fun b => pl b ∧ b ≠ w.heap.size + 1) D A c := ((h0.lo (pl' := fun b => pl b ∧ b ≠ w.heap.size + 1) fun b hb hp => ⟨hp, by omega⟩).below hX.up).below hb4
  have hq3 : ∀ b, w4.heap.size ≤ b → pl b ∧ b ≠ w.heap.size + 1 := fun b hb => ⟨hq b (by omega), by omega⟩
  obtain ⟨b, o, rfl, hpb, hlb, hAll⟩ := h3'.at_
  have hr1 : w.heap.size ≠ w.heap.size + 1 := by omega
  have hr2 := hpb.2
  have hA := hAll q d HD.out
  have hok := h3'.inn d (List.mem_of_getElem? HD.out)
  obtain ⟨dA, dc, dl⟩ := d
  have hfew := hok.few
  have hcap := hok.cap
  have htop := hok.top
  have hrd := hok.rd
  simp only [sliceV] at hA hfew hcap htop hrd HXX
  unfold maxLen at htop
  have c0 := hB4.cell 0 _ rfl
  have c1 := hB4.cell 1 _ rfl
  clear C hok hAll
  simp only at HXI hil
  have HNS := Lib.hid (fun A' c' => nums_set D q (A', c', dl.take i ++ dl.drop (i + 1)))
  have HZL' : (dl.take i ++ dl.drop (i + 1)).length = i + (dl.length - (i + 1)) := by
    rw [List.length_append, List.length_take, List.length_drop]
    omega
  obtain ⟨b2, o2, e2, _, hyi⟩ := h3'.row q _ HD.out i x HXI.out
  obtain rfl : dA = some ⟨b2, o2, none⟩ := e2
  go_wp2_with fail
  go_loop [9] (fun a => ∃ k : Nat, k ≤ i ∧ a = .int .i64 k) (fun a => i - (intOf a).toNat)
  case atStart => exact ⟨0, Nat.zero_le _, rfl⟩
  case round =>
    obtain ⟨k, hk, rfl⟩ := hrel
    by_cases hlt : k < i
    · have hkl : k < dl.length := by omega
      obtain ⟨b3, o3, e3, _, hy⟩ := h3'.row q _ HD.out k dl[k] (List.getElem?_eq_getElem hkl)
      cases e3
      have hne : (dl[k] == x) = false := beq_eq_false_iff_ne.2 (HXX.out _ (List.mem_of_getElem? (i := k) (by rw [List.getElem?_take_of_lt hlt]; exact List.getElem?_eq_getElem hkl)))
      generalize dl[k] = y at hy hne
      clear hyi
      go_wp2
      go_round
      case rel => exact ⟨k + 1, by omega, by go_num⟩
      case measure => simp [intOf]; omega
    · obtain rfl : k = i := by omega
      have hne : (x == x) = true := by simp
      have rd1 := hrd.take k (by omega)
      have rd2 := hrd.rest' (k + 1) dc (by omega) hcap
      rw [Nat.mul_one] at rd1 rd2
      have hi0 : (0 : Int) ≤ (k : Int) := by omega
      have hi1 : (k : Int) ≤ (dl.length : Int) := by omega
      have hi2 : (k : Int) + 1 ≤ (dl.length : Int) := by omega
      have hi3 : (k : Int) ≤ (dc : Int) := by omega
      have hi4 : (0 : Int) ≤ (k : Int) + 1 := by omega
      have hi5 : IntKind.i64.wrap ((k : Int) + 1) = (k : Int) + 1 := IntWalk.i64_in _ (by omega)
      have hi6 : ((k : Int) + 1).toNat = k + 1 := by omega
      have hi7 : (dl.length : Int) ≤ (dc : Int) := by omega
      have hdc0 : ¬ dc = 0 := by omega
      by_cases hdc : dc = k + 1
      · rw [if_pos hdc] at rd2
        subst hdc
        have hd0 : dl.length - (k + 1) = 0 := by omega
        rw [hd0] at rd2 HZL'
        have HZL := Lib.hid HZL'
        clear HZL' hd0
        have hk1 : (k : Int) ≤ (k : Int) + 1 := by omega
        go_wp2_with fail
        go_region_held3 (fun W => Only (· = w.heap.size + 1) w4 W ∧ W.cell? ⟨w.heap.size, 0, none⟩ = some (.int .i64 room) ∧ W.cell? ⟨w.heap.size, 1, none⟩ = some (.slice (some ⟨b, o, none⟩) D.length c) ∧ W.cell? ⟨b, o + q, none⟩ = some (.slice (some ⟨b2, o2, none⟩) dl.length (k + 1)) ∧ ∃ y z, Blk W (w.heap.size + 1) [y, z] 30)
          (first | exact dr_S hB4 hr1 hA hlb hr2 ((Only.refl _ _).drewN 1) ⟨_, _, hR4⟩ | exact dr_next hB4 hr1 hA hlb hr2 (by assumption) (by assumption) | exact dr_put hB4 hr1 hA hlb hr2 _ _ (by assumption) | exact dr_low hB4 hr1 hA hlb hr2 hb2 (by first | exact Nat.le_refl _ | simp) hz3 (by assumption))
          (first
            | (refine step_app ei_int rfl (.const (.slice none 0 0)) (.tmp 36) rfl (.slice none 0 0) [] rfl (World.ownsRow_nil _ _ _ _) rfl (rd1.only (And.left (by assumption)) (fun k e h => h.2 e)) (fun u hu => int_cells _ _ u (List.mem_of_mem_take hu)) (by omega) (Nat.le_refl _) ?_; intro v1 W1 hown1 hb1; simp only [Nat.zero_add, List.nil_append] at hown1; have hs1 : w4.heap.size ≤ W1.heap.size := (by have := hb1.size; simp at this; omega); have rd3 := RD.below (RD.below rd2 (up_drewN _ 1)) hb1)
            | (refine step_app ei_int rfl (.tmp 37) (.tmp 41) rfl _ _ rfl hown1 rfl rd3 (fun u hu => int_cells _ _ u (List.mem_of_mem_drop hu)) (by omega) hb1.size ?_; intro v2 W2 hown2 hb2; have hs2 : w4.heap.size ≤ W2.heap.size := (by have := hb2.size; omega); have hown2 := own_cut hown2)
            | (go_at_call 24; go_loud (obtain ⟨A2, c2, rfl, dok2⟩ := dok_of (pl := fun b => pl b ∧ b ≠ w.heap.size + 1) hown2 (fun b hb => hq3 b (Nat.le_trans (by first | exact Nat.le_refl _ | simp) hb)) (by rw [HZL.out]; omega)); have ho2 : Only (· = w.heap.size + 1) w4 W2 := (And.left (by assumption)); have cP := c_put (h3'.only ho2 (fun k e h => h.2 e)) (fun b hb => hq3 b (Nat.le_trans ho2.size hb)) room q hql _ dok2; go_loud (rw [HZL.out] at cP); go_loud (refine cP.mono ?_); rintro e w5 ⟨A4, c4, rfl, R4, hb5⟩; have ho5 := dr_only hb5 (by assumption); obtain ⟨y4, z4, hR5⟩ := dr_res hb5 (by assumption); have r0 := hR5.cell 0 _ rfl; have r1 := hR5.cell 1 _ rfl; have f0 := hR5.free 0; have f1 := hR5.free 1))
        go_wp2
        refine bodyPost_ret (v := .tuple #[.agg #[.int .i64 room, .slice A4 D.length c4], .bool true]) (by simp [results, Try.results10, go_sem, r0, r1]) rfl ?_
        have hfin := d_put R4 (HNS.out _ _) room (fun v => .tuple #[v, .bool true]) (hX.up.trans ((hb4.mono (by omega)).trans (ho5.toBelow (by omega) (fun k e => by omega))))
        rw [List.length_set] at hfin
        exact hfin
      · rw [if_neg hdc] at rd2
        have HZL := Lib.hid HZL'
        clear HZL'
        go_wp2_with fail
        go_region_held3 (fun W => Only (· = w.heap.size + 1) w4 W ∧ W.cell? ⟨w.heap.size, 0, none⟩ = some (.int .i64 room) ∧ W.cell? ⟨w.heap.size, 1, none⟩ = some (.slice (some ⟨b, o, none⟩) D.length c) ∧ W.cell? ⟨b, o + q, none⟩ = some (.slice (some ⟨b2, o2, none⟩) dl.length dc) ∧ ∃ y z, Blk W (w.heap.size + 1) [y, z] 30)
          (first | exact dr_S hB4 hr1 hA hlb hr2 ((Only.refl _ _).drewN 1) ⟨_, _, hR4⟩ | exact dr_next hB4 hr1 hA hlb hr2 (by assumption) (by assumption) | exact dr_put hB4 hr1 hA hlb hr2 _ _ (by assumption) | exact dr_low hB4 hr1 hA hlb hr2 hb2 (by first | exact Nat.le_refl _ | simp) hz3 (by assumption))
          (first
            | (refine step_app ei_int rfl (.const (.slice none 0 0)) (.tmp 36) rfl (.slice none 0 0) [] rfl (World.ownsRow_nil _ _ _ _) rfl (rd1.only (And.left (by assumption)) (fun k e h => h.2 e)) (fun u hu => int_cells _ _ u (List.mem_of_mem_take hu)) (by omega) (Nat.le_refl _) ?_; intro v1 W1 hown1 hb1; simp only [Nat.zero_add, List.nil_append] at hown1; have hs1 : w4.heap.size ≤ W1.heap.size := (by have := hb1.size; simp at this; omega); have rd3 := RD.below (RD.below rd2 (up_drewN _ 1)) hb1)
            | (refine step_app ei_int rfl (.tmp 37) (.tmp 41) rfl _ _ rfl hown1 rfl rd3 (fun u hu => int_cells _ _ u (List.mem_of_mem_drop hu)) (by omega) hb1.size ?_; intro v2 W2 hown2 hb2; have hs2 : w4.heap.size ≤ W2.heap.size := (by have := hb2.size; omega); have hown2 := own_cut hown2)
            | (go_at_call 24; go_loud (obtain ⟨A2, c2, rfl, dok2⟩ := dok_of (pl := fun b => pl b ∧ b ≠ w.heap.size + 1) hown2 (fun b hb => hq3 b (Nat.le_trans (by first | exact Nat.le_refl _ | simp) hb)) (by rw [HZL.out]; omega)); have ho2 : Only (· = w.heap.size + 1) w4 W2 := (And.left (by assumption)); have cP := c_put (h3'.only ho2 (fun k e h => h.2 e)) (fun b hb => hq3 b (Nat.le_trans ho2.size hb)) room q hql _ dok2; go_loud (rw [HZL.out] at cP); go_loud (refine cP.mono ?_); rintro e w5 ⟨A4, c4, rfl, R4, hb5⟩; have ho5 := dr_only hb5 (by assumption); obtain ⟨y4, z4, hR5⟩ := dr_res hb5 (by assumption); have r0 := hR5.cell 0 _ rfl; have r1 := hR5.cell 1 _ rfl; have f0 := hR5.free 0; have f1 := hR5.free 1))
        go_wp2
        refine bodyPost_ret (v := .tuple #[.agg #[.int .i64 room, .slice A4 D.length c4], .bool true]) (by simp [results, Try.results10, go_sem, r0, r1]) rfl ?_
        have hfin := d_put R4 (HNS.out _ _) room (fun v => .tuple #[v, .bool true]) (hX.up.trans ((hb4.mono (by omega)).trans (ho5.toBelow (by omega) (fun k e => by omega))))
        rw [List.length_set] at hfin
        exact hfin
end Go.Proofs.Ythakcjabeekihaa

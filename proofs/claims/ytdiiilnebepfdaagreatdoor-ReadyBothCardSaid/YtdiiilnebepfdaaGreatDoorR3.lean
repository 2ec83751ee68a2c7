/- Timers as plain data; where the document puts a new one (as s06/XTa, XTb, XTc have it: one or the other in a seat). The document's New and Add of timers (as s06/XTs). The document's Add to no timers; its Drop. -/
import Derived.Test.YtdiiilnebepfdaaGreatDoorA1
import Derived.WalkKit
import Derived.WalkSpells
import Derived.WalkLawsBesides
import Derived.BigQuiet
import Derived.BigRegion
import Derived.Deep.QuietTactic
import Derived.Outline
import Derived.LoopTactic
import Derived.Deep.RegionHeld3
import Derived.Test.YtdiiilnebepfdaaGreatDoorA3
namespace Go.Proofs.YtdiiilnebepfdaaGreatDoor

/-- A timer: its instant, its number, who waits. -/
structure Tm where
  at_ : Int
  no : Int
  who : Int
def Tm.zero : Tm := ⟨0, 0, 0⟩

/-- How many of those ahead are due no later than a: where the document puts a new one. -/
def ixI (a : Int) : List Tm → Nat
  | [] => 0
  | x :: l => if x.at_ ≤ a then ixI a l + 1 else 0
theorem ixI_le (a : Int) : ∀ l, ixI a l ≤ l.length
  | [] => Nat.le_refl _
  | x :: l => by unfold ixI; split; exact Nat.succ_le_succ (ixI_le a l); exact Nat.zero_le _
theorem ixI_lt {a : Int} : ∀ {l : List Tm} {k : Nat} {t : Tm}, k < ixI a l → l[k]? = some t → t.at_ ≤ a
  | x :: l, 0, t, h, e => by
    obtain rfl : x = t := by simpa using e
    unfold ixI at h
    split at h
    · assumption
    · omega
  | x :: l, k + 1, t, h, e => by
    unfold ixI at h
    split at h
    · exact ixI_lt (l := l) (k := k) (by omega) (by simpa using e)
    · omega
theorem ixI_at {a : Int} : ∀ {l : List Tm} {t : Tm}, l[ixI a l]? = some t → a < t.at_
  | x :: l, t, e => by
    unfold ixI at e
    split at e
    · exact ixI_at (l := l) (by simpa using e)
    · obtain rfl : x = t := by simpa using e
      omega
def insT (L : List Tm) (t : Tm) : List Tm := L.take (ixI t.at_ L) ++ t :: L.drop (ixI t.at_ L)
theorem insT_len (L : List Tm) (t : Tm) : (insT L t).length = L.length + 1 := by
  have := ixI_le t.at_ L
  simp [insT]
  omega
theorem insT_perm (L : List Tm) (t : Tm) : (insT L t).Perm (t :: L) := by
  unfold insT
  have h := List.perm_middle (a := t) (l₁ := L.take (ixI t.at_ L)) (l₂ := L.drop (ixI t.at_ L))
  rwa [List.take_append_drop] at h
def tmV (t : Tm) : List Value := [.int .i64 t.at_, .int .i64 t.no, .int .i64 t.who]
def flatT (xs : List Tm) : List Value := xs.flatMap tmV
theorem flatT_len (xs : List Tm) : (flatT xs).length = xs.length * 3 := by
  unfold flatT
  induction xs with
  | nil => rfl
  | cons s τ ih => rw [List.flatMap_cons, List.length_append, ih]; simp [tmV]; omega
theorem flatT_get {xs : List Tm} {k : Nat} {t : Tm} (h : xs[k]? = some t) (j : Nat) (hj : j < 3) : (flatT xs)[k * 3 + j]? = (tmV t)[j]? := flat_get tmV 3 (fun _ => rfl) xs k j t h hj

theorem flat_cells (xs : List Tm) : ∀ u ∈ flatT xs, u.oneCell' = true := by
  intro u hu
  obtain ⟨t, _, ht⟩ := List.mem_flatMap.1 hu
  simp only [tmV, List.mem_cons, List.not_mem_nil, or_false] at ht
  rcases ht with rfl | rfl | rfl <;> rfl
end Go.Proofs.YtdiiilnebepfdaaGreatDoor

namespace Go.Proofs.YtdiiilnebepfdaaGreatDoor
open Go.RowKit

theorem ei_R : EI Tryz.prog 25 69 (.agg #[.int .i64 0, .int .i64 0, .int .i64 0]) 3 24 where
  under := by kernel_rfl
  info := by kernel_rfl
  cells := rfl
  pos := by decide
  few := by decide
/-- A row of the document's timers. -/
def DR (w : World) (lo : Nat) (u : Value) (L : List Tm) : Prop := w.ownsRow lo 69 3 u L.length (flatT L)
theorem own_lo {w : World} {lo lo' size n : Nat} {e : TypeId} {v : Value} {xs : List Value} (h : w.ownsRow lo e size v n xs) (hl : lo' ≤ lo) : w.ownsRow lo' e size v n xs := by
  refine ⟨h.1, ?_⟩
  rcases h.2 with h2 | ⟨g, cap, cur, hv, hg, r⟩
  · exact .inl h2
  · exact .inr ⟨g, cap, cur, hv, by omega, r⟩
theorem DR.of {w : World} {lo lo' n : Nat} {v : Value} {L : List Tm} (h : w.ownsRow lo 69 3 v n (flatT L)) (hl : lo' ≤ lo) : DR w lo' v L := by
  have hn : n = L.length := by
    have := h.1
    rw [flatT_len] at this
    omega
  subst hn
  exact own_lo h hl
theorem DR.below {w w' : World} {lo : Nat} {u : Value} {L : List Tm} (h : DR w lo u L) (hb : Below w.heap.size w w') : DR w' lo u L := own_below h hb
theorem DR.slice {w : World} {lo : Nat} {u : Value} {L : List Tm} (h : DR w lo u L) : ∃ A c, u = .slice A L.length c ∧ L.length ≤ c ∧ c ≤ maxLen ∧ RD w (lo ≤ ·) 3 A L.length (flatT L) := own_slice h
theorem DR.nil (w : World) (lo : Nat) : DR w lo (.slice none 0 0) [] := World.ownsRow_nil _ _ _ _

theorem c_tmnew (r : Int) (w : World) (h0 : 0 ≤ r) (h1 : r ≤ 1024) : Calls Tryz.prog 33 #[.int .i64 r] w fun e w' => e = .returned (.tuple #[.agg #[.int .i64 r, .int .i64 0, .slice none 0 0], .int .i64 0]) ∧ Below w.heap.size w w' := by
  have up : Below w.heap.size w (w.alloc (.cells #[.int .i64 r, .int .i64 0, .slice none 0 0] 92)) := up_alloc w _
  go_enter Tryz.func33, Tryz.ntmps33
  go_wp2
  exact bodyPost_ret (v := .tuple #[.agg #[.int .i64 r, .int .i64 0, .slice none 0 0], .int .i64 0]) (by simp [results, Tryz.results33, go_sem]) rfl ⟨rfl, up⟩

/-- The world of a function that boxes its list, and has a cell for the list that it gives. -/
structure LBox (w w2 : World) (room last : Int) (u : Value) : Prop where
  up : Below w.heap.size w w2
  box : Blk w2 w.heap.size [.int .i64 room, .int .i64 last, u] 92
  res : Blk w2 (w.heap.size + 1) [.int .i64 0, .int .i64 0, .slice none 0 0] 92
theorem lbox (w : World) (room last : Int) (u : Value) :
    LBox w ((w.alloc (.cells #[.int .i64 room, .int .i64 last, u] 92)).alloc (.cells #[.int .i64 0, .int .i64 0, .slice none 0 0] 92)) room last u := by
  refine ⟨up_trans (up_alloc _ _) (up_alloc _ _), (Blk.new w [.int .i64 room, .int .i64 last, u] _).alloc _, ?_⟩
  have := Blk.new (w.alloc (.cells #[.int .i64 room, .int .i64 last, u] 92)) [.int .i64 0, .int .i64 0, .slice none 0 0] 92
  simpa using this

/-- What the document's Add and Drop give: a list, then rest; er. -/
def TmDPost (w : World) (room last : Int) (L : List Tm) (mk : Value → Value) (e : Ending) (w' : World) : Prop :=
  ∃ u, e = .returned (mk (.agg #[.int .i64 room, .int .i64 last, u])) ∧ DR w' w.heap.size u L ∧ Below w.heap.size w w'

set_option maxHeartbeats 1000000 in
theorem c_tmadd_bad (w : World) (room last : Int) (A : Option Addr) (n c : Nat) (a who : Int) (ha : fineC a = false) :
    Calls Tryz.prog 35 #[.agg #[.int .i64 room, .int .i64 last, .slice A n c], .int .i64 a, .int .i64 who] w fun e w' => e = .returned (.tuple #[.agg #[.int .i64 room, .int .i64 last, .slice A n c], .int .i64 0, .int .i64 8]) ∧ Below w.heap.size w w' := by
  have hX := lbox w room last (.slice A n c)
  generalize hw2 : (w.alloc (.cells #[.int .i64 room, .int .i64 last, .slice A n c] 92)).alloc (.cells #[.int .i64 0, .int .i64 0, .slice none 0 0] 92) = w2 at hX
  have C := c_rfine a w2
  rw [ha] at C
  have CC := Lib.hid C
  have HW := Lib.hid hw2
  have c0 := hX.box.cell 0 _ rfl
  have c1 := hX.box.cell 1 _ rfl
  have c2 := hX.box.cell 2 _ rfl
  have r0 := hX.res.cell 0 _ rfl
  have r1 := hX.res.cell 1 _ rfl
  have r2 := hX.res.cell 2 _ rfl
  have f0 := hX.res.free 0
  have f1 := hX.res.free 1
  have f2 := hX.res.free 2
  have HX := Lib.hid hX.up
  clear hw2 C hX ha
  go_enter Tryz.func35, Tryz.ntmps35
  go_wp2_with fail
  rw [HW.out]
  refine Calls.mono CC.out ?_
  rintro e w' ⟨rfl, rfl⟩
  go_wp2_with fail
  refine bodyPost_ret (v := .tuple #[.agg #[.int .i64 room, .int .i64 last, .slice A n c], .int .i64 0, .int .i64 8]) (by simp [results, Tryz.results35, go_sem, r0, r1, r2]) rfl ?_
  exact ⟨rfl, ((HX.out.setCell (by simp) _).setCell (by simp) _).setCell (by simp) _⟩
theorem flatT_app (xs ys : List Tm) : flatT (xs ++ ys) = flatT xs ++ flatT ys := by unfold flatT; rw [List.flatMap_append]
theorem flatT_take (xs : List Tm) (k : Nat) (hk : k ≤ xs.length) : (flatT xs).take (k * 3) = flatT (xs.take k) := by
  have h1 : flatT xs = flatT (xs.take k) ++ flatT (xs.drop k) := by rw [← flatT_app, List.take_append_drop]
  have h2 : (flatT (xs.take k)).length = k * 3 := by rw [flatT_len, List.length_take]; omega
  rw [h1, ← h2, List.take_left]
theorem flatT_drop (xs : List Tm) (k : Nat) (hk : k ≤ xs.length) : (flatT xs).drop (k * 3) = flatT (xs.drop k) := by
  have h1 : flatT xs = flatT (xs.take k) ++ flatT (xs.drop k) := by rw [← flatT_app, List.take_append_drop]
  have h2 : (flatT (xs.take k)).length = k * 3 := by rw [flatT_len, List.length_take]; omega
  rw [h1, ← h2, List.drop_left]
theorem mem_take_cells {xs : List Tm} {k : Nat} : ∀ u ∈ (flatT xs).take k, u.oneCell' = true := fun u hu => flat_cells xs u (List.mem_of_mem_take hu)
theorem mem_drop_cells {xs : List Tm} {k : Nat} : ∀ u ∈ (flatT xs).drop k, u.oneCell' = true := fun u hu => flat_cells xs u (List.mem_of_mem_drop hu)
theorem ins_flat (L : List Tm) (a no who : Int) (k : Nat) (hk : k = ixI a L) : (([] ++ (flatT L).take (k * 3)) ++ [.int .i64 a, .int .i64 no, .int .i64 who]) ++ (flatT L).drop (k * 3) = flatT (insT L ⟨a, no, who⟩) := by
  have hle := ixI_le a L
  rw [flatT_take L k (by omega), flatT_drop L k (by omega), List.nil_append]
  unfold insT
  rw [flatT_app, ← hk]
  simp [flatT, tmV]
def gt (xs : List Tm) (k : Nat) : Tm := xs.getD k Tm.zero
theorem gt_some {xs : List Tm} {k : Nat} (h : k < xs.length) : xs[k]? = some (gt xs k) := by
  unfold gt
  rw [List.getD_eq_getElem?_getD, List.getElem?_eq_getElem h]
  rfl
theorem RT_cell {w : World} {pl : Nat → Prop} {b o n : Nat} {L : List Tm} (h : RD w pl 3 (some ⟨b, o, none⟩) n (flatT L)) (k : Nat) (hk : k < L.length) :
    w.cell? ⟨b, o + k * 3, none⟩ = some (.int .i64 (gt L k).at_) ∧ w.cell? ⟨b, o + k * 3 + 1, none⟩ = some (.int .i64 (gt L k).no) ∧ w.cell? ⟨b, o + k * 3 + 2, none⟩ = some (.int .i64 (gt L k).who) := by
  have hn : L.length * 3 = n * 3 := by have := h.1; rwa [flatT_len] at this
  obtain ⟨b', o', e, h1, h2, h3⟩ := h.at_ (by omega)
  cases e
  refine ⟨?_, ?_, ?_⟩
  · exact h3 (k * 3 + 0) _ (flatT_get (gt_some hk) 0 (by omega))
  · rw [Nat.add_assoc]; exact h3 (k * 3 + 1) _ (flatT_get (gt_some hk) 1 (by omega))
  · rw [Nat.add_assoc]; exact h3 (k * 3 + 2) _ (flatT_get (gt_some hk) 2 (by omega))
/-- The end of the document's Add and Drop: the box's list is stored, and given. -/
theorem d_end {w w3 w7 : World} {room last : Int} {v : Value} {L : List Tm} {n : Nat} (mk : Value → Value) (up3 : Below w.heap.size w w3) (hb : Below w3.heap.size w3 w7) (hown : w7.ownsRow w3.heap.size 69 3 v n (flatT L)) (hs : w.heap.size + 1 < w3.heap.size) {W : World}
    (ho : Only (fun k => k = w.heap.size ∨ k = w.heap.size + 1) w7 W) : TmDPost w room last L mk (.returned (mk (.agg #[.int .i64 room, .int .i64 last, v]))) W := by
  refine ⟨v, rfl, DR.of (own_only hown ho (fun k h => by omega)) up3.size, ?_⟩
  have h2 := hb.size
  exact (up3.trans (hb.mono up3.size)).trans (ho.toBelow (by omega) (fun k h => by omega))

set_option maxHeartbeats 4000000 in
theorem c_tmadd_some {w : World} {pl : Nat → Prop} {n b o c : Nat} {L : List Tm} (hrd : RD w pl 3 (some ⟨b, o, none⟩) L.length (flatT L)) (hlc : L.length ≤ c) (hcm : c ≤ maxLen) (rm : Nat) (a who : Int) (ha : fineC a = true) (hr : L.length < rm) (hrm : rm ≤ 1024) (hn : n ≤ 1000000) :
    Calls Tryz.prog 35 #[.agg #[.int .i64 (rm : Int), .int .i64 (n : Int), .slice (some ⟨b, o, none⟩) L.length c], .int .i64 a, .int .i64 who] w (TmDPost w rm ((n : Int) + 1) (insT L ⟨a, (n : Int) + 1, who⟩) (fun v => .tuple #[v, .int .i64 ((n : Int) + 1), .int .i64 0])) := by
  have hX := lbox w rm n (.slice (some ⟨b, o, none⟩) L.length c)
  generalize hw2 : (w.alloc (.cells #[.int .i64 (rm : Int), .int .i64 (n : Int), .slice (some ⟨b, o, none⟩) L.length c] 92)).alloc (.cells #[.int .i64 0, .int .i64 0, .slice none 0 0] 92) = w2 at hX
  have C := c_rfine a w2
  rw [ha] at C
  have CC := Lib.hid C
  have HW := Lib.hid hw2
  have c0 := hX.box.cell 0 _ rfl
  have c1 := hX.box.cell 1 _ rfl
  have c2 := hX.box.cell 2 _ rfl
  have g1 := hX.box.free 1
  have HX := Lib.hid hX
  have HR := Lib.hid hrd
  obtain ⟨m, hm⟩ : ∃ m, m = L.length := ⟨_, rfl⟩
  have HM := Lib.hid hm
  rw [← hm] at c2 hlc hr ⊢
  have hne : ((m : Int) == (rm : Int)) = false := beq_eq_false_iff_ne.2 (by omega)
  clear hw2 C hX ha hrd hm
  unfold maxLen at hcm
  go_enter Tryz.func35, Tryz.ntmps35
  go_wp2_with fail
  rw [← HM.out] at HW
  rw [HW.out]
  refine Calls.mono CC.out ?_
  rintro e w' ⟨rfl, rfl⟩
  go_wp2_with fail
  have hB3 := HX.out.box.set 1 (.int .i64 ((n : Int) + 1))
  have hR3 := HX.out.res.other ⟨w.heap.size, 1, none⟩ (by simp) (.int .i64 ((n : Int) + 1))
  have hU3 := HX.out.up.setCell (p := ⟨w.heap.size, 1, none⟩) (Nat.le_refl _) (.int .i64 ((n : Int) + 1))
  generalize w2.setCell ⟨w.heap.size, 1, none⟩ (.int .i64 ((n : Int) + 1)) = w3 at *
  rw [← HM.out] at hB3
  have e1 := hB3.cell 1 _ rfl
  have e2 := hB3.cell 2 _ rfl
  have hz3 := hR3.lt
  have H3 := Lib.hid hB3
  have HR3 := Lib.hid hR3
  have HU3 := Lib.hid hU3
  have HRD := Lib.hid (HR.out.below hU3)
  rw [← HM.out] at HRD
  have hil := ixI_le a L
  rw [← HM.out] at hil
  clear hB3 hR3 hU3 c0 c1 c2 g1
  go_loop [9] (fun i => ∃ k : Nat, k ≤ ixI a L ∧ i = .int .i64 k) (fun i => m - (intOf i).toNat)
  case atStart => exact ⟨0, Nat.zero_le _, rfl⟩
  case round =>
    obtain ⟨k, hk, rfl⟩ := hrel
    by_cases hlt : k < ixI a L
    · obtain ⟨i0, _, _⟩ := RT_cell HRD.out k (by rw [← HM.out]; omega)
      have hz : (gt L k).at_ ≤ a := ixI_lt hlt (gt_some (by rw [← HM.out]; omega))
      generalize (gt L k).at_ = z at i0 hz
      have hkm : k < m := by omega
      go_wp2
      go_round
      case rel => exact ⟨k + 1, by omega, by go_num⟩
      case measure => simp [intOf]; omega
    · have hki : k = ixI a L := by omega
      have HK := Lib.hid hki
      have hkm : k ≤ m := by omega
      have hkc : k ≤ c := by omega
      have hk0 : (0 : Int) ≤ k := by omega
      have hz : k < m → a < (gt L k).at_ := fun h => ixI_at (l := L) (by rw [← hki]; exact gt_some (by rw [← HM.out]; exact h))
      have HZ := Lib.hid hz
      clear hk hlt hki hil hz
      have hways : (k < m ∧ ∃ z : Int, w3.cell? ⟨b, o + k * 3, none⟩ = some (.int .i64 z) ∧ a < z) ∨ m ≤ k := by
        by_cases h : k < m
        · exact .inl ⟨h, _, (RT_cell HRD.out k (by rw [← HM.out]; exact h)).1, HZ.out h⟩
        · exact .inr (by omega)
      rcases hways with ⟨hkm2, z, hzc, hza⟩ | hkm2
      · go_wp2_with (first
          | (at_builtin; refine wpList_app ei_R rfl (.const (.slice none 0 0)) (.tmp 46) rfl _ [] rfl (World.ownsRow_nil w3 w3.heap.size _ _) rfl (HRD.out.take k (by omega)) mem_take_cells (by omega) (Nat.le_refl _) ?_; intro v4 w4 hown4 hb4; have k1 := (H3.out.up hb4 H3.out.lt).cell 1 _ rfl)
          | (at_builtin; refine wpList_app ei_R rfl (.tmp 48) (.tmp 54) rfl _ _ rfl (hown4.alloc _) rfl (RD.one3 rfl) (by simp [Value.oneCell']) (by omega) (by have := hb4.size; simp; omega) ?_; intro v5 w5 hown5 hb5; have hb35 := (hb4.trans ((up_alloc _ _).mono hb4.size)).trans hb5; have k2 := (H3.out.up hb35 H3.out.lt).cell 2 _ rfl)
          | (at_builtin; refine wpList_app ei_R rfl (.tmp 56) (.tmp 60) rfl _ _ rfl hown5 rfl ((HRD.out.below hb35).drop k hkm) mem_drop_cells (by omega) (by have := hb35.size; exact this) ?_; intro v6 w6 hown6 hb6; have hb36 := hb35.trans hb6; have HB36 := Lib.hid hb36; obtain ⟨n6, hn6⟩ : ∃ n6, 0 + k + 1 + (m - k) = n6 := ⟨_, rfl⟩; rw [hn6] at hown6; have HOWN := Lib.hid hown6; obtain ⟨A6, c6, rfl, _, _, _⟩ := own_slice hown6; have q2 := (H3.out.up hb36 H3.out.lt).cell 2 _ rfl; have p2 := (H3.out.up hb36 H3.out.lt).free 2; clear hn6 hb36 hb35 hb6 hb5 hb4 hown4 hown5 hown6 k1 k2 e1 e2))
        go_wp2_with fail
        have h7 := (H3.out.up HB36.out H3.out.lt).set 2 (.slice A6 n6 c6)
        have r7 := (HR3.out.up HB36.out HR3.out.lt).other ⟨w.heap.size, 2, none⟩ (by simp) (.slice A6 n6 c6)
        have ho7 : Only (fun k => k = w.heap.size ∨ k = w.heap.size + 1) w6 (w6.setCell ⟨w.heap.size, 2, none⟩ (.slice A6 n6 c6)) := (Only.refl _ _).setCell (.inl (.inl rfl)) _
        generalize w6.setCell ⟨w.heap.size, 2, none⟩ (.slice A6 n6 c6) = w7 at h7 r7 ho7 ⊢
        clear q2 p2
        have q0 := h7.cell 0 _ rfl
        have q1 := h7.cell 1 _ rfl
        have q2 := h7.cell 2 _ rfl
        have r0 := r7.cell 0 _ rfl
        have r1 := r7.cell 1 _ rfl
        have r2 := r7.cell 2 _ rfl
        have f0 := r7.free 0
        have f1 := r7.free 1
        have f2 := r7.free 2
        have HO7 := Lib.hid ho7
        clear h7 r7 ho7
        go_region
        all_goals
          go_wp2_with fail
          refine bodyPost_ret (v := .tuple #[.agg #[.int .i64 (rm : Int), .int .i64 ((n : Int) + 1), .slice A6 n6 c6], .int .i64 ((n : Int) + 1), .int .i64 0]) (by simp [results, Tryz.results35, go_sem, r0, r1, r2]) rfl ?_
          have hown := HOWN.out
          rw [ins_flat L a _ who k HK.out] at hown
          exact d_end (fun v => .tuple #[v, .int .i64 ((n : Int) + 1), .int .i64 0]) HU3.out HB36.out hown hz3 ((((HO7.out.drewN 1).setCell (.inl (.inr rfl)) _).setCell (.inl (.inr rfl)) _).setCell (.inl (.inr rfl)) _)
      · have HR0 : Hid (∀ w' A, RD w' pl 3 A 0 ((flatT L).drop (k * 3))) := Lib.hid (fun w' A => by
          rw [List.drop_of_length_le (by rw [flatT_len, ← HM.out]; omega)]
          exact RD.nil _ _ _ _)
        rcases (show k = c ∨ ¬ c = k by omega) with rfl | hcne
        all_goals
          go_wp2_with (first
            | (at_builtin; refine wpList_app ei_R rfl (.const (.slice none 0 0)) (.tmp 46) rfl _ [] rfl (World.ownsRow_nil w3 w3.heap.size _ _) rfl (HRD.out.take k (by omega)) mem_take_cells (by omega) (Nat.le_refl _) ?_; intro v4 w4 hown4 hb4; have k1 := (H3.out.up hb4 H3.out.lt).cell 1 _ rfl)
            | (at_builtin; refine wpList_app ei_R rfl (.tmp 48) (.tmp 54) rfl _ _ rfl (hown4.alloc _) rfl (RD.one3 rfl) (by simp [Value.oneCell']) (by omega) (by have := hb4.size; simp; omega) ?_; intro v5 w5 hown5 hb5; have hb35 := (hb4.trans ((up_alloc _ _).mono hb4.size)).trans hb5; have k2 := (H3.out.up hb35 H3.out.lt).cell 2 _ rfl)
            | (at_builtin; refine wpList_app ei_R rfl (.tmp 56) (.tmp 60) rfl _ _ rfl hown5 rfl (HR0.out _ _) mem_drop_cells (by omega) (by have := hb35.size; exact this) ?_; intro v6 w6 hown6 hb6; have hb36 := hb35.trans hb6; have HB36 := Lib.hid hb36; obtain ⟨n6, hn6⟩ : ∃ n6, 0 + k + 1 + 0 = n6 := ⟨_, rfl⟩; rw [hn6] at hown6; have HOWN := Lib.hid hown6; obtain ⟨A6, c6, rfl, _, _, _⟩ := own_slice hown6; have q2 := (H3.out.up hb36 H3.out.lt).cell 2 _ rfl; have p2 := (H3.out.up hb36 H3.out.lt).free 2; clear hn6 hb36 hb35 hb6 hb5 hb4 hown4 hown5 hown6 k1 k2 e1 e2))
          go_wp2_with fail
          have h7 := (H3.out.up HB36.out H3.out.lt).set 2 (.slice A6 n6 c6)
          have r7 := (HR3.out.up HB36.out HR3.out.lt).other ⟨w.heap.size, 2, none⟩ (by simp) (.slice A6 n6 c6)
          have ho7 : Only (fun k => k = w.heap.size ∨ k = w.heap.size + 1) w6 (w6.setCell ⟨w.heap.size, 2, none⟩ (.slice A6 n6 c6)) := (Only.refl _ _).setCell (.inl (.inl rfl)) _
          generalize w6.setCell ⟨w.heap.size, 2, none⟩ (.slice A6 n6 c6) = w7 at h7 r7 ho7 ⊢
          clear q2 p2
          have q0 := h7.cell 0 _ rfl
          have q1 := h7.cell 1 _ rfl
          have q2 := h7.cell 2 _ rfl
          have r0 := r7.cell 0 _ rfl
          have r1 := r7.cell 1 _ rfl
          have r2 := r7.cell 2 _ rfl
          have f0 := r7.free 0
          have f1 := r7.free 1
          have f2 := r7.free 2
          have HO7 := Lib.hid ho7
          clear h7 r7 ho7
          go_region
          all_goals
            go_wp2_with fail
            refine bodyPost_ret (v := .tuple #[.agg #[.int .i64 (rm : Int), .int .i64 ((n : Int) + 1), .slice A6 n6 c6], .int .i64 ((n : Int) + 1), .int .i64 0]) (by simp [results, Tryz.results35, go_sem, r0, r1, r2]) rfl ?_
            have hown := HOWN.out
            rw [ins_flat L a _ who k HK.out] at hown
            exact d_end (fun v => .tuple #[v, .int .i64 ((n : Int) + 1), .int .i64 0]) HU3.out HB36.out hown hz3 ((((HO7.out.drewN 1).setCell (.inl (.inr rfl)) _).setCell (.inl (.inr rfl)) _).setCell (.inl (.inr rfl)) _)
end Go.Proofs.YtdiiilnebepfdaaGreatDoor

namespace Go.Proofs.YtdiiilnebepfdaaGreatDoor
open Go.RowKit

set_option maxHeartbeats 4000000 in
theorem c_tmadd_nil {w : World} {n : Nat} (rm : Nat) (a who : Int) (ha : fineC a = true) (hr : 0 < rm) (hrm : rm ≤ 1024) (hn : n ≤ 1000000) :
    Calls Tryz.prog 35 #[.agg #[.int .i64 (rm : Int), .int .i64 (n : Int), .slice none 0 0], .int .i64 a, .int .i64 who] w (TmDPost w rm ((n : Int) + 1) (insT [] ⟨a, (n : Int) + 1, who⟩) (fun v => .tuple #[v, .int .i64 ((n : Int) + 1), .int .i64 0])) := by
  have hX := lbox w rm n (.slice none 0 0)
  generalize hw2 : (w.alloc (.cells #[.int .i64 (rm : Int), .int .i64 (n : Int), .slice none 0 0] 92)).alloc (.cells #[.int .i64 0, .int .i64 0, .slice none 0 0] 92) = w2 at hX
  have C := c_rfine a w2
  rw [ha] at C
  have CC := Lib.hid C
  have HW := Lib.hid hw2
  have c0 := hX.box.cell 0 _ rfl
  have c1 := hX.box.cell 1 _ rfl
  have c2 := hX.box.cell 2 _ rfl
  have g1 := hX.box.free 1
  have HX := Lib.hid hX
  have hne : ((0 : Int) == (rm : Int)) = false := beq_eq_false_iff_ne.2 (by omega)
  have hne2 : ((rm : Int) == 0) = false := beq_eq_false_iff_ne.2 (by omega)
  clear hw2 C hX ha
  go_enter Tryz.func35, Tryz.ntmps35
  go_wp2_with fail
  rw [HW.out]
  refine Calls.mono CC.out ?_
  rintro e w' ⟨rfl, rfl⟩
  go_wp2_with fail
  have hB3 := HX.out.box.set 1 (.int .i64 ((n : Int) + 1))
  have hR3 := HX.out.res.other ⟨w.heap.size, 1, none⟩ (by simp) (.int .i64 ((n : Int) + 1))
  have hU3 := HX.out.up.setCell (p := ⟨w.heap.size, 1, none⟩) (Nat.le_refl _) (.int .i64 ((n : Int) + 1))
  generalize w2.setCell ⟨w.heap.size, 1, none⟩ (.int .i64 ((n : Int) + 1)) = w3 at *
  have e1 := hB3.cell 1 _ rfl
  have e2 := hB3.cell 2 _ rfl
  have hz3 := hR3.lt
  have H3 := Lib.hid hB3
  have HR3 := Lib.hid hR3
  have HU3 := Lib.hid hU3
  clear hB3 hR3 hU3 c0 c1 c2 g1
  go_loop [9] (fun i => i = .int .i64 0) (fun _ => 0)
  case atStart => rfl
  case round =>
    obtain rfl := hrel
    go_wp2_with (first
      | (at_builtin; refine wpList_app ei_R rfl (.const (.slice none 0 0)) (.tmp 46) rfl _ [] rfl (World.ownsRow_nil w3 w3.heap.size _ _) rfl (RD.nil w3 (fun _ => True) 3 none) (by simp) (by omega) (Nat.le_refl _) ?_; intro v4 w4 hown4 hb4; have k1 := (H3.out.up hb4 H3.out.lt).cell 1 _ rfl)
      | (at_builtin; refine wpList_app ei_R rfl (.tmp 48) (.tmp 54) rfl _ _ rfl (hown4.alloc _) rfl (RD.one3 rfl) (by simp [Value.oneCell']) (by omega) (by have := hb4.size; simp; omega) ?_; intro v5 w5 hown5 hb5; have hb35 := (hb4.trans ((up_alloc _ _).mono hb4.size)).trans hb5; have k2 := (H3.out.up hb35 H3.out.lt).cell 2 _ rfl)
      | (at_builtin; refine wpList_app ei_R rfl (.tmp 56) (.tmp 60) rfl _ _ rfl hown5 rfl (RD.nil w5 (fun _ => True) 3 none) (by simp) (by omega) (by have := hb35.size; exact this) ?_; intro v6 w6 hown6 hb6; have hb36 := hb35.trans hb6; have HB36 := Lib.hid hb36; obtain ⟨n6, hn6⟩ : ∃ n6, 0 + 0 + 1 + 0 = n6 := ⟨_, rfl⟩; rw [hn6] at hown6; have HOWN := Lib.hid hown6; obtain ⟨A6, c6, rfl, _, _, _⟩ := own_slice hown6; have q2 := (H3.out.up hb36 H3.out.lt).cell 2 _ rfl; have p2 := (H3.out.up hb36 H3.out.lt).free 2; clear hn6 hb36 hb35 hb6 hb5 hb4 hown4 hown5 hown6 k1 k2 e1 e2))
    go_wp2_with fail
    have h7 := (H3.out.up HB36.out H3.out.lt).set 2 (.slice A6 n6 c6)
    have r7 := (HR3.out.up HB36.out HR3.out.lt).other ⟨w.heap.size, 2, none⟩ (by simp) (.slice A6 n6 c6)
    have ho7 : Only (fun k => k = w.heap.size ∨ k = w.heap.size + 1) w6 (w6.setCell ⟨w.heap.size, 2, none⟩ (.slice A6 n6 c6)) := (Only.refl _ _).setCell (.inl (.inl rfl)) _
    generalize w6.setCell ⟨w.heap.size, 2, none⟩ (.slice A6 n6 c6) = w7 at h7 r7 ho7 ⊢
    clear q2 p2
    have q0 := h7.cell 0 _ rfl
    have q1 := h7.cell 1 _ rfl
    have q2 := h7.cell 2 _ rfl
    have r0 := r7.cell 0 _ rfl
    have r1 := r7.cell 1 _ rfl
    have r2 := r7.cell 2 _ rfl
    have f0 := r7.free 0
    have f1 := r7.free 1
    have f2 := r7.free 2
    have HO7 := Lib.hid ho7
    clear h7 r7 ho7
    go_region
    all_goals
      go_wp2_with fail
      refine bodyPost_ret (v := .tuple #[.agg #[.int .i64 (rm : Int), .int .i64 ((n : Int) + 1), .slice A6 n6 c6], .int .i64 ((n : Int) + 1), .int .i64 0]) (by simp [results, Tryz.results35, go_sem, r0, r1, r2]) rfl ?_
      have hown := HOWN.out
      rw [show ([] ++ ([] : List Value) ++ [Value.int .i64 a, .int .i64 ((n : Int) + 1), .int .i64 who] ++ []) = flatT (insT [] ⟨a, (n : Int) + 1, who⟩) from rfl] at hown
      exact d_end (fun v => .tuple #[v, .int .i64 ((n : Int) + 1), .int .i64 0]) HU3.out HB36.out hown hz3 ((((HO7.out.drewN 1).setCell (.inl (.inr rfl)) _).setCell (.inl (.inr rfl)) _).setCell (.inl (.inr rfl)) _)

theorem c_tmadd {w : World} {lo n : Nat} {u : Value} {L : List Tm} (h : DR w lo u L) (rm : Nat) (a who : Int) (ha : fineC a = true) (hr : L.length < rm) (hrm : rm ≤ 1024) (hn : n ≤ 1000000) :
    Calls Tryz.prog 35 #[.agg #[.int .i64 (rm : Int), .int .i64 (n : Int), u], .int .i64 a, .int .i64 who] w (TmDPost w rm ((n : Int) + 1) (insT L ⟨a, (n : Int) + 1, who⟩) (fun v => .tuple #[v, .int .i64 ((n : Int) + 1), .int .i64 0])) := by
  rcases h.2 with ⟨rfl, h0⟩ | ⟨g, cap, cur, rfl, _, _, hnc, hcm, _⟩
  · obtain rfl : L = [] := List.eq_nil_of_length_eq_zero h0
    exact c_tmadd_nil rm a who ha hr hrm hn
  · exact c_tmadd_some (RD.of_own h) hnc hcm rm a who ha hr hrm hn
end Go.Proofs.YtdiiilnebepfdaaGreatDoor

/- The document's Drop. -/
import Derived.Test.YtbfmcdjnjnfdlaaTt
namespace Go.Proofs.Ytbfmcdjnjnfdlaa
open Go.RowKit

theorem er_flat (L : List Tm) (k : Nat) (hk : k < L.length) : ([] ++ (flatT L).take (k * 3)) ++ (flatT L).drop ((k + 1) * 3) = flatT (L.eraseIdx k) := by
  rw [flatT_take L k (by omega), flatT_drop L (k + 1) (by omega), List.nil_append, ← flatT_app, List.eraseIdx_eq_take_drop_succ]

set_option maxHeartbeats 1000000 in
theorem c_rdrop_no {w : World} {lo : Nat} {u : Value} {L : List Tm} (h : DR w lo u L) (hf : L.length ≤ 2000) (room last no : Int) (hno : ∀ x ∈ L, x.no ≠ no) :
    Calls Try.prog 10 #[.agg #[.int .i64 room, .int .i64 last, u], .int .i64 no] w fun e w' => e = .returned (.tuple #[.agg #[.int .i64 room, .int .i64 last, u], .int .i64 6]) ∧ Below w.heap.size w w' := by
  obtain ⟨A, c, rfl, hlc, hcm, hrd⟩ := h.slice
  have hX := lbox w room last (.slice A L.length c)
  generalize hw2 : (w.alloc (.cells #[.int .i64 room, .int .i64 last, .slice A L.length c] 30)).alloc (.cells #[.int .i64 0, .int .i64 0, .slice none 0 0] 30) = w2 at hX
  have HW := Lib.hid hw2
  have HRD := Lib.hid (hrd.below hX.up)
  have c0 := hX.box.cell 0 _ rfl
  have c1 := hX.box.cell 1 _ rfl
  have c2 := hX.box.cell 2 _ rfl
  have r0 := hX.res.cell 0 _ rfl
  have r1 := hX.res.cell 1 _ rfl
  have r2 := hX.res.cell 2 _ rfl
  have f0 := hX.res.free 0
  have f1 := hX.res.free 1
  have f2 := hX.res.free 2
  have HX := Lib.hid hX.up
  have HNO := Lib.hid (fun k (hk : k < L.length) => hno (gt L k) (by rw [gt_of (List.getElem?_eq_getElem hk)]; exact List.getElem_mem hk))
  obtain ⟨m, hm⟩ : ∃ m, m = L.length := ⟨_, rfl⟩
  have HM := Lib.hid hm
  rw [← hm] at c2 hlc hf HRD HNO HW ⊢
  clear hw2 hX h hrd hm hno
  unfold maxLen at hcm
  go_enter Try.func10, Try.ntmps10
  go_wp2_with fail
  rw [HW.out]
  go_loop [6] (fun i => ∃ k : Nat, k ≤ m ∧ i = .int .i64 k) (fun i => m - (intOf i).toNat)
  case atStart => exact ⟨0, Nat.zero_le _, rfl⟩
  case round =>
    obtain ⟨k, hk, rfl⟩ := hrel
    by_cases hlt : k < m
    · obtain ⟨b, o, rfl, _⟩ := HRD.out.at_ (by omega)
      obtain ⟨_, i1, _⟩ := RT_cell HRD.out k (by rw [← HM.out]; exact hlt)
      have hz := HNO.out k hlt
      generalize (gt L k).no = z at i1 hz
      have hzb : (z == no) = false := beq_eq_false_iff_ne.2 hz
      clear hz
      go_wp2
      go_round
      case rel => exact ⟨k + 1, by omega, by go_num⟩
      case measure => simp [intOf]; omega
    · have hkm : k = m := by omega
      subst hkm
      go_wp2
      refine bodyPost_ret (v := .tuple #[.agg #[.int .i64 room, .int .i64 last, .slice A k c], .int .i64 6]) (by simp [results, Try.results10, go_sem, r0, r1, r2]) rfl ?_
      exact ⟨rfl, ((HX.out.setCell (by simp) _).setCell (by simp) _).setCell (by simp) _⟩

set_option maxHeartbeats 4000000 in
theorem c_rdrop_yes {w : World} {lo : Nat} {u : Value} {L : List Tm} (h : DR w lo u L) (hf : L.length ≤ 2000) (room last no : Int) (i : Nat) (hi : i < L.length) (hno : (gt L i).no = no) (hfi : ∀ k, k < i → (gt L k).no ≠ no) :
    Calls Try.prog 10 #[.agg #[.int .i64 room, .int .i64 last, u], .int .i64 no] w (DPost w room last (L.eraseIdx i) (fun v => .tuple #[v, .int .i64 0])) := by
  obtain ⟨A, c, rfl, hlc, hcm, hrd⟩ := h.slice
  obtain ⟨b, o, rfl, _⟩ := hrd.at_ (by omega)
  have hX := lbox w room last (.slice (some ⟨b, o, none⟩) L.length c)
  generalize hw3 : (w.alloc (.cells #[.int .i64 room, .int .i64 last, .slice (some ⟨b, o, none⟩) L.length c] 30)).alloc (.cells #[.int .i64 0, .int .i64 0, .slice none 0 0] 30) = w3 at hX
  have HW := Lib.hid hw3
  have HRD := Lib.hid (hrd.below hX.up)
  have e2 := hX.box.cell 2 _ rfl
  have hz3 := hX.res.lt
  have H3 := Lib.hid hX.box
  have HR3 := Lib.hid hX.res
  have HU3 := Lib.hid hX.up
  have HNO := Lib.hid hno
  have HFI := Lib.hid hfi
  have HIL := Lib.hid hi
  obtain ⟨m, hm⟩ : ∃ m, m = L.length := ⟨_, rfl⟩
  have HM := Lib.hid hm
  rw [← hm] at e2 hlc hf HRD HW H3 hi ⊢
  clear hw3 hX h hrd hm hno hfi
  unfold maxLen at hcm
  go_enter Try.func10, Try.ntmps10
  go_wp2_with fail
  rw [HW.out]
  go_loop [6] (fun j => ∃ k : Nat, k ≤ i ∧ j = .int .i64 k) (fun j => m - (intOf j).toNat)
  case atStart => exact ⟨0, Nat.zero_le _, rfl⟩
  case round =>
    obtain ⟨k, hk, rfl⟩ := hrel
    have hkm : k < m := by omega
    obtain ⟨_, i1, _⟩ := RT_cell HRD.out k (by rw [← HM.out]; exact hkm)
    by_cases hlt : k < i
    · have hz := HFI.out k hlt
      generalize (gt L k).no = z at i1 hz
      have hzb : (z == no) = false := beq_eq_false_iff_ne.2 hz
      clear hz
      go_wp2
      go_round
      case rel => exact ⟨k + 1, by omega, by go_num⟩
      case measure => simp [intOf]; omega
    · have hki : k = i := by omega
      have HK := Lib.hid hki
      rw [hki, HNO.out] at i1
      rw [← hki] at i1
      have hzb : (no == no) = true := by simp
      have hkc : k ≤ c := by omega
      have hkc1 : k + 1 ≤ c := by omega
      have hk0 : (0 : Int) ≤ k := by omega
      have hk01 : (0 : Int) ≤ (k : Int) + 1 := by omega
      clear hki hlt hk
      have HR0 : Hid (m ≤ k + 1 → ∀ w' A, RD w' (fun _ => True) 3 A 0 ((flatT L).drop ((k + 1) * 3))) := Lib.hid (fun hmk w' A => by
        rw [List.drop_of_length_le (by rw [flatT_len, ← HM.out]; omega)]
        exact RD.nil _ _ _ _)
      rcases (show (k + 1 < m) ∨ (m ≤ k + 1 ∧ k + 1 = c) ∨ (m ≤ k + 1 ∧ ¬ c = k + 1) by omega) with hkm2 | ⟨hkm2, rfl⟩ | ⟨hkm2, hcne⟩
      · go_wp2_with (first
          | (at_builtin; refine wpList_app ei_R rfl (.const (.slice none 0 0)) (.tmp 26) rfl _ [] rfl (World.ownsRow_nil w3 w3.heap.size _ _) rfl (HRD.out.take k (by omega)) mem_take_cells (by omega) (Nat.le_refl _) ?_; intro v4 w4 hown4 hb4; have k2 := (H3.out.up hb4 H3.out.lt).cell 2 _ rfl)
          | (at_builtin; refine wpList_app ei_R rfl (.tmp 28) (.tmp 33) rfl _ _ rfl hown4 rfl ((HRD.out.below hb4).drop (k + 1) (by omega)) mem_drop_cells (by omega) (by have := hb4.size; exact this) ?_; intro v6 w6 hown6 hb6; have hb36 := hb4.trans hb6; have HB36 := Lib.hid hb36; obtain ⟨n6, hn6⟩ : ∃ n6, 0 + k + (m - (k + 1)) = n6 := ⟨_, rfl⟩; rw [hn6] at hown6; have HOWN := Lib.hid hown6; obtain ⟨A6, c6, rfl, _, _, _⟩ := own_slice hown6; have q0 := (H3.out.up hb36 H3.out.lt).cell 0 _ rfl; have q1 := (H3.out.up hb36 H3.out.lt).cell 1 _ rfl; have q2 := (H3.out.up hb36 H3.out.lt).cell 2 _ rfl; have p2 := (H3.out.up hb36 H3.out.lt).free 2; have r0 := (HR3.out.up hb36 HR3.out.lt).cell 0 _ rfl; have r1 := (HR3.out.up hb36 HR3.out.lt).cell 1 _ rfl; have r2 := (HR3.out.up hb36 HR3.out.lt).cell 2 _ rfl; have f0 := (HR3.out.up hb36 HR3.out.lt).free 0; have f1 := (HR3.out.up hb36 HR3.out.lt).free 1; have f2 := (HR3.out.up hb36 HR3.out.lt).free 2; clear hn6 hb36 hb6 hb4 hown4 hown6 k2 e2))
        refine bodyPost_ret (v := .tuple #[.agg #[.int .i64 room, .int .i64 last, .slice A6 n6 c6], .int .i64 0]) (by simp [results, Try.results10, go_sem, r0, r1, r2]) rfl ?_
        have hown := HOWN.out
        rw [er_flat L k (by rw [← HM.out]; omega), HK.out] at hown
        exact d_end (fun v => .tuple #[v, .int .i64 0]) HU3.out HB36.out hown hz3 (((((Only.refl _ _).setCell (.inl (.inl rfl)) _).setCell (.inl (.inr rfl)) _).setCell (.inl (.inr rfl)) _).setCell (.inl (.inr rfl)) _)
      · go_wp2_with (first
          | (at_builtin; refine wpList_app ei_R rfl (.const (.slice none 0 0)) (.tmp 26) rfl _ [] rfl (World.ownsRow_nil w3 w3.heap.size _ _) rfl (HRD.out.take k (by omega)) mem_take_cells (by omega) (Nat.le_refl _) ?_; intro v4 w4 hown4 hb4; have k2 := (H3.out.up hb4 H3.out.lt).cell 2 _ rfl)
          | (at_builtin; refine wpList_app ei_R rfl (.tmp 28) (.tmp 33) rfl _ _ rfl hown4 rfl (HR0.out hkm2 _ _) mem_drop_cells (by omega) (by have := hb4.size; exact this) ?_; intro v6 w6 hown6 hb6; have hb36 := hb4.trans hb6; have HB36 := Lib.hid hb36; obtain ⟨n6, hn6⟩ : ∃ n6, 0 + k + 0 = n6 := ⟨_, rfl⟩; rw [hn6] at hown6; have HOWN := Lib.hid hown6; obtain ⟨A6, c6, rfl, _, _, _⟩ := own_slice hown6; have q0 := (H3.out.up hb36 H3.out.lt).cell 0 _ rfl; have q1 := (H3.out.up hb36 H3.out.lt).cell 1 _ rfl; have q2 := (H3.out.up hb36 H3.out.lt).cell 2 _ rfl; have p2 := (H3.out.up hb36 H3.out.lt).free 2; have r0 := (HR3.out.up hb36 HR3.out.lt).cell 0 _ rfl; have r1 := (HR3.out.up hb36 HR3.out.lt).cell 1 _ rfl; have r2 := (HR3.out.up hb36 HR3.out.lt).cell 2 _ rfl; have f0 := (HR3.out.up hb36 HR3.out.lt).free 0; have f1 := (HR3.out.up hb36 HR3.out.lt).free 1; have f2 := (HR3.out.up hb36 HR3.out.lt).free 2; clear hn6 hb36 hb6 hb4 hown4 hown6 k2 e2))
        refine bodyPost_ret (v := .tuple #[.agg #[.int .i64 room, .int .i64 last, .slice A6 n6 c6], .int .i64 0]) (by simp [results, Try.results10, go_sem, r0, r1, r2]) rfl ?_
        have hown := HOWN.out
        rw [er_flat L k (by rw [← HM.out]; omega), HK.out] at hown
        exact d_end (fun v => .tuple #[v, .int .i64 0]) HU3.out HB36.out hown hz3 (((((Only.refl _ _).setCell (.inl (.inl rfl)) _).setCell (.inl (.inr rfl)) _).setCell (.inl (.inr rfl)) _).setCell (.inl (.inr rfl)) _)
      · go_wp2_with (first
          | (at_builtin; refine wpList_app ei_R rfl (.const (.slice none 0 0)) (.tmp 26) rfl _ [] rfl (World.ownsRow_nil w3 w3.heap.size _ _) rfl (HRD.out.take k (by omega)) mem_take_cells (by omega) (Nat.le_refl _) ?_; intro v4 w4 hown4 hb4; have k2 := (H3.out.up hb4 H3.out.lt).cell 2 _ rfl)
          | (at_builtin; refine wpList_app ei_R rfl (.tmp 28) (.tmp 33) rfl _ _ rfl hown4 rfl (HR0.out hkm2 _ _) mem_drop_cells (by omega) (by have := hb4.size; exact this) ?_; intro v6 w6 hown6 hb6; have hb36 := hb4.trans hb6; have HB36 := Lib.hid hb36; obtain ⟨n6, hn6⟩ : ∃ n6, 0 + k + 0 = n6 := ⟨_, rfl⟩; rw [hn6] at hown6; have HOWN := Lib.hid hown6; obtain ⟨A6, c6, rfl, _, _, _⟩ := own_slice hown6; have q0 := (H3.out.up hb36 H3.out.lt).cell 0 _ rfl; have q1 := (H3.out.up hb36 H3.out.lt).cell 1 _ rfl; have q2 := (H3.out.up hb36 H3.out.lt).cell 2 _ rfl; have p2 := (H3.out.up hb36 H3.out.lt).free 2; have r0 := (HR3.out.up hb36 HR3.out.lt).cell 0 _ rfl; have r1 := (HR3.out.up hb36 HR3.out.lt).cell 1 _ rfl; have r2 := (HR3.out.up hb36 HR3.out.lt).cell 2 _ rfl; have f0 := (HR3.out.up hb36 HR3.out.lt).free 0; have f1 := (HR3.out.up hb36 HR3.out.lt).free 1; have f2 := (HR3.out.up hb36 HR3.out.lt).free 2; clear hn6 hb36 hb6 hb4 hown4 hown6 k2 e2))
        refine bodyPost_ret (v := .tuple #[.agg #[.int .i64 room, .int .i64 last, .slice A6 n6 c6], .int .i64 0]) (by simp [results, Try.results10, go_sem, r0, r1, r2]) rfl ?_
        have hown := HOWN.out
        rw [er_flat L k (by rw [← HM.out]; omega), HK.out] at hown
        exact d_end (fun v => .tuple #[v, .int .i64 0]) HU3.out HB36.out hown hz3 (((((Only.refl _ _).setCell (.inl (.inl rfl)) _).setCell (.inl (.inr rfl)) _).setCell (.inl (.inr rfl)) _).setCell (.inl (.inr rfl)) _)
end Go.Proofs.Ytbfmcdjnjnfdlaa

/- The list's Add, and New; a list that nobody made. -/
import Derived.Test.YtbfmcdjnjnfdlaaTq
namespace Go.Proofs.Ytbfmcdjnjnfdlaa
open Go.RowKit

theorem c_add_bad {w : World} {t S lo : Nat} {room last : Int} {v : Value} {xs : List Tm} (h : TL w t S lo room last v xs) (a who : Int) (ha : fineC a = false) :
    Calls Try.prog 11 #[.pointer (some ⟨t, 0, none⟩), .int .i64 a, .int .i64 who] w fun e w' => e = .returned (.tuple #[.int .i64 0, .int .i64 8]) ∧ w = w' := by
  have CN := Lib.hid (c_nob h)
  have CF := fun W => c_fine a W
  simp only [ha] at CF
  have CFF := Lib.hid CF
  clear h ha CF
  go_enter Try.func11, Try.ntmps11
  go_wp2_with (first | (go_at_call 20; refine CN.out.mono ?_; rintro e w' ⟨rfl, rfl⟩) | (go_at_call 24; refine (CFF.out _).mono ?_; rintro e w' ⟨rfl, rfl⟩))
  go_ret2
  exact ⟨rfl, rfl⟩
set_option maxHeartbeats 1000000 in
theorem c_add_full {w : World} {t S lo : Nat} {last : Int} {v : Value} {xs : List Tm} (h : TL w t S lo (xs.length : Int) last v xs) (a who : Int) (ha : fineC a = true) :
    Calls Try.prog 11 #[.pointer (some ⟨t, 0, none⟩), .int .i64 a, .int .i64 who] w fun e w' => e = .returned (.tuple #[.int .i64 0, .int .i64 10]) ∧ Drew w w' := by
  have CN := Lib.hid (c_nob h)
  have CF := fun W => c_fine a W
  simp only [ha] at CF
  have CFF := Lib.hid CF
  have hc0 := h.c0
  have hc1 := h.box.cell 0 _ rfl
  have CLL := Lib.hid fun m => c_llen (h.below (up_drewN w m))
  have hf := h.pile.few
  generalize xs.length = n at *
  have hnn : ((n : Int) == (n : Int)) = true := by simp
  clear h ha CF
  go_enter Try.func11, Try.ntmps11
  go_wp2_with (first | (go_at_call 20; refine CN.out.mono ?_; rintro e w' ⟨rfl, rfl⟩) | (go_at_call 24; refine (CFF.out _).mono ?_; rintro e w' ⟨rfl, rfl⟩))
  go_quiet ((go_at_call 14; exact quiet_left (CLL.out _)))
  go_wp2
  go_ret2
  exact ⟨rfl, Drew.of _ _⟩
theorem TL.setLast {w : World} {t S lo : Nat} {room last : Int} {v : Value} {xs : List Tm} (h : TL w t S lo room last v xs) (m : Nat) (x : Int) : TL ((w.drewN m).setCell ⟨S, 1, none⟩ (.int .i64 x)) t S lo room x v xs := by
  have h1 := h.below (up_drewN w m)
  refine ⟨h1.tab.other _ h1.tS _, h1.box.set 1 _, h1.pile.lt, own_keep h1.pile.row ((Only.refl (· = S) _).put 1 _) (fun g e k => h1.pile.qg g e k.symm), h1.pile.ne, h1.pile.few⟩
set_option maxHeartbeats 1000000 in
theorem c_add_ok {w : World} {t S lo n rm : Nat} {v : Value} {L xs : List Tm} (h : TL w t S lo (rm : Int) n v xs) (hT : TS L xs n) (hlo : lo ≤ w.heap.size) (hr : L.length < rm) (hrm : rm ≤ 1024) (hn : n ≤ 1000000) (a who : Int) (ha : fineC a = true) :
    Calls Try.prog 11 #[.pointer (some ⟨t, 0, none⟩), .int .i64 a, .int .i64 who] w (LPost w t S lo rm v (insT L ⟨a, (n : Int) + 1, who⟩) (n + 1) (.tuple #[.int .i64 ((n : Int) + 1), .int .i64 0])) := by
  have CN := Lib.hid (c_nob h)
  have CF := fun W => c_fine a W
  simp only [ha] at CF
  have CFF := Lib.hid CF
  have hc0 := h.c0
  have hc1 := h.box.cell 0 _ rfl
  have hc2 := h.box.cell 1 _ rfl
  have hz1 := h.box.free 1
  have CLL := Lib.hid fun m => c_llen (h.below (up_drewN w m))
  have hlx := hT.len
  have H := Lib.hid h
  have HT := Lib.hid hT
  have HX := Lib.hid hlx
  obtain ⟨k, hk⟩ : ∃ k, k = xs.length := ⟨_, rfl⟩
  rw [← hk] at CLL
  have HK := Lib.hid hk
  have hkr : k < rm := by omega
  have hne : ((k : Int) == (rm : Int)) = false := beq_eq_false_iff_ne.2 (by omega)
  clear h ha CF hT hlx hk hr
  go_enter Try.func11, Try.ntmps11
  go_wp2_with (first | (go_at_call 20; refine CN.out.mono ?_; rintro e w' ⟨rfl, rfl⟩) | (go_at_call 24; refine (CFF.out _).mono ?_; rintro e w' ⟨rfl, rfl⟩))
  go_quiet ((go_at_call 14; exact quiet_left (CLL.out _)))
  go_wp2_with fail
  have h1 := H.out.setLast nq ((n : Int) + 1)
  have ho1 : Only (PS S v) w ((w.drewN nq).setCell ⟨S, 1, none⟩ (.int .i64 ((n : Int) + 1))) := ((Only.refl _ w).drewN nq).setCell (.inl (.inl rfl)) _
  generalize (w.drewN nq).setCell ⟨S, 1, none⟩ (.int .i64 ((n : Int) + 1)) = w1 at h1 ho1 ⊢
  have d0 := h1.c0
  have d1 := h1.box.cell 1 _ rfl
  have CP := Lib.hid (c_push (h1.below (up_drewN w1 1)).pile (by rw [← HK.out]; omega) (Nat.le_trans hlo ho1.size) HT.out.heap ⟨a, (n : Int) + 1, who⟩)
  have H1 := Lib.hid h1
  have HO1 := Lib.hid ho1
  clear h1 ho1 hc0 hc1 hc2 hz1
  go_still_tail 18, (by kernel_rfl)
  go_wp2_with fail
  refine Calls.mono CP.out ?_
  rintro e w2 ⟨v2, ys, rfl, ⟨hp, hh⟩, hw2, ho2, _⟩
  have h2 : TL w2 t S lo rm ((n : Int) + 1) v2 ys := ⟨(H1.out.below (up_drewN w1 1)).tab.only ho2 (H1.out.below (up_drewN w1 1)).tg, hw2⟩
  have e0 := h2.c0
  have e1 := h2.box.cell 1 _ rfl
  have H2 := Lib.hid h2
  have HP := Lib.hid hp
  have HH := Lib.hid hh
  have HO2 := Lib.hid ho2
  clear hp hh hw2 ho2 h2 d0 d1
  go_wp2_with fail
  go_ret2
  exact ⟨v2, ys, rfl, H2.out, HT.out.add rfl HP.out HH.out, (HO1.out.drewN 1).trans HO2.out⟩

theorem c_new_bad (r : Int) (w : World) (hr : r < 0 ∨ 1024 < r) : Calls Try.prog 7 #[.int .i64 r] w fun e w' => e = .returned (.tuple #[.pointer none, .int .i64 1]) ∧ w = w' := by
  rcases hr with hr | hr
  · go_enter Try.func7, Try.ntmps7
    go_wp2
    go_ret2
    exact ⟨rfl, rfl⟩
  · have h0 : ¬ r < 0 := by omega
    go_enter Try.func7, Try.ntmps7
    go_wp2
    go_ret2
    exact ⟨rfl, rfl⟩
/-- What New gives: a list without timers, in two new blocks. -/
def NewPost (w : World) (r : Int) (e : Ending) (w' : World) : Prop :=
  e = .returned (.tuple #[.pointer (some ⟨w.heap.size + 1, 0, none⟩), .int .i64 0]) ∧ TL w' (w.heap.size + 1) w.heap.size w.heap.size r ((0 : Nat) : Int) (.slice none 0 0) [] ∧ Below w.heap.size w w'
theorem c_new (r : Int) (w : World) (h0 : 0 ≤ r) (h1 : r ≤ 1024) : Calls Try.prog 7 #[.int .i64 r] w (NewPost w r) := by
  have hB1 := Blk.new w [.int .i64 r, .int .i64 0, .slice none 0 0] 63
  have hB2 := Blk.new (w.alloc (.cells #[.int .i64 r, .int .i64 0, .slice none 0 0] 63)) [.pointer (some ⟨w.heap.size, 0, none⟩)] 58
  have hs : (w.alloc (.cells #[.int .i64 r, .int .i64 0, .slice none 0 0] 63)).heap.size = w.heap.size + 1 := by simp
  rw [hs] at hB2
  have HP : Hid (NewPost w r (.returned (.tuple #[.pointer (some ⟨w.heap.size + 1, 0, none⟩), .int .i64 0])) ((w.alloc (.cells #[.int .i64 r, .int .i64 0, .slice none 0 0] 63)).alloc (.cells #[.pointer (some ⟨w.heap.size, 0, none⟩)] 58))) :=
    Lib.hid ⟨rfl, ⟨hB2, hB1.alloc _, by simp, World.ownsRow_nil _ _ _ _, by decide, by simp⟩, up_trans (up_alloc _ _) (up_alloc _ _)⟩
  clear hB1 hB2 hs
  go_enter Try.func7, Try.ntmps7
  go_wp2
  go_ret2
  exact HP.out
end Go.Proofs.Ytbfmcdjnjnfdlaa

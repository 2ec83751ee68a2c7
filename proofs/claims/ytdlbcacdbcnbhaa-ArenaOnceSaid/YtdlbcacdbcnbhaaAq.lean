/- The contract of the law's alive; a table that nobody made; the law ArenaNobody. -/
import Derived.Test.YtdlbcacdbcnbhaaAp
namespace Go.Proofs.Ytdlbcacdbcnbhaa
open Go.RowKit

theorem al_i64 (x : Int) (h : 0 ≤ x) (h' : x ≤ 1000000) : I64 x := by unfold I64; omega

set_option maxRecDepth 100000 in
set_option maxHeartbeats 4000000 in
theorem c_alive (w : World) : Calls Try.prog 6 #[] w fun e w' => e = .returned (.bool true) ∧ Below w.heap.size w w' := by
  have s1 : slotF 4096 = (0 : Nat) := by decide
  have g1 : genF 4096 = 1 := by decide
  have s2 : slotF 8192 = (0 : Nat) := by decide
  have g2 : genF 8192 = 2 := by decide
  have S1 := Lib.hid s1
  have G1 := Lib.hid g1
  have S2 := Lib.hid s2
  have G2 := Lib.hid g2
  clear s1 g1 s2 g2
  go_enter Try.func6, Try.ntmps6
  go_wp2_with fail
  refine (c_new 1 (by omega) (by omega) 2 (by omega) (by omega) w).mono ?_
  rintro e w1 ⟨t, S, rfl, H1, ht, hS, hb1⟩
  have hbA := hb1
  clear hb1
  go_wp2_with fail
  refine (c_add H1 5 0 0 rfl (by omega) (by omega) (by omega) (by simp)).mono ?_
  rintro e w2 ⟨rfl, H2, hb2⟩
  generalize w1.heap.size = b1 at H2
  have H2 : AT w2 t S 2 [(1, some (b1, 5))] := by simpa using H2
  have up2 : Below w.heap.size w w2 := Only.later hbA hb2 (fun i e => e ▸ hS)
  clear H1 hb2 hbA
  go_wp2_with fail
  refine (c_drop_ok H2 4096 (al_i64 _ (by omega) (by omega)) 0 S1.out b1 5 (by rw [G1.out]; rfl)).mono ?_
  rintro e w3 ⟨rfl, H3, hb3⟩
  have H3 : AT w3 t S 2 [(1, none)] := by rw [G1.out] at H3; simpa using H3
  have up3 : Below w.heap.size w w3 := up2.trans (hb3.toBelow up2.size (fun i e => e ▸ hS))
  clear H2 hb3 up2
  go_wp2_with fail
  refine (c_add H3 6 0 1 rfl (by omega) (by omega) (by omega) (by simp)).mono ?_
  rintro e w4 ⟨rfl, H4, hb4⟩
  generalize w3.heap.size = b2 at H4
  have H4 : AT w4 t S 2 [(2, some (b2, 6))] := by simpa using H4
  have up4 : Below w.heap.size w w4 := up3.trans (hb4.toBelow up3.size (fun i e => e ▸ hS))
  clear H3 hb4 up3
  go_wp2_with fail
  refine (c_get_ok H4 8192 (al_i64 _ (by omega) (by omega)) 0 S2.out b2 6 (by rw [G2.out]; rfl)).mono ?_
  rintro e w' ⟨rfl, n5, rfl⟩
  have H5 := H4.drewN n5
  have up5 : Below w.heap.size w (w4.drewN n5) := up_trans up4 (up_drewN _ _)
  clear H4 up4
  go_wp2_with fail
  refine (c_get_stale H5 4096 (al_i64 _ (by omega) (by omega)) 0 S1.out 2 _ rfl (.inr (by rw [G1.out]; decide))).mono ?_
  rintro e w' ⟨rfl, n6, rfl⟩
  have H6 := H5.drewN n6
  have up6 := up_trans up5 (up_drewN _ n6)
  generalize hw6 : (w4.drewN n5).drewN n6 = w6 at H6 up6
  have HW6 := Lib.hid hw6
  clear H5 up5 hw6
  go_wp2_with fail
  refine (c_drop_ok H6 8192 (al_i64 _ (by omega) (by omega)) 0 S2.out b2 6 (by rw [G2.out]; rfl)).mono ?_
  rintro e w7 ⟨rfl, H7, hb7⟩
  have H7 : AT w7 t S 2 [(2, none)] := by rw [G2.out] at H7; simpa using H7
  have up7 : Below w.heap.size w w7 := up6.trans (hb7.toBelow up6.size (fun i e => e ▸ hS))
  clear H6 hb7 up6 HW6
  go_wp2_with fail
  refine (c_add_no H7 7 (by decide)).mono ?_
  rintro e w8 ⟨rfl, hb8⟩
  have H8 := H7.below hb8
  have up8 := up_trans up7 hb8
  clear H7 up7 hb8
  have l0 : lenT [((2, none) : Slot)] = 0 := rfl
  have f0 : freeT 2 [((2, none) : Slot)] = 0 := rfl
  have C1 := c_len H8
  rw [l0] at C1
  have C1 := Lib.hid C1
  clear l0
  go_wp2_with fail
  refine Calls.mono C1.out ?_
  rintro e w9 ⟨rfl, hb9⟩
  have H9 := H8.below hb9
  have up9 := up_trans up8 hb9
  have C2 := c_freeN H9
  rw [f0] at C2
  have C2 := Lib.hid C2
  clear f0 H8 up8 hb9 C1
  go_wp2_with fail
  refine Calls.mono C2.out ?_
  rintro e wA ⟨rfl, hbA⟩
  have HA := H9.below hbA
  have upA := up_trans up9 hbA
  clear H9 up9 hbA C2
  go_wp2_with fail
  refine (c_handles HA (by intro s hs p e; simp at hs; subst hs; cases e)).mono ?_
  rintro e wB ⟨Ah, ch, rfl, _, _, _, hbB⟩
  go_wp2_with fail
  go_ret
  exact ⟨rfl, up_trans upA hbB⟩

/-- A table that nobody made: none, or one of zeros. -/
def Nobody (w : World) (p : Option Addr) : Prop := p = none ∨ ∃ b, p = some ⟨b, 0, none⟩ ∧ Blk w b [.slice none 0 0, .int .i64 0] 51
theorem Nobody.below {w w' : World} {p : Option Addr} (h : Nobody w p) (hb : Below w.heap.size w w') : Nobody w' p := by
  rcases h with h | ⟨b, e, hB⟩
  · exact .inl h
  · exact .inr ⟨b, e, hB.up hb hB.lt⟩

set_option maxHeartbeats 400000 in
theorem n_nob {w : World} {p : Option Addr} (h : Nobody w p) : Calls Try.prog 22 #[.pointer p] w fun e w' => e = .returned (.bool true) ∧ w = w' := by
  rcases h with rfl | ⟨b, rfl, hB⟩
  · go_enter Try.func22, Try.ntmps22
    go_wp2
    go_ret
    exact ⟨rfl, rfl⟩
  · have c0 := hB.cell 0 _ rfl
    go_enter Try.func22, Try.ntmps22
    go_wp2
    go_ret
    exact ⟨rfl, rfl⟩
set_option maxHeartbeats 400000 in
theorem n_find {w : World} {p : Option Addr} (h : Nobody w p) (x : Int) : Calls Try.prog 20 #[.pointer p, .int .i64 x] w fun e w' => e = .returned (.tuple #[.pointer none, .int .i64 2]) ∧ w = w' := by
  go_enter Try.func20, Try.ntmps20
  go_wp2_with (go_at_call 22; refine (n_nob h).mono ?_; rintro e w' ⟨rfl, rfl⟩)
  go_ret2
  exact ⟨rfl, rfl⟩
set_option maxHeartbeats 400000 in
theorem n_get {w : World} {p : Option Addr} (h : Nobody w p) (x : Int) : Calls Try.prog 16 #[.pointer p, .int .i64 x] w fun e w' => e = .returned (.tuple #[.int .i64 0, .int .i64 2]) ∧ w = w' := by
  go_enter Try.func16, Try.ntmps16
  go_wp2_with (go_at_call 20; refine (n_find h _).mono ?_; rintro e w' ⟨rfl, rfl⟩)
  go_ret2
  exact ⟨rfl, rfl⟩
set_option maxHeartbeats 400000 in
theorem n_add {w : World} {p : Option Addr} (h : Nobody w p) (x : Int) : Calls Try.prog 13 #[.pointer p, .int .i64 x] w fun e w' => e = .returned (.tuple #[.int .i64 0, .int .i64 2]) ∧ Below w.heap.size w w' := by
  go_enter Try.func13, Try.ntmps13
  go_wp2_with (go_at_call 22; refine (n_nob (h.below (up_alloc _ _))).mono ?_; rintro e w' ⟨rfl, rfl⟩)
  go_ret2
  exact ⟨rfl, up_alloc _ _⟩
set_option maxHeartbeats 400000 in
theorem n_set {w : World} {p : Option Addr} (h : Nobody w p) (x y : Int) : Calls Try.prog 9 #[.pointer p, .int .i64 x, .int .i64 y] w fun e w' => e = .returned (.int .i64 2) ∧ Below w.heap.size w w' := by
  go_enter Try.func9, Try.ntmps9
  go_wp2_with (go_at_call 20; refine (n_find (h.below (up_alloc _ _)) _).mono ?_; rintro e w' ⟨rfl, rfl⟩)
  go_ret
  exact ⟨rfl, up_alloc _ _⟩
set_option maxHeartbeats 400000 in
theorem n_drop {w : World} {p : Option Addr} (h : Nobody w p) (x : Int) : Calls Try.prog 11 #[.pointer p, .int .i64 x] w fun e w' => e = .returned (.int .i64 2) ∧ w = w' := by
  go_enter Try.func11, Try.ntmps11
  go_wp2_with (go_at_call 20; refine (n_find h _).mono ?_; rintro e w' ⟨rfl, rfl⟩)
  go_ret
  exact ⟨rfl, rfl⟩
set_option maxHeartbeats 400000 in
theorem n_len {w : World} {p : Option Addr} (h : Nobody w p) : Calls Try.prog 17 #[.pointer p] w fun e w' => e = .returned (.int .i64 0) ∧ w = w' := by
  go_enter Try.func17, Try.ntmps17
  go_wp2_with (go_at_call 22; refine (n_nob h).mono ?_; rintro e w' ⟨rfl, rfl⟩)
  go_ret
  exact ⟨rfl, rfl⟩
set_option maxHeartbeats 400000 in
theorem n_free {w : World} {p : Option Addr} (h : Nobody w p) : Calls Try.prog 18 #[.pointer p] w fun e w' => e = .returned (.int .i64 0) ∧ w = w' := by
  go_enter Try.func18, Try.ntmps18
  go_wp2_with (go_at_call 22; refine (n_nob h).mono ?_; rintro e w' ⟨rfl, rfl⟩)
  go_ret
  exact ⟨rfl, rfl⟩
set_option maxHeartbeats 400000 in
theorem n_handles {w : World} {p : Option Addr} (h : Nobody w p) : Calls Try.prog 19 #[.pointer p] w fun e w' => e = .returned (.slice none 0 0) ∧ w = w' := by
  go_enter Try.func19, Try.ntmps19
  go_wp2_with (go_at_call 22; refine (n_nob h).mono ?_; rintro e w' ⟨rfl, rfl⟩)
  go_ret
  exact ⟨rfl, rfl⟩

set_option maxHeartbeats 1000000 in
theorem l_nobody (h x : Int) (w : World) : Calls Try.prog 5 #[.int .i64 h, .int .i64 x] w fun e w' => e = .returned (.bool true) ∧ Below w.heap.size w w' := by
  have hB := Blk.new w [.slice none 0 0, .int .i64 0] 51
  have up1 := up_alloc w (.cells #[.slice none 0 0, .int .i64 0] 51)
  generalize hw1 : w.alloc (.cells [.slice none 0 0, .int .i64 0].toArray 51) = w1 at hB
  have hw1' : w.alloc (.cells #[.slice none 0 0, .int .i64 0] 51) = w1 := hw1
  rw [hw1'] at up1
  have hz := hB.lt
  have hs1 : w1.heap.size = w.heap.size + 1 := by rw [← hw1']; simp
  have hC := Blk.new w1 [.pointer none, .pointer (some ⟨w.heap.size, 0, none⟩)] 24
  rw [hs1] at hC
  have up2 := up_alloc w1 (.cells #[.pointer none, .pointer (some ⟨w.heap.size, 0, none⟩)] 24)
  have hw2 : ∃ w2, w1.alloc (.cells #[.pointer none, .pointer (some ⟨w.heap.size, 0, none⟩)] 24) = w2 := ⟨_, rfl⟩
  obtain ⟨w2, hw2⟩ := hw2
  have hC : Blk w2 (w.heap.size + 1) [.pointer none, .pointer (some ⟨w.heap.size, 0, none⟩)] 24 := hw2 ▸ hC
  rw [hw2] at up2
  have hB2 := hB.up up2 hz
  have HW1 := Lib.hid hw1'
  have HW2 := Lib.hid hw2
  have up2 := up_trans up1 up2
  clear hw1 hw1' hw2 hs1 hB up1 hz
  go_enter Try.func5, Try.ntmps5
  go_wp2_with fail
  rw [HW1.out, HW2.out]
  go_loopw [6, 7, 8, 9, 10, 15] (fun _ _ _ _ _ i wr => ∃ k : Nat, k ≤ 2 ∧ i = .int .i64 k ∧ Below w2.heap.size w2 wr) (fun _ _ _ _ _ i _ => 2 - (intOf i).toNat)
  case atStart => exact ⟨0, by omega, rfl, Below.refl _ _⟩
  case round =>
    obtain ⟨k, hk, rfl, hbr⟩ := hrel
    have hBr := hB2.up hbr hB2.lt
    have hCr := hC.up hbr hC.lt
    have hN0 : Nobody wr none := .inl rfl
    have hN1 : Nobody wr (some ⟨w.heap.size, 0, none⟩) := .inr ⟨_, rfl, hBr⟩
    have c0 := hCr.cell 0 _ rfl
    have c1 := hCr.cell 1 _ rfl
    have key : k = 0 ∨ k = 1 ∨ k = 2 := by omega
    rcases key with rfl | rfl | rfl
    · go_wp2_with (first | (go_at_call 13; refine (n_add hN0 _).mono ?_; rintro e w3 ⟨rfl, hb3⟩; have hN3 := hN0.below hb3) | (go_at_call 16; refine (n_get hN3 _).mono ?_; rintro e w' ⟨rfl, rfl⟩) | (go_at_call 9; refine (n_set hN3 _ _).mono ?_; rintro e w4 ⟨rfl, hb4⟩; have hN4 := hN3.below hb4) | (go_at_call 11; refine (n_drop hN4 _).mono ?_; rintro e w' ⟨rfl, rfl⟩) | (go_at_call 17; refine (n_len hN4).mono ?_; rintro e w' ⟨rfl, rfl⟩) | (go_at_call 18; refine (n_free hN4).mono ?_; rintro e w' ⟨rfl, rfl⟩) | (go_at_call 19; refine (n_handles hN4).mono ?_; rintro e w' ⟨rfl, rfl⟩))
      go_roundw
      case rel => exact ⟨1, by omega, by go_num, up_trans hbr (up_trans hb3 hb4)⟩
      case measure => simp [intOf]
    · go_wp2_with (first | (go_at_call 13; refine (n_add hN1 _).mono ?_; rintro e w3 ⟨rfl, hb3⟩; have hN3 := hN1.below hb3) | (go_at_call 16; refine (n_get hN3 _).mono ?_; rintro e w' ⟨rfl, rfl⟩) | (go_at_call 9; refine (n_set hN3 _ _).mono ?_; rintro e w4 ⟨rfl, hb4⟩; have hN4 := hN3.below hb4) | (go_at_call 11; refine (n_drop hN4 _).mono ?_; rintro e w' ⟨rfl, rfl⟩) | (go_at_call 17; refine (n_len hN4).mono ?_; rintro e w' ⟨rfl, rfl⟩) | (go_at_call 18; refine (n_free hN4).mono ?_; rintro e w' ⟨rfl, rfl⟩) | (go_at_call 19; refine (n_handles hN4).mono ?_; rintro e w' ⟨rfl, rfl⟩))
      go_roundw
      case rel => exact ⟨2, by omega, by go_num, up_trans hbr (up_trans hb3 hb4)⟩
      case measure => simp [intOf]
    · go_wp2_with (go_at_call 6; refine (c_alive _).mono ?_; rintro e w3 ⟨rfl, hb3⟩)
      go_ret
      exact ⟨rfl, up_trans up2 (up_trans hbr hb3)⟩
end Go.Proofs.Ytdlbcacdbcnbhaa

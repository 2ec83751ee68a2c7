/- The contract of the law's alive; a pool that nobody made; the law QueueNobody. -/
import Derived.Test.YthakcjabeekihaaQx
namespace Go.Proofs.Ythakcjabeekihaa
open Go.RowKit

/-! The contracts at a queue that is a number. -/
section
variable {w : World} {b : Nat} {Vs : List (List Int)} {fr : Nat}
theorem z_push (h : PA w b Vs (fr + 1)) (q : Int) (k : Nat) (e : q = k) (x : Int) (l : List Int) (hq : Vs[k]? = some l) (Ws : List (List Int)) (he : Vs.set k (l ++ [x]) = Ws) :
    Calls Try.prog 13 #[.pointer (some ⟨b, 0, none⟩), .int .i64 q, .int .i64 x] w fun e w' => e = .returned (.int .i64 0) ∧ PPost w b Ws fr w' := by
  subst e
  rw [← he]
  exact c_push_ok h k x l hq
theorem z_full (h : PA w b Vs 0) (q : Int) (k : Nat) (e : q = k) (x : Int) (hk : k < Vs.length) :
    Calls Try.prog 13 #[.pointer (some ⟨b, 0, none⟩), .int .i64 q, .int .i64 x] w fun e w' => e = .returned (.int .i64 10) ∧ w = w' := by
  subst e
  exact c_push_full h k x hk
theorem z_pop (h : PA w b Vs fr) (q : Int) (k : Nat) (e : q = k) (x : Int) (l : List Int) (hq : Vs[k]? = some (x :: l)) (Ws : List (List Int)) (he : Vs.set k l = Ws) :
    Calls Try.prog 11 #[.pointer (some ⟨b, 0, none⟩), .int .i64 q] w fun e w' => e = .returned (.tuple #[.int .i64 x, .int .i64 0]) ∧ PPost w b Ws (fr + 1) w' := by
  subst e
  rw [← he]
  exact c_pop_ok h k x l hq
theorem z_first (h : PA w b Vs fr) (q : Int) (k : Nat) (e : q = k) (x : Int) (l : List Int) (hq : Vs[k]? = some (x :: l)) :
    Calls Try.prog 17 #[.pointer (some ⟨b, 0, none⟩), .int .i64 q] w fun e w' => e = .returned (.tuple #[.int .i64 x, .int .i64 0]) ∧ Drew w w' := by
  subst e
  exact c_first_ok h k x l hq
theorem z_len (h : PA w b Vs fr) (q : Int) (k : Nat) (e : q = k) (l : List Int) (hq : Vs[k]? = some l) (n : Int) (hn : n = l.length) :
    Calls Try.prog 19 #[.pointer (some ⟨b, 0, none⟩), .int .i64 q] w fun e w' => e = .returned (.int .i64 n) ∧ w = w' := by
  subst e
  subst hn
  exact c_len h k l hq
theorem z_free (h : PA w b Vs fr) (n : Int) (hn : n = fr) :
    Calls Try.prog 16 #[.pointer (some ⟨b, 0, none⟩)] w fun e w' => e = .returned (.int .i64 n) ∧ w = w' := by
  subst hn
  exact c_free h
theorem z_remove (h : PA w b Vs fr) (q : Int) (k : Nat) (e : q = k) (x : Int) (l : List Int) (hq : Vs[k]? = some l) (i : Nat) (hxi : l[i]? = some x) (hx0 : ∀ y ∈ l.take i, y ≠ x) (Ws : List (List Int)) (he : Vs.set k (l.take i ++ l.drop (i + 1)) = Ws) :
    Calls Try.prog 9 #[.pointer (some ⟨b, 0, none⟩), .int .i64 q, .int .i64 x] w fun e w' => e = .returned (.bool true) ∧ PPost w b Ws (fr + 1) w' := by
  subst e
  rw [← he]
  exact c_remove_yes h k x l hq i hxi hx0
theorem z_list (h : PA w b Vs fr) (q : Int) (k : Nat) (e : q = k) (l : List Int) (hq : Vs[k]? = some l) :
    Calls Try.prog 18 #[.pointer (some ⟨b, 0, none⟩), .int .i64 q] w (IntsPost w l) := by
  subst e
  exact c_list h k l hq
theorem z_new (q r : Int) (n room : Nat) (hq : q = n) (hr : r = room) (h0 : 1 ≤ n) (h1 : n ≤ 64) (r1 : room ≤ 1024) (w : World) :
    Calls Try.prog 7 #[.int .i64 q, .int .i64 r] w (NewPost w n room) := by
  subst hq
  subst hr
  exact c_new n room h0 h1 r1 w
end

set_option maxRecDepth 100000 in
set_option maxHeartbeats 4000000 in
theorem c_alive (w : World) : Calls Try.prog 6 #[] w fun e w' => e = .returned (.bool true) ∧ Below w.heap.size w w' := by
  go_enter Try.func6, Try.ntmps6
  go_wp2_with fail
  refine (z_new 2 3 2 3 rfl rfl (by omega) (by omega) (by omega) w).mono ?_
  rintro e w1 ⟨b, rfl, H1, ht, hb1⟩
  have H1 : PA w1 b [[], []] 3 := H1
  have up1 := hb1
  clear hb1
  go_wp2_with fail
  refine (z_push H1 0 0 rfl 5 [] rfl [[5], []] rfl).mono ?_
  rintro e w2 ⟨rfl, H2, ho⟩
  have up2 := up1.trans (ho.toBelow up1.size (fun i e => e ▸ ht))
  clear H1 up1 ho
  go_wp2_with fail
  refine (z_push H2 0 0 rfl 6 [5] rfl [[5, 6], []] rfl).mono ?_
  rintro e w3 ⟨rfl, H3, ho⟩
  have up3 := up2.trans (ho.toBelow up2.size (fun i e => e ▸ ht))
  clear H2 up2 ho
  go_wp2_with fail
  refine (z_push H3 1 1 rfl 7 [] rfl [[5, 6], [7]] rfl).mono ?_
  rintro e w4 ⟨rfl, H4, ho⟩
  have up4 := up3.trans (ho.toBelow up3.size (fun i e => e ▸ ht))
  clear H3 up3 ho
  go_wp2_with fail
  refine (z_full H4 1 1 rfl 8 (by decide)).mono ?_
  rintro e w' ⟨rfl, rfl⟩
  go_wp2_with fail
  refine (z_pop H4 0 0 rfl 5 [6] rfl [[6], [7]] rfl).mono ?_
  rintro e w5 ⟨rfl, H5, ho⟩
  have up5 := up4.trans (ho.toBelow up4.size (fun i e => e ▸ ht))
  clear H4 up4 ho
  go_wp2_with fail
  refine (z_first H5 1 1 rfl 7 [] rfl).mono ?_
  rintro e w6 ⟨rfl, hd⟩
  have H6 := H5.below hd.below
  have up6 := up_trans up5 hd.below
  clear H5 up5 hd
  go_wp2_with fail
  refine (z_len H6 0 0 rfl [6] rfl 1 rfl).mono ?_
  rintro e w' ⟨rfl, rfl⟩
  go_wp2_with fail
  refine (z_free H6 1 rfl).mono ?_
  rintro e w' ⟨rfl, rfl⟩
  go_wp2_with fail
  refine (z_remove H6 0 0 rfl 6 [6] rfl 0 rfl (by simp) [[], [7]] rfl).mono ?_
  rintro e w7 ⟨rfl, H7, ho⟩
  have up7 := up6.trans (ho.toBelow up6.size (fun i e => e ▸ ht))
  clear H6 up6 ho
  go_wp2_with fail
  refine (z_list H7 0 0 rfl [] rfl).mono ?_
  rintro e wL ⟨Ah, ch, rfl, _, _, _, hbL⟩
  go_wp2_with fail
  go_ret
  exact ⟨rfl, up_trans up7 hbL⟩

set_option maxRecDepth 100000 in
theorem built_zero : Try.prog.built 57 [] = some (poolV 0 noL noP).toArray := by kernel_rfl
/-- A pool that nobody made: none, or one of zeros. -/
def Nobody (w : World) (p : Option Addr) : Prop := p = none ∨ ∃ b, p = some ⟨b, 0, none⟩ ∧ PW w b 0 noL noP
theorem noL64 : noL[64]? = some (0, 0, 0) := by
  unfold noL
  rw [List.getElem?_replicate, if_pos (by omega)]

set_option maxHeartbeats 400000 in
theorem n_look {w : World} {p : Option Addr} (h : Nobody w p) (q : Int) : Calls Try.prog 21 #[.pointer p, .int .i64 q] w fun e w' => e = .returned (.int .i64 2) ∧ w = w' := by
  rcases h with rfl | ⟨b, rfl, hB⟩
  · go_enter Try.func21, Try.ntmps21
    go_wp2
    go_ret
    exact ⟨rfl, rfl⟩
  · have c0 := hB.cq
    clear hB
    go_enter Try.func21, Try.ntmps21
    go_wp2
    go_ret
    exact ⟨rfl, rfl⟩
set_option maxHeartbeats 400000 in
theorem n_push {w : World} {p : Option Addr} (h : Nobody w p) (q x : Int) : Calls Try.prog 13 #[.pointer p, .int .i64 q, .int .i64 x] w fun e w' => e = .returned (.int .i64 2) ∧ w = w' := by
  go_enter Try.func13, Try.ntmps13
  go_wp2_with (go_at_call 21; refine (n_look h _).mono ?_; rintro e w' ⟨rfl, rfl⟩)
  go_ret
  exact ⟨rfl, rfl⟩
set_option maxHeartbeats 400000 in
theorem n_first {w : World} {p : Option Addr} (h : Nobody w p) (q : Int) : Calls Try.prog 17 #[.pointer p, .int .i64 q] w fun e w' => e = .returned (.tuple #[.int .i64 0, .int .i64 2]) ∧ w = w' := by
  go_enter Try.func17, Try.ntmps17
  go_wp2_with (go_at_call 21; refine (n_look h _).mono ?_; rintro e w' ⟨rfl, rfl⟩)
  go_ret2
  exact ⟨rfl, rfl⟩
set_option maxHeartbeats 400000 in
theorem n_pop {w : World} {p : Option Addr} (h : Nobody w p) (q : Int) : Calls Try.prog 11 #[.pointer p, .int .i64 q] w fun e w' => e = .returned (.tuple #[.int .i64 0, .int .i64 2]) ∧ w = w' := by
  go_enter Try.func11, Try.ntmps11
  go_wp2_with (go_at_call 17; refine (n_first h _).mono ?_; rintro e w' ⟨rfl, rfl⟩)
  go_ret2
  exact ⟨rfl, rfl⟩
set_option maxRecDepth 100000 in
set_option maxHeartbeats 400000 in
theorem n_remove {w : World} {p : Option Addr} (h : Nobody w p) (q x : Int) : Calls Try.prog 9 #[.pointer p, .int .i64 q, .int .i64 x] w fun e w' => e = .returned (.bool false) ∧ w = w' := by
  go_enter Try.func9, Try.ntmps9
  go_wp2
  go_step3
  go_wp2_with (go_at_call 21; refine (n_look h _).mono ?_; rintro e w' ⟨rfl, rfl⟩)
  try rw [Exit.noGoto_ret]
  go_ret
  exact ⟨rfl, rfl⟩
set_option maxHeartbeats 400000 in
theorem n_list {w : World} {p : Option Addr} (h : Nobody w p) (q : Int) : Calls Try.prog 18 #[.pointer p, .int .i64 q] w fun e w' => e = .returned (.slice none 0 0) ∧ w = w' := by
  go_enter Try.func18, Try.ntmps18
  go_wp2_with (go_at_call 21; refine (n_look h _).mono ?_; rintro e w' ⟨rfl, rfl⟩)
  go_ret
  exact ⟨rfl, rfl⟩
set_option maxHeartbeats 400000 in
theorem n_len {w : World} {p : Option Addr} (h : Nobody w p) (q : Int) : Calls Try.prog 19 #[.pointer p, .int .i64 q] w fun e w' => e = .returned (.int .i64 0) ∧ w = w' := by
  go_enter Try.func19, Try.ntmps19
  go_wp2_with (go_at_call 21; refine (n_look h _).mono ?_; rintro e w' ⟨rfl, rfl⟩)
  go_ret
  exact ⟨rfl, rfl⟩
set_option maxHeartbeats 400000 in
theorem n_free {w : World} {p : Option Addr} (h : Nobody w p) : Calls Try.prog 16 #[.pointer p] w fun e w' => e = .returned (.int .i64 0) ∧ w = w' := by
  rcases h with rfl | ⟨b, rfl, hB⟩
  · go_enter Try.func16, Try.ntmps16
    go_wp2
    go_ret
    exact ⟨rfl, rfl⟩
  · have c0 := hB.l2 64 _ noL64
    clear hB
    go_enter Try.func16, Try.ntmps16
    go_wp2
    go_ret
    exact ⟨rfl, rfl⟩

set_option maxRecDepth 100000 in
set_option maxHeartbeats 4000000 in
theorem l_nobody (q x : Int) (w : World) : Calls Try.prog 5 #[.int .i64 q, .int .i64 x] w fun e w' => e = .returned (.bool true) ∧ Below w.heap.size w w' := by
  have hbd := built_zero
  have hB : PW (w.alloc (.cells (poolV 0 noL noP).toArray 57)) w.heap.size 0 noL noP := ⟨Blk.new w _ _, List.length_replicate, List.length_replicate⟩
  generalize poolV 0 noL noP = cs at hbd hB
  have up1 := up_alloc w (.cells cs.toArray 57)
  have hs1 : (w.alloc (.cells cs.toArray 57)).heap.size = w.heap.size + 1 := by simp
  generalize hw1 : w.alloc (.cells cs.toArray 57) = w1 at hB up1 hs1
  have hz := hB.blk.lt
  have hC := box2c w1 (.pointer none) (.pointer (some ⟨w.heap.size, 0, none⟩)) 24
  rw [hs1] at hC
  have up2 := up_alloc w1 (.cells #[.pointer none, .pointer (some ⟨w.heap.size, 0, none⟩)] 24)
  generalize hw2 : w1.alloc (.cells #[.pointer none, .pointer (some ⟨w.heap.size, 0, none⟩)] 24) = w2 at hC up2
  have hB2 := hB.below up2
  have HBD := Lib.hid hbd
  have HW1 := Lib.hid hw1
  have HW2 := Lib.hid hw2
  have up2 := up_trans up1 up2
  clear hw1 hw2 hs1 hB up1 hz hbd
  go_enter Try.func5, Try.ntmps5
  go_wp2_with (refine wpList_buildTo rfl 57 _ rfl (some 11) rfl cs.toArray (by simpa [Act.eval] using HBD.out) ?_)
  rw [HW1.out, HW2.out]
  go_loopw [6, 7, 8, 9, 10, 15] (fun _ _ _ _ _ i wr => ∃ k : Nat, k ≤ 2 ∧ i = .int .i64 k ∧ wr = w2) (fun _ _ _ _ _ i _ => 2 - (intOf i).toNat)
  case atStart => exact ⟨0, by omega, rfl, rfl⟩
  case round =>
    obtain ⟨k, hk, rfl, rfl⟩ := hrel
    have hN0 : Nobody wr none := .inl rfl
    have hN1 : Nobody wr (some ⟨w.heap.size, 0, none⟩) := .inr ⟨_, rfl, hB2⟩
    have c0 := hC.cell 0 _ rfl
    have c1 := hC.cell 1 _ rfl
    have key : k = 0 ∨ k = 1 ∨ k = 2 := by omega
    rcases key with rfl | rfl | rfl
    · go_wp2_with (first | (go_at_call 11; refine (n_pop hN0 _).mono ?_; rintro e w' ⟨rfl, rfl⟩) | (go_at_call 17; refine (n_first hN0 _).mono ?_; rintro e w' ⟨rfl, rfl⟩) | (go_at_call 13; refine (n_push hN0 _ _).mono ?_; rintro e w' ⟨rfl, rfl⟩) | (go_at_call 9; refine (n_remove hN0 _ _).mono ?_; rintro e w' ⟨rfl, rfl⟩) | (go_at_call 18; refine (n_list hN0 _).mono ?_; rintro e w' ⟨rfl, rfl⟩) | (go_at_call 19; refine (n_len hN0 _).mono ?_; rintro e w' ⟨rfl, rfl⟩) | (go_at_call 16; refine (n_free hN0).mono ?_; rintro e w' ⟨rfl, rfl⟩))
      go_roundw
      case rel => exact ⟨1, by omega, by go_num, trivial⟩
      case measure => simp [intOf]
    · go_wp2_with (first | (go_at_call 11; refine (n_pop hN1 _).mono ?_; rintro e w' ⟨rfl, rfl⟩) | (go_at_call 17; refine (n_first hN1 _).mono ?_; rintro e w' ⟨rfl, rfl⟩) | (go_at_call 13; refine (n_push hN1 _ _).mono ?_; rintro e w' ⟨rfl, rfl⟩) | (go_at_call 9; refine (n_remove hN1 _ _).mono ?_; rintro e w' ⟨rfl, rfl⟩) | (go_at_call 18; refine (n_list hN1 _).mono ?_; rintro e w' ⟨rfl, rfl⟩) | (go_at_call 19; refine (n_len hN1 _).mono ?_; rintro e w' ⟨rfl, rfl⟩) | (go_at_call 16; refine (n_free hN1).mono ?_; rintro e w' ⟨rfl, rfl⟩))
      go_roundw
      case rel => exact ⟨2, by omega, by go_num, trivial⟩
      case measure => simp [intOf]
    · go_wp2_with (go_at_call 6; refine (c_alive _).mono ?_; rintro e w3 ⟨rfl, hb3⟩)
      go_ret
      exact ⟨rfl, up_trans up2 hb3⟩
end Go.Proofs.Ythakcjabeekihaa

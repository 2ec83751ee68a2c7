/- The law's alive; buckets that nobody made; the law BucketNobody. -/
import Derived.Test.YtcdbblmoimmniaaCuc
import Derived.Test.YtcdbblmoimmniaaCue
import Derived.Test.YtcdbblmoimmniaaIs
namespace Go.Proofs.Ytcdbblmoimmniaa
open Go.RowKit

section
variable {w : World} {t s b : Nat} {L : List (List Int)}
theorem z_new (q : Int) (n : Nat) (e : q = n) (h : n ≤ 4) (w : World) : Calls Try.prog 7 #[.int .i64 q] w (BNewPost w n) := e ▸ c_bnew n h w
theorem z_fall (H : TB w t s b L) (k p er : Int) (M : List (List Int)) (h1 : flE L k p = er) (h2 : flL L k p = M) :
    Calls Try.prog 12 #[.pointer (some ⟨t, 0, none⟩), .int .i64 k, .int .i64 p] w fun e w' => e = .returned (.int .i64 er) ∧ BPost w t s b M w' := by
  subst h1
  subst h2
  exact c_bfall H k p
theorem z_where (H : TB w t s b L) (p k : Int) (is : Bool) (h1 : whK L p = k) (h2 : whB L p = is) :
    Calls Try.prog 14 #[.pointer (some ⟨t, 0, none⟩), .int .i64 p] w fun e w' => e = .returned (.tuple #[.int .i64 k, .bool is]) ∧ Below w.heap.size w w' := by
  subst h1
  subst h2
  exact c_bwhere H p
theorem z_flush (H : TB w t s b L) (k er : Int) (l : List Int) (M : List (List Int)) (h1 : lkE L.length k = er) (h2 : liL L k = l) (h3 : fuL L k = M) :
    Calls Try.prog 9 #[.pointer (some ⟨t, 0, none⟩), .int .i64 k] w (FuPost w t s b M l er) := by
  subst h1
  subst h2
  subst h3
  exact c_bflush H k
theorem z_many (H : TB w t s b L) (n : Int) (h : (L.length : Int) = n) :
    Calls Try.prog 18 #[.pointer (some ⟨t, 0, none⟩)] w fun e w' => e = .returned (.int .i64 n) ∧ w = w' := by
  subst h
  exact c_bmany H
theorem z_list (H : TB w t s b L) (k : Int) (l : List Int) (h : liL L k = l) :
    Calls Try.prog 16 #[.pointer (some ⟨t, 0, none⟩), .int .i64 k] w (IntsPost w l) := by
  subst h
  exact c_blist H k
end

set_option maxRecDepth 100000 in
set_option maxHeartbeats 4000000 in
theorem c_alive (w : World) : Calls Try.prog 6 #[] w fun e w' => e = .returned (.bool true) ∧ Below w.heap.size w w' := by
  go_enter Try.func6, Try.ntmps6
  go_wp2_with fail
  refine (z_new 2 2 rfl (by omega) w).mono ?_
  rintro e w1 ⟨t, s, b, rfl, H1, hb, hs, ht, up1⟩
  have H1 : TB w1 t s b [[], []] := H1
  go_wp2_with fail
  refine (z_fall H1 0 3 0 [[3], []] (by decide) (by decide)).mono ?_
  rintro e w2 ⟨rfl, H2, ho⟩
  have up2 := up1.trans (ho.toBelow up1.size (fun i e => e ▸ hb))
  clear H1 up1 ho
  go_wp2_with fail
  refine (z_fall H2 0 1 0 [[3, 1], []] (by decide) (by decide)).mono ?_
  rintro e w3 ⟨rfl, H3, ho⟩
  have up3 := up2.trans (ho.toBelow up2.size (fun i e => e ▸ hb))
  clear H2 up2 ho
  go_wp2_with fail
  refine (z_fall H3 1 3 7 [[3, 1], []] (by decide) (by decide)).mono ?_
  rintro e w4 ⟨rfl, H4, ho⟩
  have up4 := up3.trans (ho.toBelow up3.size (fun i e => e ▸ hb))
  clear H3 up3 ho
  go_wp2_with fail
  refine (z_fall H4 2 5 8 [[3, 1], []] (by decide) (by decide)).mono ?_
  rintro e w5 ⟨rfl, H5, ho⟩
  have up5 := up4.trans (ho.toBelow up4.size (fun i e => e ▸ hb))
  clear H4 up4 ho
  go_wp2_with fail
  refine (z_where H5 1 0 true (by decide) (by decide)).mono ?_
  rintro e w6 ⟨rfl, hb6⟩
  have H6 := H5.below hb6
  have up6 := up_trans up5 hb6
  clear H5 up5 hb6
  go_wp2_with fail
  refine (z_flush H6 0 0 [3, 1] [[], []] (by decide) (by decide) (by decide)).mono ?_
  rintro e w7 ⟨A, c, rfl, rd, H7, ho⟩
  have up7 := up6.trans (ho.toBelow up6.size (fun i e => e ▸ hb))
  clear H6 up6 ho
  go_wp2_with fail
  refine (z_where H7 1 0 false (by decide) (by decide)).mono ?_
  rintro e w8 ⟨rfl, hb8⟩
  have H8 := H7.below hb8
  have up8 := up_trans up7 hb8
  have rd8 := rd.below hb8
  clear H7 up7 hb8 rd
  have hB := Blk.new w8 [.int .i64 3, .int .i64 1] 3
  have hb9 := up_alloc w8 (.cells #[.int .i64 3, .int .i64 1] 3)
  have H9 := H8.below hb9
  have rd9 := rd8.below hb9
  have up9 := up_trans up8 hb9
  clear H8 rd8 up8
  go_wp2_with fail
  refine (c_same (zs := [3, 1]) rd9 (RD.of_blk (pl := fun _ => True) hB rfl trivial) (by decide)).mono ?_
  rintro e w10 ⟨rfl, hd⟩
  have H10 := H9.below hd.below
  have up10 := up_trans up9 hd.below
  clear H9 rd9 up9 hd hb9 hB
  go_wp2_with fail
  refine (z_many H10 2 rfl).mono ?_
  rintro e w' ⟨rfl, rfl⟩
  go_wp2_with fail
  refine (z_list H10 0 [] (by decide)).mono ?_
  rintro e wL ⟨Ah, ch, rfl, _, _, _, hbL⟩
  go_wp2_with fail
  go_ret
  exact ⟨rfl, up_trans up10 hbL⟩

/-- A table that nobody made: none, or a zero one. -/
def BNobody (w : World) (p : Option Addr) : Prop := p = none ∨ ∃ t, p = some ⟨t, 0, none⟩ ∧ Blk w t [.pointer none] 54
theorem BNobody.below {w w' : World} {p : Option Addr} (h : BNobody w p) (o : Below w.heap.size w w') : BNobody w' p := by
  rcases h with rfl | ⟨t, rfl, hB⟩
  · exact .inl rfl
  · exact .inr ⟨t, rfl, hB.up o hB.lt⟩
set_option maxHeartbeats 400000 in
theorem n_nobodys {w : World} {p : Option Addr} (h : BNobody w p) : Calls Try.prog 26 #[.pointer p] w fun e w' => e = .returned (.bool true) ∧ w = w' := by
  rcases h with rfl | ⟨t, rfl, hB⟩
  · go_enter Try.func26, Try.ntmps26
    go_wp2
    go_ret
    exact ⟨rfl, rfl⟩
  · have c0 := hB.cell 0 _ rfl
    clear hB
    go_enter Try.func26, Try.ntmps26
    go_wp2
    go_ret
    exact ⟨rfl, rfl⟩
set_option maxHeartbeats 400000 in
theorem n_many {w : World} {p : Option Addr} (h : BNobody w p) : Calls Try.prog 18 #[.pointer p] w fun e w' => e = .returned (.int .i64 0) ∧ w = w' := by
  go_enter Try.func18, Try.ntmps18
  go_wp2_with (go_at_call 26; refine (n_nobodys h).mono ?_; rintro e w' ⟨rfl, rfl⟩)
  go_ret
  exact ⟨rfl, rfl⟩
set_option maxHeartbeats 400000 in
theorem n_look {w : World} {p : Option Addr} (h : BNobody w p) (k : Int) : Calls Try.prog 20 #[.pointer p, .int .i64 k] w fun e w' => e = .returned (.int .i64 2) ∧ w = w' := by
  go_enter Try.func20, Try.ntmps20
  go_wp2_with (go_at_call 26; refine (n_nobodys h).mono ?_; rintro e w' ⟨rfl, rfl⟩)
  go_ret
  exact ⟨rfl, rfl⟩
set_option maxHeartbeats 400000 in
theorem n_list {w : World} {p : Option Addr} (h : BNobody w p) (k : Int) : Calls Try.prog 16 #[.pointer p, .int .i64 k] w fun e w' => e = .returned (.slice none 0 0) ∧ w = w' := by
  go_enter Try.func16, Try.ntmps16
  go_wp2_with (go_at_call 20; refine (n_look h _).mono ?_; rintro e w' ⟨rfl, rfl⟩)
  go_ret
  exact ⟨rfl, rfl⟩
set_option maxHeartbeats 400000 in
theorem n_flush {w : World} {p : Option Addr} (h : BNobody w p) (k : Int) : Calls Try.prog 9 #[.pointer p, .int .i64 k] w fun e w' => e = .returned (.tuple #[.slice none 0 0, .int .i64 2]) ∧ w = w' := by
  go_enter Try.func9, Try.ntmps9
  go_wp2_with (go_at_call 20; refine (n_look h _).mono ?_; rintro e w' ⟨rfl, rfl⟩)
  go_ret2
  exact ⟨rfl, rfl⟩
set_option maxHeartbeats 400000 in
theorem n_fall {w : World} {p : Option Addr} (h : BNobody w p) (k x : Int) : Calls Try.prog 12 #[.pointer p, .int .i64 k, .int .i64 x] w fun e w' => e = .returned (.int .i64 2) ∧ w = w' := by
  go_enter Try.func12, Try.ntmps12
  go_wp2_with (go_at_call 20; refine (n_look h _).mono ?_; rintro e w' ⟨rfl, rfl⟩)
  go_ret
  exact ⟨rfl, rfl⟩
set_option maxHeartbeats 400000 in
theorem n_where {w : World} {p : Option Addr} (h : BNobody w p) (x : Int) : Calls Try.prog 14 #[.pointer p, .int .i64 x] w fun e w' => e = .returned (.tuple #[.int .i64 0, .bool false]) ∧ w = w' := by
  have CM := Lib.hid (n_many h)
  go_enter Try.func14, Try.ntmps14
  go_wp2_with (go_at_call 18; refine Calls.mono CM.out ?_; rintro e w' ⟨rfl, rfl⟩)
  go_loop [9] (fun i => i = .int .i64 0) (fun _ => 0)
  case atStart => rfl
  case round =>
    subst hrel
    go_wp2
    go_ret2
    exact ⟨rfl, rfl⟩

set_option maxRecDepth 100000 in
set_option maxHeartbeats 4000000 in
theorem l_nobody (q x : Int) (w : World) : Calls Try.prog 5 #[.int .i64 q, .int .i64 x] w fun e w' => e = .returned (.bool true) ∧ Below w.heap.size w w' := by
  have hB := Blk.new w [.pointer none] 54
  have up1 := up_alloc w (.cells #[.pointer none] 54)
  have hs1 : (w.alloc (.cells #[.pointer none] 54)).heap.size = w.heap.size + 1 := by simp
  have hB : Blk (w.alloc (.cells #[.pointer none] 54)) w.heap.size [.pointer none] 54 := hB
  generalize hw1 : w.alloc (.cells #[.pointer none] 54) = w1 at hB up1 hs1
  have hC := Blk.new w1 [.pointer none, .pointer (some ⟨w.heap.size, 0, none⟩)] 24
  have hC : Blk (w1.alloc (.cells #[.pointer none, .pointer (some ⟨w.heap.size, 0, none⟩)] 24)) w1.heap.size [.pointer none, .pointer (some ⟨w.heap.size, 0, none⟩)] 24 := hC
  rw [hs1] at hC
  have up2 := up_alloc w1 (.cells #[.pointer none, .pointer (some ⟨w.heap.size, 0, none⟩)] 24)
  generalize hw2 : w1.alloc (.cells #[.pointer none, .pointer (some ⟨w.heap.size, 0, none⟩)] 24) = w2 at hC up2
  have hB2 := hB.up up2 hB.lt
  have HW1 := Lib.hid hw1
  have HW2 := Lib.hid hw2
  have up2 := up_trans up1 up2
  clear hw1 hw2 hs1 hB up1
  go_enter Try.func5, Try.ntmps5
  go_wp2_with fail
  rw [HW1.out, HW2.out]
  go_loopw [6, 7, 8, 9, 10, 15] (fun _ _ _ _ _ i wr => ∃ k : Nat, k ≤ 2 ∧ i = .int .i64 k ∧ wr = w2) (fun _ _ _ _ _ i _ => 2 - (intOf i).toNat)
  case atStart => exact ⟨0, by omega, rfl, rfl⟩
  case round =>
    obtain ⟨k, hk, rfl, rfl⟩ := hrel
    have hN0 : BNobody wr none := .inl rfl
    have hN1 : BNobody wr (some ⟨w.heap.size, 0, none⟩) := .inr ⟨_, rfl, hB2⟩
    have c0 := hC.cell 0 _ rfl
    have c1 := hC.cell 1 _ rfl
    have key : k = 0 ∨ k = 1 ∨ k = 2 := by omega
    rcases key with rfl | rfl | rfl
    · go_wp2_with (first | (go_at_call 9; refine (n_flush hN0 _).mono ?_; rintro e w' ⟨rfl, rfl⟩) | (go_at_call 14; refine (n_where hN0 _).mono ?_; rintro e w' ⟨rfl, rfl⟩) | (go_at_call 12; refine (n_fall hN0 _ _).mono ?_; rintro e w' ⟨rfl, rfl⟩) | (go_at_call 16; refine (n_list hN0 _).mono ?_; rintro e w' ⟨rfl, rfl⟩) | (go_at_call 18; refine (n_many hN0).mono ?_; rintro e w' ⟨rfl, rfl⟩))
      go_roundw
      case rel => exact ⟨1, by omega, by go_num, trivial⟩
      case measure => simp [intOf]
    · go_wp2_with (first | (go_at_call 9; refine (n_flush hN1 _).mono ?_; rintro e w' ⟨rfl, rfl⟩) | (go_at_call 14; refine (n_where hN1 _).mono ?_; rintro e w' ⟨rfl, rfl⟩) | (go_at_call 12; refine (n_fall hN1 _ _).mono ?_; rintro e w' ⟨rfl, rfl⟩) | (go_at_call 16; refine (n_list hN1 _).mono ?_; rintro e w' ⟨rfl, rfl⟩) | (go_at_call 18; refine (n_many hN1).mono ?_; rintro e w' ⟨rfl, rfl⟩))
      go_roundw
      case rel => exact ⟨2, by omega, by go_num, trivial⟩
      case measure => simp [intOf]
    · go_wp2_with (go_at_call 6; refine (c_alive _).mono ?_; rintro e w3 ⟨rfl, hb3⟩)
      go_ret
      exact ⟨rfl, up_trans up2 hb3⟩
end Go.Proofs.Ytcdbblmoimmniaa

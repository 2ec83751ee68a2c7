/- The laws of poison, walked: alive, PoisonTells, PoisonMany. -/
import Derived.Test.YtdikdbomecmijaaVe
import Derived.Test.YtdikdbomecmijaaIs
import Derived.Great.BuildSlice
namespace Go.Proofs.Ytdikdbomecmijaa
open Go.RowKit

theorem two_blk (w : World) (a b : Int) (t : TypeId) : RD (w.alloc (.cells #[.int .i64 a, .int .i64 b] t)) (fun _ => True) 1 (some ⟨w.heap.size, 0, none⟩) 2 ([a, b].map (Value.int .i64)) :=
  RD.of_blk (Blk.new w [.int .i64 a, .int .i64 b] t) rfl trivial
theorem same_two {w : World} {s : Nat} (hs : s = w.heap.size) {A : Option Addr} {c : Nat} {a b : Int} (h : RD w (fun _ => True) 1 A 2 ([a, b].map (Value.int .i64))) :
    Calls Try.prog 17 #[.slice A 2 c, .slice (some ⟨s, 0, none⟩) 2 2] (w.alloc (.cells #[.int .i64 a, .int .i64 b] 3)) (DrewPost (.bool true) (w.alloc (.cells #[.int .i64 a, .int .i64 b] 3))) := by
  subst hs
  have h2 := h.below (up_alloc w (.cells #[.int .i64 a, .int .i64 b] 3))
  exact c_same (zs := [a, b]) h2 (two_blk w a b 3) (by simp)
def Alive (w : World) (e : Ending) (w' : World) : Prop := e = .returned (.bool true) ∧ Below w.heap.size w w'
set_option maxHeartbeats 2000000 in
theorem c_alive (w : World) : Calls Try.prog 12 #[] w (Alive w) := by
  have CR := Lib.hid (fun W => c_pzraise 3 2 W)
  rw [show pzRaise 3 2 = 3 from rfl, show pzErr 3 2 = 0 from rfl] at CR
  have CS := Lib.hid (fun W => c_pzraise 3 0 W)
  rw [show pzRaise 3 0 = 0 from rfl, show pzErr 3 0 = 8 from rfl] at CS
  have CA := Lib.hid (fun W => c_pzall (c := 2) (L := [1, 9]) (two_blk W 1 9 3) rfl (by decide) 5)
  rw [show pzAll [1, 9] 5 = [5, 9] from rfl, show pzAllE [1, 9] 5 = 0 from rfl] at CA
  have CL := Lib.hid (fun W => c_pzleast (c := 2) (L := [4, 9]) (two_blk W 4 9 3) rfl (by decide))
  rw [show pzLeast [4, 9] = 5 from rfl, show pzIs [4, 9] = true from rfl] at CL
  have CM := Lib.hid (fun W => c_pzleast (c := 0) (L := []) (RD.nil W (fun _ => True) 1 none) rfl (by decide))
  rw [show pzLeast [] = 0 from rfl, show pzIs [] = false from rfl] at CM
  have CH := Lib.hid (fun W => c_pzhit 4 3 W)
  rw [show pzHit 4 3 = true from rfl] at CH
  have CI := Lib.hid (fun W => c_pzhit 3 3 W)
  rw [show pzHit 3 3 = false from rfl] at CI
  have CF := Lib.hid (fun W => c_pzfine 0 W)
  rw [show pzFine 0 = true from rfl] at CF
  go_enter Try.func12, Try.ntmps12
  go_wp2_with fail
  refine (CR.out _).mono ?_; rintro e w' ⟨rfl, rfl⟩
  go_wp2_with fail
  refine (CS.out _).mono ?_; rintro e w' ⟨rfl, rfl⟩
  go_wp2_with fail
  refine (CA.out _).mono ?_
  rintro e w1 ⟨A, c, e1, h1, h2, h3, h4⟩
  change e = .returned (.tuple #[.slice A 2 c, .int .i64 0]) at e1
  subst e1
  have HR : Hid (RD w1 (fun _ => True) 1 A 2 ([5, 9].map (Value.int .i64))) := Lib.hid (h3.lo fun _ _ => trivial)
  have HU : Hid (Below w.heap.size w w1) := Lib.hid (up_trans (up_alloc _ _) h4)
  clear h1 h2 h3 h4
  go_wp2_with fail
  refine (CL.out _).mono ?_; rintro e w' ⟨rfl, rfl⟩
  go_wp2_with fail
  refine (CM.out _).mono ?_; rintro e w' ⟨rfl, rfl⟩
  go_wp2_with fail
  refine (same_two (c := c) (by simp) (HR.out.below (up_alloc w1 (.cells #[.int .i64 4, .int .i64 9] 3)))).mono ?_
  rintro e w3 ⟨rfl, hd⟩
  have HU3 : Hid (Below w.heap.size w w3) := Lib.hid (up_trans (up_trans (up_trans HU.out (up_alloc _ _)) (up_alloc _ _)) hd.below)
  clear hd
  go_wp2_with fail
  refine (CH.out _).mono ?_; rintro e w' ⟨rfl, rfl⟩
  go_wp2_with fail
  refine (CI.out _).mono ?_; rintro e w' ⟨rfl, rfl⟩
  go_wp2_with fail
  refine (CF.out _).mono ?_; rintro e w' ⟨rfl, rfl⟩
  go_wp2
  go_ret
  exact ⟨rfl, HU3.out⟩

set_option maxHeartbeats 1000000 in
theorem l_tells (n d : Int) (w : World) :
    Calls Try.prog 3 #[.int .i64 n, .int .i64 d] w fun e w' => e = .returned (.bool true) ∧ Below w.heap.size w w' := by
  obtain ⟨a, ha⟩ : ∃ a, a = pzRaise n d := ⟨_, rfl⟩
  obtain ⟨er, her⟩ : ∃ er, er = pzErr n d := ⟨_, rfl⟩
  obtain ⟨h, hh⟩ : ∃ h, h = pzHit n d := ⟨_, rfl⟩
  obtain ⟨f, hf⟩ : ∃ f, f = pzFine n := ⟨_, rfl⟩
  have C1 := Lib.hid (fun W => c_pzraise n d W)
  have C2 := Lib.hid (fun W => c_qzraise n d W)
  have C3 := Lib.hid (fun W => c_pzhit n d W)
  have C4 := Lib.hid (fun W => c_qzhit n d W)
  have C5 := Lib.hid (fun W => c_pzfine n W)
  have C6 := Lib.hid (fun W => c_qzfine n W)
  rw [← ha, ← her] at C1 C2
  rw [← hh] at C3 C4
  rw [← hf] at C5 C6
  clear ha her hh hf
  go_enter Try.func3, Try.ntmps3
  go_wp2_with fail
  refine (C1.out _).mono ?_; rintro e w' ⟨rfl, rfl⟩
  go_wp2_with fail
  refine (C2.out _).mono ?_; rintro e w' ⟨rfl, rfl⟩
  go_wp2_with fail
  refine (C3.out _).mono ?_; rintro e w' ⟨rfl, rfl⟩
  go_wp2_with fail
  refine (C4.out _).mono ?_; rintro e w' ⟨rfl, rfl⟩
  go_wp2_with fail
  refine (C5.out _).mono ?_; rintro e w' ⟨rfl, rfl⟩
  go_wp2_with fail
  refine (C6.out _).mono ?_; rintro e w' ⟨rfl, rfl⟩
  go_wp2_with fail
  refine (c_alive _).mono ?_; rintro e w' ⟨rfl, hb⟩
  go_wp2
  go_ret
  exact ⟨rfl, hb⟩

set_option maxHeartbeats 1000000 in
theorem l_many (A : Option Addr) (n c : Nat) (L : List Int) (hl : L.length = n) (w : World) (hR : RD w (fun _ => True) 1 A n (L.map (Value.int .i64))) (d : Int) :
    Calls Try.prog 4 #[.slice A n c, .int .i64 d] w fun e w' => e = .returned (.bool true) ∧ Below w.heap.size w w' := by
  by_cases hn : 30 < n
  · clear hR hl
    have hn' : (30 : Int) < (n : Int) := by omega
    go_enter Try.func4, Try.ntmps4
    go_wp2_with fail
    refine (c_alive _).mono ?_; rintro e w' ⟨rfl, hb⟩
    go_wp2
    go_ret
    exact ⟨rfl, hb⟩
  · obtain ⟨zs, hzs⟩ : ∃ zs, zs = pzAll L d := ⟨_, rfl⟩
    obtain ⟨er, her⟩ : ∃ er, er = pzAllE L d := ⟨_, rfl⟩
    obtain ⟨m, hm⟩ : ∃ m, m = pzLeast L := ⟨_, rfl⟩
    obtain ⟨b, hb⟩ : ∃ b, b = pzIs L := ⟨_, rfl⟩
    have C1 := Lib.hid (c_pzall (c := c) hR hl (by omega) d)
    rw [← hzs, ← her] at C1
    have hzn : zs.length ≤ 1000 := by rw [hzs]; have := pzAll_len L d; omega
    have HR := Lib.hid hR
    have HL := Lib.hid hl
    have H1 := Lib.hid hzs
    have H2 := Lib.hid her
    have H3 := Lib.hid hm
    have H4 := Lib.hid hb
    have hn1 : n ≤ 30 := by omega
    clear hR hl hzs her hm hb hn
    go_enter Try.func4, Try.ntmps4
    go_wp2_with fail
    refine C1.out.mono ?_
    rintro e w1 ⟨A1, c1, rfl, -, -, hR1, hU1⟩
    have HR1 := Lib.hid (hR1.lo (pl' := fun _ => True) fun _ _ => trivial)
    have HU1 := Lib.hid hU1
    have C2 := Lib.hid (c_qzall (c := c) (HR.out.below hU1) HL.out (by omega) d)
    rw [← H1.out, ← H2.out] at C2
    clear hR1 hU1
    generalize hk : zs.length = k at *
    go_wp2_with fail
    refine C2.out.mono ?_
    rintro e w2 ⟨A2, c2, rfl, -, -, hR2, hU2⟩
    rw [hk] at hR2 ⊢
    have HR2 := Lib.hid (hR2.lo (pl' := fun _ => True) fun _ _ => trivial)
    have HR1' := Lib.hid (HR1.out.below hU2)
    have HU2 := Lib.hid (up_trans HU1.out hU2)
    have C3 := Lib.hid (c_pzleast (c := c) (HR.out.below HU2.out) HL.out (by omega))
    have C4 := Lib.hid (c_qzleast (c := c) (HR.out.below HU2.out) HL.out (by omega))
    rw [← H3.out, ← H4.out] at C3 C4
    have C5 : Hid (Calls Try.prog 17 #[.slice A1 k c1, .slice A2 k c2] w2 (DrewPost (.bool true) w2)) := Lib.hid (by
      subst hk
      exact c_same (zs := zs) HR1'.out HR2.out (by omega))
    clear hR2 hU2
    go_wp2_with fail
    refine C3.out.mono ?_; rintro e w' ⟨rfl, rfl⟩
    go_wp2_with fail
    refine C4.out.mono ?_; rintro e w' ⟨rfl, rfl⟩
    go_wp2_with fail
    refine C5.out.mono ?_
    rintro e w3 ⟨rfl, hd⟩
    have HU3 := Lib.hid (up_trans HU2.out hd.below)
    clear hd
    go_wp2_with fail
    refine (c_alive _).mono ?_; rintro e w' ⟨rfl, hb⟩
    go_wp2
    go_ret
    exact ⟨rfl, up_trans HU3.out hb⟩
end Go.Proofs.Ytdikdbomecmijaa

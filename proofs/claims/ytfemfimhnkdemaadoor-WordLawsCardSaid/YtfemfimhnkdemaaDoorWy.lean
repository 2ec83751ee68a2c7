/- The contracts of the four laws of package word: each returns true, and leaves memory only grown. -/
import Derived.Test.YtfemfimhnkdemaaDoorWx
namespace Go.Proofs.YtfemfimhnkdemaaDoor
open Go.RowKit

set_option maxHeartbeats 1000000 in
theorem l_does (op a b : Int) (w : World) (ht : EnvW w) : Calls Tryd.prog 3 #[.int .i64 op, .int .i64 a, .int .i64 b] w fun e w' => e = .returned (.bool true) ∧ Below w.heap.size w w' := by
  go_enter Tryd.func3, Tryd.ntmps3
  go_wp2_with fail
  refine (c_wdo _ _ _ _).mono ?_
  rintro e w' ⟨rfl, rfl⟩
  go_wp2_with fail
  refine (c_vdo _ _ _ _).mono ?_
  rintro e w' ⟨rfl, rfl⟩
  go_wp2_with (go_at_call 9; refine (c_alive _ ht).mono ?_; rintro e w9 ⟨rfl, hb9⟩)
  go_ret
  exact ⟨rfl, hb9⟩

set_option maxHeartbeats 1000000 in
theorem l_reads (s : ByteArray) (w : World) (ht : EnvW w) : Calls Tryd.prog 5 #[.string s] w fun e w' => e = .returned (.bool true) ∧ Below w.heap.size w w' := by
  by_cases h : 200 < s.size
  · go_enter Tryd.func5, Tryd.ntmps5
    go_wp2_with (go_at_call 9; refine (c_alive _ ht).mono ?_; rintro e w9 ⟨rfl, hb9⟩)
    go_ret
    exact ⟨rfl, hb9⟩
  · go_enter Tryd.func5, Tryd.ntmps5
    go_wp2_with fail
    refine (c_wparse _ (by omega) _ ht).mono ?_
    rintro e w1 ⟨rfl, hb1⟩
    have ht1 := ht.up hb1
    go_wp2_with fail
    refine (c_vparse _ (by omega) _).mono ?_
    rintro e w' ⟨rfl, rfl⟩
    go_wp2_with (go_at_call 9; refine (c_alive _ ht1).mono ?_; rintro e w9 ⟨rfl, hb9⟩)
    go_ret
    exact ⟨rfl, up_trans hb1 hb9⟩

set_option maxHeartbeats 1000000 in
theorem l_one (n : Int) (w : World) (ht : EnvW w) : Calls Tryd.prog 4 #[.int .i64 n] w fun e w' => e = .returned (.bool true) ∧ Below w.heap.size w w' := by
  go_enter Tryd.func4, Tryd.ntmps4
  go_wp2_with fail
  refine (c_wnot _ _).mono ?_
  rintro e w' ⟨rfl, rfl⟩
  go_wp2_with fail
  refine (c_vnot _ _).mono ?_
  rintro e w' ⟨rfl, rfl⟩
  go_wp2_with fail
  refine (c_wneg _ _).mono ?_
  rintro e w' ⟨rfl, rfl⟩
  go_wp2_with fail
  refine (c_vneg _ _).mono ?_
  rintro e w' ⟨rfl, rfl⟩
  go_wp2_with fail
  refine (c_wtext _ _ ht).mono ?_
  rintro e w1 ⟨rfl, hb1⟩
  have ht1 := ht.up hb1
  go_wp2_with fail
  refine (c_vtext _ _).mono ?_
  rintro e w2 ⟨rfl, hb2⟩
  have ht2 := ht1.up hb2
  go_wp2_with (first | (go_at_call 16; refine (c_wfine _ _).mono ?_; rintro e w' ⟨rfl, rfl⟩) | (go_at_call 17; refine (c_vfine _ _).mono ?_; rintro e w' ⟨rfl, rfl⟩) | (go_at_call 18; refine (c_wwrap _ _).mono ?_; rintro e w' ⟨rfl, rfl⟩) | (go_at_call 19; refine (c_vwrap _ _).mono ?_; rintro e w' ⟨rfl, rfl⟩) | (go_at_call 9; refine (c_alive _ ht2).mono ?_; rintro e w9 ⟨rfl, hb9⟩))
  go_ret
  exact ⟨rfl, up_trans (up_trans hb1 hb2) hb9⟩

/-- A call of Do, with letters for what comes. -/
theorem b_do (op a b p q : Int) (hp : doV op a b = p) (hq : doE op a b = q) (w : World) :
    Calls Tryd.prog 7 #[.int .i64 op, .int .i64 a, .int .i64 b] w fun e w' => e = .returned (.tuple #[.int .i64 p, .int .i64 q]) ∧ w = w' := by
  subst hp
  subst hq
  exact c_wdo op a b w
theorem b_text (a : Int) (fa : fineW a = true) (s : ByteArray) (hs : ⟨(textW a).toArray⟩ = s) (w : World) (ht : EnvW w) :
    Calls Tryd.prog 14 #[.int .i64 a] w fun e w' => e = .returned (.tuple #[.string s, .int .i64 0]) ∧ Below w.heap.size w w' := by
  have h := c_wtext a w ht
  rw [oneE_of a fa, hs] at h
  exact h
theorem b_parse (a : Int) (fa : fineW a = true) (s : ByteArray) (hs : ⟨(textW a).toArray⟩ = s) (w : World) (ht : EnvW w) :
    Calls Tryd.prog 20 #[.string s] w fun e w' => e = .returned (.tuple #[.int .i64 a, .int .i64 0]) ∧ Below w.heap.size w w' := by
  subst hs
  have h := c_wparse ⟨(textW a).toArray⟩ (text_size a fa) w ht
  rw [show (ByteArray.mk (textW a).toArray).data.toList = textW a by simp, (parse_back a fa).1, (parse_back a fa).2] at h
  exact h

set_option maxRecDepth 100000 in
set_option maxHeartbeats 2000000 in
theorem l_laws (a b : Int) (ha : -2147483648 ≤ a ∧ a ≤ 2147483647) (hb : -2147483648 ≤ b ∧ b ≤ 2147483647) (w : World) (ht : EnvW w) :
    Calls Tryd.prog 6 #[.int .i32 a, .int .i32 b] w fun e w' => e = .returned (.bool true) ∧ Below w.heap.size w w' := by
  obtain ⟨a0, a1⟩ := ha
  obtain ⟨b0, b1⟩ := hb
  have fa := fineW_of a a0 a1
  have fb := fineW_of b b0 b1
  have L := lawW a b fa fb
  obtain ⟨p, hp⟩ : ∃ p, doV 1 a b = p := ⟨_, rfl⟩
  obtain ⟨u, hu⟩ : ∃ u, doV 3 a b = u := ⟨_, rfl⟩
  obtain ⟨s, hs⟩ : ∃ s, (⟨(textW a).toArray⟩ : ByteArray) = s := ⟨_, rfl⟩
  have T1 := Lib.hid (b_do 1 a b p 0 hp L.add)
  have T2 := Lib.hid (b_do 1 b a p 0 (L.add'.1.trans hp) L.add'.2)
  have T3 := Lib.hid (b_do 2 p b a 0 (by rw [← hp]; exact L.sub.1) (by rw [← hp]; exact L.sub.2))
  have T4 := Lib.hid (b_do 3 a b u 0 hu L.mul)
  have T5 := Lib.hid (b_do 3 b a u 0 (L.mul'.1.trans hu) L.mul'.2)
  have T6 := Lib.hid (b_text a fa s hs)
  have T7 := Lib.hid (b_parse a fa s hs)
  have ep : (p != p) = false := by simp
  have eu : (u != u) = false := by simp
  have ea : (a != a) = false := by simp
  clear hp hu hs
  by_cases hz : b = 0
  · have ez : (b == 0) = true := by simpa using hz
    clear hz L fa fb
    go_enter Tryd.func6, Tryd.ntmps6
    go_wp2_with fail
    refine (T1.out _).mono ?_
    rintro e w' ⟨rfl, rfl⟩
    go_wp2_with fail
    refine (T2.out _).mono ?_
    rintro e w' ⟨rfl, rfl⟩
    go_wp2_with fail
    refine (T3.out _).mono ?_
    rintro e w' ⟨rfl, rfl⟩
    go_wp2_with fail
    refine (T4.out _).mono ?_
    rintro e w' ⟨rfl, rfl⟩
    go_wp2_with fail
    refine (T5.out _).mono ?_
    rintro e w' ⟨rfl, rfl⟩
    go_wp2_with fail
    refine (T6.out _ ht).mono ?_
    rintro e w1 ⟨rfl, hb1⟩
    have ht1 := ht.up hb1
    go_wp2_with fail
    refine (T7.out _ ht1).mono ?_
    rintro e w2 ⟨rfl, hb2⟩
    have ht2 := ht1.up hb2
    go_wp2_with (go_at_call 9; refine (c_alive _ ht2).mono ?_; rintro e w9 ⟨rfl, hb9⟩)
    go_ret
    exact ⟨rfl, up_trans (up_trans hb1 hb2) hb9⟩
  · have ez : (b == 0) = false := beq_eq_false_iff_ne.2 hz
    obtain ⟨q1, q2, q3, q4, q5⟩ := L.quo hz
    obtain ⟨c, hc⟩ : ∃ c, doV 4 a b = c := ⟨_, rfl⟩
    obtain ⟨d, hd⟩ : ∃ d, doV 5 a b = d := ⟨_, rfl⟩
    rw [hc] at q3 q4 q5
    rw [hd] at q4 q5
    obtain ⟨t, hT⟩ : ∃ t, doV 3 c b = t := ⟨_, rfl⟩
    rw [hT] at q4 q5
    have U1 := Lib.hid (b_do 4 a b c 0 hc q1)
    have U2 := Lib.hid (b_do 5 a b d 0 hd q2)
    have U3 := Lib.hid (b_do 3 c b t 0 hT q3)
    have U4 := Lib.hid (b_do 1 t d a 0 q4 q5)
    clear hz L fa fb hc hd hT q1 q2 q3 q4 q5
    go_enter Tryd.func6, Tryd.ntmps6
    go_wp2_with fail
    refine (T1.out _).mono ?_
    rintro e w' ⟨rfl, rfl⟩
    go_wp2_with fail
    refine (T2.out _).mono ?_
    rintro e w' ⟨rfl, rfl⟩
    go_wp2_with fail
    refine (T3.out _).mono ?_
    rintro e w' ⟨rfl, rfl⟩
    go_wp2_with fail
    refine (T4.out _).mono ?_
    rintro e w' ⟨rfl, rfl⟩
    go_wp2_with fail
    refine (T5.out _).mono ?_
    rintro e w' ⟨rfl, rfl⟩
    go_wp2_with fail
    refine (T6.out _ ht).mono ?_
    rintro e w1 ⟨rfl, hb1⟩
    have ht1 := ht.up hb1
    go_wp2_with fail
    refine (T7.out _ ht1).mono ?_
    rintro e w2 ⟨rfl, hb2⟩
    have ht2 := ht1.up hb2
    go_wp2_with fail
    refine (U1.out _).mono ?_
    rintro e w' ⟨rfl, rfl⟩
    go_wp2_with fail
    refine (U2.out _).mono ?_
    rintro e w' ⟨rfl, rfl⟩
    go_wp2_with fail
    refine (U3.out _).mono ?_
    rintro e w' ⟨rfl, rfl⟩
    go_wp2_with fail
    refine (U4.out _).mono ?_
    rintro e w' ⟨rfl, rfl⟩
    have ec : (a == a) = true := by simp
    go_wp2_with (go_at_call 9; refine (c_alive _ ht2).mono ?_; rintro e w9 ⟨rfl, hb9⟩)
    go_ret
    exact ⟨rfl, up_trans (up_trans hb1 hb2) hb9⟩
end Go.Proofs.YtfemfimhnkdemaaDoor

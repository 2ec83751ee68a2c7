/- The laws of layer 27, walked: alive, ChooseTells. -/
import Derived.Test.YtlnnmigoonbbjaaChc
import Derived.Test.YtlnnmigoonbbjaaChe
import Derived.Great.BuildSlice
namespace Go.Proofs.Ytlnnmigoonbbjaa
open Go.RowKit

def Alive (w : World) (e : Ending) (w' : World) : Prop := e = .returned (.bool true) ∧ Below w.heap.size w w'
theorem a_1 : chV 1 3 2 [0, 1] 9 = 0 := by decide
theorem a_2 : chE 1 3 2 [0, 1] = 0 := by decide
theorem a_3 : chV 2 3 2 [0, 1] (-1) = 1 := by decide
theorem a_4 : chE 2 3 2 [0, 1] = 0 := by decide
theorem a_5 : chV 2 3 2 [] 0 = 0 := by decide
theorem a_6 : chE 2 3 2 [] = 6 := by decide
theorem a_7 : chFine 2 3 2 [] = true := by decide
theorem a_8 : chFine 0 0 0 [] = false := by decide
set_option maxHeartbeats 2000000 in
theorem c_alive (w : World) : Calls Try.prog 6 #[] w (Alive w) := by
  have hI := (Blk.new w [.int .i64 0, .int .i64 1] 3).alloc (.cells #[.int .i64 1, .int .i64 3, .int .i64 2, .slice (some ⟨w.heap.size, 0, none⟩) 2 2] 26)
  have hB : Blk ((w.alloc (.cells #[.int .i64 0, .int .i64 1] 3)).alloc (.cells #[.int .i64 1, .int .i64 3, .int .i64 2, .slice (some ⟨w.heap.size, 0, none⟩) 2 2] 26)) (w.heap.size + 1) [.int .i64 1, .int .i64 3, .int .i64 2, .slice (some ⟨w.heap.size, 0, none⟩) 2 2] 26 := by
    have := Blk.new (w.alloc (.cells #[.int .i64 0, .int .i64 1] 3)) [.int .i64 1, .int .i64 3, .int .i64 2, .slice (some ⟨w.heap.size, 0, none⟩) 2 2] 26
    simpa using this
  have HU : Hid (Below w.heap.size w ((w.alloc (.cells #[.int .i64 0, .int .i64 1] 3)).alloc (.cells #[.int .i64 1, .int .i64 3, .int .i64 2, .slice (some ⟨w.heap.size, 0, none⟩) 2 2] 26))) := Lib.hid (up_trans (up_alloc _ _) (up_alloc _ _))
  have C1 := Lib.hid (c_choose (c := 2) (n := 2) (L := [0, 1]) (pl := fun _ => True) (RD.of_blk hI rfl trivial) rfl (by omega) 1 3 2 9)
  rw [a_1, a_2] at C1
  have HI := Lib.hid hI
  have HB := Lib.hid hB
  clear hI hB
  go_enter Try.func6, Try.ntmps6
  go_wp2_with fail
  refine C1.out.mono ?_; rintro e w1 ⟨rfl, hb1⟩
  have hB1 := HB.out.up hb1 HB.out.lt
  have hI1 := HI.out.up hb1 HI.out.lt
  have HU1 := Lib.hid (up_trans HU.out hb1)
  have f0 := hB1.free 0
  have i0 := hB1.cell 0 _ rfl
  have hB2 := hB1.set 0 (.int .i64 2)
  have hI2 := hI1.other ⟨w.heap.size + 1, 0, none⟩ (by simp) (.int .i64 2)
  have C2 := Lib.hid (c_choose (c := 2) (n := 2) (L := [0, 1]) (pl := fun _ => True) (RD.of_blk hI2 rfl trivial) rfl (by omega) 2 3 2 (-1))
  rw [a_3, a_4] at C2
  have HB2 := Lib.hid hB2
  have j0 := hB2.cell 0 _ rfl
  have j1 := hB2.cell 1 _ rfl
  have j2 := hB2.cell 2 _ rfl
  have j3 := hB2.cell 3 _ rfl
  have HU2 : Hid (Below w.heap.size w (w1.setCell ⟨w.heap.size + 1, 0, none⟩ (.int .i64 2))) := Lib.hid ((Only.setCell (s := fun _ => False) (Only.of_below HU1.out) (.inr (by simp)) _).toBelow (Nat.le_refl _) (fun _ h => h.elim))
  clear hb1 hB1 hI1 hB2 hI2
  go_wp2_with fail
  refine C2.out.mono ?_; rintro e w3 ⟨rfl, hb3⟩
  have hB3 := HB2.out.up hb3 HB2.out.lt
  have HU3 := Lib.hid (up_trans HU2.out hb3)
  have f3 := hB3.free 3
  have i3 := hB3.cell 3 _ rfl
  have hB4 := hB3.set 3 (.slice none 0 0)
  have HB4 := Lib.hid hB4
  have k0 := hB4.cell 0 _ rfl
  have k1 := hB4.cell 1 _ rfl
  have k2 := hB4.cell 2 _ rfl
  have k3 := hB4.cell 3 _ rfl
  have HU4 : Hid (Below w.heap.size w (w3.setCell ⟨w.heap.size + 1, 3, none⟩ (.slice none 0 0))) := Lib.hid ((Only.setCell (s := fun _ => False) (Only.of_below HU3.out) (.inr (by simp)) _).toBelow (Nat.le_refl _) (fun _ h => h.elim))
  have C3 := Lib.hid (c_choose (c := 0) (L := []) (RD.nil (w3.setCell ⟨w.heap.size + 1, 3, none⟩ (.slice none 0 0)) (fun _ => True) 1 none) rfl (by omega) 2 3 2 0)
  rw [a_5, a_6] at C3
  clear hb3 hB3 hB4 j0 j1 j2 j3 i0 f0
  go_wp2_with fail
  refine C3.out.mono ?_; rintro e w5 ⟨rfl, hb5⟩
  have hB5 := HB4.out.up hb5 HB4.out.lt
  have HU5 := Lib.hid (up_trans HU4.out hb5)
  have l0 := hB5.cell 0 _ rfl
  have l1 := hB5.cell 1 _ rfl
  have l2 := hB5.cell 2 _ rfl
  have l3 := hB5.cell 3 _ rfl
  clear hb5 hB5 k0 k1 k2 k3 f3 i3
  go_wp2_with fail
  refine (c_chturn 2 3 _).mono ?_; rintro e w' ⟨rfl, rfl⟩
  rw [show chTurn 2 3 = 0 by decide]
  go_wp2_with fail
  refine (c_chturn 0 3 _).mono ?_; rintro e w' ⟨rfl, rfl⟩
  rw [show chTurn 0 3 = 1 by decide]
  go_wp2_with fail
  refine (c_chfine (c := 0) (L := []) (RD.nil w5 (fun _ => True) 1 none) rfl (by omega) 2 3 2).mono ?_; rintro e w6 ⟨rfl, hb6⟩
  rw [a_7]
  have HU6 := Lib.hid (up_trans HU5.out hb6)
  clear hb6
  go_wp2_with fail
  refine (c_chfine (c := 0) (L := []) (RD.nil w6 (fun _ => True) 1 none) rfl (by omega) 0 0 0).mono ?_; rintro e w7 ⟨rfl, hb7⟩
  rw [a_8]
  have HU7 := Lib.hid (up_trans HU6.out hb7)
  clear hb7
  go_wp2
  go_ret
  exact ⟨rfl, HU7.out⟩

set_option maxRecDepth 100000 in
set_option maxHeartbeats 4000000 in
theorem l_tells (d m t v : Int) (A : Option Addr) (n c : Nat) (L : List Int) (hl : L.length = n) (w : World) (hR : RD w (fun _ => True) 1 A n (L.map (Value.int .i64))) :
    Calls Try.prog 3 #[.agg #[.int .i64 d, .int .i64 m, .int .i64 t, .slice A n c], .int .i64 v] w fun e w' => e = .returned (.bool true) ∧ Below w.heap.size w w' := by
  have hb0 := up_alloc w (.cells #[.int .i64 d, .int .i64 m, .int .i64 t, .slice A n c] 24)
  have hB := box_ch w d m t A n c
  have hsz : (w.alloc (.cells #[.int .i64 d, .int .i64 m, .int .i64 t, .slice A n c] 24)).heap.size = w.heap.size + 1 := by simp
  generalize hw1 : w.alloc (.cells #[.int .i64 d, .int .i64 m, .int .i64 t, .slice A n c] 24) = w1 at hB hb0 hsz
  have HW := Lib.hid hw1
  have HR := Lib.hid (hR.below hb0)
  have HL := Lib.hid hl
  have HU := Lib.hid hb0
  have HB := Lib.hid hB
  have c0 := hB.cell 0 _ rfl
  have c1 := hB.cell 1 _ rfl
  have c2 := hB.cell 2 _ rfl
  have c3 := hB.cell 3 _ rfl
  clear hR hw1 hb0 hB hl
  by_cases hn : n ≤ 20
  · have g1 : decide ((20 : Int) < n) = false := decide_eq_false (by omega)
    have hb2 := up_alloc w1 (.cells #[.int .i64 d, .int .i64 m, .int .i64 t, .slice A n c] 26)
    have hX := Blk.new w1 [.int .i64 d, .int .i64 m, .int .i64 t, .slice A n c] 26
    have hB2 := HB.out.up hb2 HB.out.lt
    have HU2 := Lib.hid (up_trans HU.out hb2)
    have HR2 := Lib.hid (HR.out.below hb2)
    rw [hsz] at hX
    have HX := Lib.hid hX
    have HB2 := Lib.hid hB2
    have CP := Lib.hid (c_choose (c := c) HR2.out HL.out (by omega) d m t v)
    have CQ : Hid (∀ W, Below (w1.alloc (.cells #[.int .i64 d, .int .i64 m, .int .i64 t, .slice A n c] 26)).heap.size (w1.alloc (.cells #[.int .i64 d, .int .i64 m, .int .i64 t, .slice A n c] 26)) W → RD W (fun _ => True) 1 A n (L.map (Value.int .i64)) ∧ Calls Try.prog 8 #[.agg #[.int .i64 d, .int .i64 m, .int .i64 t, .slice A n c], .int .i64 v] W fun e w' => e = .returned (.tuple #[.int .i64 (chV d m t L v), .int .i64 (chE d m t L)]) ∧ Below W.heap.size W w') := Lib.hid fun W hW => ⟨HR2.out.below hW, c_rchoose (c := c) (HR2.out.below hW) HL.out (by omega) d m t v⟩
    have CF : Hid (∀ W, RD W (fun _ => True) 1 A n (L.map (Value.int .i64)) → Calls Try.prog 9 #[.agg #[.int .i64 d, .int .i64 m, .int .i64 t, .slice A n c]] W fun e w' => e = .returned (.bool (chFine d m t L)) ∧ Below W.heap.size W w') := Lib.hid fun W h => c_chfine (c := c) h HL.out (by omega) d m t
    have CG : Hid (∀ W, RD W (fun _ => True) 1 A n (L.map (Value.int .i64)) → Calls Try.prog 10 #[.agg #[.int .i64 d, .int .i64 m, .int .i64 t, .slice A n c]] W fun e w' => e = .returned (.bool (chFine d m t L)) ∧ Below W.heap.size W w') := Lib.hid fun W h => c_rfine (c := c) h HL.out (by omega) d m t
    have C1 : Hid (∀ W, Calls Try.prog 11 #[.int .i64 t, .int .i64 m] W fun e w' => e = .returned (.int .i64 (chTurn t m)) ∧ Below W.heap.size W w') := Lib.hid fun W => same_below (c_chturn t m W)
    have C2 : Hid (∀ W, Calls Try.prog 12 #[.int .i64 t, .int .i64 m] W fun e w' => e = .returned (.int .i64 (chTurn t m)) ∧ Below W.heap.size W w') := Lib.hid fun W => same_below (c_rturn t m W)
    have C3 : Hid (∀ W, Calls Try.prog 11 #[.int .i64 v, .int .i64 m] W fun e w' => e = .returned (.int .i64 (chTurn v m)) ∧ Below W.heap.size W w') := Lib.hid fun W => same_below (c_chturn v m W)
    have C4 : Hid (∀ W, Calls Try.prog 12 #[.int .i64 v, .int .i64 m] W fun e w' => e = .returned (.int .i64 (chTurn v m)) ∧ Below W.heap.size W w') := Lib.hid fun W => same_below (c_rturn v m W)
    obtain ⟨V, hV⟩ : ∃ V, chV d m t L v = V := ⟨_, rfl⟩
    obtain ⟨E, hE⟩ : ∃ E, chE d m t L = E := ⟨_, rfl⟩
    obtain ⟨q, hq⟩ : ∃ q, chFine d m t L = q := ⟨_, rfl⟩
    obtain ⟨x, hx⟩ : ∃ x, chTurn t m = x := ⟨_, rfl⟩
    obtain ⟨y, hy⟩ : ∃ y, chTurn v m = y := ⟨_, rfl⟩
    rw [hV, hE] at CP CQ
    rw [hq] at CF CG
    rw [hx] at C1 C2
    rw [hy] at C3 C4
    have e1 : (q == q) = true := by simp
    have e2 : (V == V) = true := by simp
    have e3 : (E == E) = true := by simp
    have e4 : (x == x) = true := by simp
    have e5 : (y == y) = true := by simp
    clear hV hE hq hx hy hX hb2 hB2 hsz
    go_enter Try.func3, Try.ntmps3
    go_wp2_with fail
    rw [HW.out]
    go_wp2_with fail
    refine CP.out.mono ?_; rintro e w3 ⟨rfl, hb3⟩
    have hB3 := HB2.out.up hb3 HB2.out.lt
    have HX3 := Lib.hid (HX.out.up hb3 HX.out.lt)
    have HU3 := Lib.hid (up_trans HU2.out hb3)
    obtain ⟨_, hc3⟩ := CQ.out w3 hb3
    have CQ3 := Lib.hid hc3
    have HR3 := Lib.hid (HR2.out.below hb3)
    have HB3 := Lib.hid hB3
    have d0 := hB3.cell 0 _ rfl
    have d1 := hB3.cell 1 _ rfl
    have d2 := hB3.cell 2 _ rfl
    have d3 := hB3.cell 3 _ rfl
    clear hb3 hB3 hc3 c0 c1 c2 c3
    go_wp2_with fail
    refine CQ3.out.mono ?_; rintro e w4 ⟨rfl, hb4⟩
    have hB4 := HB3.out.up hb4 HB3.out.lt
    have hX4 := HX3.out.up hb4 HX3.out.lt
    have HU4 := Lib.hid (up_trans HU3.out hb4)
    have HR4 := Lib.hid (HR3.out.below hb4)
    have k0 := cell_regrown (hB4.cell 0 _ rfl)
    have k1 := cell_regrown (hB4.cell 1 _ rfl)
    have k2 := cell_regrown (hB4.cell 2 _ rfl)
    have k3 := cell_regrown (hB4.cell 3 _ rfl)
    have l0 := cell_regrown (hX4.cell 0 _ rfl)
    have l1 := cell_regrown (hX4.cell 1 _ rfl)
    have l2 := cell_regrown (hX4.cell 2 _ rfl)
    have l3 := cell_regrown (hX4.cell 3 _ rfl)
    have s1 := grown_call (w := w4) fun W hW => CF.out W (HR4.out.below hW)
    have s2 := grown_call (w := w4) fun W hW => CG.out W (HR4.out.below hW)
    have s3 := grown_call (w := w4) fun W _ => C1.out W
    have s4 := grown_call (w := w4) fun W _ => C2.out W
    have s5 := grown_call (w := w4) fun W _ => C3.out W
    have s6 := grown_call (w := w4) fun W _ => C4.out W
    have s7 := grown_call (w := w4) fun W _ => c_alive W
    clear hb4 hB4 hX4 d0 d1 d2 d3
    go_wp2_with fail
    refine wp_region_quiet_below (by kernel_rfl) (by kernel_rfl) ?_
    repeat (go_big_quiet_step (first | (with_reducible exact s1 _ _) | (with_reducible exact s2 _ _) | (with_reducible exact s3 _ _) | (with_reducible exact s4 _ _) | (with_reducible exact s5 _ _) | (with_reducible exact s6 _ _) | (with_reducible exact s7 _ _)))
    refine wpQuiet_nil ?_
    intro _ hw'
    obtain ⟨⟨dq, osq⟩, hw''⟩ := hw'
    have HQ := Lib.hid (up_trans HU4.out (hw'' ▸ below_regrown w4 dq osq))
    clear hw'' k0 k1 k2 k3 l0 l1 l2 l3 s1 s2 s3 s4 s5 s6 s7
    go_wp2
    go_ret
    exact ⟨rfl, HQ.out⟩
  · have g1 : decide ((20 : Int) < n) = true := decide_eq_true (by omega)
    go_enter Try.func3, Try.ntmps3
    go_wp2_with fail
    rw [HW.out]
    go_wp2_with fail
    refine (c_alive _).mono ?_; rintro e w' ⟨rfl, hb⟩
    go_wp2
    go_ret
    exact ⟨rfl, up_trans HU.out hb⟩
end Go.Proofs.Ytlnnmigoonbbjaa

/- The contract of the law HandleBack: it returns true for any two pairs of numbers, and leaves memory only grown. -/
import Derived.Test.YtmdpcpefkenicaaDoorHv
import Derived.BigQuiet
import Derived.Lib.QuietBelow
namespace Go.Proofs.YtmdpcpefkenicaaDoor
open Go.RowKit

/-- h is the handle of slot x and generation y. -/
structure HV (h x y : Int) : Prop where
  eq : 4096 * y + x = h
  x0 : 0 ≤ x
  x1 : x ≤ 4095
  y0 : 1 ≤ y
  y1 : y ≤ 65535
theorem HV.fine {h x y : Int} (H : HV h x y) : fineB h = true := by
  obtain ⟨rfl, _, _, _, _⟩ := H
  exact fine_of _ (by omega) (by omega)
theorem HV.i64 {h x y : Int} (H : HV h x y) : I64 h := by
  obtain ⟨rfl, _, _, _, _⟩ := H
  exact i64_of _ (by omega) (by omega)
theorem HV.slot {h x y : Int} (H : HV h x y) : slotF h = x := by
  rw [slotF_of h H.fine]
  obtain ⟨rfl, _, _, _, _⟩ := H
  omega
theorem HV.gen {h x y : Int} (H : HV h x y) : genF h = y := by
  rw [genF_of h H.fine]
  obtain ⟨rfl, _, _, _, _⟩ := H
  omega
theorem HV.makeH {h x y : Int} (H : HV h x y) : makeH x y = h := by
  rw [makeH_of x y ⟨H.x0, H.x1, H.y0, H.y1⟩]
  exact H.eq
theorem HV.makeE {h x y : Int} (H : HV h x y) : makeE x y = 0 := makeE_of x y ⟨H.x0, H.x1, H.y0, H.y1⟩
theorem HV.back {h x y : Int} (H : HV h x y) : parseH (textL h) = h ∧ parseE (textL h) = 0 := by
  have hf := H.fine
  rw [textL_of h hf]
  have hb := (fine_iff h).1 hf
  have e := parse_text (h % 4096).toNat (h / 4096).toNat (by omega) (by omega)
  rw [e.1, e.2]
  have e1 : (((h % 4096).toNat : Nat) : Int) = x := by
    have := H.slot
    rw [slotF_of h hf] at this
    omega
  have e2 : (((h / 4096).toNat : Nat) : Int) = y := by
    have := H.gen
    rw [genF_of h hf] at this
    omega
  rw [e1, e2]
  exact ⟨H.makeH, H.makeE⟩

theorem HV.eqB {h x y k u v : Int} (H : HV h x y) (K : HV k u v) : (h == k) = ((x == u) && (y == v)) := by
  obtain ⟨rfl, _, _, _, _⟩ := H
  obtain ⟨rfl, _, _, _, _⟩ := K
  rw [Bool.eq_iff_iff, Bool.and_eq_true, beq_iff_eq, beq_iff_eq, beq_iff_eq]
  omega

theorem b_make {h x y : Int} (H : HV h x y) (w : World) : Calls Tryd.prog 7 #[.int .i64 x, .int .i64 y] w fun e w' => e = .returned (.tuple #[.int .i64 h, .int .i64 0]) ∧ w = w' := by
  have c := c_make x y w
  rw [H.makeH, H.makeE] at c
  exact c
theorem b_text {h x y : Int} (H : HV h x y) (w : World) (ht : Tab w) : Calls Tryd.prog 12 #[.int .i64 h] w fun e w' => e = .returned (.tuple #[.string ⟨(textL h).toArray⟩, .int .i64 0]) ∧ Below w.heap.size w w' := by
  have c := c_text h H.i64 w ht
  rw [textE_of h H.fine] at c
  exact c
theorem b_parse {h x y : Int} (H : HV h x y) (w : World) : Calls Tryd.prog 20 #[.string ⟨(textL h).toArray⟩] w fun e w' => e = .returned (.tuple #[.int .i64 h, .int .i64 0]) ∧ Below w.heap.size w w' := by
  have c := c_parse ⟨(textL h).toArray⟩ w
  rw [show (ByteArray.mk (textL h).toArray).data.toList = textL h by simp, H.back.1, H.back.2] at c
  exact c
theorem b_slot {h x y : Int} (H : HV h x y) (w : World) : Calls Tryd.prog 16 #[.int .i64 h] w fun e w' => e = .returned (.int .i64 x) ∧ w = w' := by
  have c := c_slot h H.i64 w
  rw [H.slot] at c
  exact c
theorem b_gen {h x y : Int} (H : HV h x y) (w : World) : Calls Tryd.prog 18 #[.int .i64 h] w fun e w' => e = .returned (.int .i64 y) ∧ w = w' := by
  have c := c_gen h H.i64 w
  rw [H.gen] at c
  exact c

set_option maxHeartbeats 1000000 in
theorem l_back (a0 a1 b0 b1 : Int) (ha0 : 0 ≤ a0) (ha0' : a0 ≤ 65535) (ha1 : 0 ≤ a1) (ha1' : a1 ≤ 65535) (hb0 : 0 ≤ b0) (hb0' : b0 ≤ 65535) (hb1 : 0 ≤ b1) (hb1' : b1 ≤ 65535) (w : World) (ht : Tab w) :
    Calls Tryd.prog 6 #[.agg #[.int .u16 a0, .int .u16 a1], .agg #[.int .u16 b0, .int .u16 b1]] w fun e w' => e = .returned (.bool true) ∧ Below w.heap.size w w' := by
  obtain ⟨h, HH⟩ : ∃ h, HV h (a0 % 4096) (max 1 a1) := ⟨_, rfl, by omega, by omega, by omega, by omega⟩
  obtain ⟨k, HK⟩ : ∃ k, HV k (b0 % 4096) (max 1 b1) := ⟨_, rfl, by omega, by omega, by omega, by omega⟩
  have hq := HH.eqB HK
  have hcase : ((a0 % 4096 == b0 % 4096) = false ∧ (h == k) = false) ∨ ((a0 % 4096 == b0 % 4096) = true ∧ (max 1 a1 == max 1 b1) = (h == k)) := by
    cases e : (a0 % 4096 == b0 % 4096)
    · rw [e] at hq
      exact .inl ⟨rfl, hq⟩
    · rw [e] at hq
      exact .inr ⟨rfl, hq.symm⟩
  clear hq
  have ht0 : ∀ o1 o2, Tab ((w.alloc o1).alloc o2) := fun o1 o2 => tab_up ht (up_trans (up_alloc _ _) (up_alloc _ _))
  have hA0 : Blk ((w.alloc (.cells #[.int .u16 a0, .int .u16 a1] 41)).alloc (.cells #[.int .u16 b0, .int .u16 b1] 41)) w.heap.size [.int .u16 a0, .int .u16 a1] 41 := (Blk.new w [.int .u16 a0, .int .u16 a1] 41).alloc _
  have hB0 : Blk ((w.alloc (.cells #[.int .u16 a0, .int .u16 a1] 41)).alloc (.cells #[.int .u16 b0, .int .u16 b1] 41)) (w.heap.size + 1) [.int .u16 b0, .int .u16 b1] 41 := by
    have := Blk.new (w.alloc (.cells #[.int .u16 a0, .int .u16 a1] 41)) [.int .u16 b0, .int .u16 b1] 41
    simpa using this
  have hs0 : ((w.alloc (.cells #[.int .u16 a0, .int .u16 a1] 41)).alloc (.cells #[.int .u16 b0, .int .u16 b1] 41)).heap.size = w.heap.size + 2 := by simp
  have hbl0 : Below w.heap.size w ((w.alloc (.cells #[.int .u16 a0, .int .u16 a1] 41)).alloc (.cells #[.int .u16 b0, .int .u16 b1] 41)) := up_trans (up_alloc _ _) (up_alloc _ _)
  have HS0 := Lib.hid hs0
  clear hs0
  go_enter Tryd.func6, Tryd.ntmps6
  go_wp2_with fail
  refine (b_make HH _).mono ?_
  rintro e w' ⟨rfl, rfl⟩
  go_wp2_with fail
  refine (b_make HK _).mono ?_
  rintro e w' ⟨rfl, rfl⟩
  go_wp2_with fail
  refine (b_text HH _ (ht0 _ _)).mono ?_
  rintro e w1 ⟨rfl, hb1⟩
  have ht1 := tab_up (ht0 _ _) hb1
  have hA1 := hA0.up hb1 (by rw [HS0.out]; omega)
  have hB1 := hB0.up hb1 (by rw [HS0.out]; omega)
  have hbl1 := up_trans hbl0 hb1
  have hs1 := hb1.size
  rw [HS0.out] at hs1
  clear hb1 hbl0 hA0 hB0 HS0 ht0
  go_wp2_with fail
  refine (b_parse HH _).mono ?_
  rintro e w2 ⟨rfl, hb2⟩
  have ht2 := tab_up ht1 hb2
  have hA2 := hA1.up hb2 (by omega)
  have hB2 := hB1.up hb2 (by omega)
  have hbl2 := up_trans hbl1 hb2
  clear hb2 hbl1 hA1 hB1 hs1 ht1
  have ca0 := hA2.cell 0 _ rfl
  have ca1 := hA2.cell 1 _ rfl
  have cb0 := hB2.cell 0 _ rfl
  have cb1 := hB2.cell 1 _ rfl
  clear hA2 hB2
  go_wp2_with (first | (go_at_call 16; refine (b_slot HH _).mono ?_; rintro e w' ⟨rfl, rfl⟩) | (go_at_call 18; refine (b_gen HH _).mono ?_; rintro e w' ⟨rfl, rfl⟩) | (go_at_call 7; refine (b_make HH _).mono ?_; rintro e w' ⟨rfl, rfl⟩))
  have k0 := cell_regrown ca0
  have k1 := cell_regrown ca1
  have k2 := cell_regrown cb0
  have k3 := cell_regrown cb1
  have cSh := grown_call (w := w2) fun W _ => same_below (b_slot HH W)
  have cSk := grown_call (w := w2) fun W _ => same_below (b_slot HK W)
  have cGh := grown_call (w := w2) fun W _ => same_below (b_gen HH W)
  have cGk := grown_call (w := w2) fun W _ => same_below (b_gen HK W)
  have cAl := grown_call (w := w2) fun W hW => c_alive W (tab_up ht2 hW)
  rcases hcase with ⟨e1, e2⟩ | ⟨e1, e2⟩
  all_goals
    refine wp_region_quiet_below (by kernel_rfl) (by kernel_rfl) ?_
    repeat (go_big_quiet_step (first | exact cSh _ _ | exact cSk _ _ | exact cGh _ _ | exact cGk _ _ | exact cAl _ _))
    refine wpQuiet_nil ?_
    intro _ hw'
    obtain ⟨⟨dq, osq⟩, hw''⟩ := hw'
    subst hw''
    go_wp2
    go_ret
    exact ⟨rfl, up_trans hbl2 (below_regrown w2 dq osq)⟩
end Go.Proofs.YtmdpcpefkenicaaDoor

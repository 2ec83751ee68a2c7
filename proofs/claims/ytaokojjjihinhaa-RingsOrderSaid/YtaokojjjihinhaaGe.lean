/- slices.Grow of nil, slices.Concat of two, and the ring's List. -/
import Derived.Test.YtaokojjjihinhaaGd
import Derived.Lib.AppendZeros
import Derived.Lib.SliceRun
namespace Go.Proofs.Ytaokojjjihinhaa
open Go.RowKit

theorem infoI : ∃ i, Try.prog.info? 3 = some i ∧ i.zero = some (.int .i64 0) ∧ i.size = 1 ∧ i.bytes = 8 := info_parts ei_int.info
/-- A row of no ints yet, in new memory. -/
def GrowPost (w : World) (e : Ending) (w' : World) : Prop := ∃ v', e = .returned v' ∧ w'.ownsRow w.heap.size 3 1 v' 0 [] ∧ Below w.heap.size w w'
set_option maxHeartbeats 1000000 in
theorem c_grow (n : Nat) (w : World) (hn : n ≤ 1000000) : Calls Try.prog 23 #[.slice none 0 0, .int .i64 n] w (GrowPost w) := by
  rcases Nat.eq_zero_or_pos n with h0 | h0
  · subst h0
    rw [show ((0 : Nat) : Int) = 0 from rfl]
    go_enter Try.func23, Try.ntmps23
    go_wp2
    go_ret
    exact ⟨_, rfl, World.ownsRow_nil _ _ _ _, Below.refl _ _⟩
  · obtain ⟨i, hi, hz, hs, hb⟩ := infoI
    have hG1 := grownCap_ge w n 0 3
    have hG2 := grownCap_le_maxLen w n 0 3 (by unfold maxLen; omega)
    have hG3 : grownCap w n 0 3 ≤ 9223372036854775807 := by unfold maxLen at hG2; omega
    have hrz := fun ty => Lib.run_append_nil_zeros (P := Try.prog) w 28 3 ty 3 i _ .i64 .i64 Try.underlying28 Try.underlying3 hi hz n h0 (by omega) (by omega) (by rw [hb]; omega)
    have hown := World.ownsRow_made (base := w.heap.size) (e := 3) (size := 1) w.drew (Builtin.zeroCells (Value.int .i64 0).cells n ++ Builtin.zeroCells (Value.int .i64 0).cells (grownCap w n 0 3 - n)) (grownCap w n 0 3) (Nat.le_refl _) hG2
      (by rw [Array.size_append, size_zeroCells, size_zeroCells, ei_int.cells]; omega)
    have hB : Below w.heap.size w (w.drew.alloc (.cells (Builtin.zeroCells (Value.int .i64 0).cells n ++ Builtin.zeroCells (Value.int .i64 0).cells (grownCap w n 0 3 - n)) 3)) := (up_drewN w 1).alloc (Nat.le_refl _) _
    generalize w.drew.alloc (.cells (Builtin.zeroCells (Value.int .i64 0).cells n ++ Builtin.zeroCells (Value.int .i64 0).cells (grownCap w n 0 3 - n)) 3) = w1 at *
    obtain ⟨G, hG⟩ : ∃ G, G = grownCap w n 0 3 := ⟨_, rfl⟩
    rw [← hG] at hrz hown hG1 hG2 hG3
    have hpos : (n : Int) > 0 := by omega
    have HO := Lib.hid hown
    have HB := Lib.hid hB
    clear hG hown hB hi hz hs hb
    go_enter Try.func23, Try.ntmps23
    go_wp2_with (at_builtin; refine Lib.wpList_append_run _ rfl _ _ _ _ rfl _ _ rfl rfl _ _ (hrz _) ?_)
    go_ret
    exact ⟨_, rfl, HO.out, HB.out⟩

/-- A new row of these ints. -/
def CatPost (w : World) (zs : List Int) (e : Ending) (w' : World) : Prop := ∃ v', e = .returned v' ∧ w'.ownsRow w.heap.size 3 1 v' zs.length (zs.map (Value.int .i64)) ∧ Below w.heap.size w w'
set_option maxHeartbeats 2000000 in
theorem c_concat {w : World} {b : Nat} {pl pl' : Nat → Prop} {A B : Option Addr} {c d : Nat} {xs ys : List Int} {n m : Nat} (h : Blk w b [.slice A n c, .slice B m d] 28) (hA : RD w pl 1 A n (xs.map (Value.int .i64))) (hB : RD w pl' 1 B m (ys.map (Value.int .i64))) (hn : n + m ≤ 10000) :
    Calls Try.prog 22 #[.slice (some ⟨b, 0, none⟩) 2 2] w (CatPost w (xs ++ ys)) := by
  have hxn : xs.length = n := by have := hA.1; simpa using this
  have hym : ys.length = m := by have := hB.1; simpa using this
  have h0 := h.cell 0 _ rfl
  have h1 := h.cell 1 _ rfl
  have H := Lib.hid h
  have HA := Lib.hid hA
  have HB := Lib.hid hB
  have HX := Lib.hid hxn
  have HY := Lib.hid hym
  have CG := Lib.hid (c_grow (n + m) w (by omega))
  clear h hA hB hxn hym
  go_enter Try.func22, Try.ntmps22
  go_wp2
  go_loop [3, 11] (fun s i => (i = .int .i64 0 ∧ s = .int .i64 0) ∨ (i = .int .i64 1 ∧ s = .int .i64 n) ∨ (i = .int .i64 2 ∧ s = .int .i64 ((n + m : Nat) : Int))) (fun _ i => 2 - (intOf i).toNat)
  case atStart => exact .inl ⟨rfl, rfl⟩
  case round =>
    rcases hrel with ⟨rfl, rfl⟩ | ⟨rfl, rfl⟩ | ⟨rfl, rfl⟩
    · go_wp2
      go_round
      case rel => exact .inr (.inl ⟨by go_num, by go_num⟩)
      case measure => simp [intOf]
    · go_wp2
      go_round
      case rel => exact .inr (.inr ⟨by go_num, by go_num⟩)
      case measure => simp [intOf]
    · clear h0 h1
      go_wp2_with fail
      refine Calls.mono CG.out ?_
      rintro e w1 ⟨v1, rfl, hown1, hb1⟩
      have HO1 := Lib.hid hown1
      have HB1 := Lib.hid hb1
      clear hown1 hb1
      go_wp2_with fail
      go_loopw [6, 27] (fun v i wr => Below w.heap.size w wr ∧ ((i = .int .i64 0 ∧ wr.ownsRow w.heap.size 3 1 v 0 []) ∨ (i = .int .i64 1 ∧ wr.ownsRow w.heap.size 3 1 v n (xs.map (Value.int .i64))) ∨ (i = .int .i64 2 ∧ wr.ownsRow w.heap.size 3 1 v (n + m) ((xs ++ ys).map (Value.int .i64))))) (fun _ i _ => 2 - (intOf i).toNat)
      case atStart => exact ⟨HB1.out, .inl ⟨rfl, HO1.out⟩⟩
      case round =>
        obtain ⟨hbr, hrel⟩ := hrel
        have HR := Lib.hid hbr
        have hs := hbr.size
        have d0 := (H.out.up hbr H.out.lt).cell 0 _ rfl
        have d1 := (H.out.up hbr H.out.lt).cell 1 _ rfl
        have HA2 := Lib.hid (HA.out.below hbr)
        have HB2 := Lib.hid (HB.out.below hbr)
        clear hbr
        rcases hrel with ⟨rfl, hv⟩ | ⟨rfl, hv⟩ | ⟨rfl, hv⟩
        · have HV := Lib.hid hv
          clear hv d1
          go_wp2_with (at_builtin; refine wpList_app3 ei_int rfl (.tmp 31) (.tmp 32) rfl _ _ rfl HV.out rfl HA2.out (by simp [Value.oneCell']) (by omega) hs ?_; intro v2 w2 hown2 hg2 _)
          have HO2 := Lib.hid hown2
          have HB3 := Lib.hid (HR.out.grown hg2 HR.out.size fun k e => (HV.out.lt k e).1)
          clear hown2 hg2 d0
          go_roundw
          case rel => exact ⟨HB3.out, .inr (.inl ⟨by go_num, by simpa using HO2.out⟩)⟩
          case measure => simp [intOf]
        · have HV := Lib.hid hv
          clear hv d0
          go_wp2_with (at_builtin; refine wpList_app3 ei_int rfl (.tmp 31) (.tmp 32) rfl _ _ rfl HV.out rfl HB2.out (by simp [Value.oneCell']) (by omega) hs ?_; intro v2 w2 hown2 hg2 _)
          have HO2 := Lib.hid hown2
          have HB3 := Lib.hid (HR.out.grown hg2 HR.out.size fun k e => (HV.out.lt k e).1)
          clear hown2 hg2 d1
          go_roundw
          case rel => exact ⟨HB3.out, .inr (.inr ⟨by go_num, by simpa using HO2.out⟩)⟩
          case measure => simp [intOf]
        · have HV := Lib.hid hv
          clear hv d0 d1
          go_wp2_with fail
          go_ret
          exact ⟨_, rfl, by rw [List.length_append, HX.out, HY.out]; exact HV.out, HR.out⟩

/-- A slice as it comes out of x[a:b]. -/
theorem list_ints {w w1 w2 : World} {zs : List Int} {v : Value} {n : Nat} (h : w2.ownsRow w1.heap.size 3 1 v n (zs.map (Value.int .i64))) (hb : Below w.heap.size w w1) (hb2 : Below w1.heap.size w1 w2) :
    ∃ A c, v = .slice A n c ∧ n ≤ c ∧ c ≤ maxLen ∧ ∀ k, IntsPost w zs (.returned (.slice A n n)) (w2.drewN k) := by
  obtain ⟨A, c, rfl, h1, h2, h3⟩ := own_slice h
  obtain rfl : n = zs.length := by have := h.1; simpa using this.symm
  have h4 : RD w2 (w.heap.size ≤ ·) 1 A zs.length (zs.map (Value.int .i64)) := h3.lo fun b hb3 => Nat.le_trans hb.size hb3
  exact ⟨A, c, rfl, h1, h2, fun k => ⟨A, zs.length, rfl, Nat.le_refl _, by unfold maxLen at *; omega, h4.below (up_drewN w2 k), up_trans (up_trans hb hb2) (up_drewN w2 k)⟩⟩
theorem map_take_drop (xs : List Int) (a b : Nat) : ((xs.map (Value.int .i64)).take b).drop a = ((xs.take b).drop a).map (Value.int .i64) := by simp
end Go.Proofs.Ytaokojjjihinhaa

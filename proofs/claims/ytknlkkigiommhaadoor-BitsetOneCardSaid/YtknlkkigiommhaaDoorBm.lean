/- The contract of the law's alive. -/
import Derived.Test.YtknlkkigiommhaaDoorBj
import Derived.Test.YtknlkkigiommhaaDoorIs
import Derived.Deep.RegionHeld3
namespace Go.Proofs.YtknlkkigiommhaaDoor
open Go.RowKit

theorem tab_up {w w' : World} (h : TabD w) (hb : Below w.heap.size w w') : TabD w' := tab_below h (tab_lt h) hb
/-- The sets of alive. -/
def sA : S4 := ⟨8#64, 64#64, 0#64, 0#64⟩
def sD : S4 := ⟨0#64, 64#64, 0#64, 0#64⟩
def sE : S4 := ⟨40#64, 64#64, 0#64, 0#64⟩
abbrev vA : Value := .agg #[.int .u64 8, .int .u64 64, .int .u64 0, .int .u64 0]
abbrev vD : Value := .agg #[.int .u64 0, .int .u64 64, .int .u64 0, .int .u64 0]
abbrev vE : Value := .agg #[.int .u64 40, .int .u64 64, .int .u64 0, .int .u64 0]
theorem eA : sA.val = vA := rfl
theorem eD : sD.val = vD := rfl
theorem eE : sE.val = vE := rfl
theorem ofA : ofS [3, 70, 256] = sA := S4.ext4 (by decide +kernel) (by decide +kernel) (by decide +kernel) (by decide +kernel)
theorem intsA : sA.ints = [3, 70] := by decide +kernel
theorem dropA : sA.les (S4.only 3) = sD := S4.ext4 (by decide +kernel) (by decide +kernel) (by decide +kernel) (by decide +kernel)
theorem addA : sA.uni (S4.only 5) = sE := S4.ext4 (by decide +kernel) (by decide +kernel) (by decide +kernel) (by decide +kernel)
theorem subD : sD.sub sA = true := by decide +kernel
theorem subE : sE.sub sA = false := by decide +kernel

theorem a_of {w : World} {b c : Nat} (hB : Blk w b [.int .i64 3, .int .i64 70, .int .i64 256] 3) :
    Calls Tryd.prog 8 #[.slice (some ⟨b, 0, none⟩) 3 c] w fun e w' => e = .returned vA ∧ Below w.heap.size w w' := by
  have := c_of (pl := fun _ => True) (c := c) (L := [3, 70, 256]) (RD.of_blk hB rfl trivial) (by simp)
  rw [ofA, eA] at this
  exact this
theorem a_len (w : World) : Calls Tryd.prog 15 #[vA] w fun e w' => e = .returned (.int .i64 2) ∧ Below w.heap.size w w' := by
  have := c_len sA w
  rw [show sA.len = 2 by unfold S4.len; rw [intsA]; rfl, eA] at this
  exact this
theorem a_has70 (w : World) : Calls Tryd.prog 16 #[vA, .int .i64 70] w fun e w' => e = .returned (.bool true) ∧ Below w.heap.size w w' := by
  have := c_has sA 70 w
  rw [show hasL sA.ints 70 = true by rw [intsA]; rfl, eA] at this
  exact this
theorem a_has4 (w : World) : Calls Tryd.prog 16 #[vA, .int .i64 4] w fun e w' => e = .returned (.bool false) ∧ Below w.heap.size w w' := by
  have := c_has sA 4 w
  rw [show hasL sA.ints 4 = false by rw [intsA]; rfl, eA] at this
  exact this
theorem a_next (w : World) (hT : TabD w) : Calls Tryd.prog 10 #[vA, .int .i64 4] w fun e w' => e = .returned (.tuple #[.int .i64 70, .bool true]) ∧ Below w.heap.size w w' := by
  have := c_next sA 4 w hT
  unfold NextPost at this
  rw [show nextL sA.ints 4 = (70, true) by rw [intsA]; rfl, eA] at this
  exact this
theorem a_list (w : World) (hT : TabD w) : Calls Tryd.prog 14 #[vA] w (IntsPost w [3, 70]) := by
  have := c_list sA w hT
  rw [intsA, eA] at this
  exact this
theorem a_drop (w : World) : Calls Tryd.prog 20 #[vA, .int .i64 3] w fun e w' => e = .returned vD ∧ Below w.heap.size w w' := by
  have := c_drop sA 3 w
  rw [dropA, eA, eD] at this
  exact this
theorem a_add (w : World) : Calls Tryd.prog 18 #[vA, .int .i64 5] w fun e w' => e = .returned vE ∧ Below w.heap.size w w' := by
  have := c_add sA 5 w
  rw [addA, eA, eE] at this
  exact this
theorem a_subD (w : World) : Calls Tryd.prog 28 #[vD, vA] w fun e w' => e = .returned (.bool true) ∧ Below w.heap.size w w' := by
  have := c_sub sD sA w
  rw [subD, eD, eA] at this
  exact this
theorem a_subE (w : World) : Calls Tryd.prog 28 #[vE, vA] w fun e w' => e = .returned (.bool false) ∧ Below w.heap.size w w' := by
  have := c_sub sE sA w
  rw [subE, eE, eA] at this
  exact this
theorem rd_two {w : World} {n : Nat} (hn : n = w.heap.size) : RD (w.alloc (.cells #[.int .i64 3, .int .i64 70] 3)) (fun _ => True) 1 (some ⟨n, 0, none⟩) ([3, 70] : List Int).length (([3, 70] : List Int).map (Value.int .i64)) :=
  RD.of_blk (xs := [.int .i64 3, .int .i64 70]) (Blk.new' w [.int .i64 3, .int .i64 70] 3 n hn) rfl trivial

theorem al_S {w W : World} {b : Nat} {x y z u : Value} {t : TypeId} (h : Blk w b [x, y, z, u] t) (hb : Below w.heap.size w W) :
    Below w.heap.size w W ∧ W.cell? ⟨b, 0, none⟩ = some x ∧ W.cell? ⟨b, 1, none⟩ = some y ∧ W.cell? ⟨b, 2, none⟩ = some z ∧ W.cell? ⟨b, 3, none⟩ = some u :=
  ⟨hb, (h.up hb h.lt).cell 0 _ rfl, (h.up hb h.lt).cell 1 _ rfl, (h.up hb h.lt).cell 2 _ rfl, (h.up hb h.lt).cell 3 _ rfl⟩
theorem al_next {w W W' : World} {b : Nat} {x y z u : Value} {t : TypeId} (h : Blk w b [x, y, z, u] t) (k : Below W.heap.size W W')
    (hb : Below w.heap.size w W ∧ W.cell? ⟨b, 0, none⟩ = some x ∧ W.cell? ⟨b, 1, none⟩ = some y ∧ W.cell? ⟨b, 2, none⟩ = some z ∧ W.cell? ⟨b, 3, none⟩ = some u) :
    Below w.heap.size w W' ∧ W'.cell? ⟨b, 0, none⟩ = some x ∧ W'.cell? ⟨b, 1, none⟩ = some y ∧ W'.cell? ⟨b, 2, none⟩ = some z ∧ W'.cell? ⟨b, 3, none⟩ = some u := al_S h (up_trans hb.1 k)

set_option maxHeartbeats 4000000 in
theorem c_alive (w : World) (hT : TabD w) : Calls Tryd.prog 7 #[] w fun e w' => e = .returned (.bool true) ∧ Below w.heap.size w w' := by
  have HT := Lib.hid hT
  clear hT
  go_enter Tryd.func7, Tryd.ntmps7
  go_wp2_with (first
    | (go_at_call 8; refine (a_of (Blk.new w [.int .i64 3, .int .i64 70, .int .i64 256] 3)).mono ?_; rintro e w1 ⟨rfl, hb1⟩))
  have hb01 : Below w.heap.size w (w1.alloc (.cells #[.int .u64 8, .int .u64 64, .int .u64 0, .int .u64 0] 26)) := up_trans (up_trans (up_alloc _ _) hb1) (up_alloc _ _)
  refine Calls.mono (a_next _ (tab_up HT.out hb01)) ?_
  rintro e w2 ⟨rfl, hb2⟩
  have hB2 := (Blk.new w1 [.int .u64 8, .int .u64 64, .int .u64 0, .int .u64 0] 26).up hb2 (by simp)
  have hb02 := up_trans hb01 hb2
  have c0 := hB2.cell 0 _ rfl
  have c1 := hB2.cell 1 _ rfl
  have c2 := hB2.cell 2 _ rfl
  have c3 := hB2.cell 3 _ rfl
  have hq := run_same (s := sA) (t := sA) rfl
  rw [eA] at hq
  have HT2 := Lib.hid (tab_up HT.out hb02)
  clear HT hb1 hb01 hb2
  generalize w1.heap.size = b at hB2 c0 c1 c2 c3
  go_wp2_with fail
  go_region_held3 (fun W => Below w2.heap.size w2 W ∧ W.cell? ⟨b, 0, none⟩ = some (.int .u64 8) ∧ W.cell? ⟨b, 1, none⟩ = some (.int .u64 64) ∧ W.cell? ⟨b, 2, none⟩ = some (.int .u64 0) ∧ W.cell? ⟨b, 3, none⟩ = some (.int .u64 0))
    (first | exact al_S hB2 ((Below.refl _ _).drew) | exact al_next hB2 (by assumption) (by assumption) | exact al_next hB2 (up_alloc _ _) (by assumption))
    (first
      | rw [hq]
      | (go_at_call 15; refine Calls.mono (a_len _) ?_; rintro e w' ⟨rfl, hbl⟩)
      | (go_at_call 16; (with_reducible refine Calls.mono (a_has70 _) ?_); rintro e w' ⟨rfl, hbh⟩)
      | (go_at_call 16; (with_reducible refine Calls.mono (a_has4 _) ?_); rintro e w' ⟨rfl, hbi⟩)
      | (go_at_call 14; refine Calls.mono (a_list _ (tab_up HT2.out (And.left (by assumption)))) ?_; rintro e w' ⟨Ah, ch, rfl, _, _, rdh, hbm⟩)
      | (go_at_call 13; refine Calls.mono (c_same (zs := [3, 70]) (by first | exact rdh | exact rdh.below (up_alloc _ _)) (by first | exact rd_two rfl | exact (rd_two rfl).below (by assumption)) (by simp)) ?_; rintro e w' ⟨rfl, hds⟩; have hbs := hds.below; clear hds)
      | (go_at_call 20; refine Calls.mono (a_drop _) ?_; rintro e w' ⟨rfl, hbd⟩)
      | (go_at_call 18; refine Calls.mono (a_add _) ?_; rintro e w' ⟨rfl, hba⟩)
      | (go_at_call 28; (with_reducible refine Calls.mono (a_subD _) ?_); rintro e w' ⟨rfl, hbx⟩)
      | (go_at_call 28; (with_reducible refine Calls.mono (a_subE _) ?_); rintro e w' ⟨rfl, hby⟩))
  all_goals
    go_wp2
    go_ret
    exact ⟨rfl, up_trans hb02 (And.left (by assumption))⟩
end Go.Proofs.YtknlkkigiommhaaDoor

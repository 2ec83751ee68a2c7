/- slices.Clone of ints: in new memory, a row of the call's own. -/
import Derived.Test.YtnmjjemkaamcfaaI
import Derived.WalkKit
import Derived.WalkSpells
import Derived.WalkLawsBesides
import Derived.Lib.SliceRun
namespace Go.Proofs.Ytnmjjemkaamcfaa
open Go.RowKit

theorem eq_nil_ints (w : World) (a : Option Addr) (n c n' c' : Nat) : (binOp .eql 58 (.slice a n c) (.slice none n' c')).run Try.prog w = .ok (.bool a.isNone) w := Lib.run_eql_slice_nil w _ 3 a n c n' c' (by kernel_rfl)
/-- A row of the call's own that reads as these ints. -/
def OwnPost (w : World) (n : Nat) (zs : List Int) (e : Ending) (w' : World) : Prop := ∃ v, e = .returned v ∧ w'.ownsRow w.heap.size 3 1 v n (zs.map (Value.int .i64)) ∧ Below w.heap.size w w'

set_option maxHeartbeats 400000 in
theorem c_sclone {w : World} {pl : Nat → Prop} {A : Option Addr} {n c : Nat} {L : List Int} (hR : RD w pl 1 A n (L.map (Value.int .i64))) (hl : L.length = n) (hn : n ≤ 100000) :
    Calls Try.prog 58 #[.slice A n c] w (OwnPost w n L) := by
  have hq := eq_nil_ints
  rcases A with _ | p
  · have hL : L = [] := by
      rcases Nat.eq_zero_or_pos n with h0 | h0
      · exact List.eq_nil_of_length_eq_zero (by omega)
      · obtain ⟨b, o, e, _⟩ := hR.at_ h0
        cases e
    subst hL
    obtain rfl : n = 0 := by simpa using hl.symm
    clear hR hl
    go_enter Try.func58, Try.ntmps58
    go_wp2
    go_ret
    exact ⟨_, rfl, World.ownsRow_nil _ _ _ _, Below.refl _ _⟩
  · have HR := Lib.hid hR
    have hown := World.ownsRow_made (base := w.heap.size) (e := 3) (size := 1) w #[] 0 (Nat.le_refl _) (by unfold maxLen; omega) (by simp)
    clear hR hl
    go_enter Try.func58, Try.ntmps58
    go_wp2_with (at_builtin; refine wpList_app2 ei_int rfl (.tmp 5) (.tmp 6) rfl (.slice (some ⟨w.heap.size, 0, none⟩) 0 0) [] rfl hown rfl (HR.out.below (up_alloc _ _)) (int_cells _ _) (by omega) (by simp) ?_; intro v1 w1 hown1 hg1; simp only [Nat.zero_add, List.nil_append] at hown1)
    go_ret
    refine ⟨_, rfl, hown1, (up_alloc w (.cells #[] 3)).grown hg1 (by simp) (fun k e => ?_)⟩
    have : w.heap.size = k := by simpa [Value.ownBlock] using e
    omega
end Go.Proofs.Ytnmjjemkaamcfaa

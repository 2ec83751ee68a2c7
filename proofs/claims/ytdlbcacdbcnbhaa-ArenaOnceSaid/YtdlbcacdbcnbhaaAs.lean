/- The contracts of the document's open, Free, at and Get. -/
import Derived.Test.YtdlbcacdbcnbhaaAr
namespace Go.Proofs.Ytdlbcacdbcnbhaa
open Go.RowKit

/-- The place of slot k's thing. -/
def ixT (τ : List Slot) (k : Nat) : Nat := (thingsF 0 (τ.take k)).length
theorem RT.things' {w : World} {pl : Nat → Prop} {τ : List Slot} {A B : Option Addr} {c d : Nat} (h : RT w pl τ A c B d) : RD w pl 2 B (thingsF 0 τ).length ((thingsF 0 τ).flatMap pairV) := by
  rw [thingsF_len]
  exact h.things
theorem RT.lenfew {w : World} {pl : Nat → Prop} {τ : List Slot} {A B : Option Addr} {c d : Nat} (h : RT w pl τ A c B d) : (thingsF 0 τ).length ≤ 4096 := by
  rw [thingsF_len]
  have := lenT_le τ
  have := h.few
  omega

theorem f_yes {w : World} {pl : Nat → Prop} {τ : List Slot} {A B : Option Addr} {c d : Nat} (h : RT w pl τ A c B d) (last : Value) (k : Nat) (g : Int) (b : Nat) (x : Int) (hk : τ[k]? = some (g, some (b, x))) (n : Nat) :
    Calls Try.prog 35 #[.agg #[last, .slice A n c, .slice B (lenT τ) d], .int .i64 k] w fun e w' => e = .returned (.int .i64 (ixT τ k)) ∧ Below w.heap.size w w' := by
  have h1 := things_yes τ k g b x hk
  have := c_rfind_yes (d := d) h.things' h.lenfew last (.slice A n c) _ k x h1.1 h1.2
  rw [thingsF_len τ] at this
  exact this
theorem f_no {w : World} {pl : Nat → Prop} {τ : List Slot} {A B : Option Addr} {c d : Nat} (h : RT w pl τ A c B d) (last : Value) (k : Nat) (g : Int) (hk : τ[k]? = some (g, none)) (n : Nat) :
    Calls Try.prog 35 #[.agg #[last, .slice A n c, .slice B (lenT τ) d], .int .i64 k] w fun e w' => e = .returned (.int .i64 (-1)) ∧ Below w.heap.size w w' := by
  have := c_rfind_no (d := d) h.things' h.lenfew last (.slice A n c) k (things_no τ k g hk)
  rw [thingsF_len τ] at this
  exact this

/-- The box of a document's table. -/
def boxT (last : Int) (A : Option Addr) (n c : Nat) (B : Option Addr) (m d : Nat) : Obj := .cells #[.int .i64 last, .slice A n c, .slice B m d] 31

set_option maxHeartbeats 1000000 in
theorem c_ropen {w : World} {pl : Nat → Prop} {τ : List Slot} {A B : Option Addr} {c d : Nat} (h0 : RT w pl τ A c B d) (last : Int) (k : Nat) (g : Int) (o : Option (Nat × Int)) (hk : τ[k]? = some (g, o)) :
    Calls Try.prog 25 #[.agg #[.int .i64 last, .slice A τ.length c, .slice B (lenT τ) d], .int .i64 k] w fun e w' => e = .returned (.bool (isFree last (g, o))) ∧ Below w.heap.size w w' := by
  have hb0 := up_alloc w (.cells #[.int .i64 last, .slice A τ.length c, .slice B (lenT τ) d] 31)
  have h := h0.below hb0
  have hf := h0.few
  have hlk : k < τ.length := (List.getElem?_eq_some_iff.1 hk).1
  obtain ⟨bA, oA, rfl, _, hlA, hA⟩ := h.gen
  have hA := cell_regrown (hA k _ hk)
  have k0 := cell_regrown ((Blk.new w [.int .i64 last, .slice (some ⟨bA, oA, none⟩) τ.length c, .slice B (lenT τ) d] 31).cell 0 _ rfl)
  have k1 := cell_regrown ((Blk.new w [.int .i64 last, .slice (some ⟨bA, oA, none⟩) τ.length c, .slice B (lenT τ) d] 31).cell 1 _ rfl)
  have k2 := cell_regrown ((Blk.new w [.int .i64 last, .slice (some ⟨bA, oA, none⟩) τ.length c, .slice B (lenT τ) d] 31).cell 2 _ rfl)
  rcases o with _ | ⟨b, x⟩
  · have cF := grown_call (w := w.alloc (.cells #[.int .i64 last, .slice (some ⟨bA, oA, none⟩) τ.length c, .slice B (lenT τ) d] 31)) fun W hW => f_no (h.below hW) (.int .i64 last) k g hk τ.length
    clear h0 h hk hlA
    go_enter Try.func25, Try.ntmps25
    go_wp2_with fail
    refine wp_region_quiet_below (by kernel_rfl) (by kernel_rfl) ?_
    repeat (go_big_quiet_step (exact cF _ _))
    refine wpQuiet_nil ?_
    intro _ hw'
    obtain ⟨⟨dq, osq⟩, hw''⟩ := hw'
    subst hw''
    go_wp2
    go_ret
    exact ⟨ret_bool (by simp [isFree]), up_trans hb0 (below_regrown _ dq osq)⟩
  · have cF := grown_call (w := w.alloc (.cells #[.int .i64 last, .slice (some ⟨bA, oA, none⟩) τ.length c, .slice B (lenT τ) d] 31)) fun W hW => f_yes (h.below hW) (.int .i64 last) k g b x hk τ.length
    have hd : decide ((ixT τ k : Int) < 0) = false := decide_eq_false (by omega)
    generalize ixT τ k = ik at cF hd
    clear h0 h hk hlA
    go_enter Try.func25, Try.ntmps25
    go_wp2_with fail
    refine wp_region_quiet_below (by kernel_rfl) (by kernel_rfl) ?_
    repeat (go_big_quiet_step (exact cF _ _))
    refine wpQuiet_nil ?_
    intro _ hw'
    obtain ⟨⟨dq, osq⟩, hw''⟩ := hw'
    subst hw''
    go_wp2
    go_ret
    exact ⟨ret_bool (by simp [isFree]), up_trans hb0 (below_regrown _ dq osq)⟩
end Go.Proofs.Ytdlbcacdbcnbhaa

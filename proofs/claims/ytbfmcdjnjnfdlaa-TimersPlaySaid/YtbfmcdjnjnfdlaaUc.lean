/- The walk of TimersPlay, as the row gives its arguments. -/
import Derived.Test.YtbfmcdjnjnfdlaaUb
import Derived.Test.YtbfmcdjnjnfdlaaOS
namespace Go.Proofs.Ytbfmcdjnjnfdlaa
open Go.RowKit

def stepOf (r : List Int) : Step := (r.getD 0 0, r.getD 1 0, r.getD 2 0)
theorem row3 {a b c : IntKind} {r : List Int} (h : RowOk [a, b, c] r) : ∃ x y z, r = [x, y, z] ∧ (Lit.int a x).wf = true ∧ (Lit.int b y).wf = true ∧ (Lit.int c z).wf = true := by
  obtain ⟨x, y, z, rfl⟩ := list_of_3 h.1
  exact ⟨x, y, z, rfl, h.2 0 a x rfl rfl, h.2 1 b y rfl rfl, h.2 2 c z rfl rfl⟩
theorem steps_of (LL : List (List Int)) (hok : ∀ r ∈ LL, RowOk [.u8, .i64, .i64] r) : LL.flatMap (rowV [.u8, .i64, .i64]) = (LL.map stepOf).flatMap stepV := by
  induction LL with
  | nil => rfl
  | cons r LL ih =>
    obtain ⟨x, y, z, rfl, _⟩ := row3 (hok r (by simp))
    rw [List.map_cons, List.flatMap_cons, List.flatMap_cons, ih (fun r' h => hok r' (by simp [h]))]
    rfl
theorem steps_ok (LL : List (List Int)) (hok : ∀ r ∈ LL, RowOk [.u8, .i64, .i64] r) : ∀ p ∈ LL.map stepOf, StepOk p := by
  intro p hp
  obtain ⟨r, hr, rfl⟩ := List.mem_map.1 hp
  obtain ⟨x, y, z, rfl, h1, h2, h3⟩ := row3 (hok r hr)
  exact bounds_u8 h1
theorem z_plays (room : Int) (A : Option Addr) (n cp : Nat) (LL : List (List Int)) (hl : LL.length = n) (hok : ∀ r ∈ LL, RowOk [.u8, .i64, .i64] r) (w : World) (hR : RD w (fun _ => True) [IntKind.u8, .i64, .i64].length A n (LL.flatMap (rowV [.u8, .i64, .i64]))) :
    Calls Try.prog 3 #[.int .i64 room, .slice A n cp] w fun e w' => e = .returned (.bool true) ∧ Below w.heap.size w w' :=
  l_plays room A n cp (LL.map stepOf) w (by rw [← steps_of LL hok]; exact hR) (by simpa using hl) (steps_ok LL hok)
end Go.Proofs.Ytbfmcdjnjnfdlaa

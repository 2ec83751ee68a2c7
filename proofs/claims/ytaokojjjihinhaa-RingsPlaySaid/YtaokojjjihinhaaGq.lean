/- The walks of RingsOrder and RingsPlay, as the rows give their arguments. -/
import Derived.Test.YtaokojjjihinhaaGn
import Derived.Test.YtaokojjjihinhaaGp
import Derived.Test.YtaokojjjihinhaaOI
import Derived.Test.YtaokojjjihinhaaOB
import Derived.Test.YtaokojjjihinhaaOS
namespace Go.Proofs.Ytaokojjjihinhaa
open Go.RowKit

theorem z_order (room : Int) (hr : 0 ≤ room ∧ room ≤ 255) (A : Option Addr) (n cp : Nat) (L : List Int) (hl : L.length = n) (hwf : ∀ z ∈ L, (Lit.int .u8 z).wf = true) (B : Option Addr) (m cq : Nat) (ps : List Bool) (w : World) (hR : RD w (fun _ => True) 1 A n (L.map (Value.int .u8))) (hR2 : RD w (fun _ => True) 1 B m (ps.map Value.bool)) :
    Calls Try.prog 4 #[.int .u8 room, .slice A n cp, .slice B m cq] w fun e w' => e = .returned (.bool true) ∧ Below w.heap.size w w' := by
  by_cases h : 200 < n ∨ 200 < m
  · exact l_order_many room hr.1 hr.2 A B n cp m cq w h
  · exact l_order_few room hr.1 hr.2 A B n cp m cq L ps w hR hl (fun z hz => bounds_u8 (hwf z hz)) hR2 (by omega) (by omega)
def stepOf (r : List Int) : Step := (r.getD 0 0, r.getD 1 0)
theorem row2 {a b : IntKind} {r : List Int} (h : RowOk [a, b] r) : ∃ x y, r = [x, y] ∧ (Lit.int a x).wf = true ∧ (Lit.int b y).wf = true := by
  obtain ⟨x, y, rfl⟩ := list_of_2 h.1
  exact ⟨x, y, rfl, h.2 0 a x rfl rfl, h.2 1 b y rfl rfl⟩
theorem steps_of (LL : List (List Int)) (hok : ∀ r ∈ LL, RowOk [.u8, .i64] r) : LL.flatMap (rowV [.u8, .i64]) = (LL.map stepOf).flatMap stepV := by
  induction LL with
  | nil => rfl
  | cons r LL ih =>
    obtain ⟨x, y, rfl, _⟩ := row2 (hok r (by simp))
    rw [List.map_cons, List.flatMap_cons, List.flatMap_cons, ih (fun r' h => hok r' (by simp [h]))]
    rfl
theorem steps_ok (LL : List (List Int)) (hok : ∀ r ∈ LL, RowOk [.u8, .i64] r) : ∀ p ∈ LL.map stepOf, StepOk p := by
  intro p hp
  obtain ⟨r, hr, rfl⟩ := List.mem_map.1 hp
  obtain ⟨x, y, rfl, h1, h2⟩ := row2 (hok r hr)
  exact bounds_u8 h1
theorem z_plays (room : Int) (A : Option Addr) (n cp : Nat) (LL : List (List Int)) (hl : LL.length = n) (hok : ∀ r ∈ LL, RowOk [.u8, .i64] r) (w : World) (hR : RD w (fun _ => True) [IntKind.u8, .i64].length A n (LL.flatMap (rowV [.u8, .i64]))) :
    Calls Try.prog 3 #[.int .i64 room, .slice A n cp] w fun e w' => e = .returned (.bool true) ∧ Below w.heap.size w w' :=
  l_plays room A n cp (LL.map stepOf) w (by rw [← steps_of LL hok]; exact hR) (by simpa using hl) (steps_ok LL hok)
end Go.Proofs.Ytaokojjjihinhaa

/- Pairs of small numbers, as a row gives them. -/
import Derived.Test.YtibhaiciameklaaDoorRlq
import Derived.Test.YtibhaiciameklaaDoorOA
namespace Go.Proofs.YtibhaiciameklaaDoor
open Go.RowKit

def prOf (r : List Int) : Pr := (r.getD 0 0, r.getD 1 0)
theorem row2 {a b : IntKind} {r : List Int} (h : RowOk [a, b] r) : ∃ x y, r = [x, y] ∧ (Lit.int a x).wf = true ∧ (Lit.int b y).wf = true := by
  obtain ⟨x, y, rfl⟩ := list_of_2 h.1
  exact ⟨x, y, rfl, h.2 0 a x rfl rfl, h.2 1 b y rfl rfl⟩
theorem prs_of (LL : List (List Int)) (hok : ∀ r ∈ LL, RowOk [.u8, .u8] r) : LL.flatMap (rowV [.u8, .u8]) = (LL.map prOf).flatMap prV := by
  induction LL with
  | nil => rfl
  | cons r LL ih =>
    obtain ⟨x, y, rfl, _⟩ := row2 (hok r (by simp))
    rw [List.map_cons, List.flatMap_cons, List.flatMap_cons, ih (fun r' h => hok r' (by simp [h]))]
    rfl
theorem prs_ok (LL : List (List Int)) (hok : ∀ r ∈ LL, RowOk [.u8, .u8] r) : ∀ p ∈ LL.map prOf, PrOk p := by
  intro p hp
  obtain ⟨r, hr, rfl⟩ := List.mem_map.1 hp
  obtain ⟨x, y, rfl, h1, h2⟩ := row2 (hok r hr)
  have b1 := bounds_u8 h1
  have b2 := bounds_u8 h2
  exact ⟨b1.1, b1.2, b2.1, b2.2⟩
end Go.Proofs.YtibhaiciameklaaDoor

/- The pile's Less and Swap. -/
import Derived.Test.YtbfmcdjnjnfdlaaTc
namespace Go.Proofs.Ytbfmcdjnjnfdlaa
open Go.RowKit

/-- A row of timers that holds at least one: its block, and its cells. -/
theorem row_form {w : World} {lo n : Nat} {v : Value} {xs : List Tm} (h : w.ownsRow lo 42 3 v n (flatT xs)) (hn : 0 < n) : ∃ g c, v = .slice (some ⟨g, 0, none⟩) n c ∧ n ≤ c ∧ c ≤ maxLen ∧ lo ≤ g ∧ g < w.heap.size := own_form h hn
theorem row_len {w : World} {lo n : Nat} {v : Value} {xs : List Tm} (h : w.ownsRow lo 42 3 v n (flatT xs)) : n = xs.length := by
  have := h.1
  rw [flatT_len] at this
  omega
theorem row_cell {w : World} {lo n g c : Nat} {xs : List Tm} (h : w.ownsRow lo 42 3 (.slice (some ⟨g, 0, none⟩) n c) n (flatT xs)) (k j : Nat) (hk : k < xs.length) (hj : j < 3) : w.cell? ⟨g, k * 3 + j, none⟩ = (tmV (gt xs k))[j]? := by
  have hn := row_len h
  rw [h.cellAt (k * 3 + j) (by omega)]
  exact flatT_get (gt_some hk) j hj
theorem row_cells {w : World} {lo n g c : Nat} {xs : List Tm} (h : w.ownsRow lo 42 3 (.slice (some ⟨g, 0, none⟩) n c) n (flatT xs)) (k : Nat) (hk : k < xs.length) :
    w.cell? ⟨g, k * 3, none⟩ = some (.int .i64 (gt xs k).at_) ∧ w.cell? ⟨g, k * 3 + 1, none⟩ = some (.int .i64 (gt xs k).no) ∧ w.cell? ⟨g, k * 3 + 2, none⟩ = some (.int .i64 (gt xs k).who) :=
  ⟨row_cell h k 0 hk (by omega), row_cell h k 1 hk (by omega), row_cell h k 2 hk (by omega)⟩

/-- What holds in the region: memory has only grown, and two timers' cells read so. -/
theorem ls_S {w W : World} {g i j : Nat} {a b c d : Value} (hg : g < w.heap.size) (i0 : w.cell? ⟨g, i * 3, none⟩ = some a) (i1 : w.cell? ⟨g, i * 3 + 1, none⟩ = some b) (j0 : w.cell? ⟨g, j * 3, none⟩ = some c) (j1 : w.cell? ⟨g, j * 3 + 1, none⟩ = some d) (hb : Below w.heap.size w W) :
    Below w.heap.size w W ∧ W.cell? ⟨g, i * 3, none⟩ = some a ∧ W.cell? ⟨g, i * 3 + 1, none⟩ = some b ∧ W.cell? ⟨g, j * 3, none⟩ = some c ∧ W.cell? ⟨g, j * 3 + 1, none⟩ = some d :=
  ⟨hb, (hb.cell (p := ⟨g, i * 3, none⟩) hg).trans i0, (hb.cell (p := ⟨g, i * 3 + 1, none⟩) hg).trans i1, (hb.cell (p := ⟨g, j * 3, none⟩) hg).trans j0, (hb.cell (p := ⟨g, j * 3 + 1, none⟩) hg).trans j1⟩
set_option maxHeartbeats 2000000 in
theorem c_less {w : World} {lo n : Nat} {v : Value} {xs : List Tm} (h : w.ownsRow lo 42 3 v n (flatT xs)) (hf : xs.length ≤ 2000) (i j : Nat) (hi : i < xs.length) (hj : j < xs.length) :
    Calls Try.prog 56 #[v, .int .i64 i, .int .i64 j] w fun e w' => e = .returned (.bool (ltB (gt xs i) (gt xs j))) ∧ Below w.heap.size w w' := by
  have hn := row_len h
  obtain ⟨g, c, rfl, hnc, hcm, hlo, hg⟩ := row_form h (by omega)
  subst hn
  have OL := Lib.hid (or_lt (gt xs i) (gt xs j))
  have hI := row_cells h i hi
  have hJ := row_cells h j hj
  generalize gt xs i = a at *
  generalize gt xs j = b at *
  obtain ⟨i0, i1, _⟩ := hI
  obtain ⟨j0, j1, _⟩ := hJ
  generalize xs.length = n at *
  clear h
  go_enter Try.func56, Try.ntmps56
  go_wp2_with fail
  go_region_held3 (fun W => Below w.heap.size w W ∧ W.cell? ⟨g, i * 3, none⟩ = some (.int .i64 a.at_) ∧ W.cell? ⟨g, i * 3 + 1, none⟩ = some (.int .i64 a.no) ∧ W.cell? ⟨g, j * 3, none⟩ = some (.int .i64 b.at_) ∧ W.cell? ⟨g, j * 3 + 1, none⟩ = some (.int .i64 b.no))
    (first | exact ls_S hg i0 i1 j0 j1 ((Below.refl _ _).drew) | exact ls_S hg i0 i1 j0 j1 (((Below.refl _ _).alloc (Nat.le_refl _) _).drew) | exact ls_S hg i0 i1 j0 j1 (And.left (by assumption)))
    (first
      | (go_at_call 59; refine (c_cmp _ _ _).mono ?_; rintro e w' ⟨rfl, rfl⟩)
      | (go_at_call 58; refine (c_or (a := cmpI a.at_ b.at_) (b := cmpI a.no b.no) (by simp [World.cell?_alloc_new]) (by simp [World.cell?_alloc_new])).mono ?_; rintro e w' ⟨rfl, rfl⟩))
  go_wp2
  go_ret
  exact ⟨ret_bool (by first | exact OL.out | (rw [← OL.out]; simp)), And.left (by assumption)⟩
end Go.Proofs.Ytbfmcdjnjnfdlaa

/- The pile's Swap. -/
import Derived.Test.YtbfmcdjnjnfdlaaTd
namespace Go.Proofs.Ytbfmcdjnjnfdlaa
open Go.RowKit

theorem only_g {w : World} {g : Nat} (j : Nat) (u : Value) : Only (· = g) w (w.setCell ⟨g, j, none⟩ u) := (Only.refl _ _).put j u
theorem store1 {w : World} {lo n g c : Nat} {ys : List Value} (h : w.ownsRow lo 42 3 (.slice (some ⟨g, 0, none⟩) n c) n ys) (j : Nat) (u : Value) : (w.setCell ⟨g, j, none⟩ u).ownsRow lo 42 3 (.slice (some ⟨g, 0, none⟩) n c) n (ys.set j u) := (h.stored j u).1
/-- A timer is stored in its three cells. -/
theorem store3 {w : World} {lo n g c : Nat} {xs : List Tm} (h : w.ownsRow lo 42 3 (.slice (some ⟨g, 0, none⟩) n c) n (flatT xs)) (k : Nat) (hk : k < xs.length) (t : Tm) :
    (((w.setCell ⟨g, k * 3, none⟩ (.int .i64 t.at_)).setCell ⟨g, k * 3 + 1, none⟩ (.int .i64 t.no)).setCell ⟨g, k * 3 + 2, none⟩ (.int .i64 t.who)).ownsRow lo 42 3 (.slice (some ⟨g, 0, none⟩) n c) n (flatT (xs.set k t)) := by
  have h3 := store1 (store1 (store1 h (k * 3) (.int .i64 t.at_)) (k * 3 + 1) (.int .i64 t.no)) (k * 3 + 2) (.int .i64 t.who)
  have e : (((flatT xs).set (k * 3) (.int .i64 t.at_)).set (k * 3 + 1) (.int .i64 t.no)).set (k * 3 + 2) (.int .i64 t.who) = flatT (xs.set k t) := by
    have fs := fun (l : List Tm) (s t : Tm) (v : Value) (j : Nat) (h1 : l[k]? = some s) (h2 : j < 3) (h3 : tmV t = (tmV s).set j v) => flat_set tmV 3 (fun _ => rfl) l k s t v j h1 h2 h3
    have g0 := gt_some hk
    unfold flatT
    have e1 := fs xs (gt xs k) ⟨t.at_, (gt xs k).no, (gt xs k).who⟩ (.int .i64 t.at_) 0 g0 (by omega) rfl
    have e2 := fs (xs.set k ⟨t.at_, (gt xs k).no, (gt xs k).who⟩) ⟨t.at_, (gt xs k).no, (gt xs k).who⟩ ⟨t.at_, t.no, (gt xs k).who⟩ (.int .i64 t.no) 1 (by rw [List.getElem?_set_self hk]) (by omega) rfl
    have e3 := fs ((xs.set k ⟨t.at_, (gt xs k).no, (gt xs k).who⟩).set k ⟨t.at_, t.no, (gt xs k).who⟩) ⟨t.at_, t.no, (gt xs k).who⟩ t (.int .i64 t.who) 2 (by rw [List.getElem?_set_self (by simpa using hk)]) (by omega) rfl
    rw [show k * 3 = k * 3 + 0 from rfl, e1, e2, e3, List.set_set, List.set_set]
  rwa [e] at h3
theorem store3_only (w : World) (g k : Nat) (t : Tm) : Only (· = g) w (((w.setCell ⟨g, k * 3, none⟩ (.int .i64 t.at_)).setCell ⟨g, k * 3 + 1, none⟩ (.int .i64 t.no)).setCell ⟨g, k * 3 + 2, none⟩ (.int .i64 t.who)) := (((Only.refl _ _).put _ _).put _ _).put _ _

/-- What a Swap leaves. -/
def SwapPost (w : World) (lo : Nat) (v : Value) (n : Nat) (ys : List Tm) (e : Ending) (w' : World) : Prop :=
  e = .returned (.tuple #[]) ∧ w'.ownsRow lo 42 3 v n (flatT ys) ∧ Only (fun k => v.ownBlock = some k) w w'
theorem swap_post {w : World} {lo n g c : Nat} {xs : List Tm} (h : w.ownsRow lo 42 3 (.slice (some ⟨g, 0, none⟩) n c) n (flatT xs)) (i j : Nat) (hi : i < xs.length) (hj : j < xs.length) {a b : Tm} (ha : gt xs i = a) (hb : gt xs j = b) :
    SwapPost w lo (.slice (some ⟨g, 0, none⟩) n c) n (swapL xs i j) (.returned (.tuple #[])) ((((((w.setCell ⟨g, i * 3, none⟩ (.int .i64 b.at_)).setCell ⟨g, i * 3 + 1, none⟩ (.int .i64 b.no)).setCell ⟨g, i * 3 + 2, none⟩ (.int .i64 b.who)).setCell
      ⟨g, j * 3, none⟩ (.int .i64 a.at_)).setCell ⟨g, j * 3 + 1, none⟩ (.int .i64 a.no)).setCell ⟨g, j * 3 + 2, none⟩ (.int .i64 a.who)).drew := by
  subst ha hb
  refine ⟨rfl, ?_, ?_⟩
  · exact (store3 (store3 h i hi (gt xs j)) j (by simpa using hj) (gt xs i)).drew
  · have o := ((store3_only w g i (gt xs j)).trans (store3_only _ g j (gt xs i))).drewN 1
    exact o.mono fun k _ e => by simp [Value.ownBlock, e]

set_option maxHeartbeats 2000000 in
set_option maxRecDepth 100000 in
theorem c_swap_ne {w : World} {lo n g c : Nat} {xs : List Tm} (h : w.ownsRow lo 42 3 (.slice (some ⟨g, 0, none⟩) n c) n (flatT xs)) (_hf : xs.length ≤ 2000) (_hcm : c ≤ maxLen) (i j : Nat) (hi : i < xs.length) (hj : j < xs.length) (hne : i ≠ j) :
    Calls Try.prog 57 #[.slice (some ⟨g, 0, none⟩) n c, .int .i64 i, .int .i64 j] w (SwapPost w lo (.slice (some ⟨g, 0, none⟩) n c) n (swapL xs i j)) := by
  have hn := row_len h
  have hP := fun a b => Lib.hid (swap_post h i j hi hj (a := a) (b := b))
  subst hn
  have hI := row_cells h i hi
  have hJ := row_cells h j hj
  have fz := fun k => h.frozenAt k
  have f0 := fz (i * 3)
  have f1 := fz (i * 3 + 1)
  have f2 := fz (i * 3 + 2)
  have k0 := fz (j * 3)
  have k1 := fz (j * 3 + 1)
  have k2 := fz (j * 3 + 2)
  have HP := Lib.hid ((hP _ _).out rfl rfl)
  generalize gt xs i = a at *
  generalize gt xs j = b at *
  obtain ⟨i0, i1, i2⟩ := hI
  obtain ⟨j0, j1, j2⟩ := hJ
  generalize swapL xs i j = ys at *
  generalize xs.length = n at *
  clear h fz hP
  go_enter Try.func57, Try.ntmps57
  go_wp2_with fail
  go_region
  all_goals
    go_wp2_with fail
    go_end0
    exact HP.out

set_option maxHeartbeats 2000000 in
set_option maxRecDepth 100000 in
theorem c_swap_eq {w : World} {lo n g c : Nat} {xs : List Tm} (h : w.ownsRow lo 42 3 (.slice (some ⟨g, 0, none⟩) n c) n (flatT xs)) (_hf : xs.length ≤ 2000) (_hcm : c ≤ maxLen) (i : Nat) (hi : i < xs.length) :
    Calls Try.prog 57 #[.slice (some ⟨g, 0, none⟩) n c, .int .i64 i, .int .i64 i] w (SwapPost w lo (.slice (some ⟨g, 0, none⟩) n c) n (swapL xs i i)) := by
  have hn := row_len h
  have hP := fun a b => Lib.hid (swap_post h i i hi hi (a := a) (b := b))
  subst hn
  have hI := row_cells h i hi
  have fz := fun k => h.frozenAt k
  have f0 := fz (i * 3)
  have f1 := fz (i * 3 + 1)
  have f2 := fz (i * 3 + 2)
  have HP := Lib.hid ((hP _ _).out rfl rfl)
  generalize gt xs i = a at *
  obtain ⟨i0, i1, i2⟩ := hI
  generalize swapL xs i i = ys at *
  generalize xs.length = n at *
  clear h fz hP
  go_enter Try.func57, Try.ntmps57
  go_wp2_with fail
  go_region
  all_goals
    go_wp2_with fail
    go_end0
    exact HP.out

theorem c_swap {w : World} {lo n : Nat} {v : Value} {xs : List Tm} (h : w.ownsRow lo 42 3 v n (flatT xs)) (hf : xs.length ≤ 2000) (i j : Nat) (hi : i < xs.length) (hj : j < xs.length) :
    Calls Try.prog 57 #[v, .int .i64 i, .int .i64 j] w (SwapPost w lo v n (swapL xs i j)) := by
  have hn := row_len h
  obtain ⟨g, c, rfl, hnc, hcm, hlo, hg⟩ := row_form h (by omega)
  by_cases hne : i = j
  · subst hne
    exact c_swap_eq h hf hcm i hi
  · exact c_swap_ne h hf hcm i j hi hj hne
end Go.Proofs.Ytbfmcdjnjnfdlaa

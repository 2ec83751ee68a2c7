/- The order of events, and lists of them in order: plain maths. -/
import Derived.Test.YtajbpplklmhfmaaDoorEva
import Derived.Shelf.SlSortCmp.NoneTotal
namespace Go.Proofs.YtajbpplklmhfmaaDoor
open Go.Sort Go.Shelf Go.Lib

def cmp1 (x y : Int) : Int := Lib.compareInt x y
/-- The first of some numbers that is not 0. -/
def orL : List Int → Int
  | [] => 0
  | x :: r => if x = 0 then orL r else x
def evCmp (a b : EV) : Int := orL [cmp1 a.k b.k, cmp1 a.o b.o, cmp1 a.h b.h, cmp1 a.n b.n]
def evLt (a b : EV) : Prop := a.k < b.k ∨ (a.k = b.k ∧ (a.o < b.o ∨ (a.o = b.o ∧ (a.h < b.h ∨ (a.h = b.h ∧ a.n < b.n)))))
instance (a b : EV) : Decidable (evLt a b) := by unfold evLt; infer_instance
def evLess (a b : EV) : Bool := decide (evLt a b)
theorem or_step (x y : Int) (r : List Int) : orL (cmp1 x y :: r) < 0 ↔ (x < y ∨ (x = y ∧ orL r < 0)) := by
  show (if cmp1 x y = 0 then orL r else cmp1 x y) < 0 ↔ _
  unfold cmp1 Lib.compareInt
  by_cases h1 : x < y
  · simp [h1]
  · by_cases h2 : x > y
    · simp [h1, h2]
      omega
    · have : x = y := by omega
      simp [this]
theorem evCmp_lt (a b : EV) : evCmp a b < 0 ↔ evLt a b := by
  unfold evCmp evLt
  rw [or_step, or_step, or_step, or_step]
  have : ¬ orL [] < 0 := by decide
  simp only [this, and_false, or_false]
theorem ev_lt (a b : EV) : ltOf evCmp a b = evLess a b := by
  unfold ltOf evLess
  rw [decide_eq_decide]
  exact evCmp_lt a b
theorem ev_ltf : ltOf evCmp = evLess := by
  funext a b
  exact ev_lt a b
theorem less_f {a b : EV} : evLess a b = false ↔ ¬ evLt a b := decide_eq_false_iff_not
theorem less_t {a b : EV} : evLess a b = true ↔ evLt a b := decide_eq_true_iff
theorem ev_irrefl (a : EV) : ¬ evLt a a := by unfold evLt; omega
theorem ev_trans {a b c : EV} (h : evLt a b) (k : evLt b c) : evLt a c := by unfold evLt at *; omega
theorem ev_ntrans {a b c : EV} (h : ¬ evLt a b) (k : ¬ evLt b c) : ¬ evLt a c := by unfold evLt at *; omega
theorem ev_total {a b : EV} (h : ¬ evLt a b) (k : ¬ evLt b a) : a = b := by
  unfold evLt at h k
  exact ev_ext (by omega) (by omega) (by omega) (by omega)
theorem ev_asymm {a b : EV} (h : evLt a b) : ¬ evLt b a := fun k => ev_irrefl a (ev_trans h k)
theorem ev_swo : SWO (ltOf evCmp) where
  irrefl x := by rw [ev_lt, less_f]; exact ev_irrefl x
  trans x y z h1 h2 := by rw [ev_lt, less_t] at *; exact ev_trans h1 h2
  ntrans x y z h1 h2 := by rw [ev_lt, less_f] at *; exact ev_ntrans h1 h2
theorem ev_anti (x y : EV) (h1 : ltOf evCmp x y = false) (h2 : ltOf evCmp y x = false) : x = y := by
  rw [ev_lt, less_f] at h1 h2
  exact ev_total h1 h2

/- A list in order: each put ahead of the first one that it stands ahead of. -/
def evIns (x : EV) (l : List EV) : List EV := l.takeWhile (fun y => !evLess x y) ++ x :: l.dropWhile (fun y => !evLess x y)
def evSort (l : List EV) : List EV := l.foldl (fun acc x => evIns x acc) []
theorem evIns_len (x : EV) (l : List EV) : (evIns x l).length = l.length + 1 := by
  have := congrArg List.length (List.takeWhile_append_dropWhile (p := fun y => !evLess x y) (l := l))
  unfold evIns
  rw [List.length_append] at this
  rw [List.length_append, List.length_cons]
  omega
theorem evIns_perm (x : EV) (l : List EV) : (evIns x l).Perm (x :: l) := by
  unfold evIns
  refine List.perm_middle.trans ?_
  rw [List.takeWhile_append_dropWhile]
def EvSorted (l : List EV) : Prop := l.Pairwise (fun a b => ¬ evLt b a)
theorem drop_head (x : EV) : ∀ (l : List EV), EvSorted l → ∀ y ∈ l.dropWhile (fun y => !evLess x y), evLt x y
  | [], _, y, hy => by cases hy
  | a :: l, h, y, hy => by
    rw [List.dropWhile_cons] at hy
    have h' := List.pairwise_cons.1 h
    cases ha : evLess x a
    · rw [ha, Bool.not_false, if_pos rfl] at hy
      exact drop_head x l h'.2 y hy
    · rw [ha, Bool.not_true, if_neg (by decide)] at hy
      rw [less_t] at ha
      rcases List.mem_cons.1 hy with rfl | hy
      · exact ha
      · have h1 := h'.1 y hy
        have h2 := ev_asymm ha
        by_cases h3 : evLt x y
        · exact h3
        · exact absurd ha (ev_ntrans h3 h1)
theorem evIns_sorted (x : EV) (l : List EV) (h : EvSorted l) : EvSorted (evIns x l) := by
  have e := List.takeWhile_append_dropWhile (p := fun y => !evLess x y) (l := l)
  have hd := drop_head x l h
  have ht : ∀ y ∈ l.takeWhile (fun y => !evLess x y), ¬ evLt x y := fun y hy => by
    have := List.all_eq_true.1 (List.all_takeWhile (l := l) (p := fun y => !evLess x y)) y hy
    rw [Bool.not_eq_true', less_f] at this
    exact this
  unfold EvSorted at h ⊢
  rw [← e, List.pairwise_append] at h
  unfold evIns
  rw [List.pairwise_append, List.pairwise_cons]
  refine ⟨h.1, ⟨fun y hy => ev_asymm (hd y hy), h.2.1⟩, fun a ha b hb => ?_⟩
  rcases List.mem_cons.1 hb with rfl | hb
  · exact ht a ha
  · exact h.2.2 a ha b hb
theorem evSort_go : ∀ (l acc : List EV), EvSorted acc → EvSorted (l.foldl (fun acc x => evIns x acc) acc) ∧ (l.foldl (fun acc x => evIns x acc) acc).Perm (l ++ acc)
  | [], acc, h => ⟨h, List.Perm.refl _⟩
  | x :: l, acc, h => by
    obtain ⟨h1, h2⟩ := evSort_go l (evIns x acc) (evIns_sorted x acc h)
    refine ⟨h1, h2.trans ?_⟩
    exact ((evIns_perm x acc).append_left l).trans List.perm_middle
theorem evSort_sorted (l : List EV) : EvSorted (evSort l) := (evSort_go l [] List.Pairwise.nil).1
theorem evSort_perm (l : List EV) : (evSort l).Perm l := by
  have := (evSort_go l [] List.Pairwise.nil).2
  rwa [List.append_nil] at this
theorem evSort_len (l : List EV) : (evSort l).length = l.length := (evSort_perm l).length_eq
/-- There is but one list in order: the library's is that one. -/
theorem merge_sort (l : List EV) : l.mergeSort (fun x y => !(ltOf evCmp) y x) = evSort l := by
  rw [ev_ltf]
  refine List.Perm.eq_of_pairwise (le := fun x y => ¬ evLt y x) ?_ ?_ (evSort_sorted l) ((List.mergeSort_perm _ _).trans (evSort_perm l).symm)
  · intro a b _ _ h1 h2
    exact ev_total h2 h1
  · refine (List.pairwise_mergeSort (le := fun x y => !evLess y x) ?_ ?_ l).imp ?_
    · intro a b c h1 h2
      rw [Bool.not_eq_true', less_f] at *
      exact ev_ntrans h2 h1
    · intro a b
      cases h : evLess b a
      · simp
      · rw [less_t] at h
        simp [less_f.2 (ev_asymm h)]
    · intro a b h
      rwa [Bool.not_eq_true', less_f] at h
theorem evSort_snoc (l : List EV) (x : EV) : evSort (l ++ [x]) = evIns x (evSort l) := by
  unfold evSort
  rw [List.foldl_append]
  rfl
end Go.Proofs.YtajbpplklmhfmaaDoor

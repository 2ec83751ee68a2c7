/- Timers as plain data; where the document puts a new one (as s06/XTa, XTb, XTc have it: one or the other in a seat). -/
import Derived.Test.YtdiiilnebepfdaaGreatDoorA1
namespace Go.Proofs.YtdiiilnebepfdaaGreatDoor

/-- A timer: its instant, its number, who waits. -/
structure Tm where
  at_ : Int
  no : Int
  who : Int
def Tm.zero : Tm := ⟨0, 0, 0⟩

/-- How many of those ahead are due no later than a: where the document puts a new one. -/
def ixI (a : Int) : List Tm → Nat
  | [] => 0
  | x :: l => if x.at_ ≤ a then ixI a l + 1 else 0
theorem ixI_le (a : Int) : ∀ l, ixI a l ≤ l.length
  | [] => Nat.le_refl _
  | x :: l => by unfold ixI; split; exact Nat.succ_le_succ (ixI_le a l); exact Nat.zero_le _
theorem ixI_lt {a : Int} : ∀ {l : List Tm} {k : Nat} {t : Tm}, k < ixI a l → l[k]? = some t → t.at_ ≤ a
  | x :: l, 0, t, h, e => by
    obtain rfl : x = t := by simpa using e
    unfold ixI at h
    split at h
    · assumption
    · omega
  | x :: l, k + 1, t, h, e => by
    unfold ixI at h
    split at h
    · exact ixI_lt (l := l) (k := k) (by omega) (by simpa using e)
    · omega
theorem ixI_at {a : Int} : ∀ {l : List Tm} {t : Tm}, l[ixI a l]? = some t → a < t.at_
  | x :: l, t, e => by
    unfold ixI at e
    split at e
    · exact ixI_at (l := l) (by simpa using e)
    · obtain rfl : x = t := by simpa using e
      omega
def insT (L : List Tm) (t : Tm) : List Tm := L.take (ixI t.at_ L) ++ t :: L.drop (ixI t.at_ L)
theorem insT_len (L : List Tm) (t : Tm) : (insT L t).length = L.length + 1 := by
  have := ixI_le t.at_ L
  simp [insT]
  omega
theorem insT_perm (L : List Tm) (t : Tm) : (insT L t).Perm (t :: L) := by
  unfold insT
  have h := List.perm_middle (a := t) (l₁ := L.take (ixI t.at_ L)) (l₂ := L.drop (ixI t.at_ L))
  rwa [List.take_append_drop] at h
def tmV (t : Tm) : List Value := [.int .i64 t.at_, .int .i64 t.no, .int .i64 t.who]
def flatT (xs : List Tm) : List Value := xs.flatMap tmV
theorem flatT_len (xs : List Tm) : (flatT xs).length = xs.length * 3 := by
  unfold flatT
  induction xs with
  | nil => rfl
  | cons s τ ih => rw [List.flatMap_cons, List.length_append, ih]; simp [tmV]; omega
theorem flatT_get {xs : List Tm} {k : Nat} {t : Tm} (h : xs[k]? = some t) (j : Nat) (hj : j < 3) : (flatT xs)[k * 3 + j]? = (tmV t)[j]? := flat_get tmV 3 (fun _ => rfl) xs k j t h hj

theorem flat_cells (xs : List Tm) : ∀ u ∈ flatT xs, u.oneCell' = true := by
  intro u hu
  obtain ⟨t, _, ht⟩ := List.mem_flatMap.1 hu
  simp only [tmV, List.mem_cons, List.not_mem_nil, or_false] at ht
  rcases ht with rfl | rfl | rfl <;> rfl
end Go.Proofs.YtdiiilnebepfdaaGreatDoor

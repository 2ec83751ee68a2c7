/- A table of package arena in memory, and the contracts of its small functions. -/
import Derived.Test.YtdlbcacdbcnbhaaRows
import Derived.Test.YtdlbcacdbcnbhaaM
import Derived.Test.YtdlbcacdbcnbhaaAm
import Derived.Test.YtdlbcacdbcnbhaaHc
import Derived.WalkKit
import Derived.WalkSpells
import Derived.WalkLawsBesides
import Derived.BigQuiet
import Derived.Deep.QuietTactic
import Derived.Outline
import Derived.LoopTactic
import Derived.Deep.RegionHeld3
namespace Go.Proofs.Ytdlbcacdbcnbhaa
open Go.RowKit

def ptrV (o : Option (Nat × Int)) : Value := match o with | none => .pointer none | some (b, _) => .pointer (some ⟨b, 0, none⟩)
def slotV (s : Slot) : List Value := [.int .i64 s.1, ptrV s.2]
theorem slots_len (τ : List Slot) : (τ.flatMap slotV).length = τ.length * 2 := by
  induction τ with
  | nil => rfl
  | cons s τ ih => rw [List.flatMap_cons, List.length_append, ih]; simp [slotV]; omega
theorem flat2_get {α β : Type} (f : α → List β) (hf : ∀ a, (f a).length = 2) : ∀ (l : List α) (k j : Nat) (s : α), l[k]? = some s → j < 2 → (l.flatMap f)[k * 2 + j]? = (f s)[j]?
  | [], k, j, s, h, _ => by simp at h
  | a :: l, 0, j, s, h, hj => by
    obtain rfl : a = s := by simpa using h
    rw [List.flatMap_cons, List.getElem?_append_left (by rw [hf]; omega), Nat.zero_mul, Nat.zero_add]
  | a :: l, k + 1, j, s, h, hj => by
    rw [List.flatMap_cons, List.getElem?_append_right (by rw [hf]; omega), hf, show (k + 1) * 2 + j - 2 = k * 2 + j by omega]
    exact flat2_get f hf l k j s (by simpa using h) hj
theorem flat2_set {α β : Type} (f : α → List β) (hf : ∀ a, (f a).length = 2) : ∀ (l : List α) (k : Nat) (s t : α) (v : β) (j : Nat), l[k]? = some s → j < 2 → f t = (f s).set j v → (l.flatMap f).set (k * 2 + j) v = (l.set k t).flatMap f
  | [], k, s, t, v, j, h, _, _ => by simp at h
  | a :: l, 0, s, t, v, j, h, hj, e => by
    obtain rfl : a = s := by simpa using h
    rw [List.flatMap_cons, List.set_cons_zero, List.flatMap_cons, e, Nat.zero_mul, Nat.zero_add, List.set_append_left _ _ (by rw [hf]; omega)]
  | a :: l, k + 1, s, t, v, j, h, hj, e => by
    rw [List.flatMap_cons, List.set_cons_succ, List.flatMap_cons, List.set_append_right _ _ (by rw [hf]; omega), hf, show (k + 1) * 2 + j - 2 = k * 2 + j by omega]
    rw [flat2_set f hf l k s t v j (by simpa using h) hj e]
theorem slotV_len (s : Slot) : (slotV s).length = 2 := rfl

/-- The table at block t, with its slots in block S. -/
structure AT (w : World) (t S : Nat) (last : Int) (τ : List Slot) : Prop where
  tab : Blk w t [.slice (some ⟨S, 0, none⟩) τ.length τ.length, .int .i64 last] 51
  row : Blk w S (τ.flatMap slotV) 60
  one : ∀ s ∈ τ, ∀ b x, s.2 = some (b, x) → Blk w b [.int .i64 x] 3
  pos : 0 < τ.length
  few : τ.length ≤ 4096
theorem AT.tS {w : World} {t S : Nat} {last : Int} {τ : List Slot} (h : AT w t S last τ) : t ≠ S := h.tab.ne h.row (by decide)
theorem AT.only {s : Nat → Prop} {w w' : World} {t S : Nat} {last : Int} {τ : List Slot} (h : AT w t S last τ) (o : Only s w w') (hs : ∀ k, k < w.heap.size → ¬ s k) : AT w' t S last τ :=
  ⟨h.tab.only o (hs _ h.tab.lt), h.row.only o (hs _ h.row.lt), fun s hs' b x e => (h.one s hs' b x e).only o (hs _ (h.one s hs' b x e).lt), h.pos, h.few⟩
theorem AT.below {w w' : World} {t S : Nat} {last : Int} {τ : List Slot} (h : AT w t S last τ) (o : Below w.heap.size w w') : AT w' t S last τ := h.only (s := fun _ => False) (Only.of_below o) fun _ _ k => k
theorem AT.c0 {w : World} {t S : Nat} {last : Int} {τ : List Slot} (h : AT w t S last τ) : w.cell? ⟨t, 0, none⟩ = some (.slice (some ⟨S, 0, none⟩) τ.length τ.length) := h.tab.cell 0 _ rfl
theorem AT.c1 {w : World} {t S : Nat} {last : Int} {τ : List Slot} (h : AT w t S last τ) : w.cell? ⟨t, 1, none⟩ = some (.int .i64 last) := h.tab.cell 1 _ rfl
theorem AT.g {w : World} {t S : Nat} {last : Int} {τ : List Slot} (h : AT w t S last τ) (k : Nat) (s : Slot) (hk : τ[k]? = some s) : w.cell? ⟨S, k * 2, none⟩ = some (.int .i64 s.1) := by
  rw [h.row.cell', show k * 2 = k * 2 + 0 from rfl, flat2_get slotV slotV_len τ k 0 s hk (by omega)]
  rfl
theorem AT.p {w : World} {t S : Nat} {last : Int} {τ : List Slot} (h : AT w t S last τ) (k : Nat) (s : Slot) (hk : τ[k]? = some s) : w.cell? ⟨S, k * 2 + 1, none⟩ = some (ptrV s.2) := by
  rw [h.row.cell', flat2_get slotV slotV_len τ k 1 s hk (by omega)]
  rfl

set_option maxHeartbeats 400000 in
theorem c_nob {w : World} {t S : Nat} {last : Int} {τ : List Slot} (h : AT w t S last τ) :
    Calls Try.prog 22 #[.pointer (some ⟨t, 0, none⟩)] w fun e w' => e = .returned (.bool false) ∧ w = w' := by
  have hc := h.c0
  have hp := h.pos
  have hf := h.few
  have hz : ((τ.length : Int) == 0) = false := beq_eq_false_iff_ne.2 (by omega)
  clear h
  go_enter Try.func22, Try.ntmps22
  go_wp2
  go_ret
  exact ⟨ret_bool (by first | rfl | assumption), rfl⟩

set_option maxHeartbeats 400000 in
theorem c_taken {w : World} {B o : Nat} {q : Option (Nat × Int)} (hc : w.cell? ⟨B, o + 1, none⟩ = some (ptrV q)) :
    Calls Try.prog 31 #[.pointer (some ⟨B, o, none⟩)] w fun e w' => e = .returned (.bool q.isSome) ∧ w = w' := by
  rcases q with _ | ⟨b, x⟩
  · simp only [ptrV] at hc
    go_enter Try.func31, Try.ntmps31
    go_wp2
    go_ret
    exact ⟨rfl, rfl⟩
  · simp only [ptrV] at hc
    go_enter Try.func31, Try.ntmps31
    go_wp2
    go_ret
    exact ⟨rfl, rfl⟩

set_option maxHeartbeats 400000 in
theorem c_free {w : World} {B o : Nat} {g last : Int} {q : Option (Nat × Int)} (hg : w.cell? ⟨B, o, none⟩ = some (.int .i64 g)) (hc : w.cell? ⟨B, o + 1, none⟩ = some (ptrV q)) :
    Calls Try.prog 23 #[.pointer (some ⟨B, o, none⟩), .int .i64 last] w fun e w' => e = .returned (.bool (isFree last (g, q))) ∧ w = w' := by
  rcases q with _ | ⟨b, x⟩
  · have HC := Lib.hid hc
    clear hc
    go_enter Try.func23, Try.ntmps23
    go_wp2_with (go_at_call 31; refine (c_taken HC.out).mono ?_; rintro e w' ⟨rfl, rfl⟩)
    go_ret
    exact ⟨ret_bool (by simp [isFree]), rfl⟩
  · have HC := Lib.hid hc
    clear hc
    go_enter Try.func23, Try.ntmps23
    go_wp2_with (go_at_call 31; refine (c_taken HC.out).mono ?_; rintro e w' ⟨rfl, rfl⟩)
    go_ret
    exact ⟨ret_bool (by simp [isFree]), rfl⟩
end Go.Proofs.Ytdlbcacdbcnbhaa

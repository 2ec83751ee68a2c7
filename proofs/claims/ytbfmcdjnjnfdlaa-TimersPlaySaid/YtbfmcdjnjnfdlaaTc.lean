/- A pile of timers in memory, behind a pointer, and its methods as the heap's interface calls them. -/
import Derived.Test.YtbfmcdjnjnfdlaaRows
import Derived.Test.YtbfmcdjnjnfdlaaTa
import Derived.Test.YtbfmcdjnjnfdlaaNd
import Derived.WalkKit
import Derived.WalkSpells
import Derived.WalkLawsBesides
import Derived.BigQuiet
import Derived.BigRegion
import Derived.Deep.QuietTactic
import Derived.Outline
import Derived.LoopTactic
import Derived.Deep.RegionHeld3
namespace Go.Proofs.Ytbfmcdjnjnfdlaa
open Go.RowKit

def tmV (t : Tm) : List Value := [.int .i64 t.at_, .int .i64 t.no, .int .i64 t.who]
def flatT (xs : List Tm) : List Value := xs.flatMap tmV
theorem flatT_len (xs : List Tm) : (flatT xs).length = xs.length * 3 := by
  unfold flatT
  induction xs with
  | nil => rfl
  | cons s τ ih => rw [List.flatMap_cons, List.length_append, ih]; simp [tmV]; omega
theorem flatT_get {xs : List Tm} {k : Nat} {t : Tm} (h : xs[k]? = some t) (j : Nat) (hj : j < 3) : (flatT xs)[k * 3 + j]? = (tmV t)[j]? := flat_get tmV 3 (fun _ => rfl) xs k j t h hj

/-- The pile's slice stands at place o of block q, which holds cs beside it; its timers are xs. -/
structure PW (w : World) (q o : Nat) (cs : List Value) (tq : TypeId) (lo : Nat) (v : Value) (xs : List Tm) : Prop where
  box : Blk w q (cs.set o v) tq
  lt : o < cs.length
  row : w.ownsRow lo 42 3 v xs.length (flatT xs)
  ne : tq ≠ 42
  few : xs.length ≤ 2000

theorem PW.cell {w : World} {q o : Nat} {cs : List Value} {tq : TypeId} {lo : Nat} {v : Value} {xs : List Tm} (h : PW w q o cs tq lo v xs) : w.cell? ⟨q, o, none⟩ = some v :=
  h.box.cell o v (by simp [h.lt])
theorem PW.free {w : World} {q o : Nat} {cs : List Value} {tq : TypeId} {lo : Nat} {v : Value} {xs : List Tm} (h : PW w q o cs tq lo v xs) : w.frozen? ⟨q, o, none⟩ = false := h.box.free o
theorem PW.qlt {w : World} {q o : Nat} {cs : List Value} {tq : TypeId} {lo : Nat} {v : Value} {xs : List Tm} (h : PW w q o cs tq lo v xs) : q < w.heap.size := h.box.lt
theorem PW.qg {w : World} {q o : Nat} {cs : List Value} {tq : TypeId} {lo : Nat} {v : Value} {xs : List Tm} (h : PW w q o cs tq lo v xs) : ∀ g, v.ownBlock = some g → q ≠ g := fun g hg => by
  obtain ⟨_, ds, hd⟩ := own_blk h.row g hg
  exact h.box.ne hd h.ne

theorem ei_T : EI Try.prog 61 42 (.agg #[.int .i64 0, .int .i64 0, .int .i64 0]) 3 24 where
  under := by kernel_rfl
  info := by kernel_rfl
  cells := rfl
  pos := by decide
  few := by decide

/-! How the interface finds the methods. -/
theorem m_len0 (a : Addr) (w : World) : (method 203 67 (.pointer (some a)) "Len").run Try.prog w = (load a >>= fun v => pure ((27 : FuncId), v) : Sem (FuncId × Value)).run Try.prog w := by kernel_rfl
theorem m_less0 (a : Addr) (w : World) : (method 203 67 (.pointer (some a)) "Less").run Try.prog w = (load a >>= fun v => pure ((56 : FuncId), v) : Sem (FuncId × Value)).run Try.prog w := by kernel_rfl
theorem m_swap0 (a : Addr) (w : World) : (method 203 67 (.pointer (some a)) "Swap").run Try.prog w = (load a >>= fun v => pure ((57 : FuncId), v) : Sem (FuncId × Value)).run Try.prog w := by kernel_rfl
theorem m_push (a : Addr) (w : World) : (method 203 67 (.pointer (some a)) "Push").run Try.prog w = .ok (62, .pointer (some a)) w := by kernel_rfl
theorem m_pop (a : Addr) (w : World) : (method 203 67 (.pointer (some a)) "Pop").run Try.prog w = .ok (61, .pointer (some a)) w := by kernel_rfl
theorem m_len {w : World} {a : Addr} {v : Value} (h : w.cell? a = some v) : (method 203 67 (.pointer (some a)) "Len").run Try.prog w = .ok (27, v) w := by
  rw [m_len0]; simp [h]
theorem m_less {w : World} {a : Addr} {v : Value} (h : w.cell? a = some v) : (method 203 67 (.pointer (some a)) "Less").run Try.prog w = .ok (56, v) w := by
  rw [m_less0]; simp [h]
theorem m_swap {w : World} {a : Addr} {v : Value} (h : w.cell? a = some v) : (method 203 67 (.pointer (some a)) "Swap").run Try.prog w = .ok (57, v) w := by
  rw [m_swap0]; simp [h]

theorem c_len (A : Option Addr) (n c : Nat) (w : World) : Calls Try.prog 27 #[.slice A n c] w fun e w' => e = .returned (.int .i64 n) ∧ w = w' := by
  go_enter Try.func27, Try.ntmps27
  go_wp2
  go_ret
  exact ⟨rfl, rfl⟩

/-- What cmp.Compare says of two numbers. -/
def cmpI (a b : Int) : Int := if a < b then -1 else if b < a then 1 else 0
theorem c_nan (x : Int) (w : World) : Calls Try.prog 60 #[.int .i64 x] w fun e w' => e = .returned (.bool false) ∧ w = w' := by
  have h : (x != x) = false := by simp
  go_enter Try.func60, Try.ntmps60
  go_wp2
  go_ret
  exact ⟨ret_bool (by first | rfl | exact h), rfl⟩
set_option maxHeartbeats 400000 in
theorem c_cmp (a b : Int) (w : World) : Calls Try.prog 59 #[.int .i64 a, .int .i64 b] w fun e w' => e = .returned (.int .i64 (cmpI a b)) ∧ w = w' := by
  go_enter Try.func59, Try.ntmps59
  go_wp2_with (go_at_call 60; refine (c_nan _ _).mono ?_; rintro e w' ⟨rfl, rfl⟩)
  all_goals
    go_ret
    exact ⟨ret_int (by unfold cmpI; repeat (split at *); all_goals omega), rfl⟩

/-- What cmp.Or says of two numbers. -/
def orI (a b : Int) : Int := if a = 0 then b else a
set_option maxHeartbeats 400000 in
theorem c_or {w : World} {g : Nat} {a b : Int} (h0 : w.cell? ⟨g, 0, none⟩ = some (.int .i64 a)) (h1 : w.cell? ⟨g, 1, none⟩ = some (.int .i64 b)) :
    Calls Try.prog 58 #[.slice (some ⟨g, 0, none⟩) 2 2] w fun e w' => e = .returned (.int .i64 (orI a b)) ∧ w = w' := by
  have H0 := Lib.hid h0
  have H1 := Lib.hid h1
  clear h0 h1
  go_enter Try.func58, Try.ntmps58
  go_wp2
  go_loop [8] (fun i => ∃ k : Nat, k ≤ 2 ∧ i = .int .i64 k ∧ (0 < k → a = 0) ∧ (1 < k → b = 0)) (fun i => 2 - (intOf i).toNat)
  case atStart => exact ⟨0, by omega, rfl, by omega, by omega⟩
  case round =>
    obtain ⟨k, hk, rfl, ha, hb⟩ := hrel
    rcases (show k = 0 ∨ k = 1 ∨ k = 2 by omega) with rfl | rfl | rfl
    · clear ha hb
      have h0 := H0.out
      by_cases hz : a = 0
      · have ht : (a != 0) = false := by simp [hz]
        have HZ := Lib.hid hz
        clear hz
        go_wp2
        go_round
        case rel => exact ⟨1, by omega, by go_num, fun _ => HZ.out, by omega⟩
        case measure => simp [intOf]
      · have ht : (a != 0) = true := by simp [hz]
        go_wp2
        go_ret
        exact ⟨ret_int (by simp [orI, hz]), rfl⟩
    · have HA := Lib.hid (ha (by omega))
      clear ha hb
      have h1 := H1.out
      by_cases hz : b = 0
      · have ht : (b != 0) = false := by simp [hz]
        have HZ := Lib.hid hz
        clear hz
        go_wp2
        go_round
        case rel => exact ⟨2, by omega, by go_num, fun _ => HA.out, fun _ => HZ.out⟩
        case measure => simp [intOf]
      · have ht : (b != 0) = true := by simp [hz]
        go_wp2
        go_ret
        exact ⟨ret_int (by rw [orI, if_pos HA.out]), rfl⟩
    · have HA := Lib.hid (ha (by omega))
      have HB := Lib.hid (hb (by omega))
      clear ha hb
      go_wp2
      go_ret
      exact ⟨ret_int (by rw [orI, if_pos HA.out, HB.out]), rfl⟩
theorem cmp_lt {a b : Int} (h : a < b) : cmpI a b = -1 := by unfold cmpI; rw [if_pos h]
theorem cmp_gt {a b : Int} (h : b < a) : cmpI a b = 1 := by unfold cmpI; rw [if_neg (by omega), if_pos h]
theorem cmp_eq {a b : Int} (h : a = b) : cmpI a b = 0 := by unfold cmpI; rw [if_neg (by omega), if_neg (by omega)]
theorem or_lt (a b : Tm) : decide (orI (cmpI a.at_ b.at_) (cmpI a.no b.no) < 0) = ltB a b := by
  rw [Bool.eq_iff_iff, decide_eq_true_iff, show (ltB a b = true ↔ ltT a b) from by unfold ltB; exact decide_eq_true_iff]
  unfold ltT
  rcases Int.lt_trichotomy a.at_ b.at_ with h | h | h
  · rw [cmp_lt h]
    unfold orI
    simp [h]
  · rw [cmp_eq h]
    unfold orI
    rw [if_pos rfl]
    rcases Int.lt_trichotomy a.no b.no with k | k | k
    · rw [cmp_lt k]; constructor <;> intro _ <;> omega
    · rw [cmp_eq k]; constructor <;> intro _ <;> omega
    · rw [cmp_gt k]; constructor <;> intro _ <;> omega
  · rw [cmp_gt h]
    unfold orI
    rw [if_neg (by omega)]
    constructor <;> intro _ <;> omega
end Go.Proofs.Ytbfmcdjnjnfdlaa

/- A ring in memory; whether somebody made it; its places, its length, its room. -/
import Derived.Test.YtaokojjjihinhaaRows
import Derived.Test.YtaokojjjihinhaaGa
import Derived.Test.YtaokojjjihinhaaNe
import Derived.Test.YtaokojjjihinhaaI
import Derived.WalkKit
import Derived.WalkSpells
import Derived.WalkLawsBesides
import Derived.BigQuiet
import Derived.BigRegion
import Derived.Deep.QuietTactic
import Derived.Outline
import Derived.LoopTactic
import Derived.Deep.RegionHeld3
namespace Go.Proofs.Ytaokojjjihinhaa
open Go.RowKit

/-- The ring at block t, its store at block S, its places xs. -/
structure RW (w : World) (t S lo rm f : Nat) (v : Value) (L xs : List Int) : Prop where
  tab : Blk w t [.pointer (some ⟨S, 0, none⟩)] 53
  box : Blk w S [.int .i64 rm, .int .i64 f, .int .i64 L.length, v] 57
  row : w.ownsRow lo 3 1 v xs.length (xs.map (Value.int .i64))
  rs : RS rm f L xs
  rm : rm ≤ 1024
theorem RW.c0 {w : World} {t S lo rm f : Nat} {v : Value} {L xs : List Int} (h : RW w t S lo rm f v L xs) : w.cell? ⟨t, 0, none⟩ = some (.pointer (some ⟨S, 0, none⟩)) := h.tab.cell 0 _ rfl
theorem RW.below {w w' : World} {t S lo rm f : Nat} {v : Value} {L xs : List Int} (h : RW w t S lo rm f v L xs) (hb : Below w.heap.size w w') : RW w' t S lo rm f v L xs :=
  ⟨h.tab.up hb h.tab.lt, h.box.up hb h.box.lt, own_below h.row hb, h.rs, h.rm⟩
theorem RW.tS {w : World} {t S lo rm f : Nat} {v : Value} {L xs : List Int} (h : RW w t S lo rm f v L xs) : t ≠ S := h.tab.ne h.box (by decide)
theorem RW.Sg {w : World} {t S lo rm f : Nat} {v : Value} {L xs : List Int} (h : RW w t S lo rm f v L xs) : ∀ g, v.ownBlock = some g → S ≠ g := fun g hg => by
  obtain ⟨_, ds, hd⟩ := own_blk h.row g hg
  exact h.box.ne hd (by decide)
theorem RW.tg {w : World} {t S lo rm f : Nat} {v : Value} {L xs : List Int} (h : RW w t S lo rm f v L xs) : ∀ g, v.ownBlock = some g → t ≠ g := fun g hg => by
  obtain ⟨_, ds, hd⟩ := own_blk h.row g hg
  exact h.tab.ne hd (by decide)

theorem c_nob {w : World} {t : Nat} {p : Addr} (hc : w.cell? ⟨t, 0, none⟩ = some (.pointer (some p))) :
    Calls Try.prog 20 #[.pointer (some ⟨t, 0, none⟩)] w fun e w' => e = .returned (.bool false) ∧ w = w' := by
  go_enter Try.func20, Try.ntmps20
  go_wp2
  go_ret
  exact ⟨rfl, rfl⟩
theorem c_nob_nil (w : World) : Calls Try.prog 20 #[.pointer none] w fun e w' => e = .returned (.bool true) ∧ w = w' := by
  go_enter Try.func20, Try.ntmps20
  go_wp2
  go_ret
  exact ⟨rfl, rfl⟩
theorem c_nob_own {w : World} {p : Addr} (hc : w.cell? p = some (.pointer none)) : Calls Try.prog 20 #[.pointer (some p)] w fun e w' => e = .returned (.bool true) ∧ w = w' := by
  go_enter Try.func20, Try.ntmps20
  go_wp2
  go_ret
  exact ⟨rfl, rfl⟩

theorem mod_plc {rm f i : Nat} (hf : f < rm) (hi : i ≤ rm) : ((f : Int) + (i : Int)) % (rm : Int) = (plc rm f i : Nat) := by
  unfold plc
  split
  · rw [Int.emod_eq_of_lt (by omega) (by omega)]; omega
  · have : ((f : Int) + (i : Int)) % (rm : Int) = ((f : Int) + (i : Int) - rm) % (rm : Int) := by rw [Int.sub_emod_right]
    rw [this, Int.emod_eq_of_lt (by omega) (by omega)]
    omega
set_option maxHeartbeats 400000 in
theorem c_place {w : World} {S rm f n : Nat} {v : Value} (h : Blk w S [.int .i64 rm, .int .i64 f, .int .i64 n, v] 57) (hrm : rm ≤ 1024) (hf : f < rm) (i : Nat) (hi : i ≤ rm) :
    Calls Try.prog 21 #[.pointer (some ⟨S, 0, none⟩), .int .i64 i] w fun e w' => e = .returned (.int .i64 (plc rm f i : Nat)) ∧ Drew w w' := by
  have h0 := h.cell 0 _ rfl
  have h1 := h.cell 1 _ rfl
  have hz : (rm : Int) ≠ 0 := by omega
  have HT := Lib.hid (mod_plc hf hi)
  have hp : plc rm f i < rm := by unfold plc; split <;> omega
  clear h
  go_enter Try.func21, Try.ntmps21
  go_wp2
  go_quiet (fail)
  go_wp2
  go_ret
  exact ⟨ret_int (by rw [HT.out]), Drew.of _ _⟩
set_option maxHeartbeats 400000 in
theorem c_len {w : World} {t S lo rm f : Nat} {v : Value} {L xs : List Int} (h : RW w t S lo rm f v L xs) :
    Calls Try.prog 18 #[.pointer (some ⟨t, 0, none⟩)] w fun e w' => e = .returned (.int .i64 L.length) ∧ w = w' := by
  have hc := h.c0
  have hc2 := h.box.cell 2 _ rfl
  have CN := Lib.hid (c_nob h.c0)
  clear h
  go_enter Try.func18, Try.ntmps18
  go_wp2_with (go_at_call 20; refine CN.out.mono ?_; rintro e w' ⟨rfl, rfl⟩)
  go_ret
  exact ⟨rfl, rfl⟩
set_option maxHeartbeats 400000 in
theorem c_room {w : World} {t S lo rm f : Nat} {v : Value} {L xs : List Int} (h : RW w t S lo rm f v L xs) :
    Calls Try.prog 19 #[.pointer (some ⟨t, 0, none⟩)] w fun e w' => e = .returned (.int .i64 rm) ∧ w = w' := by
  have hc := h.c0
  have hc2 := h.box.cell 0 _ rfl
  have CN := Lib.hid (c_nob h.c0)
  clear h
  go_enter Try.func19, Try.ntmps19
  go_wp2_with (go_at_call 20; refine CN.out.mono ?_; rintro e w' ⟨rfl, rfl⟩)
  go_ret
  exact ⟨rfl, rfl⟩
end Go.Proofs.Ytaokojjjihinhaa

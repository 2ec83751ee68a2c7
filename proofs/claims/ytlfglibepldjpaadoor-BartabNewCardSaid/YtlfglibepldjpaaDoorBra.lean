/- Plain maths: barriers as what they are to be, a roll, and a phase; what package barrier's calls come to. -/
import Derived.Test.YtlfglibepldjpaaDoorRla
import Derived.Test.YtlfglibepldjpaaDoorPha
namespace Go.Proofs.YtlfglibepldjpaaDoor

structure BR where
  al : Bool
  lim : Int
  r : RL
  ph : Int
def BR.zero : BR := ⟨false, 0, RL.zero, 0⟩
def BR.put (b : BR) (r : RL) : BR := ⟨b.al, b.lim, r, b.ph⟩
/-- Check: the error of a limit. -/
def brChk (l : Int) : Int := if phFine 0 l = true then 0 else 8
def brNew (al : Bool) (l : Int) : BR := if phFine 0 l = true then ⟨al, l, RL.zero, 0⟩ else BR.zero
def brFine (b : BR) : Bool := rlFine b.r && phFine b.ph b.lim
def brEnrol (b : BR) (p : Int) : BR × Int := if brFine b = false then (b, 1) else (b.put (rlEnrol b.r p).1, (rlEnrol b.r p).2)
def brResign (b : BR) (p : Int) : BR × Int := if brFine b = false then (b, 1) else (b.put (rlResign b.r p).1, (rlResign b.r p).2)
def brOffer (b : BR) (p : Int) (alt : Bool) : BR × Int :=
  if brFine b = false then (b, 1) else if (alt && !b.al) = true then (b, 12) else if b.ph = b.lim then (b, 14) else (b.put (rlOffer b.r p).1, (rlOffer b.r p).2)
def brWith (b : BR) (p : Int) : BR := if brFine b = false then b else b.put (rlWith b.r p).1
def brReady (b : BR) : Bool := brFine b && rlFull b.r && decide (b.ph < b.lim)
def brFire (b : BR) : BR × List Int × Int :=
  if brFine b = false then (b, [], 1) else if brReady b = false then (b, [], 13) else (⟨b.al, b.lim, ⟨b.r.m, S4.zero⟩, b.ph + 1⟩, b.r.a.ints, 0)

theorem chk_ok {l : Int} (h : phFine 0 l = true) : brChk l = 0 := if_pos h
theorem chk_no {l : Int} (h : phFine 0 l = false) : brChk l = 8 := if_neg (by rw [h]; decide)
theorem new_ok {l : Int} (al : Bool) (h : phFine 0 l = true) : brNew al l = ⟨al, l, RL.zero, 0⟩ := if_pos h
theorem new_no {l : Int} (al : Bool) (h : phFine 0 l = false) : brNew al l = BR.zero := if_neg (by rw [h]; decide)
theorem ph_chk {n l : Int} (h : phFine n l = true) : phFine 0 l = true := by
  rw [phFine_iff] at h ⊢
  omega
theorem brFine_iff (b : BR) : brFine b = true ↔ rlFine b.r = true ∧ phFine b.ph b.lim = true := by unfold brFine; rw [Bool.and_eq_true]
theorem brFine_roll {b : BR} (h : rlFine b.r = false) : brFine b = false := by unfold brFine; rw [h]; rfl
theorem brFine_ph {b : BR} (h : phFine b.ph b.lim = false) : brFine b = false := by unfold brFine; rw [h]; simp
theorem rl_zero_fine : rlFine RL.zero = true := by kernel_rfl
end Go.Proofs.YtlfglibepldjpaaDoor

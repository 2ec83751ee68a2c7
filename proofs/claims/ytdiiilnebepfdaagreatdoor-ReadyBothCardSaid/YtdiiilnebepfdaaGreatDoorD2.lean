/- Plain maths: rolls as two sets; what package roll's calls come to. A roll in memory; package roll's Fine and check. Package roll: Enrol, Resign, Offer, Withdraw. Package roll: Full, Fire. Plain maths of phases: what is a phase of a limit, and what the four functions come to. Plain maths: barriers as what they are to be, a roll, and a phase; what package barrier's calls come to. The contracts of package phase's functions: each gives the plain function's value and leaves memory as it was. A barrier in memory; package barrier's Check, New and Fine. Two barriers compared, as the model has it. Package barrier: Fire, Ready. -/
import Derived.Test.YtdiiilnebepfdaaGreatDoorD1
import Derived.Test.YtdiiilnebepfdaaGreatDoorA1
import Derived.BigQuiet
import Derived.Deep.QuietTactic
import Derived.Deep.DeepCutAuto
import Derived.StillTailTactics
import Derived.WalkLawsBesides
import Derived.Deep.RegionHeld3
import Derived.Test.YtdiiilnebepfdaaGreatDoorRows
import Derived.WalkKit
import Derived.WalkSpells
import Derived.Lib.Hide
import Derived.IntWalk
import Derived.LoopTactic
import Derived.Laws.StructEq
import Derived.Great.BuildSlice
namespace Go.Proofs.YtdiiilnebepfdaaGreatDoor

/-- A roll: who is enrolled, and who of these waits. -/
structure RL where
  m : S4
  a : S4
def RL.zero : RL := ⟨S4.zero, S4.zero⟩
def S4.eqb (s t : S4) : Bool := s.a == t.a && s.b == t.b && s.c == t.c && s.d == t.d
theorem eqb_iff {s t : S4} : s.eqb t = true ↔ s = t := by
  obtain ⟨a, b, c, d⟩ := s
  obtain ⟨a', b', c', d'⟩ := t
  simp [S4.eqb, and_assoc]
theorem eqb_no {s t : S4} : s.eqb t = false ↔ s ≠ t := by
  rw [Ne, ← eqb_iff, Bool.eq_false_iff]

/-- Whether nobody is beyond the processes. -/
def rlLow (s : S4) : Bool := !(nextL s.ints 16).2
def rlFine (r : RL) : Bool := rlLow r.m && r.a.sub r.m
def rlErr (r : RL) (p : Int) : Int := if rlFine r = false then 1 else if p < 0 ∨ 16 ≤ p then 8 else 0
def rlEnrol (r : RL) (p : Int) : RL × Int :=
  if rlErr r p ≠ 0 then (r, rlErr r p) else if hasL r.m.ints p = true then (r, 7) else (⟨r.m.uni (S4.only p), r.a⟩, 0)
def rlOffer (r : RL) (p : Int) : RL × Int :=
  if rlErr r p ≠ 0 then (r, rlErr r p) else if hasL r.m.ints p = false then (r, 6) else if hasL r.a.ints p = true then (r, 7) else (⟨r.m, r.a.uni (S4.only p)⟩, 0)
def rlFull (r : RL) : Bool := rlFine r && (!r.m.eqb S4.zero && r.a.eqb r.m)
def rlFire (r : RL) : RL × List Int × Int :=
  if rlFine r = false then (RL.zero, [], 1) else if rlFull r = false then (RL.zero, [], 13) else (⟨r.m, S4.zero⟩, r.a.ints, 0)

theorem next_pair (L : List Int) (x : Int) : ∃ y, nextL L x = (y, (nextL L x).2) := ⟨(nextL L x).1, rfl⟩
theorem low_iff (s : S4) : rlLow s = true ↔ ∀ x ∈ s.ints, x ≤ 15 := by
  unfold rlLow nextL
  cases h : s.ints.find? (fun y => decide ((16 : Int) ≤ y)) with
  | none =>
    rw [List.find?_eq_none] at h
    simp only [Bool.not_false, true_iff]
    intro x hx
    have := h x hx
    simp at this
    omega
  | some y =>
    have h1 := List.find?_some h
    have h2 := List.mem_of_find?_eq_some h
    simp only [Bool.not_true, Bool.false_eq_true, false_iff]
    intro hh
    have := hh y h2
    simp at h1
    omega
theorem mem_ints (s : S4) (i : Nat) (hi : i < 256) : (i : Int) ∈ s.ints ↔ s.has i = true := by
  have := hasL_rise s.has i hi
  unfold hasL at this
  unfold S4.ints
  rw [← this, decide_eq_true_iff]
theorem err_no {r : RL} (h : rlFine r = false) (p : Int) : rlErr r p = 1 := if_pos h
theorem err_out {r : RL} (h : rlFine r = true) {p : Int} (hp : p < 0 ∨ 16 ≤ p) : rlErr r p = 8 := by
  unfold rlErr
  rw [if_neg (by rw [h]; decide), if_pos hp]
theorem err_ok {r : RL} (h : rlFine r = true) {p : Int} (h0 : 0 ≤ p) (h1 : p < 16) : rlErr r p = 0 := by
  unfold rlErr
  rw [if_neg (by rw [h]; decide), if_neg (by omega)]
end Go.Proofs.YtdiiilnebepfdaaGreatDoor

namespace Go.Proofs.YtdiiilnebepfdaaGreatDoor
open Go.RowKit

/-- A roll's cells. -/
def rlC (r : RL) : List Value := [.int .u64 (r.m.a.toNat : Int), .int .u64 (r.m.b.toNat : Int), .int .u64 (r.m.c.toNat : Int), .int .u64 (r.m.d.toNat : Int), .int .u64 (r.a.a.toNat : Int), .int .u64 (r.a.b.toNat : Int), .int .u64 (r.a.c.toNat : Int), .int .u64 (r.a.d.toNat : Int)]
abbrev rlZ : List Value := [.int .u64 0, .int .u64 0, .int .u64 0, .int .u64 0, .int .u64 0, .int .u64 0, .int .u64 0, .int .u64 0]
theorem rlC_one {r : RL} : ∀ v ∈ rlC r, v.oneCell' = true := by
  intro v hv
  unfold rlC at hv
  simp only [List.mem_cons, List.not_mem_nil, or_false] at hv
  rcases hv with rfl | rfl | rfl | rfl | rfl | rfl | rfl | rfl <;> rfl
theorem info_roll : (Tryz.prog.info? 137).map (·.size) = some 8 := by kernel_rfl
/-- Its two sets' cells. -/
structure RCell (w : World) (b : Nat) (r : RL) : Prop where
  m0 : w.cell? ⟨b, 0, none⟩ = some (.int .u64 (r.m.a.toNat : Int))
  m1 : w.cell? ⟨b, 1, none⟩ = some (.int .u64 (r.m.b.toNat : Int))
  m2 : w.cell? ⟨b, 2, none⟩ = some (.int .u64 (r.m.c.toNat : Int))
  m3 : w.cell? ⟨b, 3, none⟩ = some (.int .u64 (r.m.d.toNat : Int))
  a0 : w.cell? ⟨b, 4, none⟩ = some (.int .u64 (r.a.a.toNat : Int))
  a1 : w.cell? ⟨b, 5, none⟩ = some (.int .u64 (r.a.b.toNat : Int))
  a2 : w.cell? ⟨b, 6, none⟩ = some (.int .u64 (r.a.c.toNat : Int))
  a3 : w.cell? ⟨b, 7, none⟩ = some (.int .u64 (r.a.d.toNat : Int))
theorem Blk.rl {w : World} {b : Nat} {r : RL} {t : TypeId} (h : Blk w b (rlC r) t) : RCell w b r :=
  ⟨h.cell 0 _ rfl, h.cell 1 _ rfl, h.cell 2 _ rfl, h.cell 3 _ rfl, h.cell 4 _ rfl, h.cell 5 _ rfl, h.cell 6 _ rfl, h.cell 7 _ rfl⟩
theorem Blk.putM {w : World} {b : Nat} {r : RL} {t : TypeId} (h : Blk w b (rlC r) t) (s : S4) :
    Blk ((((w.setCell ⟨b, 0, none⟩ (.int .u64 (s.a.toNat : Int))).setCell ⟨b, 1, none⟩ (.int .u64 (s.b.toNat : Int))).setCell ⟨b, 2, none⟩ (.int .u64 (s.c.toNat : Int))).setCell ⟨b, 3, none⟩ (.int .u64 (s.d.toNat : Int))) b (rlC ⟨s, r.a⟩) t :=
  (((h.set 0 _).set 1 _).set 2 _).set 3 _
theorem Blk.putA {w : World} {b : Nat} {r : RL} {t : TypeId} (h : Blk w b (rlC r) t) (s : S4) :
    Blk ((((w.setCell ⟨b, 4, none⟩ (.int .u64 (s.a.toNat : Int))).setCell ⟨b, 5, none⟩ (.int .u64 (s.b.toNat : Int))).setCell ⟨b, 6, none⟩ (.int .u64 (s.c.toNat : Int))).setCell ⟨b, 7, none⟩ (.int .u64 (s.d.toNat : Int))) b (rlC ⟨r.m, s⟩) t :=
  (((h.set 4 _).set 5 _).set 6 _).set 7 _
/-- The world of a function that boxes its roll, and has a cell for its answer. -/
structure RBx (w wc : World) (r : RL) : Prop where
  up : Below w.heap.size w wc
  box : Blk wc w.heap.size (rlC r) 137
  res : Blk wc (w.heap.size + 1) rlZ 137
theorem bx2_rl (w : World) (r : RL) : RBx w ((w.alloc (.cells (rlC r).toArray 137)).alloc (.cells #[.int .u64 0, .int .u64 0, .int .u64 0, .int .u64 0, .int .u64 0, .int .u64 0, .int .u64 0, .int .u64 0] 137)) r :=
  have h := bx2 w (rlC r) 137 rlZ 137
  ⟨h.up, h.box, h.res⟩
theorem RBx.next {w w2 w3 : World} {r : RL} (h : RBx w w2 r) (hb : Below w2.heap.size w2 w3) : RBx w w3 r := ⟨up_trans h.up hb, h.box.up hb h.box.lt, h.res.up hb h.res.lt⟩
theorem box4 {w wc : World} (h : Below w.heap.size w wc) (i j k l : Nat) (x y z u : Value) :
    Below w.heap.size w ((((wc.setCell ⟨w.heap.size, i, none⟩ x).setCell ⟨w.heap.size, j, none⟩ y).setCell ⟨w.heap.size, k, none⟩ z).setCell ⟨w.heap.size, l, none⟩ u) :=
  (((h.setCell (p := ⟨w.heap.size, i, none⟩) (Nat.le_refl _) x).setCell (p := ⟨w.heap.size, j, none⟩) (Nat.le_refl _) y).setCell (p := ⟨w.heap.size, k, none⟩) (Nat.le_refl _) z).setCell (p := ⟨w.heap.size, l, none⟩) (Nat.le_refl _) u
theorem res4 {w wc : World} {cs : List Value} {t : TypeId} (h : Blk wc (w.heap.size + 1) cs t) (i j k l : Nat) (x y z u : Value) :
    Blk ((((wc.setCell ⟨w.heap.size, i, none⟩ x).setCell ⟨w.heap.size, j, none⟩ y).setCell ⟨w.heap.size, k, none⟩ z).setCell ⟨w.heap.size, l, none⟩ u) (w.heap.size + 1) cs t :=
  (((h.other ⟨w.heap.size, i, none⟩ (by simp) x).other ⟨w.heap.size, j, none⟩ (by simp) y).other ⟨w.heap.size, k, none⟩ (by simp) z).other ⟨w.heap.size, l, none⟩ (by simp) u
theorem RBx.putM {w wc : World} {r : RL} (h : RBx w wc r) (s : S4) :
    RBx w ((((wc.setCell ⟨w.heap.size, 0, none⟩ (.int .u64 (s.a.toNat : Int))).setCell ⟨w.heap.size, 1, none⟩ (.int .u64 (s.b.toNat : Int))).setCell ⟨w.heap.size, 2, none⟩ (.int .u64 (s.c.toNat : Int))).setCell ⟨w.heap.size, 3, none⟩ (.int .u64 (s.d.toNat : Int))) ⟨s, r.a⟩ :=
  ⟨box4 h.up _ _ _ _ _ _ _ _, h.box.putM s, res4 h.res _ _ _ _ _ _ _ _⟩
theorem RBx.putA {w wc : World} {r : RL} (h : RBx w wc r) (s : S4) :
    RBx w ((((wc.setCell ⟨w.heap.size, 4, none⟩ (.int .u64 (s.a.toNat : Int))).setCell ⟨w.heap.size, 5, none⟩ (.int .u64 (s.b.toNat : Int))).setCell ⟨w.heap.size, 6, none⟩ (.int .u64 (s.c.toNat : Int))).setCell ⟨w.heap.size, 7, none⟩ (.int .u64 (s.d.toNat : Int))) ⟨r.m, s⟩ :=
  ⟨box4 h.up _ _ _ _ _ _ _ _, h.box.putA s, res4 h.res _ _ _ _ _ _ _ _⟩
theorem TabD.up {w w' : World} (h : TabD w) (hb : Below w.heap.size w w') : TabD w' := tab_below h (tab_lt h) hb

set_option maxRecDepth 100000 in
set_option maxHeartbeats 1000000 in
theorem c_rlfine (r : RL) (w : World) (hT : TabD w) :
    Calls Tryz.prog 150 #[.agg (rlC r).toArray] w fun e w' => e = .returned (.bool (rlFine r)) ∧ Below w.heap.size w w' := by
  have hX := bx1 w (rlC r) 137
  generalize hw1 : w.alloc (.cells (rlC r).toArray 137) = w1 at hX
  have HW := Lib.hid hw1
  have HX := Lib.hid hX
  obtain ⟨y, hy⟩ := next_pair r.m.ints 16
  obtain ⟨q, hq⟩ : ∃ q, (nextL r.m.ints 16).2 = q := ⟨_, rfl⟩
  obtain ⟨z, hz⟩ : ∃ z, r.a.sub r.m = z := ⟨_, rfl⟩
  rw [hq] at hy
  have CN := Lib.hid (fun W (hW : Below w.heap.size w W) => c_nextS r.m 16 W (hT.up hW) hy)
  have CS := Lib.hid (fun W => c_subB hz W)
  have HF : Hid (rlFine r = (!q && z)) := Lib.hid (by unfold rlFine rlLow; rw [hq, hz])
  rw [HF.out]
  clear hT hX hw1 hy hq hz HF
  have k := HX.out.box.rl
  obtain ⟨m0, m1, m2, m3, a0, a1, a2, a3⟩ := k
  cases q
  · go_enter Tryz.func150, Tryz.ntmps150
    go_upto_region 1 with fail
    rw [HW.out]
    go_wp2_with fail
    refine (CN.out _ HX.out.up).mono ?_; rintro e w2 ⟨rfl, hb2⟩
    have HA := Lib.hid (HX.out.next hb2)
    clear m0 m1 m2 m3 a0 a1 a2 a3 hb2
    obtain ⟨m0, m1, m2, m3, a0, a1, a2, a3⟩ := HA.out.box.rl
    go_wp2_with fail
    refine (CS.out _).mono ?_; rintro e w3 ⟨rfl, hb3⟩
    go_wp2
    go_ret
    exact ⟨ret_bool (by simp), up_trans HA.out.up hb3⟩
  · go_enter Tryz.func150, Tryz.ntmps150
    go_upto_region 1 with fail
    rw [HW.out]
    go_wp2_with fail
    refine (CN.out _ HX.out.up).mono ?_; rintro e w2 ⟨rfl, hb2⟩
    go_wp2
    go_ret
    exact ⟨ret_bool (by simp), up_trans HX.out.up hb2⟩

end Go.Proofs.YtdiiilnebepfdaaGreatDoor

namespace Go.Proofs.YtdiiilnebepfdaaGreatDoor
open Go.RowKit

end Go.Proofs.YtdiiilnebepfdaaGreatDoor

namespace Go.Proofs.YtdiiilnebepfdaaGreatDoor
open Go.RowKit

theorem full_no {r : RL} (h : rlFine r = false) : rlFull r = false := by unfold rlFull; rw [h]; rfl
theorem full_none {r : RL} (h : r.m = S4.zero) : rlFull r = false := by unfold rlFull; rw [eqb_iff.2 h]; simp
theorem full_part {r : RL} (h : r.a ≠ r.m) : rlFull r = false := by unfold rlFull; rw [eqb_no.2 h]; simp
theorem full_yes {r : RL} (h : rlFine r = true) (h0 : r.m ≠ S4.zero) (h1 : r.a = r.m) : rlFull r = true := by unfold rlFull; rw [h, eqb_no.2 h0, eqb_iff.2 h1]; rfl

set_option maxRecDepth 100000 in
set_option maxHeartbeats 2000000 in
theorem c_rlfull (r : RL) (w : World) (hT : TabD w) :
    Calls Tryz.prog 152 #[.agg (rlC r).toArray] w fun e w' => e = .returned (.bool (rlFull r)) ∧ Below w.heap.size w w' := by
  have hX := bx1 w (rlC r) 137
  generalize hw1 : w.alloc (.cells (rlC r).toArray 137) = w1 at hX
  have HW := Lib.hid hw1
  have HX := Lib.hid (hX.next (up_alloc w1 (.cells zero4.toArray 135)))
  have HZ := Lib.hid (Blk.new w1 zero4 135)
  have CF := Lib.hid (fun W (hW : Below w.heap.size w W) => c_rlfine r W (hT.up hW))
  clear hT hX hw1
  cases hf : rlFine r
  case false =>
    rw [full_no hf]
    rw [hf] at CF
    clear hf
    go_enter Tryz.func152, Tryz.ntmps152
    go_upto_region 1 with fail
    rw [HW.out]
    go_wp2_with (refine ldr (b := w.heap.size) (t := 137) (cs := rlC r) (.tmp 1) rfl rfl Tryz.underlying137 rfl info_roll rfl ?_ ?_; (· exact HX.out.box))
    refine (CF.out _ HX.out.up).mono ?_; rintro e w2 ⟨rfl, hb⟩
    go_wp2
    go_ret
    exact ⟨rfl, up_trans HX.out.up hb⟩
  rw [hf] at CF
  by_cases hm : r.m = S4.zero
  case pos =>
    rw [full_none hm]
    have hq1 := run_zero hm
    have hq2 := run_zero hm
    clear hm hf
    go_enter Tryz.func152, Tryz.ntmps152
    go_upto_region 1 with fail
    rw [HW.out]
    go_wp2_with (refine ldr (b := w.heap.size) (t := 137) (cs := rlC r) (.tmp 1) rfl rfl Tryz.underlying137 rfl info_roll rfl ?_ ?_; (· exact HX.out.box))
    refine (CF.out _ HX.out.up).mono ?_; rintro e w2 ⟨rfl, hb⟩
    have HA := Lib.hid (HX.out.next hb)
    have hz := HZ.out.up hb HZ.out.lt
    have z0 := hz.cell 0 _ rfl
    have z1 := hz.cell 1 _ rfl
    have z2 := hz.cell 2 _ rfl
    have z3 := hz.cell 3 _ rfl
    clear hb hz
    obtain ⟨m0, m1, m2, m3, a0, a1, a2, a3⟩ := HA.out.box.rl
    go_wp2_with (first | rw [hq1] | rw [hq2])
    go_ret
    exact ⟨ret_bool (by simp), HA.out.up⟩
  by_cases ha : r.a = r.m
  case neg =>
    rw [full_part ha]
    have hq1 := run_some hm
    have hq2 := run_other ha
    clear hm ha hf
    go_enter Tryz.func152, Tryz.ntmps152
    go_upto_region 1 with fail
    rw [HW.out]
    go_wp2_with (refine ldr (b := w.heap.size) (t := 137) (cs := rlC r) (.tmp 1) rfl rfl Tryz.underlying137 rfl info_roll rfl ?_ ?_; (· exact HX.out.box))
    refine (CF.out _ HX.out.up).mono ?_; rintro e w2 ⟨rfl, hb⟩
    have HA := Lib.hid (HX.out.next hb)
    have hz := HZ.out.up hb HZ.out.lt
    have z0 := hz.cell 0 _ rfl
    have z1 := hz.cell 1 _ rfl
    have z2 := hz.cell 2 _ rfl
    have z3 := hz.cell 3 _ rfl
    clear hb hz
    obtain ⟨m0, m1, m2, m3, a0, a1, a2, a3⟩ := HA.out.box.rl
    go_wp2_with (first | rw [hq1] | rw [hq2])
    go_ret
    exact ⟨ret_bool (by simp), HA.out.up⟩
  rw [full_yes hf hm ha]
  have hq1 := run_some hm
  have hq2 := run_same ha
  clear hm ha hf
  go_enter Tryz.func152, Tryz.ntmps152
  go_upto_region 1 with fail
  rw [HW.out]
  go_wp2_with (refine ldr (b := w.heap.size) (t := 137) (cs := rlC r) (.tmp 1) rfl rfl Tryz.underlying137 rfl info_roll rfl ?_ ?_; (· exact HX.out.box))
  refine (CF.out _ HX.out.up).mono ?_; rintro e w2 ⟨rfl, hb⟩
  have HA := Lib.hid (HX.out.next hb)
  have hz := HZ.out.up hb HZ.out.lt
  have z0 := hz.cell 0 _ rfl
  have z1 := hz.cell 1 _ rfl
  have z2 := hz.cell 2 _ rfl
  have z3 := hz.cell 3 _ rfl
  clear hb hz
  obtain ⟨m0, m1, m2, m3, a0, a1, a2, a3⟩ := HA.out.box.rl
  go_wp2_with (first | rw [hq1] | rw [hq2])
  go_ret
  exact ⟨ret_bool (by simp), HA.out.up⟩

/-- What a function gives back that has a cell for a struct, and two more. -/
theorem results_cee {P : Program} {fn : Func} {p t u : Tmp} {ty : TypeId} {d : TypeDesc} (hr : fn.results = #[.cell p ty, .tmp t, .tmp u]) (tmps : Array Value) (w : World) (b : Nat) {cs : List Value} {t' : TypeId}
    (hp : tmps.getD p undef = .pointer (some ⟨b, 0, none⟩)) (h : Blk w b cs t') (hu : P.underlying ty = some d) (hd : (match d with | .struct _ | .array _ _ => true | _ => false) = true) (hi : (P.info? ty).map (·.size) = some cs.length) :
    (results fn tmps).run P w = .ok (.tuple #[.agg cs.toArray, tmps.getD t undef, tmps.getD u undef]) w := by
  have hp' : tmps[p]?.getD undef = .pointer (some ⟨b, 0, none⟩) := by simpa using hp
  simp [results, hr, hp', asAddr, load_row h hu hd hi]
theorem rlZ_one : ∀ v ∈ rlZ, v.oneCell' = true := rlC_one (r := RL.zero)
/-- What Fire gives. -/
def FirePost (w : World) (x : RL × List Int × Int) (e : Ending) (w' : World) : Prop :=
  ∃ A c, e = .returned (.tuple #[.agg (rlC x.1).toArray, .slice A x.2.1.length c, .int .i64 x.2.2]) ∧ RD w' (w.heap.size ≤ ·) 1 A x.2.1.length (x.2.1.map (Value.int .i64)) ∧ Below w.heap.size w w'
theorem RBx.fired {w wc : World} {r : RL} (h : RBx w wc r) (s : S4) :
    Blk ((((((((wc.setCell ⟨w.heap.size + 1, 0, none⟩ (.int .u64 (s.a.toNat : Int))).setCell ⟨w.heap.size + 1, 1, none⟩ (.int .u64 (s.b.toNat : Int))).setCell ⟨w.heap.size + 1, 2, none⟩ (.int .u64 (s.c.toNat : Int))).setCell ⟨w.heap.size + 1, 3, none⟩ (.int .u64 (s.d.toNat : Int))).setCell ⟨w.heap.size + 1, 4, none⟩ (.int .u64 0)).setCell ⟨w.heap.size + 1, 5, none⟩ (.int .u64 0)).setCell ⟨w.heap.size + 1, 6, none⟩ (.int .u64 0)).setCell ⟨w.heap.size + 1, 7, none⟩ (.int .u64 0)) (w.heap.size + 1) (rlC ⟨s, S4.zero⟩) 137 :=
  (((((((h.res.set 0 _).set 1 _).set 2 _).set 3 _).set 4 _).set 5 _).set 6 _).set 7 _
theorem Only.res8 {w wc : World} (x0 x1 x2 x3 x4 x5 x6 x7 : Value) :
    Only (· = w.heap.size + 1) wc ((((((((wc.setCell ⟨w.heap.size + 1, 0, none⟩ x0).setCell ⟨w.heap.size + 1, 1, none⟩ x1).setCell ⟨w.heap.size + 1, 2, none⟩ x2).setCell ⟨w.heap.size + 1, 3, none⟩ x3).setCell ⟨w.heap.size + 1, 4, none⟩ x4).setCell ⟨w.heap.size + 1, 5, none⟩ x5).setCell ⟨w.heap.size + 1, 6, none⟩ x6).setCell ⟨w.heap.size + 1, 7, none⟩ x7) :=
  ((((((((Only.refl _ _).put 0 _).put 1 _).put 2 _).put 3 _).put 4 _).put 5 _).put 6 _).put 7 _

set_option maxRecDepth 100000 in
set_option maxHeartbeats 4000000 in
theorem c_rlfire (r : RL) (w : World) (hT : TabD w) :
    Calls Tryz.prog 143 #[.agg (rlC r).toArray] w (FirePost w (rlFire r)) := by
  have hX := bx2_rl w r
  generalize hw1 : (w.alloc (.cells (rlC r).toArray 137)).alloc (.cells #[.int .u64 0, .int .u64 0, .int .u64 0, .int .u64 0, .int .u64 0, .int .u64 0, .int .u64 0, .int .u64 0] 137) = w1 at hX
  have HW := Lib.hid hw1
  have HX := Lib.hid hX
  have CF := Lib.hid (fun W (hW : Below w.heap.size w W) => c_rlfine r W (hT.up hW))
  have CU := Lib.hid (fun W (hW : Below w.heap.size w W) => c_rlfull r W (hT.up hW))
  have CL := Lib.hid (fun W (hW : Below w.heap.size w W) => c_list r.a W (hT.up hW))
  clear hT hX hw1
  cases hf : rlFine r
  case false =>
    have HE : Hid (rlFire r = (RL.zero, [], 1)) := Lib.hid (by unfold rlFire; rw [if_pos hf])
    rw [hf] at CF
    clear hf
    go_enter Tryz.func143, Tryz.ntmps143
    go_upto_region 1 with fail
    rw [HW.out]
    go_wp2_with (refine ldr (b := w.heap.size) (t := 137) (cs := rlC r) (.tmp 1) rfl rfl Tryz.underlying137 rfl info_roll rfl ?_ ?_; (· exact HX.out.box))
    refine (CF.out _ HX.out.up).mono ?_; rintro e w2 ⟨rfl, hb⟩
    have HA := Lib.hid (HX.out.next hb)
    clear hb
    go_wp2_with (refine str (b := w.heap.size + 1) (t := 137) (cs := rlZ) (ds := rlZ) (.tmp 2) (.tmp 9) rfl rfl rfl rfl info_roll rfl rlZ_one ?_ ?_; (· exact HA.out.res))
    refine bodyPost_ret (v := .tuple #[.agg (rlZ).toArray, .slice none 0 0, .int .i64 1]) (results_cee (fn := Tryz.f143) (p := 2) (t := 3) (u := 4) rfl _ _ _ rfl (HA.out.res.row _) Tryz.underlying137 rfl info_roll) rfl ?_
    rw [HE.out]
    exact ⟨none, 0, rfl, RD.nil _ _ _ _, below_setRow HA.out.up (by omega) _⟩
  rw [hf] at CF
  cases hu : rlFull r
  case false =>
    have HE : Hid (rlFire r = (RL.zero, [], 13)) := Lib.hid (by unfold rlFire; rw [if_neg (by rw [hf]; decide), if_pos hu])
    rw [hu] at CU
    clear hf hu
    go_enter Tryz.func143, Tryz.ntmps143
    go_upto_region 1 with fail
    rw [HW.out]
    go_wp2_with (refine ldr (b := w.heap.size) (t := 137) (cs := rlC r) (.tmp 1) rfl rfl Tryz.underlying137 rfl info_roll rfl ?_ ?_; (· exact HX.out.box))
    refine (CF.out _ HX.out.up).mono ?_; rintro e w2 ⟨rfl, hb⟩
    have HA := Lib.hid (HX.out.next hb)
    clear hb
    go_wp2_with (refine ldr (b := w.heap.size) (t := 137) (cs := rlC r) (.tmp 1) rfl rfl Tryz.underlying137 rfl info_roll rfl ?_ ?_; (· exact HA.out.box))
    refine (CU.out _ HA.out.up).mono ?_; rintro e w3 ⟨rfl, hb⟩
    have HB := Lib.hid (HA.out.next hb)
    clear hb
    go_wp2_with (refine str (b := w.heap.size + 1) (t := 137) (cs := rlZ) (ds := rlZ) (.tmp 2) (.tmp 14) rfl rfl rfl rfl info_roll rfl rlZ_one ?_ ?_; (· exact HB.out.res))
    refine bodyPost_ret (v := .tuple #[.agg (rlZ).toArray, .slice none 0 0, .int .i64 13]) (results_cee (fn := Tryz.f143) (p := 2) (t := 3) (u := 4) rfl _ _ _ rfl (HB.out.res.row _) Tryz.underlying137 rfl info_roll) rfl ?_
    rw [HE.out]
    exact ⟨none, 0, rfl, RD.nil _ _ _ _, below_setRow HB.out.up (by omega) _⟩
  have HE : Hid (rlFire r = (⟨r.m, S4.zero⟩, r.a.ints, 0)) := Lib.hid (by unfold rlFire; rw [if_neg (by rw [hf]; decide), if_neg (by rw [hu]; decide)])
  rw [hu] at CU
  clear hf hu
  go_enter Tryz.func143, Tryz.ntmps143
  go_upto_region 1 with fail
  rw [HW.out]
  go_wp2_with (refine ldr (b := w.heap.size) (t := 137) (cs := rlC r) (.tmp 1) rfl rfl Tryz.underlying137 rfl info_roll rfl ?_ ?_; (· exact HX.out.box))
  refine (CF.out _ HX.out.up).mono ?_; rintro e w2 ⟨rfl, hb⟩
  have HA := Lib.hid (HX.out.next hb)
  clear hb
  go_wp2_with (refine ldr (b := w.heap.size) (t := 137) (cs := rlC r) (.tmp 1) rfl rfl Tryz.underlying137 rfl info_roll rfl ?_ ?_; (· exact HA.out.box))
  refine (CU.out _ HA.out.up).mono ?_; rintro e w3 ⟨rfl, hb⟩
  have HB := Lib.hid (HA.out.next hb)
  clear hb
  obtain ⟨m0, m1, m2, m3, a0, a1, a2, a3⟩ := HB.out.box.rl
  go_wp2_with fail
  go_region_with (go_at_call 153; refine (CL.out _ (up_trans HB.out.up (up_drewN _ 1))).mono ?_; rintro e w4 ⟨A, c, rfl, -, -, hr, hb⟩; have HC := Lib.hid (HB.out.next ((up_drewN _ 1).trans (hb.mono (Nat.le_refl _)))); have HR := Lib.hid hr; clear hr hb; obtain ⟨n0, n1, n2, n3, o0, o1, o2, o3⟩ := HC.out.box.rl; have r0 := HC.out.res.cell 0 _ rfl; have r1 := HC.out.res.cell 1 _ rfl; have r2 := HC.out.res.cell 2 _ rfl; have r3 := HC.out.res.cell 3 _ rfl; have r4 := HC.out.res.cell 4 _ rfl; have r5 := HC.out.res.cell 5 _ rfl; have r6 := HC.out.res.cell 6 _ rfl; have r7 := HC.out.res.cell 7 _ rfl; have g0 := HC.out.res.free 0; have g1 := HC.out.res.free 1; have g2 := HC.out.res.free 2; have g3 := HC.out.res.free 3; have g4 := HC.out.res.free 4; have g5 := HC.out.res.free 5; have g6 := HC.out.res.free 6; have g7 := HC.out.res.free 7)
  all_goals (
    go_wp2
    refine bodyPost_ret (v := .tuple #[.agg (rlC ⟨r.m, S4.zero⟩).toArray, .slice A r.a.ints.length c, .int .i64 0]) (results_cee (fn := Tryz.f143) (p := 2) (t := 3) (u := 4) rfl _ _ _ rfl (HC.out.fired r.m) Tryz.underlying137 rfl info_roll) rfl ?_
    rw [HE.out]
    have ho := Only.res8 (w := w) (wc := w4) (.int .u64 (r.m.a.toNat : Int)) (.int .u64 (r.m.b.toNat : Int)) (.int .u64 (r.m.c.toNat : Int)) (.int .u64 (r.m.d.toNat : Int)) (.int .u64 0) (.int .u64 0) (.int .u64 0) (.int .u64 0)
    have hz := HC.out.res.lt
    have hz3 := HB.out.res.lt
    exact ⟨A, c, rfl, (HR.out.only ho (fun k hk hl => by have : (w3.drewN 1).heap.size = w3.heap.size := rfl; omega)).lo (fun b hb => by have : (w3.drewN 1).heap.size = w3.heap.size := rfl; omega), HC.out.up.trans (ho.toBelow HC.out.up.size (fun k hk => by omega))⟩)
end Go.Proofs.YtdiiilnebepfdaaGreatDoor

namespace Go.Proofs.YtdiiilnebepfdaaGreatDoor
def phFine (n l : Int) : Bool := decide (1 ≤ l ∧ l ≤ 65535 ∧ 0 ≤ n ∧ n ≤ l)
def phNext (n l : Int) : Int := bif phFine n l then (if n = l then 0 else n + 1) else 0
def phErr (n l : Int) : Int := bif phFine n l then (if n = l then 14 else 0) else 8
theorem phFine_iff (n l : Int) : phFine n l = true ↔ 1 ≤ l ∧ l ≤ 65535 ∧ 0 ≤ n ∧ n ≤ l := by unfold phFine; simp
theorem phFine_no (n l : Int) (h : phFine n l = false) : l < 1 ∨ (1 ≤ l ∧ 65535 < l) ∨ (1 ≤ l ∧ l ≤ 65535 ∧ n < 0) ∨ (1 ≤ l ∧ l ≤ 65535 ∧ 0 ≤ n ∧ l < n) := by
  have : ¬ (1 ≤ l ∧ l ≤ 65535 ∧ 0 ≤ n ∧ n ≤ l) := fun k => by rw [(phFine_iff n l).2 k] at h; cases h
  omega
theorem phNext_no {n l : Int} (h : phFine n l = false) : phNext n l = 0 := by unfold phNext; rw [h]; rfl
theorem phErr_no {n l : Int} (h : phFine n l = false) : phErr n l = 8 := by unfold phErr; rw [h]; rfl
theorem phNext_end {n l : Int} (h : phFine n l = true) (e : n = l) : phNext n l = 0 := by unfold phNext; rw [h, if_pos e]; rfl
theorem phErr_end {n l : Int} (h : phFine n l = true) (e : n = l) : phErr n l = 14 := by unfold phErr; rw [h, if_pos e]; rfl
theorem phNext_on {n l : Int} (h : phFine n l = true) (e : n ≠ l) : phNext n l = n + 1 := by unfold phNext; rw [h, if_neg e]; rfl
theorem phErr_on {n l : Int} (h : phFine n l = true) (e : n ≠ l) : phErr n l = 0 := by unfold phErr; rw [h, if_neg e]; rfl
end Go.Proofs.YtdiiilnebepfdaaGreatDoor

namespace Go.Proofs.YtdiiilnebepfdaaGreatDoor

structure BR where
  al : Bool
  lim : Int
  r : RL
  ph : Int
def BR.zero : BR := ⟨false, 0, RL.zero, 0⟩
def BR.put (b : BR) (r : RL) : BR := ⟨b.al, b.lim, r, b.ph⟩
/-- Check: the error of a limit. -/
def brChk (l : Int) : Int := if phFine 0 l = true then 0 else 8
def brNew (al : Bool) (l : Int) : BR := if phFine 0 l = true then ⟨al, l, RL.zero, 0⟩ else BR.zero
def brFine (b : BR) : Bool := rlFine b.r && phFine b.ph b.lim
def brEnrol (b : BR) (p : Int) : BR × Int := if brFine b = false then (b, 1) else (b.put (rlEnrol b.r p).1, (rlEnrol b.r p).2)
def brOffer (b : BR) (p : Int) (alt : Bool) : BR × Int :=
  if brFine b = false then (b, 1) else if (alt && !b.al) = true then (b, 12) else if b.ph = b.lim then (b, 14) else (b.put (rlOffer b.r p).1, (rlOffer b.r p).2)
def brReady (b : BR) : Bool := brFine b && rlFull b.r && decide (b.ph < b.lim)
def brFire (b : BR) : BR × List Int × Int :=
  if brFine b = false then (b, [], 1) else if brReady b = false then (b, [], 13) else (⟨b.al, b.lim, ⟨b.r.m, S4.zero⟩, b.ph + 1⟩, b.r.a.ints, 0)

theorem br_chk_ok {l : Int} (h : phFine 0 l = true) : brChk l = 0 := if_pos h
theorem chk_no {l : Int} (h : phFine 0 l = false) : brChk l = 8 := if_neg (by rw [h]; decide)
theorem new_ok {l : Int} (al : Bool) (h : phFine 0 l = true) : brNew al l = ⟨al, l, RL.zero, 0⟩ := if_pos h
theorem new_no {l : Int} (al : Bool) (h : phFine 0 l = false) : brNew al l = BR.zero := if_neg (by rw [h]; decide)
theorem ph_chk {n l : Int} (h : phFine n l = true) : phFine 0 l = true := by
  rw [phFine_iff] at h ⊢
  omega
theorem brFine_iff (b : BR) : brFine b = true ↔ rlFine b.r = true ∧ phFine b.ph b.lim = true := by unfold brFine; rw [Bool.and_eq_true]
theorem brFine_ph {b : BR} (h : phFine b.ph b.lim = false) : brFine b = false := by unfold brFine; rw [h]; simp
end Go.Proofs.YtdiiilnebepfdaaGreatDoor

namespace Go.Proofs.YtdiiilnebepfdaaGreatDoor
open Go.RowKit

set_option maxHeartbeats 400000 in
theorem c_phfine (n l : Int) (w : World) :
    Calls Tryz.prog 151 #[.int .i64 n, .int .i64 l] w fun e w' => e = .returned (.bool (phFine n l)) ∧ w = w' := by
  cases hf : phFine n l
  · have H := phFine_no n l hf
    clear hf
    rcases H with h0 | ⟨h0, h1⟩ | ⟨h0, h1, h2⟩ | ⟨h0, h1, h2, h3⟩
    all_goals
      go_enter Tryz.func151, Tryz.ntmps151
      go_wp2
      go_ret
      exact ⟨ret_bool (by first | rfl | (rw [decide_eq_false_iff_not]; omega)), rfl⟩
  · obtain ⟨h0, h1, h2, h3⟩ := (phFine_iff n l).1 hf
    clear hf
    go_enter Tryz.func151, Tryz.ntmps151
    go_wp2
    go_ret
    exact ⟨ret_bool (by first | rfl | (rw [decide_eq_true_iff]; omega)), rfl⟩

set_option maxHeartbeats 400000 in
theorem c_phnext (n l : Int) (w : World) :
    Calls Tryz.prog 144 #[.int .i64 n, .int .i64 l] w fun e w' => e = .returned (.tuple #[.int .i64 (phNext n l), .int .i64 (phErr n l)]) ∧ w = w' := by
  cases hf : phFine n l
  · rw [phNext_no hf, phErr_no hf]
    have HF := Lib.hid hf
    clear hf
    go_enter Tryz.func144, Tryz.ntmps144
    go_wp2_with (go_at_call 151; refine (c_phfine _ _ _).mono ?_; rintro e w' ⟨rfl, rfl⟩; rw [HF.out])
    go_ret2
    exact ⟨rfl, rfl⟩
  · by_cases he : n = l
    · rw [phNext_end hf he, phErr_end hf he]
      have hb : (n == l) = true := beq_iff_eq.2 he
      clear he
      have HF := Lib.hid hf
      clear hf
      go_enter Tryz.func144, Tryz.ntmps144
      go_wp2_with (go_at_call 151; refine (c_phfine _ _ _).mono ?_; rintro e w' ⟨rfl, rfl⟩; rw [HF.out])
      go_ret2
      exact ⟨rfl, rfl⟩
    · rw [phNext_on hf he, phErr_on hf he]
      obtain ⟨h0, h1, h2, h3⟩ := (phFine_iff n l).1 hf
      have hb : (n == l) = false := beq_eq_false_iff_ne.2 he
      have HF := Lib.hid hf
      clear hf
      go_enter Tryz.func144, Tryz.ntmps144
      go_wp2_with (go_at_call 151; refine (c_phfine _ _ _).mono ?_; rintro e w' ⟨rfl, rfl⟩; rw [HF.out])
      go_ret2
      exact ⟨rfl, rfl⟩

end Go.Proofs.YtdiiilnebepfdaaGreatDoor

namespace Go.Proofs.YtdiiilnebepfdaaGreatDoor
open Go.RowKit

/-- A barrier's cells. -/
def brC (b : BR) : List Value := [.bool b.al, .int .i64 b.lim, .int .u64 (b.r.m.a.toNat : Int), .int .u64 (b.r.m.b.toNat : Int), .int .u64 (b.r.m.c.toNat : Int), .int .u64 (b.r.m.d.toNat : Int), .int .u64 (b.r.a.a.toNat : Int), .int .u64 (b.r.a.b.toNat : Int), .int .u64 (b.r.a.c.toNat : Int), .int .u64 (b.r.a.d.toNat : Int), .int .i64 b.ph]
abbrev brZ : List Value := [.bool false, .int .i64 0, .int .u64 0, .int .u64 0, .int .u64 0, .int .u64 0, .int .u64 0, .int .u64 0, .int .u64 0, .int .u64 0, .int .i64 0]
theorem brC_one {b : BR} : ∀ v ∈ brC b, v.oneCell' = true := by
  intro v hv
  unfold brC at hv
  simp only [List.mem_cons, List.not_mem_nil, or_false] at hv
  rcases hv with rfl | rfl | rfl | rfl | rfl | rfl | rfl | rfl | rfl | rfl | rfl <;> rfl
theorem info_bar : (Tryz.prog.info? 139).map (·.size) = some 11 := by kernel_rfl
theorem info_conf : (Tryz.prog.info? 109).map (·.size) = some 2 := by kernel_rfl
abbrev cfC (al : Bool) (l : Int) : List Value := [.bool al, .int .i64 l]
/-- Its parts. -/
structure BCell (w : World) (g : Nat) (b : BR) : Prop where
  al : w.cell? ⟨g, 0, none⟩ = some (.bool b.al)
  lim : w.cell? ⟨g, 1, none⟩ = some (.int .i64 b.lim)
  ph : w.cell? ⟨g, 10, none⟩ = some (.int .i64 b.ph)
theorem Blk.br {w : World} {g : Nat} {b : BR} {t : TypeId} (h : Blk w g (brC b) t) : BCell w g b := ⟨h.cell 0 _ rfl, h.cell 1 _ rfl, h.cell 10 _ rfl⟩
theorem bx2_bar (w : World) (cs : List Value) (t : TypeId) : Bx2 w ((w.alloc (.cells cs.toArray t)).alloc (.cells #[.bool false, .int .i64 0, .int .u64 0, .int .u64 0, .int .u64 0, .int .u64 0, .int .u64 0, .int .u64 0, .int .u64 0, .int .u64 0, .int .i64 0] 139)) cs t brZ 139 := bx2 w cs t brZ 139

set_option maxRecDepth 100000 in
set_option maxHeartbeats 1000000 in
theorem c_brcheck (al : Bool) (l : Int) (w : World) :
    Calls Tryz.prog 149 #[.agg (cfC al l).toArray] w fun e w' => e = .returned (.int .i64 (brChk l)) ∧ Below w.heap.size w w' := by
  have hX := bx1 w (cfC al l) 109
  generalize hw1 : w.alloc (.cells (cfC al l).toArray 109) = w1 at hX
  have HW := Lib.hid (show w.alloc (.cells #[.bool al, .int .i64 l] 109) = w1 from hw1)
  have HX := Lib.hid hX
  have c1 := hX.box.cell 1 _ rfl
  clear hX hw1
  cases hf : phFine 0 l
  · rw [chk_no hf]
    have HF := Lib.hid hf
    clear hf
    go_enter Tryz.func149, Tryz.ntmps149
    go_upto_region 1 with fail
    rw [HW.out]
    go_wp2_with fail
    refine (c_phfine _ _ _).mono ?_; rintro e w' ⟨rfl, rfl⟩
    rw [HF.out]
    go_wp2
    go_ret
    exact ⟨rfl, HX.out.up⟩
  · rw [br_chk_ok hf]
    have HF := Lib.hid hf
    clear hf
    go_enter Tryz.func149, Tryz.ntmps149
    go_upto_region 1 with fail
    rw [HW.out]
    go_wp2_with fail
    refine (c_phfine _ _ _).mono ?_; rintro e w' ⟨rfl, rfl⟩
    rw [HF.out]
    go_wp2
    go_ret
    exact ⟨rfl, HX.out.up⟩

set_option maxRecDepth 100000 in
set_option maxHeartbeats 2000000 in
theorem c_brfine (b : BR) (w : World) (hT : TabD w) :
    Calls Tryz.prog 142 #[.agg (brC b).toArray] w fun e w' => e = .returned (.bool (brFine b)) ∧ Below w.heap.size w w' := by
  have hX := bx1 w (brC b) 139
  generalize hw1 : w.alloc (.cells (brC b).toArray 139) = w1 at hX
  have HW := Lib.hid hw1
  have HX := Lib.hid hX
  have CR := Lib.hid (fun W (hW : Below w.heap.size w W) => c_rlfine b.r W (hT.up hW))
  have CK := Lib.hid (fun W => c_brcheck b.al b.lim W)
  clear hT hX hw1
  obtain ⟨q0, hq0⟩ : ∃ q0, phFine 0 b.lim = q0 := ⟨_, rfl⟩
  cases q0
  case false =>
    rw [chk_no hq0] at CK
    have HE : Hid (brFine b = false) := Lib.hid (by
      refine brFine_ph ?_
      cases h : phFine b.ph b.lim
      · rfl
      · rw [ph_chk h] at hq0
        cases hq0)
    rw [HE.out]
    clear hq0 HE
    obtain ⟨al, lim, ph⟩ := HX.out.box.br
    go_enter Tryz.func142, Tryz.ntmps142
    go_upto_region 1 with fail
    rw [HW.out]
    go_wp2_with fail
    refine (CK.out _).mono ?_; rintro e w2 ⟨rfl, hb⟩
    go_wp2
    go_ret
    exact ⟨rfl, up_trans HX.out.up hb⟩
  rw [br_chk_ok hq0] at CK
  clear hq0
  obtain ⟨q1, hq1⟩ : ∃ q1, rlFine b.r = q1 := ⟨_, rfl⟩
  obtain ⟨q2, hq2⟩ : ∃ q2, phFine b.ph b.lim = q2 := ⟨_, rfl⟩
  have HE : Hid (brFine b = (q1 && q2)) := Lib.hid (by unfold brFine; rw [hq1, hq2])
  have CP := Lib.hid (fun W => c_phfine b.ph b.lim W)
  rw [hq1] at CR
  rw [hq2] at CP
  rw [HE.out]
  clear hq1 hq2 HE
  obtain ⟨al, lim, ph⟩ := HX.out.box.br
  cases q1
  case false =>
    go_enter Tryz.func142, Tryz.ntmps142
    go_upto_region 1 with fail
    rw [HW.out]
    go_wp2_with fail
    refine (CK.out _).mono ?_; rintro e w2 ⟨rfl, hb⟩
    have HA := Lib.hid (HX.out.next hb)
    clear hb al lim ph
    obtain ⟨al, lim, ph⟩ := HA.out.box.br
    go_wp2_with (refine lmr (b := w.heap.size) (q := 2) (cs := rlC b.r) (.tmp 8) rfl rfl Tryz.underlying137 rfl info_roll rfl ?_ ?_; (· exact HA.out.box.part 2 8 rfl))
    refine (CR.out _ HA.out.up).mono ?_; rintro e w3 ⟨rfl, hb⟩
    go_wp2
    go_ret
    exact ⟨rfl, up_trans HA.out.up hb⟩
  case true =>
    go_enter Tryz.func142, Tryz.ntmps142
    go_upto_region 1 with fail
    rw [HW.out]
    go_wp2_with fail
    refine (CK.out _).mono ?_; rintro e w2 ⟨rfl, hb⟩
    have HA := Lib.hid (HX.out.next hb)
    clear hb al lim ph
    obtain ⟨al, lim, ph⟩ := HA.out.box.br
    go_wp2_with (refine lmr (b := w.heap.size) (q := 2) (cs := rlC b.r) (.tmp 8) rfl rfl Tryz.underlying137 rfl info_roll rfl ?_ ?_; (· exact HA.out.box.part 2 8 rfl))
    refine (CR.out _ HA.out.up).mono ?_; rintro e w3 ⟨rfl, hb⟩
    have HB := Lib.hid (HA.out.next hb)
    clear hb al lim ph
    obtain ⟨al, lim, ph⟩ := HB.out.box.br
    go_wp2_with fail
    refine (CP.out _).mono ?_; rintro e w4 ⟨rfl, rfl⟩
    go_wp2
    go_ret
    exact ⟨ret_bool (by simp), HB.out.up⟩
end Go.Proofs.YtdiiilnebepfdaaGreatDoor

namespace Go.Proofs.YtdiiilnebepfdaaGreatDoor
open Go.RowKit

def brEq (b c : BR) : Bool := b.al == c.al && b.lim == c.lim && (b.r.m.eqb c.r.m && b.r.a.eqb c.r.a) && b.ph == c.ph
theorem eqb_refl (s : S4) : s.eqb s = true := eqb_iff.2 rfl
theorem brEq_refl (b : BR) : brEq b b = true := by unfold brEq; simp [eqb_refl]
theorem brEq_ph {b c : BR} (h : b.ph ≠ c.ph) : brEq b c = false := by unfold brEq; rw [show (b.ph == c.ph) = false from by simpa using h]; simp
theorem eqb_ints (s t : S4) : ((s.a.toNat : Int) == t.a.toNat && (s.b.toNat : Int) == t.b.toNat && (s.c.toNat : Int) == t.c.toNat && (s.d.toNat : Int) == t.d.toNat) = s.eqb t := by
  by_cases h : s = t
  · rw [eq4_of h, eqb_iff.2 h]
  · rw [eq4_ne h, eqb_no.2 h]
theorem eq_word (d : Nat) (x y : Int) (w : World) : (Op.equalIn (d + 1) 133 (.int .u64 x) (.int .u64 y)).run Tryz.prog w = .ok (x == y) w := run_equalIn_int w d _ .u64 .u64 x y Tryz.underlying133
theorem eq_num (d : Nat) (x y : Int) (w : World) : (Op.equalIn (d + 1) 3 (.int .i64 x) (.int .i64 y)).run Tryz.prog w = .ok (x == y) w := run_equalIn_int w d _ .i64 .i64 x y Tryz.underlying3
theorem eq_flag (d : Nat) (x y : Bool) (w : World) : (Op.equalIn (d + 1) 4 (.bool x) (.bool y)).run Tryz.prog w = .ok (x == y) w := run_equalIn_bool' w d _ x y Tryz.underlying4
theorem eq_set (d : Nat) (s t : S4) (w : World) : (Op.equalIn (d + 2) 135 s.val t.val).run Tryz.prog w = .ok (s.eqb t) w := by
  rw [← eqb_ints]
  unfold S4.val
  generalize (s.a.toNat : Int) = x
  generalize (s.b.toNat : Int) = y
  generalize (s.c.toNat : Int) = z
  generalize (s.d.toNat : Int) = u
  generalize (t.a.toNat : Int) = x'
  generalize (t.b.toNat : Int) = y'
  generalize (t.c.toNat : Int) = z'
  generalize (t.d.toNat : Int) = u'
  rw [show d + 2 = (d + 1) + 1 from rfl]
  unfold Op.equalIn
  have hs : ∀ w, (sizeOf 133).run Tryz.prog w = .ok 1 w := fun w => by kernel_rfl
  simp only [Sem.run_bind, run_underlying Tryz.underlying135, Result.andThen_ok, hs, Std.Legacy.Range.forIn_eq_forIn_range', Std.Legacy.Range.size]
  rw [show List.range' 0 ((4 - 0 + 1 - 1) / 1) 1 = [0, 1, 2, 3] from rfl]
  simp only [List.forIn_cons, List.forIn_nil, Sem.run_bind, Nat.mul_one, part_0, Result.andThen_ok, eq_word, Sem.run_ite, Sem.run_pure]
  cases hx : (x == x') <;> cases hy : (y == y') <;> cases hz : (z == z') <;> cases hu : (u == u') <;> simp [Sem.run_pure, part_1, part_2, part_3, eq_word, hy, hz, hu]
theorem eq_roll (d : Nat) (r q : RL) (w : World) : (Op.equalIn (d + 3) 137 (.agg (rlC r).toArray) (.agg (rlC q).toArray)).run Tryz.prog w = .ok (r.m.eqb q.m && r.a.eqb q.a) w := by
  have hS : Tryz.prog.underlying 137 = some (.struct (Tryz.prog.fieldsOf 137)) := by kernel_rfl
  have hp : Tryz.prog.stoodInHeld 137 = false := by kernel_rfl
  have p0 : ∀ (r : RL) w, (part 135 (rlC r).toArray 0).run Tryz.prog w = .ok r.m.val w := fun r w => by kernel_rfl
  have p1 : ∀ (r : RL) w, (part 135 (rlC r).toArray 4).run Tryz.prog w = .ok r.a.val w := fun r w => by kernel_rfl
  rw [show d + 3 = (d + 2) + 1 from rfl, run_equalIn_agg w (d + 2) 137 _ _ hS hp]
  simp only [Program.fieldsOf, Tryz.underlying137]
  cases hx : r.m.eqb q.m <;> cases hy : r.a.eqb q.a <;> simp [Op.eqFields, p0, p1, eq_set, hx, hy]
theorem eq_conf (d : Nat) (a b : Bool) (l m : Int) (w : World) : (Op.equalIn (d + 2) 109 (.agg (cfC a l).toArray) (.agg (cfC b m).toArray)).run Tryz.prog w = .ok (a == b && l == m) w := by
  have hS : Tryz.prog.underlying 109 = some (.struct (Tryz.prog.fieldsOf 109)) := by kernel_rfl
  have hp : Tryz.prog.stoodInHeld 109 = false := by kernel_rfl
  have p0 : ∀ (a : Bool) (l : Int) w, (part 4 (cfC a l).toArray 0).run Tryz.prog w = .ok (.bool a) w := fun a l w => by kernel_rfl
  have p1 : ∀ (a : Bool) (l : Int) w, (part 3 (cfC a l).toArray 1).run Tryz.prog w = .ok (.int .i64 l) w := fun a l w => by kernel_rfl
  rw [show d + 2 = (d + 1) + 1 from rfl, run_equalIn_agg w (d + 1) 109 _ _ hS hp]
  simp only [Program.fieldsOf, Tryz.underlying109]
  have a0 := p0 a l
  have a1 := p1 a l
  have b0 := p0 b m
  have b1 := p1 b m
  have q0 := fun w => eq_flag d a b w
  have q1 := fun w => eq_num d l m w
  clear p0 p1
  generalize (cfC a l).toArray = X at a0 a1 ⊢
  generalize (cfC b m).toArray = Y at b0 b1 ⊢
  generalize (a == b) = u at q0 ⊢
  generalize (l == m) = v at q1 ⊢
  cases u <;> cases v <;> simp [Op.eqFields, a0, a1, b0, b1, q0, q1]
set_option maxRecDepth 100000 in
theorem run_eqB (b c : BR) (w : World) : (Op.equalIn 10000 139 (.agg (brC b).toArray) (.agg (brC c).toArray)).run Tryz.prog w = .ok (brEq b c) w := by
  have hS : Tryz.prog.underlying 139 = some (.struct (Tryz.prog.fieldsOf 139)) := by kernel_rfl
  have hp : Tryz.prog.stoodInHeld 139 = false := by kernel_rfl
  have p0 : ∀ (b : BR) w, (part 109 (brC b).toArray 0).run Tryz.prog w = .ok (.agg (cfC b.al b.lim).toArray) w := fun b w => by kernel_rfl
  have p2 : ∀ (b : BR) w, (part 137 (brC b).toArray 2).run Tryz.prog w = .ok (.agg (rlC b.r).toArray) w := fun b w => by kernel_rfl
  have p10 : ∀ (b : BR) w, (part 3 (brC b).toArray 10).run Tryz.prog w = .ok (.int .i64 b.ph) w := fun b w => by kernel_rfl
  have q0 := fun w => eq_conf 9997 b.al c.al b.lim c.lim w
  have q2 := fun w => eq_roll 9996 b.r c.r w
  have q10 := fun w => eq_num 9998 b.ph c.ph w
  unfold brEq
  rw [show (10000 : Nat) = 9999 + 1 from rfl, run_equalIn_agg w 9999 139 _ _ hS hp]
  simp only [Program.fieldsOf, Tryz.underlying139]
  have a0 := p0 b
  have a2 := p2 b
  have aa := p10 b
  have c0 := p0 c
  have c2 := p2 c
  have ca := p10 c
  clear p0 p2 p10
  generalize (brC b).toArray = X at a0 a2 aa ⊢
  generalize (brC c).toArray = Y at c0 c2 ca ⊢
  generalize (b.al == c.al && b.lim == c.lim) = u at q0 ⊢
  generalize (b.r.m.eqb c.r.m && b.r.a.eqb c.r.a) = v at q2 ⊢
  generalize (b.ph == c.ph) = x at q10 ⊢
  generalize (cfC b.al b.lim).toArray = X0 at a0 q0
  generalize (cfC c.al c.lim).toArray = Y0 at c0 q0
  generalize (rlC b.r).toArray = X2 at a2 q2
  generalize (rlC c.r).toArray = Y2 at c2 q2
  cases u <;> cases v <;> cases x <;> simp [Op.eqFields, a0, a2, aa, c0, c2, ca, q0, q2, q10]
end Go.Proofs.YtdiiilnebepfdaaGreatDoor

namespace Go.Proofs.YtdiiilnebepfdaaGreatDoor
open Go.RowKit

/-- What Fire gives. -/
def BFPost (w : World) (x : BR × List Int × Int) (e : Ending) (w' : World) : Prop :=
  ∃ A c, e = .returned (.tuple #[.agg (brC x.1).toArray, .slice A x.2.1.length c, .int .i64 x.2.2]) ∧ RD w' (w.heap.size ≤ ·) 1 A x.2.1.length (x.2.1.map (Value.int .i64)) ∧ Below w.heap.size w w'
theorem built_bar (al : Bool) (l : Int) (R : RL) (y : Int) : Tryz.prog.built 139 [(0, .agg #[.bool al, .int .i64 l]), (1, .agg (rlC R).toArray), (2, .int .i64 y)] = some (brC ⟨al, l, R, y⟩).toArray := by kernel_rfl
theorem brReady_full {b : BR} (h : rlFull b.r = false) : brReady b = false := by unfold brReady; rw [h]; simp
theorem brReady_end {b : BR} (h : b.ph = b.lim) : brReady b = false := by unfold brReady; rw [h]; simp
theorem brReady_yes {b : BR} (h : brFine b = true) (h0 : rlFull b.r = true) (h1 : b.ph ≠ b.lim) : brReady b = true := by
  have := (phFine_iff _ _).1 ((brFine_iff b).1 h).2
  unfold brReady
  rw [h, h0, decide_eq_true (by omega)]
  rfl

set_option maxRecDepth 100000 in
set_option maxHeartbeats 1000000 in
theorem c_brfire (b : BR) (w : World) (hT : TabD w) :
    Calls Tryz.prog 123 #[.agg (brC b).toArray] w (BFPost w (brFire b)) := by
  have hX := bx2_bar w (brC b) 139
  generalize hw1 : (w.alloc (.cells (brC b).toArray 139)).alloc (.cells #[.bool false, .int .i64 0, .int .u64 0, .int .u64 0, .int .u64 0, .int .u64 0, .int .u64 0, .int .u64 0, .int .u64 0, .int .u64 0, .int .i64 0] 139) = w1 at hX
  have HW := Lib.hid hw1
  have HX := Lib.hid hX
  have CF := Lib.hid (fun W (hW : Below w.heap.size w W) => c_brfine b W (hT.up hW))
  have CR := Lib.hid (fun W (hW : Below w.heap.size w W) => c_rlfire b.r W (hT.up hW))
  have CP := Lib.hid (fun W => c_phnext b.ph b.lim W)
  clear hT hX hw1
  cases hf : brFine b
  case false =>
    have HE : Hid (brFire b = (b, [], 1)) := Lib.hid (if_pos hf)
    rw [hf] at CF
    clear hf CR CP
    go_enter Tryz.func123, Tryz.ntmps123
    go_upto_region 1 with fail
    rw [HW.out]
    go_wp2_with (refine ldr (b := w.heap.size) (t := 139) (cs := brC b) (.tmp 1) rfl rfl Tryz.underlying139 rfl info_bar rfl ?_ ?_; (· exact HX.out.box))
    refine (CF.out _ HX.out.up).mono ?_; rintro e w2 ⟨rfl, hb⟩
    have HA := Lib.hid (HX.out.next hb)
    clear hb
    go_wp2_with (first | (refine ldr (b := w.heap.size) (t := 139) (cs := brC b) (.tmp 1) rfl rfl Tryz.underlying139 rfl info_bar rfl ?_ ?_; (· exact HA.out.box)) | (refine str (b := w.heap.size + 1) (t := 139) (cs := brC b) (ds := brZ) (.tmp 2) (.tmp 13) rfl rfl rfl rfl info_bar rfl brC_one ?_ ?_; (· exact HA.out.res)))
    refine bodyPost_ret (v := .tuple #[.agg (brC b).toArray, .slice none 0 0, .int .i64 1]) (results_cee (fn := Tryz.f123) (p := 2) (t := 3) (u := 4) rfl _ _ _ rfl (HA.out.res.row _) Tryz.underlying139 rfl info_bar) rfl ?_
    rw [HE.out]
    exact ⟨none, 0, rfl, RD.nil _ _ _ _, below_setRow HA.out.up (by omega) _⟩
  rw [hf] at CF
  have hp := ((brFine_iff b).1 hf).2
  have hr := ((brFine_iff b).1 hf).1
  cases hu : rlFull b.r
  case false =>
    have HE : Hid (brFire b = (b, [], 13)) := Lib.hid (by unfold brFire; rw [if_neg (by rw [hf]; decide), if_pos (brReady_full hu)])
    rw [show rlFire b.r = (RL.zero, [], 13) by unfold rlFire; rw [if_neg (by rw [hr]; decide), if_pos hu]] at CR
    generalize phNext b.ph b.lim = y at CP
    generalize phErr b.ph b.lim = z at CP
    clear hf hp hr hu
    go_enter Tryz.func123, Tryz.ntmps123
    go_upto_region 1 with fail
    rw [HW.out]
    go_wp2_with (refine ldr (b := w.heap.size) (t := 139) (cs := brC b) (.tmp 1) rfl rfl Tryz.underlying139 rfl info_bar rfl ?_ ?_; (· exact HX.out.box))
    refine (CF.out _ HX.out.up).mono ?_; rintro e w2 ⟨rfl, hb⟩
    have HA := Lib.hid (HX.out.next hb)
    clear hb
    go_wp2_with (refine lmr (b := w.heap.size) (q := 2) (cs := rlC b.r) (.tmp 15) rfl rfl Tryz.underlying137 rfl info_roll rfl ?_ ?_; (· exact HA.out.box.part 2 8 rfl))
    refine (CR.out _ HA.out.up).mono ?_; rintro e w3 ⟨A, c, rfl, -, hb⟩
    have HB := Lib.hid (HA.out.next (up_trans hb (up_alloc w3 (.cells (rlC RL.zero).toArray 137))))
    clear hb
    obtain ⟨al, lim, ph⟩ := HB.out.box.br
    go_wp2_with (refine snr (W := w3) (cs := rlC RL.zero) (zs := rlZ) (t := 137) (.tmp 5) (.tmp 18) rfl rfl rfl rfl info_roll rfl rlC_one ?_ ?_ ?_; (· rfl); (· rfl))
    refine (CP.out _).mono ?_; rintro e w4 ⟨rfl, rfl⟩
    go_wp2_with (first | (refine ldr (b := w.heap.size) (t := 139) (cs := brC b) (.tmp 1) rfl rfl Tryz.underlying139 rfl info_bar rfl ?_ ?_; (· exact HB.out.box)) | (refine str (b := w.heap.size + 1) (t := 139) (cs := brC b) (ds := brZ) (.tmp 2) (.tmp 36) rfl rfl rfl rfl info_bar rfl brC_one ?_ ?_; (· exact HB.out.res)))
    refine bodyPost_ret (v := .tuple #[.agg (brC b).toArray, .slice none 0 0, .int .i64 13]) (results_cee (fn := Tryz.f123) (p := 2) (t := 3) (u := 4) rfl _ _ _ rfl (HB.out.res.row _) Tryz.underlying139 rfl info_bar) rfl ?_
    rw [HE.out]
    exact ⟨none, 0, rfl, RD.nil _ _ _ _, below_setRow HB.out.up (by omega) _⟩
  rw [show rlFire b.r = (⟨b.r.m, S4.zero⟩, b.r.a.ints, 0) by unfold rlFire; rw [if_neg (by rw [hr]; decide), if_neg (by rw [hu]; decide)]] at CR
  by_cases hl : b.ph = b.lim
  case pos =>
    have HE : Hid (brFire b = (b, [], 13)) := Lib.hid (by unfold brFire; rw [if_neg (by rw [hf]; decide), if_pos (brReady_end hl)])
    rw [phErr_end hp hl] at CP
    generalize phNext b.ph b.lim = y at CP
    clear hf hp hr hu hl
    go_enter Tryz.func123, Tryz.ntmps123
    go_upto_region 1 with fail
    rw [HW.out]
    go_wp2_with (refine ldr (b := w.heap.size) (t := 139) (cs := brC b) (.tmp 1) rfl rfl Tryz.underlying139 rfl info_bar rfl ?_ ?_; (· exact HX.out.box))
    refine (CF.out _ HX.out.up).mono ?_; rintro e w2 ⟨rfl, hb⟩
    have HA := Lib.hid (HX.out.next hb)
    clear hb
    go_wp2_with (refine lmr (b := w.heap.size) (q := 2) (cs := rlC b.r) (.tmp 15) rfl rfl Tryz.underlying137 rfl info_roll rfl ?_ ?_; (· exact HA.out.box.part 2 8 rfl))
    refine (CR.out _ HA.out.up).mono ?_; rintro e w3 ⟨A, c, rfl, -, hb⟩
    have HB := Lib.hid (HA.out.next (up_trans hb (up_alloc w3 (.cells (rlC ⟨b.r.m, S4.zero⟩).toArray 137))))
    clear hb
    obtain ⟨al, lim, ph⟩ := HB.out.box.br
    go_wp2_with (refine snr (W := w3) (cs := rlC ⟨b.r.m, S4.zero⟩) (zs := rlZ) (t := 137) (.tmp 5) (.tmp 18) rfl rfl rfl rfl info_roll rfl rlC_one ?_ ?_ ?_; (· rfl); (· rfl))
    refine (CP.out _).mono ?_; rintro e w4 ⟨rfl, rfl⟩
    go_wp2_with (first | (refine ldr (b := w.heap.size) (t := 139) (cs := brC b) (.tmp 1) rfl rfl Tryz.underlying139 rfl info_bar rfl ?_ ?_; (· exact HB.out.box)) | (refine str (b := w.heap.size + 1) (t := 139) (cs := brC b) (ds := brZ) (.tmp 2) (.tmp 36) rfl rfl rfl rfl info_bar rfl brC_one ?_ ?_; (· exact HB.out.res)))
    refine bodyPost_ret (v := .tuple #[.agg (brC b).toArray, .slice none 0 0, .int .i64 13]) (results_cee (fn := Tryz.f123) (p := 2) (t := 3) (u := 4) rfl _ _ _ rfl (HB.out.res.row _) Tryz.underlying139 rfl info_bar) rfl ?_
    rw [HE.out]
    exact ⟨none, 0, rfl, RD.nil _ _ _ _, below_setRow HB.out.up (by omega) _⟩
  have HE : Hid (brFire b = (⟨b.al, b.lim, ⟨b.r.m, S4.zero⟩, b.ph + 1⟩, b.r.a.ints, 0)) := Lib.hid (by unfold brFire; rw [if_neg (by rw [hf]; decide), if_neg (by rw [brReady_yes hf hu hl]; decide)])
  rw [phErr_on hp hl, phNext_on hp hl] at CP
  clear hf hp hr hu hl
  rw [HE.out]
  generalize b.ph + 1 = y at CP ⊢
  generalize (⟨b.r.m, S4.zero⟩ : RL) = R at CR ⊢
  generalize b.r.a.ints = L at CR ⊢
  have HBD := Lib.hid (built_bar b.al b.lim R y)
  go_enter Tryz.func123, Tryz.ntmps123
  go_upto_region 1 with fail
  rw [HW.out]
  go_wp2_with (refine ldr (b := w.heap.size) (t := 139) (cs := brC b) (.tmp 1) rfl rfl Tryz.underlying139 rfl info_bar rfl ?_ ?_; (· exact HX.out.box))
  refine (CF.out _ HX.out.up).mono ?_; rintro e w2 ⟨rfl, hb⟩
  have HA := Lib.hid (HX.out.next hb)
  clear hb
  go_wp2_with (refine lmr (b := w.heap.size) (q := 2) (cs := rlC b.r) (.tmp 15) rfl rfl Tryz.underlying137 rfl info_roll rfl ?_ ?_; (· exact HA.out.box.part 2 8 rfl))
  refine (CR.out _ HA.out.up).mono ?_; rintro e w3 ⟨A, c, rfl, hR, hb⟩
  have hq := up_alloc w3 (.cells (rlC R).toArray 137)
  have HB := Lib.hid (HA.out.next (up_trans hb hq))
  have K := Lib.hid (Blk.new w3 (rlC R) 137)
  have HR := Lib.hid (hR.below hq)
  clear hb hq hR
  obtain ⟨al, lim, ph⟩ := HB.out.box.br
  go_wp2_with (refine snr (W := w3) (cs := rlC R) (zs := rlZ) (t := 137) (.tmp 5) (.tmp 18) rfl rfl rfl rfl info_roll rfl rlC_one ?_ ?_ ?_; (· rfl); (· rfl))
  refine (CP.out _).mono ?_; rintro e w4 ⟨rfl, rfl⟩
  go_wp2_with (first | (refine ldr (b := w3.heap.size) (t := 137) (cs := rlC R) (.tmp 5) rfl rfl Tryz.underlying137 rfl info_roll rfl ?_ ?_; (· exact K.out)) | (refine wpList_buildTo rfl 139 _ rfl (some 41) rfl (brC ⟨b.al, b.lim, R, y⟩).toArray ?_ ?_; (· simpa [Act.eval] using HBD.out)) | (refine str (b := w.heap.size + 1) (t := 139) (cs := brC ⟨b.al, b.lim, R, y⟩) (ds := brZ) (.tmp 2) (.tmp 41) rfl rfl rfl rfl info_bar rfl brC_one ?_ ?_; (· exact HB.out.res)))
  refine bodyPost_ret (v := .tuple #[.agg (brC ⟨b.al, b.lim, R, y⟩).toArray, .slice A L.length c, .int .i64 0]) (results_cee (fn := Tryz.f123) (p := 2) (t := 3) (u := 4) rfl _ _ _ rfl (HB.out.res.row _) Tryz.underlying139 rfl info_bar) rfl ?_
  have ho := (Only.refl (· = w.heap.size + 1) (w3.alloc (.cells (rlC R).toArray 137))).row rfl (brC ⟨b.al, b.lim, R, y⟩).toArray
  have hz := HA.out.res.lt
  exact ⟨A, c, rfl, (HR.out.only ho (fun k hk hl => by omega)).lo (fun b hb => by omega), below_setRow HB.out.up (by omega) _⟩

theorem ready_fire (b : BR) : brReady b = !brEq (brFire b).1 b := by
  cases hf : brFine b
  · rw [show brFire b = (b, [], 1) from if_pos hf]
    unfold brReady
    rw [hf, brEq_refl]
    rfl
  · cases hr : brReady b
    · rw [show brFire b = (b, [], 13) by unfold brFire; rw [if_neg (by rw [hf]; decide), if_pos hr]]
      rw [brEq_refl]
      rfl
    · rw [show brFire b = (⟨b.al, b.lim, ⟨b.r.m, S4.zero⟩, b.ph + 1⟩, b.r.a.ints, 0) by unfold brFire; rw [if_neg (by rw [hf]; decide), if_neg (by rw [hr]; decide)]]
      rw [brEq_ph (show b.ph + 1 ≠ b.ph by omega)]
      rfl

set_option maxRecDepth 100000 in
set_option maxHeartbeats 1000000 in
theorem c_brready (b : BR) (w : World) (hT : TabD w) :
    Calls Tryz.prog 96 #[.agg (brC b).toArray] w fun e w' => e = .returned (.bool (brReady b)) ∧ Below w.heap.size w w' := by
  have hX := bx1 w (brC b) 139
  generalize hw1 : w.alloc (.cells (brC b).toArray 139) = w1 at hX
  have HW := Lib.hid hw1
  have HX := Lib.hid hX
  have CR := Lib.hid (fun W (hW : Below w.heap.size w W) => c_brfire b W (hT.up hW))
  rw [ready_fire]
  generalize brFire b = F at CR ⊢
  obtain ⟨F, L, x⟩ := F
  have hq := run_eqB F b
  generalize brEq F b = q at hq ⊢
  clear hT hX hw1
  go_enter Tryz.func96, Tryz.ntmps96
  go_upto_region 1 with fail
  rw [HW.out]
  go_wp2_with (refine ldr (b := w.heap.size) (t := 139) (cs := brC b) (.tmp 1) rfl rfl Tryz.underlying139 rfl info_bar rfl ?_ ?_; (· exact HX.out.box))
  refine (CR.out _ HX.out.up).mono ?_; rintro e w2 ⟨A, c, rfl, -, hb⟩
  have HB := Lib.hid (HX.out.next (up_trans hb (up_alloc w2 (.cells (brC F).toArray 139))))
  have K := Lib.hid (Blk.new w2 (brC F) 139)
  clear hb
  cases q
  all_goals
    go_wp2_with (first | (refine snr (W := w2) (cs := brC F) (zs := brZ) (t := 139) (.tmp 3) (.tmp 9) rfl rfl rfl rfl info_bar rfl brC_one ?_ ?_ ?_; (· rfl); (· rfl)) | (refine ldr (b := w2.heap.size) (t := 139) (cs := brC F) (.tmp 3) rfl rfl Tryz.underlying139 rfl info_bar rfl ?_ ?_; (· exact K.out)) | (refine ldr (b := w.heap.size) (t := 139) (cs := brC b) (.tmp 1) rfl rfl Tryz.underlying139 rfl info_bar rfl ?_ ?_; (· exact HB.out.box)) | rw [hq])
    go_ret
    exact ⟨rfl, HB.out.up⟩
end Go.Proofs.YtdiiilnebepfdaaGreatDoor

/- A roll in memory; package roll's Fine and check. -/
import Derived.Test.YtlfglibepldjpaaDoorBxb
import Derived.Test.YtlfglibepldjpaaDoorRw
import Derived.Test.YtlfglibepldjpaaDoorRla
import Derived.BigQuiet
import Derived.Deep.QuietTactic
import Derived.Deep.DeepCutAuto
import Derived.StillTailTactics
import Derived.WalkLawsBesides
namespace Go.Proofs.YtlfglibepldjpaaDoor
open Go.RowKit

/-- A roll's cells. -/
def rlC (r : RL) : List Value := [.int .u64 (r.m.a.toNat : Int), .int .u64 (r.m.b.toNat : Int), .int .u64 (r.m.c.toNat : Int), .int .u64 (r.m.d.toNat : Int), .int .u64 (r.a.a.toNat : Int), .int .u64 (r.a.b.toNat : Int), .int .u64 (r.a.c.toNat : Int), .int .u64 (r.a.d.toNat : Int)]
abbrev rlZ : List Value := [.int .u64 0, .int .u64 0, .int .u64 0, .int .u64 0, .int .u64 0, .int .u64 0, .int .u64 0, .int .u64 0]
theorem rlZ_eq : rlC RL.zero = rlZ := rfl
theorem rlC_one {r : RL} : ∀ v ∈ rlC r, v.oneCell' = true := by
  intro v hv
  unfold rlC at hv
  simp only [List.mem_cons, List.not_mem_nil, or_false] at hv
  rcases hv with rfl | rfl | rfl | rfl | rfl | rfl | rfl | rfl <;> rfl
theorem info_roll : (Tryd.prog.info? 64).map (·.size) = some 8 := by kernel_rfl
/-- Its two sets' cells. -/
structure RCell (w : World) (b : Nat) (r : RL) : Prop where
  m0 : w.cell? ⟨b, 0, none⟩ = some (.int .u64 (r.m.a.toNat : Int))
  m1 : w.cell? ⟨b, 1, none⟩ = some (.int .u64 (r.m.b.toNat : Int))
  m2 : w.cell? ⟨b, 2, none⟩ = some (.int .u64 (r.m.c.toNat : Int))
  m3 : w.cell? ⟨b, 3, none⟩ = some (.int .u64 (r.m.d.toNat : Int))
  a0 : w.cell? ⟨b, 4, none⟩ = some (.int .u64 (r.a.a.toNat : Int))
  a1 : w.cell? ⟨b, 5, none⟩ = some (.int .u64 (r.a.b.toNat : Int))
  a2 : w.cell? ⟨b, 6, none⟩ = some (.int .u64 (r.a.c.toNat : Int))
  a3 : w.cell? ⟨b, 7, none⟩ = some (.int .u64 (r.a.d.toNat : Int))
theorem Blk.rl {w : World} {b : Nat} {r : RL} {t : TypeId} (h : Blk w b (rlC r) t) : RCell w b r :=
  ⟨h.cell 0 _ rfl, h.cell 1 _ rfl, h.cell 2 _ rfl, h.cell 3 _ rfl, h.cell 4 _ rfl, h.cell 5 _ rfl, h.cell 6 _ rfl, h.cell 7 _ rfl⟩
theorem Blk.putM {w : World} {b : Nat} {r : RL} {t : TypeId} (h : Blk w b (rlC r) t) (s : S4) :
    Blk ((((w.setCell ⟨b, 0, none⟩ (.int .u64 (s.a.toNat : Int))).setCell ⟨b, 1, none⟩ (.int .u64 (s.b.toNat : Int))).setCell ⟨b, 2, none⟩ (.int .u64 (s.c.toNat : Int))).setCell ⟨b, 3, none⟩ (.int .u64 (s.d.toNat : Int))) b (rlC ⟨s, r.a⟩) t :=
  (((h.set 0 _).set 1 _).set 2 _).set 3 _
theorem Blk.putA {w : World} {b : Nat} {r : RL} {t : TypeId} (h : Blk w b (rlC r) t) (s : S4) :
    Blk ((((w.setCell ⟨b, 4, none⟩ (.int .u64 (s.a.toNat : Int))).setCell ⟨b, 5, none⟩ (.int .u64 (s.b.toNat : Int))).setCell ⟨b, 6, none⟩ (.int .u64 (s.c.toNat : Int))).setCell ⟨b, 7, none⟩ (.int .u64 (s.d.toNat : Int))) b (rlC ⟨r.m, s⟩) t :=
  (((h.set 4 _).set 5 _).set 6 _).set 7 _
/-- The world of a function that boxes its roll, and has a cell for its answer. -/
structure RBx (w wc : World) (r : RL) : Prop where
  up : Below w.heap.size w wc
  box : Blk wc w.heap.size (rlC r) 64
  res : Blk wc (w.heap.size + 1) rlZ 64
theorem bx2_rl (w : World) (r : RL) : RBx w ((w.alloc (.cells (rlC r).toArray 64)).alloc (.cells #[.int .u64 0, .int .u64 0, .int .u64 0, .int .u64 0, .int .u64 0, .int .u64 0, .int .u64 0, .int .u64 0] 64)) r :=
  have h := bx2 w (rlC r) 64 rlZ 64
  ⟨h.up, h.box, h.res⟩
theorem RBx.next {w w2 w3 : World} {r : RL} (h : RBx w w2 r) (hb : Below w2.heap.size w2 w3) : RBx w w3 r := ⟨up_trans h.up hb, h.box.up hb h.box.lt, h.res.up hb h.res.lt⟩
theorem box4 {w wc : World} (h : Below w.heap.size w wc) (i j k l : Nat) (x y z u : Value) :
    Below w.heap.size w ((((wc.setCell ⟨w.heap.size, i, none⟩ x).setCell ⟨w.heap.size, j, none⟩ y).setCell ⟨w.heap.size, k, none⟩ z).setCell ⟨w.heap.size, l, none⟩ u) :=
  (((h.setCell (p := ⟨w.heap.size, i, none⟩) (Nat.le_refl _) x).setCell (p := ⟨w.heap.size, j, none⟩) (Nat.le_refl _) y).setCell (p := ⟨w.heap.size, k, none⟩) (Nat.le_refl _) z).setCell (p := ⟨w.heap.size, l, none⟩) (Nat.le_refl _) u
theorem res4 {w wc : World} {cs : List Value} {t : TypeId} (h : Blk wc (w.heap.size + 1) cs t) (i j k l : Nat) (x y z u : Value) :
    Blk ((((wc.setCell ⟨w.heap.size, i, none⟩ x).setCell ⟨w.heap.size, j, none⟩ y).setCell ⟨w.heap.size, k, none⟩ z).setCell ⟨w.heap.size, l, none⟩ u) (w.heap.size + 1) cs t :=
  (((h.other ⟨w.heap.size, i, none⟩ (by simp) x).other ⟨w.heap.size, j, none⟩ (by simp) y).other ⟨w.heap.size, k, none⟩ (by simp) z).other ⟨w.heap.size, l, none⟩ (by simp) u
theorem RBx.putM {w wc : World} {r : RL} (h : RBx w wc r) (s : S4) :
    RBx w ((((wc.setCell ⟨w.heap.size, 0, none⟩ (.int .u64 (s.a.toNat : Int))).setCell ⟨w.heap.size, 1, none⟩ (.int .u64 (s.b.toNat : Int))).setCell ⟨w.heap.size, 2, none⟩ (.int .u64 (s.c.toNat : Int))).setCell ⟨w.heap.size, 3, none⟩ (.int .u64 (s.d.toNat : Int))) ⟨s, r.a⟩ :=
  ⟨box4 h.up _ _ _ _ _ _ _ _, h.box.putM s, res4 h.res _ _ _ _ _ _ _ _⟩
theorem RBx.putA {w wc : World} {r : RL} (h : RBx w wc r) (s : S4) :
    RBx w ((((wc.setCell ⟨w.heap.size, 4, none⟩ (.int .u64 (s.a.toNat : Int))).setCell ⟨w.heap.size, 5, none⟩ (.int .u64 (s.b.toNat : Int))).setCell ⟨w.heap.size, 6, none⟩ (.int .u64 (s.c.toNat : Int))).setCell ⟨w.heap.size, 7, none⟩ (.int .u64 (s.d.toNat : Int))) ⟨r.m, s⟩ :=
  ⟨box4 h.up _ _ _ _ _ _ _ _, h.box.putA s, res4 h.res _ _ _ _ _ _ _ _⟩
theorem TabD.up {w w' : World} (h : TabD w) (hb : Below w.heap.size w w') : TabD w' := tab_below h (tab_lt h) hb

set_option maxRecDepth 100000 in
set_option maxHeartbeats 1000000 in
theorem c_rlfine (r : RL) (w : World) (hT : TabD w) :
    Calls Tryd.prog 64 #[.agg (rlC r).toArray] w fun e w' => e = .returned (.bool (rlFine r)) ∧ Below w.heap.size w w' := by
  have hX := bx1 w (rlC r) 64
  generalize hw1 : w.alloc (.cells (rlC r).toArray 64) = w1 at hX
  have HW := Lib.hid hw1
  have HX := Lib.hid hX
  obtain ⟨y, hy⟩ := next_pair r.m.ints 16
  obtain ⟨q, hq⟩ : ∃ q, (nextL r.m.ints 16).2 = q := ⟨_, rfl⟩
  obtain ⟨z, hz⟩ : ∃ z, r.a.sub r.m = z := ⟨_, rfl⟩
  rw [hq] at hy
  have CN := Lib.hid (fun W (hW : Below w.heap.size w W) => c_nextS r.m 16 W (hT.up hW) hy)
  have CS := Lib.hid (fun W => c_subB hz W)
  have HF : Hid (rlFine r = (!q && z)) := Lib.hid (by unfold rlFine rlLow; rw [hq, hz])
  rw [HF.out]
  clear hT hX hw1 hy hq hz HF
  have k := HX.out.box.rl
  obtain ⟨m0, m1, m2, m3, a0, a1, a2, a3⟩ := k
  cases q
  · go_enter Tryd.func64, Tryd.ntmps64
    go_upto_region 1 with fail
    rw [HW.out]
    go_wp2_with fail
    refine (CN.out _ HX.out.up).mono ?_; rintro e w2 ⟨rfl, hb2⟩
    have HA := Lib.hid (HX.out.next hb2)
    clear m0 m1 m2 m3 a0 a1 a2 a3 hb2
    obtain ⟨m0, m1, m2, m3, a0, a1, a2, a3⟩ := HA.out.box.rl
    go_wp2_with fail
    refine (CS.out _).mono ?_; rintro e w3 ⟨rfl, hb3⟩
    go_wp2
    go_ret
    exact ⟨ret_bool (by simp), up_trans HA.out.up hb3⟩
  · go_enter Tryd.func64, Tryd.ntmps64
    go_upto_region 1 with fail
    rw [HW.out]
    go_wp2_with fail
    refine (CN.out _ HX.out.up).mono ?_; rintro e w2 ⟨rfl, hb2⟩
    go_wp2
    go_ret
    exact ⟨ret_bool (by simp), up_trans HX.out.up hb2⟩

set_option maxRecDepth 100000 in
set_option maxHeartbeats 1000000 in
theorem c_rlcheck (r : RL) (p : Int) (w : World) (hT : TabD w) :
    Calls Tryd.prog 92 #[.agg (rlC r).toArray, .int .i64 p] w fun e w' => e = .returned (.int .i64 (rlErr r p)) ∧ Below w.heap.size w w' := by
  have hX := bx1 w (rlC r) 64
  generalize hw1 : w.alloc (.cells (rlC r).toArray 64) = w1 at hX
  have HW := Lib.hid hw1
  have HX := Lib.hid hX
  have CF := Lib.hid (fun W (hW : Below w.heap.size w W) => c_rlfine r W (hT.up hW))
  clear hT hX hw1
  cases hf : rlFine r
  · rw [err_no hf]
    rw [hf] at CF
    clear hf
    go_enter Tryd.func92, Tryd.ntmps92
    go_upto_region 1 with fail
    rw [HW.out]
    go_wp2_with (refine ld_row HX.out.box rfl (.tmp 2) rfl rfl Tryd.underlying64 rfl info_roll ?_)
    refine (CF.out _ HX.out.up).mono ?_; rintro e w2 ⟨rfl, hb2⟩
    go_wp2
    go_ret
    exact ⟨rfl, up_trans HX.out.up hb2⟩
  · rw [hf] at CF
    by_cases h0 : p < 0
    · rw [err_out hf (.inl h0)]
      clear hf
      go_enter Tryd.func92, Tryd.ntmps92
      go_upto_region 1 with fail
      rw [HW.out]
      go_wp2_with (refine ld_row HX.out.box rfl (.tmp 2) rfl rfl Tryd.underlying64 rfl info_roll ?_)
      refine (CF.out _ HX.out.up).mono ?_; rintro e w2 ⟨rfl, hb2⟩
      go_wp2
      go_ret
      exact ⟨rfl, up_trans HX.out.up hb2⟩
    · have h0' : 0 ≤ p := by omega
      by_cases h1 : 16 ≤ p
      · rw [err_out hf (.inr h1)]
        clear hf
        go_enter Tryd.func92, Tryd.ntmps92
        go_upto_region 1 with fail
        rw [HW.out]
        go_wp2_with (refine ld_row HX.out.box rfl (.tmp 2) rfl rfl Tryd.underlying64 rfl info_roll ?_)
        refine (CF.out _ HX.out.up).mono ?_; rintro e w2 ⟨rfl, hb2⟩
        go_wp2
        go_ret
        exact ⟨rfl, up_trans HX.out.up hb2⟩
      · rw [err_ok hf h0' (by omega)]
        clear hf
        go_enter Tryd.func92, Tryd.ntmps92
        go_upto_region 1 with fail
        rw [HW.out]
        go_wp2_with (refine ld_row HX.out.box rfl (.tmp 2) rfl rfl Tryd.underlying64 rfl info_roll ?_)
        refine (CF.out _ HX.out.up).mono ?_; rintro e w2 ⟨rfl, hb2⟩
        go_wp2
        go_ret
        exact ⟨rfl, up_trans HX.out.up hb2⟩
end Go.Proofs.YtlfglibepldjpaaDoor

/- The document's rolls (layer 21) in memory, of lists that are sets' lists; its Fine and asked. -/
import Derived.Test.YtlfglibepldjpaaDoorBxd
import Derived.Test.YtlfglibepldjpaaDoorRw
import Derived.Test.YtlfglibepldjpaaDoorRla
import Derived.BigQuiet
import Derived.Deep.QuietTactic
import Derived.Deep.DeepCutAuto
import Derived.StillTailTactics
import Derived.WalkLawsBesides
namespace Go.Proofs.YtlfglibepldjpaaDoor
open Go.RowKit

abbrev tt : Nat → Prop := fun _ => True
/-- Where a document's roll has its two lists. -/
structure DM where
  A : Option Addr
  c : Nat
  B : Option Addr
  d : Nat
def dlC (r : RL) (M : DM) : List Value := [.slice M.A r.m.ints.length M.c, .slice M.B r.a.ints.length M.d]
abbrev dlZ : List Value := [.slice none 0 0, .slice none 0 0]
theorem dlC_one {r : RL} {M : DM} : ∀ v ∈ dlC r M, v.oneCell' = true := by
  intro v hv
  unfold dlC at hv
  simp only [List.mem_cons, List.not_mem_nil, or_false] at hv
  rcases hv with rfl | rfl <;> rfl
theorem info_dl : (Tryd.prog.info? 71).map (·.size) = some 2 := by kernel_rfl
theorem Blk.dl {w : World} {b : Nat} {r : RL} {M : DM} {t : TypeId} (h : Blk w b (dlC r M) t) : w.cell? ⟨b, 0, none⟩ = some (.slice M.A r.m.ints.length M.c) ∧ w.cell? ⟨b, 1, none⟩ = some (.slice M.B r.a.ints.length M.d) := ⟨h.cell 0 _ rfl, h.cell 1 _ rfl⟩
/-- The lists read so. -/
structure DW (w : World) (pl : Nat → Prop) (r : RL) (M : DM) : Prop where
  m : RD w pl 1 M.A r.m.ints.length (r.m.ints.map (Value.int .i64))
  a : RD w pl 1 M.B r.a.ints.length (r.a.ints.map (Value.int .i64))
theorem DW.below {w w' : World} {pl : Nat → Prop} {r : RL} {M : DM} (h : DW w pl r M) (hb : Below w.heap.size w w') : DW w' pl r M := ⟨h.m.below hb, h.a.below hb⟩
theorem DW.lo {w : World} {pl pl' : Nat → Prop} {r : RL} {M : DM} (h : DW w pl r M) (hl : ∀ b, pl b → pl' b) : DW w pl' r M := ⟨h.m.lo hl, h.a.lo hl⟩
theorem DW.only {s : Nat → Prop} {w w' : World} {pl : Nat → Prop} {r : RL} {M : DM} (h : DW w pl r M) (o : Only s w w') (hs : ∀ k, s k → ¬ pl k) : DW w' pl r M := ⟨h.m.only o hs, h.a.only o hs⟩
/-- The two blocks that a function lays for itself: its roll's box, and its answer's cell. -/
def two2 (w : World) : Nat → Prop := fun k => k = w.heap.size ∨ k = w.heap.size + 1
def not2 (w : World) : Nat → Prop := fun b => ¬ two2 w b
/-- Where lists may lie behind a call: where they lay, or in new blocks. -/
def plN (pl : Nat → Prop) (w : World) : Nat → Prop := fun b => pl b ∨ w.heap.size ≤ b
/-- The same, but for the two blocks. -/
def pl2 (pl : Nat → Prop) (w : World) : Nat → Prop := fun b => plN pl w b ∧ not2 w b
theorem DW.old {w : World} {pl : Nat → Prop} {r : RL} {M : DM} (h : DW w pl r M) : DW w (pl2 pl w) r M := ⟨h.m.lt.lo fun b hb => by unfold pl2 plN not2 two2; exact ⟨.inl hb.1, by omega⟩, h.a.lt.lo fun b hb => by unfold pl2 plN not2 two2; exact ⟨.inl hb.1, by omega⟩⟩
theorem Only.two2_below {w a b : World} (h : Only (two2 w) a b) (hw : Below w.heap.size w a) : Below w.heap.size w b := hw.trans (h.toBelow hw.size (fun k hk => by rcases hk with rfl | rfl <;> omega))
/-- A roll's box that is written to, and a cell for the answer. -/
structure DBx (pl : Nat → Prop) (w wc : World) (r : RL) (M : DM) : Prop where
  up : Below w.heap.size w wc
  box : Blk wc w.heap.size (dlC r M) 71
  res : Blk wc (w.heap.size + 1) dlZ 71
  dw : DW wc (pl2 pl w) r M
theorem DBx.next {pl : Nat → Prop} {w wc wd : World} {r : RL} {M : DM} (h : DBx pl w wc r M) (hb : Below wc.heap.size wc wd) : DBx pl w wd r M := ⟨up_trans h.up hb, h.box.up hb h.box.lt, h.res.up hb h.res.lt, h.dw.below hb⟩
theorem DBx.big {pl : Nat → Prop} {w wc : World} {r : RL} {M : DM} (h : DBx pl w wc r M) : w.heap.size + 2 ≤ wc.heap.size := h.res.lt
theorem Only.box2 {w a b : World} (h : Only (two2 w) a b) (j : Nat) (u : Value) : Only (two2 w) a (b.setCell ⟨w.heap.size, j, none⟩ u) := h.setCell (.inl (.inl rfl)) u
theorem pl2_new {pl : Nat → Prop} {w : World} {n : Nat} (h : w.heap.size + 2 ≤ n) : ∀ b, n ≤ b → pl2 pl w b := fun b hb => by unfold pl2 plN not2 two2; exact ⟨.inr (by omega), by omega⟩
theorem pl2_no {pl : Nat → Prop} {w : World} : ∀ k, two2 w k → ¬ pl2 pl w k := fun _ h g => g.2 h
theorem DBx.putM {pl : Nat → Prop} {w wc : World} {r : RL} {M : DM} (h : DBx pl w wc r M) {n : Nat} {A : Option Addr} {c : Nat} {s : S4} (hr : RD wc (n ≤ ·) 1 A s.ints.length (s.ints.map (Value.int .i64))) (hn : w.heap.size + 2 ≤ n) :
    DBx pl w (wc.setCell ⟨w.heap.size, 0, none⟩ (.slice A s.ints.length c)) ⟨s, r.a⟩ ⟨A, c, M.B, M.d⟩ :=
  ⟨((Only.refl (two2 w) wc).box2 0 _).two2_below h.up, h.box.set 0 _, h.res.other ⟨w.heap.size, 0, none⟩ (by simp) _,
   (show DW wc (pl2 pl w) ⟨s, r.a⟩ ⟨A, c, M.B, M.d⟩ from ⟨hr.lo (pl2_new hn), h.dw.a⟩).only ((Only.refl (two2 w) wc).box2 0 _) pl2_no⟩
theorem DBx.putA {pl : Nat → Prop} {w wc : World} {r : RL} {M : DM} (h : DBx pl w wc r M) {n : Nat} {A : Option Addr} {c : Nat} {s : S4} (hr : RD wc (n ≤ ·) 1 A s.ints.length (s.ints.map (Value.int .i64))) (hn : w.heap.size + 2 ≤ n) :
    DBx pl w (wc.setCell ⟨w.heap.size, 1, none⟩ (.slice A s.ints.length c)) ⟨r.m, s⟩ ⟨M.A, M.c, A, c⟩ :=
  ⟨((Only.refl (two2 w) wc).box2 1 _).two2_below h.up, h.box.set 1 _, h.res.other ⟨w.heap.size, 1, none⟩ (by simp) _,
   (show DW wc (pl2 pl w) ⟨r.m, s⟩ ⟨M.A, M.c, A, c⟩ from ⟨h.dw.m, hr.lo (pl2_new hn)⟩).only ((Only.refl (two2 w) wc).box2 1 _) pl2_no⟩
theorem DBx.fin {pl : Nat → Prop} {w wc : World} {r : RL} {M : DM} (h : DBx pl w wc r M) (cs : Array Value) : DW (wc.setRow (w.heap.size + 1) cs) (plN pl w) r M ∧ Below w.heap.size w (wc.setRow (w.heap.size + 1) cs) :=
  ⟨(h.dw.only ((Only.refl (two2 w) wc).row (.inr rfl) cs) pl2_no).lo (fun _ hb => hb.1), ((Only.refl (two2 w) wc).row (.inr rfl) cs).two2_below h.up⟩
theorem dbx {pl : Nat → Prop} {w : World} {r : RL} {M : DM} (h : DW w pl r M) : DBx pl w ((w.alloc (.cells (dlC r M).toArray 71)).alloc (.cells #[.slice none 0 0, .slice none 0 0] 71)) r M :=
  have k := bx2 w (dlC r M) 71 dlZ 71
  ⟨k.up, k.box, k.res, h.old.below k.up⟩
/-- What a call gives that answers a document's roll and something more. -/
def DPostP (pl : Nat → Prop) (w : World) (r : RL) (x : Value) (e : Ending) (w' : World) : Prop :=
  ∃ M, e = .returned (.tuple #[.agg (dlC r M).toArray, x]) ∧ DW w' (plN pl w) r M ∧ Below w.heap.size w w'
def DPost (w : World) (r : RL) (x : Value) (e : Ending) (w' : World) : Prop :=
  ∃ M, e = .returned (.tuple #[.agg (dlC r M).toArray, x]) ∧ DW w' tt r M ∧ Below w.heap.size w w'
theorem DPostP.weak {pl : Nat → Prop} {w : World} {r : RL} {x : Value} {e : Ending} {w' : World} (h : DPostP pl w r x e w') : DPost w r x e w' := by
  obtain ⟨M, h1, h2, h3⟩ := h
  exact ⟨M, h1, h2.lo (fun _ _ => trivial), h3⟩

set_option maxRecDepth 100000 in
set_option maxHeartbeats 2000000 in
theorem c_dfine {pl : Nat → Prop} {r : RL} {M : DM} {w : World} (h : DW w pl r M) :
    Calls Tryd.prog 95 #[.agg (dlC r M).toArray] w fun e w' => e = .returned (.bool (rlFine r)) ∧ Below w.heap.size w w' := by
  have hX := bx1 w (dlC r M) 71
  generalize hw1 : w.alloc (.cells (dlC r M).toArray 71) = w1 at hX
  have HW := Lib.hid hw1
  have HX := Lib.hid hX
  have HD := Lib.hid h
  have hlen := len_le r.m
  unfold S4.len at hlen
  obtain ⟨q, hq⟩ : ∃ q, rlFine r = q := ⟨_, rfl⟩
  have HQ := Lib.hid hq
  have HF : Hid (rlFine r = (rlLow r.m && r.a.sub r.m)) := Lib.hid rfl
  rw [hq]
  clear h hX hw1 hq
  obtain ⟨m0, a0⟩ := HX.out.box.dl
  go_enter Tryd.func95, Tryd.ntmps95
  go_upto_region 1 with fail
  rw [HW.out]
  go_wp2_with fail
  go_loopw [3] (fun i wr => ∃ k : Nat, k ≤ r.m.ints.length ∧ i = .int .i64 k ∧ Hid (∀ x ∈ r.m.ints.take k, x ≤ 15) ∧ wr = w1) (fun i _ => r.m.ints.length - (intOf i).toNat)
  case atStart => exact ⟨0, Nat.zero_le _, rfl, Lib.hid (by simp), rfl⟩
  case round =>
    obtain ⟨k, hk, rfl, hlo, rfl⟩ := hrel
    by_cases hlt : k < r.m.ints.length
    · obtain ⟨bA, oA, hA, _, _, hcA⟩ := (HD.out.m.below HX.out.up).at_ (by omega)
      have h1 := hcA k (.int .i64 r.m.ints[k]) (by simp [hlt])
      have hx0 := (rise_range r.m.has _ (List.getElem_mem hlt)).1
      change 0 ≤ r.m.ints[k] at hx0
      have HM := Lib.hid (List.getElem_mem hlt)
      have HN := Lib.hid (take_next r.m.ints k r.m.ints[k] (List.getElem?_eq_getElem hlt))
      rw [hA] at m0
      have HLo := Lib.hid (low_iff r.m)
      clear hcA hA
      generalize r.m.ints[k] = x at h1 hx0 HM HN
      by_cases hx : x ≤ 15
      · go_wp2_with fail
        go_roundw
        case rel => exact ⟨k + 1, by omega, by go_num, Lib.hid (by
          rw [HN.out]
          intro z hz
          rcases List.mem_append.1 hz with hz | hz
          · exact hlo.out z hz
          · rw [List.mem_singleton.1 hz]
            exact hx), trivial⟩
        case measure => simp [intOf]; omega
      · have hq0 : q = false := by
          rw [← HQ.out, HF.out]
          cases hl : rlLow r.m
          · rfl
          · exact absurd (HLo.out.1 hl x HM.out) hx
        subst hq0
        have hx1 : 15 < x := by omega
        clear hx
        go_wp2_with fail
        go_ret
        exact ⟨rfl, HX.out.up⟩
    · obtain rfl : k = r.m.ints.length := by omega
      have HF : Hid (q = r.a.sub r.m) := Lib.hid (by
        rw [← HQ.out, HF.out]
        rw [(low_iff r.m).2 (by have := hlo.out; rwa [List.take_length] at this), Bool.true_and])
      have CL := Lib.hid (c_rlessS (c := M.d) (c2 := M.c) (HD.out.a.below HX.out.up) (HD.out.m.below HX.out.up))
      have HS : Hid (r.a.sub r.m = decide ((r.a.les r.m).ints.length = 0)) := Lib.hid rfl
      generalize (r.a.les r.m).ints = L at CL HS
      go_wp2_with fail
      refine CL.out.mono ?_; rintro e w3 ⟨A3, c3, rfl, -, -, -, hb3⟩
      go_wp2
      go_ret
      exact ⟨ret_bool (by rw [HF.out, HS.out]; simp [Bool.beq_eq_decide_eq]), up_trans HX.out.up hb3⟩

set_option maxRecDepth 100000 in
set_option maxHeartbeats 1000000 in
theorem c_dasked {pl : Nat → Prop} {r : RL} {M : DM} {w : World} (h : DW w pl r M) (p : Int) :
    Calls Tryd.prog 96 #[.agg (dlC r M).toArray, .int .i64 p] w fun e w' => e = .returned (.int .i64 (rlErr r p)) ∧ Below w.heap.size w w' := by
  have hX := bx1 w (dlC r M) 71
  generalize hw1 : w.alloc (.cells (dlC r M).toArray 71) = w1 at hX
  have HW := Lib.hid hw1
  have HX := Lib.hid hX
  have CF := Lib.hid (c_dfine (h.below hX.up))
  clear h hX hw1
  cases hf : rlFine r
  · rw [err_no hf]
    rw [hf] at CF
    clear hf
    go_enter Tryd.func96, Tryd.ntmps96
    go_upto_region 1 with fail
    rw [HW.out]
    go_wp2_with (refine ldr (b := w.heap.size) (t := 71) (cs := dlC r M) (.tmp 2) rfl rfl Tryd.underlying71 rfl info_dl rfl ?_ ?_; (· exact HX.out.box))
    refine CF.out.mono ?_; rintro e w2 ⟨rfl, hb2⟩
    go_wp2
    go_ret
    exact ⟨rfl, up_trans HX.out.up hb2⟩
  · rw [hf] at CF
    rcases (by omega : p < 0 ∨ (0 ≤ p ∧ 16 ≤ p) ∨ (0 ≤ p ∧ p ≤ 15)) with h0 | ⟨h0, h1⟩ | ⟨h0, h1⟩
    · rw [err_out hf (.inl h0)]
      clear hf
      go_enter Tryd.func96, Tryd.ntmps96
      go_upto_region 1 with fail
      rw [HW.out]
      go_wp2_with (refine ldr (b := w.heap.size) (t := 71) (cs := dlC r M) (.tmp 2) rfl rfl Tryd.underlying71 rfl info_dl rfl ?_ ?_; (· exact HX.out.box))
      refine CF.out.mono ?_; rintro e w2 ⟨rfl, hb2⟩
      go_wp2
      go_ret
      exact ⟨rfl, up_trans HX.out.up hb2⟩
    · rw [err_out hf (.inr h1)]
      have h2 : 15 < p := by omega
      clear hf h1
      go_enter Tryd.func96, Tryd.ntmps96
      go_upto_region 1 with fail
      rw [HW.out]
      go_wp2_with (refine ldr (b := w.heap.size) (t := 71) (cs := dlC r M) (.tmp 2) rfl rfl Tryd.underlying71 rfl info_dl rfl ?_ ?_; (· exact HX.out.box))
      refine CF.out.mono ?_; rintro e w2 ⟨rfl, hb2⟩
      go_wp2
      go_ret
      exact ⟨rfl, up_trans HX.out.up hb2⟩
    · rw [err_ok hf h0 (by omega)]
      clear hf
      go_enter Tryd.func96, Tryd.ntmps96
      go_upto_region 1 with fail
      rw [HW.out]
      go_wp2_with (refine ldr (b := w.heap.size) (t := 71) (cs := dlC r M) (.tmp 2) rfl rfl Tryd.underlying71 rfl info_dl rfl ?_ ?_; (· exact HX.out.box))
      refine CF.out.mono ?_; rintro e w2 ⟨rfl, hb2⟩
      go_wp2
      go_ret
      exact ⟨rfl, up_trans HX.out.up hb2⟩
end Go.Proofs.YtlfglibepldjpaaDoor

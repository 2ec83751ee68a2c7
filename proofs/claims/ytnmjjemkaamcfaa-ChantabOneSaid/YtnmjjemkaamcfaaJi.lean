/- Package channel: Do, where a value passes from one to another one. -/
import Derived.Test.YtnmjjemkaamcfaaJh
import Derived.BigRegion
import Derived.OrdersHeld
import Derived.Deep.RegionHeld3
import Derived.Deep.CutBlock
namespace Go.Proofs.Ytnmjjemkaamcfaa
open Go.RowKit

/-- What Do's own blocks hold: the channel's box, the cells of the two answers. -/
structure DoX (w wc : World) (C : CP) (M : SM) : Prop where
  up : Below w.heap.size w wc
  box : Blk wc w.heap.size (chC C M) 73
  res : Blk wc (w.heap.size + 1) chZ 73
  mres : Blk wc (w.heap.size + 2) [.int .i64 0, .int .i64 0, .int .i64 0] 34
theorem dox (w : World) (C : CP) (M : SM) : DoX w (((w.alloc (.cells (chC C M).toArray 73)).alloc (.cells #[.int .i64 0, .int .i64 0, .int .i64 0, .int .i64 0, .int .i64 0, .slice none 0 0, .bool false, .slice none 0 0, .slice none 0 0, .bool false, .slice none 0 0] 73)).alloc (.cells #[.int .i64 0, .int .i64 0, .int .i64 0] 34)) C M := by
  have h := bx2_ch w C M
  refine ⟨up_trans h.up (up_alloc _ _), h.box.alloc _, h.res.alloc _, ?_⟩
  have := Blk.new ((w.alloc (.cells (chC C M).toArray 73)).alloc (.cells #[.int .i64 0, .int .i64 0, .int .i64 0, .int .i64 0, .int .i64 0, .slice none 0 0, .bool false, .slice none 0 0, .slice none 0 0, .bool false, .slice none 0 0] 73)) [.int .i64 0, .int .i64 0, .int .i64 0] 34
  rw [show ((w.alloc (.cells (chC C M).toArray 73)).alloc (.cells #[.int .i64 0, .int .i64 0, .int .i64 0, .int .i64 0, .int .i64 0, .slice none 0 0, .bool false, .slice none 0 0, .slice none 0 0, .bool false, .slice none 0 0] 73)).heap.size = w.heap.size + 2 by simp] at this
  exact this
theorem DoX.next {w wc wd : World} {C : CP} {M : SM} (h : DoX w wc C M) (hb : Below wc.heap.size wc wd) : DoX w wd C M :=
  ⟨up_trans h.up hb, h.box.up hb h.box.lt, h.res.up hb h.res.lt, h.mres.up hb h.mres.lt⟩
theorem DoX.put {w wc : World} {C : CP} {M : SM} (h : DoX w wc C M) {g : Nat} (hg : w.heap.size + 2 < g) (j : Nat) (u : Value) : DoX w (wc.setCell ⟨g, j, none⟩ u) C M :=
  ⟨below_put h.up (by omega) j u (Nat.le_refl _), h.box.other ⟨g, j, none⟩ (show w.heap.size ≠ g by omega) u, h.res.other ⟨g, j, none⟩ (show w.heap.size + 1 ≠ g by omega) u, h.mres.other ⟨g, j, none⟩ (show w.heap.size + 2 ≠ g by omega) u⟩
/-- What stays so while Do gives back its answers. -/
structure DoS (w : World) (mb : Nat) (C : CP) (M : SM) (x y z : Int) (W : World) : Prop where
  up : Below w.heap.size w W
  box : Blk W w.heap.size (chC C M) 73
  m : Blk W mb [.int .i64 x, .int .i64 y, .int .i64 z] 34
  res : ∃ ds, ds.length = 11 ∧ Blk W (w.heap.size + 1) ds 73
  mres : ∃ a b c, Blk W (w.heap.size + 2) [a, b, c] 34
theorem DoS.next {w W W' : World} {mb : Nat} {C : CP} {M : SM} {x y z : Int} (h : DoS w mb C M x y z W) (hb : Below W.heap.size W W') : DoS w mb C M x y z W' := by
  obtain ⟨ds, hd, hr⟩ := h.res
  obtain ⟨a, b, c, hm⟩ := h.mres
  exact ⟨up_trans h.up hb, h.box.up hb h.box.lt, h.m.up hb h.m.lt, ⟨ds, hd, hr.up hb hr.lt⟩, ⟨a, b, c, hm.up hb hm.lt⟩⟩
theorem DoX.held {w W : World} {mb : Nat} {C : CP} {M : SM} {x y z : Int} (h : DoX w W C M) (k : Blk W mb [.int .i64 x, .int .i64 y, .int .i64 z] 34) : DoS w mb C M x y z W := ⟨h.up, h.box, k, ⟨_, rfl, h.res⟩, ⟨_, _, _, h.mres⟩⟩
theorem take_load {P : Program} {o : Oper} {a : Act} {W : World} {ty : TypeId} {x : Operand} {b : Nat} {v : Value} (ho : o.op = .load ty x) (hx : a.eval x = .pointer (some ⟨b, 0, none⟩)) (hl : (loadVar ty ⟨b, 0, none⟩).run P W = .ok v W) :
    (execOp a.eval o).run P W = .ok (.value v) W := by
  unfold execOp
  simp only [ho, hx, Instr.loadAt, Instr.sureAddr, Sem.run_bind, Sem.run_pure, Result.andThen_ok, hl]
/-- The blocks that Do lays for itself. -/
def own3 (w : World) : Nat → Prop := fun k => w.heap.size ≤ k ∧ k < w.heap.size + 3
def pl3 (w : World) (pl : Nat → Prop) : Nat → Prop := fun b => pl b ∧ ¬ own3 w b
theorem pl3_no {w : World} {pl : Nat → Prop} : ∀ k, own3 w k → ¬ pl3 w pl k := fun _ h g => g.2 h
theorem pl3_new {w W : World} {pl : Nat → Prop} (hp : ∀ b, w.heap.size ≤ b → pl b) (hW : w.heap.size + 3 ≤ W.heap.size) : ∀ b, W.heap.size ≤ b → pl3 w pl b := fun b hb => ⟨hp b (by omega), by unfold own3; omega⟩
theorem LnW.old3 {w : World} {pl : Nat → Prop} {A : Option Addr} {n c : Nat} {L : List Int} (h : LnW w pl A n c L) : LnW w (pl3 w pl) A n c L := ⟨h.rd.lt.lo fun b hb => ⟨hb.1, by unfold own3; omega⟩, h.len, h.nc, h.cm⟩
theorem ChW.old3 {w : World} {pl : Nat → Prop} {C : CP} {M : SM} (h : ChW w pl C M) : ChW w (pl3 w pl) C M := ⟨h.v.old3, h.w_.old3, h.s.old3, h.g.old3⟩
theorem Only.res3 {w a b : World} (h : Only (own3 w) a b) (cs : Array Value) : Only (own3 w) a (b.setRow (w.heap.size + 1) cs) := h.row ⟨by omega, by omega⟩ cs
theorem Only.mres3 {w a b : World} (h : Only (own3 w) a b) (j : Nat) (u : Value) : Only (own3 w) a (b.setCell ⟨w.heap.size + 2, j, none⟩ u) := h.setCell (.inl ⟨by show w.heap.size ≤ w.heap.size + 2; omega, by show w.heap.size + 2 < w.heap.size + 3; omega⟩) u
theorem Only.own_below {w a b : World} (h : Only (own3 w) a b) (hw : Below w.heap.size w a) : Below w.heap.size w b := hw.trans (h.toBelow hw.size (fun _ hk => hk.1))
/-- A struct and a struct and a number as results. -/
theorem results_cce {P : Program} {fn : Func} {p q t : Tmp} {ty tz : TypeId} {d d' : TypeDesc} (hr : fn.results = #[.cell p ty, .cell q tz, .tmp t]) (tmps : Array Value) (w : World) (b g : Nat) {cs ds : List Value} {t' t'' : TypeId}
    (hp : tmps.getD p undef = .pointer (some ⟨b, 0, none⟩)) (hq : tmps.getD q undef = .pointer (some ⟨g, 0, none⟩)) (h : Blk w b cs t') (kk : Blk w g ds t'')
    (hu : P.underlying ty = some d) (hd : (match d with | .struct _ | .array _ _ => true | _ => false) = true) (hi : (P.info? ty).map (·.size) = some cs.length)
    (ku : P.underlying tz = some d') (kd : (match d' with | .struct _ | .array _ _ => true | _ => false) = true) (ki : (P.info? tz).map (·.size) = some ds.length) :
    (results fn tmps).run P w = .ok (.tuple #[.agg cs.toArray, .agg ds.toArray, tmps.getD t undef]) w := by
  have hp' : tmps[p]?.getD undef = .pointer (some ⟨b, 0, none⟩) := by simpa using hp
  have hq' : tmps[q]?.getD undef = .pointer (some ⟨g, 0, none⟩) := by simpa using hq
  simp [results, hr, hp', hq', asAddr, load_row h hu hd hi, load_row kk ku kd ki]
theorem DoS.setRes {w W : World} {mb : Nat} {C : CP} {M : SM} {x y z : Int} (h : DoS w mb C M x y z W) (hmb : w.heap.size + 2 < mb) (cs : List Value) (hcs : cs.length = 11) : DoS w mb C M x y z (W.setRow (w.heap.size + 1) cs.toArray) := by
  obtain ⟨ds, _, hr⟩ := h.res
  obtain ⟨a, b, c, hm⟩ := h.mres
  exact ⟨below_setRow h.up (by omega) _, h.box.rowOther (by omega) _, h.m.rowOther (by omega) _, ⟨cs, hcs, hr.row cs⟩, ⟨a, b, c, hm.rowOther (by omega) _⟩⟩
theorem DoS.setM {w W : World} {mb : Nat} {C : CP} {M : SM} {x y z : Int} (h : DoS w mb C M x y z W) (hmb : w.heap.size + 2 < mb) (p q r : Value) : DoS w mb C M x y z (W.setRow (w.heap.size + 2) [p, q, r].toArray) := by
  obtain ⟨ds, hd, hr⟩ := h.res
  obtain ⟨a, b, c, hm⟩ := h.mres
  exact ⟨below_setRow h.up (by omega) _, h.box.rowOther (by omega) _, h.m.rowOther (by omega) _, ⟨ds, hd, hr.rowOther (by omega) _⟩, ⟨p, q, r, hm.row _⟩⟩
theorem all_one {cs : List Value} (h : ∀ v ∈ cs, v.oneCell' = true) : cs.toArray.all (·.oneCell') = true := by
  rw [Array.all_eq_true_iff_forall_mem]
  intro v hv
  exact h v (by simpa using hv)
theorem info_mv : (Try.prog.info? 34).map (·.size) = some 3 := by kernel_rfl
theorem few_leave {w : World} {pl : Nat → Prop} {C : CP} {M : SM} (h : ChW w pl C M) (hn : ChFew M) (p : Int) : (chLeave C p).V.length ≤ 1000 ∧ (chLeave C p).W.length ≤ 1000 ∧ (chLeave C p).S.length ≤ 1000 ∧ (chLeave C p).G.length ≤ 1000 := by
  obtain ⟨h1, h2, h3, h4⟩ := chLeave_few C p
  have k1 := h.v.len
  have k2 := h.w_.len
  have k3 := h.s.len
  have k4 := h.g.len
  have n1 := hn.v
  have n2 := hn.w_
  have n3 := hn.s
  have n4 := hn.g
  rw [h1]
  omega
/-- What Do gives. -/
def ChDPost (w : World) (pl : Nat → Prop) (C : CP) (x y z : Int) (k : Value) (e : Ending) (w' : World) : Prop :=
  ∃ M, e = .returned (.tuple #[.agg (chC C M).toArray, .agg #[.int .i64 x, .int .i64 y, .int .i64 z], k]) ∧ ChW w' pl C M ∧ Below w.heap.size w w'
theorem head_cell {w : World} {pl : Nat → Prop} {A : Option Addr} {n c : Nat} {L : List Int} (h : LnW w pl A n c L) (h0 : 0 < n) : ∃ b o, A = some ⟨b, o, none⟩ ∧ b < w.heap.size ∧ w.cell? ⟨b, o, none⟩ = some (.int .i64 (L.headD 0)) := by
  obtain ⟨b, o, rfl, _, hb, hc⟩ := h.rd.at_ h0
  refine ⟨b, o, rfl, hb, ?_⟩
  have hL := h.len
  rcases L with _ | ⟨x, L⟩
  · simp at hL; omega
  · simpa using hc 0 (.int .i64 x) rfl

set_option maxRecDepth 100000 in
set_option maxHeartbeats 8000000 in
theorem c_chpass {w : World} {pl : Nat → Prop} {C : CP} {M : SM} (h : ChW w pl C M) (hn : ChFew M) (hp : ∀ b, w.heap.size ≤ b → pl b) (hf : chFine C = true) (hm : chMay C 1 = true) :
    Calls Try.prog 33 #[.agg (chC C M).toArray, .int .i64 1] w (ChDPost w pl (chLeave (chLeave C (C.W.headD 0)) (C.G.headD 0)) (C.W.headD 0) (C.G.headD 0) (C.S.headD 0) (.int .i64 0)) := by
  have hX := dox w C M
  generalize hw1 : ((w.alloc (.cells (chC C M).toArray 73)).alloc (.cells #[.int .i64 0, .int .i64 0, .int .i64 0, .int .i64 0, .int .i64 0, .slice none 0 0, .bool false, .slice none 0 0, .slice none 0 0, .bool false, .slice none 0 0] 73)).alloc (.cells #[.int .i64 0, .int .i64 0, .int .i64 0] 34) = w1 at hX
  have HW := Lib.hid hw1
  have HX := Lib.hid hX
  have CF := Lib.hid (fun W (hW : Below w.heap.size w W) => hf ▸ c_chfine (h.below hW) hn)
  have CM := Lib.hid (fun W (hW : Below w.heap.size w W) => hm ▸ c_chmay (h.below hW) 1)
  have HV := Lib.hid h
  have HN := Lib.hid hn
  have HP := Lib.hid hp
  have hO := chOk hf
  have hmm : (C.r == 0) = true ∧ chSends C = true ∧ chGets C = true := by
    have : ((C.r == 0) && (chSends C && chGets C)) = true := hm
    simpa only [Bool.and_eq_true] using this
  have h1 : 0 < M.W.n := by
    have := hmm.2.1
    unfold chSends at this
    rw [Bool.and_eq_true, decide_eq_true_eq] at this
    have := h.w_.len
    omega
  have h2 : 0 < M.G.n := by
    have := hmm.2.2
    unfold chGets at this
    rw [Bool.and_eq_true, decide_eq_true_eq] at this
    have := h.g.len
    omega
  have h3 : 0 < M.S.n := by
    have := hO.len
    have := h.s.len
    have := h.w_.len
    omega
  obtain ⟨b1, o1, hA1, hb1, hc1⟩ := head_cell h.w_ h1
  obtain ⟨b2, o2, hA2, hb2, hc2⟩ := head_cell h.g h2
  obtain ⟨b3, o3, hA3, hb3, hc3⟩ := head_cell h.s h3
  generalize C.W.headD 0 = x at hc1 ⊢
  generalize C.G.headD 0 = y at hc2 ⊢
  generalize C.S.headD 0 = z at hc3 ⊢
  have HC1 := Lib.hid (And.intro hA1 (And.intro hb1 hc1))
  have HC2 := Lib.hid (And.intro hA2 (And.intro hb2 hc2))
  have HC3 := Lib.hid (And.intro hA3 (And.intro hb3 hc3))
  have i1 : (0 : Int) < M.W.n := by omega
  have i2 : (0 : Int) < M.G.n := by omega
  have i3 : (0 : Int) < M.S.n := by omega
  clear h hn hp hf hm hO hmm hX hw1 hA1 hb1 hc1 hA2 hb2 hc2 hA3 hb3 hc3
  go_enter Try.func33, Try.ntmps33
  go_upto_region 1 with fail
  rw [HW.out]
  go_wp2_with (refine ld_row HX.out.box rfl (.tmp 2) rfl rfl Try.underlying73 rfl info_ch ?_)
  refine (CF.out _ HX.out.up).mono ?_; rintro e w2 ⟨rfl, hb⟩
  have HA := Lib.hid (HX.out.next hb)
  clear hb
  go_wp2_with (refine ld_row HA.out.box rfl (.tmp 2) rfl rfl Try.underlying73 rfl info_ch ?_)
  refine (CM.out _ HA.out.up).mono ?_; rintro e w3 ⟨rfl, hb⟩
  have hsz := hb.size
  have HB := Lib.hid (HA.out.next (up_trans hb (up_alloc w3 (.cells #[.int .i64 (-1), .int .i64 (-1), .int .i64 0] 34))))
  have HM := Lib.hid (Blk.new w3 [.int .i64 (-1), .int .i64 (-1), .int .i64 0] 34)
  clear hb
  go_upto_block 1 with fail
  generalize hw4 : w3.alloc (.cells #[.int .i64 (-1), .int .i64 (-1), .int .i64 0] 34) = w4 at HB HM ⊢
  obtain ⟨mb, hmb⟩ : ∃ mb, mb = w3.heap.size := ⟨_, rfl⟩
  have hmbw : w.heap.size + 2 < mb := by
    have := HA.out.mres.lt
    omega
  rw [← hmb] at HM ⊢
  have HMW := Lib.hid hmbw
  have c7 : w4.cell? ⟨w.heap.size, 7, none⟩ = some (.slice (some ⟨b1, o1, none⟩) M.W.n M.W.c) := by rw [← HC1.out.1]; exact HB.out.box.cW
  have c10 : w4.cell? ⟨w.heap.size, 10, none⟩ = some (.slice (some ⟨b2, o2, none⟩) M.G.n M.G.c) := by rw [← HC2.out.1]; exact HB.out.box.cG
  have c8 : w4.cell? ⟨w.heap.size, 8, none⟩ = some (.slice (some ⟨b3, o3, none⟩) M.S.n M.S.c) := by rw [← HC3.out.1]; exact HB.out.box.cS
  have e1 : w4.cell? ⟨b1, o1, none⟩ = some (.int .i64 x) := (HB.out.up.cell (p := ⟨b1, o1, none⟩) HC1.out.2.1).trans HC1.out.2.2
  have e2 : w4.cell? ⟨b2, o2, none⟩ = some (.int .i64 y) := (HB.out.up.cell (p := ⟨b2, o2, none⟩) HC2.out.2.1).trans HC2.out.2.2
  have e3 : w4.cell? ⟨b3, o3, none⟩ = some (.int .i64 z) := (HB.out.up.cell (p := ⟨b3, o3, none⟩) HC3.out.2.1).trans HC3.out.2.2
  have n1 : b1 ≠ mb := by have := HC1.out.2.1; omega
  have n2 : b2 ≠ mb := by have := HC2.out.2.1; omega
  have n3 : b3 ≠ mb := by have := HC3.out.2.1; omega
  have n4 : w.heap.size ≠ mb := by omega
  have m0 := HM.out.cell 0 _ rfl
  have m1 := HM.out.cell 1 _ rfl
  have m2 := HM.out.cell 2 _ rfl
  have f0 := HM.out.free 0
  have f1 := HM.out.free 1
  have f2 := HM.out.free 2
  clear hmb hw4 hsz hmbw
  go_cut [39] (fun s39 wx => DoX w wx C M ∧ Blk wx mb [.int .i64 x, .int .i64 y, .int .i64 z] 34)
  case first =>
    go_wp2_with fail
    go_region
    all_goals go_wp2_with fail
    all_goals
      go_meet
      exact ⟨(((HB.out.put HMW.out 0 _).put HMW.out 1 _).put HMW.out 2 _).next (up_drewN _ 1), ((HM.out.set 0 _).set 1 _).set 2 _⟩
  case rest =>
    obtain ⟨hq, hm⟩ := hcut
    have HD := Lib.hid hq
    have HE := Lib.hid hm
    clear hq hm c7 c10 c8 e1 e2 e3 n1 n2 n3 m0 m1 m2 f0 f1 f2
    go_wp2_with fail
    refine wp_region_held_drew (S := DoS w mb C M x y z) (by kernel_rfl) ((HD.out.next (up_drewN _ 1)).held HE.out) (fun hHeld => ?_)
    refine wpAnyH_take (i := 0) (oi := ?_) (v := (.agg (chC C M).toArray)) ?_ (by kernel_rfl) (by kernel_rfl) (by kernel_rfl) ?_ (Or.inl ⟨?_, ?_⟩) hHeld ?_
    rotate_left 1
    · conv => lhs; simp only [List.getElem?_toArray, List.getElem?_cons_succ, List.getElem?_cons_zero]
    · exact fun _ _ _ h => h
    · rfl
    · intro W hSw
      exact take_load rfl rfl (load_row hSw.box Try.underlying73 rfl info_ch)
    try simp only [Act.put, List.setIfInBounds_toArray, List.set_cons_zero, List.set_cons_succ]
    refine wpAnyH_take (i := 1) (oi := ?_) (v := ?_) ?_ (by kernel_rfl) (by kernel_rfl) (by kernel_rfl) ?_ (Or.inl ⟨?_, ?_⟩) hHeld ?_
    rotate_left 2
    · conv => lhs; simp only [List.getElem?_toArray, List.getElem?_cons_succ, List.getElem?_cons_zero]
    · exact fun _ _ _ h => h
    · rfl
    · intro W hSw
      have k0 := hSw.m.cell 0 _ rfl
      have k1 := hSw.m.cell 1 _ rfl
      have k2 := hSw.m.cell 2 _ rfl
      go_simp
      try with_reducible rfl
    try simp only [Act.put, List.setIfInBounds_toArray, List.set_cons_zero, List.set_cons_succ]
    refine wpAnyH_take (i := 2) (oi := ?_) (v := ?_) ?_ (by kernel_rfl) (by kernel_rfl) (by kernel_rfl) ?_ (Or.inl ⟨?_, ?_⟩) hHeld ?_
    rotate_left 2
    · conv => lhs; simp only [List.getElem?_toArray, List.getElem?_cons_succ, List.getElem?_cons_zero]
    · exact fun _ _ _ h => h
    · rfl
    · intro W hSw
      have k0 := hSw.m.cell 0 _ rfl
      have k1 := hSw.m.cell 1 _ rfl
      have k2 := hSw.m.cell 2 _ rfl
      go_simp
      try with_reducible rfl
    try simp only [Act.put, List.setIfInBounds_toArray, List.set_cons_zero, List.set_cons_succ]
    refine wpAnyH_take (i := 4) (oi := ?_) (v := ?_) ?_ (by kernel_rfl) (by kernel_rfl) (by kernel_rfl) ?_ (Or.inl ⟨?_, ?_⟩) hHeld ?_
    rotate_left 2
    · conv => lhs; simp only [List.getElem?_toArray, List.getElem?_cons_succ, List.getElem?_cons_zero]
    · exact fun _ _ _ h => h
    · rfl
    · intro W hSw
      have k0 := hSw.m.cell 0 _ rfl
      have k1 := hSw.m.cell 1 _ rfl
      have k2 := hSw.m.cell 2 _ rfl
      go_simp
      try with_reducible rfl
    try simp only [Act.put, List.setIfInBounds_toArray, List.set_cons_zero, List.set_cons_succ]
    refine wpAnyH_take (i := 5) (oi := ?_) (v := ?_) ?_ (by kernel_rfl) (by kernel_rfl) (by kernel_rfl) ?_ (Or.inl ⟨?_, ?_⟩) hHeld ?_
    rotate_left 2
    · conv => lhs; simp only [List.getElem?_toArray, List.getElem?_cons_succ, List.getElem?_cons_zero]
    · exact fun _ _ _ h => h
    · rfl
    · intro W hSw
      have k0 := hSw.m.cell 0 _ rfl
      have k1 := hSw.m.cell 1 _ rfl
      have k2 := hSw.m.cell 2 _ rfl
      go_simp
      try with_reducible rfl
    try simp only [Act.put, List.setIfInBounds_toArray, List.set_cons_zero, List.set_cons_succ]
    refine wpAnyH_take (i := 7) (oi := ?_) (v := (.agg #[.int .i64 x, .int .i64 y, .int .i64 z])) ?_ (by kernel_rfl) (by kernel_rfl) (by kernel_rfl) ?_ (Or.inl ⟨?_, ?_⟩) hHeld ?_
    rotate_left 1
    · conv => lhs; simp only [List.getElem?_toArray, List.getElem?_cons_succ, List.getElem?_cons_zero]
    · exact fun _ _ _ h => h
    · rfl
    · intro W hSw
      exact take_load rfl rfl (load_row hSw.m Try.underlying34 rfl info_mv)
    try simp only [Act.put, List.setIfInBounds_toArray, List.set_cons_zero, List.set_cons_succ]
    refine wpAnyH_ready (rs := [3]) (by kernel_rfl) (by simp) ?_
    refine AllReadyH.cons (o := ?_) ?_ (fun K hK => ?_) AllReadyH.nil
    rotate_left 1
    · conv => lhs; simp only [List.getElem?_toArray, List.getElem?_cons_succ, List.getElem?_cons_zero]
    go_simp
    refine (c_chleave (pl := pl3 w pl) (HV.out.old3.below hHeld.up) HN.out (pl3_new HP.out (by obtain ⟨_, _, _, hm⟩ := hHeld.mres; exact hm.lt)) x).mono ?_
    rintro e wA ⟨M1, rfl, hch1, hbA⟩
    have H1 := Lib.hid hch1
    have HF1 := Lib.hid (ChFew.of hch1 (few_leave HV.out HN.out x))
    clear hch1
    go_wp2_with fail
    refine hK.out _ _ (hHeld.next hbA) (fun hHeld => ?_)
    clear hK K
    try simp only [Act.put, List.setIfInBounds_toArray, List.set_cons_zero, List.set_cons_succ]
    refine wpAnyH_ready (rs := [6]) (by kernel_rfl) (by simp) ?_
    refine AllReadyH.cons (o := ?_) ?_ (fun K hK => ?_) AllReadyH.nil
    rotate_left 1
    · conv => lhs; simp only [List.getElem?_toArray, List.getElem?_cons_succ, List.getElem?_cons_zero]
    go_simp
    refine (c_chleave (pl := pl3 w pl) H1.out HF1.out (pl3_new HP.out (by obtain ⟨_, _, _, hm⟩ := hHeld.mres; exact hm.lt)) y).mono ?_
    rintro e wB ⟨M2, rfl, hch2, hbB⟩
    have H2 := Lib.hid hch2
    have HBB := Lib.hid (up_trans hHeld.up hbB)
    clear hch2
    go_wp2_with fail
    refine hK.out _ _ (hHeld.next hbB) (fun hHeld => ?_)
    clear hK K
    try simp only [Act.put, List.setIfInBounds_toArray, List.set_cons_zero, List.set_cons_succ]
    obtain ⟨ds, hds, hres⟩ := hHeld.res
    refine wpAnyH_ready (rs := [8]) (by kernel_rfl) (by simp) ?_
    refine AllReadyH.cons (o := ?_) ?_ (fun K hK => ?_) AllReadyH.nil
    rotate_left 1
    · conv => lhs; simp only [List.getElem?_toArray, List.getElem?_cons_succ, List.getElem?_cons_zero]
    rw [if_pos (by rfl)]
    refine wp_store_row 73 (.tmp 4) (.tmp 85) rfl (w.heap.size + 1) (chC (chLeave (chLeave C x) y) M2).toArray rfl rfl 73 ds.toArray hres info_ch (by rw [List.size_toArray, List.size_toArray, hds]; rfl) (all_one chC_one) ?_
    refine hK.out _ _ (hHeld.setRes HMW.out _ rfl) (fun hHeld => ?_)
    clear hK K
    obtain ⟨ma, mb', mc, hmres⟩ := hHeld.mres
    refine wpAnyH_ready (rs := [9]) (by kernel_rfl) (by simp) ?_
    refine AllReadyH.cons (o := ?_) ?_ (fun K hK => ?_) AllReadyH.nil
    rotate_left 1
    · conv => lhs; simp only [List.getElem?_toArray, List.getElem?_cons_succ, List.getElem?_cons_zero]
    rw [if_pos (by rfl)]
    refine wp_store_row 34 (.tmp 5) (.tmp 86) rfl (w.heap.size + 2) [.int .i64 x, .int .i64 y, .int .i64 z].toArray rfl rfl 34 [ma, mb', mc].toArray hmres info_mv rfl (all_one (by intro v hv; simp only [List.mem_cons, List.not_mem_nil, or_false] at hv; rcases hv with rfl | rfl | rfl <;> rfl)) ?_
    refine hK.out _ _ (hHeld.setM HMW.out _ _ _) (fun hHeld => ?_)
    clear hK K
    refine wpAnyH_take (i := 10) (oi := ?_) (v := ?_) ?_ (by kernel_rfl) (by kernel_rfl) (by kernel_rfl) ?_ (Or.inl ⟨?_, ?_⟩) hHeld ?_
    rotate_left 2
    · conv => lhs; simp only [List.getElem?_toArray, List.getElem?_cons_succ, List.getElem?_cons_zero]
    · exact fun _ _ _ h => h
    · rfl
    · intro W hSw
      have k0 := hSw.m.cell 0 _ rfl
      have k1 := hSw.m.cell 1 _ rfl
      have k2 := hSw.m.cell 2 _ rfl
      go_simp
      try with_reducible rfl
    try simp only [Act.put, List.setIfInBounds_toArray, List.set_cons_zero, List.set_cons_succ]
    refine wpAnyH_done (by kernel_rfl) ?_ _
    go_wp2_with fail
    refine bodyPost_ret (v := .tuple #[.agg (chC (chLeave (chLeave C x) y) M2).toArray, .agg #[.int .i64 x, .int .i64 y, .int .i64 z], .int .i64 0]) (results_cce (fn := Try.f33) (p := 4) (q := 5) (t := 6) rfl _ _ (w.heap.size + 1) (w.heap.size + 2) rfl rfl ((hres.row _).rowOther (by omega) _) (hmres.row _) Try.underlying73 rfl info_ch Try.underlying34 rfl info_mv) rfl ?_
    have ho : Only (own3 w) wB ((wB.setRow (w.heap.size + 1) (chC (chLeave (chLeave C x) y) M2).toArray).setRow (w.heap.size + 2) [.int .i64 x, .int .i64 y, .int .i64 z].toArray) := ((Only.refl (own3 w) wB).res3 _).row ⟨by omega, by omega⟩ _
    exact ⟨M2, rfl, (H2.out.only ho pl3_no).lo (fun _ h => h.1), ho.own_below HBB.out⟩
end Go.Proofs.Ytnmjjemkaamcfaa

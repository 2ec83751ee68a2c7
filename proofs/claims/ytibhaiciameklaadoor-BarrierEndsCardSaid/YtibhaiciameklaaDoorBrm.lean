/- Plain maths for the law BarrierEnds; its two variables in memory. -/
import Derived.Test.YtibhaiciameklaaDoorBri
import Derived.Test.YtibhaiciameklaaDoorRlq
import Derived.Test.YtibhaiciameklaaDoorBg
namespace Go.Proofs.YtibhaiciameklaaDoor
open Go.RowKit

theorem put_self (b : BR) : b.put b.r = b := rfl
theorem put_fine {b : BR} (h : brFine b = true) {R : RL} (hR : rlFine R = true) : brFine (b.put R) = true := (brFine_iff _).2 ⟨hR, ((brFine_iff b).1 h).2⟩
theorem enr_in {b : BR} {q : Nat} (hq : q < 16) (hm : b.r.m.has q = true) : rEnr b.r q = b.r := by
  unfold rEnr
  rw [uni_in hq hm]
theorem res_out {b : BR} (h : brFine b = true) {q : Nat} (hq : q < 16) (hm : b.r.m.has q = false) : rRes b.r q = b.r := by
  have hf := ((brFine_iff b).1 h).1
  have ha : b.r.a.has q = false := by
    cases h2 : b.r.a.has q
    · rfl
    · rw [((fine_has b.r).1 hf).2 q (by omega) h2] at hm; cases hm
  unfold rRes
  rw [les_out hm, les_out ha]
theorem a_out {b : BR} (h : brFine b = true) {q : Nat} (hq : q < 16) (hm : b.r.m.has q = false) : (bC b.r.a.has).set q (.bool false) = bC b.r.a.has := by
  have e := res_out h hq hm
  have := drop_set b.r.a hq
  rw [this, show b.r.a.les (S4.only q) = (rRes b.r q).a from rfl, e]
theorem off_in {b : BR} (h : brFine b = true) {q : Nat} (hq : q < 16) (hm : b.r.m.has q = true) : (bC b.r.a.has).set q (.bool true) = bC (rOff b.r q).a.has := by
  have := at_off ((brFine_iff b).1 h).1 hq
  rwa [hm] at this

theorem t_enr0 {b : BR} (h : brFine b = true) {q : Nat} (hq : q < 16) (hm : b.r.m.has q = false) (W : World) (hT : TabD W) :
    Calls Tryd.prog 12 #[.agg (brC b).toArray, .int .i64 (q : Int)] W (Ans (.tuple #[.agg (brC (b.put (rEnr b.r q))).toArray, .int .i64 0]) W) := by
  have := c_brenrol b q W hT
  rw [show brEnrol b q = (b.put (rEnr b.r q), 0) by unfold brEnrol; rw [if_neg (by rw [h]; decide), enr_eq ((brFine_iff b).1 h).1 hq, hm]; rfl] at this
  exact this
theorem t_enr1 {b : BR} (h : brFine b = true) {q : Nat} (hq : q < 16) (hm : b.r.m.has q = true) (W : World) (hT : TabD W) :
    Calls Tryd.prog 12 #[.agg (brC b).toArray, .int .i64 (q : Int)] W (Ans (.tuple #[.agg (brC b).toArray, .int .i64 7]) W) := by
  have := c_brenrol b q W hT
  rw [show brEnrol b q = (b, 7) by unfold brEnrol; rw [if_neg (by rw [h]; decide), enr_eq ((brFine_iff b).1 h).1 hq, hm, enr_in hq hm]; rfl] at this
  exact this
theorem t_res0 {b : BR} (h : brFine b = true) {q : Nat} (hq : q < 16) (hm : b.r.m.has q = true) (W : World) (hT : TabD W) :
    Calls Tryd.prog 14 #[.agg (brC b).toArray, .int .i64 (q : Int)] W (Ans (.tuple #[.agg (brC (b.put (rRes b.r q))).toArray, .int .i64 0]) W) := by
  have := c_brresign b q W hT
  rw [show brResign b q = (b.put (rRes b.r q), 0) by unfold brResign; rw [if_neg (by rw [h]; decide), res_eq ((brFine_iff b).1 h).1 hq, hm]; rfl] at this
  exact this
theorem t_res1 {b : BR} (h : brFine b = true) {q : Nat} (hq : q < 16) (hm : b.r.m.has q = false) (W : World) (hT : TabD W) :
    Calls Tryd.prog 14 #[.agg (brC b).toArray, .int .i64 (q : Int)] W (Ans (.tuple #[.agg (brC b).toArray, .int .i64 6]) W) := by
  have := c_brresign b q W hT
  rw [show brResign b q = (b, 6) by unfold brResign; rw [if_neg (by rw [h]; decide), res_eq ((brFine_iff b).1 h).1 hq, hm, res_out h hq hm]; rfl] at this
  exact this
theorem off_first {b : BR} (h : brFine b = true) (ha : b.al = true) (q : Nat) (alt : Bool) : brOffer b q alt = if b.ph = b.lim then (b, 14) else (b.put (rlOffer b.r q).1, (rlOffer b.r q).2) := by
  unfold brOffer
  rw [if_neg (by rw [h]; decide), if_neg (by rw [ha]; cases alt <;> decide)]
theorem t_off14 {b : BR} (h : brFine b = true) (ha : b.al = true) (q : Nat) (hl : b.ph = b.lim) (alt : Bool) (W : World) (hT : TabD W) :
    Calls Tryd.prog 16 #[.agg (brC b).toArray, .int .i64 (q : Int), .bool alt] W (Ans (.tuple #[.agg (brC b).toArray, .int .i64 14]) W) := by
  have := c_broffer b q alt W hT
  rw [off_first h ha, if_pos hl] at this
  exact this
theorem t_off6 {b : BR} (h : brFine b = true) (ha : b.al = true) {q : Nat} (hq : q < 16) (hl : b.ph ≠ b.lim) (hm : b.r.m.has q = false) (alt : Bool) (W : World) (hT : TabD W) :
    Calls Tryd.prog 16 #[.agg (brC b).toArray, .int .i64 (q : Int), .bool alt] W (Ans (.tuple #[.agg (brC b).toArray, .int .i64 6]) W) := by
  have := c_broffer b q alt W hT
  rw [off_first h ha, if_neg hl, off_eq ((brFine_iff b).1 h).1 hq, hm, show rOff b.r q = b.r by unfold rOff; rw [hm]; rfl] at this
  exact this
theorem t_off7 {b : BR} (h : brFine b = true) (ha : b.al = true) {q : Nat} (hq : q < 16) (hl : b.ph ≠ b.lim) (hm : b.r.m.has q = true) (h2 : b.r.a.has q = true) (alt : Bool) (W : World) (hT : TabD W) :
    Calls Tryd.prog 16 #[.agg (brC b).toArray, .int .i64 (q : Int), .bool alt] W (Ans (.tuple #[.agg (brC b).toArray, .int .i64 7]) W) := by
  have := c_broffer b q alt W hT
  rw [off_first h ha, if_neg hl, off_eq ((brFine_iff b).1 h).1 hq, hm, h2, show rOff b.r q = b.r by unfold rOff; rw [hm, if_pos rfl, uni_in hq h2]] at this
  exact this
theorem t_off0 {b : BR} (h : brFine b = true) (ha : b.al = true) {q : Nat} (hq : q < 16) (hl : b.ph ≠ b.lim) (hm : b.r.m.has q = true) (h2 : b.r.a.has q = false) (alt : Bool) (W : World) (hT : TabD W) :
    Calls Tryd.prog 16 #[.agg (brC b).toArray, .int .i64 (q : Int), .bool alt] W (Ans (.tuple #[.agg (brC (b.put (rOff b.r q))).toArray, .int .i64 0]) W) := by
  have := c_broffer b q alt W hT
  rw [off_first h ha, if_neg hl, off_eq ((brFine_iff b).1 h).1 hq, hm, h2] at this
  exact this
theorem t_ready {b : BR} {x : Bool} (hx : brReady b = x) (W : World) (hT : TabD W) : Calls Tryd.prog 28 #[.agg (brC b).toArray] W (Ans (.bool x) W) := hx ▸ c_brready b W hT
theorem t_fineB {b : BR} (hx : brFine b = true) (W : World) (hT : TabD W) : Calls Tryd.prog 22 #[.agg (brC b).toArray] W (Ans (.bool true) W) := by
  have := c_brfine b W hT
  rw [hx] at this
  exact this
theorem t_len {s : S4} {n : Nat} (hn : s.ints.length = n) (W : World) : Calls Tryd.prog 31 #[.agg (S4.cs s).toArray] W (Ans (.int .i64 (n : Int)) W) := by
  subst hn
  exact c_len s W
theorem t_has {s : S4} {q : Nat} (h : hasL s.ints q = true) (W : World) : Calls Tryd.prog 32 #[.agg (S4.cs s).toArray, .int .i64 (q : Int)] W (Ans (.bool true) W) := c_hasB s q W h
/-- What is fired of a barrier that is ready. -/
def brGone (b : BR) : BR := ⟨b.al, b.lim, ⟨b.r.m, S4.zero⟩, b.ph + 1⟩
theorem ready_parts {b : BR} (h : brReady b = true) : brFine b = true ∧ rlFull b.r = true ∧ b.ph < b.lim := by
  unfold brReady at h
  simp only [Bool.and_eq_true, decide_eq_true_iff] at h
  exact ⟨h.1.1, h.1.2, h.2⟩
theorem gone_fine {b : BR} (h : brReady b = true) : brFine (brGone b) = true := by
  obtain ⟨h1, h2, h3⟩ := ready_parts h
  obtain ⟨h4, h5⟩ := (brFine_iff b).1 h1
  refine (brFine_iff _).2 ⟨go_fine h4, ?_⟩
  rw [phFine_iff] at h5 ⊢
  change 1 ≤ b.lim ∧ b.lim ≤ 65535 ∧ 0 ≤ b.ph + 1 ∧ b.ph + 1 ≤ b.lim
  omega
def WentB (lo : Nat) (w : World) (D : BR) (L : List Int) (n : Nat) (e : Ending) (w' : World) : Prop :=
  ∃ A c, e = .returned (.tuple #[.agg (brC D).toArray, .slice A n c, .int .i64 0]) ∧ RD w' (lo ≤ ·) 1 A n (L.map (Value.int .i64)) ∧ Below w.heap.size w w'
theorem t_fire {b : BR} (h : brReady b = true) {n : Nat} (hn : b.r.m.ints.length = n) {lo : Nat} (W : World) (hT : TabD W) (hl : lo ≤ W.heap.size) : Calls Tryd.prog 26 #[.agg (brC b).toArray] W (WentB lo W (brGone b) b.r.m.ints n) := by
  subst hn
  have := c_brfire b W hT
  rw [show brFire b = (brGone b, b.r.m.ints, 0) by
    unfold brFire
    rw [if_neg (by rw [(ready_parts h).1]; decide), if_neg (by rw [h]; decide), full_same (ready_parts h).2.1]
    rfl] at this
  refine this.mono ?_
  rintro e w' ⟨A, c, rfl, hr, hb⟩
  exact ⟨A, c, rfl, hr.lo (fun k hk => by omega), hb⟩
theorem full_pos {r : RL} (hf : rlFine r = true) (h : rlFull r = true) : 0 < r.m.ints.length := by
  rw [full_len hf, Bool.and_eq_true, decide_eq_true_iff] at h
  exact h.1

/-! The array behind the first j of those that go on. -/
def gN (r : RL) (j : Nat) (i : Nat) : Bool := r.a.has i && !decide ((i : Int) ∈ r.m.ints.take j)
theorem ints_nodup (s : S4) : s.ints.Nodup := by
  unfold S4.ints rise
  refine List.Pairwise.map _ (fun a b h => ?_) ((List.nodup_range).filter _)
  intro e
  exact h (by omega)
theorem not_ahead {L : List Int} (h : L.Nodup) {j : Nat} (hj : j < L.length) : L[j] ∉ L.take j := by
  have hs : (L.take (j + 1)).Nodup := h.sublist (List.take_sublist _ _)
  rw [List.take_succ_eq_append_getElem hj, List.nodup_append] at hs
  intro hm
  exact hs.2.2 _ hm _ (by simp) rfl
theorem gN_zero (r : RL) : bC (gN r 0) = bC r.a.has := by
  refine (bC_same fun i _ => ?_)
  simp [gN]
theorem gN_at {r : RL} (h : r.a = r.m) {j q : Nat} (hj : j < r.m.ints.length) (hq : r.m.ints[j] = (q : Int)) (hq16 : q < 16) : gN r j q = true := by
  have hin : (q : Int) ∈ r.m.ints := hq ▸ List.getElem_mem hj
  have hn := not_ahead (ints_nodup r.m) hj
  rw [hq] at hn
  unfold gN
  rw [h, (mem_ints r.m q (by omega)).1 hin, decide_eq_false hn]
  rfl
theorem gN_next {r : RL} {j q : Nat} (hj : j < r.m.ints.length) (hq : r.m.ints[j] = (q : Int)) (_hq16 : q < 16) : (bC (gN r j)).set q (.bool false) = bC (gN r (j + 1)) := by
  refine bC_set ?_ (fun i hi hn => ?_)
  · unfold gN
    rw [List.take_succ_eq_append_getElem hj, hq, decide_eq_true (by simp)]
    simp
  · unfold gN
    rw [List.take_succ_eq_append_getElem hj, hq]
    congr 2
    rw [decide_eq_decide, List.mem_append, List.mem_singleton]
    constructor
    · rintro (k | k)
      · exact k
      · omega
    · exact .inl
theorem gN_end {r : RL} (h : r.a = r.m) : bC (gN r r.m.ints.length) = bC S4.zero.has := by
  refine (bC_same fun i hi => ?_)
  rw [zero_has]
  unfold gN
  rw [List.take_length, h]
  cases hm : r.m.has i
  · rfl
  · rw [decide_eq_true ((mem_ints r.m i (by omega)).2 hm)]
    rfl

/-! The law's two variables, in the blocks s and s + 1, and the round's own one, in block g. -/
theorem info_b16 : (Tryd.prog.info? 63).map (·.size) = some 16 := by kernel_rfl
theorem info_set : (Tryd.prog.info? 34).map (·.size) = some 4 := by kernel_rfl
def twoV (s : Nat) : Nat → Prop := fun k => k = s ∨ k = s + 1
structure EW (w0 wr : World) (s : Nat) (b : BR) (g : List Value) : Prop where
  only : Only (twoV s) w0 wr
  bar : Blk wr s (brC b) 38
  arr : Blk wr (s + 1) g 63
theorem EW.below {w0 wr w2 : World} {s : Nat} {b : BR} {g : List Value} (h : EW w0 wr s b g) (hb : Below wr.heap.size wr w2) : EW w0 w2 s b g :=
  ⟨h.only.below_trans hb, h.bar.up hb h.bar.lt, h.arr.up hb h.arr.lt⟩
theorem EW.setB {w0 wr : World} {s : Nat} {b : BR} {g : List Value} (h : EW w0 wr s b g) (c : BR) : EW w0 (wr.setRow s (brC c).toArray) s c g :=
  ⟨h.only.row (.inl rfl) _, h.bar.row _, h.arr.rowOther (by omega) _⟩
theorem EW.putT {w0 wr : World} {s : Nat} {b : BR} {g : List Value} (h : EW w0 wr s b g) (q : Nat) (v : Value) : EW w0 (wr.setCell ⟨s + 1, q, none⟩ v) s b (g.set q v) :=
  ⟨h.only.setCell (.inl (.inr rfl)) _, h.bar.other ⟨s + 1, q, none⟩ (by simp) _, h.arr.set q _⟩
theorem EW.tab {w0 wr : World} {s : Nat} {b : BR} {g : List Value} (h : EW w0 wr s b g) (hT : TabD w0) (hs : 0 < s) : TabD wr :=
  hT.only h.only (by unfold twoV; omega)
theorem Only.newer {s : Nat → Prop} {a b c : World} {g : Nat} (h : Only s a b) (k : Only (· = g) b c) (hg : a.heap.size ≤ g) : Only s a c :=
  ⟨k.os.trans h.os, k.tape.trans h.tape, k.output.trans h.output, Nat.le_trans h.size k.size, fun i hi hs => (k.block i (Nat.lt_of_lt_of_le hi h.size) (by omega)).trans (h.block i hi hs)⟩
structure CV (w0 wr : World) (s g : Nat) (b c : BR) (f : List Value) : Prop where
  ew : EW w0 wr s b f
  cv : Blk wr g (brC c) 38
  far : s + 1 < g
theorem CV.below {w0 wr w2 : World} {s g : Nat} {b c : BR} {f : List Value} (h : CV w0 wr s g b c f) (hb : Below wr.heap.size wr w2) : CV w0 w2 s g b c f := ⟨h.ew.below hb, h.cv.up hb h.cv.lt, h.far⟩
theorem CV.setC {w0 wr : World} {s g : Nat} {b c : BR} {f : List Value} (h : CV w0 wr s g b c f) (hg : w0.heap.size ≤ g) (c' : BR) : CV w0 (wr.setRow g (brC c').toArray) s g b c' f :=
  have ho : Only (· = g) wr (wr.setRow g (brC c').toArray) := (Only.refl (· = g) wr).row rfl _
  have hf := h.far
  ⟨⟨h.ew.only.newer ho hg, h.ew.bar.rowOther (by omega) _, h.ew.arr.rowOther (by omega) _⟩, h.cv.row _, hf⟩
theorem CV.putT {w0 wr : World} {s g : Nat} {b c : BR} {f : List Value} (h : CV w0 wr s g b c f) (q : Nat) (v : Value) : CV w0 (wr.setCell ⟨s + 1, q, none⟩ v) s g b c (f.set q v) :=
  have hf := h.far
  ⟨h.ew.putT q v, h.cv.other ⟨s + 1, q, none⟩ (by simp; omega) _, hf⟩
end Go.Proofs.YtibhaiciameklaaDoor

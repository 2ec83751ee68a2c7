/- The document's rolls (layer 21) in memory, of lists that are sets' lists; its Fine and asked. Slices of structs of any make: they read as a list; one of the call's own, which may be written to in its middle. Package barrier: change, Enrol, Resign, Offer, Withdraw. Plain maths of tables of barriers: what package bartab's calls come to. Package bartab: slices.Clone of barriers, the closures, change and one. Package bartab: change and one, whatever function is handed in. Package bartab: Enrol, Resign, Fire, each, Leave, Quit, Ready, New, Offer. Package bartab: Ready, New, Offer. -/
import Derived.Test.YtdiiilnebepfdaaGreatDoorD1
import Derived.Test.YtdiiilnebepfdaaGreatDoorA1
import Derived.Test.YtdiiilnebepfdaaGreatDoorD2
import Derived.BigQuiet
import Derived.Deep.QuietTactic
import Derived.Deep.DeepCutAuto
import Derived.StillTailTactics
import Derived.WalkLawsBesides
import Derived.Lib.SliceRun
import Derived.Great.BuildSlice
import Derived.LoopTactic
namespace Go.Proofs.YtdiiilnebepfdaaGreatDoor
open Go.RowKit

abbrev tt : Nat → Prop := fun _ => True
/-- Where a document's roll has its two lists. -/
structure DM where
  A : Option Addr
  c : Nat
  B : Option Addr
  d : Nat
def dlC (r : RL) (M : DM) : List Value := [.slice M.A r.m.ints.length M.c, .slice M.B r.a.ints.length M.d]
abbrev dlZ : List Value := [.slice none 0 0, .slice none 0 0]
theorem dlC_one {r : RL} {M : DM} : ∀ v ∈ dlC r M, v.oneCell' = true := by
  intro v hv
  unfold dlC at hv
  simp only [List.mem_cons, List.not_mem_nil, or_false] at hv
  rcases hv with rfl | rfl <;> rfl
theorem info_dl : (Tryz.prog.info? 111).map (·.size) = some 2 := by kernel_rfl
theorem Blk.dl {w : World} {b : Nat} {r : RL} {M : DM} {t : TypeId} (h : Blk w b (dlC r M) t) : w.cell? ⟨b, 0, none⟩ = some (.slice M.A r.m.ints.length M.c) ∧ w.cell? ⟨b, 1, none⟩ = some (.slice M.B r.a.ints.length M.d) := ⟨h.cell 0 _ rfl, h.cell 1 _ rfl⟩
/-- The lists read so. -/
structure DW (w : World) (pl : Nat → Prop) (r : RL) (M : DM) : Prop where
  m : RD w pl 1 M.A r.m.ints.length (r.m.ints.map (Value.int .i64))
  a : RD w pl 1 M.B r.a.ints.length (r.a.ints.map (Value.int .i64))
theorem DW.below {w w' : World} {pl : Nat → Prop} {r : RL} {M : DM} (h : DW w pl r M) (hb : Below w.heap.size w w') : DW w' pl r M := ⟨h.m.below hb, h.a.below hb⟩
theorem DW.lo {w : World} {pl pl' : Nat → Prop} {r : RL} {M : DM} (h : DW w pl r M) (hl : ∀ b, pl b → pl' b) : DW w pl' r M := ⟨h.m.lo hl, h.a.lo hl⟩
theorem DW.only {s : Nat → Prop} {w w' : World} {pl : Nat → Prop} {r : RL} {M : DM} (h : DW w pl r M) (o : Only s w w') (hs : ∀ k, s k → ¬ pl k) : DW w' pl r M := ⟨h.m.only o hs, h.a.only o hs⟩
/-- The two blocks that a function lays for itself: its roll's box, and its answer's cell. -/
def two2 (w : World) : Nat → Prop := fun k => k = w.heap.size ∨ k = w.heap.size + 1
def not2 (w : World) : Nat → Prop := fun b => ¬ two2 w b
/-- Where lists may lie behind a call: where they lay, or in new blocks. -/
def plN (pl : Nat → Prop) (w : World) : Nat → Prop := fun b => pl b ∨ w.heap.size ≤ b
/-- The same, but for the two blocks. -/
def pl2 (pl : Nat → Prop) (w : World) : Nat → Prop := fun b => plN pl w b ∧ not2 w b
theorem DW.old {w : World} {pl : Nat → Prop} {r : RL} {M : DM} (h : DW w pl r M) : DW w (pl2 pl w) r M := ⟨h.m.lt.lo fun b hb => by unfold pl2 plN not2 two2; exact ⟨.inl hb.1, by omega⟩, h.a.lt.lo fun b hb => by unfold pl2 plN not2 two2; exact ⟨.inl hb.1, by omega⟩⟩
theorem Only.two2_below {w a b : World} (h : Only (two2 w) a b) (hw : Below w.heap.size w a) : Below w.heap.size w b := hw.trans (h.toBelow hw.size (fun k hk => by rcases hk with rfl | rfl <;> omega))
/-- A roll's box that is written to, and a cell for the answer. -/
structure DBx (pl : Nat → Prop) (w wc : World) (r : RL) (M : DM) : Prop where
  up : Below w.heap.size w wc
  box : Blk wc w.heap.size (dlC r M) 111
  res : Blk wc (w.heap.size + 1) dlZ 111
  dw : DW wc (pl2 pl w) r M
theorem DBx.next {pl : Nat → Prop} {w wc wd : World} {r : RL} {M : DM} (h : DBx pl w wc r M) (hb : Below wc.heap.size wc wd) : DBx pl w wd r M := ⟨up_trans h.up hb, h.box.up hb h.box.lt, h.res.up hb h.res.lt, h.dw.below hb⟩
theorem DBx.big {pl : Nat → Prop} {w wc : World} {r : RL} {M : DM} (h : DBx pl w wc r M) : w.heap.size + 2 ≤ wc.heap.size := h.res.lt
theorem Only.box2 {w a b : World} (h : Only (two2 w) a b) (j : Nat) (u : Value) : Only (two2 w) a (b.setCell ⟨w.heap.size, j, none⟩ u) := h.setCell (.inl (.inl rfl)) u
theorem pl2_new {pl : Nat → Prop} {w : World} {n : Nat} (h : w.heap.size + 2 ≤ n) : ∀ b, n ≤ b → pl2 pl w b := fun b hb => by unfold pl2 plN not2 two2; exact ⟨.inr (by omega), by omega⟩
theorem pl2_no {pl : Nat → Prop} {w : World} : ∀ k, two2 w k → ¬ pl2 pl w k := fun _ h g => g.2 h
theorem DBx.putM {pl : Nat → Prop} {w wc : World} {r : RL} {M : DM} (h : DBx pl w wc r M) {n : Nat} {A : Option Addr} {c : Nat} {s : S4} (hr : RD wc (n ≤ ·) 1 A s.ints.length (s.ints.map (Value.int .i64))) (hn : w.heap.size + 2 ≤ n) :
    DBx pl w (wc.setCell ⟨w.heap.size, 0, none⟩ (.slice A s.ints.length c)) ⟨s, r.a⟩ ⟨A, c, M.B, M.d⟩ :=
  ⟨((Only.refl (two2 w) wc).box2 0 _).two2_below h.up, h.box.set 0 _, h.res.other ⟨w.heap.size, 0, none⟩ (by simp) _,
   (show DW wc (pl2 pl w) ⟨s, r.a⟩ ⟨A, c, M.B, M.d⟩ from ⟨hr.lo (pl2_new hn), h.dw.a⟩).only ((Only.refl (two2 w) wc).box2 0 _) pl2_no⟩
theorem DBx.putA {pl : Nat → Prop} {w wc : World} {r : RL} {M : DM} (h : DBx pl w wc r M) {n : Nat} {A : Option Addr} {c : Nat} {s : S4} (hr : RD wc (n ≤ ·) 1 A s.ints.length (s.ints.map (Value.int .i64))) (hn : w.heap.size + 2 ≤ n) :
    DBx pl w (wc.setCell ⟨w.heap.size, 1, none⟩ (.slice A s.ints.length c)) ⟨r.m, s⟩ ⟨M.A, M.c, A, c⟩ :=
  ⟨((Only.refl (two2 w) wc).box2 1 _).two2_below h.up, h.box.set 1 _, h.res.other ⟨w.heap.size, 1, none⟩ (by simp) _,
   (show DW wc (pl2 pl w) ⟨r.m, s⟩ ⟨M.A, M.c, A, c⟩ from ⟨h.dw.m, hr.lo (pl2_new hn)⟩).only ((Only.refl (two2 w) wc).box2 1 _) pl2_no⟩
theorem DBx.fin {pl : Nat → Prop} {w wc : World} {r : RL} {M : DM} (h : DBx pl w wc r M) (cs : Array Value) : DW (wc.setRow (w.heap.size + 1) cs) (plN pl w) r M ∧ Below w.heap.size w (wc.setRow (w.heap.size + 1) cs) :=
  ⟨(h.dw.only ((Only.refl (two2 w) wc).row (.inr rfl) cs) pl2_no).lo (fun _ hb => hb.1), ((Only.refl (two2 w) wc).row (.inr rfl) cs).two2_below h.up⟩
theorem dbx {pl : Nat → Prop} {w : World} {r : RL} {M : DM} (h : DW w pl r M) : DBx pl w ((w.alloc (.cells (dlC r M).toArray 111)).alloc (.cells #[.slice none 0 0, .slice none 0 0] 111)) r M :=
  have k := bx2 w (dlC r M) 111 dlZ 111
  ⟨k.up, k.box, k.res, h.old.below k.up⟩
/-- What a call gives that answers a document's roll and something more. -/
def DPostP (pl : Nat → Prop) (w : World) (r : RL) (x : Value) (e : Ending) (w' : World) : Prop :=
  ∃ M, e = .returned (.tuple #[.agg (dlC r M).toArray, x]) ∧ DW w' (plN pl w) r M ∧ Below w.heap.size w w'

set_option maxRecDepth 100000 in
set_option maxHeartbeats 2000000 in
theorem c_dfine {pl : Nat → Prop} {r : RL} {M : DM} {w : World} (h : DW w pl r M) :
    Calls Tryz.prog 131 #[.agg (dlC r M).toArray] w fun e w' => e = .returned (.bool (rlFine r)) ∧ Below w.heap.size w w' := by
  have hX := bx1 w (dlC r M) 111
  generalize hw1 : w.alloc (.cells (dlC r M).toArray 111) = w1 at hX
  have HW := Lib.hid hw1
  have HX := Lib.hid hX
  have HD := Lib.hid h
  have hlen := len_le r.m
  unfold S4.len at hlen
  obtain ⟨q, hq⟩ : ∃ q, rlFine r = q := ⟨_, rfl⟩
  have HQ := Lib.hid hq
  have HF : Hid (rlFine r = (rlLow r.m && r.a.sub r.m)) := Lib.hid rfl
  rw [hq]
  clear h hX hw1 hq
  obtain ⟨m0, a0⟩ := HX.out.box.dl
  go_enter Tryz.func131, Tryz.ntmps131
  go_upto_region 1 with fail
  rw [HW.out]
  go_wp2_with fail
  go_loopw [3] (fun i wr => ∃ k : Nat, k ≤ r.m.ints.length ∧ i = .int .i64 k ∧ Hid (∀ x ∈ r.m.ints.take k, x ≤ 15) ∧ wr = w1) (fun i _ => r.m.ints.length - (intOf i).toNat)
  case atStart => exact ⟨0, Nat.zero_le _, rfl, Lib.hid (by simp), rfl⟩
  case round =>
    obtain ⟨k, hk, rfl, hlo, rfl⟩ := hrel
    by_cases hlt : k < r.m.ints.length
    · obtain ⟨bA, oA, hA, _, _, hcA⟩ := (HD.out.m.below HX.out.up).at_ (by omega)
      have h1 := hcA k (.int .i64 r.m.ints[k]) (by simp [hlt])
      have hx0 := (rise_range r.m.has _ (List.getElem_mem hlt)).1
      change 0 ≤ r.m.ints[k] at hx0
      have HM := Lib.hid (List.getElem_mem hlt)
      have HN := Lib.hid (take_next r.m.ints k r.m.ints[k] (List.getElem?_eq_getElem hlt))
      rw [hA] at m0
      have HLo := Lib.hid (low_iff r.m)
      clear hcA hA
      generalize r.m.ints[k] = x at h1 hx0 HM HN
      by_cases hx : x ≤ 15
      · go_wp2_with fail
        go_roundw
        case rel => exact ⟨k + 1, by omega, by go_num, Lib.hid (by
          rw [HN.out]
          intro z hz
          rcases List.mem_append.1 hz with hz | hz
          · exact hlo.out z hz
          · rw [List.mem_singleton.1 hz]
            exact hx), trivial⟩
        case measure => simp [intOf]; omega
      · have hq0 : q = false := by
          rw [← HQ.out, HF.out]
          cases hl : rlLow r.m
          · rfl
          · exact absurd (HLo.out.1 hl x HM.out) hx
        subst hq0
        have hx1 : 15 < x := by omega
        clear hx
        go_wp2_with fail
        go_ret
        exact ⟨rfl, HX.out.up⟩
    · obtain rfl : k = r.m.ints.length := by omega
      have HF : Hid (q = r.a.sub r.m) := Lib.hid (by
        rw [← HQ.out, HF.out]
        rw [(low_iff r.m).2 (by have := hlo.out; rwa [List.take_length] at this), Bool.true_and])
      have CL := Lib.hid (c_rlessS (c := M.d) (c2 := M.c) (HD.out.a.below HX.out.up) (HD.out.m.below HX.out.up))
      have HS : Hid (r.a.sub r.m = decide ((r.a.les r.m).ints.length = 0)) := Lib.hid rfl
      generalize (r.a.les r.m).ints = L at CL HS
      go_wp2_with fail
      refine CL.out.mono ?_; rintro e w3 ⟨A3, c3, rfl, -, -, -, hb3⟩
      go_wp2
      go_ret
      exact ⟨ret_bool (by rw [HF.out, HS.out]; simp [Bool.beq_eq_decide_eq]), up_trans HX.out.up hb3⟩

set_option maxRecDepth 100000 in
set_option maxHeartbeats 1000000 in
theorem c_dasked {pl : Nat → Prop} {r : RL} {M : DM} {w : World} (h : DW w pl r M) (p : Int) :
    Calls Tryz.prog 132 #[.agg (dlC r M).toArray, .int .i64 p] w fun e w' => e = .returned (.int .i64 (rlErr r p)) ∧ Below w.heap.size w w' := by
  have hX := bx1 w (dlC r M) 111
  generalize hw1 : w.alloc (.cells (dlC r M).toArray 111) = w1 at hX
  have HW := Lib.hid hw1
  have HX := Lib.hid hX
  have CF := Lib.hid (c_dfine (h.below hX.up))
  clear h hX hw1
  cases hf : rlFine r
  · rw [err_no hf]
    rw [hf] at CF
    clear hf
    go_enter Tryz.func132, Tryz.ntmps132
    go_upto_region 1 with fail
    rw [HW.out]
    go_wp2_with (refine ldr (b := w.heap.size) (t := 111) (cs := dlC r M) (.tmp 2) rfl rfl Tryz.underlying111 rfl info_dl rfl ?_ ?_; (· exact HX.out.box))
    refine CF.out.mono ?_; rintro e w2 ⟨rfl, hb2⟩
    go_wp2
    go_ret
    exact ⟨rfl, up_trans HX.out.up hb2⟩
  · rw [hf] at CF
    rcases (by omega : p < 0 ∨ (0 ≤ p ∧ 16 ≤ p) ∨ (0 ≤ p ∧ p ≤ 15)) with h0 | ⟨h0, h1⟩ | ⟨h0, h1⟩
    · rw [err_out hf (.inl h0)]
      clear hf
      go_enter Tryz.func132, Tryz.ntmps132
      go_upto_region 1 with fail
      rw [HW.out]
      go_wp2_with (refine ldr (b := w.heap.size) (t := 111) (cs := dlC r M) (.tmp 2) rfl rfl Tryz.underlying111 rfl info_dl rfl ?_ ?_; (· exact HX.out.box))
      refine CF.out.mono ?_; rintro e w2 ⟨rfl, hb2⟩
      go_wp2
      go_ret
      exact ⟨rfl, up_trans HX.out.up hb2⟩
    · rw [err_out hf (.inr h1)]
      have h2 : 15 < p := by omega
      clear hf h1
      go_enter Tryz.func132, Tryz.ntmps132
      go_upto_region 1 with fail
      rw [HW.out]
      go_wp2_with (refine ldr (b := w.heap.size) (t := 111) (cs := dlC r M) (.tmp 2) rfl rfl Tryz.underlying111 rfl info_dl rfl ?_ ?_; (· exact HX.out.box))
      refine CF.out.mono ?_; rintro e w2 ⟨rfl, hb2⟩
      go_wp2
      go_ret
      exact ⟨rfl, up_trans HX.out.up hb2⟩
    · rw [err_ok hf h0 (by omega)]
      clear hf
      go_enter Tryz.func132, Tryz.ntmps132
      go_upto_region 1 with fail
      rw [HW.out]
      go_wp2_with (refine ldr (b := w.heap.size) (t := 111) (cs := dlC r M) (.tmp 2) rfl rfl Tryz.underlying111 rfl info_dl rfl ?_ ?_; (· exact HX.out.box))
      refine CF.out.mono ?_; rintro e w2 ⟨rfl, hb2⟩
      go_wp2
      go_ret
      exact ⟨rfl, up_trans HX.out.up hb2⟩
end Go.Proofs.YtdiiilnebepfdaaGreatDoor

namespace Go.Proofs.YtdiiilnebepfdaaGreatDoor
open Go.RowKit

/-- A make of elements: their cells, and what they ask of memory, where their lists may lie. -/
structure Mk (α : Type) where
  f : α → List Value
  m : Nat
  len : ∀ a, (f a).length = m
  pos : 0 < m
  one : ∀ a, ∀ u ∈ f a, u.oneCell' = true
  E : (Nat → Prop) → α → World → Prop
  only : ∀ {s : Nat → Prop} {w w' : World} {pl : Nat → Prop} {q : α}, E pl q w → Only s w w' → (∀ k, s k → ¬ pl k) → E pl q w'
  lo : ∀ {w : World} {pl pl' : Nat → Prop} {q : α}, E pl q w → (∀ b, pl b → pl' b) → E pl' q w
  lt : ∀ {w : World} {pl : Nat → Prop} {q : α}, E pl q w → E (fun b => pl b ∧ b < w.heap.size) q w
theorem Mk.below {α : Type} (K : Mk α) {w w' : World} {pl : Nat → Prop} {q : α} (h : K.E pl q w) (hb : Below w.heap.size w w') : K.E pl q w' := K.only (s := fun _ => False) h (Only.of_below hb) fun _ k => k.elim
theorem flatN {α β : Type} (f : α → List β) (m : Nat) (hf : ∀ a, (f a).length = m) : ∀ l : List α, (l.flatMap f).length = l.length * m
  | [] => by simp
  | a :: l => by rw [List.flatMap_cons, List.length_append, hf, flatN f m hf l, List.length_cons, Nat.succ_mul]; omega
theorem Mk.oneL {α : Type} (K : Mk α) (L : List α) : ∀ u ∈ L.flatMap K.f, u.oneCell' = true := by
  intro u hu
  obtain ⟨q, _, hq⟩ := List.mem_flatMap.1 hu
  exact K.one q u hq
/-- They read as a list. -/
structure TW {α : Type} (K : Mk α) (w : World) (pl : Nat → Prop) (A : Option Addr) (n : Nat) (L : List α) : Prop where
  rd : RD w pl K.m A n (L.flatMap K.f)
  len : L.length = n
  each : ∀ q ∈ L, K.E pl q w
section
variable {α : Type} {K : Mk α}
theorem TW.below {w w' : World} {pl : Nat → Prop} {A : Option Addr} {n : Nat} {L : List α} (h : TW K w pl A n L) (hb : Below w.heap.size w w') : TW K w' pl A n L := ⟨h.rd.below hb, h.len, fun q hq => K.below (h.each q hq) hb⟩
theorem TW.only {s : Nat → Prop} {w w' : World} {pl : Nat → Prop} {A : Option Addr} {n : Nat} {L : List α} (h : TW K w pl A n L) (o : Only s w w') (hs : ∀ k, s k → ¬ pl k) : TW K w' pl A n L := ⟨h.rd.only o hs, h.len, fun q hq => K.only (h.each q hq) o hs⟩
theorem TW.lo {w : World} {pl pl' : Nat → Prop} {A : Option Addr} {n : Nat} {L : List α} (h : TW K w pl A n L) (hl : ∀ b, pl b → pl' b) : TW K w pl' A n L := ⟨h.rd.lo hl, h.len, fun q hq => K.lo (h.each q hq) hl⟩
theorem TW.lt {w : World} {pl : Nat → Prop} {A : Option Addr} {n : Nat} {L : List α} (h : TW K w pl A n L) : TW K w (fun b => pl b ∧ b < w.heap.size) A n L := ⟨h.rd.lt, h.len, fun q hq => K.lt (h.each q hq)⟩
theorem TW.none (K : Mk α) (w : World) (pl : Nat → Prop) : TW K w pl none 0 [] := ⟨RD.nil _ _ _ _, rfl, fun q hq => absurd hq (by simp)⟩
/-- One element of a slice of structs: where it lies, as a range. -/
theorem RD.row' {f : α → List Value} {m : Nat} (hf : ∀ a, (f a).length = m) {w : World} {pl : Nat → Prop} {A : Option Addr} {n : Nat} {l : List α} (h : RD w pl m A n (l.flatMap f)) {k : Nat} {a : α} (ha : l[k]? = some a) (hk : k < n) :
    ∃ b o, A = some ⟨b, o, Option.none⟩ ∧ pl b ∧ b < w.heap.size ∧ w.rangeAt b (o + k * m) (f a) := by
  obtain ⟨b, o, rfl, h1, h2, h3⟩ := h.at_ (by omega)
  refine ⟨b, o, rfl, h1, h2, fun j v hv => ?_⟩
  have hj : j < m := by
    have := (List.getElem?_eq_some_iff.1 hv).1
    rwa [hf] at this
  rw [Nat.add_assoc]
  exact h3 (k * m + j) v (by rw [flat_get f m hf l k j a ha hj]; exact hv)
theorem TW.at_ {w : World} {pl : Nat → Prop} {A : Option Addr} {n : Nat} {L : List α} (h : TW K w pl A n L) (k : Nat) (hk : k < n) :
    ∃ b o q, A = some ⟨b, o, Option.none⟩ ∧ pl b ∧ b < w.heap.size ∧ L[k]? = some q ∧ w.rangeAt b (o + k * K.m) (K.f q) ∧ K.E pl q w := by
  have hkL : k < L.length := by rw [h.len]; exact hk
  have hq := List.getElem?_eq_getElem hkL
  obtain ⟨b, o, e, h1, h2, h3⟩ := RD.row' K.len h.rd hq hk
  exact ⟨b, o, L[k], e, h1, h2, hq, h3, h.each _ (List.getElem_mem hkL)⟩
end

theorem layG : ∀ (cs ds : List Value) (o j : Nat), (layL ds o cs)[j]? = if o ≤ j ∧ j < o + cs.length ∧ j < ds.length then cs[j - o]? else ds[j]?
  | [], ds, o, j => by
    unfold layL
    rw [if_neg (by simp; omega)]
  | c :: cs, ds, o, j => by
    unfold layL
    rw [layG cs (ds.set o c) (o + 1) j, List.length_set, List.length_cons]
    by_cases hj : o + 1 ≤ j ∧ j < o + 1 + cs.length ∧ j < ds.length
    · rw [if_pos hj, if_pos (by omega), show j - o = (j - (o + 1)) + 1 by omega, List.getElem?_cons_succ]
    · rw [if_neg hj, List.getElem?_set]
      by_cases ho : o = j
      · subst ho
        rw [if_pos rfl]
        by_cases hl : o < ds.length
        · rw [if_pos hl, if_pos (by omega), Nat.sub_self, List.getElem?_cons_zero]
        · rw [if_neg hl, if_neg (by omega), List.getElem?_eq_none (by omega)]
      · rw [if_neg ho, if_neg (by omega)]
theorem lay_list {α : Type} (f : α → List Value) (m : Nat) (hf : ∀ a, (f a).length = m) (hm : 0 < m) (L : List α) (k : Nat) (q : α) (hk : k < L.length) (ex : List Value) : layL (L.flatMap f ++ ex) (k * m) (f q) = (L.set k q).flatMap f ++ ex := by
  refine List.ext_getElem? fun j => ?_
  rw [layG, hf, List.length_append, flatN f m hf]
  have hls := flatN f m hf (L.set k q)
  rw [List.length_set] at hls
  have hl0 := flatN f m hf L
  have hkm : k * m + m ≤ L.length * m := by
    have := Nat.mul_le_mul_right m (show k + 1 ≤ L.length from hk)
    rwa [Nat.succ_mul] at this
  by_cases hj : k * m ≤ j ∧ j < k * m + m
  · rw [if_pos (by omega), List.getElem?_append_left (by omega)]
    have := flat_get f m hf (L.set k q) k (j - k * m) q (by rw [List.getElem?_set, if_pos rfl, if_pos hk]) (by omega)
    rw [← this]
    congr 1
    omega
  · rw [if_neg (by omega)]
    by_cases hlt : j < L.length * m
    · rw [List.getElem?_append_left (by omega), List.getElem?_append_left (by omega)]
      have hd : j / m < L.length := Nat.div_lt_of_lt_mul (by rw [Nat.mul_comm]; exact hlt)
      have hmod := Nat.mod_lt j hm
      have hdm : j = j / m * m + j % m := by
        have := Nat.div_add_mod j m
        rw [Nat.mul_comm] at this
        omega
      have hne : k ≠ j / m := by
        intro e
        rw [e] at hj
        omega
      have h1 := flat_get f m hf L (j / m) (j % m) L[j / m] (List.getElem?_eq_getElem hd) hmod
      have h2 := flat_get f m hf (L.set k q) (j / m) (j % m) L[j / m] (by rw [List.getElem?_set, if_neg hne, List.getElem?_eq_getElem hd]) hmod
      rw [← hdm] at h1 h2
      rw [h1, h2]
    · rw [List.getElem?_append_right (by omega), List.getElem?_append_right (by omega), hls, hl0]

/-- What is not the row's block. -/
def nOwn (v : Value) : Nat → Prop := fun b => v.ownBlock ≠ some b
/-- What may turn of it. -/
def isOwn (v : Value) : Nat → Prop := fun b => v.ownBlock = some b
/-- A slice of the call's own: its row may be written to; its elements' lists lie elsewhere. -/
structure OT {α : Type} (K : Mk α) (w : World) (T : TypeId) (lo : Nat) (v : Value) (n : Nat) (L : List α) : Prop where
  own : w.ownsRow lo T K.m v n (L.flatMap K.f)
  each : ∀ q ∈ L, K.E (nOwn v) q w
section
variable {α : Type} {K : Mk α} {w w' : World} {T : TypeId} {lo n : Nat} {v : Value} {L : List α}
theorem OT.len (h : OT K w T lo v n L) : L.length = n := by
  have := h.own.1
  rw [flatN K.f K.m K.len] at this
  exact Nat.eq_of_mul_eq_mul_right K.pos this
theorem OT.nil (K : Mk α) (w : World) (T : TypeId) (lo : Nat) : OT K w T lo (.slice none 0 0) 0 [] := ⟨World.ownsRow_nil _ _ _ _, fun q hq => absurd hq (by simp)⟩
theorem OT.below (h : OT K w T lo v n L) (hb : Below w.heap.size w w') : OT K w' T lo v n L := ⟨own_below h.own hb, fun q hq => K.below (h.each q hq) hb⟩
theorem OT.only {s : Nat → Prop} (h : OT K w T lo v n L) (o : Only s w w') (h1 : ∀ g, v.ownBlock = some g → ¬ s g) (h2 : ∀ q ∈ L, K.E (nOwn v) q w') : OT K w' T lo v n L := ⟨own_keep h.own o h1, h2⟩
theorem OT.tw (h : OT K w T lo v n L) : ∃ A c, v = .slice A n c ∧ TW K w tt A n L := by
  obtain ⟨A, c, rfl, h1, h2, h3⟩ := own_slice h.own
  exact ⟨A, c, rfl, ⟨h3.lo (fun _ _ => trivial), h.len, fun q hq => K.lo (h.each q hq) (fun _ _ => trivial)⟩⟩
theorem OT.new (h : OT K w T lo v n L) : ∀ b, w.heap.size ≤ b → nOwn v b := by
  intro b hb hv
  rcases h.own.2 with ⟨rfl, _⟩ | ⟨g, cap, cur, rfl, _, hh, _⟩
  · cases hv
  · have : g = b := by simpa [Value.ownBlock] using hv
    have := lt_of_block hh
    omega
theorem OT.pos (h : OT K w T lo v n L) (hn : 0 < n) :
    ∃ g c ex, v = .slice (some ⟨g, 0, Option.none⟩) n c ∧ lo ≤ g ∧ Blk w g (L.flatMap K.f ++ ex) T ∧ (n ≤ c ∧ c ≤ maxLen ∧ (L.flatMap K.f ++ ex).length = c * K.m) := by
  rcases h.own.2 with ⟨rfl, h0⟩ | ⟨g, cap, cur, rfl, hg, hh, hc, hm, hsz, htk⟩
  · omega
  · refine ⟨g, cap, cur.toList.drop (n * K.m), rfl, hg, ?_, hc, hm, ?_⟩
    · unfold Blk
      rw [hh, ← htk, List.take_append_drop]
    · rw [← htk, List.take_append_drop]
      simpa using hsz
theorem OT.at_ (h : OT K w T lo v n L) (k : Nat) (hk : k < n) :
    ∃ g c q, v = .slice (some ⟨g, 0, Option.none⟩) n c ∧ lo ≤ g ∧ g < w.heap.size ∧ L[k]? = some q ∧ w.rangeAt g (k * K.m) (K.f q) ∧ w.there g (k * K.m) K.m ∧ K.E (nOwn v) q w := by
  obtain ⟨g, c, ex, rfl, hg, hb, hc, hm, hl⟩ := h.pos (by omega)
  have hkL : k < L.length := by rw [h.len]; exact hk
  have hlL := h.len
  have hfl := flatN K.f K.m K.len L
  have hkm : k * K.m + K.m ≤ L.length * K.m := by
    have := Nat.mul_le_mul_right K.m (show k + 1 ≤ L.length from hkL)
    rwa [Nat.succ_mul] at this
  refine ⟨g, c, L[k], rfl, hg, hb.lt, List.getElem?_eq_getElem hkL, fun j v hv => ?_, fun j hj => ?_, h.each _ (List.getElem_mem hkL)⟩
  · have hj : j < K.m := by
      have := (List.getElem?_eq_some_iff.1 hv).1
      rwa [K.len] at this
    refine hb.cell _ _ ?_
    rw [List.getElem?_append_left (by omega), flat_get K.f K.m K.len L k j L[k] (List.getElem?_eq_getElem hkL) hj]
    exact hv
  · refine ⟨?_, ?_⟩
    · rw [hb.cell']
      rw [List.getElem?_eq_getElem (by rw [List.length_append]; omega)]
      rfl
    · unfold Blk at hb
      simp [World.frozen?, hb]
end
section
variable {α : Type} {K : Mk α} {w w' : World} {T : TypeId} {lo n g c : Nat} {L : List α}
theorem slice_inj {g g' n c c' : Nat} (e : Value.slice (some ⟨g, 0, none⟩) n c = .slice (some ⟨g', 0, none⟩) n c') : g = g' ∧ c = c' := by
  injection e with e1 _ e2
  injection e1 with e1
  injection e1 with e1
  exact ⟨e1, e2⟩
theorem OT.th (h : OT K w T lo (.slice (some ⟨g, 0, none⟩) n c) n L) (k : Nat) (hk : k < n) : w.there g (k * K.m) K.m := by
  obtain ⟨g', c', _, e, _, _, _, _, ht, _⟩ := h.at_ k hk
  obtain ⟨rfl, rfl⟩ := slice_inj e
  exact ht
/-- An element is stored at its place. -/
theorem OT.put (h : OT K w T lo (.slice (some ⟨g, 0, none⟩) n c) n L) (k : Nat) (hk : k < n) (q : α) (hq : K.E (nOwn (.slice (some ⟨g, 0, none⟩) n c)) q w) :
    OT K (w.setCells g (k * K.m) (K.f q)) T lo (.slice (some ⟨g, 0, none⟩) n c) n (L.set k q) := by
  obtain ⟨g', c', ex, e, hg, hb, hc, hm, hl⟩ := h.pos (by omega)
  obtain ⟨rfl, rfl⟩ := slice_inj e
  have hkL : k < L.length := by rw [h.len]; exact hk
  have hb' := Blk.lay (K.f q) _ (k * K.m) w hb
  rw [lay_list K.f K.m K.len K.pos L k q hkL ex] at hb'
  have ho : Only (· = g) w (w.setCells g (k * K.m) (K.f q)) := only_cells _ _ _
  have hno : ∀ b, b = g → ¬ nOwn (.slice (some ⟨g, 0, none⟩) n c) b := fun b hb hn => hn (by rw [hb]; rfl)
  have hls := flatN K.f K.m K.len (L.set k q)
  rw [List.length_set, h.len] at hls
  refine ⟨⟨by rw [hls], .inr ⟨g, c, ((L.set k q).flatMap K.f ++ ex).toArray, rfl, hg, hb', hc, hm, ?_, ?_⟩⟩, fun x hx => ?_⟩
  · have hl0 := flatN K.f K.m K.len L
    rw [h.len] at hl0
    rw [List.length_append, hl0] at hl
    rw [List.size_toArray, List.length_append, hls, hl]
  · rw [← hls]
    simp
  · rcases List.mem_or_eq_of_mem_set hx with hx | rfl
    · exact K.only (h.each x hx) ho hno
    · exact K.only hq ho hno
end
/-- What append leaves of elements that lay there before. -/
theorem OT.of {α : Type} {K : Mk α} {w w' : World} {T : TypeId} {v : Value} {n : Nat} {L : List α} (h : w'.ownsRow w.heap.size T K.m v n (L.flatMap K.f)) {pl : Nat → Prop} (k : ∀ q ∈ L, K.E pl q w) (hb : Below w.heap.size w w') : OT K w' T w.heap.size v n L := by
  refine ⟨h, fun q hq => K.lo (K.below (K.lt (k q hq)) hb) fun b hb' e => ?_⟩
  have := (h.lt b e).1
  have := hb'.2
  omega
/-- A new row of one element, which append is given. -/
theorem RD.oneK {α : Type} (K : Mk α) {w : World} {q : α} {t : TypeId} {n : Nat} (hn : n = w.heap.size) : RD (w.alloc (.cells (K.f q).toArray t)) tt K.m (some ⟨n, 0, none⟩) 1 ([q].flatMap K.f) :=
  hn ▸ RD.of_blk (xs := [q].flatMap K.f) (t := t) (by simpa using Blk.new w (K.f q) t) (by rw [flatN K.f K.m K.len]; simp) trivial
/-- The row behind an append: it has grown by one, whose lists lie in none of its blocks. -/
theorem OT.app {α : Type} {K : Mk α} {w w1 w' : World} {T : TypeId} {lo : Nat} {v v' : Value} {n m : Nat} {L : List α} {q : α} (h : OT K w T lo v n L) (hb : Below w.heap.size w w1)
    (hw : w'.ownsRow lo T K.m v' m ((L ++ [q]).flatMap K.f)) (hg : w1.grownBy w' v.ownBlock) (hn : ∀ g, v'.ownBlock = some g → v.ownBlock = some g ∨ w1.heap.size ≤ g) (hq : K.E (fun b => nOwn v b) q w1) : OT K w' T lo v' m (L ++ [q]) := by
  have ho : Only (isOwn v) w1 w' := (Only.refl (isOwn v) w1).grown hg (fun k e => .inl e)
  have hno : ∀ k, isOwn v k → ¬ (nOwn v k ∧ k < w1.heap.size) := fun k h1 h2 => h2.1 h1
  have hto : ∀ b, nOwn v b ∧ b < w1.heap.size → nOwn v' b := fun b h1 e => by
    rcases hn b e with h2 | h2
    · exact h1.1 h2
    · have := h1.2
      omega
  refine ⟨hw, fun x hx => ?_⟩
  rcases List.mem_append.1 hx with hx | hx
  · exact K.lo (K.only (K.lt (K.below (h.each x hx) hb)) ho hno) hto
  · obtain rfl : x = q := by simpa using hx
    exact K.lo (K.only (K.lt hq) ho hno) hto
end Go.Proofs.YtdiiilnebepfdaaGreatDoor

namespace Go.Proofs.YtdiiilnebepfdaaGreatDoor
open Go.RowKit

end Go.Proofs.YtdiiilnebepfdaaGreatDoor

namespace Go.Proofs.YtdiiilnebepfdaaGreatDoor

/-- What a barrier is to be. -/
abbrev CB := Bool × Int
def cbC (c : CB) : List Value := [.bool c.1, .int .i64 c.2]
theorem cbC_len (c : CB) : (cbC c).length = 2 := rfl
def cbN (c : CB) : BR := brNew c.1 c.2

def tIn (n : Nat) (b : Int) : Bool := decide (0 ≤ b) && decide (b < (n : Int))
theorem tIn_neg {n : Nat} {b : Int} (h : b < 0) : tIn n b = false := by unfold tIn; rw [decide_eq_false (by omega)]; rfl
theorem tIn_over {n : Nat} {b : Int} (h : (n : Int) ≤ b) : tIn n b = false := by unfold tIn; rw [decide_eq_false (show ¬ b < (n : Int) by omega), Bool.and_false]
theorem tIn_at {n k : Nat} (h : k < n) : tIn n (k : Int) = true := by unfold tIn; rw [decide_eq_true (by omega), decide_eq_true (by omega)]; rfl
theorem tIn_cases (n : Nat) (b : Int) : b < 0 ∨ (0 ≤ b ∧ (n : Int) ≤ b) ∨ ∃ k : Nat, b = k ∧ k < n := by
  rcases (by omega : b < 0 ∨ (0 ≤ b ∧ (n : Int) ≤ b) ∨ (0 ≤ b ∧ b < (n : Int))) with h | h | h
  · exact .inl h
  · exact .inr (.inl h)
  · exact .inr (.inr ⟨b.toNat, by omega, by omega⟩)
/-- One barrier is changed. -/
def tOne (f : BR → BR × Int) (L : List BR) (b : Int) : List BR × Int :=
  if tIn L.length b = false then (L, 8) else if (f (L.getD b.toNat BR.zero)).2 = 0 then (L.set b.toNat (f (L.getD b.toNat BR.zero)).1, 0) else (L, (f (L.getD b.toNat BR.zero)).2)
theorem tOne_no {f : BR → BR × Int} {L : List BR} {b : Int} (h : tIn L.length b = false) : tOne f L b = (L, 8) := if_pos h
theorem getD_at {L : List BR} {k : Nat} {q : BR} (h : L[k]? = some q) : L.getD k BR.zero = q := by rw [List.getD_eq_getElem?_getD, h]; rfl
theorem getD_at' {L : List BR} {k : Nat} {q : BR} (h : L[k]? = some q) : L.getD (k : Int).toNat BR.zero = q := by rw [Int.toNat_natCast]; exact getD_at h
theorem lt_at {L : List BR} {k : Nat} {q : BR} (h : L[k]? = some q) : k < L.length := (List.getElem?_eq_some_iff.1 h).1
theorem tOne_ok {f : BR → BR × Int} {L : List BR} {k : Nat} {q R : BR} (h : L[k]? = some q) (hf : f q = (R, 0)) : tOne f L (k : Int) = (L.set k R, 0) := by
  unfold tOne
  rw [getD_at' h, hf, if_neg (by rw [tIn_at (lt_at h)]; decide), if_pos rfl, Int.toNat_natCast]
theorem tOne_err {f : BR → BR × Int} {L : List BR} {k : Nat} {q R : BR} {x : Int} (h : L[k]? = some q) (hf : f q = (R, x)) (hx : x ≠ 0) : tOne f L (k : Int) = (L, x) := by
  unfold tOne
  rw [getD_at' h, hf, if_neg (by rw [tIn_at (lt_at h)]; decide), if_neg hx]
/-- Who waits by guards. -/
def offR (p : Int) (al : Bool) (T : List BR) : List BR → Nat → List GD → List BR × Nat × Int
  | L, _, [] => (L, 0, 0)
  | L, i, g :: gs => if g.k ≠ 3 then offR p al T L (i + 1) gs else if (tOne (brOffer · p al) L g.o).2 = 0 then offR p al T (tOne (brOffer · p al) L g.o).1 (i + 1) gs else (T, i, (tOne (brOffer · p al) L g.o).2)
theorem offR_skip {p : Int} {al : Bool} {T L : List BR} {i : Nat} {g : GD} {gs : List GD} (h : g.k ≠ 3) : offR p al T L i (g :: gs) = offR p al T L (i + 1) gs := by
  show (if _ then _ else _) = _
  rw [if_pos h]
theorem offR_ok {p : Int} {al : Bool} {T L L2 : List BR} {i : Nat} {g : GD} {gs : List GD} (h : g.k = 3) (h2 : tOne (brOffer · p al) L g.o = (L2, 0)) : offR p al T L i (g :: gs) = offR p al T L2 (i + 1) gs := by
  show (if _ then _ else _) = _
  rw [if_neg (by rw [h]; decide), h2, if_pos rfl]
theorem offR_err {p : Int} {al : Bool} {T L L2 : List BR} {i : Nat} {g : GD} {gs : List GD} {x : Int} (h : g.k = 3) (h2 : tOne (brOffer · p al) L g.o = (L2, x)) (hx : x ≠ 0) : offR p al T L i (g :: gs) = (T, i, x) := by
  show (if _ then _ else _) = _
  rw [if_neg (by rw [h]; decide), h2, if_neg hx]
/-- Which are ready. -/
def rdyL : Nat → List BR → List Int
  | _, [] => []
  | i, b :: L => (if brReady b = true then [(i : Int)] else []) ++ rdyL (i + 1) L
theorem rdyL_snoc : ∀ (L : List BR) (i : Nat) (b : BR), rdyL i (L ++ [b]) = rdyL i L ++ (if brReady b = true then [((i + L.length : Nat) : Int)] else [])
  | [], i, b => by simp [rdyL]
  | c :: L, i, b => by
    show (if brReady c = true then [(i : Int)] else []) ++ rdyL (i + 1) (L ++ [b]) = _
    rw [rdyL_snoc L (i + 1) b, ← List.append_assoc]
    congr 2
    rw [List.length_cons, show i + 1 + L.length = i + (L.length + 1) by omega]
theorem rdyL_len : ∀ (L : List BR) (i : Nat), (rdyL i L).length ≤ L.length
  | [], _ => Nat.le_refl _
  | c :: L, i => by
    have := rdyL_len L (i + 1)
    show ((if brReady c = true then [(i : Int)] else []) ++ rdyL (i + 1) L).length ≤ _
    rw [List.length_append, List.length_cons]
    split
    · simp; omega
    · simp; omega
theorem rdyL_mem : ∀ (L : List BR) (i : Nat) (x : Int), x ∈ rdyL i L ↔ ∃ k q, L[k]? = some q ∧ brReady q = true ∧ x = ((i + k : Nat) : Int)
  | [], i, x => by simp [rdyL]
  | c :: L, i, x => by
    show x ∈ (if brReady c = true then [(i : Int)] else []) ++ rdyL (i + 1) L ↔ _
    rw [List.mem_append, rdyL_mem L (i + 1) x]
    constructor
    · rintro (h | ⟨k, q, h1, h2, h3⟩)
      · split at h
        · next hc => exact ⟨0, c, rfl, hc, by simpa using h⟩
        · simp at h
      · exact ⟨k + 1, q, h1, h2, by rw [h3]; congr 1; omega⟩
    · rintro ⟨k, q, h1, h2, h3⟩
      cases k with
      | zero =>
        left
        obtain rfl : c = q := by simpa using h1
        rw [if_pos h2]
        simpa using h3
      | succ k => exact .inr ⟨k, q, by simpa using h1, h2, by rw [h3]; congr 1; omega⟩
/-- The first one that may not be. -/
def nwRun : Nat → List CB → Nat × Int
  | _, [] => (0, 0)
  | i, c :: l => if brChk c.2 = 0 then nwRun (i + 1) l else (i, brChk c.2)
def nwR (l : List CB) : Nat × Int := if 8 < l.length then (8, 5) else nwRun 0 l
def nwL (l : List CB) : List BR := if (nwR l).2 = 0 then l.map cbN else []
theorem nwRun_step {i : Nat} {c : CB} {l : List CB} (h : brChk c.2 = 0) : nwRun i (c :: l) = nwRun (i + 1) l := by
  show (if brChk c.2 = 0 then _ else _) = _
  rw [if_pos h]
theorem nwRun_stop {i : Nat} {c : CB} {l : List CB} (h : brChk c.2 ≠ 0) : nwRun i (c :: l) = (i, brChk c.2) := by
  show (if brChk c.2 = 0 then _ else _) = _
  rw [if_neg h]
theorem take_snoc' {α : Type} (L : List α) (k : Nat) (h : k < L.length) : L.take (k + 1) = L.take k ++ [L[k]] := by
  rw [List.take_add_one, List.getElem?_eq_getElem h]
  rfl
end Go.Proofs.YtdiiilnebepfdaaGreatDoor

namespace Go.Proofs.YtdiiilnebepfdaaGreatDoor
open Go.RowKit

/-- Barriers of the program: they ask nothing of memory. -/
def pB : Mk BR := ⟨brC, 11, fun _ => rfl, by omega, fun _ => brC_one, fun _ _ _ => True, fun _ _ _ => trivial, fun _ _ => trivial, fun _ => trivial⟩
theorem ei_bt : EI Tryz.prog 36 139 (.agg brZ.toArray) 11 88 := ⟨Tryz.underlying36, by kernel_rfl, rfl, by omega, by omega⟩

end Go.Proofs.YtdiiilnebepfdaaGreatDoor

namespace Go.Proofs.YtdiiilnebepfdaaGreatDoor
open Go.RowKit

end Go.Proofs.YtdiiilnebepfdaaGreatDoor

namespace Go.Proofs.YtdiiilnebepfdaaGreatDoor
open Go.RowKit

theorem Only.no {w w' : World} (h : Only (fun _ => False) w w') : Below w.heap.size w w' := h.toBelow (Nat.le_refl _) fun _ k => k.elim

end Go.Proofs.YtdiiilnebepfdaaGreatDoor

namespace Go.Proofs.YtdiiilnebepfdaaGreatDoor
open Go.RowKit

theorem rdy_next {L : List BR} {k : Nat} {q : BR} (h : L[k]? = some q) : rdyL 0 (L.take (k + 1)) = rdyL 0 (L.take k) ++ (if brReady q = true then [(k : Int)] else []) := by
  have e : 0 + (L.take k).length = k := by rw [List.length_take]; have := lt_at h; omega
  rw [List.take_add_one, h]
  show rdyL 0 (L.take k ++ [q]) = _
  rw [rdyL_snoc, e]
set_option maxRecDepth 100000 in
set_option maxHeartbeats 4000000 in
theorem c_tready {w : World} {A : Option Addr} {n c : Nat} {L : List BR} (h : TW pB w tt A n L) (hn : n ≤ 100000) (hT : TabD w) :
    Calls Tryz.prog 78 #[.slice A n c] w (IntsPost w (rdyL 0 L)) := by
  have HT := Lib.hid h
  have HL := Lib.hid h.len
  have CR := Lib.hid (fun q W (hW : Below w.heap.size w W) => c_brready q W (hT.up hW))
  clear h hT
  go_enter Tryz.func78, Tryz.ntmps78
  go_wp2_with fail
  go_loopw [3, 8] (fun s i wr => ∃ k : Nat, k ≤ n ∧ i = .int .i64 k ∧ wr.ownsRow w.heap.size 3 1 s (rdyL 0 (L.take k)).length ((rdyL 0 (L.take k)).map (Value.int .i64)) ∧ Below w.heap.size w wr) (fun _ i _ => n - (intOf i).toNat)
  case atStart => exact ⟨0, Nat.zero_le _, rfl, World.ownsRow_nil _ _ _ _, Below.refl _ _⟩
  case round =>
    obtain ⟨k, hk, rfl, hown, hbw⟩ := hrel
    by_cases hlt : k < n
    · obtain ⟨b, o, q, rfl, _, _, hq, hrg, _⟩ := (HT.out.below hbw).at_ k hlt
      have HRG : Hid (wr.rangeAt b (o + k * 11) (brC q)) := Lib.hid hrg
      have HO := Lib.hid hown
      have HB := Lib.hid hbw
      have K := Lib.hid (Blk.new wr (brC q) 139)
      have CH := Lib.hid (CR.out q (wr.alloc (.cells (brC q).toArray 139)) (up_trans hbw (up_alloc _ _)))
      have HS := Lib.hid (rdy_next hq)
      have HZ := Lib.hid (rdyL_len (L.take k) 0)
      have HZ2 : Hid ((L.take k).length ≤ k) := Lib.hid (by rw [List.length_take]; omega)
      clear hq hrg hown hbw
      cases hh : brReady q
      · rw [hh] at CH
        have HS2 : Hid (rdyL 0 (L.take (k + 1)) = rdyL 0 (L.take k)) := Lib.hid (by rw [HS.out, if_neg (by rw [hh]; decide), List.append_nil])
        clear hh HS
        go_wp2_with (first | (refine lmr (b := b) (q := o + k * 11) (cs := brC q) (.tmp 11) rfl rfl Tryz.underlying139 rfl info_bar rfl ?_ ?_; (· exact HRG.out)) | (refine snr (W := wr) (cs := brC q) (zs := brZ) (t := 139) (.tmp 5) (.tmp 12) rfl rfl rfl rfl info_bar rfl brC_one ?_ ?_ ?_; (· rfl); (· rfl)) | (refine ldr (b := wr.heap.size) (t := 139) (cs := brC q) (.tmp 5) rfl rfl Tryz.underlying139 rfl info_bar rfl ?_ ?_; (· exact K.out)))
        refine CH.out.mono ?_; rintro e w2 ⟨rfl, hb2⟩
        have HB2 := Lib.hid (up_trans (up_alloc wr (.cells (brC q).toArray 139)) hb2)
        clear hb2
        go_wp2_with fail
        go_roundw
        case rel => exact ⟨k + 1, by omega, by go_num, by rw [HS2.out]; exact own_below HO.out HB2.out, up_trans HB.out HB2.out⟩
        case measure => simp [intOf]; omega
      · rw [hh] at CH
        have HS2 : Hid (rdyL 0 (L.take (k + 1)) = rdyL 0 (L.take k) ++ [(k : Int)]) := Lib.hid (by rw [HS.out, if_pos hh])
        clear hh HS
        go_wp2_with (first | (refine lmr (b := b) (q := o + k * 11) (cs := brC q) (.tmp 11) rfl rfl Tryz.underlying139 rfl info_bar rfl ?_ ?_; (· exact HRG.out)) | (refine snr (W := wr) (cs := brC q) (zs := brZ) (t := 139) (.tmp 5) (.tmp 12) rfl rfl rfl rfl info_bar rfl brC_one ?_ ?_ ?_; (· rfl); (· rfl)) | (refine ldr (b := wr.heap.size) (t := 139) (cs := brC q) (.tmp 5) rfl rfl Tryz.underlying139 rfl info_bar rfl ?_ ?_; (· exact K.out)))
        refine CH.out.mono ?_; rintro e w2 ⟨rfl, hb2⟩
        have hb3 := up_trans (up_alloc wr (.cells (brC q).toArray 139)) hb2
        have HB3 := Lib.hid hb3
        have HO3 := Lib.hid (own_below (own_below HO.out hb3) (up_alloc w2 (.cells #[.int .i64 (k : Int)] 3)))
        have HY : Hid (w.heap.size ≤ (w2.alloc (.cells #[.int .i64 (k : Int)] 3)).heap.size) := Lib.hid (by have h1 := HB.out.size; have h2 := hb3.size; simp; omega)
        clear hb2 hb3
        go_wp2_with (at_builtin; refine wpList_app ei_int rfl (.tmp 15) (.tmp 17) rfl _ _ rfl HO3.out rfl (RD.one rfl) (by simp [Value.oneCell']) (by have := HZ.out; have := HZ2.out; omega) HY.out ?_; intro v4 w4 hown4 hb4; have HO4 := Lib.hid hown4; have HB4 := Lib.hid hb4; clear hown4 hb4)
        go_roundw
        case rel => exact ⟨k + 1, by omega, by go_num, by rw [HS2.out, List.map_append, List.length_append]; exact HO4.out, (up_trans HB.out (up_trans HB3.out (up_alloc _ _))).trans HB4.out⟩
        case measure => simp [intOf]; omega
    · obtain rfl : k = n := by omega
      have HO := Lib.hid hown
      have HB := Lib.hid hbw
      have HS : Hid (L.take k = L) := Lib.hid (List.take_of_length_le (by rw [HL.out]; exact Nat.le_refl _))
      clear hown hbw
      go_wp2
      go_ret
      have h1 := HO.out
      rw [HS.out] at h1
      exact IntsPost.of h1 HB.out

set_option maxRecDepth 100000 in
theorem info_cb : (Tryz.prog.info? 109).map (·.size) = some 2 := by kernel_rfl

end Go.Proofs.YtdiiilnebepfdaaGreatDoor

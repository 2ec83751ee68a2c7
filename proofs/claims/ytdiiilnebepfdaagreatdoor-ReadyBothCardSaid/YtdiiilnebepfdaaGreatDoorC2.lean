/- Package channel: behind, Send, Recv, Poison. Package channel: Leave. Package channel: Do, where a value passes from one to another one. Package channel: Do, of any number. A table of channels in memory: a slice of rows of 11 cells, each a channel; one of the call's own, which may be written to. Plain maths of a table: new ones, what guards do, what may happen, whom it hits, who leaves. Package chantab: slices.Clone of channels, there, shared, join. Package chantab: Leave. Package chantab: Hits, Moves. Package chantab: New. Package chantab: wait. -/
import Derived.Test.YtdiiilnebepfdaaGreatDoorC1
import Derived.StillTailTactics
import Derived.Test.YtdiiilnebepfdaaGreatDoorA3
import Derived.BigRegion
import Derived.OrdersHeld
import Derived.Deep.RegionHeld3
import Derived.Deep.CutBlock
import Derived.Test.YtdiiilnebepfdaaGreatDoorA1
import Derived.Deep.MidRow
import Derived.Lib.SliceRun
import Derived.LoopTactic
namespace Go.Proofs.YtdiiilnebepfdaaGreatDoor
open Go.RowKit

theorem LnW.of_own {w : World} {lo n : Nat} {v : Value} {L : List Int} (h : w.ownsRow lo 3 1 v n (L.map (Value.int .i64))) : ∃ A c, v = .slice A n c ∧ LnW w (lo ≤ ·) A n c L := by
  obtain ⟨A, c, rfl, h1, h2, h3⟩ := own_slice h
  exact ⟨A, c, rfl, h3, by have := h.1; simpa using this, h1, h2⟩

/-- The two blocks that a function lays for itself: its channel's box, and its answer's cell. -/
def two (w : World) : Nat → Prop := fun k => k = w.heap.size ∨ k = w.heap.size + 1
def chPlN (w : World) (pl : Nat → Prop) : Nat → Prop := fun b => pl b ∧ ¬ two w b
theorem plN_no {w : World} {pl : Nat → Prop} : ∀ k, two w k → ¬ chPlN w pl k := fun _ h g => g.2 h
theorem plN_new {w W : World} {pl : Nat → Prop} (hp : ∀ b, w.heap.size ≤ b → pl b) (hW : w.heap.size + 2 ≤ W.heap.size) : ∀ b, W.heap.size ≤ b → chPlN w pl b := fun b hb => ⟨hp b (by omega), by unfold two; omega⟩
theorem LnW.old {w : World} {pl : Nat → Prop} {A : Option Addr} {n c : Nat} {L : List Int} (h : LnW w pl A n c L) : LnW w (chPlN w pl) A n c L := ⟨h.rd.lt.lo fun b hb => ⟨hb.1, by unfold two; omega⟩, h.len, h.nc, h.cm⟩
theorem ChW.old {w : World} {pl : Nat → Prop} {C : CP} {M : SM} (h : ChW w pl C M) : ChW w (chPlN w pl) C M := ⟨h.v.old, h.w_.old, h.s.old, h.g.old⟩
theorem Only.box {w a b : World} (h : Only (two w) a b) (j : Nat) (u : Value) : Only (two w) a (b.setCell ⟨w.heap.size, j, none⟩ u) := h.setCell (.inl (.inl rfl)) u
theorem Only.res {w a b : World} (h : Only (two w) a b) (cs : Array Value) : Only (two w) a (b.setRow (w.heap.size + 1) cs) := h.row (.inr rfl) cs
theorem Only.two_below {w a b : World} (h : Only (two w) a b) (hw : Below w.heap.size w a) : Below w.heap.size w b := hw.trans (h.toBelow hw.size (fun k hk => by rcases hk with rfl | rfl <;> omega))
/-- What a call gives that answers a channel and something more. -/
def ChPost (w : World) (pl : Nat → Prop) (C : CP) (k : Value) (e : Ending) (w' : World) : Prop :=
  ∃ M, e = .returned (.tuple #[.agg (chC C M).toArray, k]) ∧ ChW w' pl C M ∧ Below w.heap.size w w'
/-- The channel's cells behind stores. -/
theorem Blk.pOut {w : World} {b : Nat} {C : CP} {M : SM} {t : TypeId} (h : Blk w b (chC C M) t) (A : Option Addr) (n c : Nat) (L : List Int) : Blk ((w.setCell ⟨b, 6, none⟩ (.bool C.os)).setCell ⟨b, 7, none⟩ (.slice A n c)) b (chC { C with W := L } { M with W := ⟨A, n, c⟩ }) t := (h.set 6 _).set 7 _
theorem Blk.pIn {w : World} {b : Nat} {C : CP} {M : SM} {t : TypeId} (h : Blk w b (chC C M) t) (A : Option Addr) (n c : Nat) (L : List Int) : Blk ((w.setCell ⟨b, 9, none⟩ (.bool C.is)).setCell ⟨b, 10, none⟩ (.slice A n c)) b (chC { C with G := L } { M with G := ⟨A, n, c⟩ }) t := (h.set 9 _).set 10 _
theorem Blk.pVals {w : World} {b : Nat} {C : CP} {M : SM} {t : TypeId} (h : Blk w b (chC C M) t) (A : Option Addr) (n c : Nat) (L : List Int) : Blk (w.setCell ⟨b, 8, none⟩ (.slice A n c)) b (chC { C with S := L } { M with S := ⟨A, n, c⟩ }) t := h.set 8 _
theorem Blk.pValues {w : World} {b : Nat} {C : CP} {M : SM} {t : TypeId} (h : Blk w b (chC C M) t) (A : Option Addr) (n c : Nat) (L : List Int) : Blk (w.setCell ⟨b, 5, none⟩ (.slice A n c)) b (chC { C with V := L } { M with V := ⟨A, n, c⟩ }) t := h.set 5 _
theorem Blk.pLevel {w : World} {b : Nat} {C : CP} {M : SM} {t : TypeId} (h : Blk w b (chC C M) t) (x : Int) : Blk (w.setCell ⟨b, 4, none⟩ (.int .i64 x)) b (chC { C with lv := x } M) t := h.set 4 _

end Go.Proofs.YtdiiilnebepfdaaGreatDoor

namespace Go.Proofs.YtdiiilnebepfdaaGreatDoor
open Go.RowKit

/-- A channel's box that is written to, and a cell for the answer: what they hold in a world behind. -/
structure BxC (w wc : World) (pl : Nat → Prop) (C : CP) (M : SM) (t : TypeId) : Prop where
  up : Below w.heap.size w wc
  box : Blk wc w.heap.size (chC C M) t
  res : Blk wc (w.heap.size + 1) chZ t
  ch : ChW wc (chPlN w pl) C M
theorem BxC.next {w wc wd : World} {pl : Nat → Prop} {C : CP} {M : SM} {t : TypeId} (h : BxC w wc pl C M t) (hb : Below wc.heap.size wc wd) : BxC w wd pl C M t :=
  ⟨up_trans h.up hb, h.box.up hb h.box.lt, h.res.up hb h.res.lt, h.ch.below hb⟩
theorem BxC.big {w wc : World} {pl : Nat → Prop} {C : CP} {M : SM} {t : TypeId} (h : BxC w wc pl C M t) : w.heap.size + 2 ≤ wc.heap.size := h.res.lt
theorem BxC.out {w wc : World} {pl : Nat → Prop} {C : CP} {M : SM} {t : TypeId} (h : BxC w wc pl C M t) {A : Option Addr} {n c : Nat} {L : List Int} (hl : LnW wc (chPlN w pl) A n c L) :
    BxC w ((wc.setCell ⟨w.heap.size, 6, none⟩ (.bool C.os)).setCell ⟨w.heap.size, 7, none⟩ (.slice A n c)) pl { C with W := L } { M with W := ⟨A, n, c⟩ } t :=
  ⟨(((Only.refl (two w) wc).box 6 _).box 7 _).two_below h.up, h.box.pOut A n c L, (h.res.other ⟨w.heap.size, 6, none⟩ (by simp) _).other ⟨w.heap.size, 7, none⟩ (by simp) _,
   (show ChW wc (chPlN w pl) { C with W := L } { M with W := ⟨A, n, c⟩ } from ⟨h.ch.v, hl, h.ch.s, h.ch.g⟩).only (((Only.refl (two w) wc).box 6 _).box 7 _) plN_no⟩
theorem BxC.values {w wc : World} {pl : Nat → Prop} {C : CP} {M : SM} {t : TypeId} (h : BxC w wc pl C M t) {A : Option Addr} {n c : Nat} {L : List Int} (hl : LnW wc (chPlN w pl) A n c L) :
    BxC w (wc.setCell ⟨w.heap.size, 5, none⟩ (.slice A n c)) pl { C with V := L } { M with V := ⟨A, n, c⟩ } t :=
  ⟨((Only.refl (two w) wc).box 5 _).two_below h.up, h.box.pValues A n c L, h.res.other ⟨w.heap.size, 5, none⟩ (by simp) _,
   (show ChW wc (chPlN w pl) { C with V := L } { M with V := ⟨A, n, c⟩ } from ⟨hl, h.ch.w_, h.ch.s, h.ch.g⟩).only ((Only.refl (two w) wc).box 5 _) plN_no⟩
theorem BxC.fin {w wc : World} {pl : Nat → Prop} {C : CP} {M : SM} {t : TypeId} (h : BxC w wc pl C M t) (cs : Array Value) : ChW (wc.setRow (w.heap.size + 1) cs) pl C M ∧ Below w.heap.size w (wc.setRow (w.heap.size + 1) cs) :=
  ⟨(h.ch.only ((Only.refl (two w) wc).res cs) plN_no).lo (fun _ h => h.1), ((Only.refl (two w) wc).res cs).two_below h.up⟩
theorem BxC.of {w w2 : World} {pl : Nat → Prop} {C : CP} {M : SM} {t : TypeId} (h : Bx2 w w2 (chC C M) t chZ t) (hv : ChW w pl C M) : BxC w w2 pl C M t := ⟨h.up, h.box, h.res, hv.old.below h.up⟩

end Go.Proofs.YtdiiilnebepfdaaGreatDoor

namespace Go.Proofs.YtdiiilnebepfdaaGreatDoor
open Go.RowKit

/-- The blocks that Do lays for itself. -/
def own3 (w : World) : Nat → Prop := fun k => w.heap.size ≤ k ∧ k < w.heap.size + 3
def pl3 (w : World) (pl : Nat → Prop) : Nat → Prop := fun b => pl b ∧ ¬ own3 w b
theorem pl3_no {w : World} {pl : Nat → Prop} : ∀ k, own3 w k → ¬ pl3 w pl k := fun _ h g => g.2 h
theorem Only.own_below {w a b : World} (h : Only (own3 w) a b) (hw : Below w.heap.size w a) : Below w.heap.size w b := hw.trans (h.toBelow hw.size (fun _ hk => hk.1))

end Go.Proofs.YtdiiilnebepfdaaGreatDoor

namespace Go.Proofs.YtdiiilnebepfdaaGreatDoor
open Go.RowKit

theorem chMay_is {C : CP} {m : Int} (h : chMay C m = true) : m = 1 ∨ m = 2 ∨ m = 3 := by
  unfold chMay at h
  split at h
  · omega
  · split at h
    · omega
    · split at h
      · omega
      · cases h
theorem ChW.puts {w wc wd : World} {pl : Nat → Prop} {C : CP} {M : SM} (h : ChW wc (pl3 w pl) C M) {A : Option Addr} {n c : Nat} {L : List Int} (hl : LnW wc (pl3 w pl) A n c L) (ho : Only (own3 w) wc wd) : ChW wd (pl3 w pl) { C with V := L } { M with V := ⟨A, n, c⟩ } :=
  (show ChW wc (pl3 w pl) { C with V := L } { M with V := ⟨A, n, c⟩ } from ⟨hl, h.w_, h.s, h.g⟩).only ho pl3_no

end Go.Proofs.YtdiiilnebepfdaaGreatDoor

namespace Go.Proofs.YtdiiilnebepfdaaGreatDoor
open Go.RowKit

/-- A channel with its slices. -/
abbrev CQ := CP × SM
def cellsQ (q : CQ) : List Value := chC q.1 q.2
theorem cellsQ_len (q : CQ) : (cellsQ q).length = 11 := rfl
theorem cellsQ_one (L : List CQ) : ∀ u ∈ L.flatMap cellsQ, u.oneCell' = true := by
  intro u hu
  obtain ⟨q, _, hq⟩ := List.mem_flatMap.1 hu
  exact chC_one u hq
def zeroQ : CQ := (chZero, SM.nil)
instance : Inhabited CQ := ⟨zeroQ⟩
def ctAny : Nat → Prop := fun _ => True
theorem ChW.tt {w : World} {pl : Nat → Prop} {C : CP} {M : SM} (h : ChW w pl C M) : ChW w ctAny C M := h.lo fun _ _ => trivial
theorem LnW.lt {w : World} {pl : Nat → Prop} {A : Option Addr} {n c : Nat} {L : List Int} (h : LnW w pl A n c L) : LnW w (fun b => pl b ∧ b < w.heap.size) A n c L := ⟨h.rd.lt, h.len, h.nc, h.cm⟩
theorem ChW.lt {w : World} {pl : Nat → Prop} {C : CP} {M : SM} (h : ChW w pl C M) : ChW w (fun b => pl b ∧ b < w.heap.size) C M := ⟨h.v.lt, h.w_.lt, h.s.lt, h.g.lt⟩
/-- They read as the table's channels. -/
structure TbW (w : World) (pl : Nat → Prop) (A : Option Addr) (n c : Nat) (L : List CQ) : Prop where
  rd : RD w pl 11 A n (L.flatMap cellsQ)
  len : L.length = n
  nc : n ≤ c
  cm : c ≤ maxLen
  each : ∀ q ∈ L, ChW w ctAny q.1 q.2
theorem TbW.below {w w' : World} {pl : Nat → Prop} {A : Option Addr} {n c : Nat} {L : List CQ} (h : TbW w pl A n c L) (hb : Below w.heap.size w w') : TbW w' pl A n c L := ⟨h.rd.below hb, h.len, h.nc, h.cm, fun q hq => (h.each q hq).below hb⟩
theorem TbW.lo {w : World} {pl pl' : Nat → Prop} {A : Option Addr} {n c : Nat} {L : List CQ} (h : TbW w pl A n c L) (hl : ∀ b, pl b → pl' b) : TbW w pl' A n c L := ⟨h.rd.lo hl, h.len, h.nc, h.cm, h.each⟩
theorem TbW.none (w : World) (pl : Nat → Prop) : TbW w pl none 0 0 [] := ⟨RD.nil _ _ _ _, rfl, Nat.le_refl _, by unfold maxLen; omega, fun q hq => absurd hq (by simp)⟩
theorem flat_len {α β : Type} (f : α → List β) (m : Nat) (hf : ∀ a, (f a).length = m) : ∀ l : List α, (l.flatMap f).length = l.length * m
  | [] => by simp
  | a :: l => by rw [List.flatMap_cons, List.length_append, hf, flat_len f m hf l, List.length_cons, Nat.succ_mul]; omega
/-- The k-th channel: where it lies, as a range of cells. -/
theorem TbW.at_ {w : World} {pl : Nat → Prop} {A : Option Addr} {n c : Nat} {L : List CQ} (h : TbW w pl A n c L) (k : Nat) (hk : k < n) :
    ∃ b o q, A = some ⟨b, o, Option.none⟩ ∧ pl b ∧ b < w.heap.size ∧ L[k]? = some q ∧ w.rangeAt b (o + k * 11) (cellsQ q) ∧ ChW w ctAny q.1 q.2 := by
  obtain ⟨b, o, rfl, h1, h2, h3⟩ := h.rd.at_ (by omega)
  have hkL : k < L.length := by rw [h.len]; exact hk
  refine ⟨b, o, L[k], rfl, h1, h2, List.getElem?_eq_getElem hkL, fun j v hv => ?_, h.each _ (List.getElem_mem hkL)⟩
  have hj : j < 11 := by
    have := (List.getElem?_eq_some_iff.1 hv).1
    rwa [cellsQ_len] at this
  rw [Nat.add_assoc]
  exact h3 (k * 11 + j) v (by rw [flat_get cellsQ 11 cellsQ_len L k j L[k] (List.getElem?_eq_getElem hkL) hj]; exact hv)

theorem layL_get : ∀ (cs ds : List Value) (o j : Nat), (layL ds o cs)[j]? = if o ≤ j ∧ j < o + cs.length ∧ j < ds.length then cs[j - o]? else ds[j]?
  | [], ds, o, j => by
    unfold layL
    rw [if_neg (by simp; omega)]
  | c :: cs, ds, o, j => by
    unfold layL
    rw [layL_get cs (ds.set o c) (o + 1) j, List.length_set, List.length_cons]
    by_cases hj : o + 1 ≤ j ∧ j < o + 1 + cs.length ∧ j < ds.length
    · rw [if_pos hj, if_pos (by omega), show j - o = (j - (o + 1)) + 1 by omega, List.getElem?_cons_succ]
    · rw [if_neg hj, List.getElem?_set]
      by_cases ho : o = j
      · subst ho
        rw [if_pos rfl]
        by_cases hl : o < ds.length
        · rw [if_pos hl, if_pos (by omega), Nat.sub_self, List.getElem?_cons_zero]
        · rw [if_neg hl, if_neg (by omega), List.getElem?_eq_none (by omega)]
      · rw [if_neg ho, if_neg (by omega)]
theorem div11 (j : Nat) : j = j / 11 * 11 + j % 11 := by omega
theorem lay_flat (L : List CQ) (k : Nat) (q : CQ) (hk : k < L.length) (ex : List Value) : layL (L.flatMap cellsQ ++ ex) (k * 11) (cellsQ q) = (L.set k q).flatMap cellsQ ++ ex := by
  refine List.ext_getElem? fun j => ?_
  rw [layL_get, cellsQ_len, List.length_append, flat_len cellsQ 11 cellsQ_len]
  have hls := flat_len cellsQ 11 cellsQ_len (L.set k q)
  rw [List.length_set] at hls
  have hl0 := flat_len cellsQ 11 cellsQ_len L
  by_cases hj : k * 11 ≤ j ∧ j < k * 11 + 11
  · rw [if_pos (by omega), List.getElem?_append_left (by omega)]
    have := flat_get cellsQ 11 cellsQ_len (L.set k q) k (j - k * 11) q (by rw [List.getElem?_set, if_pos rfl, if_pos hk]) (by omega)
    rw [← this]
    congr 1
    omega
  · rw [if_neg (by omega)]
    by_cases hlt : j < L.length * 11
    · rw [List.getElem?_append_left (by omega), List.getElem?_append_left (by omega)]
      have hd : j / 11 < L.length := by omega
      have h1 := flat_get cellsQ 11 cellsQ_len L (j / 11) (j % 11) L[j / 11] (List.getElem?_eq_getElem hd) (Nat.mod_lt _ (by omega))
      have h2 := flat_get cellsQ 11 cellsQ_len (L.set k q) (j / 11) (j % 11) L[j / 11] (by rw [List.getElem?_set, if_neg (by omega), List.getElem?_eq_getElem hd]) (Nat.mod_lt _ (by omega))
      rw [← div11] at h1 h2
      rw [h1, h2]
    · rw [List.getElem?_append_right (by omega), List.getElem?_append_right (by omega), hls, hl0]

/-- What is not the row's block. -/
def notOwn (v : Value) : Nat → Prop := fun b => v.ownBlock ≠ some b
/-- A table of the call's own: its row may be written to; its channels' lists lie elsewhere. -/
structure OwT (w : World) (T : TypeId) (lo : Nat) (v : Value) (n : Nat) (L : List CQ) : Prop where
  own : w.ownsRow lo T 11 v n (L.flatMap cellsQ)
  each : ∀ q ∈ L, ChW w (notOwn v) q.1 q.2
theorem OwT.len {w : World} {T : TypeId} {lo : Nat} {v : Value} {n : Nat} {L : List CQ} (h : OwT w T lo v n L) : L.length = n := by
  have := h.own.1
  rw [flat_len cellsQ 11 cellsQ_len] at this
  omega
theorem OwT.below {w w' : World} {T : TypeId} {lo : Nat} {v : Value} {n : Nat} {L : List CQ} (h : OwT w T lo v n L) (hb : Below w.heap.size w w') : OwT w' T lo v n L := ⟨own_below h.own hb, fun q hq => (h.each q hq).below hb⟩
theorem OwT.tb {w : World} {T : TypeId} {lo : Nat} {v : Value} {n : Nat} {L : List CQ} (h : OwT w T lo v n L) : ∃ A c, v = .slice A n c ∧ TbW w (lo ≤ ·) A n c L := by
  obtain ⟨A, c, rfl, h1, h2, h3⟩ := own_slice h.own
  exact ⟨A, c, rfl, ⟨h3, h.len, h1, h2, fun q hq => (h.each q hq).tt⟩⟩
theorem OwT.new {w : World} {T : TypeId} {lo : Nat} {v : Value} {n : Nat} {L : List CQ} (h : OwT w T lo v n L) : ∀ b, w.heap.size ≤ b → notOwn v b := by
  intro b hb hv
  rcases h.own.2 with ⟨rfl, _⟩ | ⟨g, cap, cur, rfl, _, hh, _⟩
  · cases hv
  · have : g = b := by simpa [Value.ownBlock] using hv
    have := lt_of_block hh
    omega
theorem OwT.pos {w : World} {T : TypeId} {lo : Nat} {v : Value} {n : Nat} {L : List CQ} (h : OwT w T lo v n L) (hn : 0 < n) :
    ∃ g c ex, v = .slice (some ⟨g, 0, none⟩) n c ∧ lo ≤ g ∧ Blk w g (L.flatMap cellsQ ++ ex) T ∧ (n ≤ c ∧ c ≤ maxLen ∧ (L.flatMap cellsQ ++ ex).length = c * 11) := by
  rcases h.own.2 with ⟨rfl, h0⟩ | ⟨g, cap, cur, rfl, hg, hh, hc, hm, hsz, htk⟩
  · omega
  · refine ⟨g, cap, cur.toList.drop (n * 11), rfl, hg, ?_, hc, hm, ?_⟩
    · unfold Blk
      rw [hh, ← htk, List.take_append_drop]
    · rw [← htk, List.take_append_drop]
      simpa using hsz
theorem OwT.at_ {w : World} {T : TypeId} {lo : Nat} {v : Value} {n : Nat} {L : List CQ} (h : OwT w T lo v n L) (k : Nat) (hk : k < n) :
    ∃ g c q, v = .slice (some ⟨g, 0, none⟩) n c ∧ lo ≤ g ∧ g < w.heap.size ∧ L[k]? = some q ∧ w.rangeAt g (k * 11) (cellsQ q) ∧ w.there g (k * 11) 11 ∧ ChW w (notOwn v) q.1 q.2 := by
  obtain ⟨g, c, ex, rfl, hg, hb, hc, hm, hl⟩ := h.pos (by omega)
  have hkL : k < L.length := by rw [h.len]; exact hk
  have hlL := h.len
  have hfl := flat_len cellsQ 11 cellsQ_len L
  refine ⟨g, c, L[k], rfl, hg, hb.lt, List.getElem?_eq_getElem hkL, fun j v hv => ?_, fun j hj => ?_, h.each _ (List.getElem_mem hkL)⟩
  · have hj : j < 11 := by
      have := (List.getElem?_eq_some_iff.1 hv).1
      rwa [cellsQ_len] at this
    refine hb.cell _ _ ?_
    rw [List.getElem?_append_left (by omega), flat_get cellsQ 11 cellsQ_len L k j L[k] (List.getElem?_eq_getElem hkL) hj]
    exact hv
  · refine ⟨?_, ?_⟩
    · rw [hb.cell']
      rw [List.getElem?_eq_getElem (by rw [List.length_append]; omega)]
      rfl
    · unfold Blk at hb
      simp [World.frozen?, hb]
theorem OwT.th {w : World} {T : TypeId} {lo : Nat} {g n c : Nat} {L : List CQ} (h : OwT w T lo (.slice (some ⟨g, 0, none⟩) n c) n L) (k : Nat) (hk : k < n) : w.there g (k * 11) 11 := by
  obtain ⟨g', c', _, e, _, _, _, _, ht, _⟩ := h.at_ k hk
  have e1 : g = g' := by
    injection e with e _ _
    injection e with e
    injection e
  subst e1
  exact ht
/-- A channel is stored at its place. -/
theorem OwT.put {w : World} {T : TypeId} {lo : Nat} {g n c : Nat} {L : List CQ} (h : OwT w T lo (.slice (some ⟨g, 0, none⟩) n c) n L) (k : Nat) (hk : k < n) (q : CQ) (hq : ChW w (notOwn (.slice (some ⟨g, 0, none⟩) n c)) q.1 q.2) :
    OwT (w.setCells g (k * 11) (cellsQ q)) T lo (.slice (some ⟨g, 0, none⟩) n c) n (L.set k q) := by
  obtain ⟨g', c', ex, e, hg, hb, hc, hm, hl⟩ := h.pos (by omega)
  have e1 : g = g' := by
    injection e with e _ _
    injection e with e
    injection e
  have e2 : c = c' := by injection e
  subst e1 e2
  have hkL : k < L.length := by rw [h.len]; exact hk
  have hb' := Blk.lay (cellsQ q) _ (k * 11) w hb
  rw [lay_flat L k q hkL ex] at hb'
  have ho : Only (· = g) w (w.setCells g (k * 11) (cellsQ q)) := only_cells _ _ _
  have hno : ∀ b, b = g → ¬ notOwn (.slice (some ⟨g, 0, none⟩) n c) b := fun b hb hn => hn (by rw [hb]; rfl)
  have hls := flat_len cellsQ 11 cellsQ_len (L.set k q)
  rw [List.length_set, h.len] at hls
  refine ⟨⟨by rw [hls], .inr ⟨g, c, ((L.set k q).flatMap cellsQ ++ ex).toArray, rfl, hg, hb', hc, hm, ?_, ?_⟩⟩, fun x hx => ?_⟩
  · have hl0 := flat_len cellsQ 11 cellsQ_len L
    rw [h.len] at hl0
    rw [List.length_append, hl0] at hl
    rw [List.size_toArray, List.length_append, hls, hl]
  · rw [← hls]
    simp
  · rcases List.mem_or_eq_of_mem_set hx with hx | rfl
    · exact (h.each x hx).only ho hno
    · exact hq.only ho hno

section
variable {P : Program}
/-- A struct in the middle of a row, loaded whole (under a guard that says yes, or none). -/
theorem lm_row {w : World} {b q : Nat} {cs : List Value} {ty : TypeId} {d : TypeDesc} {ops : Array Oper} {rest : List Oper} {o : Oper} {a : Act} {Q : Exit → Act → World → Prop} (h : w.rangeAt b q cs) (x : Operand) (ho : o.op = .load ty x)
    (hx : a.eval x = .pointer (some ⟨b, q, none⟩)) (hu : P.underlying ty = some d) (hd : d.isRow = true) (hi : (P.info? ty).map (·.size) = some cs.length) (hw : Region.wanted o (yielded ops a.tmps) = true) (hk : wpList P ops Q rest (a.put o.dst (.agg cs.toArray)) w) : wpList P ops Q (o :: rest) a w :=
  BigFrame.wpList_want hw fun _ hK => wp_load_mid ty x ho b q hx cs d h hu hd hi (hK _ _ hk)
/-- A fresh variable of a struct, stored whole: sn_row with what is dear to elaborate behind. -/
theorem sn_row' {w' W : World} {N : Nat} {cs zs : List Value} {ty t : TypeId} {ops : Array Oper} {rest : List Oper} {o : Oper} {a : Act} {Q : Exit → Act → World → Prop} (x y : Operand) (ho : o.op = .store ty x y) (hgd : o.guard = none)
    (hx : a.eval x = .pointer (some ⟨N, 0, none⟩)) (hy : a.eval y = .agg cs.toArray) (hi : (P.info? ty).map (·.size) = some cs.length) (hl : zs.length = cs.length) (h1 : ∀ v ∈ cs, v.oneCell' = true)
    (hW : w' = W.alloc (.cells zs.toArray t)) (hN : W.heap.size = N) (hk : wpList P ops Q rest (a.put o.dst undef) (W.alloc (.cells cs.toArray t))) : wpList P ops Q (o :: rest) a w' := sn_row x y ho hgd hx hy hW hN hi hl h1 hk
/-- A struct of cells cs, loaded whole: ld_row (and under a guard that says yes) with what is dear to elaborate behind. -/
theorem ld_row' {w : World} {b : Nat} {cs : List Value} {t ty : TypeId} {d : TypeDesc} {ops : Array Oper} {rest : List Oper} {o : Oper} {a : Act} {Q : Exit → Act → World → Prop} (x : Operand) (ho : o.op = .load ty x)
    (hx : a.eval x = .pointer (some ⟨b, 0, none⟩)) (hu : P.underlying ty = some d) (hd : (match d with | .struct _ | .array _ _ => true | _ => false) = true) (hi : (P.info? ty).map (·.size) = some cs.length) (hw : Region.wanted o (yielded ops a.tmps) = true) (h : Blk w b cs t) (hk : wpList P ops Q rest (a.put o.dst (.agg cs.toArray)) w) : wpList P ops Q (o :: rest) a w :=
  lw_row h x ho hx hu hd hi hw hk
theorem lm_row' {w : World} {b q : Nat} {cs : List Value} {ty : TypeId} {d : TypeDesc} {ops : Array Oper} {rest : List Oper} {o : Oper} {a : Act} {Q : Exit → Act → World → Prop} (x : Operand) (ho : o.op = .load ty x)
    (hx : a.eval x = .pointer (some ⟨b, q, none⟩)) (hu : P.underlying ty = some d) (hd : d.isRow = true) (hi : (P.info? ty).map (·.size) = some cs.length) (hw : Region.wanted o (yielded ops a.tmps) = true) (h : w.rangeAt b q cs) (hk : wpList P ops Q rest (a.put o.dst (.agg cs.toArray)) w) : wpList P ops Q (o :: rest) a w :=
  lm_row h x ho hx hu hd hi hw hk
end
/-- A new row of one channel, which append is given. -/
theorem RD.oneQ {w : World} {q : CQ} {t : TypeId} {n : Nat} (hn : n = w.heap.size) : RD (w.alloc (.cells (cellsQ q).toArray t)) (fun _ => True) 11 (some ⟨n, 0, none⟩) 1 ([q].flatMap cellsQ) :=
  hn ▸ RD.of_blk (xs := [q].flatMap cellsQ) (t := t) (by simpa using Blk.new w (cellsQ q) t) (by rw [flat_len cellsQ 11 cellsQ_len]; rfl) trivial
end Go.Proofs.YtdiiilnebepfdaaGreatDoor

namespace Go.Proofs.YtdiiilnebepfdaaGreatDoor

/-- What a channel is to be, as plain data. -/
structure CF where
  (k r i o : Int)
def ctCfC (c : CF) : List Value := [.int .i64 c.k, .int .i64 c.r, .int .i64 c.i, .int .i64 c.o]
theorem cfC_len (c : CF) : (ctCfC c).length = 4 := rfl
def cfE (c : CF) : Int := ccE c.k c.r c.i c.o
def cfN (c : CF) : CP := chNew c.k c.r c.i c.o
/-- The first one that may not be. -/
def newRun : Nat → List CF → Nat × Int
  | _, [] => (0, 0)
  | i, c :: l => if cfE c = 0 then newRun (i + 1) l else (i, cfE c)
def newR (l : List CF) : Nat × Int := if 8 < l.length then (8, 5) else newRun 0 l
def newL (l : List CF) : List CP := if (newR l).2 = 0 then l.map cfN else []
theorem newRun_step {i : Nat} {c : CF} {l : List CF} (h : cfE c = 0) : newRun i (c :: l) = newRun (i + 1) l := by
  show (if cfE c = 0 then _ else _) = _
  rw [if_pos h]
theorem newRun_stop {i : Nat} {c : CF} {l : List CF} (h : cfE c ≠ 0) : newRun i (c :: l) = (i, cfE c) := by
  show (if cfE c = 0 then _ else _) = _
  rw [if_neg h]
theorem ln_take_snoc {α : Type} (L : List α) (k : Nat) (h : k < L.length) : L.take (k + 1) = L.take k ++ [L[k]] := by
  rw [List.take_add_one, List.getElem?_eq_getElem h]
  rfl

def gdSh (C : CP) (k : Int) : Bool := bif k == 1 then C.is else C.os
def gdE1 (C : CP) (p : Int) (g : GD) : Int := bif g.k == 1 then chRecvE C p else chSendE C p g.v
def gdN1 (C : CP) (p : Int) (g : GD) : CP := bif g.k == 1 then chRecv C p else chSend C p g.v
def inT (Cs : List CP) (o : Int) : Bool := decide (0 ≤ o) && decide (o < (Cs.length : Int))
def gdE (Cs : List CP) (p : Int) (al : Bool) (g : GD) : Int :=
  if inT Cs g.o = false then 8 else if (al && gdSh (Cs.getD g.o.toNat chZero) g.k) = true then 12 else gdE1 (Cs.getD g.o.toNat chZero) p g
def gdL (Cs : List CP) (p : Int) (al : Bool) (g : GD) : List CP := if gdE Cs p al g = 0 then Cs.set g.o.toNat (gdN1 (Cs.getD g.o.toNat chZero) p g) else Cs
def gdOff (g : GD) : Bool := (g.k != 1) && (g.k != 2)
/-- What offers do, guard by guard. -/
def offRun (p : Int) (al : Bool) : List CP → Nat → List GD → List CP × Nat × Int
  | Cs, _, [] => (Cs, 0, 0)
  | Cs, i, g :: gs => if gdOff g = true then offRun p al Cs (i + 1) gs else if gdE Cs p al g = 0 then offRun p al (gdL Cs p al g) (i + 1) gs else (Cs, i, gdE Cs p al g)
theorem offRun_skip {p : Int} {al : Bool} {Cs : List CP} {i : Nat} {g : GD} {gs : List GD} (h : gdOff g = true) : offRun p al Cs i (g :: gs) = offRun p al Cs (i + 1) gs := by
  show (if gdOff g = true then _ else _) = _
  rw [if_pos h]
theorem offRun_step {p : Int} {al : Bool} {Cs : List CP} {i : Nat} {g : GD} {gs : List GD} (h : gdOff g = false) (h0 : gdE Cs p al g = 0) : offRun p al Cs i (g :: gs) = offRun p al (gdL Cs p al g) (i + 1) gs := by
  show (if gdOff g = true then _ else _) = _
  rw [if_neg (by rw [h]; decide), if_pos h0]
theorem offRun_stop {p : Int} {al : Bool} {Cs : List CP} {i : Nat} {g : GD} {gs : List GD} (h : gdOff g = false) (h0 : gdE Cs p al g ≠ 0) : offRun p al Cs i (g :: gs) = (Cs, i, gdE Cs p al g) := by
  show (if gdOff g = true then _ else _) = _
  rw [if_neg (by rw [h]; decide), if_neg h0]
/-- Its lists are at most so long. -/
def fewC (b : Nat) (C : CP) : Prop := C.V.length ≤ b ∧ C.W.length ≤ b ∧ C.S.length ≤ b ∧ C.G.length ≤ b
theorem fewC.mono {a b : Nat} {C : CP} (h : fewC a C) (hab : a ≤ b) : fewC b C := by
  unfold fewC at h ⊢
  omega
theorem fewC.recv {b : Nat} {C : CP} (h : fewC b C) (p : Int) : fewC (b + 1) (chRecv C p) := by
  unfold fewC at h ⊢
  unfold chRecv
  split
  · refine ⟨?_, ?_, ?_, ?_⟩ <;> simp <;> omega
  · omega
theorem fewC.send {b : Nat} {C : CP} (h : fewC b C) (p v : Int) : fewC (b + 1) (chSend C p v) := by
  unfold fewC at h ⊢
  unfold chSend
  split
  · refine ⟨?_, ?_, ?_, ?_⟩ <;> simp <;> omega
  · omega
theorem fewC.step {b : Nat} {C : CP} (h : fewC b C) (p : Int) (g : GD) : fewC (b + 1) (gdN1 C p g) := by
  unfold gdN1
  cases g.k == 1
  · exact h.send p g.v
  · exact h.recv p
theorem fewC.new (b : Nat) (c : CF) : fewC b (cfN c) := by
  unfold cfN chNew
  cases ccE c.k c.r c.i c.o == 0 <;> exact ⟨Nat.zero_le _, Nat.zero_le _, Nat.zero_le _, Nat.zero_le _⟩
theorem fewC.few {b : Nat} {w : World} {pl : Nat → Prop} {C : CP} {M : SM} (h : fewC b C) (hb : b ≤ 1000) (hw : ChW w pl C M) : ChFew M := ChFew.of hw (by unfold fewC at h; omega)
def fewL (b : Nat) (L : List CQ) : Prop := ∀ q ∈ L, fewC b q.1
theorem fewL.mono {a b : Nat} {L : List CQ} (h : fewL a L) (hab : a ≤ b) : fewL b L := fun q hq => (h q hq).mono hab

/-- All moves that may happen. -/
def mvL : Nat → List CP → List (Nat × Int)
  | _, [] => []
  | i, C :: l => (chWhat C).map (fun m => (i, m)) ++ mvL (i + 1) l
def mvC (m : Nat × Int) : List Value := [.int .i64 m.1, .int .i64 m.2]
theorem mvC_len (m : Nat × Int) : (mvC m).length = 2 := rfl
theorem mvL_snoc (C : CP) : ∀ (l : List CP) (i : Nat), mvL i (l ++ [C]) = mvL i l ++ (chWhat C).map (fun m => (i + l.length, m))
  | [], i => by simp [mvL]
  | D :: l, i => by
    show _ ++ mvL (i + 1) (l ++ [C]) = (_ ++ mvL (i + 1) l) ++ _
    rw [mvL_snoc C l (i + 1), List.append_assoc, List.length_cons, show i + 1 + l.length = i + (l.length + 1) by omega]
theorem mvL_len : ∀ (l : List CP) (i : Nat), (mvL i l).length ≤ 3 * l.length
  | [], _ => by simp [mvL]
  | C :: l, i => by
    have := mvL_len l (i + 1)
    have h3 := chWhat_len C
    simp only [mvL, List.length_append, List.length_map, List.length_cons]
    omega
theorem mem_what {C : CP} {m : Int} : m ∈ chWhat C ↔ chFine C = true ∧ chMay C m = true := by
  unfold chWhat
  cases hf : chFine C
  · simp
  · rw [if_pos rfl]
    constructor
    · intro h
      refine ⟨rfl, ?_⟩
      cases h1 : chMay C 1 <;> cases h2 : chMay C 2 <;> cases h3 : chMay C 3 <;> simp [h1, h2, h3] at h
      all_goals first
        | (subst h; assumption)
        | (rcases h with h | h <;> subst h <;> assumption)
        | (rcases h with h | h | h <;> subst h <;> assumption)
    · rintro ⟨_, h⟩
      rcases chMay_is h with rfl | rfl | rfl <;> simp [h]
theorem mem_mvL {x : Nat × Int} : ∀ (l : List CP) (i : Nat), x ∈ mvL i l ↔ ∃ j C, l[j]? = some C ∧ x.1 = i + j ∧ x.2 ∈ chWhat C
  | [], i => by simp [mvL]
  | C :: l, i => by
    obtain ⟨a, b⟩ := x
    rw [mvL, List.mem_append, mem_mvL l (i + 1), List.mem_map]
    constructor
    · rintro (⟨m, hm, e⟩ | ⟨j, D, h1, h2, h3⟩)
      · cases e
        exact ⟨0, C, rfl, by simp, hm⟩
      · refine ⟨j + 1, D, by simpa using h1, ?_, h3⟩
        simp only at h2 ⊢
        omega
    · rintro ⟨j, D, h1, h2, h3⟩
      rcases j with _ | j
      · obtain rfl : C = D := by simpa using h1
        refine .inl ⟨b, h3, ?_⟩
        simp only [Nat.add_zero] at h2
        rw [h2]
      · refine .inr ⟨j, D, by simpa using h1, ?_, h3⟩
        simp only at h2 ⊢
        omega
end Go.Proofs.YtdiiilnebepfdaaGreatDoor

namespace Go.Proofs.YtdiiilnebepfdaaGreatDoor
open Go.RowKit

theorem ei_ct : EI Tryz.prog 35 131 (.agg chZ.toArray) 11 152 := ⟨Tryz.underlying35, by kernel_rfl, rfl, by omega, by omega⟩
theorem OwT.of {w w' : World} {T : TypeId} {v : Value} {n : Nat} {L : List CQ} (h : w'.ownsRow w.heap.size T 11 v n (L.flatMap cellsQ)) (k : ∀ q ∈ L, ChW w ctAny q.1 q.2) (hb : Below w.heap.size w w') : OwT w' T w.heap.size v n L := by
  refine ⟨h, fun q hq => ((k q hq).lt.below hb).lo fun b hb' e => ?_⟩
  have := (h.lt b e).1
  omega

/-- The world of join: its two boxes and its answer's cell. -/
structure JnB (w w2 : World) (C : CP) (M : SM) (g : GD) : Prop where
  up : Below w.heap.size w w2
  box : Blk w2 w.heap.size (chC C M) 131
  gd : Blk w2 (w.heap.size + 1) (gdC g) 63
  res : Blk w2 (w.heap.size + 2) chZ 131
theorem JnB.next {w w2 w3 : World} {C : CP} {M : SM} {g : GD} (h : JnB w w2 C M g) (hb : Below w2.heap.size w2 w3) : JnB w w3 C M g :=
  ⟨up_trans h.up hb, h.box.up hb h.box.lt, h.gd.up hb h.gd.lt, h.res.up hb h.res.lt⟩
theorem Blk.gk {w : World} {b : Nat} {g : GD} {t : TypeId} (h : Blk w b (gdC g) t) : w.cell? ⟨b, 0, none⟩ = some (.int .i64 g.k) := h.cell 0 _ rfl
theorem Blk.go {w : World} {b : Nat} {g : GD} {t : TypeId} (h : Blk w b (gdC g) t) : w.cell? ⟨b, 1, none⟩ = some (.int .i64 g.o) := h.cell 1 _ rfl
theorem Blk.gv {w : World} {b : Nat} {g : GD} {t : TypeId} (h : Blk w b (gdC g) t) : w.cell? ⟨b, 2, none⟩ = some (.int .i64 g.v) := h.cell 2 _ rfl

end Go.Proofs.YtdiiilnebepfdaaGreatDoor

namespace Go.Proofs.YtdiiilnebepfdaaGreatDoor
open Go.RowKit

theorem map_fst_at {L : List CQ} {k : Nat} {q : CQ} (h : L[k]? = some q) : (L.map Prod.fst)[k]? = some q.1 := by rw [List.getElem?_map, h]; rfl
theorem fewL.set {b : Nat} {L : List CQ} (h : fewL b L) (k : Nat) {q : CQ} (hq : fewC b q.1) : fewL b (L.set k q) := fun x hx => by
  rcases List.mem_or_eq_of_mem_set hx with hx | rfl
  · exact h x hx
  · exact hq

end Go.Proofs.YtdiiilnebepfdaaGreatDoor

namespace Go.Proofs.YtdiiilnebepfdaaGreatDoor
open Go.RowKit

theorem map_take_snoc {L : List CQ} {k : Nat} {q : CQ} (h : L[k]? = some q) : (L.map Prod.fst).take (k + 1) = (L.map Prod.fst).take k ++ [q.1] := by
  rw [List.take_add_one, map_fst_at h]
  rfl

/-- Moves that read so, in new memory. -/
def MvPost (w : World) (zs : List (Nat × Int)) (e : Ending) (w' : World) : Prop := ∃ A c, e = .returned (.slice A zs.length c) ∧ zs.length ≤ c ∧ c ≤ maxLen ∧ RD w' (w.heap.size ≤ ·) 2 A zs.length (zs.flatMap mvC) ∧ Below w.heap.size w w'
theorem MvPost.of {w w' : World} {T : TypeId} {v : Value} {zs : List (Nat × Int)} {n : Nat} (h : w'.ownsRow w.heap.size T 2 v n (zs.flatMap mvC)) (hb : Below w.heap.size w w') : MvPost w zs (.returned v) w' := by
  obtain ⟨A, c, rfl, h1, h2, h3⟩ := own_slice h
  obtain rfl : n = zs.length := by
    have := h.1
    rw [flat_len mvC 2 mvC_len] at this
    omega
  exact ⟨A, c, rfl, h1, h2, h3, hb⟩
theorem ei_at : EI Tryz.prog 160 159 (.agg #[.int .i64 0, .int .i64 0]) 2 16 := ⟨Tryz.underlying160, by kernel_rfl, rfl, by omega, by omega⟩

set_option maxRecDepth 100000 in
set_option maxHeartbeats 4000000 in
theorem c_moves {w : World} {pl : Nat → Prop} {A : Option Addr} {n c : Nat} {L : List CQ} (h : TbW w pl A n c L) (hf : fewL 1000 L) (hn : n ≤ 1000) :
    Calls Tryz.prog 81 #[.slice A n c] w (MvPost w (mvL 0 (L.map Prod.fst))) := by
  have HF := Lib.hid hf
  have HT := Lib.hid h
  have hlen : (L.map Prod.fst).length = n := by rw [List.length_map, h.len]
  have HL := Lib.hid hlen
  clear h hf hlen
  go_enter Tryz.func81, Tryz.ntmps81
  go_wp2_with fail
  go_loopw [3, 10] (fun s i wr => ∃ k : Nat, k ≤ n ∧ i = .int .i64 k ∧ wr.ownsRow w.heap.size 159 2 s (mvL 0 ((L.map Prod.fst).take k)).length ((mvL 0 ((L.map Prod.fst).take k)).flatMap mvC) ∧ Below w.heap.size w wr) (fun _ i _ => n - (intOf i).toNat)
  case atStart => exact ⟨0, Nat.zero_le _, rfl, World.ownsRow_nil _ _ _ _, Below.refl _ _⟩
  case round =>
    rename World => wr0
    obtain ⟨k, hk, rfl, hown, hbw⟩ := hrel
    by_cases hlt : k < n
    · obtain ⟨b, o, q, rfl, _, hbl, hq, hrg, hch⟩ := (HT.out.below hbw).at_ k hlt
      have HRG := Lib.hid hrg
      have HB := Lib.hid hbw
      have HBX := Lib.hid (Blk.new wr0 (cellsQ q) 131)
      have hfq := HF.out q (List.mem_of_getElem? hq)
      have CH := Lib.hid (c_chwhat (hch.below (up_alloc wr0 (.cells (cellsQ q).toArray 131))) (hfq.few (by omega) hch))
      have HS : Hid (mvL 0 ((L.map Prod.fst).take (k + 1)) = mvL 0 ((L.map Prod.fst).take k) ++ (chWhat q.1).map (fun m => (k, m))) := Lib.hid (by
        have e : 0 + ((L.map Prod.fst).take k).length = k := by rw [List.length_take, HL.out]; omega
        rw [map_take_snoc hq, mvL_snoc, e])
      have HQL := Lib.hid (chWhat_len q.1)
      have HZ : Hid ((mvL 0 ((L.map Prod.fst).take k)).length ≤ 3 * k) := Lib.hid (by
        have h1 := mvL_len ((L.map Prod.fst).take k) 0
        rw [List.length_take] at h1
        omega)
      generalize mvL 0 ((L.map Prod.fst).take k) = Z at hown HS HZ
      generalize chWhat q.1 = Q at CH HS HQL
      have HO := Lib.hid hown
      clear hrg hown hbw hbl hq hch hfq
      go_wp2_with (first | (refine lm_row HRG.out (.tmp 13) rfl rfl Tryz.underlying131 rfl info_ch rfl ?_) | (refine sn_row (W := wr0) (cs := cellsQ q) (zs := chZ) (.tmp 5) (.tmp 14) rfl rfl rfl rfl rfl rfl info_ch rfl chC_one ?_) | (refine ld_row HBX.out rfl (.tmp 5) rfl rfl Tryz.underlying131 rfl info_ch ?_))
      refine CH.out.mono ?_; rintro e w2 ⟨A5, c5, rfl, -, -, hr5, hb5⟩
      have HB5 := Lib.hid (up_trans (up_alloc wr0 (.cells (cellsQ q).toArray 131)) hb5)
      have HR5 := Lib.hid hr5
      have HO5 := Lib.hid (own_below HO.out HB5.out)
      clear hb5 hr5
      go_wp2_with fail
      go_loopw [3, 18] (fun s i wr => ∃ m : Nat, m ≤ Q.length ∧ i = .int .i64 m ∧ wr.ownsRow w.heap.size 159 2 s (Z ++ (Q.take m).map (fun m => (k, m))).length ((Z ++ (Q.take m).map (fun m => (k, m))).flatMap mvC) ∧ Only (fun b => w.heap.size ≤ b ∧ b < wr0.heap.size) w2 wr ∧ (∀ g, s.ownBlock = some g → g < wr0.heap.size ∨ w2.heap.size ≤ g)) (fun _ i _ => Q.length - (intOf i).toNat)
      case atStart => exact ⟨0, Nat.zero_le _, rfl, by simpa using HO5.out, Only.refl _ _, fun g hg => .inl (by obtain ⟨_, cs, hcs⟩ := own_blk HO.out g hg; exact hcs.lt)⟩
      case round =>
        rename World => wr1
        obtain ⟨m, hm, rfl, hown1, hon, hbl⟩ := hrel
        have hq3 : Q.length ≤ 3 := HQL.out
        by_cases hltm : m < Q.length
        · obtain ⟨b5, o5, rfl, _, _, hc5⟩ := (HR5.out.only hon (by intro k hk hk'; have := hk.2; simp at hk'; omega)).at_ (by omega)
          have h5 := hc5 m (.int .i64 Q[m]) (by simp [hltm])
          have HQ : Hid (Z ++ (Q.take (m + 1)).map (fun m => (k, m)) = (Z ++ (Q.take m).map (fun m => (k, m))) ++ [(k, Q[m])]) := Lib.hid (by
            rw [ln_take_snoc Q m hltm, List.map_append, List.append_assoc]
            rfl)
          have HZ2 : Hid ((Z ++ (Q.take m).map (fun m => (k, m))).length ≤ 4 * 1000) := Lib.hid (by
            have := HZ.out
            have := HQL.out
            rw [List.length_append, List.length_map, List.length_take]
            omega)
          generalize Z ++ (Q.take m).map (fun m => (k, m)) = Y at hown1 HQ HZ2
          generalize Q[m] = z at h5 HQ
          have HO1 := Lib.hid hown1
          have HON := Lib.hid hon
          have HBL := Lib.hid hbl
          have HO3 := Lib.hid (own_below hown1 (up_alloc wr1 (.cells #[.int .i64 (k : Int), .int .i64 z] 159)))
          have HY : Hid (w.heap.size ≤ (wr1.alloc (.cells #[.int .i64 (k : Int), .int .i64 z] 159)).heap.size) := Lib.hid (by have h1 := HB.out.size; have h2 := HB5.out.size; have h3 := hon.size; simp; omega)
          clear hown1 hon hbl hc5
          go_wp2_with (at_builtin; refine wpList_app3 ei_at rfl (.tmp 22) (.tmp 26) rfl u3 _ rfl HO3.out rfl (RD.one2 rfl) (by simp [Value.oneCell']) (by have := HZ2.out; omega) HY.out ?_; intro v4 w4 hown4 hg4 hn4; have HO4 := Lib.hid hown4; have HG4 := Lib.hid hg4; have HN4 := Lib.hid hn4; clear hown4 hg4 hn4)
          go_roundw
          case rel =>
            refine ⟨m + 1, by omega, by go_num, by rw [HQ.out, List.flatMap_append, List.length_append]; exact HO4.out, (HON.out.alloc _).grown HG4.out (fun k' e => ?_), fun g hg => ?_⟩
            · rcases HBL.out k' e with h | h
              · exact .inl ⟨(HO1.out.lt k' e).1, h⟩
              · exact .inr h
            · rcases HN4.out g hg with h | h
              · exact HBL.out g h
              · have := HON.out.size
                simp at h
                exact .inr (by omega)
          case measure => simp [intOf]; omega
        · obtain rfl : m = Q.length := by omega
          have HO1 := Lib.hid hown1
          have HON := Lib.hid hon
          have HS2 : Hid (Z ++ (Q.take Q.length).map (fun m => (k, m)) = mvL 0 ((L.map Prod.fst).take (k + 1))) := Lib.hid (by rw [HS.out, List.take_length])
          clear hown1 hon hbl
          go_wp2_with fail
          go_roundw
          case rel => exact ⟨k + 1, by omega, by go_num, by rw [← HS2.out]; exact HO1.out, Only.later (up_trans HB.out HB5.out) HON.out (fun i hi => hi.1)⟩
          case measure => simp [intOf]; omega
    · obtain rfl : k = n := by omega
      have HO := Lib.hid hown
      have HB := Lib.hid hbw
      have HS : Hid ((L.map Prod.fst).take k = L.map Prod.fst) := Lib.hid (List.take_of_length_le (by rw [HL.out]; exact Nat.le_refl _))
      clear hown hbw
      go_wp2
      go_ret
      have h1 := HO.out
      rw [HS.out] at h1
      exact MvPost.of h1 HB.out
end Go.Proofs.YtdiiilnebepfdaaGreatDoor

namespace Go.Proofs.YtdiiilnebepfdaaGreatDoor
open Go.RowKit

/-- One element of a slice of structs: where it lies, as a range. -/
theorem RD.row {α : Type} {f : α → List Value} {m : Nat} (hf : ∀ a, (f a).length = m) {w : World} {pl : Nat → Prop} {A : Option Addr} {n : Nat} {l : List α} (h : RD w pl m A n (l.flatMap f)) {k : Nat} {a : α} (ha : l[k]? = some a) (hk : k < n) :
    ∃ b o, A = some ⟨b, o, none⟩ ∧ pl b ∧ b < w.heap.size ∧ w.rangeAt b (o + k * m) (f a) := by
  obtain ⟨b, o, rfl, h1, h2, h3⟩ := h.at_ (by omega)
  refine ⟨b, o, rfl, h1, h2, fun j v hv => ?_⟩
  have hj : j < m := by
    have := (List.getElem?_eq_some_iff.1 hv).1
    rwa [hf] at this
  rw [Nat.add_assoc]
  exact h3 (k * m + j) v (by rw [flat_get f m hf l k j a ha hj]; exact hv)
set_option maxRecDepth 100000 in
theorem info_cf : (Tryz.prog.info? 73).map (·.size) = some 4 := by kernel_rfl
theorem few_new {l : List CF} {L : List CQ} (h : L.map Prod.fst = newL l) : fewL 0 L := fun q hq => by
  have h1 : q.1 ∈ L.map Prod.fst := List.mem_map_of_mem hq
  rw [h] at h1
  unfold newL at h1
  split at h1
  · obtain ⟨c, _, hc⟩ := List.mem_map.1 h1
    rw [← hc]
    exact fewC.new 0 c
  · cases h1
/-- What New answers. -/
def CtNwPost (w : World) (l : List CF) (e : Ending) (w' : World) : Prop :=
  ∃ A' n' c' L', e = .returned (.tuple #[.slice A' n' c', .int .i64 ((newR l).1 : Nat), .int .i64 (newR l).2]) ∧ TbW w' ctAny A' n' c' L' ∧ L'.map Prod.fst = newL l ∧ Below w.heap.size w w'

end Go.Proofs.YtdiiilnebepfdaaGreatDoor

namespace Go.Proofs.YtdiiilnebepfdaaGreatDoor
open Go.RowKit

set_option maxRecDepth 100000 in
theorem ct_info_gd : (Tryz.prog.info? 63).map (·.size) = some 5 := by kernel_rfl
/-- What stays so in wait. -/
structure WtS (w : World) (lo gp n c k : Nat) (L : List CQ) (g : GD) (q : CQ) (W : World) : Prop where
  up : Below w.heap.size w W
  gd : Blk W w.heap.size (gdC g) 63
  own : OwT W 131 lo (.slice (some ⟨gp, 0, none⟩) n c) n L
  rg : W.rangeAt gp (k * 11) (cellsQ q)
  lt : gp < W.heap.size
  ch : ChW W (notOwn (.slice (some ⟨gp, 0, none⟩) n c)) q.1 q.2
theorem WtS.next {w : World} {lo gp n c k : Nat} {L : List CQ} {g : GD} {q : CQ} {W W' : World} (h : WtS w lo gp n c k L g q W) (hb : Below W.heap.size W W') : WtS w lo gp n c k L g q W' :=
  ⟨up_trans h.up hb, h.gd.up hb h.gd.lt, h.own.below hb, range_below h.rg hb h.lt, Nat.lt_of_lt_of_le h.lt hb.size, h.ch.below hb⟩
theorem WtS.al {w : World} {lo gp n c k : Nat} {L : List CQ} {g : GD} {q : CQ} {X : World} (h : WtS w lo gp n c k L g q X) :
    ChW (X.alloc (.cells chZ.toArray 131)) (fun b => notOwn (.slice (some ⟨gp, 0, none⟩) n c) b ∧ b ≠ X.heap.size) q.1 q.2 ∧ Blk (X.alloc (.cells chZ.toArray 131)) X.heap.size chZ 131 :=
  ⟨(h.ch.lt.lo fun _ hb => ⟨hb.1, Nat.ne_of_lt hb.2⟩).below (up_alloc _ _), Blk.new _ _ _⟩
theorem WtS.c1 {w : World} {lo gp n c k : Nat} {L : List CQ} {g : GD} {q : CQ} {W : World} (h : WtS w lo gp n c k L g q W) (hg : g.o = (k : Int)) : W.cell? ⟨w.heap.size, 1, none⟩ = some (.int .i64 (k : Int)) := by rw [← hg]; exact h.gd.go

end Go.Proofs.YtdiiilnebepfdaaGreatDoor

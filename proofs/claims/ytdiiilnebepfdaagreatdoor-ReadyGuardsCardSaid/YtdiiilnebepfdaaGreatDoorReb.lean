/- Views in memory. -/
import Derived.Test.YtdiiilnebepfdaaGreatDoorRea
import Derived.Test.YtdiiilnebepfdaaGreatDoorD5
import Derived.Test.YtdiiilnebepfdaaGreatDoorE1
import Derived.Test.YtdiiilnebepfdaaGreatDoorC2
import Derived.Test.YtdiiilnebepfdaaGreatDoorA1
import Derived.Test.YtdiiilnebepfdaaGreatDoorA3
namespace Go.Proofs.YtdiiilnebepfdaaGreatDoor
open Go.RowKit

/-- Who waits: with the slice of its guards. -/
structure WQ where
  h : Int
  A : Option Addr
  c : Nat
  gs : List GD
def wqC (q : WQ) : List Value := [.int .i64 q.h, .slice q.A q.gs.length q.c]
theorem wqC_one {q : WQ} : ∀ v ∈ wqC q, v.oneCell' = true := by
  intro v hv
  simp only [wqC, List.mem_cons, List.not_mem_nil, or_false] at hv
  rcases hv with rfl | rfl <;> rfl
def wK : Mk WQ := ⟨wqC, 2, fun _ => rfl, by omega, fun _ => wqC_one, fun pl q w => RD w pl 5 q.A q.gs.length (q.gs.flatMap gdC), fun h o hs => h.only o hs, fun h hl => h.lo hl, fun h => h.lt⟩
def WQ.p (q : WQ) : Int × List GD := (q.h, q.gs)
/-- A view, with its slices. -/
structure VQ where
  now : Int
  CA : Option Addr
  Cc : Nat
  Cq : List CQ
  BA : Option Addr
  Bc : Nat
  Bq : List BR
  WA : Option Addr
  Wc : Nat
  Wq : List WQ
  TA : Option Addr
  Tc : Nat
  Tq : List Tm
  LA : Option Addr
  Lc : Nat
  Lq : List Int
def VQ.p (V : VQ) : VP := ⟨V.now, V.Cq.map Prod.fst, V.Bq, V.Wq.map WQ.p, V.Tq, V.Lq⟩
def vC (V : VQ) : List Value := [.int .i64 V.now, .slice V.CA V.Cq.length V.Cc, .slice V.BA V.Bq.length V.Bc, .slice V.WA V.Wq.length V.Wc, .slice V.TA V.Tq.length V.Tc, .slice V.LA V.Lq.length V.Lc]
theorem vC_one {V : VQ} : ∀ v ∈ vC V, v.oneCell' = true := by
  intro v hv
  simp only [vC, List.mem_cons, List.not_mem_nil, or_false] at hv
  rcases hv with rfl | rfl | rfl | rfl | rfl | rfl <;> rfl
/-- All but the barriers. -/
structure VR (w : World) (V : VQ) : Prop where
  ch : TbW w ctAny V.CA V.Cq.length V.Cc V.Cq
  wt : TW wK w tt V.WA V.Wq.length V.Wq
  tm : RD w tt 3 V.TA V.Tq.length (V.Tq.flatMap tmV)
  lv : RD w tt 1 V.LA V.Lq.length (V.Lq.map (Value.int .i64))
theorem VR.below {w w' : World} {V : VQ} (h : VR w V) (hb : Below w.heap.size w w') : VR w' V := ⟨h.ch.below hb, h.wt.below hb, h.tm.below hb, h.lv.below hb⟩
/-- A view of the program. -/
structure VW (w : World) (V : VQ) : Prop where
  r : VR w V
  br : TW pB w tt V.BA V.Bq.length V.Bq
theorem VW.below {w w' : World} {V : VQ} (h : VW w V) (hb : Below w.heap.size w w') : VW w' V := ⟨h.r.below hb, h.br.below hb⟩
/-- A view of the document. -/
structure VD (w : World) (V : VQ) : Prop where
  r : VR w V
  br : DT w V.BA V.Bq.length V.Bq
theorem VD.below {w w' : World} {V : VQ} (h : VD w V) (hb : Below w.heap.size w w') : VD w' V := ⟨h.r.below hb, h.br.below hb⟩
/-- It is small enough. -/
structure Few (V : VQ) : Prop where
  ch : V.Cq.length ≤ 10
  cl : fewL 20 V.Cq
  br : V.Bq.length ≤ 10
  wt : V.Wq.length ≤ 16
  ws : ∀ q ∈ V.Wq, q.gs.length ≤ 8 ∧ (0 ≤ q.h ∧ q.h ≤ 15) ∧ ∀ g ∈ q.gs, 0 ≤ g.n ∧ g.n ≤ 5
  tm : V.Tq.length ≤ 40
  tw : ∀ t ∈ V.Tq, 0 ≤ t.who
  lv : V.Lq.length ≤ 40
theorem info_vw : (Tryz.prog.info? 40).map (·.size) = some 6 := by kernel_rfl
theorem info_gd5 : (Tryz.prog.info? 63).map (·.size) = some 5 := by kernel_rfl
theorem info_ev4 : (Tryz.prog.info? 32).map (·.size) = some 4 := by kernel_rfl
def evZC : List Value := [.int .i64 0, .int .i64 0, .int .i64 0, .int .i64 0]
/-- An event, if there is one, and whether there is. -/
def evV (o : Option EV) : Value := .agg (evC (o.getD evZ)).toArray
def EvPost (w : World) (o : Option EV) (e : Ending) (w' : World) : Prop := e = .returned (.tuple #[evV o, .bool o.isSome]) ∧ Below w.heap.size w w'
/-- What lies in memory, as facts that last. -/
def kV (V : VQ) : Kp := ⟨fun W => VW W V, fun hb h => h.below hb⟩
def kVD (V : VQ) : Kp := ⟨fun W => VD W V, fun hb h => h.below hb⟩
def kGs (A : Option Addr) (n : Nat) (gs : List GD) : Kp := ⟨fun W => RD W tt 5 A n (gs.flatMap gdC), fun hb h => h.below hb⟩
def kEv (A : Option Addr) (n : Nat) (L : List EV) : Kp := ⟨fun W => RD W tt 4 A n (L.flatMap evC), fun hb h => h.below hb⟩
/-- Events that read so, in new memory. -/
def EvsP (w : World) (L : List EV) (e : Ending) (w' : World) : Prop := ∃ A c, e = .returned (.slice A L.length c) ∧ L.length ≤ c ∧ c ≤ maxLen ∧ RD w' (w.heap.size ≤ ·) 4 A L.length (L.flatMap evC) ∧ Below w.heap.size w w'
theorem EvsP.of {w w' : World} {T : TypeId} {v : Value} {L : List EV} {n : Nat} (h : w'.ownsRow w.heap.size T 4 v n (L.flatMap evC)) (hb : Below w.heap.size w w') : EvsP w L (.returned v) w' := by
  obtain ⟨A, c, rfl, h1, h2, h3⟩ := own_slice h
  obtain rfl : n = L.length := by
    have := h.1
    rw [ev_len] at this
    omega
  exact ⟨A, c, rfl, h1, h2, h3, hb⟩
theorem evL_one (L : List EV) : ∀ u ∈ L.flatMap evC, u.oneCell' = true := by
  intro u hu
  obtain ⟨q, _, hq⟩ := List.mem_flatMap.1 hu
  exact evC_one q u hq
end Go.Proofs.YtdiiilnebepfdaaGreatDoor

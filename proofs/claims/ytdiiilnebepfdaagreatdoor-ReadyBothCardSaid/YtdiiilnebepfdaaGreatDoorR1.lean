/- Plain maths of views: which guards are ready, by which event; which events may happen. Views in memory. Plain maths: a view that knows who waits: a guard is ready just if its event may happen, and each event is that of a guard. Events of the program compared; what regions that draw read of them. What the loops of ReadyBoth ask, as plain maths. -/
import Derived.Test.YtdiiilnebepfdaaGreatDoorC2
import Derived.Test.YtdiiilnebepfdaaGreatDoorD3
import Derived.Test.YtdiiilnebepfdaaGreatDoorE1
import Derived.Test.YtdiiilnebepfdaaGreatDoorA3
import Derived.Test.YtdiiilnebepfdaaGreatDoorR3
import Derived.Test.YtdiiilnebepfdaaGreatDoorD5
import Derived.Test.YtdiiilnebepfdaaGreatDoorA1
namespace Go.Proofs.YtdiiilnebepfdaaGreatDoor

/-- A view, as plain data. -/
structure VP where
  now : Int
  Cs : List CP
  Bs : List BR
  Ws : List (Int × List GD)
  Ts : List Tm
  Lv : List Int

def getI {α : Type} (L : List α) (i : Int) : Option α := if 0 ≤ i then L[i.toNat]? else none
theorem getI_neg {α : Type} {L : List α} {i : Int} (h : i < 0) : getI L i = none := by unfold getI; rw [if_neg (by omega)]
theorem getI_over {α : Type} {L : List α} {i : Int} (h : (L.length : Int) ≤ i) : getI L i = none := by
  unfold getI
  split
  · exact List.getElem?_eq_none (by omega)
  · rfl
theorem getI_at {α : Type} {L : List α} {k : Nat} : getI L (k : Int) = L[k]? := by unfold getI; rw [if_pos (by omega), Int.toNat_natCast]
theorem getI_cases {α : Type} (L : List α) (i : Int) : i < 0 ∨ (0 ≤ i ∧ (L.length : Int) ≤ i) ∨ ∃ (k : Nat) (a : α), i = k ∧ k < L.length ∧ L[k]? = some a := by
  rcases (by omega : i < 0 ∨ (0 ≤ i ∧ (L.length : Int) ≤ i) ∨ (0 ≤ i ∧ i < (L.length : Int))) with h | h | h
  · exact .inl h
  · exact .inr (.inl h)
  · exact .inr (.inr ⟨i.toNat, L[i.toNat]'(by omega), by omega, by omega, List.getElem?_eq_getElem _⟩)

def rdHitC (C : CP) (k : Int) : Bool := bif k == 1 then chIn C else chOut C
def rdLine (C : CP) (k : Int) : List Int := bif k == 1 then C.G else C.W
def rdEnds (k : Int) : List Int := bif k == 1 then [1, 3] else [1, 2]
/-- The first move at that end that may happen. -/
def rdFst (C : CP) (k : Int) : Option Int := (chWhat C).find? fun m => decide (m ∈ rdEnds k)
def rdChan (C : CP) (who : Int) (g : GD) : Option EV :=
  if rdHitC C g.k = true then some ⟨5, 0, who, g.n⟩ else if (rdLine C g.k).head? = some who then (rdFst C g.k).map fun m => ⟨1 + m, g.o, 0, 0⟩ else none
def rdServ (Cs : List CP) (who : Int) (g : GD) : Option EV := (getI Cs g.o).bind fun C => rdChan C who g
def rdMet (Bs : List BR) (who b : Int) : Bool := ((getI Bs b).map fun B => brReady B && hasL B.r.a.ints who).getD false
def rdDue (now : Int) (Ts : List Tm) (who no : Int) : Bool := Ts.any fun t => (t.who == 8 * who + no) && dueB now t.at_
/-- A guard's event, if it is ready. -/
def rdOf (V : VP) (who : Int) (g : GD) : Option EV :=
  if g.k = 1 ∨ g.k = 2 then rdServ V.Cs who g
  else if g.k = 3 then (if rdMet V.Bs who g.o = true then some ⟨1, g.o, 0, 0⟩ else none)
  else if g.k = 4 then (if rdDue V.now V.Ts who g.n = true then some ⟨6, 0, who, g.n⟩ else none)
  else if g.k = 6 then (if hasL V.Lv g.v = true then none else some ⟨7, 0, who, g.n⟩)
  else if g.k = 5 then some ⟨8, 0, who, g.n⟩ else none
def evZ : EV := ⟨0, 0, 0, 0⟩
/-- The guards of a process. -/
def rdWs (V : VP) (who : Int) : List GD := ((V.Ws.find? fun x => x.1 == who).map Prod.snd).getD []
def rdGds (V : VP) (who : Int) : List Int := (rdWs V who).filterMap fun g => (rdOf V who g).map fun _ => g.n
def rdWhich (V : VP) (who no : Int) : Option EV := ((rdWs V who).find? fun g => g.n == no).bind (rdOf V who)
def rdAsks (V : VP) : List EV := V.Ws.flatMap fun x => x.2.filterMap (rdOf V x.1)
def rdDueE (now : Int) (t : Tm) : Option EV := if dueB now t.at_ = true then some ⟨6, 0, t.who / 8, t.who % 8⟩ else none
def rdOnly (k : Int) (L : List EV) : List EV := L.filter fun e => e.k == k
/-- All that may happen. -/
def rdEvents (V : VP) : List EV :=
  (rdyL 0 V.Bs).map (fun b => ⟨1, b, 0, 0⟩) ++ ((mvL 0 V.Cs).map (fun x => ⟨1 + x.2, x.1, 0, 0⟩) ++ (rdOnly 5 (rdAsks V) ++ (V.Ts.filterMap (rdDueE V.now) ++ (rdOnly 7 (rdAsks V) ++ rdOnly 8 (rdAsks V)))))

theorem rdOf_chan {V : VP} {who : Int} {g : GD} (h : g.k = 1 ∨ g.k = 2) : rdOf V who g = rdServ V.Cs who g := if_pos h
theorem rdOf_bar {V : VP} {who : Int} {g : GD} (h : g.k = 3) : rdOf V who g = if rdMet V.Bs who g.o = true then some ⟨1, g.o, 0, 0⟩ else none := by
  unfold rdOf; rw [if_neg (by omega), if_pos h]
theorem rdOf_time {V : VP} {who : Int} {g : GD} (h : g.k = 4) : rdOf V who g = if rdDue V.now V.Ts who g.n = true then some ⟨6, 0, who, g.n⟩ else none := by
  unfold rdOf; rw [if_neg (by omega), if_neg (by omega), if_pos h]
theorem rdOf_join {V : VP} {who : Int} {g : GD} (h : g.k = 6) : rdOf V who g = if hasL V.Lv g.v = true then none else some ⟨7, 0, who, g.n⟩ := by
  unfold rdOf; rw [if_neg (by omega), if_neg (by omega), if_neg (by omega), if_pos h]
theorem rdOf_skip {V : VP} {who : Int} {g : GD} (h : g.k = 5) : rdOf V who g = some ⟨8, 0, who, g.n⟩ := by
  unfold rdOf; rw [if_neg (by omega), if_neg (by omega), if_neg (by omega), if_neg (by omega), if_pos h]
theorem rdOf_no {V : VP} {who : Int} {g : GD} (h : g.k < 1 ∨ 6 < g.k) : rdOf V who g = none := by
  unfold rdOf; rw [if_neg (by omega), if_neg (by omega), if_neg (by omega), if_neg (by omega), if_neg (by omega)]
theorem rdServ_none {Cs : List CP} {who : Int} {g : GD} (h : getI Cs g.o = none) : rdServ Cs who g = none := by unfold rdServ; rw [h]; rfl
theorem rdServ_some {Cs : List CP} {who : Int} {g : GD} {C : CP} (h : getI Cs g.o = some C) : rdServ Cs who g = rdChan C who g := by unfold rdServ; rw [h]; rfl
theorem rdMet_none {Bs : List BR} {who b : Int} (h : getI Bs b = none) : rdMet Bs who b = false := by unfold rdMet; rw [h]; rfl
theorem rdMet_some {Bs : List BR} {who b : Int} {B : BR} (h : getI Bs b = some B) : rdMet Bs who b = (brReady B && hasL B.r.a.ints who) := by unfold rdMet; rw [h]; rfl
theorem rdChan_hit {C : CP} {who : Int} {g : GD} (h : rdHitC C g.k = true) : rdChan C who g = some ⟨5, 0, who, g.n⟩ := if_pos h
theorem rdChan_no {C : CP} {who : Int} {g : GD} (h : rdHitC C g.k = false) (h' : (rdLine C g.k).head? ≠ some who) : rdChan C who g = none := by
  unfold rdChan; rw [if_neg (by rw [h]; decide), if_neg h']
theorem rdChan_on {C : CP} {who : Int} {g : GD} (h : rdHitC C g.k = false) (h' : (rdLine C g.k).head? = some who) : rdChan C who g = (rdFst C g.k).map fun m => ⟨1 + m, g.o, 0, 0⟩ := by
  unfold rdChan; rw [if_neg (by rw [h]; decide), if_pos h']
/-- One that may not be: nothing may happen in it. -/
theorem rdFst_none {C : CP} {k : Int} (h : chFine C = false) : rdFst C k = none := by
  unfold rdFst chWhat
  rw [if_neg (by rw [h]; decide)]
  rfl
theorem what_in {C : CP} {m : Int} (h : m ∈ chWhat C) : m = 1 ∨ m = 2 ∨ m = 3 := chMay_is (mem_what.1 h).2
end Go.Proofs.YtdiiilnebepfdaaGreatDoor

namespace Go.Proofs.YtdiiilnebepfdaaGreatDoor
open Go.RowKit

/-- Who waits: with the slice of its guards. -/
structure WQ where
  h : Int
  A : Option Addr
  c : Nat
  gs : List GD
def wqC (q : WQ) : List Value := [.int .i64 q.h, .slice q.A q.gs.length q.c]
theorem wqC_one {q : WQ} : ∀ v ∈ wqC q, v.oneCell' = true := by
  intro v hv
  simp only [wqC, List.mem_cons, List.not_mem_nil, or_false] at hv
  rcases hv with rfl | rfl <;> rfl
def wK : Mk WQ := ⟨wqC, 2, fun _ => rfl, by omega, fun _ => wqC_one, fun pl q w => RD w pl 5 q.A q.gs.length (q.gs.flatMap gdC), fun h o hs => h.only o hs, fun h hl => h.lo hl, fun h => h.lt⟩
def WQ.p (q : WQ) : Int × List GD := (q.h, q.gs)
/-- A view, with its slices. -/
structure VQ where
  now : Int
  CA : Option Addr
  Cc : Nat
  Cq : List CQ
  BA : Option Addr
  Bc : Nat
  Bq : List BR
  WA : Option Addr
  Wc : Nat
  Wq : List WQ
  TA : Option Addr
  Tc : Nat
  Tq : List Tm
  LA : Option Addr
  Lc : Nat
  Lq : List Int
def VQ.p (V : VQ) : VP := ⟨V.now, V.Cq.map Prod.fst, V.Bq, V.Wq.map WQ.p, V.Tq, V.Lq⟩
def vC (V : VQ) : List Value := [.int .i64 V.now, .slice V.CA V.Cq.length V.Cc, .slice V.BA V.Bq.length V.Bc, .slice V.WA V.Wq.length V.Wc, .slice V.TA V.Tq.length V.Tc, .slice V.LA V.Lq.length V.Lc]
theorem vC_one {V : VQ} : ∀ v ∈ vC V, v.oneCell' = true := by
  intro v hv
  simp only [vC, List.mem_cons, List.not_mem_nil, or_false] at hv
  rcases hv with rfl | rfl | rfl | rfl | rfl | rfl <;> rfl
/-- All but the barriers. -/
structure VR (w : World) (V : VQ) : Prop where
  ch : TbW w ctAny V.CA V.Cq.length V.Cc V.Cq
  wt : TW wK w tt V.WA V.Wq.length V.Wq
  tm : RD w tt 3 V.TA V.Tq.length (V.Tq.flatMap tmV)
  lv : RD w tt 1 V.LA V.Lq.length (V.Lq.map (Value.int .i64))
theorem VR.below {w w' : World} {V : VQ} (h : VR w V) (hb : Below w.heap.size w w') : VR w' V := ⟨h.ch.below hb, h.wt.below hb, h.tm.below hb, h.lv.below hb⟩
/-- A view of the program. -/
structure VW (w : World) (V : VQ) : Prop where
  r : VR w V
  br : TW pB w tt V.BA V.Bq.length V.Bq
theorem VW.below {w w' : World} {V : VQ} (h : VW w V) (hb : Below w.heap.size w w') : VW w' V := ⟨h.r.below hb, h.br.below hb⟩
/-- A view of the document. -/
structure VD (w : World) (V : VQ) : Prop where
  r : VR w V
  br : DT w V.BA V.Bq.length V.Bq
theorem VD.below {w w' : World} {V : VQ} (h : VD w V) (hb : Below w.heap.size w w') : VD w' V := ⟨h.r.below hb, h.br.below hb⟩
/-- It is small enough. -/
structure Few (V : VQ) : Prop where
  ch : V.Cq.length ≤ 10
  cl : fewL 20 V.Cq
  br : V.Bq.length ≤ 10
  wt : V.Wq.length ≤ 16
  ws : ∀ q ∈ V.Wq, q.gs.length ≤ 8 ∧ (0 ≤ q.h ∧ q.h ≤ 15) ∧ ∀ g ∈ q.gs, 0 ≤ g.n ∧ g.n ≤ 5
  tm : V.Tq.length ≤ 40
  tw : ∀ t ∈ V.Tq, 0 ≤ t.who
  lv : V.Lq.length ≤ 40
theorem info_vw : (Tryz.prog.info? 40).map (·.size) = some 6 := by kernel_rfl
theorem info_gd5 : (Tryz.prog.info? 63).map (·.size) = some 5 := by kernel_rfl
theorem info_ev4 : (Tryz.prog.info? 32).map (·.size) = some 4 := by kernel_rfl
def evZC : List Value := [.int .i64 0, .int .i64 0, .int .i64 0, .int .i64 0]
/-- An event, if there is one, and whether there is. -/
def evV (o : Option EV) : Value := .agg (evC (o.getD evZ)).toArray
def EvPost (w : World) (o : Option EV) (e : Ending) (w' : World) : Prop := e = .returned (.tuple #[evV o, .bool o.isSome]) ∧ Below w.heap.size w w'
/-- Events that read so, in new memory. -/
def EvsP (w : World) (L : List EV) (e : Ending) (w' : World) : Prop := ∃ A c, e = .returned (.slice A L.length c) ∧ L.length ≤ c ∧ c ≤ maxLen ∧ RD w' (w.heap.size ≤ ·) 4 A L.length (L.flatMap evC) ∧ Below w.heap.size w w'
theorem EvsP.of {w w' : World} {T : TypeId} {v : Value} {L : List EV} {n : Nat} (h : w'.ownsRow w.heap.size T 4 v n (L.flatMap evC)) (hb : Below w.heap.size w w') : EvsP w L (.returned v) w' := by
  obtain ⟨A, c, rfl, h1, h2, h3⟩ := own_slice h
  obtain rfl : n = L.length := by
    have := h.1
    rw [ev_len] at this
    omega
  exact ⟨A, c, rfl, h1, h2, h3, hb⟩
theorem evL_one (L : List EV) : ∀ u ∈ L.flatMap evC, u.oneCell' = true := by
  intro u hu
  obtain ⟨q, _, hq⟩ := List.mem_flatMap.1 hu
  exact evC_one q u hq
end Go.Proofs.YtdiiilnebepfdaaGreatDoor

namespace Go.Proofs.YtdiiilnebepfdaaGreatDoor

/-- p waits by a guard like that. -/
def Wt (Ws : List (Int × List GD)) (p : Int) (f : GD → Prop) : Prop := ∃ gs, (p, gs) ∈ Ws ∧ ∃ g ∈ gs, f g
theorem Wt.app {Ws Xs : List (Int × List GD)} {p : Int} {f : GD → Prop} (h : Wt Ws p f) : Wt (Ws ++ Xs) p f := by
  obtain ⟨gs, h1, h2⟩ := h
  exact ⟨gs, List.mem_append_left _ h1, h2⟩
/-- Who stands in a channel's lines waits for it. -/
structure CInv (Ws : List (Int × List GD)) (Cs : List CP) : Prop where
  w : ∀ (i : Nat) (C : CP), Cs[i]? = some C → ∀ p ∈ C.W, Wt Ws p fun g => g.k = 2 ∧ g.o = (i : Int)
  g : ∀ (i : Nat) (C : CP), Cs[i]? = some C → ∀ p ∈ C.G, Wt Ws p fun g => g.k = 1 ∧ g.o = (i : Int)
/-- Who is at a barrier waits for it. -/
def BInv (Ws : List (Int × List GD)) (Bs : List BR) : Prop := ∀ (i : Nat) (B : BR), Bs[i]? = some B → ∀ p ∈ B.r.a.ints, Wt Ws p fun g => g.k = 3 ∧ g.o = (i : Int)
/-- A timer is of someone who waits for it: f tells of whom and which. -/
def TInv (f : Int → Int → Int) (Ws : List (Int × List GD)) (Ts : List Tm) : Prop := ∀ t ∈ Ts, ∃ p gs g, (p, gs) ∈ Ws ∧ g ∈ gs ∧ g.k = 4 ∧ t.who = f p g.n
structure KInv (V : VP) : Prop where
  c : CInv V.Ws V.Cs
  b : BInv V.Ws V.Bs
  t : TInv (fun p n => 8 * p + n) V.Ws V.Ts
  u : V.Ws.Pairwise fun x y => x.1 ≠ y.1
  n : ∀ x ∈ V.Ws, (x.2.Pairwise fun a b => a.n ≠ b.n) ∧ (0 ≤ x.1 ∧ x.1 ≤ 15) ∧ ∀ g ∈ x.2, 0 ≤ g.n ∧ g.n ≤ 5

theorem find_uniq {α : Type} (f : α → Int) : ∀ (l : List α), l.Pairwise (fun a b => f a ≠ f b) → ∀ a ∈ l, l.find? (fun x => f x == f a) = some a
  | [], _, a, h => absurd h (by simp)
  | b :: l, hp, a, h => by
    rw [List.pairwise_cons] at hp
    rw [List.find?_cons]
    rcases List.mem_cons.1 h with rfl | h
    · rw [beq_self_eq_true]
    · rw [show (f b == f a) = false from by simpa using hp.1 a h]
      exact find_uniq f l hp.2 a h
theorem kw_at {V : VP} (K : KInv V) {p : Int} {gs : List GD} (h : (p, gs) ∈ V.Ws) : rdWs V p = gs := by
  unfold rdWs
  rw [find_uniq Prod.fst V.Ws K.u (p, gs) h]
  rfl
theorem which_at {V : VP} (K : KInv V) {p : Int} {gs : List GD} (h : (p, gs) ∈ V.Ws) {g : GD} (hg : g ∈ gs) : rdWhich V p g.n = rdOf V p g := by
  unfold rdWhich
  rw [kw_at K h, find_uniq (fun g : GD => g.n) gs (K.n _ h).1 g hg]
  rfl
theorem gds_at {V : VP} (K : KInv V) {p : Int} {gs : List GD} (h : (p, gs) ∈ V.Ws) {g : GD} (hg : g ∈ gs) : decide (g.n ∈ rdGds V p) = (rdOf V p g).isSome := by
  unfold rdGds
  rw [kw_at K h]
  cases ho : rdOf V p g with
  | none =>
    refine decide_eq_false fun hm => ?_
    obtain ⟨g', hg', e⟩ := List.mem_filterMap.1 hm
    cases ho' : rdOf V p g' with
    | none => rw [ho'] at e; cases e
    | some x =>
      rw [ho'] at e
      have hn : g'.n = g.n := by simpa using e
      have e1 := find_uniq (fun g : GD => g.n) gs (K.n _ h).1 g hg
      have e2 := find_uniq (fun g : GD => g.n) gs (K.n _ h).1 g' hg'
      rw [hn] at e2
      rw [e1] at e2
      injection e2 with e2
      subst e2
      rw [ho] at ho'
      cases ho'
  | some x => exact decide_eq_true (List.mem_filterMap.2 ⟨g, hg, by rw [ho]; rfl⟩)
theorem g_cases (g : GD) : (g.k = 1 ∨ g.k = 2) ∨ g.k = 3 ∨ g.k = 4 ∨ g.k = 5 ∨ g.k = 6 ∨ (g.k < 1 ∨ 6 < g.k) := by omega
theorem fst_in {C : CP} {k m : Int} (h : rdFst C k = some m) : m ∈ chWhat C := by
  unfold rdFst at h
  exact List.mem_of_find?_eq_some h
/-- What a guard of a channel is ready by. -/
theorem of_chan {V : VP} {p : Int} {g : GD} {e : EV} (hk : g.k = 1 ∨ g.k = 2) (h : rdOf V p g = some e) :
    ∃ (i : Nat) (C : CP), g.o = i ∧ V.Cs[i]? = some C ∧ (e = ⟨5, 0, p, g.n⟩ ∨ ∃ m ∈ chWhat C, e = ⟨1 + m, g.o, 0, 0⟩) := by
  rw [rdOf_chan hk] at h
  cases hc : getI V.Cs g.o with
  | none => rw [rdServ_none hc] at h; cases h
  | some C =>
    rw [rdServ_some hc] at h
    rcases getI_cases V.Cs g.o with h1 | ⟨_, h1⟩ | ⟨k, a, h1, _, h2⟩
    · rw [getI_neg h1] at hc; cases hc
    · rw [getI_over h1] at hc; cases hc
    · rw [h1, getI_at, h2] at hc
      injection hc with hc
      subst hc
      refine ⟨k, a, h1, h2, ?_⟩
      cases hh : rdHitC a g.k
      · by_cases hw : (rdLine a g.k).head? = some p
        · rw [rdChan_on hh hw] at h
          cases hf : rdFst a g.k with
          | none => rw [hf] at h; cases h
          | some m =>
            rw [hf] at h
            injection h with h
            exact .inr ⟨m, fst_in hf, h.symm⟩
        · rw [rdChan_no hh hw] at h; cases h
      · rw [rdChan_hit hh] at h
        injection h with h
        exact .inl h.symm
theorem of_kind {V : VP} {p : Int} {g : GD} {e : EV} (h : rdOf V p g = some e) : 1 ≤ e.k := by
  rcases g_cases g with hk | hk | hk | hk | hk | hk
  · obtain ⟨i, C, _, _, rfl | ⟨m, hm, rfl⟩⟩ := of_chan hk h
    · show (1 : Int) ≤ 5; omega
    · have := what_in hm
      show 1 ≤ 1 + m
      omega
  · rw [rdOf_bar hk] at h
    split at h
    · injection h with h; subst h; exact Int.le_refl _
    · cases h
  · rw [rdOf_time hk] at h
    split at h
    · injection h with h; subst h; show (1 : Int) ≤ 6; omega
    · cases h
  · rw [rdOf_skip hk] at h
    injection h with h; subst h; show (1 : Int) ≤ 8; omega
  · rw [rdOf_join hk] at h
    split at h
    · cases h
    · injection h with h; subst h; show (1 : Int) ≤ 7; omega
  · rw [rdOf_no hk] at h; cases h
theorem mem_asks {V : VP} {e : EV} : e ∈ rdAsks V ↔ ∃ p gs, (p, gs) ∈ V.Ws ∧ ∃ g ∈ gs, rdOf V p g = some e := by
  unfold rdAsks
  constructor
  · intro h
    obtain ⟨x, hx, he⟩ := List.mem_flatMap.1 h
    obtain ⟨g, hg, e⟩ := List.mem_filterMap.1 he
    exact ⟨x.1, x.2, hx, g, hg, e⟩
  · rintro ⟨p, gs, hx, g, hg, e⟩
    exact List.mem_flatMap.2 ⟨(p, gs), hx, List.mem_filterMap.2 ⟨g, hg, e⟩⟩
theorem mem_events {V : VP} {e : EV} : e ∈ rdEvents V ↔ (∃ b ∈ rdyL 0 V.Bs, e = ⟨1, b, 0, 0⟩) ∨ (∃ x ∈ mvL 0 V.Cs, e = ⟨1 + x.2, x.1, 0, 0⟩) ∨ (e ∈ rdAsks V ∧ (e.k = 5 ∨ e.k = 7 ∨ e.k = 8)) ∨ ∃ t ∈ V.Ts, rdDueE V.now t = some e := by
  unfold rdEvents rdOnly
  simp only [List.mem_append, List.mem_map, List.mem_filter, List.mem_filterMap, beq_iff_eq]
  constructor
  · rintro (⟨b, hb, rfl⟩ | ⟨x, hx, rfl⟩ | h | h | h | h)
    · exact .inl ⟨b, hb, rfl⟩
    · exact .inr (.inl ⟨x, hx, rfl⟩)
    · exact .inr (.inr (.inl ⟨h.1, .inl h.2⟩))
    · exact .inr (.inr (.inr h))
    · exact .inr (.inr (.inl ⟨h.1, .inr (.inl h.2)⟩))
    · exact .inr (.inr (.inl ⟨h.1, .inr (.inr h.2)⟩))
  · rintro (⟨b, hb, rfl⟩ | ⟨x, hx, rfl⟩ | ⟨h, h' | h' | h'⟩ | h)
    · exact .inl ⟨b, hb, rfl⟩
    · exact .inr (.inl ⟨x, hx, rfl⟩)
    · exact .inr (.inr (.inl ⟨h, h'⟩))
    · exact .inr (.inr (.inr (.inr (.inl ⟨h, h'⟩))))
    · exact .inr (.inr (.inr (.inr (.inr ⟨h, h'⟩))))
    · exact .inr (.inr (.inr (.inl h)))
theorem evz_not (V : VP) : evZ ∉ rdEvents V := by
  intro h
  rcases mem_events.1 h with ⟨b, _, e⟩ | ⟨x, hx, e⟩ | ⟨_, h⟩ | ⟨t, _, e⟩
  · have := congrArg EV.k e
    cases this
  · obtain ⟨j, C, _, _, hm⟩ := (mem_mvL V.Cs 0).1 hx
    have h1 : (0 : Int) = 1 + x.2 := congrArg EV.k e
    have := what_in hm
    omega
  · have h0 : evZ.k = 0 := rfl
    omega
  · unfold rdDueE at e
    split at e
    · injection e with e
      have := congrArg EV.k e
      cases this
    · cases e
/-- A guard that is ready: its event may happen. -/
theorem of_event {V : VP} (K : KInv V) {p : Int} {gs : List GD} (h : (p, gs) ∈ V.Ws) {g : GD} (hg : g ∈ gs) {e : EV} (ho : rdOf V p g = some e) : e ∈ rdEvents V := by
  have ha : e ∈ rdAsks V := mem_asks.2 ⟨p, gs, h, g, hg, ho⟩
  rw [mem_events]
  rcases g_cases g with hk | hk | hk | hk | hk | hk
  · obtain ⟨i, C, hi, hC, rfl | ⟨m, hm, rfl⟩⟩ := of_chan hk ho
    · exact .inr (.inr (.inl ⟨ha, .inl rfl⟩))
    · exact .inr (.inl ⟨(i, m), (mem_mvL V.Cs 0).2 ⟨i, C, hC, by simp, hm⟩, by rw [hi]⟩)
  · rw [rdOf_bar hk] at ho
    split at ho
    · next hm =>
      injection ho with ho
      subst ho
      rcases getI_cases V.Bs g.o with h1 | ⟨_, h1⟩ | ⟨k, a, h1, _, h2⟩
      · rw [rdMet_none (getI_neg h1)] at hm; cases hm
      · rw [rdMet_none (getI_over h1)] at hm; cases hm
      · rw [h1, rdMet_some (by rw [getI_at]; exact h2), Bool.and_eq_true] at hm
        exact .inl ⟨g.o, (rdyL_mem V.Bs 0 g.o).2 ⟨k, a, h2, hm.1, by rw [h1, Nat.zero_add]⟩, rfl⟩
    · cases ho
  · rw [rdOf_time hk] at ho
    split at ho
    · next hd =>
      injection ho with ho
      subst ho
      unfold rdDue at hd
      rw [List.any_eq_true] at hd
      obtain ⟨t, ht, hb⟩ := hd
      rw [Bool.and_eq_true, beq_iff_eq] at hb
      obtain ⟨h0, h5⟩ := (K.n _ h).2.2 g hg
      refine .inr (.inr (.inr ⟨t, ht, ?_⟩))
      unfold rdDueE
      rw [if_pos hb.2, hb.1, show (8 * p + g.n) / 8 = p by omega, show (8 * p + g.n) % 8 = g.n by omega]
    · cases ho
  · rw [rdOf_skip hk] at ho
    injection ho with ho
    subst ho
    exact .inr (.inr (.inl ⟨ha, .inr (.inr rfl)⟩))
  · rw [rdOf_join hk] at ho
    split at ho
    · cases ho
    · injection ho with ho
      subst ho
      exact .inr (.inr (.inl ⟨ha, .inr (.inl rfl)⟩))
  · rw [rdOf_no hk] at ho; cases ho
theorem may_of {C : CP} {m : Int} (h : m ∈ chWhat C) : chMay C m = true := (mem_what.1 h).2
theorem may1 {C : CP} (h : chMay C 1 = true) : C.r = 0 ∧ chSends C = true ∧ chGets C = true := by
  unfold chMay at h
  simpa using h
theorem may2 {C : CP} (h : chMay C 2 = true) : (C.V.length : Int) < C.r ∧ chSends C = true := by
  unfold chMay at h
  simpa using h
theorem may3 {C : CP} (h : chMay C 3 = true) : 0 < (C.V.length : Int) ∧ chGets C = true := by
  unfold chMay at h
  simpa using h
theorem sends_head {C : CP} (h : chSends C = true) : ∃ p l, C.W = p :: l ∧ chOut C = false := by
  unfold chSends at h
  rw [Bool.and_eq_true, decide_eq_true_eq] at h
  cases hw : C.W with
  | nil => rw [hw] at h; simp at h
  | cons p l => exact ⟨p, l, rfl, by simpa using h.2⟩
theorem gets_head {C : CP} (h : chGets C = true) : ∃ p l, C.G = p :: l ∧ chIn C = false := by
  unfold chGets at h
  rw [Bool.and_eq_true, decide_eq_true_eq] at h
  cases hw : C.G with
  | nil => rw [hw] at h; simp at h
  | cons p l => exact ⟨p, l, rfl, by simpa using h.2⟩
/-- The first move at an end is the one that may happen. -/
theorem fst_out {C : CP} {m : Int} (h : m ∈ chWhat C) (hm : m = 1 ∨ m = 2) : rdFst C 2 = some m := by
  have hf : chFine C = true := (mem_what.1 h).1
  have hw : chWhat C = (if chMay C 1 then [1] else []) ++ ((if chMay C 2 then [2] else []) ++ (if chMay C 3 then [3] else [])) := by unfold chWhat; rw [if_pos hf]
  have hr := (chOk hf).room
  unfold rdFst
  rw [hw, show rdEnds 2 = [1, 2] from rfl]
  have hy := may_of h
  rcases hm with rfl | rfl
  · rw [hy]; rfl
  · have h1 : chMay C 1 = false := by
      cases e : chMay C 1
      · rfl
      · have a := may1 e
        have b := may2 hy
        omega
    rw [h1, hy]; rfl
theorem fst_inn {C : CP} {m : Int} (h : m ∈ chWhat C) (hm : m = 1 ∨ m = 3) : rdFst C 1 = some m := by
  have hf : chFine C = true := (mem_what.1 h).1
  have hw : chWhat C = (if chMay C 1 then [1] else []) ++ ((if chMay C 2 then [2] else []) ++ (if chMay C 3 then [3] else [])) := by unfold chWhat; rw [if_pos hf]
  have hr := (chOk hf).room
  unfold rdFst
  rw [hw, show rdEnds 1 = [1, 3] from rfl]
  have hy := may_of h
  rcases hm with rfl | rfl
  · rw [hy]; rfl
  · have h1 : chMay C 1 = false := by
      cases e : chMay C 1
      · rfl
      · have a := may1 e
        have b := may3 hy
        omega
    rw [h1, hy]
    cases chMay C 2 <;> rfl
theorem full_some {r : RL} (h : rlFull r = true) : ∃ p, p ∈ r.a.ints := by
  unfold rlFull at h
  simp only [Bool.and_eq_true, Bool.not_eq_true'] at h
  obtain ⟨_, h1, h2⟩ := h
  rw [eqb_iff] at h2
  rw [eqb_no] at h1
  by_cases hz : ∃ i, i < 256 ∧ r.a.has i = true
  · obtain ⟨i, hi, hh⟩ := hz
    exact ⟨i, (mem_ints _ i hi).2 hh⟩
  · exfalso
    apply h1
    rw [← h2]
    refine S4.ext_has fun i hi => ?_
    rw [zero_has]
    cases e : r.a.has i
    · rfl
    · exact absurd ⟨i, hi, e⟩ hz
/-- What may happen is a guard's event. -/
theorem event_of {V : VP} (K : KInv V) {e : EV} (h : e ∈ rdEvents V) : e ∈ rdAsks V := by
  rcases mem_events.1 h with ⟨b, hb, rfl⟩ | ⟨x, hx, rfl⟩ | h | ⟨t, ht, he⟩
  · obtain ⟨k, q, hq, hr, rfl⟩ := (rdyL_mem V.Bs 0 b).1 hb
    rw [Nat.zero_add]
    have hfull : rlFull q.r = true := by
      unfold brReady at hr
      simp only [Bool.and_eq_true] at hr
      exact hr.1.2
    obtain ⟨p, hp⟩ := full_some hfull
    obtain ⟨gs, h1, g, hg, hk, ho⟩ := K.b k q hq p hp
    refine mem_asks.2 ⟨p, gs, h1, g, hg, ?_⟩
    rw [rdOf_bar hk, ho, rdMet_some (by rw [getI_at]; exact hq), hr]
    unfold hasL
    rw [decide_eq_true hp]
    rfl
  · obtain ⟨k, C, hC, hi, hm⟩ := (mem_mvL V.Cs 0).1 hx
    rw [Nat.zero_add] at hi
    rw [hi]
    rcases (by have := what_in hm; omega : (x.2 = 1 ∨ x.2 = 2) ∨ x.2 = 3) with h12 | h3
    · have hs : chSends C = true := by
        have := may_of hm
        rcases h12 with e | e
        · rw [e] at this; exact (may1 this).2.1
        · rw [e] at this; exact (may2 this).2
      obtain ⟨p, l, hw, ho⟩ := sends_head hs
      obtain ⟨gs, h1, g, hg, hk, hgo⟩ := K.c.w k C hC p (by rw [hw]; exact List.mem_cons_self)
      refine mem_asks.2 ⟨p, gs, h1, g, hg, ?_⟩
      rw [rdOf_chan (.inr hk), rdServ_some (by rw [hgo, getI_at]; exact hC), rdChan_on (by rw [hk]; exact ho) (by rw [hk]; show C.W.head? = _; rw [hw]; rfl), hk, fst_out hm h12, hgo]
      rfl
    · have hs : chGets C = true := by
        have := may_of hm
        rw [h3] at this; exact (may3 this).2
      obtain ⟨p, l, hw, ho⟩ := gets_head hs
      obtain ⟨gs, h1, g, hg, hk, hgo⟩ := K.c.g k C hC p (by rw [hw]; exact List.mem_cons_self)
      refine mem_asks.2 ⟨p, gs, h1, g, hg, ?_⟩
      rw [rdOf_chan (.inl hk), rdServ_some (by rw [hgo, getI_at]; exact hC), rdChan_on (by rw [hk]; exact ho) (by rw [hk]; show C.G.head? = _; rw [hw]; rfl), hk, fst_inn hm (.inr h3), hgo]
      rfl
  · exact h.1
  · obtain ⟨p, gs, g, h1, hg, hk, hw⟩ := K.t t ht
    obtain ⟨h0, h5⟩ := (K.n _ h1).2.2 g hg
    unfold rdDueE at he
    split at he
    · next hd =>
      injection he with he
      subst he
      refine mem_asks.2 ⟨p, gs, h1, g, hg, ?_⟩
      have : rdDue V.now V.Ts p g.n = true := by
        unfold rdDue
        rw [List.any_eq_true]
        exact ⟨t, ht, by rw [hw, hd]; simp⟩
      rw [rdOf_time hk, if_pos this, hw, show (8 * p + g.n) / 8 = p by omega, show (8 * p + g.n) % 8 = g.n by omega]
    · cases he

/-! How it comes to be so. -/
theorem CInv.app {Ws Xs : List (Int × List GD)} {Cs : List CP} (h : CInv Ws Cs) : CInv (Ws ++ Xs) Cs :=
  ⟨fun i C hC p hp => (h.w i C hC p hp).app, fun i C hC p hp => (h.g i C hC p hp).app⟩
theorem BInv.app {Ws Xs : List (Int × List GD)} {Bs : List BR} (h : BInv Ws Bs) : BInv (Ws ++ Xs) Bs := fun i B hB p hp => (h i B hB p hp).app
theorem TInv.app {f : Int → Int → Int} {Ws Xs : List (Int × List GD)} {Ts : List Tm} (h : TInv f Ws Ts) : TInv f (Ws ++ Xs) Ts := fun t ht => by
  obtain ⟨p, gs, g, h1, h2⟩ := h t ht
  exact ⟨p, gs, g, List.mem_append_left _ h1, h2⟩
theorem cinv_new (Ws : List (Int × List GD)) (l : List CF) : CInv Ws (newL l) := by
  have hz : ∀ C ∈ newL l, C.W = [] ∧ C.G = [] := by
    intro C hC
    unfold newL at hC
    split at hC
    · obtain ⟨c, _, rfl⟩ := List.mem_map.1 hC
      unfold cfN chNew
      cases ccE c.k c.r c.i c.o == 0 <;> exact ⟨rfl, rfl⟩
    · cases hC
  refine ⟨fun i C hC p hp => ?_, fun i C hC p hp => ?_⟩
  · rw [(hz C (List.mem_of_getElem? hC)).1] at hp; cases hp
  · rw [(hz C (List.mem_of_getElem? hC)).2] at hp; cases hp
theorem set_at {α : Type} {l : List α} {k i : Nat} {x y : α} (h : (l.set k x)[i]? = some y) : (i = k ∧ y = x) ∨ l[i]? = some y := by
  rw [List.getElem?_set] at h
  split at h
  · next e =>
    split at h
    · injection h with h
      exact .inl ⟨e.symm, h.symm⟩
    · cases h
  · exact .inr h
theorem at_getD {α : Type} {l : List α} {k : Nat} {d : α} (h : k < l.length) : l[k]? = some (l.getD k d) := by
  rw [List.getD_eq_getElem?_getD, List.getElem?_eq_getElem h]
  rfl
theorem n1_lines {C : CP} {p : Int} {g : GD} : (∀ q ∈ (gdN1 C p g).W, q ∈ C.W ∨ (q = p ∧ g.k ≠ 1)) ∧ (∀ q ∈ (gdN1 C p g).G, q ∈ C.G ∨ (q = p ∧ g.k = 1)) := by
  unfold gdN1
  cases hk : g.k == 1
  · have hk' : g.k ≠ 1 := by simpa using hk
    refine ⟨fun q hq => ?_, fun q hq => ?_⟩
    · simp only [cond_false] at hq
      unfold chSend at hq
      split at hq
      · rcases List.mem_append.1 hq with h | h
        · exact .inl h
        · exact .inr ⟨by simpa using h, hk'⟩
      · exact .inl hq
    · simp only [cond_false] at hq
      unfold chSend at hq
      split at hq
      · exact .inl hq
      · exact .inl hq
  · have hk' : g.k = 1 := by simpa using hk
    refine ⟨fun q hq => ?_, fun q hq => ?_⟩
    · simp only [cond_true] at hq
      unfold chRecv at hq
      split at hq
      · exact .inl hq
      · exact .inl hq
    · simp only [cond_true] at hq
      unfold chRecv at hq
      split at hq
      · rcases List.mem_append.1 hq with h | h
        · exact .inl h
        · exact .inr ⟨by simpa using h, hk'⟩
      · exact .inl hq
theorem cinv_run {Ws : List (Int × List GD)} {p : Int} {gs : List GD} (hp : (p, gs) ∈ Ws) (al : Bool) : ∀ (l : List GD) (Cs : List CP) (i : Nat), (∀ g ∈ l, g ∈ gs) → CInv Ws Cs → CInv Ws (offRun p al Cs i l).1
  | [], _, _, _, h => h
  | g :: l, Cs, i, hl, h => by
    cases hoff : gdOff g
    · by_cases h0 : gdE Cs p al g = 0
      · rw [offRun_step hoff h0]
        refine cinv_run hp al l _ _ (fun x hx => hl x (List.mem_cons_of_mem _ hx)) ?_
        have hin : inT Cs g.o = true := by
          cases e : inT Cs g.o
          · unfold gdE at h0
            rw [if_pos e] at h0
            cases h0
          · rfl
        unfold inT at hin
        rw [Bool.and_eq_true, decide_eq_true_eq, decide_eq_true_eq] at hin
        have hgk : g.k = 1 ∨ g.k = 2 := by
          unfold gdOff at hoff
          simp only [Bool.and_eq_false_iff, bne_eq_false_iff_eq] at hoff
          exact hoff
        have hC := at_getD (d := chZero) (show g.o.toNat < Cs.length by omega)
        obtain ⟨n1, n2⟩ := n1_lines (C := Cs.getD g.o.toNat chZero) (p := p) (g := g)
        have hmem := hl g List.mem_cons_self
        unfold gdL
        rw [if_pos h0]
        refine ⟨fun j D hD q hq => ?_, fun j D hD q hq => ?_⟩
        · rcases set_at hD with ⟨rfl, rfl⟩ | hD
          · rcases n1 q hq with hq | ⟨rfl, hk⟩
            · exact h.w _ _ hC q hq
            · exact ⟨gs, hp, g, hmem, by omega, by omega⟩
          · exact h.w _ _ hD q hq
        · rcases set_at hD with ⟨rfl, rfl⟩ | hD
          · rcases n2 q hq with hq | ⟨rfl, hk⟩
            · exact h.g _ _ hC q hq
            · exact ⟨gs, hp, g, hmem, by omega, by omega⟩
          · exact h.g _ _ hD q hq
      · rw [offRun_stop hoff h0]
        exact h
    · rw [offRun_skip hoff]
      exact cinv_run hp al l _ _ (fun x hx => hl x (List.mem_cons_of_mem _ hx)) h
theorem cinv_off {Ws : List (Int × List GD)} {p : Int} {gs : List GD} {al : Bool} {Cs : List CP} (h : CInv Ws Cs) : CInv (Ws ++ [(p, gs)]) (offRun p al Cs 0 gs).1 :=
  cinv_run (by simp) al gs Cs 0 (fun _ h => h) h.app
theorem binv_one {Ws : List (Int × List GD)} {f : BR → BR × Int} {Bs : List BR} (h : BInv Ws Bs) (b : Int) (hf : ∀ B, ∀ q ∈ (f B).1.r.a.ints, q ∈ B.r.a.ints ∨ Wt Ws q fun g => g.k = 3 ∧ g.o = b) : BInv Ws (tOne f Bs b).1 := by
  unfold tOne
  split
  · exact h
  · next hin =>
    split
    · have hin' : 0 ≤ b ∧ b < (Bs.length : Int) := by
        unfold tIn at hin
        simp only [Bool.and_eq_false_iff, decide_eq_false_iff_not] at hin
        omega
      have hB := at_getD (d := BR.zero) (show b.toNat < Bs.length by omega)
      intro j D hD q hq
      rcases set_at hD with ⟨rfl, rfl⟩ | hD
      · rcases hf _ q hq with hq | hq
        · exact h _ _ hB q hq
        · rwa [Int.toNat_of_nonneg hin'.1]
      · exact h _ _ hD q hq
    · exact h
theorem enrol_at (B : BR) (p : Int) : (brEnrol B p).1.r.a = B.r.a := by
  unfold brEnrol
  split
  · rfl
  · show (rlEnrol B.r p).1.a = _
    unfold rlEnrol
    split
    · rfl
    · split <;> rfl
theorem binv_enrol {Ws : List (Int × List GD)} {Bs : List BR} (h : BInv Ws Bs) (b p : Int) : BInv Ws (tOne (brEnrol · p) Bs b).1 :=
  binv_one h b fun B q hq => .inl (by rwa [enrol_at] at hq)
theorem offer_at {B : BR} {p : Int} {al : Bool} {q : Int} (h : q ∈ (brOffer B p al).1.r.a.ints) : q ∈ B.r.a.ints ∨ q = p := by
  unfold brOffer at h
  split at h
  · exact .inl h
  · split at h
    · exact .inl h
    · split at h
      · exact .inl h
      · have h : q ∈ (rlOffer B.r p).1.a.ints := h
        unfold rlOffer at h
        split at h
        · exact .inl h
        · split at h
          · exact .inl h
          · split at h
            · exact .inl h
            · have h : q ∈ (B.r.a.uni (S4.only p)).ints := h
              rw [add_ints] at h
              obtain ⟨i, hi, hh, e⟩ := (mem_rise _ q).1 h
              rw [Bool.or_eq_true, decide_eq_true_eq] at hh
              rcases hh with hh | hh
              · exact .inl (e ▸ (mem_ints _ i hi).2 hh)
              · exact .inr (e ▸ hh)
theorem binv_run {Ws : List (Int × List GD)} {p : Int} {gs : List GD} (hp : (p, gs) ∈ Ws) (al : Bool) {T : List BR} (hT : BInv Ws T) : ∀ (l : List GD) (Bs : List BR) (i : Nat), (∀ g ∈ l, g ∈ gs) → BInv Ws Bs → BInv Ws (offR p al T Bs i l).1
  | [], _, _, _, h => h
  | g :: l, Bs, i, hl, h => by
    have hl' : ∀ x ∈ l, x ∈ gs := fun x hx => hl x (List.mem_cons_of_mem _ hx)
    show BInv Ws (if g.k ≠ 3 then _ else _ : List BR × Nat × Int).1
    split
    · exact binv_run hp al hT l _ _ hl' h
    · next hk =>
      split
      · refine binv_run hp al hT l _ _ hl' (binv_one h g.o fun B q hq => ?_)
        rcases offer_at hq with hq | rfl
        · exact .inl hq
        · exact .inr ⟨gs, hp, g, hl g List.mem_cons_self, by omega, rfl⟩
      · exact hT
theorem binv_off {Ws : List (Int × List GD)} {p : Int} {gs : List GD} {al : Bool} {Bs : List BR} (h : BInv Ws Bs) : BInv (Ws ++ [(p, gs)]) (offR p al Bs Bs 0 gs).1 :=
  binv_run (by simp) al h.app gs Bs 0 (fun _ h => h) h.app
theorem tinv_ins {f : Int → Int → Int} {Ws : List (Int × List GD)} {Ts : List Tm} (h : TInv f Ws Ts) {t : Tm} (ht : ∃ p gs g, (p, gs) ∈ Ws ∧ g ∈ gs ∧ g.k = 4 ∧ t.who = f p g.n) : TInv f Ws (insT Ts t) := by
  intro u hu
  rcases List.mem_cons.1 ((insT_perm Ts t).mem_iff.1 hu) with rfl | hu
  · exact ht
  · exact h u hu
theorem cinv_map {Ws : List (Int × List GD)} {Cs : List CP} (h : CInv Ws Cs) {k : Nat} {C D : CP} (hC : Cs[k]? = some C) (h1 : D.W = C.W) (h2 : D.G = C.G) : CInv Ws (Cs.set k D) := by
  refine ⟨fun j E hE q hq => ?_, fun j E hE q hq => ?_⟩
  · rcases set_at hE with ⟨rfl, rfl⟩ | hE
    · rw [h1] at hq; exact h.w _ _ hC q hq
    · exact h.w _ _ hE q hq
  · rcases set_at hE with ⟨rfl, rfl⟩ | hE
    · rw [h2] at hq; exact h.g _ _ hC q hq
    · exact h.g _ _ hE q hq
end Go.Proofs.YtdiiilnebepfdaaGreatDoor

namespace Go.Proofs.YtdiiilnebepfdaaGreatDoor
open Go.RowKit

set_option maxRecDepth 100000 in
theorem eq_pev (d : Nat) (k o h n k' o' h' n' : Int) (w : World) : (Op.equalIn (d + 2) 32 (.agg #[.int .i64 k, .int .i64 o, .int .i64 h, .int .i64 n]) (.agg #[.int .i64 k', .int .i64 o', .int .i64 h', .int .i64 n'])).run Tryz.prog w = .ok ((k == k') && (o == o') && (h == h') && (n == n')) w := by
  have hS : Tryz.prog.underlying 32 = some (.struct (Tryz.prog.fieldsOf 32)) := by kernel_rfl
  have hp : Tryz.prog.stoodInHeld 32 = false := by kernel_rfl
  have p0 : ∀ (a b c e : Int) w, (part 3 #[.int .i64 a, .int .i64 b, .int .i64 c, .int .i64 e] 0).run Tryz.prog w = .ok (.int .i64 a) w := fun a b c e w => by kernel_rfl
  have p1 : ∀ (a b c e : Int) w, (part 3 #[.int .i64 a, .int .i64 b, .int .i64 c, .int .i64 e] 1).run Tryz.prog w = .ok (.int .i64 b) w := fun a b c e w => by kernel_rfl
  have p2 : ∀ (a b c e : Int) w, (part 3 #[.int .i64 a, .int .i64 b, .int .i64 c, .int .i64 e] 2).run Tryz.prog w = .ok (.int .i64 c) w := fun a b c e w => by kernel_rfl
  have p3 : ∀ (a b c e : Int) w, (part 3 #[.int .i64 a, .int .i64 b, .int .i64 c, .int .i64 e] 3).run Tryz.prog w = .ok (.int .i64 e) w := fun a b c e w => by kernel_rfl
  have q : ∀ (x y : Int) w, (Op.equalIn (d + 1) 3 (.int .i64 x) (.int .i64 y)).run Tryz.prog w = .ok (x == y) w := fun x y w => run_equalIn_int w d _ .i64 .i64 x y Tryz.underlying3
  rw [show d + 2 = (d + 1) + 1 from rfl, run_equalIn_agg w (d + 1) 32 _ _ hS hp]
  simp only [Program.fieldsOf, Tryz.underlying32]
  have a0 := p0 k o h n
  have a1 := p1 k o h n
  have a2 := p2 k o h n
  have a3 := p3 k o h n
  have b0 := p0 k' o' h' n'
  have b1 := p1 k' o' h' n'
  have b2 := p2 k' o' h' n'
  have b3 := p3 k' o' h' n'
  clear p0 p1 p2 p3
  generalize (#[.int .i64 k, .int .i64 o, .int .i64 h, .int .i64 n] : Array Value) = X at a0 a1 a2 a3 ⊢
  generalize (#[.int .i64 k', .int .i64 o', .int .i64 h', .int .i64 n'] : Array Value) = Y at b0 b1 b2 b3 ⊢
  cases e0 : (k == k') <;> cases e1 : (o == o') <;> cases e2 : (h == h') <;> cases e3 : (n == n') <;> simp [Op.eqFields, a0, a1, a2, a3, b0, b1, b2, b3, q, e0, e1, e2, e3]
theorem neq_pev (k o h n k' o' h' n' : Int) (w : World) : (binOp .neq 32 (.agg #[.int .i64 k, .int .i64 o, .int .i64 h, .int .i64 n]) (.agg #[.int .i64 k', .int .i64 o', .int .i64 h', .int .i64 n'])).run Tryz.prog w = .ok (.bool (!((k == k') && (o == o') && (h == h') && (n == n')))) w := by
  rw [run_neq_struct, eq_pev 9998]
  rfl
theorem eql_pev (k o h n k' o' h' n' : Int) (w : World) : (binOp .eql 32 (.agg #[.int .i64 k, .int .i64 o, .int .i64 h, .int .i64 n]) (.agg #[.int .i64 k', .int .i64 o', .int .i64 h', .int .i64 n'])).run Tryz.prog w = .ok (.bool ((k == k') && (o == o') && (h == h') && (n == n'))) w := by
  rw [run_eql_struct, eq_pev 9998]
  rfl
theorem tk_eqp {o : Oper} {a : Act} {W : World} {t' : TypeId} {x y : Operand} {u v : EV} (ho : o.op = .binOp .eql 32 x y t') (hx : a.eval x = .agg (evC u).toArray) (hy : a.eval y = .agg (evC v).toArray) :
    (execOp a.eval o).run Tryz.prog W = .ok (.value (.bool ((u.k == v.k) && (u.o == v.o) && (u.h == v.h) && (u.n == v.n)))) W := by
  have h1 : ∀ x y, (eqGuard .eql 32 x y (.agg (evC u).toArray) (.agg (evC v).toArray)).run Tryz.prog W = .ok () W := fun x y => run_eqGuard_agg (P := Tryz.prog) W .eql 32 x y (evC u).toArray (evC v).toArray (by kernel_rfl)
  have h2 : (binOp .eql 32 (.agg (evC u).toArray) (.agg (evC v).toArray)).run Tryz.prog W = _ := eql_pev u.k u.o u.h u.n v.k v.o v.h v.n W
  unfold execOp
  simp only [ho, hx, hy, Sem.run_bind, Sem.run_pure, Result.andThen_ok, h1, h2]
/-- Events compared. -/
def evEq (u v : EV) : Bool := (u.k == v.k) && (u.o == v.o) && (u.h == v.h) && (u.n == v.n)
theorem evEq_iff {u v : EV} : evEq u v = true ↔ u = v := by
  unfold evEq
  obtain ⟨a, b, c, d⟩ := u
  obtain ⟨a', b', c', d'⟩ := v
  simp only [Bool.and_eq_true, beq_iff_eq]
  constructor
  · rintro ⟨⟨⟨rfl, rfl⟩, rfl⟩, rfl⟩
    rfl
  · intro h
    injection h with h1 h2 h3 h4
    exact ⟨⟨⟨h1, h2⟩, h3⟩, h4⟩
theorem evEq_refl (u : EV) : evEq u u = true := evEq_iff.2 rfl
theorem blk_up {w w' : World} {b : Nat} {cs : List Value} {t : TypeId} (h : Blk w b cs t) (hb : Below w.heap.size w w') : Blk w' b cs t := h.up hb h.lt
/-- Memory that has grown from here on. -/
def Up1 (w W : World) : Prop := Below w.heap.size w W
theorem up1_new {w W : World} {cs : Array Value} {t : TypeId} (_ : Up1 w (W.alloc (.cells cs t))) : Blk (W.alloc (.cells cs t)) W.heap.size cs.toList t := by
  have h := Blk.new W cs.toList t
  rwa [Array.toArray_toList] at h
theorem up1_newd {w W : World} {cs : Array Value} {t : TypeId} (_ : Up1 w (W.alloc (.cells cs t)).drew) : Blk (W.alloc (.cells cs t)).drew W.heap.size cs.toList t := by
  have h := Blk.new W cs.toList t
  rwa [Array.toArray_toList] at h
end Go.Proofs.YtdiiilnebepfdaaGreatDoor

namespace Go.Proofs.YtdiiilnebepfdaaGreatDoor

theorem any_next {α : Type} {f : α → Bool} {l : List α} {m : Nat} {a : α} (h : l[m]? = some a) : (l.take (m + 1)).any f = ((l.take m).any f || f a) := by
  rw [List.take_add_one, h, List.any_append]
  simp
theorem any_all {α : Type} {f : α → Bool} {l : List α} {b : Bool} (h : l.any f = b) : (l.take l.length).any f = b := by rw [List.take_of_length_le (Nat.le_refl _)]; exact h
/-- The event is one of those that may happen just if the guard is ready. -/
theorem in_eq {V : VP} (K : KInv V) {p : Int} {gs : List GD} (h : (p, gs) ∈ V.Ws) {g : GD} (hg : g ∈ gs) : (rdEvents V).any (fun y => evEq y ((rdOf V p g).getD evZ)) = (rdOf V p g).isSome := by
  cases ho : rdOf V p g with
  | none =>
    cases e : (rdEvents V).any (fun y => evEq y ((none : Option EV).getD evZ))
    · rfl
    · obtain ⟨y, hy, hq⟩ := List.any_eq_true.1 e
      have := evEq_iff.1 hq
      subst this
      exact absurd hy (evz_not V)
  | some x => exact List.any_eq_true.2 ⟨x, of_event K h hg ho, evEq_refl x⟩
/-- Its number is one of those that rise just then. -/
theorem at_eq {V : VP} (K : KInv V) {p : Int} {gs : List GD} (h : (p, gs) ∈ V.Ws) {g : GD} (hg : g ∈ gs) : (rdGds V p).any (fun n => n == g.n) = (rdOf V p g).isSome := by
  rw [← gds_at K h hg]
  cases e : (rdGds V p).any (fun n => n == g.n)
  · refine (decide_eq_false fun hm => ?_).symm
    rw [List.any_eq_true.2 ⟨g.n, hm, by simp⟩] at e
    cases e
  · obtain ⟨n, hn, hq⟩ := List.any_eq_true.1 e
    rw [beq_iff_eq] at hq
    subst hq
    exact (decide_eq_true hn).symm
/-- And there is an event. -/
theorem ne_eq {V : VP} {p : Int} {g : GD} : (!evEq ((rdOf V p g).getD evZ) evZ) = (rdOf V p g).isSome := by
  cases ho : rdOf V p g with
  | none => rfl
  | some x =>
    show (!evEq x evZ) = true
    cases e : evEq x evZ
    · rfl
    · have h1 := evEq_iff.1 e
      have h2 := of_kind ho
      subst h1
      exact absurd h2 (by decide)
/-- What is known when all have been asked. -/
def knW (V : VP) (k : Nat) : List EV := (V.Ws.take k).flatMap fun x => x.2.filterMap (rdOf V x.1)
def knG (V : VP) (k : Nat) (p : Int) (gs : List GD) (j : Nat) : List EV := knW V k ++ (gs.take j).filterMap (rdOf V p)
theorem kn_all (V : VP) : knW V V.Ws.length = rdAsks V := by
  unfold knW rdAsks
  rw [List.take_of_length_le (Nat.le_refl _)]
theorem kn_start (V : VP) (k : Nat) (p : Int) (gs : List GD) : knG V k p gs 0 = knW V k := by unfold knG; simp
theorem kn_next {V : VP} {k : Nat} {p : Int} {gs : List GD} {j : Nat} {g : GD} (h : gs[j]? = some g) : knG V k p gs (j + 1) = knG V k p gs j ++ (rdOf V p g).toList := by
  unfold knG
  rw [List.take_add_one, h, List.filterMap_append, List.append_assoc]
  cases ho : rdOf V p g <;> simp [ho]
theorem kn_end {V : VP} {k : Nat} {p : Int} {gs : List GD} (h : V.Ws[k]? = some (p, gs)) : knG V k p gs gs.length = knW V (k + 1) := by
  unfold knG knW
  rw [List.take_add_one, h, List.flatMap_append, List.take_of_length_le (Nat.le_refl gs.length)]
  simp
/-- Each event that may happen is known. -/
theorem known_all {V : VP} (K : KInv V) {y : EV} (h : y ∈ rdEvents V) : (rdAsks V).any (fun e => evEq e y) = true := List.any_eq_true.2 ⟨y, event_of K h, evEq_refl y⟩
end Go.Proofs.YtdiiilnebepfdaaGreatDoor

/- Plain maths of views: which guards are ready, by which event; which events may happen. -/
import Derived.Test.YtdiiilnebepfdaaGreatDoorC2
import Derived.Test.YtdiiilnebepfdaaGreatDoorD3
import Derived.Test.YtdiiilnebepfdaaGreatDoorE1
import Derived.Test.YtdiiilnebepfdaaGreatDoorA3
import Derived.Test.YtdiiilnebepfdaaGreatDoorTma
namespace Go.Proofs.YtdiiilnebepfdaaGreatDoor

/-- A view, as plain data. -/
structure VP where
  now : Int
  Cs : List CP
  Bs : List BR
  Ws : List (Int × List GD)
  Ts : List Tm
  Lv : List Int

def getI {α : Type} (L : List α) (i : Int) : Option α := if 0 ≤ i then L[i.toNat]? else none
theorem getI_neg {α : Type} {L : List α} {i : Int} (h : i < 0) : getI L i = none := by unfold getI; rw [if_neg (by omega)]
theorem getI_over {α : Type} {L : List α} {i : Int} (h : (L.length : Int) ≤ i) : getI L i = none := by
  unfold getI
  split
  · exact List.getElem?_eq_none (by omega)
  · rfl
theorem getI_at {α : Type} {L : List α} {k : Nat} : getI L (k : Int) = L[k]? := by unfold getI; rw [if_pos (by omega), Int.toNat_natCast]
theorem getI_cases {α : Type} (L : List α) (i : Int) : i < 0 ∨ (0 ≤ i ∧ (L.length : Int) ≤ i) ∨ ∃ (k : Nat) (a : α), i = k ∧ k < L.length ∧ L[k]? = some a := by
  rcases (by omega : i < 0 ∨ (0 ≤ i ∧ (L.length : Int) ≤ i) ∨ (0 ≤ i ∧ i < (L.length : Int))) with h | h | h
  · exact .inl h
  · exact .inr (.inl h)
  · exact .inr (.inr ⟨i.toNat, L[i.toNat]'(by omega), by omega, by omega, List.getElem?_eq_getElem _⟩)

def rdHitC (C : CP) (k : Int) : Bool := bif k == 1 then chIn C else chOut C
def rdLine (C : CP) (k : Int) : List Int := bif k == 1 then C.G else C.W
def rdEnds (k : Int) : List Int := bif k == 1 then [1, 3] else [1, 2]
/-- The first move at that end that may happen. -/
def rdFst (C : CP) (k : Int) : Option Int := (chWhat C).find? fun m => decide (m ∈ rdEnds k)
def rdChan (C : CP) (who : Int) (g : GD) : Option EV :=
  if rdHitC C g.k = true then some ⟨5, 0, who, g.n⟩ else if (rdLine C g.k).head? = some who then (rdFst C g.k).map fun m => ⟨1 + m, g.o, 0, 0⟩ else none
def rdServ (Cs : List CP) (who : Int) (g : GD) : Option EV := (getI Cs g.o).bind fun C => rdChan C who g
def rdMet (Bs : List BR) (who b : Int) : Bool := ((getI Bs b).map fun B => brReady B && hasL B.r.a.ints who).getD false
def rdDue (now : Int) (Ts : List Tm) (who no : Int) : Bool := Ts.any fun t => (t.who == 8 * who + no) && dueB now t.at_
/-- A guard's event, if it is ready. -/
def rdOf (V : VP) (who : Int) (g : GD) : Option EV :=
  if g.k = 1 ∨ g.k = 2 then rdServ V.Cs who g
  else if g.k = 3 then (if rdMet V.Bs who g.o = true then some ⟨1, g.o, 0, 0⟩ else none)
  else if g.k = 4 then (if rdDue V.now V.Ts who g.n = true then some ⟨6, 0, who, g.n⟩ else none)
  else if g.k = 6 then (if hasL V.Lv g.v = true then none else some ⟨7, 0, who, g.n⟩)
  else if g.k = 5 then some ⟨8, 0, who, g.n⟩ else none
def evZ : EV := ⟨0, 0, 0, 0⟩
/-- The guards of a process. -/
def rdWs (V : VP) (who : Int) : List GD := ((V.Ws.find? fun x => x.1 == who).map Prod.snd).getD []
def rdGds (V : VP) (who : Int) : List Int := (rdWs V who).filterMap fun g => (rdOf V who g).map fun _ => g.n
def rdWhich (V : VP) (who no : Int) : Option EV := ((rdWs V who).find? fun g => g.n == no).bind (rdOf V who)
def rdAsks (V : VP) : List EV := V.Ws.flatMap fun x => x.2.filterMap (rdOf V x.1)
def rdDueE (now : Int) (t : Tm) : Option EV := if dueB now t.at_ = true then some ⟨6, 0, t.who / 8, t.who % 8⟩ else none
def rdOnly (k : Int) (L : List EV) : List EV := L.filter fun e => e.k == k
/-- All that may happen. -/
def rdEvents (V : VP) : List EV :=
  (rdyL 0 V.Bs).map (fun b => ⟨1, b, 0, 0⟩) ++ ((mvL 0 V.Cs).map (fun x => ⟨1 + x.2, x.1, 0, 0⟩) ++ (rdOnly 5 (rdAsks V) ++ (V.Ts.filterMap (rdDueE V.now) ++ (rdOnly 7 (rdAsks V) ++ rdOnly 8 (rdAsks V)))))

theorem rdOf_chan {V : VP} {who : Int} {g : GD} (h : g.k = 1 ∨ g.k = 2) : rdOf V who g = rdServ V.Cs who g := if_pos h
theorem rdOf_bar {V : VP} {who : Int} {g : GD} (h : g.k = 3) : rdOf V who g = if rdMet V.Bs who g.o = true then some ⟨1, g.o, 0, 0⟩ else none := by
  unfold rdOf; rw [if_neg (by omega), if_pos h]
theorem rdOf_time {V : VP} {who : Int} {g : GD} (h : g.k = 4) : rdOf V who g = if rdDue V.now V.Ts who g.n = true then some ⟨6, 0, who, g.n⟩ else none := by
  unfold rdOf; rw [if_neg (by omega), if_neg (by omega), if_pos h]
theorem rdOf_join {V : VP} {who : Int} {g : GD} (h : g.k = 6) : rdOf V who g = if hasL V.Lv g.v = true then none else some ⟨7, 0, who, g.n⟩ := by
  unfold rdOf; rw [if_neg (by omega), if_neg (by omega), if_neg (by omega), if_pos h]
theorem rdOf_skip {V : VP} {who : Int} {g : GD} (h : g.k = 5) : rdOf V who g = some ⟨8, 0, who, g.n⟩ := by
  unfold rdOf; rw [if_neg (by omega), if_neg (by omega), if_neg (by omega), if_neg (by omega), if_pos h]
theorem rdOf_no {V : VP} {who : Int} {g : GD} (h : g.k < 1 ∨ 6 < g.k) : rdOf V who g = none := by
  unfold rdOf; rw [if_neg (by omega), if_neg (by omega), if_neg (by omega), if_neg (by omega), if_neg (by omega)]
theorem rdServ_none {Cs : List CP} {who : Int} {g : GD} (h : getI Cs g.o = none) : rdServ Cs who g = none := by unfold rdServ; rw [h]; rfl
theorem rdServ_some {Cs : List CP} {who : Int} {g : GD} {C : CP} (h : getI Cs g.o = some C) : rdServ Cs who g = rdChan C who g := by unfold rdServ; rw [h]; rfl
theorem rdMet_none {Bs : List BR} {who b : Int} (h : getI Bs b = none) : rdMet Bs who b = false := by unfold rdMet; rw [h]; rfl
theorem rdMet_some {Bs : List BR} {who b : Int} {B : BR} (h : getI Bs b = some B) : rdMet Bs who b = (brReady B && hasL B.r.a.ints who) := by unfold rdMet; rw [h]; rfl
theorem rdChan_hit {C : CP} {who : Int} {g : GD} (h : rdHitC C g.k = true) : rdChan C who g = some ⟨5, 0, who, g.n⟩ := if_pos h
theorem rdChan_no {C : CP} {who : Int} {g : GD} (h : rdHitC C g.k = false) (h' : (rdLine C g.k).head? ≠ some who) : rdChan C who g = none := by
  unfold rdChan; rw [if_neg (by rw [h]; decide), if_neg h']
theorem rdChan_on {C : CP} {who : Int} {g : GD} (h : rdHitC C g.k = false) (h' : (rdLine C g.k).head? = some who) : rdChan C who g = (rdFst C g.k).map fun m => ⟨1 + m, g.o, 0, 0⟩ := by
  unfold rdChan; rw [if_neg (by rw [h]; decide), if_pos h']
/-- One that may not be: nothing may happen in it. -/
theorem rdFst_none {C : CP} {k : Int} (h : chFine C = false) : rdFst C k = none := by
  unfold rdFst chWhat
  rw [if_neg (by rw [h]; decide)]
  rfl
theorem what_in {C : CP} {m : Int} (h : m ∈ chWhat C) : m = 1 ∨ m = 2 ∨ m = 3 := chMay_is (mem_what.1 h).2
end Go.Proofs.YtdiiilnebepfdaaGreatDoor

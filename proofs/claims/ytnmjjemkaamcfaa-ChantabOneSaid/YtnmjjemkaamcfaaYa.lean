/- A table of channels in memory: a slice of rows of 11 cells, each a channel; one of the call's own, which may be written to. -/
import Derived.Test.YtnmjjemkaamcfaaJj
import Derived.Deep.MidRow
namespace Go.Proofs.Ytnmjjemkaamcfaa
open Go.RowKit

/-- A channel with its slices. -/
abbrev CQ := CP × SM
def cellsQ (q : CQ) : List Value := chC q.1 q.2
theorem cellsQ_len (q : CQ) : (cellsQ q).length = 11 := rfl
theorem cellsQ_one (L : List CQ) : ∀ u ∈ L.flatMap cellsQ, u.oneCell' = true := by
  intro u hu
  obtain ⟨q, _, hq⟩ := List.mem_flatMap.1 hu
  exact chC_one u hq
def zeroQ : CQ := (chZero, SM.nil)
instance : Inhabited CQ := ⟨zeroQ⟩
def tt : Nat → Prop := fun _ => True
theorem ChW.tt {w : World} {pl : Nat → Prop} {C : CP} {M : SM} (h : ChW w pl C M) : ChW w tt C M := h.lo fun _ _ => trivial
theorem LnW.lt {w : World} {pl : Nat → Prop} {A : Option Addr} {n c : Nat} {L : List Int} (h : LnW w pl A n c L) : LnW w (fun b => pl b ∧ b < w.heap.size) A n c L := ⟨h.rd.lt, h.len, h.nc, h.cm⟩
theorem ChW.lt {w : World} {pl : Nat → Prop} {C : CP} {M : SM} (h : ChW w pl C M) : ChW w (fun b => pl b ∧ b < w.heap.size) C M := ⟨h.v.lt, h.w_.lt, h.s.lt, h.g.lt⟩
/-- They read as the table's channels. -/
structure TbW (w : World) (pl : Nat → Prop) (A : Option Addr) (n c : Nat) (L : List CQ) : Prop where
  rd : RD w pl 11 A n (L.flatMap cellsQ)
  len : L.length = n
  nc : n ≤ c
  cm : c ≤ maxLen
  each : ∀ q ∈ L, ChW w tt q.1 q.2
theorem TbW.below {w w' : World} {pl : Nat → Prop} {A : Option Addr} {n c : Nat} {L : List CQ} (h : TbW w pl A n c L) (hb : Below w.heap.size w w') : TbW w' pl A n c L := ⟨h.rd.below hb, h.len, h.nc, h.cm, fun q hq => (h.each q hq).below hb⟩
theorem TbW.lo {w : World} {pl pl' : Nat → Prop} {A : Option Addr} {n c : Nat} {L : List CQ} (h : TbW w pl A n c L) (hl : ∀ b, pl b → pl' b) : TbW w pl' A n c L := ⟨h.rd.lo hl, h.len, h.nc, h.cm, h.each⟩
theorem TbW.none (w : World) (pl : Nat → Prop) : TbW w pl none 0 0 [] := ⟨RD.nil _ _ _ _, rfl, Nat.le_refl _, by unfold maxLen; omega, fun q hq => absurd hq (by simp)⟩
theorem flat_len {α β : Type} (f : α → List β) (m : Nat) (hf : ∀ a, (f a).length = m) : ∀ l : List α, (l.flatMap f).length = l.length * m
  | [] => by simp
  | a :: l => by rw [List.flatMap_cons, List.length_append, hf, flat_len f m hf l, List.length_cons, Nat.succ_mul]; omega
/-- The k-th channel: where it lies, as a range of cells. -/
theorem TbW.at_ {w : World} {pl : Nat → Prop} {A : Option Addr} {n c : Nat} {L : List CQ} (h : TbW w pl A n c L) (k : Nat) (hk : k < n) :
    ∃ b o q, A = some ⟨b, o, Option.none⟩ ∧ pl b ∧ b < w.heap.size ∧ L[k]? = some q ∧ w.rangeAt b (o + k * 11) (cellsQ q) ∧ ChW w tt q.1 q.2 := by
  obtain ⟨b, o, rfl, h1, h2, h3⟩ := h.rd.at_ (by omega)
  have hkL : k < L.length := by rw [h.len]; exact hk
  refine ⟨b, o, L[k], rfl, h1, h2, List.getElem?_eq_getElem hkL, fun j v hv => ?_, h.each _ (List.getElem_mem hkL)⟩
  have hj : j < 11 := by
    have := (List.getElem?_eq_some_iff.1 hv).1
    rwa [cellsQ_len] at this
  rw [Nat.add_assoc]
  exact h3 (k * 11 + j) v (by rw [flat_get cellsQ 11 cellsQ_len L k j L[k] (List.getElem?_eq_getElem hkL) hj]; exact hv)
theorem range_below {w w' : World} {b o : Nat} {cs : List Value} (h : w.rangeAt b o cs) (hb : Below w.heap.size w w') (hlt : b < w.heap.size) : w'.rangeAt b o cs := fun j v hv => (hb.cell (p := ⟨b, o + j, none⟩) hlt).trans (h j v hv)
/-- A block that holds just these cells, as a range. -/
theorem Blk.range {w : World} {b : Nat} {cs : List Value} {t : TypeId} (h : Blk w b cs t) : w.rangeAt b 0 cs := fun j v hv => by rw [Nat.zero_add]; exact h.cell j v hv

/-- The list with others from place o on. -/
def layL (ds : List Value) (o : Nat) : List Value → List Value
  | [] => ds
  | c :: cs => layL (ds.set o c) (o + 1) cs
theorem Blk.lay {b : Nat} {t : TypeId} : ∀ (cs ds : List Value) (o : Nat) (w : World), Blk w b ds t → Blk (w.setCells b o cs) b (layL ds o cs) t
  | [], _, _, _, h => h
  | c :: cs, ds, o, _, h => Blk.lay cs (ds.set o c) (o + 1) _ (h.set o c)
theorem layL_get : ∀ (cs ds : List Value) (o j : Nat), (layL ds o cs)[j]? = if o ≤ j ∧ j < o + cs.length ∧ j < ds.length then cs[j - o]? else ds[j]?
  | [], ds, o, j => by
    unfold layL
    rw [if_neg (by simp; omega)]
  | c :: cs, ds, o, j => by
    unfold layL
    rw [layL_get cs (ds.set o c) (o + 1) j, List.length_set, List.length_cons]
    by_cases hj : o + 1 ≤ j ∧ j < o + 1 + cs.length ∧ j < ds.length
    · rw [if_pos hj, if_pos (by omega), show j - o = (j - (o + 1)) + 1 by omega, List.getElem?_cons_succ]
    · rw [if_neg hj, List.getElem?_set]
      by_cases ho : o = j
      · subst ho
        rw [if_pos rfl]
        by_cases hl : o < ds.length
        · rw [if_pos hl, if_pos (by omega), Nat.sub_self, List.getElem?_cons_zero]
        · rw [if_neg hl, if_neg (by omega), List.getElem?_eq_none (by omega)]
      · rw [if_neg ho, if_neg (by omega)]
theorem layL_len : ∀ (cs ds : List Value) (o : Nat), (layL ds o cs).length = ds.length
  | [], _, _ => rfl
  | c :: cs, ds, o => by
    unfold layL
    rw [layL_len cs _ _, List.length_set]
theorem div11 (j : Nat) : j = j / 11 * 11 + j % 11 := by omega
theorem lay_flat (L : List CQ) (k : Nat) (q : CQ) (hk : k < L.length) (ex : List Value) : layL (L.flatMap cellsQ ++ ex) (k * 11) (cellsQ q) = (L.set k q).flatMap cellsQ ++ ex := by
  refine List.ext_getElem? fun j => ?_
  rw [layL_get, cellsQ_len, List.length_append, flat_len cellsQ 11 cellsQ_len]
  have hls := flat_len cellsQ 11 cellsQ_len (L.set k q)
  rw [List.length_set] at hls
  have hl0 := flat_len cellsQ 11 cellsQ_len L
  by_cases hj : k * 11 ≤ j ∧ j < k * 11 + 11
  · rw [if_pos (by omega), List.getElem?_append_left (by omega)]
    have := flat_get cellsQ 11 cellsQ_len (L.set k q) k (j - k * 11) q (by rw [List.getElem?_set, if_pos rfl, if_pos hk]) (by omega)
    rw [← this]
    congr 1
    omega
  · rw [if_neg (by omega)]
    by_cases hlt : j < L.length * 11
    · rw [List.getElem?_append_left (by omega), List.getElem?_append_left (by omega)]
      have hd : j / 11 < L.length := by omega
      have h1 := flat_get cellsQ 11 cellsQ_len L (j / 11) (j % 11) L[j / 11] (List.getElem?_eq_getElem hd) (Nat.mod_lt _ (by omega))
      have h2 := flat_get cellsQ 11 cellsQ_len (L.set k q) (j / 11) (j % 11) L[j / 11] (by rw [List.getElem?_set, if_neg (by omega), List.getElem?_eq_getElem hd]) (Nat.mod_lt _ (by omega))
      rw [← div11] at h1 h2
      rw [h1, h2]
    · rw [List.getElem?_append_right (by omega), List.getElem?_append_right (by omega), hls, hl0]
theorem only_cells {g : Nat} : ∀ (cs : List Value) (o : Nat) (w : World), Only (· = g) w (w.setCells g o cs)
  | [], _, w => Only.refl _ w
  | c :: cs, o, w => ((Only.refl _ w).put o c).trans (only_cells cs (o + 1) _)

/-- What is not the row's block. -/
def notOwn (v : Value) : Nat → Prop := fun b => v.ownBlock ≠ some b
/-- A table of the call's own: its row may be written to; its channels' lists lie elsewhere. -/
structure OwT (w : World) (T : TypeId) (lo : Nat) (v : Value) (n : Nat) (L : List CQ) : Prop where
  own : w.ownsRow lo T 11 v n (L.flatMap cellsQ)
  each : ∀ q ∈ L, ChW w (notOwn v) q.1 q.2
theorem OwT.len {w : World} {T : TypeId} {lo : Nat} {v : Value} {n : Nat} {L : List CQ} (h : OwT w T lo v n L) : L.length = n := by
  have := h.own.1
  rw [flat_len cellsQ 11 cellsQ_len] at this
  omega
theorem OwT.below {w w' : World} {T : TypeId} {lo : Nat} {v : Value} {n : Nat} {L : List CQ} (h : OwT w T lo v n L) (hb : Below w.heap.size w w') : OwT w' T lo v n L := ⟨own_below h.own hb, fun q hq => (h.each q hq).below hb⟩
theorem OwT.tb {w : World} {T : TypeId} {lo : Nat} {v : Value} {n : Nat} {L : List CQ} (h : OwT w T lo v n L) : ∃ A c, v = .slice A n c ∧ TbW w (lo ≤ ·) A n c L := by
  obtain ⟨A, c, rfl, h1, h2, h3⟩ := own_slice h.own
  exact ⟨A, c, rfl, ⟨h3, h.len, h1, h2, fun q hq => (h.each q hq).tt⟩⟩
theorem OwT.new {w : World} {T : TypeId} {lo : Nat} {v : Value} {n : Nat} {L : List CQ} (h : OwT w T lo v n L) : ∀ b, w.heap.size ≤ b → notOwn v b := by
  intro b hb hv
  rcases h.own.2 with ⟨rfl, _⟩ | ⟨g, cap, cur, rfl, _, hh, _⟩
  · cases hv
  · have : g = b := by simpa [Value.ownBlock] using hv
    have := lt_of_block hh
    omega
/-- What may turn of it. -/
def ownB (v : Value) : Nat → Prop := fun b => v.ownBlock = some b
theorem OwT.pos {w : World} {T : TypeId} {lo : Nat} {v : Value} {n : Nat} {L : List CQ} (h : OwT w T lo v n L) (hn : 0 < n) :
    ∃ g c ex, v = .slice (some ⟨g, 0, none⟩) n c ∧ lo ≤ g ∧ Blk w g (L.flatMap cellsQ ++ ex) T ∧ (n ≤ c ∧ c ≤ maxLen ∧ (L.flatMap cellsQ ++ ex).length = c * 11) := by
  rcases h.own.2 with ⟨rfl, h0⟩ | ⟨g, cap, cur, rfl, hg, hh, hc, hm, hsz, htk⟩
  · omega
  · refine ⟨g, cap, cur.toList.drop (n * 11), rfl, hg, ?_, hc, hm, ?_⟩
    · unfold Blk
      rw [hh, ← htk, List.take_append_drop]
    · rw [← htk, List.take_append_drop]
      simpa using hsz
theorem OwT.at_ {w : World} {T : TypeId} {lo : Nat} {v : Value} {n : Nat} {L : List CQ} (h : OwT w T lo v n L) (k : Nat) (hk : k < n) :
    ∃ g c q, v = .slice (some ⟨g, 0, none⟩) n c ∧ lo ≤ g ∧ g < w.heap.size ∧ L[k]? = some q ∧ w.rangeAt g (k * 11) (cellsQ q) ∧ w.there g (k * 11) 11 ∧ ChW w (notOwn v) q.1 q.2 := by
  obtain ⟨g, c, ex, rfl, hg, hb, hc, hm, hl⟩ := h.pos (by omega)
  have hkL : k < L.length := by rw [h.len]; exact hk
  have hlL := h.len
  have hfl := flat_len cellsQ 11 cellsQ_len L
  refine ⟨g, c, L[k], rfl, hg, hb.lt, List.getElem?_eq_getElem hkL, fun j v hv => ?_, fun j hj => ?_, h.each _ (List.getElem_mem hkL)⟩
  · have hj : j < 11 := by
      have := (List.getElem?_eq_some_iff.1 hv).1
      rwa [cellsQ_len] at this
    refine hb.cell _ _ ?_
    rw [List.getElem?_append_left (by omega), flat_get cellsQ 11 cellsQ_len L k j L[k] (List.getElem?_eq_getElem hkL) hj]
    exact hv
  · refine ⟨?_, ?_⟩
    · rw [hb.cell']
      rw [List.getElem?_eq_getElem (by rw [List.length_append]; omega)]
      rfl
    · unfold Blk at hb
      simp [World.frozen?, hb]
theorem OwT.th {w : World} {T : TypeId} {lo : Nat} {g n c : Nat} {L : List CQ} (h : OwT w T lo (.slice (some ⟨g, 0, none⟩) n c) n L) (k : Nat) (hk : k < n) : w.there g (k * 11) 11 := by
  obtain ⟨g', c', _, e, _, _, _, _, ht, _⟩ := h.at_ k hk
  have e1 : g = g' := by
    injection e with e _ _
    injection e with e
    injection e
  subst e1
  exact ht
/-- A channel is stored at its place. -/
theorem OwT.put {w : World} {T : TypeId} {lo : Nat} {g n c : Nat} {L : List CQ} (h : OwT w T lo (.slice (some ⟨g, 0, none⟩) n c) n L) (k : Nat) (hk : k < n) (q : CQ) (hq : ChW w (notOwn (.slice (some ⟨g, 0, none⟩) n c)) q.1 q.2) :
    OwT (w.setCells g (k * 11) (cellsQ q)) T lo (.slice (some ⟨g, 0, none⟩) n c) n (L.set k q) := by
  obtain ⟨g', c', ex, e, hg, hb, hc, hm, hl⟩ := h.pos (by omega)
  have e1 : g = g' := by
    injection e with e _ _
    injection e with e
    injection e
  have e2 : c = c' := by injection e
  subst e1 e2
  have hkL : k < L.length := by rw [h.len]; exact hk
  have hb' := Blk.lay (cellsQ q) _ (k * 11) w hb
  rw [lay_flat L k q hkL ex] at hb'
  have ho : Only (· = g) w (w.setCells g (k * 11) (cellsQ q)) := only_cells _ _ _
  have hno : ∀ b, b = g → ¬ notOwn (.slice (some ⟨g, 0, none⟩) n c) b := fun b hb hn => hn (by rw [hb]; rfl)
  have hls := flat_len cellsQ 11 cellsQ_len (L.set k q)
  rw [List.length_set, h.len] at hls
  refine ⟨⟨by rw [hls], .inr ⟨g, c, ((L.set k q).flatMap cellsQ ++ ex).toArray, rfl, hg, hb', hc, hm, ?_, ?_⟩⟩, fun x hx => ?_⟩
  · have hl0 := flat_len cellsQ 11 cellsQ_len L
    rw [h.len] at hl0
    rw [List.length_append, hl0] at hl
    rw [List.size_toArray, List.length_append, hls, hl]
  · rw [← hls]
    simp
  · rcases List.mem_or_eq_of_mem_set hx with hx | rfl
    · exact (h.each x hx).only ho hno
    · exact hq.only ho hno

section
variable {P : Program}
/-- A struct in the middle of a row, loaded whole (under a guard that says yes, or none). -/
theorem lm_row {w : World} {b q : Nat} {cs : List Value} {ty : TypeId} {d : TypeDesc} {ops : Array Oper} {rest : List Oper} {o : Oper} {a : Act} {Q : Exit → Act → World → Prop} (h : w.rangeAt b q cs) (x : Operand) (ho : o.op = .load ty x)
    (hx : a.eval x = .pointer (some ⟨b, q, none⟩)) (hu : P.underlying ty = some d) (hd : d.isRow = true) (hi : (P.info? ty).map (·.size) = some cs.length) (hw : Region.wanted o (yielded ops a.tmps) = true) (hk : wpList P ops Q rest (a.put o.dst (.agg cs.toArray)) w) : wpList P ops Q (o :: rest) a w :=
  BigFrame.wpList_want hw fun _ hK => wp_load_mid ty x ho b q hx cs d h hu hd hi (hK _ _ hk)
/-- One stored into the middle of a row. -/
theorem sm_row {w : World} {b q : Nat} {cs : List Value} {ty : TypeId} {ops : Array Oper} {rest : List Oper} {o : Oper} {a : Act} {Q : Exit → Act → World → Prop} (x y : Operand) (ho : o.op = .store ty x y) (hgd : o.guard = none)
    (hx : a.eval x = .pointer (some ⟨b, q, none⟩)) (hy : a.eval y = .agg cs.toArray) (hi : (P.info? ty).map (·.size) = some cs.length) (h1 : ∀ v ∈ cs, v.oneCell' = true) (h : w.there b q cs.length) (hk : wpList P ops Q rest (a.put o.dst undef) (w.setCells b q cs)) : wpList P ops Q (o :: rest) a w :=
  wpList_store_mid hgd ty x y ho b q cs.toArray hx hy (by simpa using h) (by simpa using hi) (all_oneCell_toArray h1) (by simpa using hk)
/-- A fresh variable of a struct, stored whole: sn_row with what is dear to elaborate behind. -/
theorem sn_row' {w' W : World} {N : Nat} {cs zs : List Value} {ty t : TypeId} {ops : Array Oper} {rest : List Oper} {o : Oper} {a : Act} {Q : Exit → Act → World → Prop} (x y : Operand) (ho : o.op = .store ty x y) (hgd : o.guard = none)
    (hx : a.eval x = .pointer (some ⟨N, 0, none⟩)) (hy : a.eval y = .agg cs.toArray) (hi : (P.info? ty).map (·.size) = some cs.length) (hl : zs.length = cs.length) (h1 : ∀ v ∈ cs, v.oneCell' = true)
    (hW : w' = W.alloc (.cells zs.toArray t)) (hN : W.heap.size = N) (hk : wpList P ops Q rest (a.put o.dst undef) (W.alloc (.cells cs.toArray t))) : wpList P ops Q (o :: rest) a w' := sn_row x y ho hgd hx hy hW hN hi hl h1 hk
/-- A struct of cells cs, loaded whole: ld_row (and under a guard that says yes) with what is dear to elaborate behind. -/
theorem ld_row' {w : World} {b : Nat} {cs : List Value} {t ty : TypeId} {d : TypeDesc} {ops : Array Oper} {rest : List Oper} {o : Oper} {a : Act} {Q : Exit → Act → World → Prop} (x : Operand) (ho : o.op = .load ty x)
    (hx : a.eval x = .pointer (some ⟨b, 0, none⟩)) (hu : P.underlying ty = some d) (hd : (match d with | .struct _ | .array _ _ => true | _ => false) = true) (hi : (P.info? ty).map (·.size) = some cs.length) (hw : Region.wanted o (yielded ops a.tmps) = true) (h : Blk w b cs t) (hk : wpList P ops Q rest (a.put o.dst (.agg cs.toArray)) w) : wpList P ops Q (o :: rest) a w :=
  lw_row h x ho hx hu hd hi hw hk
theorem lm_row' {w : World} {b q : Nat} {cs : List Value} {ty : TypeId} {d : TypeDesc} {ops : Array Oper} {rest : List Oper} {o : Oper} {a : Act} {Q : Exit → Act → World → Prop} (x : Operand) (ho : o.op = .load ty x)
    (hx : a.eval x = .pointer (some ⟨b, q, none⟩)) (hu : P.underlying ty = some d) (hd : d.isRow = true) (hi : (P.info? ty).map (·.size) = some cs.length) (hw : Region.wanted o (yielded ops a.tmps) = true) (h : w.rangeAt b q cs) (hk : wpList P ops Q rest (a.put o.dst (.agg cs.toArray)) w) : wpList P ops Q (o :: rest) a w :=
  lm_row h x ho hx hu hd hi hw hk
end
/-- A new row of one channel, which append is given. -/
theorem RD.oneQ {w : World} {q : CQ} {t : TypeId} {n : Nat} (hn : n = w.heap.size) : RD (w.alloc (.cells (cellsQ q).toArray t)) (fun _ => True) 11 (some ⟨n, 0, none⟩) 1 ([q].flatMap cellsQ) :=
  hn ▸ RD.of_blk (xs := [q].flatMap cellsQ) (t := t) (by simpa using Blk.new w (cellsQ q) t) (by rw [flat_len cellsQ 11 cellsQ_len]; rfl) trivial
end Go.Proofs.Ytnmjjemkaamcfaa

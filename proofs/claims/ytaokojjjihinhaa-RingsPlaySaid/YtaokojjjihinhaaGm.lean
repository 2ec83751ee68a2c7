/- The law RingsOrder: its words, and the ways without a loop. -/
import Derived.Test.YtaokojjjihinhaaGl
import Derived.IntWalk
namespace Go.Proofs.Ytaokojjjihinhaa
open Go.RowKit

theorem RV.only {w0 w w' : World} {t S rm : Nat} {v : Value} {L : List Int} {s : Nat → Prop} (h : RV w0 w t S rm v L) (o : Only s w w') (ht : ¬ s t) (hS : ¬ s S) (hr : ∀ g, v.ownBlock = some g → ¬ s g) (hlo : ∀ k, s k → w0.heap.size ≤ k) : RV w0 w' t S rm v L := by
  obtain ⟨f, xs, h1, h2, h3⟩ := h
  exact ⟨f, xs, ⟨h1.tab.only o ht, h1.box.only o hS, own_keep h1.row o hr, h1.rs, h1.rm⟩, h2.trans (o.toBelow h2.size hlo), h3⟩
theorem RV.tab {w0 w : World} {t S rm : Nat} {v : Value} {L : List Int} (h : RV w0 w t S rm v L) : Blk w t [.pointer (some ⟨S, 0, none⟩)] 53 := by obtain ⟨f, xs, h1, _⟩ := h; exact h1.tab
/-- What holds at a round's head: the ring has what of the list I is not out yet; u is I's row. -/
structure IR (w wr : World) (rm k n out : Nat) (v u : Value) (I : List Int) : Prop where
  rv : RV w wr (w.heap.size + 1) w.heap.size rm v (I.drop out)
  row : wr.ownsRow w.heap.size 3 1 u n (I.map (Value.int .i64))
  apart : ∀ g, u.ownBlock = some g → NotR w.heap.size v g
  le : n ≤ k
  out : out ≤ n
theorem IR.len {w wr : World} {rm k n out : Nat} {v u : Value} {I : List Int} (h : IR w wr rm k n out v u I) : I.length = n := by have := h.row.1; simpa using this
/-- Behind a call that changes the ring. -/
theorem IR.post {w wr w2 : World} {rm k n out out2 k2 : Nat} {v v2 u : Value} {I : List Int} {L : List Int} (h : IR w wr rm k n out v u I) (hv : RV w w2 (w.heap.size + 1) w.heap.size rm v2 L) (hk : Keeps wr w.heap.size v w2 v2) (hL : L = I.drop out2) (h2 : n ≤ k2) (h3 : out2 ≤ n) : IR w w2 rm k2 n out2 v2 u I := by
  subst hL
  exact ⟨hv, own_keep h.row hk.1 (fun g e s => by rcases s with s | s; exact (h.apart g e).1 s; exact (h.apart g e).2 s), fun g e => hk.2 g (h.row.lt g e).2 (h.apart g e), h2, h3⟩
/-- One more is taken down in I. -/
theorem IR.app {w wr w2 w4 : World} {rm k n m out : Nat} {v v2 u u4 : Value} {I : List Int} {x : Int} {ob : Obj} (h : IR w wr rm k n out v u I) (hv : RV w w2 (w.heap.size + 1) w.heap.size rm v2 (I.drop out ++ [x])) (hk : Keeps wr w.heap.size v w2 v2)
    (hown : w4.ownsRow w.heap.size 3 1 u4 m (I.map (Value.int .i64) ++ [.int .i64 x])) (hg : (w2.alloc ob).grownBy w4 u.ownBlock) (hn4 : ∀ g, u4.ownBlock = some g → u.ownBlock = some g ∨ (w2.alloc ob).heap.size ≤ g) (hm : m = n + 1) : IR w w4 rm (k + 1) m out v2 u4 (I ++ [x]) := by
  have hrow2 := own_keep h.row hk.1 (fun g e s => by rcases s with s | s; exact (h.apart g e).1 s; exact (h.apart g e).2 s)
  have hap2 : ∀ g, u.ownBlock = some g → NotR w.heap.size v2 g := fun g e => hk.2 g (h.row.lt g e).2 (h.apart g e)
  have hl := h.len
  have hout := h.out
  have hle := h.le
  have ho : Only (fun b => u.ownBlock = some b) (w2.alloc ob) w4 := (Only.refl _ _).grown hg (fun k e => .inl e)
  have hva := hv.below (up_alloc w2 ob)
  subst hm
  refine ⟨?_, ?_, fun g e => ?_, by omega, by omega⟩
  · rw [List.drop_append_of_le_length (by omega)]
    refine hva.only ho (fun e => ?_) (fun e => (hap2 _ e).1 rfl) (fun g e e2 => (hap2 g e2).2 e) (fun k e => (hrow2.lt k e).1)
    obtain ⟨_, ds, hd⟩ := own_blk hrow2 _ e
    exact (hv.tab.ne hd (by decide)) rfl
  · rw [map_snoc] at hown
    exact hown
  · rcases hn4 g e with e | e
    · exact hap2 g e
    · exact hv.new (by simp at e; omega)

theorem k_len {w0 w : World} {t S rm : Nat} {v : Value} {L : List Int} {m : Int} (h : RV w0 w t S rm v L) (hm : (L.length : Int) = m) :
    Calls Try.prog 18 #[.pointer (some ⟨t, 0, none⟩)] w fun e w' => e = .returned (.int .i64 m) ∧ w = w' := by
  subst hm
  exact rv_len h

set_option maxHeartbeats 1000000 in
theorem l_order_many (room : Int) (hr0 : 0 ≤ room) (hr1 : room ≤ 255) (A B : Option Addr) (n cp m cq : Nat) (w : World) (hn : 200 < n ∨ 200 < m) :
    Calls Try.prog 4 #[.int .u8 room, .slice A n cp, .slice B m cq] w (Alive w) := by
  obtain ⟨rm, hrm⟩ : ∃ rm : Nat, (rm : Int) = 1 + room % 16 := ⟨(1 + room % 16).toNat, by omega⟩
  have C1 := Lib.hid (rv_new rm w (by omega))
  rw [hrm] at C1
  clear hrm
  by_cases h1 : 200 < n
  · clear hn
    go_enter Try.func4, Try.ntmps4
    go_wp2_with fail
    refine Calls.mono C1.out ?_
    rintro e w1 ⟨rfl, hv1⟩
    have C2 := Lib.hid (c_alive w1)
    have HU := Lib.hid hv1.up
    clear hv1
    go_wp2_with fail
    refine Calls.mono C2.out ?_
    rintro e w2 ⟨rfl, hb2⟩
    have HU2 := Lib.hid (up_trans HU.out hb2)
    clear hb2
    go_wp2_with fail
    go_ret
    exact ⟨rfl, HU2.out⟩
  · have h2 : 200 < m := by omega
    clear hn
    go_enter Try.func4, Try.ntmps4
    go_wp2_with fail
    refine Calls.mono C1.out ?_
    rintro e w1 ⟨rfl, hv1⟩
    have C2 := Lib.hid (c_alive w1)
    have HU := Lib.hid hv1.up
    clear hv1
    go_wp2_with fail
    refine Calls.mono C2.out ?_
    rintro e w2 ⟨rfl, hb2⟩
    have HU2 := Lib.hid (up_trans HU.out hb2)
    clear hb2
    go_wp2_with fail
    go_ret
    exact ⟨rfl, HU2.out⟩
theorem u8_cell {w : World} {pl : Nat → Prop} {b o n : Nat} {zs : List Int} (h : RD w pl 1 (some ⟨b, o, none⟩) n (zs.map (Value.int .u8))) {k : Nat} (hk : k < zs.length) (hn : 0 < n) : w.cell? ⟨b, o + k, none⟩ = some (.int .u8 (zs.getD k 0)) := by
  obtain ⟨b', o', e, _, _, h3⟩ := h.at_ hn
  cases e
  refine h3 k _ ?_
  simp [List.getD, hk]
theorem getD_mem {zs : List Int} {k : Nat} (hk : k < zs.length) : zs.getD k 0 ∈ zs := by
  have : zs.getD k 0 = zs[k] := by simp [List.getD, hk]
  rw [this]
  exact List.getElem_mem hk
end Go.Proofs.Ytaokojjjihinhaa

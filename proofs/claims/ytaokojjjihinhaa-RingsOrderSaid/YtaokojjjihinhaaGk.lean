/- A ring behind a first world; what its calls leave. -/
import Derived.Test.YtaokojjjihinhaaGi
import Derived.Test.YtaokojjjihinhaaGj
namespace Go.Proofs.Ytaokojjjihinhaa
open Go.RowKit

/-- What is not of the ring: neither its store nor its row. -/
def NotR (S : Nat) (v : Value) (b : Nat) : Prop := b ≠ S ∧ v.ownBlock ≠ some b
/-- Cells in blocks that are not of the ring, or of none of its types, stay, and are not of the ring then either. -/
def Keeps (w : World) (S : Nat) (v : Value) (w' : World) (v' : Value) : Prop :=
  Only (PS S v) w w' ∧ ∀ b, b < w.heap.size → NotR S v b → NotR S v' b
theorem Keeps.refl (w : World) (S : Nat) (v : Value) : Keeps w S v w v := ⟨Only.refl _ _, fun _ _ h => h⟩
theorem Keeps.of_below {w w' : World} {S : Nat} {v : Value} (h : Below w.heap.size w w') : Keeps w S v w' v := ⟨Only.of_below h, fun _ _ h => h⟩
theorem Keeps.blk {w w' : World} {S b : Nat} {v v' : Value} {cs : List Value} {t : TypeId} (k : Keeps w S v w' v') (h : Blk w b cs t) (hn : NotR S v b) : Blk w' b cs t ∧ NotR S v' b :=
  ⟨h.only k.1 (fun e => by rcases e with e | e; exact hn.1 e; exact hn.2 e), k.2 b h.lt hn⟩
theorem Keeps.rd {w w' : World} {S n : Nat} {v v' : Value} {A : Option Addr} {xs : List Value} (k : Keeps w S v w' v') (h : RD w (NotR S v) 1 A n xs) : RD w' (NotR S v') 1 A n xs := by
  have h1 := h.lt
  have h2 : RD w' (fun b => NotR S v b ∧ b < w.heap.size) 1 A n xs := h1.only k.1 (fun b e hb => by
    rcases e with e | e
    · exact hb.1.1 e
    · exact hb.1.2 e)
  exact h2.lo fun b hb => k.2 b hb.2 hb.1
theorem Keeps.di {w w' : World} {S : Nat} {v v' u : Value} {L : List Int} (k : Keeps w S v w' v') (h : DI w (NotR S v) u L) : DI w' (NotR S v') u L := by
  obtain ⟨A, c, rfl, h1, h2, h3⟩ := h
  exact ⟨A, c, rfl, h1, h2, k.rd h3⟩
/-- Blocks of a type that is none of the ring's row or store. -/
theorem RW.not {w : World} {t S lo rm f b : Nat} {v : Value} {L xs : List Int} {cs : List Value} {ty : TypeId} (h : RW w t S lo rm f v L xs) (hb : Blk w b cs ty) (h1 : ty ≠ 57) (h2 : ty ≠ 3) : NotR S v b :=
  ⟨fun e => hb.ne h.box h1 e, fun e => by
    obtain ⟨_, ds, hd⟩ := own_blk h.row b e
    exact hb.ne hd h2 rfl⟩
theorem RW.new {w : World} {t S lo rm f b : Nat} {v : Value} {L xs : List Int} (h : RW w t S lo rm f v L xs) (hb : w.heap.size ≤ b) : NotR S v b :=
  ⟨fun e => by have := h.box.lt; omega, fun e => by have := (h.row.lt b e).2; omega⟩

/-- The ring at t, S, which was made behind w0, holds L; its row's slice is v. -/
def RV (w0 w : World) (t S rm : Nat) (v : Value) (L : List Int) : Prop :=
  ∃ f xs, RW w t S w0.heap.size rm f v L xs ∧ Below w0.heap.size w0 w ∧ w0.heap.size ≤ S ∧ w0.heap.size ≤ t
theorem RV.below {w0 w w' : World} {t S rm : Nat} {v : Value} {L : List Int} (h : RV w0 w t S rm v L) (hb : Below w.heap.size w w') : RV w0 w' t S rm v L := by
  obtain ⟨f, xs, h1, h2, h3⟩ := h
  exact ⟨f, xs, h1.below hb, up_trans h2 hb, h3⟩
theorem RV.up {w0 w : World} {t S rm : Nat} {v : Value} {L : List Int} (h : RV w0 w t S rm v L) : Below w0.heap.size w0 w := by obtain ⟨f, xs, h1, h2, h3⟩ := h; exact h2
theorem RV.le {w0 w : World} {t S rm : Nat} {v : Value} {L : List Int} (h : RV w0 w t S rm v L) : L.length ≤ rm ∧ rm ≤ 1024 := by obtain ⟨f, xs, h1, h2, h3⟩ := h; exact ⟨h1.rs.le, h1.rm⟩
theorem RV.not {w0 w : World} {t S rm b : Nat} {v : Value} {L : List Int} {cs : List Value} {ty : TypeId} (h : RV w0 w t S rm v L) (hb : Blk w b cs ty) (h1 : ty ≠ 57) (h2 : ty ≠ 3) : NotR S v b := by
  obtain ⟨f, xs, h3, _⟩ := h
  exact h3.not hb h1 h2
theorem RV.new {w0 w : World} {t S rm b : Nat} {v : Value} {L : List Int} (h : RV w0 w t S rm v L) (hb : w.heap.size ≤ b) : NotR S v b := by
  obtain ⟨f, xs, h3, _⟩ := h
  exact h3.new hb
/-- What a change of the ring leaves. -/
def PostR (w0 w : World) (t S rm : Nat) (v : Value) (L : List Int) (r : Value) (e : Ending) (w' : World) : Prop :=
  ∃ v', e = .returned r ∧ RV w0 w' t S rm v' L ∧ Keeps w S v w' v' ∧ w.heap.size ≤ w'.heap.size
theorem RV.post {w0 w w' : World} {t S rm f : Nat} {v : Value} {L L' xs : List Int} {r : Value} {e : Ending} (h : RW w t S w0.heap.size rm f v L xs) (h3 : Below w0.heap.size w0 w) (h4 : w0.heap.size ≤ S) (h5 : w0.heap.size ≤ t)
    (d : RPost w t S w0.heap.size rm v L' r e w') : PostR w0 w t S rm v L' r e w' := by
  obtain ⟨f', v', xs', rfl, d1, d2, d3⟩ := d
  refine ⟨v', rfl, ⟨f', xs', d1, h3.trans (d2.toBelow h3.size fun k hk => ?_), h4, h5⟩, ⟨d2, fun b hb hn => ⟨hn.1, fun e => ?_⟩⟩, d2.size⟩
  · rcases hk with rfl | hk
    · exact h4
    · exact (h.row.lt k hk).1
  · rcases d3 b e with k | k
    · exact hn.2 k
    · omega
theorem RV.still {w0 w w' : World} {t S rm : Nat} {v : Value} {L : List Int} {r : Value} (h : RV w0 w t S rm v L) (hb : Below w.heap.size w w') : PostR w0 w t S rm v L r (.returned r) w' := ⟨v, rfl, h.below hb, Keeps.of_below hb, hb.size⟩

theorem rv_new (r : Nat) (w : World) (hr : r ≤ 1024) : Calls Try.prog 7 #[.int .i64 r] w fun e w' => e = .returned (.tuple #[.pointer (some ⟨w.heap.size + 1, 0, none⟩), .int .i64 0]) ∧ RV w w' (w.heap.size + 1) w.heap.size r (.slice none 0 0) [] :=
  (c_new r w hr).mono fun _ _ ⟨a, b, c⟩ => ⟨a, 0, [], b, c, Nat.le_refl _, by omega⟩
theorem rv_push {w0 w : World} {t S rm : Nat} {v : Value} {L : List Int} (h : RV w0 w t S rm v L) (x : Int) (hl : L.length < rm) :
    Calls Try.prog 12 #[.pointer (some ⟨t, 0, none⟩), .int .i64 x] w (PostR w0 w t S rm v (L ++ [x]) (.int .i64 0)) := by
  obtain ⟨f, xs, h1, h2, h3, h4⟩ := h
  exact (c_push h1 x hl h2.size).mono fun _ _ d => RV.post h1 h2 h3 h4 d
theorem rv_full {w0 w : World} {t S rm : Nat} {v : Value} {L : List Int} (h : RV w0 w t S rm v L) (x : Int) (hl : L.length = rm) :
    Calls Try.prog 12 #[.pointer (some ⟨t, 0, none⟩), .int .i64 x] w (PostR w0 w t S rm v L (.int .i64 10)) := by
  have h0 := h
  obtain ⟨f, xs, h1, h2, h3, h4⟩ := h
  exact (c_push_full h1 x hl).mono fun _ _ ⟨e, d⟩ => by subst e; exact h0.still d.below
theorem rv_pop {w0 w : World} {t S rm : Nat} {v : Value} {x : Int} {L : List Int} (h : RV w0 w t S rm v (x :: L)) :
    Calls Try.prog 10 #[.pointer (some ⟨t, 0, none⟩)] w (PostR w0 w t S rm v L (.tuple #[.int .i64 x, .int .i64 0])) := by
  obtain ⟨f, xs, h1, h2, h3, h4⟩ := h
  exact (c_pop h1).mono fun _ _ d => RV.post h1 h2 h3 h4 d
theorem rv_none {w0 w : World} {t S rm : Nat} {v : Value} (h : RV w0 w t S rm v []) :
    Calls Try.prog 10 #[.pointer (some ⟨t, 0, none⟩)] w (PostR w0 w t S rm v [] (.tuple #[.int .i64 0, .int .i64 11])) := by
  have h0 := h
  obtain ⟨f, xs, h1, h2, h3, h4⟩ := h
  exact (c_pop_none h1).mono fun _ _ ⟨e, d⟩ => by subst e; subst d; exact h0.still (Below.refl _ _)
theorem rv_clear {w0 w : World} {t S rm : Nat} {v : Value} {L : List Int} (h : RV w0 w t S rm v L) :
    Calls Try.prog 9 #[.pointer (some ⟨t, 0, none⟩)] w (PostR w0 w t S rm v [] (.tuple #[])) := by
  obtain ⟨f, xs, h1, h2, h3, h4⟩ := h
  exact (c_clear h1).mono fun _ _ d => RV.post h1 h2 h3 h4 d
theorem rv_len {w0 w : World} {t S rm : Nat} {v : Value} {L : List Int} (h : RV w0 w t S rm v L) :
    Calls Try.prog 18 #[.pointer (some ⟨t, 0, none⟩)] w fun e w' => e = .returned (.int .i64 L.length) ∧ w = w' := by
  obtain ⟨f, xs, h1, _⟩ := h
  exact c_len h1
theorem rv_room {w0 w : World} {t S rm : Nat} {v : Value} {L : List Int} (h : RV w0 w t S rm v L) :
    Calls Try.prog 19 #[.pointer (some ⟨t, 0, none⟩)] w fun e w' => e = .returned (.int .i64 rm) ∧ w = w' := by
  obtain ⟨f, xs, h1, _⟩ := h
  exact c_room h1
theorem rv_list {w0 w : World} {t S rm : Nat} {v : Value} {L : List Int} (h : RV w0 w t S rm v L) :
    Calls Try.prog 17 #[.pointer (some ⟨t, 0, none⟩)] w (IntsPost w L) := by
  obtain ⟨f, xs, h1, _⟩ := h
  exact c_list h1
/-- The i-th one, or 0. -/
def atL (L : List Int) (i : Int) : Int × Int := if i < 0 ∨ (L.length : Int) ≤ i then (0, 8) else (L.getD i.toNat 0, 0)
theorem rv_at {w0 w : World} {t S rm : Nat} {v : Value} {L : List Int} (h : RV w0 w t S rm v L) (i : Int) :
    Calls Try.prog 14 #[.pointer (some ⟨t, 0, none⟩), .int .i64 i] w fun e w' => e = .returned (.tuple #[.int .i64 (atL L i).1, .int .i64 (atL L i).2]) ∧ Below w.heap.size w w' := by
  obtain ⟨f, xs, h1, _⟩ := h
  unfold atL
  split
  · next hi => exact (c_at_bad h1 i hi).mono fun _ _ ⟨e, d⟩ => ⟨e, d ▸ Below.refl _ _⟩
  · next hi =>
    obtain ⟨k, rfl⟩ : ∃ k : Nat, i = k := ⟨i.toNat, by omega⟩
    have hk : k < L.length := by omega
    have := c_at h1 k L[k] (List.getElem?_eq_getElem hk)
    refine this.mono fun e w' ⟨he, d⟩ => ⟨?_, d.below⟩
    rw [he, Int.toNat_natCast, List.getD_eq_getElem?_getD, List.getElem?_eq_getElem hk]
    rfl
theorem d_at {w : World} {pl : Nat → Prop} {A : Option Addr} {n c : Nat} {room : Int} {L : List Int} (h : RD w pl 1 A n (L.map (Value.int .i64))) (hl : n ≤ 1024) (i : Int) :
    Calls Try.prog 15 #[.agg #[.int .i64 room, .slice A n c], .int .i64 i] w fun e w' => e = .returned (.tuple #[.int .i64 (atL L i).1, .int .i64 (atL L i).2]) ∧ Below w.heap.size w w' := by
  have hn : L.length = n := by have := h.1; simpa using this
  unfold atL
  split
  · next hi => exact c_dat_bad w room i A n c (by omega)
  · next hi =>
    obtain ⟨k, rfl⟩ : ∃ k : Nat, i = k := ⟨i.toNat, by omega⟩
    have hk : k < L.length := by omega
    have := c_dat (room := room) (c := c) h hl k (List.getElem?_eq_getElem hk)
    refine this.mono fun e w' ⟨he, d⟩ => ⟨?_, d⟩
    rw [he, Int.toNat_natCast, List.getD_eq_getElem?_getD, List.getElem?_eq_getElem hk]
    rfl
end Go.Proofs.Ytaokojjjihinhaa

/- Words for the law on whoever comes and goes: its table and its two lists of numbers in memory. -/
import Derived.Test.YtflpjpdgacjlcaaPsm
import Derived.Test.YtflpjpdgacjlcaaPrk
import Derived.Test.YtflpjpdgacjlcaaPrm
import Derived.Test.YtflpjpdgacjlcaaO1
namespace Go.Proofs.Ytflpjpdgacjlcaa
open Go.RowKit

theorem own_low {w : World} {lo lo' size n : Nat} {e : TypeId} {v : Value} {xs : List Value} (h : w.ownsRow lo' e size v n xs) (hl : lo ≤ lo') : w.ownsRow lo e size v n xs := by
  refine ⟨h.1, ?_⟩
  rcases h.2 with h2 | ⟨g, cap, cur, h2, hg, r⟩
  · exact .inl h2
  · exact .inr ⟨g, cap, cur, h2, Nat.le_trans hl hg, r⟩
/-- Where the table may lie. -/
def plO (v4 v5 : Value) : Nat → Prop := fun b => nOwn v4 b ∧ nOwn v5 b
structure OM (w wr : World) (v3 v4 v5 : Value) (L : List PR) (G O : List Int) : Prop where
  t : ∃ A c, v3 = .slice A 16 c ∧ TW prK wr (plO v4 v5) A 16 L
  g : wr.ownsRow w.heap.size 3 1 v4 G.length (G.map (Value.int .i64))
  o : wr.ownsRow w.heap.size 3 1 v5 O.length (O.map (Value.int .i64))
  ne : ∀ b, v4.ownBlock = some b → v5.ownBlock ≠ some b
  up : Below w.heap.size w wr
section
variable {w wr w' : World} {v3 v4 v5 v' : Value} {L L' : List PR} {G O : List Int}
theorem OM.below (h : OM w wr v3 v4 v5 L G O) (hb : Below wr.heap.size wr w') : OM w w' v3 v4 v5 L G O := by
  obtain ⟨A, c, e, t⟩ := h.t
  exact ⟨⟨A, c, e, t.below hb⟩, own_below h.g hb, own_below h.o hb, h.ne, up_trans h.up hb⟩
theorem OM.tab (h : OM w wr v3 v4 v5 L G O) {A : Option Addr} {c : Nat} (t : TW prK w' (plP (plO v4 v5) wr) A 16 L') (hb : Below wr.heap.size wr w') : OM w w' (.slice A 16 c) v4 v5 L' G O := by
  have k := h.below hb
  refine ⟨⟨A, c, rfl, t.lo fun b hb' => ?_⟩, k.g, k.o, h.ne, k.up⟩
  rcases hb' with hb' | hb'
  · exact hb'
  · exact ⟨fun e => by have := (h.g.lt b e).2; omega, fun e => by have := (h.o.lt b e).2; omega⟩
theorem OM.appG (h : OM w wr v3 v4 v5 L G O) {x : Int} (own : w'.ownsRow w.heap.size 3 1 v' (G.length + 1) (G.map (Value.int .i64) ++ [.int .i64 x])) (hg : wr.grownBy w' v4.ownBlock) (hn : ∀ b, v'.ownBlock = some b → v4.ownBlock = some b ∨ wr.heap.size ≤ b) : OM w w' v3 v' v5 L (G ++ [x]) O := by
  have ho : Only (isOwn v4) wr w' := (Only.refl (isOwn v4) wr).grown hg (fun k e => .inl e)
  obtain ⟨A, c, e, t⟩ := h.t
  refine ⟨⟨A, c, e, (t.lt.only ho fun k h1 h2 => h2.1.1 h1).lo fun b hb => ⟨fun e => ?_, hb.1.2⟩⟩, by rw [List.length_append, List.map_append]; exact own, own_keep h.o ho fun g e h1 => h.ne g h1 e, fun b e => ?_, h.up.grown hg h.up.size (fun k e => (h.g.lt k e).1)⟩
  · rcases hn b e with h1 | h1
    · exact hb.1.1 h1
    · have := hb.2
      omega
  · rcases hn b e with h1 | h1
    · exact h.ne b h1
    · intro e2
      have := (h.o.lt b e2).2
      omega
theorem OM.appO (h : OM w wr v3 v4 v5 L G O) {x : Int} (own : w'.ownsRow w.heap.size 3 1 v' (O.length + 1) (O.map (Value.int .i64) ++ [.int .i64 x])) (hg : wr.grownBy w' v5.ownBlock) (hn : ∀ b, v'.ownBlock = some b → v5.ownBlock = some b ∨ wr.heap.size ≤ b) : OM w w' v3 v4 v' L G (O ++ [x]) := by
  have ho : Only (isOwn v5) wr w' := (Only.refl (isOwn v5) wr).grown hg (fun k e => .inl e)
  obtain ⟨A, c, e, t⟩ := h.t
  refine ⟨⟨A, c, e, (t.lt.only ho fun k h1 h2 => h2.1.2 h1).lo fun b hb => ⟨hb.1.1, fun e => ?_⟩⟩, own_keep h.g ho fun g e h1 => h.ne g e h1, by rw [List.length_append, List.map_append]; exact own, fun b e e2 => ?_, h.up.grown hg h.up.size (fun k e => (h.o.lt k e).1)⟩
  · rcases hn b e with h1 | h1
    · exact hb.1.2 h1
    · have := hb.2
      omega
  · rcases hn b e2 with h1 | h1
    · exact h.ne b e h1
    · have := (h.g.lt b e).2
      omega
theorem OM.newO (h : OM w wr v3 v4 v5 L G O) {O' : List Int} (hb : Below wr.heap.size wr w') (own : w'.ownsRow wr.heap.size 3 1 v' O'.length (O'.map (Value.int .i64))) : OM w w' v3 v4 v' L G O' := by
  have k := h.below hb
  obtain ⟨A, c, e, t⟩ := h.t
  refine ⟨⟨A, c, e, (t.lt.below hb).lo fun b hb' => ⟨hb'.1.1, fun e => ?_⟩⟩, k.g, own_low own h.up.size, fun b e e2 => ?_, k.up⟩
  · have := (own.lt b e).1
    have := hb'.2
    omega
  · have := (own.lt b e2).1
    have := (h.g.lt b e).2
    omega
theorem OM.start {A : Option Addr} {c : Nat} (t : TW prK w' tt A 16 L) (hb : Below w.heap.size w w') : OM w w' (.slice A 16 c) (.slice none 0 0) (.slice none 0 0) L [] [] :=
  ⟨⟨A, c, rfl, t.lo fun _ _ => ⟨fun e => by simp [Value.ownBlock] at e, fun e => by simp [Value.ownBlock] at e⟩⟩, World.ownsRow_nil _ _ _ _, World.ownsRow_nil _ _ _ _, fun b e => by simp [Value.ownBlock] at e, hb⟩
end
/-- A pair of the argument's bytes. -/
theorem pair_at {w : World} {A : Option Addr} {n : Nat} {M : List (List Int)} (hl : M.length = n) (hok : ∀ r ∈ M, RowOk (List.replicate 2 .u8) r) (hR : RD w (fun _ => True) 2 A n (M.flatMap (rowV (List.replicate 2 .u8)))) (k : Nat) (hk : k < n) :
    ∃ b o x y, A = some ⟨b, o, none⟩ ∧ b < w.heap.size ∧ (0 ≤ x ∧ x ≤ 255) ∧ (0 ≤ y ∧ y ≤ 255) ∧ w.cell? ⟨b, o + k * 2, none⟩ = some (.int .u8 x) ∧ w.cell? ⟨b, o + k * 2 + 1, none⟩ = some (.int .u8 y) := by
  obtain ⟨b, o, rfl, _, hb, hc⟩ := hR.at_ (by omega)
  have hr := List.getElem?_eq_getElem (show k < M.length by omega)
  have hok' := hok _ (List.getElem_mem (show k < M.length by omega))
  generalize M[k] = r at hr hok'
  obtain ⟨x, y, rfl⟩ := list_of_2 hok'.1
  have hlen : ∀ a ∈ M, (rowV (List.replicate 2 .u8) a).length = 2 := fun a ha => rowV_len _ _ (hok a ha).1
  refine ⟨b, o, x, y, rfl, hb, bounds_u8 (hok'.2 0 .u8 x rfl rfl), bounds_u8 (hok'.2 1 .u8 y rfl rfl), ?_, ?_⟩
  · have := hc (k * 2 + 0) (.int .u8 x) (by rw [flat_get_of _ 2 M hlen k 0 _ hr (by omega)]; rfl)
    exact this
  · have := hc (k * 2 + 1) (.int .u8 y) (by rw [flat_get_of _ 2 M hlen k 1 _ hr (by omega)]; rfl)
    rw [← Nat.add_assoc] at this
    exact this
/-- One number of a row of the call's own. -/
theorem int_at {w : World} {lo n : Nat} {v : Value} {zs : List Int} (h : w.ownsRow lo 3 1 v n (zs.map (Value.int .i64))) (k : Nat) (z : Int) (hz : zs[k]? = some z) : ∃ g c, v = .slice (some ⟨g, 0, none⟩) n c ∧ w.cell? ⟨g, k, none⟩ = some (.int .i64 z) := by
  have hk := (List.getElem?_eq_some_iff.1 hz).1
  have hlen := h.1
  rw [List.length_map] at hlen
  rcases h.2 with ⟨_, h2⟩ | ⟨g, cap, cur, rfl, _⟩
  · omega
  · exact ⟨g, cap, rfl, by rw [h.cellAt k (by omega), List.getElem?_map, hz]; rfl⟩
end Go.Proofs.Ytflpjpdgacjlcaa

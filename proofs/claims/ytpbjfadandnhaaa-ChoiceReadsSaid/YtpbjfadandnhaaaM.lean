/- Words for memory: which blocks may have turned; a slice that reads as a list; what was appended reads so. -/
import Derived.Test.YtpbjfadandnhaaaK
import Derived.Below
import Derived.Laws.OwnMore
import Derived.Deep.AppendLies
import Derived.Deep.Draws
import Derived.OwnWalk
namespace Go.Proofs.Ytpbjfadandnhaaa
open Go.RowKit

/-- w' is w, but for the blocks of s, and new ones. -/
structure Only (s : Nat → Prop) (w w' : World) : Prop where
  os : w'.os = w.os
  tape : w'.tape = w.tape
  output : w'.output = w.output
  size : w.heap.size ≤ w'.heap.size
  block : ∀ k, k < w.heap.size → ¬ s k → w'.heap[k]? = w.heap[k]?
theorem Only.refl (s : Nat → Prop) (w : World) : Only s w w := ⟨rfl, rfl, rfl, Nat.le_refl _, fun _ _ _ => rfl⟩
theorem Only.trans {s : Nat → Prop} {a b c : World} (h : Only s a b) (k : Only s b c) : Only s a c :=
  ⟨k.os.trans h.os, k.tape.trans h.tape, k.output.trans h.output, Nat.le_trans h.size k.size, fun i hi hs => (k.block i (Nat.lt_of_lt_of_le hi h.size) hs).trans (h.block i hi hs)⟩
theorem Only.mono {s s' : Nat → Prop} {a b : World} (h : Only s a b) (hs : ∀ k, k < a.heap.size → s k → s' k) : Only s' a b := ⟨h.os, h.tape, h.output, h.size, fun i hi hn => h.block i hi fun k => hn (hs i hi k)⟩
theorem Only.below_trans {s : Nat → Prop} {a b c : World} (h : Only s a b) (k : Below b.heap.size b c) : Only s a c :=
  ⟨k.os.trans h.os, k.tape.trans h.tape, k.output.trans h.output, Nat.le_trans h.size k.size, fun i hi hs => (k.block i (Nat.lt_of_lt_of_le hi h.size)).trans (h.block i hi hs)⟩
theorem Only.of_below {s : Nat → Prop} {a b : World} (k : Below a.heap.size a b) : Only s a b := ⟨k.os, k.tape, k.output, k.size, fun i hi _ => k.block i hi⟩
theorem Only.drewN {s : Nat → Prop} {a b : World} (h : Only s a b) (n : Nat) : Only s a (b.drewN n) := ⟨h.os, h.tape, h.output, h.size, h.block⟩
theorem Only.alloc {s : Nat → Prop} {a b : World} (h : Only s a b) (o : Obj) : Only s a (b.alloc o) := h.below_trans ((Below.refl _ _).alloc (Nat.le_refl _) o)
theorem Only.setCell {s : Nat → Prop} {a b : World} (h : Only s a b) {p : Addr} (hp : s p.block ∨ a.heap.size ≤ p.block) (u : Value) : Only s a (b.setCell p u) :=
  ⟨h.os, h.tape, h.output, by simpa [World.setCell] using h.size, fun i hi hs => (Below.heap_setCell b p u i (by
    rintro rfl
    rcases hp with hp | hp
    · exact hs hp
    · omega)).trans (h.block i hi hs)⟩
theorem Only.put {b : Nat} {a c : World} (h : Only (· = b) a c) (j : Nat) (u : Value) : Only (· = b) a (c.setCell ⟨b, j, none⟩ u) := h.setCell (.inl rfl) u
theorem Only.grown {s : Nat → Prop} {a b c : World} {row : Option Nat} (h : Only s a b) (hg : b.grownBy c row) (hr : ∀ k, row = some k → s k ∨ a.heap.size ≤ k) : Only s a c :=
  ⟨hg.os.trans h.os, hg.tape.trans h.tape, hg.output.trans h.output, Nat.le_trans h.size hg.size, fun i hi hs => (hg.block i (Nat.lt_of_lt_of_le hi h.size) (fun e => by
    rcases hr i e.symm with hp | hp
    · exact hs hp
    · omega)).trans (h.block i hi hs)⟩
theorem Only.toBelow {s : Nat → Prop} {a b : World} {B : Nat} (h : Only s a b) (hB : B ≤ a.heap.size) (hs : ∀ k, s k → B ≤ k) : Below B a b :=
  ⟨h.os, h.tape, h.output, h.size, fun i hi => h.block i (by omega) fun k => by have := hs i k; omega⟩
/-- What turned alone blocks that are newer than a, seen from a. -/
theorem Only.later {s : Nat → Prop} {a b c : World} (h : Below a.heap.size a b) (k : Only s b c) (hs : ∀ i, s i → a.heap.size ≤ i) : Below a.heap.size a c :=
  h.trans (k.toBelow h.size hs)

theorem Blk.only {s : Nat → Prop} {w w' : World} {b : Nat} {cs : List Value} {t : TypeId} (h : Blk w b cs t) (o : Only s w w') (hs : ¬ s b) : Blk w' b cs t := (o.block b h.lt hs).trans h
theorem Blk.ne {w : World} {b c : Nat} {cs ds : List Value} {t u : TypeId} (h : Blk w b cs t) (k : Blk w c ds u) (hne : t ≠ u) : b ≠ c := by
  rintro rfl
  unfold Blk at h k
  rw [h] at k
  injection k with k
  injection k with _ ht
  exact hne ht
theorem Blk.grown {w w' : World} {b : Nat} {cs : List Value} {t : TypeId} {row : Option Nat} (h : Blk w b cs t) (hg : w.grownBy w' row) (hne : some b ≠ row) : Blk w' b cs t := (hg.block b h.lt hne).trans h
theorem Blk.cell' {w : World} {b : Nat} {cs : List Value} {t : TypeId} (h : Blk w b cs t) (j : Nat) : w.cell? ⟨b, j, none⟩ = cs[j]? := by
  unfold Blk at h
  simp [World.cell?, h]

/-- The slice's first n elements, of size cells each, are xs; they lie in a block of pl. -/
def RD (w : World) (pl : Nat → Prop) (size : Nat) (A : Option Addr) (n : Nat) (xs : List Value) : Prop :=
  xs.length = n * size ∧ (0 < n → ∃ b o, A = some ⟨b, o, none⟩ ∧ pl b ∧ b < w.heap.size ∧ ∀ j u, xs[j]? = some u → w.cell? ⟨b, o + j, none⟩ = some u)
theorem RD.len {w : World} {pl : Nat → Prop} {size n : Nat} {A : Option Addr} {xs : List Value} (h : RD w pl size A n xs) : xs.length = n * size := h.1
theorem RD.nil (w : World) (pl : Nat → Prop) (size : Nat) (A : Option Addr) : RD w pl size A 0 [] := ⟨by simp, fun h => absurd h (by omega)⟩
theorem RD.at_ {w : World} {pl : Nat → Prop} {size n : Nat} {A : Option Addr} {xs : List Value} (h : RD w pl size A n xs) (hn : 0 < n) :
    ∃ b o, A = some ⟨b, o, none⟩ ∧ pl b ∧ b < w.heap.size ∧ ∀ j u, xs[j]? = some u → w.cell? ⟨b, o + j, none⟩ = some u := h.2 hn
theorem RD.only {s : Nat → Prop} {w w' : World} {pl : Nat → Prop} {size n : Nat} {A : Option Addr} {xs : List Value} (h : RD w pl size A n xs) (o : Only s w w') (hs : ∀ k, s k → ¬ pl k) : RD w' pl size A n xs :=
  ⟨h.1, fun hn => by
    obtain ⟨b, of, e, h1, h2, h3⟩ := h.2 hn
    have hb := o.block b h2 fun k => hs b k h1
    exact ⟨b, of, e, h1, Nat.lt_of_lt_of_le h2 o.size, fun j u hu => (World.cell?_of_block (a := ⟨b, of + j, none⟩) hb).trans (h3 j u hu)⟩⟩
theorem RD.below {w w' : World} {pl : Nat → Prop} {size n : Nat} {A : Option Addr} {xs : List Value} (h : RD w pl size A n xs) (o : Below w.heap.size w w') : RD w' pl size A n xs := h.only (s := fun _ => False) (Only.of_below o) fun _ k => k.elim
theorem RD.of_blk {w : World} {pl : Nat → Prop} {size n b : Nat} {xs : List Value} {t : TypeId} (h : Blk w b xs t) (hl : xs.length = n * size) (hb : pl b) : RD w pl size (some ⟨b, 0, none⟩) n xs :=
  ⟨hl, fun _ => ⟨b, 0, rfl, hb, h.lt, fun j u hu => by rw [h.cell', Nat.zero_add]; exact hu⟩⟩
theorem RD.of_own {w : World} {lo size n c : Nat} {A : Option Addr} {e : TypeId} {xs : List Value} (h : w.ownsRow lo e size (.slice A n c) n xs) : RD w (lo ≤ ·) size A n xs := by
  refine ⟨h.1, fun hn => ?_⟩
  obtain ⟨g, cap, hv, _, hlt⟩ := h.form hn
  have hA : A = some ⟨g, 0, none⟩ := by injection hv
  subst hA
  refine ⟨g, 0, rfl, (h.lt g rfl).1, hlt, fun j u hu => ?_⟩
  have := h.cells (g := g) rfl j u hu
  rw [Nat.zero_add]
  have e : (⟨g, 0, none⟩ : Addr).add j = ⟨g, j, none⟩ := by
    unfold Addr.add
    split
    · next h0 => subst h0; rfl
    · simp
  rwa [e] at this
/-- A new slice of one element, which append is given. -/
theorem RD.one {w : World} {v : Value} {t : TypeId} {n : Nat} (hn : n = w.heap.size) : RD (w.alloc (.cells #[v] t)) (fun _ => True) 1 (some ⟨n, 0, none⟩) 1 [v] := hn ▸ RD.of_blk (xs := [v]) (Blk.new w [v] t) rfl trivial
theorem RD.one2 {w : World} {u v : Value} {t : TypeId} {n : Nat} (hn : n = w.heap.size) : RD (w.alloc (.cells #[u, v] t)) (fun _ => True) 2 (some ⟨n, 0, none⟩) 1 [u, v] := hn ▸ RD.of_blk (xs := [u, v]) (Blk.new w [u, v] t) rfl trivial
theorem RD.one3 {w : World} {u v x : Value} {t : TypeId} {n : Nat} (hn : n = w.heap.size) : RD (w.alloc (.cells #[u, v, x] t)) (fun _ => True) 3 (some ⟨n, 0, none⟩) 1 [u, v, x] := hn ▸ RD.of_blk (xs := [u, v, x]) (Blk.new w [u, v, x] t) rfl trivial
theorem RD.take {w : World} {pl : Nat → Prop} {size n : Nat} {A : Option Addr} {xs : List Value} (h : RD w pl size A n xs) (k : Nat) (hk : k ≤ n) : RD w pl size A k (xs.take (k * size)) := by
  have hm : k * size ≤ n * size := Nat.mul_le_mul_right _ hk
  refine ⟨by rw [List.length_take, h.1]; omega, fun hn => ?_⟩
  obtain ⟨b, o, e, h1, h2, h3⟩ := h.2 (by omega)
  refine ⟨b, o, e, h1, h2, fun j u hu => h3 j u ?_⟩
  rw [List.getElem?_take] at hu
  split at hu
  · exact hu
  · cases hu
theorem RD.drop {w : World} {pl : Nat → Prop} {size n b o : Nat} {xs : List Value} (h : RD w pl size (some ⟨b, o, none⟩) n xs) (k : Nat) (hk : k ≤ n) : RD w pl size (some ⟨b, o + k * size, none⟩) (n - k) (xs.drop (k * size)) := by
  refine ⟨by rw [List.length_drop, h.1, Nat.sub_mul], fun hn => ?_⟩
  obtain ⟨b', o', e, h1, h2, h3⟩ := h.2 (by omega)
  cases e
  exact ⟨b, o + k * size, rfl, h1, h2, fun j u hu => by
    rw [Nat.add_assoc]
    exact h3 _ u (by rwa [List.getElem?_drop] at hu)⟩
theorem RD.lo {w : World} {pl pl' : Nat → Prop} {size n : Nat} {A : Option Addr} {xs : List Value} (h : RD w pl size A n xs) (hl : ∀ b, pl b → pl' b) : RD w pl' size A n xs :=
  ⟨h.1, fun hn => by
    obtain ⟨b, o, e, h1, h2, h3⟩ := h.2 hn
    exact ⟨b, o, e, hl b h1, h2, h3⟩⟩

/-- The block is one that is there. -/
theorem RD.lt {w : World} {pl : Nat → Prop} {size n : Nat} {A : Option Addr} {xs : List Value} (h : RD w pl size A n xs) : RD w (fun b => pl b ∧ b < w.heap.size) size A n xs :=
  ⟨h.1, fun hn => by
    obtain ⟨b, o, e, h1, h2, h3⟩ := h.2 hn
    exact ⟨b, o, e, ⟨h1, h2⟩, h2, h3⟩⟩
theorem flat_get {α β : Type} (f : α → List β) (m : Nat) (hf : ∀ a, (f a).length = m) : ∀ (l : List α) (k j : Nat) (s : α), l[k]? = some s → j < m → (l.flatMap f)[k * m + j]? = (f s)[j]?
  | [], k, j, s, h, _ => by simp at h
  | a :: l, 0, j, s, h, hj => by
    obtain rfl : a = s := by simpa using h
    rw [List.flatMap_cons, List.getElem?_append_left (by rw [hf]; omega), Nat.zero_mul, Nat.zero_add]
  | a :: l, k + 1, j, s, h, hj => by
    rw [List.flatMap_cons, List.getElem?_append_right (by rw [hf]; rw [Nat.succ_mul]; omega), hf, show (k + 1) * m + j - m = k * m + j by rw [Nat.succ_mul]; omega]
    exact flat_get f m hf l k j s (by simpa using h) hj
theorem flat_set {α β : Type} (f : α → List β) (m : Nat) (hf : ∀ a, (f a).length = m) : ∀ (l : List α) (k : Nat) (s t : α) (v : β) (j : Nat), l[k]? = some s → j < m → f t = (f s).set j v → (l.flatMap f).set (k * m + j) v = (l.set k t).flatMap f
  | [], k, s, t, v, j, h, _, _ => by simp at h
  | a :: l, 0, s, t, v, j, h, hj, e => by
    obtain rfl : a = s := by simpa using h
    rw [List.flatMap_cons, List.set_cons_zero, List.flatMap_cons, e, Nat.zero_mul, Nat.zero_add, List.set_append_left _ _ (by rw [hf]; omega)]
  | a :: l, k + 1, s, t, v, j, h, hj, e => by
    rw [List.flatMap_cons, List.set_cons_succ, List.flatMap_cons, List.set_append_right _ _ (by rw [hf]; rw [Nat.succ_mul]; omega), hf, show (k + 1) * m + j - m = k * m + j by rw [Nat.succ_mul]; omega]
    rw [flat_set f m hf l k s t v j (by simpa using h) hj e]

/-- What append leaves: a slice value of the call's own that reads as xs. -/
theorem own_slice {w : World} {lo size n : Nat} {e : TypeId} {v : Value} {xs : List Value} (h : w.ownsRow lo e size v n xs) : ∃ A c, v = .slice A n c ∧ n ≤ c ∧ c ≤ maxLen ∧ RD w (lo ≤ ·) size A n xs := by
  rcases h.2 with ⟨rfl, rfl⟩ | ⟨g, cap, cur, rfl, _, _, hnc, hm, _⟩
  · obtain rfl : xs = [] := List.eq_nil_of_length_eq_zero (by have := h.1; omega)
    exact ⟨none, 0, rfl, by omega, by omega, RD.nil _ _ _ _⟩
  · exact ⟨some ⟨g, 0, none⟩, cap, rfl, hnc, hm, RD.of_own h⟩

theorem own_below {w w' : World} {lo size n : Nat} {e : TypeId} {v : Value} {xs : List Value} (h : w.ownsRow lo e size v n xs) (hb : Below w.heap.size w w') : w'.ownsRow lo e size v n xs := by
  refine ⟨h.1, ?_⟩
  rcases h.2 with h2 | ⟨g, cap, cur, hv, hg, hh, r⟩
  · exact .inl h2
  · exact .inr ⟨g, cap, cur, hv, hg, (hb.block g (lt_of_block hh)).trans hh, r⟩
theorem own_form {w : World} {base : Nat} {e : TypeId} {size : Nat} {v : Value} {n : Nat} {xs : List Value} (h : w.ownsRow base e size v n xs) (hn : 0 < n) : ∃ g cap, v = .slice (some ⟨g, 0, none⟩) n cap ∧ n ≤ cap ∧ cap ≤ maxLen ∧ base ≤ g ∧ g < w.heap.size := by
  obtain ⟨g, cap, rfl, h1, h2⟩ := h.form hn
  obtain ⟨A, c, e, h0, h3, _⟩ := own_slice h
  cases e
  exact ⟨g, cap, rfl, h0, h3, h1, h2⟩

/-- w' is w, but for draws. -/
def Drew (w w' : World) : Prop := ∃ n, w' = w.drewN n
theorem Drew.refl (w : World) : Drew w w := ⟨0, rfl⟩
theorem Drew.of (w : World) (n : Nat) : Drew w (w.drewN n) := ⟨n, rfl⟩
theorem Drew.below {w w' : World} (h : Drew w w') : Below w.heap.size w w' := by obtain ⟨n, rfl⟩ := h; exact ⟨rfl, rfl, rfl, Nat.le_refl _, fun _ _ => rfl⟩
/-- A contract that turns nothing serves in a region that draws, whatever has been drawn by then. -/
theorem quiet_left {P : Program} {f : FuncId} {args : Array Value} {w W : World} {v : Value} (h : Calls P f args W fun e w' => e = .returned v ∧ W = w') (hW : Drew w W := by exact ⟨_, rfl⟩) :
    Calls P f args W fun e w'' => e = .returned v ∧ ∃ m, w'' = w.drewN m :=
  h.mono fun _ _ he => ⟨he.1, by obtain ⟨n, rfl⟩ := hW; exact ⟨n, he.2.symm⟩⟩
end Go.Proofs.Ytpbjfadandnhaaa

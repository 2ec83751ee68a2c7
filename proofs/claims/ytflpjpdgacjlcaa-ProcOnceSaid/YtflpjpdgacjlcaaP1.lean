/- Small lemmas over any program: one byte made into a string, results that are bools, worlds that grow. Words for memory: which blocks may have turned; a slice that reads as a list; what was appended reads so. append onto a row of the call's own, of what reads as a list, in the words of M; make of a row of zeros. append as in N, and which block alone it may have written. append as in N, at a step of a region that draws its order. append as in N, which block alone it may have written, and where the row lies now; at a walk and at a step of a drawn region. Any place. Structs that are loaded and stored whole, of any make: their cells as one list; the box of a struct argument, and the cell of a struct answer. A struct within a greater one: loaded and stored whole, at its offset. (tab/XYa has range_below, Blk.range, layL, Blk.lay, layL_get, layL_len, only_cells too: one or the other in a seat.) Regions that draw, walked by hand: a struct's box is read, an answer's cell is stored whole at the end. In a region that draws: a struct that is built of parts. In a region that draws: boxes by their places, and an answer's cell in whatever state. Slices of structs of any make: they read as a list; one of the call's own, which may be written to in its middle. Slices of ints: new ones that read so; a longer beginning of a list. The contract of the document's Same, of two lists that are one. A guard, as plain data. -/
import Derived.WalkKit
import Derived.WalkSpells
import Derived.Laws.IdiomStrings
import Derived.Lib.Hide
import Derived.Deep.Draws
import Derived.OneCell
import Derived.Lib.QuietBelow
import Derived.Lib.OthersKept
import Derived.Lib.ItoaNum
import Derived.Below
import Derived.Laws.OwnMore
import Derived.Deep.AppendLies
import Derived.OwnWalk
import Derived.Maps.AppendAt
import Derived.Laws.MakeOwn
import Derived.Laws.Entries
import Derived.Deep.RegionLaw
import Derived.Laws.Rows
import Derived.Laws.CopyOwn
import Derived.Deep.WholeRow
import Derived.BigFrame
import Derived.Deep.MidRow
import Derived.BigRegion
import Derived.OrdersHeld
import Derived.Deep.RegionHeld3
import Derived.Deep.CutBlock
import Derived.Laws.Tables
import Derived.Test.YtflpjpdgacjlcaaRows
import Derived.BigQuiet
import Derived.Deep.QuietTactic
import Derived.LoopTactic
namespace Go.Proofs.Ytflpjpdgacjlcaa
open Go.RowKit

theorem conv_byte1 {P : Program} (src dst e : TypeId) (hs : P.underlying src = some (.slice e)) (he : P.underlying e = some (.int .u8)) (hd : P.underlying dst = some .string)
    (W : World) (v : Int) (cap : Nat) :
    (convert src dst (.slice (some ⟨W.heap.size, 0, none⟩) 1 cap)).run P (W.alloc (.cells #[.int .u8 v] e)) = .ok (.string ⟨#[UInt8.ofNat v.toNat]⟩) (W.alloc (.cells #[.int .u8 v] e)) := by
  rw [run_convert_bytes_string _ src dst e _ 1 cap hs he hd]
  have hl := run_loadCells_list (P := P) (W.alloc (.cells #[.int .u8 v] e)) ⟨W.heap.size, 0, none⟩ [Value.int .u8 v] (fun j x hj => by
    cases j with
    | zero =>
      obtain rfl : Value.int .u8 v = x := Option.some.inj hj
      show (W.alloc (.cells #[.int .u8 v] e)).cell? ⟨W.heap.size, 0, none⟩ = _
      rw [World.cell?_alloc_new]
      rfl
    | succ j => simp at hj)
  rw [run_bytesToString _ ⟨W.heap.size, 0, none⟩ 1 cap [v] hl]
  rfl

theorem ret_bool {a b : Bool} (h : a = b) : Ending.returned (.bool a) = .returned (.bool b) := by rw [h]
theorem ret_int {k : IntKind} {a b : Int} (h : a = b) : Ending.returned (.int k a) = .returned (.int k b) := by rw [h]
theorem ret_str {a b : ByteArray} (h : a = b) : Ending.returned (.string a) = .returned (.string b) := by rw [h]
theorem ret_int2 {k l : IntKind} {a b c d : Int} (h : a = b) (h' : c = d) : Ending.returned (.tuple #[.int k a, .int l c]) = .returned (.tuple #[.int k b, .int l d]) := by rw [h, h']
theorem ret_str2 {l : IntKind} {a b : ByteArray} {c d : Int} (h : a = b) (h' : c = d) : Ending.returned (.tuple #[.string a, .int l c]) = .returned (.tuple #[.string b, .int l d]) := by rw [h, h']

theorem ret_ib {k : IntKind} {a b : Int} {c d : Bool} (h : a = b) (h' : c = d) : Ending.returned (.tuple #[.int k a, .bool c]) = .returned (.tuple #[.int k b, .bool d]) := by rw [h, h']
theorem up_trans {a b c : World} (h : Below a.heap.size a b) (k : Below b.heap.size b c) : Below a.heap.size a c := h.trans (k.mono h.size)
theorem up_drewN (w : World) (n : Nat) : Below w.heap.size w (w.drewN n) := ⟨rfl, rfl, rfl, Nat.le_refl _, fun _ _ => rfl⟩
theorem up_alloc (w : World) (o : Obj) : Below w.heap.size w (w.alloc o) := (Below.refl _ _).alloc (Nat.le_refl _) o

theorem bytes_push (a : List UInt8) (x : UInt8) : (⟨#[x]⟩ : ByteArray) ++ ⟨a.toArray⟩ = ⟨(x :: a).toArray⟩ := by
  apply ByteArray.ext
  simp
theorem bytes_app (a b : List UInt8) : (⟨a.toArray⟩ : ByteArray) ++ ⟨b.toArray⟩ = ⟨(a ++ b).toArray⟩ := by
  apply ByteArray.ext
  simp

/-- Block b holds just these cells, and may be written. -/
def Blk (w : World) (b : Nat) (cs : List Value) (t : TypeId) : Prop := w.heap[b]? = some (.cells cs.toArray t (0, 0))
theorem Blk.lt {w : World} {b : Nat} {cs : List Value} {t : TypeId} (h : Blk w b cs t) : b < w.heap.size := lt_of_block h
theorem Blk.cell {w : World} {b : Nat} {cs : List Value} {t : TypeId} (h : Blk w b cs t) (j : Nat) (v : Value) (hj : cs[j]? = some v) : w.cell? ⟨b, j, none⟩ = some v := by
  unfold Blk at h
  simp [World.cell?, h, hj]
theorem Blk.free {w : World} {b : Nat} {cs : List Value} {t : TypeId} (h : Blk w b cs t) (j : Nat) : w.frozen? ⟨b, j, none⟩ = false := by
  unfold Blk at h
  simp [World.frozen?, h]
theorem Blk.set {w : World} {b : Nat} {cs : List Value} {t : TypeId} (h : Blk w b cs t) (j : Nat) (u : Value) : Blk (w.setCell ⟨b, j, none⟩ u) b (cs.set j u) t := by
  have hlt := h.lt
  have h' : w.heap[b] = .cells cs.toArray t (0, 0) := by
    unfold Blk at h
    simpa [Array.getElem?_eq_getElem hlt] using h
  show (w.heap.modify b _)[b]? = _
  rw [Array.getElem?_eq_getElem (by simpa using hlt), Array.getElem_modify_self, h']
  simp
theorem Blk.other {w : World} {b : Nat} {cs : List Value} {t : TypeId} (h : Blk w b cs t) (p : Addr) (hp : b ≠ p.block) (u : Value) : Blk (w.setCell p u) b cs t :=
  (Below.heap_setCell w p u b hp).trans h
theorem Blk.up {w w' : World} {B b : Nat} {cs : List Value} {t : TypeId} (h : Blk w b cs t) (hb : Below B w w') (hB : b < B) : Blk w' b cs t := (hb.block b hB).trans h
theorem Blk.iter {w : World} {b k : Nat} {cs : List Value} {t : TypeId} (h : Blk w b cs t) (s : ByteArray) (p : Nat) (hk : b ≠ k) : Blk (w.iterAt k s p) b cs t := (Lib.iterAt_other w k b s p hk).trans h
theorem Blk.new (w : World) (cs : List Value) (t : TypeId) : Blk (w.alloc (.cells cs.toArray t)) w.heap.size cs t := by
  show (w.heap.push _)[w.heap.size]? = _
  simp
theorem Blk.alloc {w : World} {b : Nat} {cs : List Value} {t : TypeId} (h : Blk w b cs t) (o : Obj) : Blk (w.alloc o) b cs t := (Below.heap_alloc w o b h.lt).trans h
theorem iter_stays {w : World} {k : Nat} {s : ByteArray} {p : Nat} (h : w.heap[k]? = some (.stringIter s p)) (a : Addr) (ha : k ≠ a.block) (u : Value) : (w.setCell a u).heap[k]? = some (.stringIter s p) :=
  (Below.heap_setCell w a u k ha).trans h

/-- A contract met in whatever world has grown out of w: for a statement whose order is open. -/
theorem grown_call {P : Program} {f : FuncId} {args : Array Value} {w : World} {v : Value}
    (h : ∀ W, Below w.heap.size w W → Calls P f args W fun e w' => e = .returned v ∧ Below W.heap.size W w') (d : Nat) (os : Array Obj) :
    Calls P f args (Sort.grow (redrawn w d) os) fun e w'' => e = .returned v ∧ ∃ p : Regrown, w'' = Sort.grow (redrawn w p.d) p.os :=
  Calls.regrown_of (h _ (below_regrown w d os))
theorem same_below {P : Program} {f : FuncId} {args : Array Value} {w : World} {v : Value} (h : Calls P f args w fun e w' => e = .returned v ∧ w = w') :
    Calls P f args w fun e w' => e = .returned v ∧ Below w.heap.size w w' := h.mono fun _ _ ⟨a, b⟩ => ⟨a, b ▸ Below.refl _ _⟩
end Go.Proofs.Ytflpjpdgacjlcaa

namespace Go.Proofs.Ytflpjpdgacjlcaa
open Go.RowKit

/-- w' is w, but for the blocks of s, and new ones. -/
structure Only (s : Nat → Prop) (w w' : World) : Prop where
  os : w'.os = w.os
  tape : w'.tape = w.tape
  output : w'.output = w.output
  size : w.heap.size ≤ w'.heap.size
  block : ∀ k, k < w.heap.size → ¬ s k → w'.heap[k]? = w.heap[k]?
theorem Only.refl (s : Nat → Prop) (w : World) : Only s w w := ⟨rfl, rfl, rfl, Nat.le_refl _, fun _ _ _ => rfl⟩
theorem Only.trans {s : Nat → Prop} {a b c : World} (h : Only s a b) (k : Only s b c) : Only s a c :=
  ⟨k.os.trans h.os, k.tape.trans h.tape, k.output.trans h.output, Nat.le_trans h.size k.size, fun i hi hs => (k.block i (Nat.lt_of_lt_of_le hi h.size) hs).trans (h.block i hi hs)⟩
theorem Only.mono {s s' : Nat → Prop} {a b : World} (h : Only s a b) (hs : ∀ k, k < a.heap.size → s k → s' k) : Only s' a b := ⟨h.os, h.tape, h.output, h.size, fun i hi hn => h.block i hi fun k => hn (hs i hi k)⟩
theorem Only.below_trans {s : Nat → Prop} {a b c : World} (h : Only s a b) (k : Below b.heap.size b c) : Only s a c :=
  ⟨k.os.trans h.os, k.tape.trans h.tape, k.output.trans h.output, Nat.le_trans h.size k.size, fun i hi hs => (k.block i (Nat.lt_of_lt_of_le hi h.size)).trans (h.block i hi hs)⟩
theorem Only.of_below {s : Nat → Prop} {a b : World} (k : Below a.heap.size a b) : Only s a b := ⟨k.os, k.tape, k.output, k.size, fun i hi _ => k.block i hi⟩
theorem Only.drewN {s : Nat → Prop} {a b : World} (h : Only s a b) (n : Nat) : Only s a (b.drewN n) := ⟨h.os, h.tape, h.output, h.size, h.block⟩
theorem Only.alloc {s : Nat → Prop} {a b : World} (h : Only s a b) (o : Obj) : Only s a (b.alloc o) := h.below_trans ((Below.refl _ _).alloc (Nat.le_refl _) o)
theorem Only.setCell {s : Nat → Prop} {a b : World} (h : Only s a b) {p : Addr} (hp : s p.block ∨ a.heap.size ≤ p.block) (u : Value) : Only s a (b.setCell p u) :=
  ⟨h.os, h.tape, h.output, by simpa [World.setCell] using h.size, fun i hi hs => (Below.heap_setCell b p u i (by
    rintro rfl
    rcases hp with hp | hp
    · exact hs hp
    · omega)).trans (h.block i hi hs)⟩
theorem Only.put {b : Nat} {a c : World} (h : Only (· = b) a c) (j : Nat) (u : Value) : Only (· = b) a (c.setCell ⟨b, j, none⟩ u) := h.setCell (.inl rfl) u
theorem Only.grown {s : Nat → Prop} {a b c : World} {row : Option Nat} (h : Only s a b) (hg : b.grownBy c row) (hr : ∀ k, row = some k → s k ∨ a.heap.size ≤ k) : Only s a c :=
  ⟨hg.os.trans h.os, hg.tape.trans h.tape, hg.output.trans h.output, Nat.le_trans h.size hg.size, fun i hi hs => (hg.block i (Nat.lt_of_lt_of_le hi h.size) (fun e => by
    rcases hr i e.symm with hp | hp
    · exact hs hp
    · omega)).trans (h.block i hi hs)⟩
theorem Only.toBelow {s : Nat → Prop} {a b : World} {B : Nat} (h : Only s a b) (hB : B ≤ a.heap.size) (hs : ∀ k, s k → B ≤ k) : Below B a b :=
  ⟨h.os, h.tape, h.output, h.size, fun i hi => h.block i (by omega) fun k => by have := hs i k; omega⟩
/-- What turned alone blocks that are newer than a, seen from a. -/
theorem Only.later {s : Nat → Prop} {a b c : World} (h : Below a.heap.size a b) (k : Only s b c) (hs : ∀ i, s i → a.heap.size ≤ i) : Below a.heap.size a c :=
  h.trans (k.toBelow h.size hs)

theorem Blk.only {s : Nat → Prop} {w w' : World} {b : Nat} {cs : List Value} {t : TypeId} (h : Blk w b cs t) (o : Only s w w') (hs : ¬ s b) : Blk w' b cs t := (o.block b h.lt hs).trans h
theorem Blk.ne {w : World} {b c : Nat} {cs ds : List Value} {t u : TypeId} (h : Blk w b cs t) (k : Blk w c ds u) (hne : t ≠ u) : b ≠ c := by
  rintro rfl
  unfold Blk at h k
  rw [h] at k
  injection k with k
  injection k with _ ht
  exact hne ht
theorem Blk.grown {w w' : World} {b : Nat} {cs : List Value} {t : TypeId} {row : Option Nat} (h : Blk w b cs t) (hg : w.grownBy w' row) (hne : some b ≠ row) : Blk w' b cs t := (hg.block b h.lt hne).trans h
theorem Blk.cell' {w : World} {b : Nat} {cs : List Value} {t : TypeId} (h : Blk w b cs t) (j : Nat) : w.cell? ⟨b, j, none⟩ = cs[j]? := by
  unfold Blk at h
  simp [World.cell?, h]

/-- The slice's first n elements, of size cells each, are xs; they lie in a block of pl. -/
def RD (w : World) (pl : Nat → Prop) (size : Nat) (A : Option Addr) (n : Nat) (xs : List Value) : Prop :=
  xs.length = n * size ∧ (0 < n → ∃ b o, A = some ⟨b, o, none⟩ ∧ pl b ∧ b < w.heap.size ∧ ∀ j u, xs[j]? = some u → w.cell? ⟨b, o + j, none⟩ = some u)
theorem RD.len {w : World} {pl : Nat → Prop} {size n : Nat} {A : Option Addr} {xs : List Value} (h : RD w pl size A n xs) : xs.length = n * size := h.1
theorem RD.nil (w : World) (pl : Nat → Prop) (size : Nat) (A : Option Addr) : RD w pl size A 0 [] := ⟨by simp, fun h => absurd h (by omega)⟩
theorem RD.at_ {w : World} {pl : Nat → Prop} {size n : Nat} {A : Option Addr} {xs : List Value} (h : RD w pl size A n xs) (hn : 0 < n) :
    ∃ b o, A = some ⟨b, o, none⟩ ∧ pl b ∧ b < w.heap.size ∧ ∀ j u, xs[j]? = some u → w.cell? ⟨b, o + j, none⟩ = some u := h.2 hn
theorem RD.only {s : Nat → Prop} {w w' : World} {pl : Nat → Prop} {size n : Nat} {A : Option Addr} {xs : List Value} (h : RD w pl size A n xs) (o : Only s w w') (hs : ∀ k, s k → ¬ pl k) : RD w' pl size A n xs :=
  ⟨h.1, fun hn => by
    obtain ⟨b, of, e, h1, h2, h3⟩ := h.2 hn
    have hb := o.block b h2 fun k => hs b k h1
    exact ⟨b, of, e, h1, Nat.lt_of_lt_of_le h2 o.size, fun j u hu => (World.cell?_of_block (a := ⟨b, of + j, none⟩) hb).trans (h3 j u hu)⟩⟩
theorem RD.below {w w' : World} {pl : Nat → Prop} {size n : Nat} {A : Option Addr} {xs : List Value} (h : RD w pl size A n xs) (o : Below w.heap.size w w') : RD w' pl size A n xs := h.only (s := fun _ => False) (Only.of_below o) fun _ k => k.elim
theorem RD.of_blk {w : World} {pl : Nat → Prop} {size n b : Nat} {xs : List Value} {t : TypeId} (h : Blk w b xs t) (hl : xs.length = n * size) (hb : pl b) : RD w pl size (some ⟨b, 0, none⟩) n xs :=
  ⟨hl, fun _ => ⟨b, 0, rfl, hb, h.lt, fun j u hu => by rw [h.cell', Nat.zero_add]; exact hu⟩⟩
theorem RD.of_own {w : World} {lo size n c : Nat} {A : Option Addr} {e : TypeId} {xs : List Value} (h : w.ownsRow lo e size (.slice A n c) n xs) : RD w (lo ≤ ·) size A n xs := by
  refine ⟨h.1, fun hn => ?_⟩
  obtain ⟨g, cap, hv, _, hlt⟩ := h.form hn
  have hA : A = some ⟨g, 0, none⟩ := by injection hv
  subst hA
  refine ⟨g, 0, rfl, (h.lt g rfl).1, hlt, fun j u hu => ?_⟩
  have := h.cells (g := g) rfl j u hu
  rw [Nat.zero_add]
  have e : (⟨g, 0, none⟩ : Addr).add j = ⟨g, j, none⟩ := by
    unfold Addr.add
    split
    · next h0 => subst h0; rfl
    · simp
  rwa [e] at this
/-- A new slice of one element, which append is given. -/
theorem RD.one {w : World} {v : Value} {t : TypeId} {n : Nat} (hn : n = w.heap.size) : RD (w.alloc (.cells #[v] t)) (fun _ => True) 1 (some ⟨n, 0, none⟩) 1 [v] := hn ▸ RD.of_blk (xs := [v]) (Blk.new w [v] t) rfl trivial
theorem RD.one2 {w : World} {u v : Value} {t : TypeId} {n : Nat} (hn : n = w.heap.size) : RD (w.alloc (.cells #[u, v] t)) (fun _ => True) 2 (some ⟨n, 0, none⟩) 1 [u, v] := hn ▸ RD.of_blk (xs := [u, v]) (Blk.new w [u, v] t) rfl trivial
theorem RD.one3 {w : World} {u v x : Value} {t : TypeId} {n : Nat} (hn : n = w.heap.size) : RD (w.alloc (.cells #[u, v, x] t)) (fun _ => True) 3 (some ⟨n, 0, none⟩) 1 [u, v, x] := hn ▸ RD.of_blk (xs := [u, v, x]) (Blk.new w [u, v, x] t) rfl trivial
theorem RD.take {w : World} {pl : Nat → Prop} {size n : Nat} {A : Option Addr} {xs : List Value} (h : RD w pl size A n xs) (k : Nat) (hk : k ≤ n) : RD w pl size A k (xs.take (k * size)) := by
  have hm : k * size ≤ n * size := Nat.mul_le_mul_right _ hk
  refine ⟨by rw [List.length_take, h.1]; omega, fun hn => ?_⟩
  obtain ⟨b, o, e, h1, h2, h3⟩ := h.2 (by omega)
  refine ⟨b, o, e, h1, h2, fun j u hu => h3 j u ?_⟩
  rw [List.getElem?_take] at hu
  split at hu
  · exact hu
  · cases hu
theorem RD.drop {w : World} {pl : Nat → Prop} {size n b o : Nat} {xs : List Value} (h : RD w pl size (some ⟨b, o, none⟩) n xs) (k : Nat) (hk : k ≤ n) : RD w pl size (some ⟨b, o + k * size, none⟩) (n - k) (xs.drop (k * size)) := by
  refine ⟨by rw [List.length_drop, h.1, Nat.sub_mul], fun hn => ?_⟩
  obtain ⟨b', o', e, h1, h2, h3⟩ := h.2 (by omega)
  cases e
  exact ⟨b, o + k * size, rfl, h1, h2, fun j u hu => by
    rw [Nat.add_assoc]
    exact h3 _ u (by rwa [List.getElem?_drop] at hu)⟩
theorem RD.lo {w : World} {pl pl' : Nat → Prop} {size n : Nat} {A : Option Addr} {xs : List Value} (h : RD w pl size A n xs) (hl : ∀ b, pl b → pl' b) : RD w pl' size A n xs :=
  ⟨h.1, fun hn => by
    obtain ⟨b, o, e, h1, h2, h3⟩ := h.2 hn
    exact ⟨b, o, e, hl b h1, h2, h3⟩⟩

/-- The block is one that is there. -/
theorem RD.lt {w : World} {pl : Nat → Prop} {size n : Nat} {A : Option Addr} {xs : List Value} (h : RD w pl size A n xs) : RD w (fun b => pl b ∧ b < w.heap.size) size A n xs :=
  ⟨h.1, fun hn => by
    obtain ⟨b, o, e, h1, h2, h3⟩ := h.2 hn
    exact ⟨b, o, e, ⟨h1, h2⟩, h2, h3⟩⟩
theorem flat_get {α β : Type} (f : α → List β) (m : Nat) (hf : ∀ a, (f a).length = m) : ∀ (l : List α) (k j : Nat) (s : α), l[k]? = some s → j < m → (l.flatMap f)[k * m + j]? = (f s)[j]?
  | [], k, j, s, h, _ => by simp at h
  | a :: l, 0, j, s, h, hj => by
    obtain rfl : a = s := by simpa using h
    rw [List.flatMap_cons, List.getElem?_append_left (by rw [hf]; omega), Nat.zero_mul, Nat.zero_add]
  | a :: l, k + 1, j, s, h, hj => by
    rw [List.flatMap_cons, List.getElem?_append_right (by rw [hf]; rw [Nat.succ_mul]; omega), hf, show (k + 1) * m + j - m = k * m + j by rw [Nat.succ_mul]; omega]
    exact flat_get f m hf l k j s (by simpa using h) hj
theorem flat_set {α β : Type} (f : α → List β) (m : Nat) (hf : ∀ a, (f a).length = m) : ∀ (l : List α) (k : Nat) (s t : α) (v : β) (j : Nat), l[k]? = some s → j < m → f t = (f s).set j v → (l.flatMap f).set (k * m + j) v = (l.set k t).flatMap f
  | [], k, s, t, v, j, h, _, _ => by simp at h
  | a :: l, 0, s, t, v, j, h, hj, e => by
    obtain rfl : a = s := by simpa using h
    rw [List.flatMap_cons, List.set_cons_zero, List.flatMap_cons, e, Nat.zero_mul, Nat.zero_add, List.set_append_left _ _ (by rw [hf]; omega)]
  | a :: l, k + 1, s, t, v, j, h, hj, e => by
    rw [List.flatMap_cons, List.set_cons_succ, List.flatMap_cons, List.set_append_right _ _ (by rw [hf]; rw [Nat.succ_mul]; omega), hf, show (k + 1) * m + j - m = k * m + j by rw [Nat.succ_mul]; omega]
    rw [flat_set f m hf l k s t v j (by simpa using h) hj e]

/-- What append leaves: a slice value of the call's own that reads as xs. -/
theorem own_slice {w : World} {lo size n : Nat} {e : TypeId} {v : Value} {xs : List Value} (h : w.ownsRow lo e size v n xs) : ∃ A c, v = .slice A n c ∧ n ≤ c ∧ c ≤ maxLen ∧ RD w (lo ≤ ·) size A n xs := by
  rcases h.2 with ⟨rfl, rfl⟩ | ⟨g, cap, cur, rfl, _, _, hnc, hm, _⟩
  · obtain rfl : xs = [] := List.eq_nil_of_length_eq_zero (by have := h.1; omega)
    exact ⟨none, 0, rfl, by omega, by omega, RD.nil _ _ _ _⟩
  · exact ⟨some ⟨g, 0, none⟩, cap, rfl, hnc, hm, RD.of_own h⟩

theorem own_below {w w' : World} {lo size n : Nat} {e : TypeId} {v : Value} {xs : List Value} (h : w.ownsRow lo e size v n xs) (hb : Below w.heap.size w w') : w'.ownsRow lo e size v n xs := by
  refine ⟨h.1, ?_⟩
  rcases h.2 with h2 | ⟨g, cap, cur, hv, hg, hh, r⟩
  · exact .inl h2
  · exact .inr ⟨g, cap, cur, hv, hg, (hb.block g (lt_of_block hh)).trans hh, r⟩
theorem own_form {w : World} {base : Nat} {e : TypeId} {size : Nat} {v : Value} {n : Nat} {xs : List Value} (h : w.ownsRow base e size v n xs) (hn : 0 < n) : ∃ g cap, v = .slice (some ⟨g, 0, none⟩) n cap ∧ n ≤ cap ∧ cap ≤ maxLen ∧ base ≤ g ∧ g < w.heap.size := by
  obtain ⟨g, cap, rfl, h1, h2⟩ := h.form hn
  obtain ⟨A, c, e, h0, h3, _⟩ := own_slice h
  cases e
  exact ⟨g, cap, rfl, h0, h3, h1, h2⟩

/-- w' is w, but for draws. -/
def Drew (w w' : World) : Prop := ∃ n, w' = w.drewN n
theorem Drew.refl (w : World) : Drew w w := ⟨0, rfl⟩
theorem Drew.of (w : World) (n : Nat) : Drew w (w.drewN n) := ⟨n, rfl⟩
theorem Drew.below {w w' : World} (h : Drew w w') : Below w.heap.size w w' := by obtain ⟨n, rfl⟩ := h; exact ⟨rfl, rfl, rfl, Nat.le_refl _, fun _ _ => rfl⟩
/-- A contract that turns nothing serves in a region that draws, whatever has been drawn by then. -/
theorem quiet_left {P : Program} {f : FuncId} {args : Array Value} {w W : World} {v : Value} (h : Calls P f args W fun e w' => e = .returned v ∧ W = w') (hW : Drew w W := by exact ⟨_, rfl⟩) :
    Calls P f args W fun e w'' => e = .returned v ∧ ∃ m, w'' = w.drewN m :=
  h.mono fun _ _ he => ⟨he.1, by obtain ⟨n, rfl⟩ := hW; exact ⟨n, he.2.symm⟩⟩
end Go.Proofs.Ytflpjpdgacjlcaa

namespace Go.Proofs.Ytflpjpdgacjlcaa
open Go.RowKit

/-- The slice type t has elements of type e, whose zero is z, of size cells and of so many bytes. -/
structure EI (P : Program) (t e : TypeId) (z : Value) (size bytes : Nat) : Prop where
  under : P.underlying t = some (.slice e)
  info : (P.info? e).map (fun i => (i.zero, i.size, i.bytes)) = some (some z, size, bytes)
  cells : z.cells.size = size
  pos : 0 < size
  few : bytes ≤ 1000

theorem add_off (b o j : Nat) : (⟨b, o, none⟩ : Addr).add j = ⟨b, o + j, none⟩ := by
  unfold Addr.add
  split
  · next h => subst h; rfl
  · rfl

section
variable {P : Program}
theorem run_append_nil_src {w : World} {t e : TypeId} {z : Value} {size bytes lo n : Nat} (E : EI P t e z size bytes) (ty : TypeId) {v : Value} {xs : List Value} (hown : w.ownsRow lo e size v n xs) (A : Option Addr) (c : Nat) :
    (Builtin.append_ #[t, t] ty #[v, .slice A 0 c]).run P w = .ok v w := by
  obtain ⟨i, hi, hz, hs, hb⟩ := info_parts E.info
  rcases A with _ | ad
  · rcases hown.2 with ⟨rfl, rfl⟩ | ⟨g, cap, cur, rfl, _, _, hnc, _⟩
    · simp [Builtin.append_, run_underlying E.under, sizeOf, typeInfo, hi, Builtin.lenOf, Builtin.firstCells]
    · simp [Builtin.append_, run_underlying E.under, sizeOf, typeInfo, hi, Builtin.lenOf, Builtin.firstCells, hnc, storeCells]
  · rcases hown.2 with ⟨rfl, rfl⟩ | ⟨g, cap, cur, rfl, _, _, hnc, _⟩
    · simp [Builtin.append_, run_underlying E.under, sizeOf, typeInfo, hi, Builtin.lenOf, Builtin.firstCells, loadCells, loadCellsFrom]
    · simp [Builtin.append_, run_underlying E.under, sizeOf, typeInfo, hi, Builtin.lenOf, Builtin.firstCells, loadCells, loadCellsFrom, hnc, storeCells]

theorem run_app {w : World} {t e : TypeId} {z : Value} {size bytes lo n : Nat} (E : EI P t e z size bytes) (ty : TypeId) {v : Value} {xs : List Value} (hown : w.ownsRow lo e size v n xs)
    {pl : Nat → Prop} {m c : Nat} {A : Option Addr} {news : List Value} (hr : RD w pl size A m news) (h1 : ∀ u ∈ news, u.oneCell' = true) (hm : n + m ≤ 1000000) (hlo : lo ≤ w.heap.size) :
    ∃ v' w', (Builtin.append_ #[t, t] ty #[v, .slice A m c]).run P w = .ok v' w' ∧ w'.ownsRow lo e size v' (n + m) (xs ++ news) ∧ Below lo w w' := by
  obtain ⟨i, hi, hz, hs, hb⟩ := info_parts E.info
  rcases Nat.eq_zero_or_pos m with h0 | h0
  · subst h0
    have hn : news = [] := List.eq_nil_of_length_eq_zero (by have := hr.1; omega)
    subst hn
    exact ⟨v, w, run_append_nil_src E ty hown A c, by simpa using hown, Below.refl _ _⟩
  · obtain ⟨b, o, rfl, _, _, hc⟩ := hr.2 h0
    have hbt := E.few
    have hmul : (n + m) * bytes ≤ 1000000 * 1000 := Nat.mul_le_mul hm E.few
    obtain ⟨v', w', hrun, h2, h3, _⟩ := run_append_own_at (P := P) w lo t ty e i z size bytes E.under hi hz hs hb E.cells E.pos v n xs hown ⟨b, o, none⟩ m c news hr.1
      (fun j u hu => by rw [add_off]; exact hc j u hu) h1 (by simp only [maxLen]; omega) (by omega) hlo
    exact ⟨v', w', hrun, h2, (Below.refl _ _).grown h3 hlo fun k hk => (hown.lt k hk).1⟩

theorem wpList_app {w : World} {ops : Array Oper} {rest : List Oper} {o : Oper} {a : Act} {Q : Exit → Act → World → Prop} {t e : TypeId} {z : Value} {size bytes lo n : Nat} (E : EI P t e z size bytes) (hgd : o.guard = none) (s x : Operand)
    (ho : o.op = .call { callee := .builtin .append, args := #[s, x], argTypes := #[t, t] })
    (v : Value) (xs : List Value) (hs : a.eval s = v) (hown : w.ownsRow lo e size v n xs)
    {pl : Nat → Prop} {m c : Nat} {A : Option Addr} {news : List Value} (hx : a.eval x = .slice A m c) (hr : RD w pl size A m news) (h1 : ∀ u ∈ news, u.oneCell' = true) (hm : n + m ≤ 1000000) (hlo : lo ≤ w.heap.size)
    (h : ∀ v' w', w'.ownsRow lo e size v' (n + m) (xs ++ news) → Below lo w w' → wpList P ops Q rest (a.put o.dst v') w') : wpList P ops Q (o :: rest) a w := by
  refine wpList_plain hgd fun K hK => ?_
  obtain ⟨v', w', hrun, h2, h3⟩ := run_app E o.type hown (c := c) hr h1 hm hlo
  unfold Oper.wp execOp
  simp only [ho, resolve, invoke, builtin, Sem.run_bind, Sem.run_pure, Result.andThen_ok, List.map_toArray, List.map_cons, List.map_nil, hs, hx, hrun]
  exact hK _ _ (h v' w' h2 h3)

/-- make([]T, n) lays n zeros. -/
theorem run_mk {t e : TypeId} {z : Value} {size bytes : Nat} (E : EI P t e z size bytes) (n : Nat) (hn : n ≤ 1000000) (w : World) :
    (Instr.makeSlice t (.int .i64 (n : Int)) (.int .i64 (n : Int))).run P w = .ok (.slice (some ⟨w.heap.size, 0, none⟩) n n) (w.alloc (.cells (madeCells z.cells (n * size)) e)) := by
  obtain ⟨i, hi, hz, hs, hb⟩ := info_parts E.info
  have hbt : i.bytes * n ≤ 1000 * 1000000 := Nat.mul_le_mul (by rw [hb]; exact E.few) hn
  have hbb : (i.bytes : Int) * (n : Int) ≤ 281474976710656 := by
    have h : ((i.bytes * n : Nat) : Int) ≤ 281474976710656 := by omega
    rwa [Int.natCast_mul] at h
  have hr := run_make (P := P) w t e i z E.under hi hz .i64 .i64 n n (by omega) (by omega) hbb (by omega)
  simp only [Int.toNat_natCast] at hr
  rw [← hs]
  exact hr
end
theorem made_list (z : Array Value) (s : Nat) (hs : z.size = s) (n : Nat) : (madeCells z (n * s)).toList = (List.replicate n z.toList).flatten := by
  subst hs
  have hz : (List.range z.size).map (fun i => z[i]!) = z.toList := by
    apply List.ext_getElem (by simp)
    intro i h1 h2
    simp at h1
    simp [h1]
  have key : ∀ n, (List.range (n * z.size)).map (fun i => z[i % z.size]!) = (List.replicate n z.toList).flatten := by
    intro n
    induction n with
    | zero => simp
    | succ n ih =>
      rw [Nat.succ_mul, List.range_add, List.map_append, ih, List.replicate_succ', List.flatten_append, List.map_map]
      congr 1
      rw [List.flatten_cons, List.flatten_nil, List.append_nil]
      conv => rhs; rw [← hz]
      apply List.map_congr_left
      intro i hi
      have hi := List.mem_range.1 hi
      simp only [Function.comp_apply]
      rw [Nat.add_comm, Nat.add_mul_mod_self_right, Nat.mod_eq_of_lt hi]
  rw [← key n]
  simp [madeCells]
theorem int_cells (k : IntKind) (zs : List Int) : ∀ u ∈ zs.map (Value.int k), u.oneCell' = true := ints_oneCell k zs
end Go.Proofs.Ytflpjpdgacjlcaa

namespace Go.Proofs.Ytflpjpdgacjlcaa
open Go.RowKit
section
variable {P : Program}
theorem run_app2 {w : World} {t e : TypeId} {z : Value} {size bytes lo n : Nat} (E : EI P t e z size bytes) (ty : TypeId) {v : Value} {xs : List Value} (hown : w.ownsRow lo e size v n xs)
    {pl : Nat → Prop} {m c : Nat} {A : Option Addr} {news : List Value} (hr : RD w pl size A m news) (h1 : ∀ u ∈ news, u.oneCell' = true) (hm : n + m ≤ 1000000) (hlo : lo ≤ w.heap.size) :
    ∃ v' w', (Builtin.append_ #[t, t] ty #[v, .slice A m c]).run P w = .ok v' w' ∧ w'.ownsRow lo e size v' (n + m) (xs ++ news) ∧ w.grownBy w' v.ownBlock := by
  obtain ⟨i, hi, hz, hs, hb⟩ := info_parts E.info
  rcases Nat.eq_zero_or_pos m with h0 | h0
  · subst h0
    have hn : news = [] := List.eq_nil_of_length_eq_zero (by have := hr.1; omega)
    subst hn
    exact ⟨v, w, run_append_nil_src E ty hown A c, by simpa using hown, World.grownBy.refl w _⟩
  · obtain ⟨b, o, rfl, _, _, hc⟩ := hr.2 h0
    have hbt := E.few
    have hmul : (n + m) * bytes ≤ 1000000 * 1000 := Nat.mul_le_mul hm E.few
    obtain ⟨v', w', hrun, h2, h3, _⟩ := run_append_own_at (P := P) w lo t ty e i z size bytes E.under hi hz hs hb E.cells E.pos v n xs hown ⟨b, o, none⟩ m c news hr.1
      (fun j u hu => by rw [add_off]; exact hc j u hu) h1 (by simp only [maxLen]; omega) (by omega) hlo
    exact ⟨v', w', hrun, h2, h3⟩

theorem wpList_app2 {w : World} {ops : Array Oper} {rest : List Oper} {o : Oper} {a : Act} {Q : Exit → Act → World → Prop} {t e : TypeId} {z : Value} {size bytes lo n : Nat} (E : EI P t e z size bytes) (hgd : o.guard = none) (s x : Operand)
    (ho : o.op = .call { callee := .builtin .append, args := #[s, x], argTypes := #[t, t] })
    (v : Value) (xs : List Value) (hs : a.eval s = v) (hown : w.ownsRow lo e size v n xs)
    {pl : Nat → Prop} {m c : Nat} {A : Option Addr} {news : List Value} (hx : a.eval x = .slice A m c) (hr : RD w pl size A m news) (h1 : ∀ u ∈ news, u.oneCell' = true) (hm : n + m ≤ 1000000) (hlo : lo ≤ w.heap.size)
    (h : ∀ v' w', w'.ownsRow lo e size v' (n + m) (xs ++ news) → w.grownBy w' v.ownBlock → wpList P ops Q rest (a.put o.dst v') w') : wpList P ops Q (o :: rest) a w := by
  refine wpList_plain hgd fun K hK => ?_
  obtain ⟨v', w', hrun, h2, h3⟩ := run_app2 E o.type hown (c := c) hr h1 hm hlo
  unfold Oper.wp execOp
  simp only [ho, resolve, invoke, builtin, Sem.run_bind, Sem.run_pure, Result.andThen_ok, List.map_toArray, List.map_cons, List.map_nil, hs, hx, hrun]
  exact hK _ _ (h v' w' h2 h3)
end
/-- The block of a row of the call's own holds elements of the row's type. -/
theorem own_blk {w : World} {lo size n : Nat} {e : TypeId} {v : Value} {xs : List Value} (h : w.ownsRow lo e size v n xs) : ∀ g, v.ownBlock = some g → lo ≤ g ∧ ∃ cs, Blk w g cs e := by
  intro g hg
  rcases h.2 with ⟨rfl, _⟩ | ⟨g', cap, cur, rfl, hb, hh, _⟩
  · simp [Value.ownBlock] at hg
  · have : g' = g := by simpa [Value.ownBlock] using hg
    subst this
    exact ⟨hb, cur.toList, by unfold Blk; rw [Array.toArray_toList]; exact hh⟩
theorem own_only {s : Nat → Prop} {w w' : World} {lo size n : Nat} {e : TypeId} {v : Value} {xs : List Value} (h : w.ownsRow lo e size v n xs) (o : Only s w w') (hs : ∀ k, s k → k < lo) : w'.ownsRow lo e size v n xs := by
  refine ⟨h.1, ?_⟩
  rcases h.2 with h2 | ⟨g, cap, cur, hv, hg, hh, r⟩
  · exact .inl h2
  · exact .inr ⟨g, cap, cur, hv, hg, (o.block g (lt_of_block hh) (fun k => by have := hs g k; omega)).trans hh, r⟩
end Go.Proofs.Ytflpjpdgacjlcaa

namespace Go.Proofs.Ytflpjpdgacjlcaa
open Go.RowKit
section
variable {P : Program}
theorem step_app {w : World} {ops : Array Oper} {o : Oper} {a : Act} {K : Act → World → Prop} {Q : Exit → Act → World → Prop} {F : Prop} {t e : TypeId} {z : Value} {size bytes lo n : Nat} (E : EI P t e z size bytes) (hgd : o.guard = none) (s x : Operand)
    (ho : o.op = .call { callee := .builtin .append, args := #[s, x], argTypes := #[t, t] })
    (v : Value) (xs : List Value) (hs : a.eval s = v) (hown : w.ownsRow lo e size v n xs)
    {pl : Nat → Prop} {m c : Nat} {A : Option Addr} {news : List Value} (hx : a.eval x = .slice A m c) (hr : RD w pl size A m news) (h1 : ∀ u ∈ news, u.oneCell' = true) (hm : n + m ≤ 1000000) (hlo : lo ≤ w.heap.size)
    (h : ∀ v' w', w'.ownsRow lo e size v' (n + m) (xs ++ news) → Below lo w w' → K (a.put o.dst v') w') :
    if Region.wanted o (yielded ops a.tmps) = true then Oper.wp P o a w K Q else F := by
  have hw : Region.wanted o (yielded ops a.tmps) = true := by simp [Region.wanted, hgd]
  rw [if_pos hw]
  obtain ⟨v', w', hrun, h2, h3⟩ := run_app E o.type hown (c := c) hr h1 hm hlo
  unfold Oper.wp execOp
  simp only [ho, resolve, invoke, builtin, Sem.run_bind, Sem.run_pure, Result.andThen_ok, List.map_toArray, List.map_cons, List.map_nil, hs, hx, hrun]
  exact h v' w' h2 h3
end
/-- What lies behind the first k: the slice, where it may be the old address if nothing is left. -/
theorem RD.rest' {w : World} {pl : Nat → Prop} {size n b o : Nat} {xs : List Value} (h : RD w pl size (some ⟨b, o, none⟩) n xs) (k d : Nat) (hk : k ≤ n) (hd : n ≤ d) :
    RD w pl size (if d = k then some ⟨b, o, none⟩ else some ⟨b, o + k * size, none⟩) (n - k) (xs.drop (k * size)) := by
  split
  · next e =>
    have hnk : n - k = 0 := by omega
    have : xs.drop (k * size) = [] := List.drop_of_length_le (by rw [h.1]; exact Nat.mul_le_mul_right _ (by omega))
    rw [hnk, this]
    exact RD.nil _ _ _ _
  · exact h.drop k hk
end Go.Proofs.Ytflpjpdgacjlcaa

namespace Go.Proofs.Ytflpjpdgacjlcaa
open Go.RowKit
section
variable {P : Program}
theorem run_app3 {w : World} {t e : TypeId} {z : Value} {size bytes lo n : Nat} (E : EI P t e z size bytes) (ty : TypeId) {v : Value} {xs : List Value} (hown : w.ownsRow lo e size v n xs)
    {pl : Nat → Prop} {m c : Nat} {A : Option Addr} {news : List Value} (hr : RD w pl size A m news) (h1 : ∀ u ∈ news, u.oneCell' = true) (hm : n + m ≤ 1000000) (hlo : lo ≤ w.heap.size) :
    ∃ v' w', (Builtin.append_ #[t, t] ty #[v, .slice A m c]).run P w = .ok v' w' ∧ w'.ownsRow lo e size v' (n + m) (xs ++ news) ∧ w.grownBy w' v.ownBlock ∧ (∀ g, v'.ownBlock = some g → v.ownBlock = some g ∨ w.heap.size ≤ g) := by
  obtain ⟨i, hi, hz, hs, hb⟩ := info_parts E.info
  rcases Nat.eq_zero_or_pos m with h0 | h0
  · subst h0
    have hn : news = [] := List.eq_nil_of_length_eq_zero (by have := hr.1; omega)
    subst hn
    exact ⟨v, w, run_append_nil_src E ty hown A c, by simpa using hown, World.grownBy.refl w _, fun g h => .inl h⟩
  · obtain ⟨b, o, rfl, _, _, hc⟩ := hr.2 h0
    have hbt := E.few
    have hmul : (n + m) * bytes ≤ 1000000 * 1000 := Nat.mul_le_mul hm E.few
    obtain ⟨v', w', hrun, h2, h3, _, h5⟩ := run_append_own_at (P := P) w lo t ty e i z size bytes E.under hi hz hs hb E.cells E.pos v n xs hown ⟨b, o, none⟩ m c news hr.1
      (fun j u hu => by rw [add_off]; exact hc j u hu) h1 (by simp only [maxLen]; omega) (by omega) hlo
    refine ⟨v', w', hrun, h2, h3, fun g h => ?_⟩
    rcases h5 with h5 | h5
    · exact .inl (h5 ▸ h)
    · rw [h5] at h
      injection h with h
      exact .inr (by omega)
/-- append at a step of a drawn region. -/
theorem step_app2 {w : World} {ops : Array Oper} {o : Oper} {a : Act} {K : Act → World → Prop} {Q : Exit → Act → World → Prop} {F : Prop} {t e : TypeId} {z : Value} {size bytes lo n : Nat} (E : EI P t e z size bytes) (hgd : o.guard = none) (s x : Operand)
    (ho : o.op = .call { callee := .builtin .append, args := #[s, x], argTypes := #[t, t] })
    (v : Value) (xs : List Value) (hs : a.eval s = v) (hown : w.ownsRow lo e size v n xs)
    {pl : Nat → Prop} {m c : Nat} {A : Option Addr} {news : List Value} (hx : a.eval x = .slice A m c) (hr : RD w pl size A m news) (h1 : ∀ u ∈ news, u.oneCell' = true) (hm : n + m ≤ 1000000) (hlo : lo ≤ w.heap.size)
    (h : ∀ v' w', w'.ownsRow lo e size v' (n + m) (xs ++ news) → w.grownBy w' v.ownBlock → (∀ g, v'.ownBlock = some g → v.ownBlock = some g ∨ w.heap.size ≤ g) → K (a.put o.dst v') w') :
    if Region.wanted o (yielded ops a.tmps) = true then Oper.wp P o a w K Q else F := by
  have hw : Region.wanted o (yielded ops a.tmps) = true := by simp [Region.wanted, hgd]
  rw [if_pos hw]
  obtain ⟨v', w', hrun, h2, h3, h5⟩ := run_app3 E o.type hown (c := c) hr h1 hm hlo
  unfold Oper.wp execOp
  simp only [ho, resolve, invoke, builtin, Sem.run_bind, Sem.run_pure, Result.andThen_ok, List.map_toArray, List.map_cons, List.map_nil, hs, hx, hrun]
  exact h v' w' h2 h3 h5
/-- append in a walk. -/
theorem wpList_app3 {w : World} {ops : Array Oper} {rest : List Oper} {o : Oper} {a : Act} {Q : Exit → Act → World → Prop} {t e : TypeId} {z : Value} {size bytes lo n : Nat} (E : EI P t e z size bytes) (hgd : o.guard = none) (s x : Operand)
    (ho : o.op = .call { callee := .builtin .append, args := #[s, x], argTypes := #[t, t] })
    (v : Value) (xs : List Value) (hs : a.eval s = v) (hown : w.ownsRow lo e size v n xs)
    {pl : Nat → Prop} {m c : Nat} {A : Option Addr} {news : List Value} (hx : a.eval x = .slice A m c) (hr : RD w pl size A m news) (h1 : ∀ u ∈ news, u.oneCell' = true) (hm : n + m ≤ 1000000) (hlo : lo ≤ w.heap.size)
    (h : ∀ v' w', w'.ownsRow lo e size v' (n + m) (xs ++ news) → w.grownBy w' v.ownBlock → (∀ g, v'.ownBlock = some g → v.ownBlock = some g ∨ w.heap.size ≤ g) → wpList P ops Q rest (a.put o.dst v') w') : wpList P ops Q (o :: rest) a w := by
  refine wpList_plain hgd fun K hK => ?_
  obtain ⟨v', w', hrun, h2, h3, h5⟩ := run_app3 E o.type hown (c := c) hr h1 hm hlo
  unfold Oper.wp execOp
  simp only [ho, resolve, invoke, builtin, Sem.run_bind, Sem.run_pure, Result.andThen_ok, List.map_toArray, List.map_cons, List.map_nil, hs, hx, hrun]
  exact hK _ _ (h v' w' h2 h3 h5)
end
theorem own_keep {s : Nat → Prop} {w w' : World} {lo size n : Nat} {e : TypeId} {v : Value} {xs : List Value} (h : w.ownsRow lo e size v n xs) (o : Only s w w') (hs : ∀ g, v.ownBlock = some g → ¬ s g) : w'.ownsRow lo e size v n xs := by
  refine ⟨h.1, ?_⟩
  rcases h.2 with h2 | ⟨g, cap, cur, rfl, hg, hh, r⟩
  · exact .inl h2
  · exact .inr ⟨g, cap, cur, rfl, hg, (o.block g (lt_of_block hh) (hs g rfl)).trans hh, r⟩
/-- What may turn when the thing whose table is block q is changed, and whose row's slice was v. -/
def PS (q : Nat) (v : Value) (k : Nat) : Prop := k = q ∨ v.ownBlock = some k
end Go.Proofs.Ytflpjpdgacjlcaa

namespace Go.Proofs.Ytflpjpdgacjlcaa

abbrev tt : Nat → Prop := fun _ => True
end Go.Proofs.Ytflpjpdgacjlcaa

namespace Go.Proofs.Ytflpjpdgacjlcaa
open Go.RowKit

theorem Blk.row {w : World} {b : Nat} {cs : List Value} {t : TypeId} (h : Blk w b cs t) (ds : List Value) : Blk (w.setRow b ds.toArray) b ds t := setRow_heap w b _ _ t (0, 0) h
theorem Blk.rowOther {w : World} {b g : Nat} {cs : List Value} {t : TypeId} (h : Blk w b cs t) (hg : b ≠ g) (ds : Array Value) : Blk (w.setRow g ds) b cs t := (setRow_other w g b ds hg).trans h
theorem Only.row {s : Nat → Prop} {a b : World} (h : Only s a b) {g : Nat} (hg : s g) (ds : Array Value) : Only s a (b.setRow g ds) :=
  ⟨h.os, h.tape, h.output, by simpa [World.setRow] using h.size, fun i hi hs => (setRow_other b g i ds (by rintro rfl; exact hs hg)).trans (h.block i hi hs)⟩


section
variable {P : Program}
/-- A struct of cells cs, loaded whole. -/
theorem ld_row {w : World} {b : Nat} {cs : List Value} {t ty : TypeId} {d : TypeDesc} {ops : Array Oper} {rest : List Oper} {o : Oper} {a : Act} {Q : Exit → Act → World → Prop} (h : Blk w b cs t) (hgd : o.guard = none) (x : Operand) (ho : o.op = .load ty x)
    (hx : a.eval x = .pointer (some ⟨b, 0, none⟩)) (hu : P.underlying ty = some d) (hd : (match d with | .struct _ | .array _ _ => true | _ => false) = true) (hi : (P.info? ty).map (·.size) = some cs.length) (hk : wpList P ops Q rest (a.put o.dst (.agg cs.toArray)) w) : wpList P ops Q (o :: rest) a w :=
  wpList_load_row hgd ty x ho b hx t cs.toArray (0, 0) d h hu hd (by rw [List.size_toArray]; exact hi) hk
/-- The same, under a guard that says yes. -/
theorem lw_row {w : World} {b : Nat} {cs : List Value} {t ty : TypeId} {d : TypeDesc} {ops : Array Oper} {rest : List Oper} {o : Oper} {a : Act} {Q : Exit → Act → World → Prop} (h : Blk w b cs t) (x : Operand) (ho : o.op = .load ty x)
    (hx : a.eval x = .pointer (some ⟨b, 0, none⟩)) (hu : P.underlying ty = some d) (hd : (match d with | .struct _ | .array _ _ => true | _ => false) = true) (hi : (P.info? ty).map (·.size) = some cs.length) (hw : Region.wanted o (yielded ops a.tmps) = true) (hk : wpList P ops Q rest (a.put o.dst (.agg cs.toArray)) w) : wpList P ops Q (o :: rest) a w :=
  BigFrame.wpList_want hw fun _ hK => wp_load_row ty x ho b hx t cs.toArray (0, 0) d h hu hd (by rw [List.size_toArray]; exact hi) (hK _ _ hk)
theorem st_row {w : World} {b : Nat} {cs ds : List Value} {t ty : TypeId} {ops : Array Oper} {rest : List Oper} {o : Oper} {a : Act} {Q : Exit → Act → World → Prop} (h : Blk w b ds t) (hgd : o.guard = none) (x y : Operand) (ho : o.op = .store ty x y)
    (hx : a.eval x = .pointer (some ⟨b, 0, none⟩)) (hy : a.eval y = .agg cs.toArray) (hi : (P.info? ty).map (·.size) = some cs.length) (hl : ds.length = cs.length) (h1 : ∀ v ∈ cs, v.oneCell' = true) (hk : wpList P ops Q rest (a.put o.dst undef) (w.setRow b cs.toArray)) : wpList P ops Q (o :: rest) a w :=
  wpList_store_row hgd ty x y ho b _ hx hy t ds.toArray h (by rw [List.size_toArray]; exact hi) (by rw [List.size_toArray, List.size_toArray]; exact hl) (by
    rw [Array.all_eq_true_iff_forall_mem]
    intro v hv
    exact h1 v (by simpa using hv)) hk
theorem load_row {w : World} {b : Nat} {cs : List Value} {t ty : TypeId} {d : TypeDesc} (h : Blk w b cs t) (hu : P.underlying ty = some d) (hd : (match d with | .struct _ | .array _ _ => true | _ => false) = true) (hi : (P.info? ty).map (·.size) = some cs.length) :
    (loadVar ty ⟨b, 0, none⟩).run P w = .ok (.agg cs.toArray) w := run_loadVar_row w b t ty cs.toArray (0, 0) d h hu hd (by rw [List.size_toArray]; exact hi)
/-- What a function gives back that has a cell for a struct, and a number. -/
theorem results_ce {fn : Func} {p t : Tmp} {ty : TypeId} {d : TypeDesc} (hr : fn.results = #[.cell p ty, .tmp t]) (tmps : Array Value) (w : World) (b : Nat) {cs : List Value} {t' : TypeId}
    (hp : tmps.getD p undef = .pointer (some ⟨b, 0, none⟩)) (h : Blk w b cs t') (hu : P.underlying ty = some d) (hd : (match d with | .struct _ | .array _ _ => true | _ => false) = true) (hi : (P.info? ty).map (·.size) = some cs.length) :
    (results fn tmps).run P w = .ok (.tuple #[.agg cs.toArray, tmps.getD t undef]) w := by
  have hp' : tmps[p]?.getD undef = .pointer (some ⟨b, 0, none⟩) := by simpa using hp
  simp [results, hr, hp', asAddr, load_row h hu hd hi]
theorem results_c {fn : Func} {p : Tmp} {ty : TypeId} {d : TypeDesc} (hr : fn.results = #[.cell p ty]) (tmps : Array Value) (w : World) (b : Nat) {cs : List Value} {t' : TypeId}
    (hp : tmps.getD p undef = .pointer (some ⟨b, 0, none⟩)) (h : Blk w b cs t') (hu : P.underlying ty = some d) (hd : (match d with | .struct _ | .array _ _ => true | _ => false) = true) (hi : (P.info? ty).map (·.size) = some cs.length) :
    (results fn tmps).run P w = .ok (.agg cs.toArray) w := by
  have hp' : tmps[p]?.getD undef = .pointer (some ⟨b, 0, none⟩) := by simpa using hp
  simp [results, hr, hp', asAddr, load_row h hu hd hi]
/-- A struct's fresh variable, stored whole. -/
theorem sn_row {w' W : World} {N : Nat} {cs zs : List Value} {ty t : TypeId} {ops : Array Oper} {rest : List Oper} {o : Oper} {a : Act} {Q : Exit → Act → World → Prop} (x y : Operand) (ho : o.op = .store ty x y) (hgd : o.guard = none)
    (hx : a.eval x = .pointer (some ⟨N, 0, none⟩)) (hy : a.eval y = .agg cs.toArray) (hW : w' = W.alloc (.cells zs.toArray t)) (hN : W.heap.size = N) (hi : (P.info? ty).map (·.size) = some cs.length) (hl : zs.length = cs.length) (h1 : ∀ v ∈ cs, v.oneCell' = true)
    (hk : wpList P ops Q rest (a.put o.dst undef) (W.alloc (.cells cs.toArray t))) : wpList P ops Q (o :: rest) a w' := by
  subst hN
  subst hW
  have e : wpList P ops Q rest (a.put o.dst undef) ((W.alloc (.cells zs.toArray t)).setRow W.heap.size cs.toArray) := by
    rw [World.setRow_alloc_new]
    exact hk
  exact st_row (Blk.new W zs t) hgd x y ho hx hy hi hl h1 e
/-- The same laws with what is dear to elaborate behind: as arms of a walk. -/
theorem ldr {w : World} {b : Nat} {cs : List Value} {t ty : TypeId} {d : TypeDesc} {ops : Array Oper} {rest : List Oper} {o : Oper} {a : Act} {Q : Exit → Act → World → Prop} (x : Operand) (ho : o.op = .load ty x)
    (hx : a.eval x = .pointer (some ⟨b, 0, none⟩)) (hu : P.underlying ty = some d) (hd : (match d with | .struct _ | .array _ _ => true | _ => false) = true) (hi : (P.info? ty).map (·.size) = some cs.length) (hw : Region.wanted o (yielded ops a.tmps) = true) (h : Blk w b cs t) (hk : wpList P ops Q rest (a.put o.dst (.agg cs.toArray)) w) : wpList P ops Q (o :: rest) a w :=
  lw_row h x ho hx hu hd hi hw hk
theorem str {w : World} {b : Nat} {cs ds : List Value} {t ty : TypeId} {ops : Array Oper} {rest : List Oper} {o : Oper} {a : Act} {Q : Exit → Act → World → Prop} (x y : Operand) (ho : o.op = .store ty x y) (hgd : o.guard = none)
    (hx : a.eval x = .pointer (some ⟨b, 0, none⟩)) (hy : a.eval y = .agg cs.toArray) (hi : (P.info? ty).map (·.size) = some cs.length) (hl : ds.length = cs.length) (h1 : ∀ v ∈ cs, v.oneCell' = true) (h : Blk w b ds t) (hk : wpList P ops Q rest (a.put o.dst undef) (w.setRow b cs.toArray)) : wpList P ops Q (o :: rest) a w :=
  st_row h hgd x y ho hx hy hi hl h1 hk
theorem snr {w' W : World} {N : Nat} {cs zs : List Value} {ty t : TypeId} {ops : Array Oper} {rest : List Oper} {o : Oper} {a : Act} {Q : Exit → Act → World → Prop} (x y : Operand) (ho : o.op = .store ty x y) (hgd : o.guard = none)
    (hx : a.eval x = .pointer (some ⟨N, 0, none⟩)) (hy : a.eval y = .agg cs.toArray) (hi : (P.info? ty).map (·.size) = some cs.length) (hl : zs.length = cs.length) (h1 : ∀ v ∈ cs, v.oneCell' = true)
    (hW : w' = W.alloc (.cells zs.toArray t)) (hN : W.heap.size = N) (hk : wpList P ops Q rest (a.put o.dst undef) (W.alloc (.cells cs.toArray t))) : wpList P ops Q (o :: rest) a w' := sn_row x y ho hgd hx hy hW hN hi hl h1 hk
end

/-- The world of a function that boxes its struct. -/
structure Bx1 (w w2 : World) (cs : List Value) (t : TypeId) : Prop where
  up : Below w.heap.size w w2
  box : Blk w2 w.heap.size cs t
theorem bx1 (w : World) (cs : List Value) (t : TypeId) : Bx1 w (w.alloc (.cells cs.toArray t)) cs t := ⟨up_alloc _ _, Blk.new w cs t⟩
theorem Bx1.next {w w2 w3 : World} {cs : List Value} {t : TypeId} (h : Bx1 w w2 cs t) (hb : Below w2.heap.size w2 w3) : Bx1 w w3 cs t := ⟨up_trans h.up hb, h.box.up hb h.box.lt⟩
/-- The world of one that has a cell for its answer, too. -/
structure Bx2 (w w2 : World) (cs : List Value) (t : TypeId) (zs : List Value) (t' : TypeId) : Prop where
  up : Below w.heap.size w w2
  box : Blk w2 w.heap.size cs t
  res : Blk w2 (w.heap.size + 1) zs t'
theorem bx2 (w : World) (cs : List Value) (t : TypeId) (zs : List Value) (t' : TypeId) : Bx2 w ((w.alloc (.cells cs.toArray t)).alloc (.cells zs.toArray t')) cs t zs t' := by
  refine ⟨up_trans (up_alloc _ _) (up_alloc _ _), (Blk.new w cs t).alloc _, ?_⟩
  have := Blk.new (w.alloc (.cells cs.toArray t)) zs t'
  rw [show (w.alloc (.cells cs.toArray t)).heap.size = w.heap.size + 1 by simp] at this
  exact this
theorem Bx2.next {w w2 w3 : World} {cs : List Value} {t : TypeId} {zs : List Value} {t' : TypeId} (h : Bx2 w w2 cs t zs t') (hb : Below w2.heap.size w2 w3) : Bx2 w w3 cs t zs t' := ⟨up_trans h.up hb, h.box.up hb h.box.lt, h.res.up hb h.res.lt⟩
end Go.Proofs.Ytflpjpdgacjlcaa

namespace Go.Proofs.Ytflpjpdgacjlcaa
open Go.RowKit

theorem range_below {w w' : World} {b o : Nat} {cs : List Value} (h : w.rangeAt b o cs) (hb : Below w.heap.size w w') (hlt : b < w.heap.size) : w'.rangeAt b o cs := fun j v hv => (hb.cell (p := ⟨b, o + j, none⟩) hlt).trans (h j v hv)
/-- A block that holds just these cells, as a range. -/
theorem Blk.range {w : World} {b : Nat} {cs : List Value} {t : TypeId} (h : Blk w b cs t) : w.rangeAt b 0 cs := fun j v hv => by rw [Nat.zero_add]; exact h.cell j v hv
/-- A part of it. -/
theorem Blk.part {w : World} {b : Nat} {cs : List Value} {t : TypeId} (h : Blk w b cs t) (o n : Nat) {ds : List Value} (he : (cs.drop o).take n = ds) : w.rangeAt b o ds := fun j v hv => by
  subst he
  refine h.cell (o + j) v ?_
  rw [List.getElem?_take] at hv
  split at hv
  · rwa [List.getElem?_drop] at hv
  · cases hv
theorem Blk.there {w : World} {b : Nat} {cs : List Value} {t : TypeId} (h : Blk w b cs t) (o n : Nat) (hn : o + n ≤ cs.length) : w.there b o n := fun j hj => by
  refine ⟨?_, h.free (o + j)⟩
  have : w.cell? ⟨b, o + j, none⟩ = some (cs[o + j]'(by omega)) := h.cell (o + j) _ (List.getElem?_eq_getElem (by omega))
  rw [this]
  rfl

/-- The list with others from place o on. -/
def layL (ds : List Value) (o : Nat) : List Value → List Value
  | [] => ds
  | c :: cs => layL (ds.set o c) (o + 1) cs
theorem Blk.lay {b : Nat} {t : TypeId} : ∀ (cs ds : List Value) (o : Nat) (w : World), Blk w b ds t → Blk (w.setCells b o cs) b (layL ds o cs) t
  | [], _, _, _, h => h
  | c :: cs, ds, o, _, h => Blk.lay cs (ds.set o c) (o + 1) _ (h.set o c)
theorem only_cells {g : Nat} : ∀ (cs : List Value) (o : Nat) (w : World), Only (· = g) w (w.setCells g o cs)
  | [], _, w => Only.refl _ w
  | c :: cs, o, w => ((Only.refl _ w).put o c).trans (only_cells cs (o + 1) _)
/-- The block behind a part that was stored. -/
theorem Blk.laid {w : World} {b : Nat} {ds es : List Value} {t : TypeId} (h : Blk w b ds t) (o : Nat) (cs : List Value) (he : layL ds o cs = es) : Blk (w.setCells b o cs) b es t := he ▸ Blk.lay cs ds o w h
theorem Blk.cellsOther {w : World} {b g : Nat} {ds : List Value} {t : TypeId} (h : Blk w b ds t) (o : Nat) (cs : List Value) (hn : b ≠ g) : Blk (w.setCells g o cs) b ds t := h.only (only_cells cs o w) hn

section
variable {P : Program}
/-- A part of cells cs, loaded whole (under a guard that says yes, or none). -/
theorem lmr {w : World} {b q : Nat} {cs : List Value} {ty : TypeId} {d : TypeDesc} {ops : Array Oper} {rest : List Oper} {o : Oper} {a : Act} {Q : Exit → Act → World → Prop} (x : Operand) (ho : o.op = .load ty x)
    (hx : a.eval x = .pointer (some ⟨b, q, none⟩)) (hu : P.underlying ty = some d) (hd : d.isRow = true) (hi : (P.info? ty).map (·.size) = some cs.length) (hw : Region.wanted o (yielded ops a.tmps) = true) (h : w.rangeAt b q cs) (hk : wpList P ops Q rest (a.put o.dst (.agg cs.toArray)) w) : wpList P ops Q (o :: rest) a w :=
  BigFrame.wpList_want hw fun _ hK => wp_load_mid ty x ho b q hx cs d h hu hd hi (hK _ _ hk)
/-- One stored into a greater one. -/
theorem smr {w : World} {b q : Nat} {cs : List Value} {ty : TypeId} {ops : Array Oper} {rest : List Oper} {o : Oper} {a : Act} {Q : Exit → Act → World → Prop} (x y : Operand) (ho : o.op = .store ty x y) (hgd : o.guard = none)
    (hx : a.eval x = .pointer (some ⟨b, q, none⟩)) (hy : a.eval y = .agg cs.toArray) (hi : (P.info? ty).map (·.size) = some cs.length) (h1 : ∀ v ∈ cs, v.oneCell' = true) (h : w.there b q cs.length) (hk : wpList P ops Q rest (a.put o.dst undef) (w.setCells b q cs)) : wpList P ops Q (o :: rest) a w :=
  wpList_store_mid hgd ty x y ho b q cs.toArray hx hy (by simpa using h) (by simpa using hi) (all_oneCell_toArray h1) (by simpa using hk)
/-- In a region that draws. -/
theorem tk_part {o : Oper} {a : Act} {W : World} {ty : TypeId} {d : TypeDesc} {x : Operand} {b q : Nat} {cs : List Value} (ho : o.op = .load ty x) (hx : a.eval x = .pointer (some ⟨b, q, none⟩)) (hu : P.underlying ty = some d) (hd : d.isRow = true) (hi : (P.info? ty).map (·.size) = some cs.length) (h : W.rangeAt b q cs) :
    (execOp a.eval o).run P W = .ok (.value (.agg cs.toArray)) W := by
  unfold execOp
  simp only [ho, hx, Instr.loadAt, Instr.sureAddr, Sem.run_bind, Sem.run_pure, Result.andThen_ok, run_loadVar_mid W b q ty cs d h hu hd hi]
end

/-- The world of a function that boxes a struct and has a cell for its answer, behind a part that was stored into the box. -/
theorem Bx2.lay {w wc : World} {cs ds es : List Value} {t : TypeId} {zs : List Value} {t' : TypeId} (h : Bx2 w wc cs t zs t') (o : Nat) (he : layL cs o ds = es) : Bx2 w (wc.setCells w.heap.size o ds) es t zs t' :=
  ⟨h.up.trans ((only_cells ds o wc).toBelow h.up.size (fun k hk => by omega)), h.box.laid o ds he, h.res.cellsOther o ds (by omega)⟩
/-- A cell of the box that was stored. -/
theorem Bx2.set {w wc : World} {cs : List Value} {t : TypeId} {zs : List Value} {t' : TypeId} (h : Bx2 w wc cs t zs t') (j : Nat) (u : Value) : Bx2 w (wc.setCell ⟨w.heap.size, j, none⟩ u) (cs.set j u) t zs t' :=
  ⟨h.up.setCell (p := ⟨w.heap.size, j, none⟩) (Nat.le_refl _) u, h.box.set j u, h.res.other ⟨w.heap.size, j, none⟩ (by simp) u⟩
end Go.Proofs.Ytflpjpdgacjlcaa

namespace Go.Proofs.Ytflpjpdgacjlcaa
open Go.RowKit

theorem tk_load {P : Program} {o : Oper} {a : Act} {W : World} {ty : TypeId} {x : Operand} {b : Nat} {v : Value} (ho : o.op = .load ty x) (hx : a.eval x = .pointer (some ⟨b, 0, none⟩)) (hl : (loadVar ty ⟨b, 0, none⟩).run P W = .ok v W) :
    (execOp a.eval o).run P W = .ok (.value v) W := by
  unfold execOp
  simp only [ho, hx, Instr.loadAt, Instr.sureAddr, Sem.run_bind, Sem.run_pure, Result.andThen_ok, hl]
theorem al_one {cs : List Value} (h : ∀ v ∈ cs, v.oneCell' = true) : cs.toArray.all (·.oneCell') = true := by
  rw [Array.all_eq_true_iff_forall_mem]
  intro v hv
  exact h v (by simpa using hv)
/-- What holds in such a region: the box reads so, and the answer's cell is there, in whatever state. -/
structure BS (w : World) (cs : List Value) (t t' : TypeId) (k : Nat) (W : World) : Prop where
  up : Below w.heap.size w W
  box : Blk W w.heap.size cs t
  res : ∃ ds : List Value, ds.length = k ∧ Blk W (w.heap.size + 1) ds t'
theorem BS.of {w w2 : World} {cs zs : List Value} {t t' : TypeId} (h : Bx2 w w2 cs t zs t') : BS w cs t t' zs.length w2 := ⟨h.up, h.box, zs, rfl, h.res⟩
theorem BS.next {w W W' : World} {cs : List Value} {t t' : TypeId} {k : Nat} (h : BS w cs t t' k W) (hb : Below W.heap.size W W') : BS w cs t t' k W' :=
  ⟨up_trans h.up hb, h.box.up hb h.box.lt, by
    obtain ⟨ds, h1, h2⟩ := h.res
    exact ⟨ds, h1, h2.up hb h2.lt⟩⟩
theorem BS.big {w W : World} {cs : List Value} {t t' : TypeId} {k : Nat} (h : BS w cs t t' k W) : w.heap.size + 2 ≤ W.heap.size := by
  obtain ⟨ds, _, h2⟩ := h.res
  exact h2.lt
theorem BS.put {w W : World} {cs : List Value} {t t' : TypeId} {k : Nat} (h : BS w cs t t' k W) (ds : List Value) (hl : ds.length = k) : BS w cs t t' k (W.setRow (w.heap.size + 1) ds.toArray) :=
  ⟨below_setRow h.up (by omega) _, h.box.rowOther (by omega) _, by
    obtain ⟨es, _, h2⟩ := h.res
    exact ⟨ds, hl, h2.row ds⟩⟩
end Go.Proofs.Ytflpjpdgacjlcaa

namespace Go.Proofs.Ytflpjpdgacjlcaa
open Go.RowKit

theorem tk_build {P : Program} {o : Oper} {a : Act} {W : World} {t : TypeId} {parts : Array (Nat × Operand)} {cells : Array Value} (ho : o.op = .build t parts) (hf : P.built t (parts.map fun (i, x) => (i, a.eval x)).toList = some cells) :
    (execOp a.eval o).run P W = .ok (.value (.agg cells)) W := by
  unfold execOp
  simp only [ho, Sem.run_bind, run_build W t _ cells hf, Result.andThen_ok]
  rfl
end Go.Proofs.Ytflpjpdgacjlcaa

namespace Go.Proofs.Ytflpjpdgacjlcaa
open Go.RowKit

structure BL (w : World) (KS : List (Nat × List Value × TypeId)) (r k : Nat) (t : TypeId) (W : World) : Prop where
  up : Below w.heap.size w W
  bx : ∀ x ∈ KS, Blk W x.1 x.2.1 x.2.2
  no : ∀ x ∈ KS, x.1 ≠ r
  lo : w.heap.size ≤ r
  res : ∃ ds : List Value, ds.length = k ∧ Blk W r ds t
theorem BL.ka {w : World} {KS : List (Nat × List Value × TypeId)} {r k : Nat} {t : TypeId} {W : World} (h : BL w KS r k t W) (i : Nat) {b : Nat} {cs : List Value} {u : TypeId} (hi : KS[i]? = some (b, cs, u)) : Blk W b cs u := h.bx _ (List.mem_of_getElem? hi)
theorem BL.next {w : World} {KS : List (Nat × List Value × TypeId)} {r k : Nat} {t : TypeId} {W W' : World} (h : BL w KS r k t W) (hb : Below W.heap.size W W') : BL w KS r k t W' :=
  ⟨up_trans h.up hb, fun x hx => (h.bx x hx).up hb (h.bx x hx).lt, h.no, h.lo, by
    obtain ⟨ds, h1, h2⟩ := h.res
    exact ⟨ds, h1, h2.up hb h2.lt⟩⟩
theorem BL.put {w : World} {KS : List (Nat × List Value × TypeId)} {r k : Nat} {t : TypeId} {W : World} (h : BL w KS r k t W) (ds : List Value) (hl : ds.length = k) : BL w KS r k t (W.setRow r ds.toArray) :=
  ⟨below_setRow h.up h.lo _, fun x hx => (h.bx x hx).rowOther (h.no x hx) _, h.no, h.lo, by
    obtain ⟨es, _, h2⟩ := h.res
    exact ⟨ds, hl, h2.row ds⟩⟩
theorem BL.var {w : World} {KS : List (Nat × List Value × TypeId)} {r k : Nat} {t : TypeId} {W : World} (h : BL w KS r k t W) {b : Nat} {cs : List Value} {u : TypeId} (hk : Blk W b cs u) (hb : b ≠ r) : BL w ((b, cs, u) :: KS) r k t W :=
  ⟨h.up, fun x hx => (List.mem_cons.1 hx).elim (fun e => by rw [e]; exact hk) (h.bx x), fun x hx => (List.mem_cons.1 hx).elim (fun e => by rw [e]; exact hb) (h.no x), h.lo, h.res⟩
/-- A fresh variable. -/
theorem BL.new {w : World} {KS : List (Nat × List Value × TypeId)} {r k : Nat} {t : TypeId} {W : World} (h : BL w KS r k t W) (cs : List Value) (u : TypeId) : BL w ((W.heap.size, cs, u) :: KS) r k t (W.alloc (.cells cs.toArray u)) :=
  (h.next (up_alloc _ _)).var (Blk.new W cs u) (by
    obtain ⟨ds, _, h2⟩ := h.res
    have := h2.lt
    omega)
/-- The entry: a result's cell alone; boxes come behind. -/
theorem bl1 (w : World) (cs : List Value) (u : TypeId) (zs : List Value) (t : TypeId) : BL w [(w.heap.size, cs, u)] (w.heap.size + 1) zs.length t ((w.alloc (.cells cs.toArray u)).alloc (.cells zs.toArray t)) := by
  have h := bx2 w cs u zs t
  exact ⟨h.up, fun x hx => by
    obtain rfl : x = (w.heap.size, cs, u) := by simpa using hx
    exact h.box, fun x hx => by
    obtain rfl : x = (w.heap.size, cs, u) := by simpa using hx
    show w.heap.size ≠ _
    omega, by omega, zs, rfl, h.res⟩
theorem bl2 (w : World) (cs : List Value) (u : TypeId) (ds : List Value) (v : TypeId) (zs : List Value) (t : TypeId) : BL w [(w.heap.size, cs, u), (w.heap.size + 1, ds, v)] (w.heap.size + 2) zs.length t (((w.alloc (.cells cs.toArray u)).alloc (.cells ds.toArray v)).alloc (.cells zs.toArray t)) := by
  have h := bx2 w cs u ds v
  have hs : ((w.alloc (.cells cs.toArray u)).alloc (.cells ds.toArray v)).heap.size = w.heap.size + 2 := by simp
  have k := Blk.new ((w.alloc (.cells cs.toArray u)).alloc (.cells ds.toArray v)) zs t
  rw [hs] at k
  have n := h.next (up_alloc _ (.cells zs.toArray t))
  refine ⟨n.up, fun x hx => ?_, fun x hx => ?_, by omega, zs, rfl, k⟩
  · simp only [List.mem_cons, List.not_mem_nil, or_false] at hx
    rcases hx with rfl | rfl
    · exact n.box
    · exact n.res
  · simp only [List.mem_cons, List.not_mem_nil, or_false] at hx
    rcases hx with rfl | rfl
    · show w.heap.size ≠ _; omega
    · show w.heap.size + 1 ≠ _; omega
end Go.Proofs.Ytflpjpdgacjlcaa

namespace Go.Proofs.Ytflpjpdgacjlcaa
open Go.RowKit

/-- A make of elements: their cells, and what they ask of memory, where their lists may lie. -/
structure Mk (α : Type) where
  f : α → List Value
  m : Nat
  len : ∀ a, (f a).length = m
  pos : 0 < m
  one : ∀ a, ∀ u ∈ f a, u.oneCell' = true
  E : (Nat → Prop) → α → World → Prop
  only : ∀ {s : Nat → Prop} {w w' : World} {pl : Nat → Prop} {q : α}, E pl q w → Only s w w' → (∀ k, s k → ¬ pl k) → E pl q w'
  lo : ∀ {w : World} {pl pl' : Nat → Prop} {q : α}, E pl q w → (∀ b, pl b → pl' b) → E pl' q w
  lt : ∀ {w : World} {pl : Nat → Prop} {q : α}, E pl q w → E (fun b => pl b ∧ b < w.heap.size) q w
theorem Mk.below {α : Type} (K : Mk α) {w w' : World} {pl : Nat → Prop} {q : α} (h : K.E pl q w) (hb : Below w.heap.size w w') : K.E pl q w' := K.only (s := fun _ => False) h (Only.of_below hb) fun _ k => k.elim
theorem flatN {α β : Type} (f : α → List β) (m : Nat) (hf : ∀ a, (f a).length = m) : ∀ l : List α, (l.flatMap f).length = l.length * m
  | [] => by simp
  | a :: l => by rw [List.flatMap_cons, List.length_append, hf, flatN f m hf l, List.length_cons, Nat.succ_mul]; omega
theorem Mk.oneL {α : Type} (K : Mk α) (L : List α) : ∀ u ∈ L.flatMap K.f, u.oneCell' = true := by
  intro u hu
  obtain ⟨q, _, hq⟩ := List.mem_flatMap.1 hu
  exact K.one q u hq
/-- They read as a list. -/
structure TW {α : Type} (K : Mk α) (w : World) (pl : Nat → Prop) (A : Option Addr) (n : Nat) (L : List α) : Prop where
  rd : RD w pl K.m A n (L.flatMap K.f)
  len : L.length = n
  each : ∀ q ∈ L, K.E pl q w
section
variable {α : Type} {K : Mk α}
theorem TW.below {w w' : World} {pl : Nat → Prop} {A : Option Addr} {n : Nat} {L : List α} (h : TW K w pl A n L) (hb : Below w.heap.size w w') : TW K w' pl A n L := ⟨h.rd.below hb, h.len, fun q hq => K.below (h.each q hq) hb⟩
theorem TW.only {s : Nat → Prop} {w w' : World} {pl : Nat → Prop} {A : Option Addr} {n : Nat} {L : List α} (h : TW K w pl A n L) (o : Only s w w') (hs : ∀ k, s k → ¬ pl k) : TW K w' pl A n L := ⟨h.rd.only o hs, h.len, fun q hq => K.only (h.each q hq) o hs⟩
theorem TW.lo {w : World} {pl pl' : Nat → Prop} {A : Option Addr} {n : Nat} {L : List α} (h : TW K w pl A n L) (hl : ∀ b, pl b → pl' b) : TW K w pl' A n L := ⟨h.rd.lo hl, h.len, fun q hq => K.lo (h.each q hq) hl⟩
theorem TW.lt {w : World} {pl : Nat → Prop} {A : Option Addr} {n : Nat} {L : List α} (h : TW K w pl A n L) : TW K w (fun b => pl b ∧ b < w.heap.size) A n L := ⟨h.rd.lt, h.len, fun q hq => K.lt (h.each q hq)⟩
theorem TW.none (K : Mk α) (w : World) (pl : Nat → Prop) : TW K w pl none 0 [] := ⟨RD.nil _ _ _ _, rfl, fun q hq => absurd hq (by simp)⟩
/-- One element of a slice of structs: where it lies, as a range. -/
theorem RD.row' {f : α → List Value} {m : Nat} (hf : ∀ a, (f a).length = m) {w : World} {pl : Nat → Prop} {A : Option Addr} {n : Nat} {l : List α} (h : RD w pl m A n (l.flatMap f)) {k : Nat} {a : α} (ha : l[k]? = some a) (hk : k < n) :
    ∃ b o, A = some ⟨b, o, Option.none⟩ ∧ pl b ∧ b < w.heap.size ∧ w.rangeAt b (o + k * m) (f a) := by
  obtain ⟨b, o, rfl, h1, h2, h3⟩ := h.at_ (by omega)
  refine ⟨b, o, rfl, h1, h2, fun j v hv => ?_⟩
  have hj : j < m := by
    have := (List.getElem?_eq_some_iff.1 hv).1
    rwa [hf] at this
  rw [Nat.add_assoc]
  exact h3 (k * m + j) v (by rw [flat_get f m hf l k j a ha hj]; exact hv)
theorem TW.at_ {w : World} {pl : Nat → Prop} {A : Option Addr} {n : Nat} {L : List α} (h : TW K w pl A n L) (k : Nat) (hk : k < n) :
    ∃ b o q, A = some ⟨b, o, Option.none⟩ ∧ pl b ∧ b < w.heap.size ∧ L[k]? = some q ∧ w.rangeAt b (o + k * K.m) (K.f q) ∧ K.E pl q w := by
  have hkL : k < L.length := by rw [h.len]; exact hk
  have hq := List.getElem?_eq_getElem hkL
  obtain ⟨b, o, e, h1, h2, h3⟩ := RD.row' K.len h.rd hq hk
  exact ⟨b, o, L[k], e, h1, h2, hq, h3, h.each _ (List.getElem_mem hkL)⟩
end

theorem layG : ∀ (cs ds : List Value) (o j : Nat), (layL ds o cs)[j]? = if o ≤ j ∧ j < o + cs.length ∧ j < ds.length then cs[j - o]? else ds[j]?
  | [], ds, o, j => by
    unfold layL
    rw [if_neg (by simp; omega)]
  | c :: cs, ds, o, j => by
    unfold layL
    rw [layG cs (ds.set o c) (o + 1) j, List.length_set, List.length_cons]
    by_cases hj : o + 1 ≤ j ∧ j < o + 1 + cs.length ∧ j < ds.length
    · rw [if_pos hj, if_pos (by omega), show j - o = (j - (o + 1)) + 1 by omega, List.getElem?_cons_succ]
    · rw [if_neg hj, List.getElem?_set]
      by_cases ho : o = j
      · subst ho
        rw [if_pos rfl]
        by_cases hl : o < ds.length
        · rw [if_pos hl, if_pos (by omega), Nat.sub_self, List.getElem?_cons_zero]
        · rw [if_neg hl, if_neg (by omega), List.getElem?_eq_none (by omega)]
      · rw [if_neg ho, if_neg (by omega)]
theorem layN : ∀ (cs ds : List Value) (o : Nat), (layL ds o cs).length = ds.length
  | [], _, _ => rfl
  | c :: cs, ds, o => by
    unfold layL
    rw [layN cs _ _, List.length_set]
theorem lay_list {α : Type} (f : α → List Value) (m : Nat) (hf : ∀ a, (f a).length = m) (hm : 0 < m) (L : List α) (k : Nat) (q : α) (hk : k < L.length) (ex : List Value) : layL (L.flatMap f ++ ex) (k * m) (f q) = (L.set k q).flatMap f ++ ex := by
  refine List.ext_getElem? fun j => ?_
  rw [layG, hf, List.length_append, flatN f m hf]
  have hls := flatN f m hf (L.set k q)
  rw [List.length_set] at hls
  have hl0 := flatN f m hf L
  have hkm : k * m + m ≤ L.length * m := by
    have := Nat.mul_le_mul_right m (show k + 1 ≤ L.length from hk)
    rwa [Nat.succ_mul] at this
  by_cases hj : k * m ≤ j ∧ j < k * m + m
  · rw [if_pos (by omega), List.getElem?_append_left (by omega)]
    have := flat_get f m hf (L.set k q) k (j - k * m) q (by rw [List.getElem?_set, if_pos rfl, if_pos hk]) (by omega)
    rw [← this]
    congr 1
    omega
  · rw [if_neg (by omega)]
    by_cases hlt : j < L.length * m
    · rw [List.getElem?_append_left (by omega), List.getElem?_append_left (by omega)]
      have hd : j / m < L.length := Nat.div_lt_of_lt_mul (by rw [Nat.mul_comm]; exact hlt)
      have hmod := Nat.mod_lt j hm
      have hdm : j = j / m * m + j % m := by
        have := Nat.div_add_mod j m
        rw [Nat.mul_comm] at this
        omega
      have hne : k ≠ j / m := by
        intro e
        rw [e] at hj
        omega
      have h1 := flat_get f m hf L (j / m) (j % m) L[j / m] (List.getElem?_eq_getElem hd) hmod
      have h2 := flat_get f m hf (L.set k q) (j / m) (j % m) L[j / m] (by rw [List.getElem?_set, if_neg hne, List.getElem?_eq_getElem hd]) hmod
      rw [← hdm] at h1 h2
      rw [h1, h2]
    · rw [List.getElem?_append_right (by omega), List.getElem?_append_right (by omega), hls, hl0]

/-- What is not the row's block. -/
def nOwn (v : Value) : Nat → Prop := fun b => v.ownBlock ≠ some b
/-- What may turn of it. -/
def isOwn (v : Value) : Nat → Prop := fun b => v.ownBlock = some b
/-- A slice of the call's own: its row may be written to; its elements' lists lie elsewhere. -/
structure OT {α : Type} (K : Mk α) (w : World) (T : TypeId) (lo : Nat) (v : Value) (n : Nat) (L : List α) : Prop where
  own : w.ownsRow lo T K.m v n (L.flatMap K.f)
  each : ∀ q ∈ L, K.E (nOwn v) q w
section
variable {α : Type} {K : Mk α} {w w' : World} {T : TypeId} {lo n : Nat} {v : Value} {L : List α}
theorem OT.len (h : OT K w T lo v n L) : L.length = n := by
  have := h.own.1
  rw [flatN K.f K.m K.len] at this
  exact Nat.eq_of_mul_eq_mul_right K.pos this
theorem OT.nil (K : Mk α) (w : World) (T : TypeId) (lo : Nat) : OT K w T lo (.slice none 0 0) 0 [] := ⟨World.ownsRow_nil _ _ _ _, fun q hq => absurd hq (by simp)⟩
theorem OT.below (h : OT K w T lo v n L) (hb : Below w.heap.size w w') : OT K w' T lo v n L := ⟨own_below h.own hb, fun q hq => K.below (h.each q hq) hb⟩
theorem OT.only {s : Nat → Prop} (h : OT K w T lo v n L) (o : Only s w w') (h1 : ∀ g, v.ownBlock = some g → ¬ s g) (h2 : ∀ q ∈ L, K.E (nOwn v) q w') : OT K w' T lo v n L := ⟨own_keep h.own o h1, h2⟩
theorem OT.tw (h : OT K w T lo v n L) : ∃ A c, v = .slice A n c ∧ TW K w tt A n L := by
  obtain ⟨A, c, rfl, h1, h2, h3⟩ := own_slice h.own
  exact ⟨A, c, rfl, ⟨h3.lo (fun _ _ => trivial), h.len, fun q hq => K.lo (h.each q hq) (fun _ _ => trivial)⟩⟩
theorem OT.new (h : OT K w T lo v n L) : ∀ b, w.heap.size ≤ b → nOwn v b := by
  intro b hb hv
  rcases h.own.2 with ⟨rfl, _⟩ | ⟨g, cap, cur, rfl, _, hh, _⟩
  · cases hv
  · have : g = b := by simpa [Value.ownBlock] using hv
    have := lt_of_block hh
    omega
theorem OT.pos (h : OT K w T lo v n L) (hn : 0 < n) :
    ∃ g c ex, v = .slice (some ⟨g, 0, Option.none⟩) n c ∧ lo ≤ g ∧ Blk w g (L.flatMap K.f ++ ex) T ∧ (n ≤ c ∧ c ≤ maxLen ∧ (L.flatMap K.f ++ ex).length = c * K.m) := by
  rcases h.own.2 with ⟨rfl, h0⟩ | ⟨g, cap, cur, rfl, hg, hh, hc, hm, hsz, htk⟩
  · omega
  · refine ⟨g, cap, cur.toList.drop (n * K.m), rfl, hg, ?_, hc, hm, ?_⟩
    · unfold Blk
      rw [hh, ← htk, List.take_append_drop]
    · rw [← htk, List.take_append_drop]
      simpa using hsz
theorem OT.at_ (h : OT K w T lo v n L) (k : Nat) (hk : k < n) :
    ∃ g c q, v = .slice (some ⟨g, 0, Option.none⟩) n c ∧ lo ≤ g ∧ g < w.heap.size ∧ L[k]? = some q ∧ w.rangeAt g (k * K.m) (K.f q) ∧ w.there g (k * K.m) K.m ∧ K.E (nOwn v) q w := by
  obtain ⟨g, c, ex, rfl, hg, hb, hc, hm, hl⟩ := h.pos (by omega)
  have hkL : k < L.length := by rw [h.len]; exact hk
  have hlL := h.len
  have hfl := flatN K.f K.m K.len L
  have hkm : k * K.m + K.m ≤ L.length * K.m := by
    have := Nat.mul_le_mul_right K.m (show k + 1 ≤ L.length from hkL)
    rwa [Nat.succ_mul] at this
  refine ⟨g, c, L[k], rfl, hg, hb.lt, List.getElem?_eq_getElem hkL, fun j v hv => ?_, fun j hj => ?_, h.each _ (List.getElem_mem hkL)⟩
  · have hj : j < K.m := by
      have := (List.getElem?_eq_some_iff.1 hv).1
      rwa [K.len] at this
    refine hb.cell _ _ ?_
    rw [List.getElem?_append_left (by omega), flat_get K.f K.m K.len L k j L[k] (List.getElem?_eq_getElem hkL) hj]
    exact hv
  · refine ⟨?_, ?_⟩
    · rw [hb.cell']
      rw [List.getElem?_eq_getElem (by rw [List.length_append]; omega)]
      rfl
    · unfold Blk at hb
      simp [World.frozen?, hb]
end
section
variable {α : Type} {K : Mk α} {w w' : World} {T : TypeId} {lo n g c : Nat} {L : List α}
theorem slice_inj {g g' n c c' : Nat} (e : Value.slice (some ⟨g, 0, none⟩) n c = .slice (some ⟨g', 0, none⟩) n c') : g = g' ∧ c = c' := by
  injection e with e1 _ e2
  injection e1 with e1
  injection e1 with e1
  exact ⟨e1, e2⟩
theorem OT.th (h : OT K w T lo (.slice (some ⟨g, 0, none⟩) n c) n L) (k : Nat) (hk : k < n) : w.there g (k * K.m) K.m := by
  obtain ⟨g', c', _, e, _, _, _, _, ht, _⟩ := h.at_ k hk
  obtain ⟨rfl, rfl⟩ := slice_inj e
  exact ht
/-- An element is stored at its place. -/
theorem OT.put (h : OT K w T lo (.slice (some ⟨g, 0, none⟩) n c) n L) (k : Nat) (hk : k < n) (q : α) (hq : K.E (nOwn (.slice (some ⟨g, 0, none⟩) n c)) q w) :
    OT K (w.setCells g (k * K.m) (K.f q)) T lo (.slice (some ⟨g, 0, none⟩) n c) n (L.set k q) := by
  obtain ⟨g', c', ex, e, hg, hb, hc, hm, hl⟩ := h.pos (by omega)
  obtain ⟨rfl, rfl⟩ := slice_inj e
  have hkL : k < L.length := by rw [h.len]; exact hk
  have hb' := Blk.lay (K.f q) _ (k * K.m) w hb
  rw [lay_list K.f K.m K.len K.pos L k q hkL ex] at hb'
  have ho : Only (· = g) w (w.setCells g (k * K.m) (K.f q)) := only_cells _ _ _
  have hno : ∀ b, b = g → ¬ nOwn (.slice (some ⟨g, 0, none⟩) n c) b := fun b hb hn => hn (by rw [hb]; rfl)
  have hls := flatN K.f K.m K.len (L.set k q)
  rw [List.length_set, h.len] at hls
  refine ⟨⟨by rw [hls], .inr ⟨g, c, ((L.set k q).flatMap K.f ++ ex).toArray, rfl, hg, hb', hc, hm, ?_, ?_⟩⟩, fun x hx => ?_⟩
  · have hl0 := flatN K.f K.m K.len L
    rw [h.len] at hl0
    rw [List.length_append, hl0] at hl
    rw [List.size_toArray, List.length_append, hls, hl]
  · rw [← hls]
    simp
  · rcases List.mem_or_eq_of_mem_set hx with hx | rfl
    · exact K.only (h.each x hx) ho hno
    · exact K.only hq ho hno
end
/-- What append leaves of elements that lay there before. -/
theorem OT.of {α : Type} {K : Mk α} {w w' : World} {T : TypeId} {v : Value} {n : Nat} {L : List α} (h : w'.ownsRow w.heap.size T K.m v n (L.flatMap K.f)) {pl : Nat → Prop} (k : ∀ q ∈ L, K.E pl q w) (hb : Below w.heap.size w w') : OT K w' T w.heap.size v n L := by
  refine ⟨h, fun q hq => K.lo (K.below (K.lt (k q hq)) hb) fun b hb' e => ?_⟩
  have := (h.lt b e).1
  have := hb'.2
  omega
/-- A new row of one element, which append is given. -/
theorem RD.oneK {α : Type} (K : Mk α) {w : World} {q : α} {t : TypeId} {n : Nat} (hn : n = w.heap.size) : RD (w.alloc (.cells (K.f q).toArray t)) tt K.m (some ⟨n, 0, none⟩) 1 ([q].flatMap K.f) :=
  hn ▸ RD.of_blk (xs := [q].flatMap K.f) (t := t) (by simpa using Blk.new w (K.f q) t) (by rw [flatN K.f K.m K.len]; simp) trivial
/-- The row behind an append: it has grown by one, whose lists lie in none of its blocks. -/
theorem OT.app {α : Type} {K : Mk α} {w w1 w' : World} {T : TypeId} {lo : Nat} {v v' : Value} {n m : Nat} {L : List α} {q : α} (h : OT K w T lo v n L) (hb : Below w.heap.size w w1)
    (hw : w'.ownsRow lo T K.m v' m ((L ++ [q]).flatMap K.f)) (hg : w1.grownBy w' v.ownBlock) (hn : ∀ g, v'.ownBlock = some g → v.ownBlock = some g ∨ w1.heap.size ≤ g) (hq : K.E (fun b => nOwn v b) q w1) : OT K w' T lo v' m (L ++ [q]) := by
  have ho : Only (isOwn v) w1 w' := (Only.refl (isOwn v) w1).grown hg (fun k e => .inl e)
  have hno : ∀ k, isOwn v k → ¬ (nOwn v k ∧ k < w1.heap.size) := fun k h1 h2 => h2.1 h1
  have hto : ∀ b, nOwn v b ∧ b < w1.heap.size → nOwn v' b := fun b h1 e => by
    rcases hn b e with h2 | h2
    · exact h1.1 h2
    · have := h1.2
      omega
  refine ⟨hw, fun x hx => ?_⟩
  rcases List.mem_append.1 hx with hx | hx
  · exact K.lo (K.only (K.lt (K.below (h.each x hx) hb)) ho hno) hto
  · obtain rfl : x = q := by simpa using hx
    exact K.lo (K.only (K.lt hq) ho hno) hto
end Go.Proofs.Ytflpjpdgacjlcaa

namespace Go.Proofs.Ytflpjpdgacjlcaa
open Go.RowKit

theorem ei_int : EI Try.prog 36 3 (.int .i64 0) 1 8 := ⟨Try.underlying36, by kernel_rfl, rfl, by omega, by omega⟩
/-- A slice of ints that reads so, in new memory. -/
def IntsPost (w : World) (zs : List Int) (e : Ending) (w' : World) : Prop := ∃ A c, e = .returned (.slice A zs.length c) ∧ zs.length ≤ c ∧ c ≤ maxLen ∧ RD w' (w.heap.size ≤ ·) 1 A zs.length (zs.map (Value.int .i64)) ∧ Below w.heap.size w w'
theorem IntsPost.of {w w' : World} {v : Value} {zs : List Int} {n : Nat} (h : w'.ownsRow w.heap.size 3 1 v n (zs.map (Value.int .i64))) (hb : Below w.heap.size w w') : IntsPost w zs (.returned v) w' := by
  obtain ⟨A, c, rfl, h1, h2, h3⟩ := own_slice h
  obtain rfl : n = zs.length := by have := h.1; simpa using this.symm
  exact ⟨A, c, rfl, h1, h2, h3, hb⟩
theorem IntsPost.of' {w w' : World} {v : Value} {zs : List Int} {n lo : Nat} (h : w'.ownsRow lo 3 1 v n (zs.map (Value.int .i64))) (hlo : w.heap.size ≤ lo) (hb : Below w.heap.size w w') : IntsPost w zs (.returned v) w' := by
  obtain ⟨A, c, rfl, h1, h2, h3⟩ := own_slice h
  obtain rfl : n = zs.length := by have := h.1; simpa using this.symm
  exact ⟨A, c, rfl, h1, h2, h3.lo fun b hb => Nat.le_trans hlo hb, hb⟩
theorem IntsPost.empty (w : World) : IntsPost w [] (.returned (.slice none 0 0)) w := ⟨none, 0, rfl, Nat.le_refl _, by unfold maxLen; omega, RD.nil _ _ _ _, Below.refl _ _⟩
theorem take_next {α : Type} (L : List α) (q : Nat) (a : α) (h : L[q]? = some a) : L.take (q + 1) = L.take q ++ [a] := by
  rw [List.take_add_one, h]
  rfl
end Go.Proofs.Ytflpjpdgacjlcaa

namespace Go.Proofs.Ytflpjpdgacjlcaa
open Go.RowKit

def DrewPost (v : Value) (w : World) (e : Ending) (w' : World) : Prop := e = .returned v ∧ Drew w w'
set_option maxHeartbeats 1000000 in
theorem c_same {w : World} {pl pl' : Nat → Prop} {A B : Option Addr} {c d : Nat} {zs : List Int} (hA : RD w pl 1 A zs.length (zs.map (Value.int .i64))) (hB : RD w pl' 1 B zs.length (zs.map (Value.int .i64))) (hz : zs.length ≤ 100000) :
    Calls Try.prog 15 #[.slice A zs.length c, .slice B zs.length d] w (DrewPost (.bool true) w) := by
  have hne : ((zs.length : Int) != zs.length) = false := by simp
  go_enter Try.func15, Try.ntmps15
  go_wp2
  go_loopw [5] (fun i wr => ∃ k : Nat, k ≤ zs.length ∧ i = .int .i64 k ∧ Drew w wr) (fun i _ => zs.length - (intOf i).toNat)
  case atStart => exact ⟨0, Nat.zero_le _, rfl, Drew.refl _⟩
  case round =>
    obtain ⟨k, hk, rfl, n, rfl⟩ := hrel
    by_cases hlt : k < zs.length
    · obtain ⟨bA, oA, rfl, _, _, hcA⟩ := hA.at_ (by omega)
      obtain ⟨bB, oB, rfl, _, _, hcB⟩ := hB.at_ (by omega)
      have h1 := hcA k (.int .i64 zs[k]) (by simp [hlt])
      have h2 := hcB k (.int .i64 zs[k]) (by simp [hlt])
      have hk0 : (0 : Int) ≤ k := by omega
      have hk1 : (k : Int) < zs.length := by omega
      have hn2 : (zs[k] != zs[k]) = false := by simp
      clear hcA hcB hA hB
      generalize zs[k] = z at h1 h2 hn2
      go_wp2_with fail
      go_quiet (fail)
      go_wp2
      go_roundw
      case rel => exact ⟨k + 1, by omega, by go_num, _, rfl⟩
      case measure => simp [intOf]; omega
    · obtain rfl : k = zs.length := by omega
      go_wp2
      go_ret
      exact ⟨rfl, _, rfl⟩
end Go.Proofs.Ytflpjpdgacjlcaa

namespace Go.Proofs.Ytflpjpdgacjlcaa

/-- A guard, as plain data: its kind, its object, its value, its register, its number. -/
structure GD where
  (k o v r n : Int)
def gdC (g : GD) : List Value := [.int .i64 g.k, .int .i64 g.o, .int .i64 g.v, .int .i64 g.r, .int .i64 g.n]
theorem gdC_len (g : GD) : (gdC g).length = 5 := rfl
theorem gdC_one (g : GD) : ∀ v ∈ gdC g, v.oneCell' = true := by
  intro v hv
  simp only [gdC, List.mem_cons, List.not_mem_nil, or_false] at hv
  rcases hv with rfl | rfl | rfl | rfl | rfl <;> rfl
end Go.Proofs.Ytflpjpdgacjlcaa

/- A law for a loop over a sequence that keeps a variable of its own (the variable lies in block V, and turns between two rounds); package choice's told is one. -/
import Derived.Test.YtpbjfadandnhaaaPkc
namespace Go.Proofs.Ytpbjfadandnhaaa
open Go.RowKit Go.Shelf
attribute [local go_sem] Oper.semAt_some

/-- What a round keeps of the sequence's variable. -/
def VKeep (V : Nat) (A B : World) : Prop := B.heap[V]? = A.heap[V]?
theorem VKeep.trans {V : Nat} {A B C : World} (h : VKeep V A B) (k : VKeep V B C) : VKeep V A C := Eq.trans k h
theorem VKeep.blk {V : Nat} {A B : World} {cs : List Value} {t : TypeId} (h : VKeep V A B) (k : Blk A V cs t) : Blk B V cs t := Eq.trans h k
/-- A sequence of T, of N at most, that turns its variable alone. -/
def SeqVar {α : Type} (V : Nat) (t : TypeId) (n : Nat) (P : Program) (g : Nat) (lb : Array Value) (encs : α → Array Value) (T : List α) (N : Nat) (w : World) : Prop :=
  ∀ (l : Nat) (J Jx : List α → World → Prop) (W : World), Below w.heap.size w W → (∀ s A B, J s A → Only (· = V) A B → (∃ v, Blk B V [v] t) → J s B) →
    (∀ pre x W1, J pre W1 → pre.length < N → YieldAt Fence.wide (n - 1) P l (encs x) W1 fun e W' =>
      (e = .returned (.bool true) ∧ J (pre ++ [x]) W' ∧ VKeep V W1 W') ∨ (e = .returned (.bool false) ∧ Jx (pre ++ [x]) W')) →
    J [] W → CallsIn Fence.wide n P g (#[.func (.yield l) #[] #[]] ++ lb) W fun e W' => (∃ v, e = .returned v) ∧ (J T W' ∨ ∃ pre, pre <+: T ∧ Jx pre W')

theorem range_var {α : Type} {P : Program} {n V : Nat} {t : TypeId} {g : Operand} {ps : Array Tmp} {assign body : Code} {Q : Exit → Act → World → Prop} {a : Act} {w : World} (hV : V < w.heap.size)
    (h1 : 1 ≤ n) {gf : Nat} {lb : Array Value} (hg : a.eval g = .func (.func gf) #[] lb) (eg : ∀ args w, (callFunc gf args).run P w = .ok (.enter gf args) w)
    {encs : α → Array Value} {T : List α} {N : Nat} (hseq : SeqVar V t (n - 1) P gf lb encs T N w) (hps : ∀ x, (encs x).size = ps.size)
    (I : List α → World → Prop) (Ix : Code → List α → World → Prop) (hI : OwnFrom w.heap.size I) (hIV : ∀ s A B, I s A → Only (· = V) A B → (∃ v, Blk B V [v] t) → I s B) (hIx : ∀ c, OwnFrom w.heap.size (Ix c)) (h0 : I [] w)
    (Ax : α → Act → World → Prop) (hAx : ∀ x a', OwnFrom w.heap.size (fun (_ : Unit) W => Ax x a' W))
    (hassign : ∀ (l : Nat) (pre : List α) (x : α) (W : World) (K : Act → World → Prop), I pre W → (∀ a' W', KeepsFrom w.heap.size W W' → VKeep V W W' → I pre W' → Ax x a' W' → K a' W') →
      assign.wpIn (Fence.wide.inRound l) (n - 1 - 1) P (Exit.then K (fun _ _ _ => False)) { tmps := (ps.zip (encs x)).foldl (fun t (p, v) => t.setIfInBounds p v) a.tmps, defers := [] } W)
    (hbody : ∀ (l : Nat) (pre : List α) (x : α) (a' : Act) (W : World), I pre W → Ax x a' W → pre.length < N → body.wpIn (Fence.wide.inRound l) (n - 1 - 1) P (ownPostG w.heap.size (VKeep V) I Ix (pre ++ [x]) W) a' W)
    (hdone : ∀ (D : Nat) (W : World), w.heap.size ≤ D → I T W → W.heap[D]? = some (.deferred (some [])) → Q .normal { a with defers := { target := .collected D, args := #[] } :: a.defers } W)
    (hstop : ∀ (D : Nat) (c : Code) (pre : List α) (W : World), w.heap.size ≤ D → pre <+: T → Ix c pre W → W.heap[D]? = some (.deferred (some [])) → c.wpIn Fence.wide n P Q { a with defers := { target := .collected D, args := #[] } :: a.defers } W) :
    (Code.rangeFunc g ps assign body).wpIn Fence.wide n P Q a w := by
  refine wpIn_rangeFunc ?_
  intro fn hfn
  rw [show Fence.wide.round = none from rfl]
  -- the loop's record, by how far it is, at block w.heap.size + 1; ahead of it the block for deferred calls
  generalize hS : w.heap.size = S at *
  let rec_ : LoopState → Option Code → Loop := fun st pe => { state := st, pending := pe, fn := fn, tmps := a.tmps, params := ps, assign := assign, body := body, defers := S }
  have book : ∀ {A B : World} {o : Obj}, Only (· = V) A B → ∀ {k : Nat}, S ≤ k → A.heap[k]? = some o → B.heap[k]? = some o := fun ho k hk hA => (ho.block k (lt_of_block hA) (by omega)).trans hA
  have start : ∃ W1, (w.alloc (.deferred (some []))).alloc (.loop (rec_ .ready none)) = W1 ∧ W1.heap[S + 1]? = some (.loop (rec_ .ready none)) ∧ W1.heap[S]? = some (.deferred (some [])) ∧ I [] W1 ∧ Below S w W1 := by
    refine ⟨_, rfl, ?_, ?_, hI.alloc _ (hI.alloc _ h0), ((Below.refl S w).alloc (by omega) _).alloc (by simp; omega) _⟩
    · have := World.alloc_heap_new (w.alloc (.deferred (some []))) (.loop (rec_ .ready none))
      rwa [World.size_alloc, hS] at this
    · have := World.alloc_heap_new w (.deferred (some []))
      rw [hS] at this
      exact (Below.heap_alloc _ _ _ (by simp; omega)).trans this
  obtain ⟨W1, hW1, hL1, hK1, hI1, hB1⟩ := start
  refine ⟨S + 1, [{ target := .collected S, args := #[] }], W1, { target := .fn (.func gf) lb, args := #[.func (.yield (S + 1)) #[] #[]] }, W1, gf, #[.func (.yield (S + 1)) #[] #[]] ++ lb, W1, ?_, ?_, ?_, ?_, fun _ => h1, ?_⟩
  · rw [run_enterLoop_outer, hS, ← hW1]
  · simp only [resolve, hg]
    simp [go_sem]
  · intro f' hf'
    simp [Target.leads] at hf'
    subst hf'
    trivial
  · simp [invoke, go_sem, eg]
  · have keepV : ∀ (A : World) (o : Obj), VKeep V A (A.putObj (S + 1) o) := fun A o => World.putObj_heap_other (by omega)
    refine (hseq (S + 1)
      (fun pre W => I pre W ∧ W.heap[S + 1]? = some (.loop (rec_ .ready none)) ∧ W.heap[S]? = some (.deferred (some [])))
      (fun pre W => ∃ c, Ix c pre W ∧ W.heap[S + 1]? = some (.loop (rec_ .done (some c))) ∧ W.heap[S]? = some (.deferred (some [])))
      W1 (by rw [hS]; exact hB1) (fun s A B h ho hv => ⟨hIV s A B h.1 ho hv, book ho (by omega) h.2.1, book ho (Nat.le_refl _) h.2.2⟩) ?_ ⟨hI1, hL1, hK1⟩).mono ?_
    · rintro pre x W ⟨hi, hl, hk⟩ hlen
      refine ⟨fn, _, assign, body, run_yield (args := encs x) hl (hps x), roundIn_of_wpIn hfn (hassign _ pre x W _ hi ?_)⟩
      intro a' A hka hva hia hax
      have hlA := hka.same (S + 1) _ (by omega) hl rfl
      have hkA := hka.same S _ (Nat.le_refl _) hk rfl
      have hlt := lt_of_block hlA
      refine ⟨_, run_beginRound hlA rfl, ?_⟩
      let busy : Loop := { rec_ .ready none with state := .busy }
      have hl2 : (A.putObj (S + 1) (.loop busy)).heap[S + 1]? = some (.loop busy) := World.putObj_heap_same hlt
      have hk2 : (A.putObj (S + 1) (.loop busy)).heap[S]? = some (.deferred (some [])) := (World.putObj_heap_other (by omega)).trans hkA
      -- how a round ends, whatever jump it leaves behind
      have ends : ∀ (jump : Option Code) (B : World), KeepsFrom S (A.putObj (S + 1) (.loop busy)) B → ∃ C, (Instr.endRound (S + 1) jump).run P B = .ok (.bool jump.isNone) C ∧ C = B.putObj (S + 1) (.loop (rec_ (if jump.isNone then .ready else .done) jump)) ∧
          B.heap[S + 1]? = some (.loop busy) ∧ C.heap[S + 1]? = some (.loop (rec_ (if jump.isNone then .ready else .done) jump)) ∧ C.heap[S]? = some (.deferred (some [])) := by
        intro jump B hB
        have hl3 := hB.same (S + 1) _ (by omega) hl2 rfl
        exact ⟨_, run_endRound jump hl3, rfl, hl3, World.putObj_heap_same (lt_of_block hl3), (World.putObj_heap_other (by omega)).trans (hB.same S _ (Nat.le_refl _) hk2 rfl)⟩
      refine wpIn_mono (hbody _ pre x a' _ (hI.putObj _ hia (by omega) hlA rfl) ((hAx x a').putObj (s := ()) _ hax (by omega) hlA rfl) hlen) ?_
      have stop : ∀ (c : Code) (B : World), KeepsFrom S (A.putObj (S + 1) (.loop busy)) B → Ix c (pre ++ [x]) B → ∃ v C, (Instr.endRound (S + 1) (some c)).run P B = .ok v C ∧
          ((Ending.returned v = .returned (.bool true) ∧ (I (pre ++ [x]) C ∧ C.heap[S + 1]? = some (.loop (rec_ .ready none)) ∧ C.heap[S]? = some (.deferred (some []))) ∧ VKeep V W C) ∨
           (Ending.returned v = .returned (.bool false) ∧ ∃ c, Ix c (pre ++ [x]) C ∧ C.heap[S + 1]? = some (.loop (rec_ .done (some c))) ∧ C.heap[S]? = some (.deferred (some [])))) := by
        intro c B hB hx
        obtain ⟨C, hr, rfl, h3, h4, h5⟩ := ends (some c) B hB
        exact ⟨_, _, hr, .inr ⟨rfl, c, (hIx c).putObj _ hx (by omega) h3 rfl, h4, h5⟩⟩
      rintro e b B hp
      cases e with
      | normal =>
        obtain ⟨hB, hv, hi3⟩ := hp
        obtain ⟨C, hr, rfl, h3, h4, h5⟩ := ends none B hB
        exact ⟨_, _, hr, .inl ⟨rfl, ⟨hI.putObj _ hi3 (by omega) h3 rfl, h4, h5⟩, hva.trans ((keepV A _).trans (hv.trans (keepV B _)))⟩⟩
      | ret => exact stop _ B hp.1 hp.2
      | exit id => exact stop _ B hp.1 hp.2
      | goto t => exact stop _ B hp.1 hp.2
      | panic ch => exact hp.elim
      | outgrown => exact hp.elim
    · rintro e B ⟨⟨v, rfl⟩, (⟨hi, hl, hk⟩ | ⟨pre, hp, c, hi, hl, hk⟩)⟩
      · exact ⟨none, _, run_endLoop hl (by simp [rec_]), hdone _ _ (Nat.le_refl _) (hI.putObj _ hi (by omega) hl rfl) ((World.putObj_heap_other (by omega)).trans hk)⟩
      · exact ⟨some c, _, run_endLoop hl (by simp [rec_]), hstop _ c pre _ (Nat.le_refl _) hp ((hIx c).putObj _ hi (by omega) hl rfl) ((World.putObj_heap_other (by omega)).trans hk)⟩
end Go.Proofs.Ytpbjfadandnhaaa

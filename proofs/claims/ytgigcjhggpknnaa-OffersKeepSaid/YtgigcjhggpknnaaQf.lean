/- The contracts of queue's New and List. -/
import Derived.Test.YtgigcjhggpknnaaQi
import Derived.Great.BuildSlice
namespace Go.Proofs.Ytgigcjhggpknnaa
open Go.RowKit

def noL : List Ln := List.replicate 65 (0, 0, 0)
def noP : List Pc := List.replicate 1025 (0, 0)
set_option maxRecDepth 100000 in
theorem built_pool (q : Int) : Try.prog.built 104 [(0, .int .i64 q)] = some (poolV q noL noP).toArray := by kernel_rfl

theorem QPS.none : QPS noL noP (fun _ => []) (fun _ => []) := by
  refine ⟨?_, fun _ _ => trivial, ?_, ?_, ?_⟩
  · intro l hl
    unfold noL
    rw [List.getElem?_replicate, if_pos hl]
    rfl
  · intro l _ p hp
    cases hp
  · intro l _
    exact List.nodup_nil
  · intro l _ m _ _ p hp
    cases hp

set_option maxHeartbeats 400000 in
theorem c_new_no (queues room : Int) (h : queues < 1 ∨ 64 < queues ∨ room < 0 ∨ 1024 < room) (w : World) :
    Calls Try.prog 40 #[.int .i64 queues, .int .i64 room] w fun e w' => e = .returned (.tuple #[.pointer none, .int .i64 1]) ∧ w = w' := by
  have hh : ¬ (1 ≤ queues ∧ queues ≤ 64 ∧ 0 ≤ room ∧ room ≤ 1024) := by omega
  have H := Lib.hid hh
  clear h hh
  go_enter Try.func40, Try.ntmps40
  by_cases a : queues < 1
  · go_wp2
    go_ret2
    exact ⟨rfl, rfl⟩
  · by_cases b : 64 < queues
    · go_wp2
      go_ret2
      exact ⟨rfl, rfl⟩
    · by_cases c : room < 0
      · go_wp2
        go_ret2
        exact ⟨rfl, rfl⟩
      · have d : 1024 < room := by have := H.out; omega
        go_wp2
        go_ret2
        exact ⟨rfl, rfl⟩

/-- What holds while New fills the spare line. -/
def NewRel (w : World) (n k : Nat) (wr : World) : Prop :=
  ∃ L P C V, PW wr w.heap.size (n : Nat) L P ∧ QPS L P C V ∧ C 64 = List.range' 1 k ∧ (∀ l, l < 64 → C l = []) ∧ Below w.heap.size w wr
theorem range_no (k p : Nat) (h : k < p) : p ∉ List.range' 1 k := by
  intro hp
  have := List.mem_range'_1.1 hp
  omega
def NewPost (w : World) (n room : Nat) (e : Ending) (w' : World) : Prop :=
  ∃ b, e = .returned (.tuple #[.pointer (some ⟨b, 0, none⟩), .int .i64 0]) ∧ PA w' b (List.replicate n []) room ∧ w.heap.size ≤ b ∧ Below w.heap.size w w'
theorem sumlen_rep (n : Nat) : sumlen (List.replicate n []) = 0 := by
  induction n with
  | zero => rfl
  | succ n ih => simp [sumlen]
theorem NewRel.pa {w wr : World} {n room : Nat} (h : NewRel w n room wr) (h0 : 1 ≤ n) (h1 : n ≤ 64) (r1 : room ≤ 1024) : PA wr w.heap.size (List.replicate n []) room := by
  obtain ⟨L, P, C, V, H, S, hs, hn, _⟩ := h
  refine ⟨L, P, C, V, by rw [List.length_replicate]; exact H, S, ?_, by rw [hs]; simp, by simpa using h0, by simpa using h1, by rw [sumlen_rep]; omega⟩
  intro l hl
  have hv : V l = [] := List.eq_nil_of_length_eq_zero (by rw [← S.len l (by omega), hn l hl]; rfl)
  rw [hv, List.getElem?_replicate]
  split <;> rfl

set_option maxRecDepth 100000 in
set_option maxHeartbeats 400000 in
theorem c_new (n room : Nat) (h0 : 1 ≤ n) (h1 : n ≤ 64) (r1 : room ≤ 1024) (w : World) :
    Calls Try.prog 40 #[.int .i64 (n : Int), .int .i64 (room : Int)] w (NewPost w n room) := by
  have hbd := built_pool (n : Int)
  have hst : NewRel w n 0 (w.alloc (.cells (poolV (n : Int) noL noP).toArray 104)) := ⟨noL, noP, _, _, ⟨Blk.new w _ _, List.length_replicate, List.length_replicate⟩, QPS.none, rfl, fun _ _ => rfl, up_alloc _ _⟩
  generalize poolV (n : Int) noL noP = cs at hbd hst
  have HST := Lib.hid hst
  have HBD := Lib.hid hbd
  clear hst hbd
  go_enter Try.func40, Try.ntmps40
  go_wp2_with (refine wpList_buildTo rfl 104 _ rfl (some 23) rfl cs.toArray (by simpa [Act.eval] using HBD.out) ?_)
  go_loopw [7, 26, 33] (fun _ i _ wr => ∃ k : Nat, k ≤ room ∧ i = .int .i64 k ∧ NewRel w n k wr) (fun _ i _ _ => room - (intOf i).toNat)
  case atStart => exact ⟨0, Nat.zero_le _, rfl, HST.out⟩
  case round =>
    clear HST
    obtain ⟨k, hk, rfl, hrel⟩ := hrel
    by_cases hlt : k < room
    · obtain ⟨L, P, C, V, H, S, hs, hn, hb⟩ := hrel
      have hno : ∀ m, m < 65 → k + 1 ∉ C m := by
        intro m hm
        by_cases e : m = 64
        · subst e
          rw [hs]
          exact range_no k (k + 1) (by omega)
        · rw [hn m (by omega)]
          simp
      have cL := c_linkS H S 64 (k + 1) 0 (by omega) hno (by omega) (by omega) (by rw [hs]; simp; omega)
      rw [show ((64 : Nat) : Int) = 64 from rfl, show (((k + 1 : Nat)) : Int) = (k : Int) + 1 from by omega] at cL
      have CL := Lib.hid cL
      have HS := Lib.hid hs
      have HN := Lib.hid hn
      clear cL hno H S hs hn
      go_wp2_with fail
      refine Calls.mono CL.out ?_
      rintro e w2 ⟨rfl, L2, P2, H2, S2, o2⟩
      go_wp2
      go_roundw
      case rel =>
        refine ⟨k + 1, by omega, by go_num, L2, P2, _, _, H2, S2, ?_, ?_, hb.trans (o2.toBelow hb.size fun i e => by omega)⟩
        · rw [upd_same, HS.out, List.range'_1_concat, Nat.add_comm]
        · intro l hl
          rw [upd_ne _ _ (by omega)]
          exact HN.out l hl
      case measure => simp [intOf]; omega
    · obtain rfl : k = room := by omega
      have HR := Lib.hid hrel
      clear hrel
      go_wp2
      go_ret2
      exact ⟨w.heap.size, rfl, HR.out.pa h0 h1 r1, Nat.le_refl _, by obtain ⟨_, _, _, _, _, _, _, _, hb⟩ := HR.out; exact hb⟩
end Go.Proofs.Ytgigcjhggpknnaa

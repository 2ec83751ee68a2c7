/- The contracts of arena's New and Add, of offers. -/
import Derived.Test.YtgigcjhggpknnaaArt
import Derived.Test.YtgigcjhggpknnaaN
namespace Go.Proofs.Ytgigcjhggpknnaa
open Go.RowKit

def ANewPost (w : World) (n : Nat) (last : Int) (e : Ending) (w' : World) : Prop :=
  ∃ t S, e = .returned (.tuple #[.pointer (some ⟨t, 0, none⟩), .int .i64 0]) ∧ AT w' t S last (List.replicate n (0, none)) ∧ w.heap.size ≤ t ∧ w.heap.size ≤ S ∧ Below w.heap.size w w'

theorem slots_made (n : Nat) : (madeCells (Value.agg #[.int .i64 0, .pointer none]).cells (n * 2)).toList = (List.replicate n ((0, none) : Slot)).flatMap slotV := by
  rw [made_list _ 2 rfl]
  induction n with
  | zero => rfl
  | succ n ih => rw [List.replicate_succ, List.flatten_cons, ih, List.replicate_succ, List.flatMap_cons]; rfl

set_option maxHeartbeats 400000 in
theorem a_new (n : Nat) (h0 : 1 ≤ n) (h1 : n ≤ 4096) (last : Int) (l0 : 1 ≤ last) (l1 : last ≤ 65535) (w : World) :
    Calls Try.prog 39 #[.int .i64 (n : Int), .int .i64 last] w (ANewPost w n last) := by
  have hmk := fun W => run_mk ei_slot n (by omega) W
  have hS := slots_made n
  obtain ⟨cs, hcs⟩ : ∃ cs, cs = madeCells (Value.agg #[.int .i64 0, .pointer none]).cells (n * 2) := ⟨_, rfl⟩
  rw [← hcs] at hmk hS
  have HS := Lib.hid hS
  clear hcs hS
  go_enter Try.func39, Try.ntmps39
  go_wp2
  go_ret2
  have hB : Blk (w.alloc (.cells cs 93)) w.heap.size ((List.replicate n ((0, none) : Slot)).flatMap slotV) 93 := by
    rw [← HS.out]
    have := Blk.new w cs.toList 93
    rwa [Array.toArray_toList] at this
  refine ⟨w.heap.size + 1, w.heap.size, rfl, ⟨?_, hB.alloc _, ?_, by simp; omega, by simpa using h1⟩, by omega, by omega, up_trans (up_alloc _ _) (up_alloc _ _)⟩
  · have := Blk.new (w.alloc (.cells cs 93)) [.slice (some ⟨w.heap.size, 0, none⟩) n n, .int .i64 last] 108
    simpa using this
  · intro s hs b x e
    rw [List.eq_of_mem_replicate hs] at e
    cases e

def AAddPost (w : World) (t S : Nat) (last : Int) (τ : List Slot) (k : Nat) (g : Int) (y : OF) (e : Ending) (w' : World) : Prop :=
  e = .returned (.tuple #[.int .i64 (4096 * (g + 1) + k), .int .i64 0]) ∧ AT w' t S last (τ.set k (g + 1, some (w.heap.size, y))) ∧ Only (· = S) w w'

set_option maxHeartbeats 1000000 in
theorem a_add {w : World} {t S : Nat} {last : Int} {τ : List Slot} (H0 : AT w t S last τ) (y : OF) (k : Nat) (g : Int) (hk : τ[k]? = some (g, none)) (hg : g < last) (g0 : 0 ≤ g) (hl : last ≤ 65535) (hno : ∀ s ∈ τ.take k, isFree last s = false) :
    Calls Try.prog 48 #[.pointer (some ⟨t, 0, none⟩), .agg #[.int .i64 y.w, .int .i64 y.g.k, .int .i64 y.g.o, .int .i64 y.g.v, .int .i64 y.g.r, .int .i64 y.g.n]] w (AAddPost w t S last τ k g y) := by
  have H : AT (w.alloc (.cells #[.int .i64 y.w, .int .i64 y.g.k, .int .i64 y.g.o, .int .i64 y.g.v, .int .i64 y.g.r, .int .i64 y.g.n] 65)) t S last τ := H0.alloc _
  have hB : Blk (w.alloc (.cells #[.int .i64 y.w, .int .i64 y.g.k, .int .i64 y.g.o, .int .i64 y.g.v, .int .i64 y.g.r, .int .i64 y.g.n] 65)) w.heap.size (ofC y) 65 := Blk.new w (ofC y) 65
  have hbl : Below w.heap.size w (w.alloc (.cells #[.int .i64 y.w, .int .i64 y.g.k, .int .i64 y.g.o, .int .i64 y.g.v, .int .i64 y.g.r, .int .i64 y.g.n] 65)) := up_alloc _ _
  have hsz := Nat.lt_of_lt_of_le H0.tab.lt hbl.size
  have hOn : Only (· = S) w (w.alloc (.cells #[.int .i64 y.w, .int .i64 y.g.k, .int .i64 y.g.o, .int .i64 y.g.v, .int .i64 y.g.r, .int .i64 y.g.n] 65)) := (Only.refl _ w).alloc _
  have hc := H.c0
  have hc1 := H.c1
  have hf := H.few
  have hlk : k < τ.length := (List.getElem?_eq_some_iff.1 hk).1
  have HK := Lib.hid hk
  have HNO := Lib.hid hno
  have hfr : isFree last (g, none) = true := by simp [isFree, hg]
  have HFR := Lib.hid hfr
  have HB := Lib.hid hB
  clear hk hno hfr hsz hbl H0 hB
  go_enter Try.func48, Try.ntmps48
  go_wp2_with (go_at_call 50; refine (a_nob H).mono ?_; rintro e w' ⟨rfl, rfl⟩)
  go_loop [6, 7, 15] (fun _ _ i => ∃ j : Nat, j ≤ k ∧ i = .int .i64 j) (fun _ _ i => k - (intOf i).toNat)
  case atStart => exact ⟨0, Nat.zero_le _, rfl⟩
  case round =>
    obtain ⟨j, hj, rfl⟩ := hrel
    by_cases hjk : j < k
    · obtain ⟨g', o', hs, h1, h2⟩ := H.slot2 j (by omega)
      have hnf : isFree last (g', o') = false := HNO.out _ (List.mem_of_getElem? (i := j) (by rw [List.getElem?_take_of_lt hjk]; exact hs))
      have CF := a_free (last := last) h1 h2
      rw [hnf] at CF
      have CF := Lib.hid CF
      clear hs hnf
      go_wp2_with (go_at_call 56; refine Calls.mono CF.out ?_; rintro e w' ⟨rfl, rfl⟩)
      go_round
      case rel => exact ⟨j + 1, by omega, by go_num⟩
      case measure => simp [intOf]; omega
    · obtain rfl : j = k := by omega
      have h1 := H.g j _ HK.out
      have h2 := H.p j _ HK.out
      have CF := a_free (last := last) h1 h2
      rw [HFR.out] at CF
      have CF := Lib.hid CF
      have f1 := H.free (j * 2)
      have f2 := H.free (j * 2 + 1)
      simp only [ptrV] at h1 h2
      have hm : makeH j (g + 1) = 4096 * (g + 1) + j := makeH_of _ _ ⟨by omega, by omega, by omega, by omega⟩
      have he : makeE j (g + 1) = 0 := makeE_of _ _ ⟨by omega, by omega, by omega, by omega⟩
      have cm := fun W => c_make j (g + 1) W
      rw [hm, he] at cm
      have CM := Lib.hid cm
      clear hm he cm
      go_wp2_with (first | (go_at_call 56; refine Calls.mono CF.out ?_; rintro e w' ⟨rfl, rfl⟩) | (go_at_call 57; refine (CM.out _).mono ?_; rintro e w' ⟨rfl, rfl⟩))
      go_ret2
      refine ⟨rfl, ?_, (hOn.put _ _).put _ _⟩
      have K1 := H.gen j g (g + 1) none HK.out
      have K2 := K1.put j (g + 1) none (some (w.heap.size, y)) (by simp [hlk]) (fun b x e => by cases e; exact HB.out.other _ (HB.out.ne H.row (by decide)) _)
      rw [List.set_set] at K2
      exact K2

end Go.Proofs.Ytgigcjhggpknnaa

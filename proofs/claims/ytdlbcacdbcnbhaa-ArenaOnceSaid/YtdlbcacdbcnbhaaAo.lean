/- The contracts of the document's New, of the law's as, and what a handle meets. -/
import Derived.Test.YtdlbcacdbcnbhaaAa
import Derived.Test.YtdlbcacdbcnbhaaAe
namespace Go.Proofs.Ytdlbcacdbcnbhaa
open Go.RowKit

def RNewPost (w : World) (pl : Nat → Prop) (n : Nat) (last : Int) (e : Ending) (w' : World) : Prop :=
  ∃ A c B d, e = .returned (.tuple #[.agg #[.int .i64 last, .slice A n c, .slice B (lenT (List.replicate n (0, none))) d], .int .i64 0]) ∧ RT w' pl (List.replicate n (0, none)) A c B d ∧ Below w.heap.size w w'
theorem lenT_rep (n : Nat) : lenT (List.replicate n (0, none)) = 0 := by
  unfold lenT
  rw [List.countP_eq_zero]
  intro s hs
  rw [List.eq_of_mem_replicate hs]
  decide
theorem things_rep (n : Nat) : thingsF 0 (List.replicate n (0, none)) = [] := List.eq_nil_of_length_eq_zero (by rw [thingsF_len, lenT_rep])

set_option maxHeartbeats 400000 in
theorem c_rnew (n : Nat) (h0 : 1 ≤ n) (h1 : n ≤ 4096) (last : Int) (l0 : 1 ≤ last) (l1 : last ≤ 65535) (pl : Nat → Prop) (w : World) (hq : ∀ b, w.heap.size ≤ b → pl b) :
    Calls Try.prog 8 #[.int .i64 (n : Int), .int .i64 last] w (RNewPost w pl n last) := by
  have hmk := fun W => run_mk ei_int n (by omega) W
  have hS := made_list (Value.int .i64 0).cells 1 rfl n
  obtain ⟨cs, hcs⟩ : ∃ cs, cs = madeCells (Value.int .i64 0).cells (n * 1) := ⟨_, rfl⟩
  rw [← hcs] at hmk hS
  have HS := Lib.hid hS
  clear hcs hS
  go_enter Try.func8, Try.ntmps8
  go_wp2
  have e : cs.toList = (gensT (List.replicate n (0, none))).map (Value.int .i64) := by
    rw [HS.out]
    simp [gensT, Value.cells]
  refine bodyPost_ret (v := .tuple #[.agg #[.int .i64 last, .slice (some ⟨w.heap.size + 1, 0, none⟩) n n, .slice none 0 0], .int .i64 0]) (by simp [results, Try.results8, go_sem]) rfl ?_
  have hB : Blk ((w.alloc (.cells #[.int .i64 last, .slice (some ⟨w.heap.size + 1, 0, none⟩) n n, .slice none 0 0] 31)).alloc (.cells cs 3)) (w.heap.size + 1) ((gensT (List.replicate n (0, none))).map (Value.int .i64)) 3 := by
    rw [← e]
    have := Blk.new (w.alloc (.cells #[.int .i64 last, .slice (some ⟨w.heap.size + 1, 0, none⟩) n n, .slice none 0 0] 31)) cs.toList 3
    rw [Array.toArray_toList] at this
    simpa using this
  refine ⟨some ⟨w.heap.size + 1, 0, none⟩, n, none, 0, by rw [lenT_rep], ⟨?_, ?_, by simp, by unfold maxLen; omega, by rw [lenT_rep]; omega, by unfold maxLen; omega, by simp; omega, by simpa using h1⟩, up_trans (up_alloc _ _) (up_alloc _ _)⟩
  · rw [List.length_replicate]
    exact RD.of_blk hB (by simp [gensT]) (hq _ (by omega))
  · rw [lenT_rep, things_rep]
    exact RD.nil _ _ _ _

set_option maxHeartbeats 400000 in
theorem c_rnew_no (room last : Int) (h : room < 1 ∨ 4096 < room ∨ last < 1 ∨ 65535 < last) (w : World) :
    Calls Try.prog 8 #[.int .i64 room, .int .i64 last] w fun e w' => e = .returned (.tuple #[.agg #[.int .i64 0, .slice none 0 0, .slice none 0 0], .int .i64 1]) ∧ Below w.heap.size w w' := by
  have hh : ¬ (1 ≤ room ∧ room ≤ 4096 ∧ 1 ≤ last ∧ last ≤ 65535) := by omega
  have H := Lib.hid hh
  clear h hh
  go_enter Try.func8, Try.ntmps8
  by_cases a : room < 1
  · go_wp2
    exact bodyPost_ret (v := .tuple #[.agg #[.int .i64 0, .slice none 0 0, .slice none 0 0], .int .i64 1]) (by simp [results, Try.results8, go_sem]) rfl ⟨rfl, up_alloc _ _⟩
  · by_cases b : 4096 < room
    · go_wp2
      exact bodyPost_ret (v := .tuple #[.agg #[.int .i64 0, .slice none 0 0, .slice none 0 0], .int .i64 1]) (by simp [results, Try.results8, go_sem]) rfl ⟨rfl, up_alloc _ _⟩
    · by_cases c : last < 1
      · go_wp2
        exact bodyPost_ret (v := .tuple #[.agg #[.int .i64 0, .slice none 0 0, .slice none 0 0], .int .i64 1]) (by simp [results, Try.results8, go_sem]) rfl ⟨rfl, up_alloc _ _⟩
      · have d : 65535 < last := by have := H.out; omega
        go_wp2
        exact bodyPost_ret (v := .tuple #[.agg #[.int .i64 0, .slice none 0 0, .slice none 0 0], .int .i64 1]) (by simp [results, Try.results8, go_sem]) rfl ⟨rfl, up_alloc _ _⟩
end Go.Proofs.Ytdlbcacdbcnbhaa

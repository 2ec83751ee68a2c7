/- The contracts of the document's Of and Find of layer 9. -/
import Derived.Test.YtnmcieilpomkaaaDoorPr
namespace Go.Proofs.YtnmcieilpomkaaaDoor
open Go.RowKit

set_option maxHeartbeats 400000 in
theorem of_no (op : Int) (w : World) (h : op < 0 ∨ 48 ≤ op) :
    Calls Tryd.prog 6 #[.int .i64 op] w fun e w' => e = .returned (.agg #[.string ⟨#[]⟩, .string ⟨#[]⟩, .int .i64 (-1)]) ∧ Below w.heap.size w w' := by
  have hw := up_alloc w (.cells #[.string ⟨#[]⟩, .string ⟨#[]⟩, .int .i64 0] 23)
  have hblk := Blk.new w [.string ⟨#[]⟩, .string ⟨#[]⟩, .int .i64 0] 23
  have hz : (w.alloc (.cells #[.string ⟨#[]⟩, .string ⟨#[]⟩, .int .i64 0] 23)).heap.size = w.heap.size + 1 := by simp
  have T := k_table (w.alloc (.cells #[.string ⟨#[]⟩, .string ⟨#[]⟩, .int .i64 0] 23))
  rw [hz] at T
  rcases h with h | h
  · skip
    go_enter Tryd.func6, Tryd.ntmps6
    go_wp2_with (go_at_call 13; refine T.mono ?_; rintro e w1 ⟨rfl, hk, hb1⟩; have HK := Lib.hid hk; have HB := Lib.hid (hw.trans (hb1.mono (by omega))); clear hk; have hr := hblk.up hb1 (by simp); have f0 := hr.free 0; have f1 := hr.free 1; have f2 := hr.free 2; have r0 := hr.cell 0 _ rfl; have r1 := hr.cell 1 _ rfl; have r2 := hr.cell 2 _ rfl; clear hr hb1)
    refine bodyPost_ret (v := .agg #[.string ⟨#[]⟩, .string ⟨#[]⟩, .int .i64 (-1)]) (by simp [results, Tryd.results6, go_sem, r0, r1, r2]) rfl ⟨rfl, ?_⟩
    exact (((HB.out.setCell (Nat.le_refl _) _).setCell (Nat.le_refl _) _).setCell (Nat.le_refl _) _)
  · have n0 : ¬ op < 0 := by omega
    go_enter Tryd.func6, Tryd.ntmps6
    go_wp2_with (go_at_call 13; refine T.mono ?_; rintro e w1 ⟨rfl, hk, hb1⟩; have HK := Lib.hid hk; have HB := Lib.hid (hw.trans (hb1.mono (by omega))); clear hk; have hr := hblk.up hb1 (by simp); have f0 := hr.free 0; have f1 := hr.free 1; have f2 := hr.free 2; have r0 := hr.cell 0 _ rfl; have r1 := hr.cell 1 _ rfl; have r2 := hr.cell 2 _ rfl; clear hr hb1)
    refine bodyPost_ret (v := .agg #[.string ⟨#[]⟩, .string ⟨#[]⟩, .int .i64 (-1)]) (by simp [results, Tryd.results6, go_sem, r0, r1, r2]) rfl ⟨rfl, ?_⟩
    exact (((HB.out.setCell (Nat.le_refl _) _).setCell (Nat.le_refl _) _).setCell (Nat.le_refl _) _)
set_option maxHeartbeats 400000 in
theorem of_yes (k : Nat) (hk : k < 48) (w : World) :
    Calls Tryd.prog 6 #[.int .i64 k] w fun e w' => e = .returned (.agg #[.string ⟨(nmN k).toArray⟩, .string ⟨(fmN k).toArray⟩, .int .i64 (clN k)]) ∧ Below w.heap.size w w' := by
  have hw := up_alloc w (.cells #[.string ⟨#[]⟩, .string ⟨#[]⟩, .int .i64 0] 23)
  have hblk := Blk.new w [.string ⟨#[]⟩, .string ⟨#[]⟩, .int .i64 0] 23
  have hz : (w.alloc (.cells #[.string ⟨#[]⟩, .string ⟨#[]⟩, .int .i64 0] 23)).heap.size = w.heap.size + 1 := by simp
  have T := k_table (w.alloc (.cells #[.string ⟨#[]⟩, .string ⟨#[]⟩, .int .i64 0] 23))
  rw [hz] at T
  have n0 : ¬ (k : Int) < 0 := by omega
  have n1 : ¬ (48 : Int) ≤ k := by omega
  have n2 : (k : Int) < 48 := by omega
  go_enter Tryd.func6, Tryd.ntmps6
  go_wp2_with (go_at_call 13; refine T.mono ?_; rintro e w1 ⟨rfl, hk, hb1⟩; have HK := Lib.hid hk; have HB := Lib.hid (hw.trans (hb1.mono (by omega))); clear hk; have hr := hblk.up hb1 (by simp); have f0 := hr.free 0; have f1 := hr.free 1; have f2 := hr.free 2; have r0 := hr.cell 0 _ rfl; have r1 := hr.cell 1 _ rfl; have r2 := hr.cell 2 _ rfl; obtain ⟨k0, k1, k2⟩ := HK.out k hk; clear hr hb1)
  refine bodyPost_ret (v := .agg #[.string ⟨(nmN k).toArray⟩, .string ⟨(fmN k).toArray⟩, .int .i64 (clN k)]) (by simp [results, Tryd.results6, go_sem, r0, r1, r2]) rfl ⟨rfl, ?_⟩
  exact (((HB.out.setCell (Nat.le_refl _) _).setCell (Nat.le_refl _) _).setCell (Nat.le_refl _) _)
theorem c_of (op : Int) (w : World) :
    Calls Tryd.prog 6 #[.int .i64 op] w fun e w' => e = .returned (.agg #[.string ⟨(nmO op).toArray⟩, .string ⟨(fmO op).toArray⟩, .int .i64 (clO op)]) ∧ Below w.heap.size w w' := by
  unfold nmO fmO clO
  by_cases h : op < 0 ∨ 48 ≤ op
  · rw [rowO_no op h]
    exact of_no op w h
  · obtain ⟨k, rfl⟩ := Int.eq_ofNat_of_zero_le (a := op) (by omega)
    rw [rowO_nat]
    exact of_yes k (by omega) w

set_option maxHeartbeats 400000 in
theorem c_rfind (l : List UInt8) (w : World) :
    Calls Tryd.prog 12 #[.string ⟨l.toArray⟩] w fun e w' => e = .returned (.tuple #[.int .i64 (fdV l), .bool (fdB l)]) ∧ Below w.heap.size w w' := by
  go_enter Tryd.func12, Tryd.ntmps12
  go_wp2_with fail
  refine (k_table w).mono ?_
  rintro e w1 ⟨rfl, ht, hb1⟩
  have HB := Lib.hid hb1
  clear hb1
  go_wp2
  go_loopw [5] (fun i wr => ∃ k : Nat, k ≤ 48 ∧ k ≤ idxN l ∧ i = .int .i64 k ∧ w1 = wr) (fun i _ => (48 - intOf i).toNat)
  case atStart => exact ⟨0, by omega, by omega, rfl, rfl⟩
  case round =>
    obtain ⟨k, hk, hle, rfl, rfl⟩ := hrel
    by_cases h9 : k < 48
    · obtain ⟨h0, _, _⟩ := ht k h9
      have n1 : (k : Int) < 48 := by omega
      cases hq : (nmN k == l)
      · have H := Lib.hid (idxN_next l k h9 hle hq)
        generalize nmN k = x at h0 hq
        go_wp2
        go_roundw
        case rel => exact ⟨k + 1, by omega, H.out, by go_num, trivial⟩
        case measure => simp [intOf]; omega
      · obtain ⟨e1, e2⟩ := fd_at l k h9 (idxN_at l k h9 hle hq)
        generalize nmN k = x at h0 hq
        have H1 := Lib.hid e1
        have H2 := Lib.hid e2
        clear e1 e2
        go_wp2
        go_ret2
        exact ⟨ret_ib H1.out.symm H2.out.symm, HB.out⟩
    · have hz : 48 ≤ idxN l := by omega
      obtain ⟨e1, e2⟩ := fd_no l hz
      have H1 := Lib.hid e1
      have H2 := Lib.hid e2
      clear e1 e2
      go_wp2
      go_ret2
      exact ⟨ret_ib H1.out.symm H2.out.symm, HB.out⟩
end Go.Proofs.YtnmcieilpomkaaaDoor

/- The contracts of package bitset's Len and Of. -/
import Derived.Test.YtknlkkigiommhaaDoorBe
import Derived.Test.YtknlkkigiommhaaDoorI
namespace Go.Proofs.YtknlkkigiommhaaDoor
open Go.RowKit

theorem upTo_le (s : S4) (k : Nat) : (upTo s k).length ≤ 64 * k := by
  unfold upTo
  rw [List.length_map]
  have := List.length_filter_le s.has (List.range (64 * k))
  simpa using this
theorem upTo_len (s : S4) (k : Nat) : (upTo s (k + 1)).length = (upTo s k).length + cntN 64 (s.w k).toNat := by rw [upTo_succ, List.length_append, wordIds_len]
set_option maxHeartbeats 1000000 in
theorem c_len (s : S4) (w : World) :
    Calls Tryd.prog 15 #[s.val] w fun e w' => e = .returned (.int .i64 s.len) ∧ Below w.heap.size w w' := by
  have hb0 := up_alloc w (.cells s.cs.toArray 26)
  go_enter Tryd.func15, Tryd.ntmps15
  go_wp2
  go_loop [3, 7] (fun m i => ∃ k : Nat, k ≤ 4 ∧ i = .int .i64 k ∧ m = .int .i64 (upTo s k).length) (fun _ i => 4 - (intOf i).toNat)
  case atStart => exact ⟨0, Nat.zero_le _, rfl, rfl⟩
  case round =>
    obtain ⟨k, hk, rfl, rfl⟩ := hrel
    by_cases hlt : k < 4
    · have ix := ix_w s k hlt
      have hu := upTo_le s k
      have hc := cnt_le 64 (s.w k).toNat
      have hl := w_lt s k
      have HN := Lib.hid (upTo_len s k)
      generalize (s.w k).toNat = n at ix hc hl HN
      generalize (upTo s k).length = m at hu HN
      go_wp2_with (first | (go_at_call 31; refine (c_ones n hl _).mono ?_; rintro e w' ⟨rfl, rfl⟩))
      go_round
      case rel => exact ⟨k + 1, by omega, by go_num, by rw [HN.out]; go_num⟩
      case measure => simp [intOf]; omega
    · obtain rfl : k = 4 := by omega
      go_wp2
      go_ret
      exact ⟨rfl, hb0⟩

set_option maxHeartbeats 1000000 in
theorem c_of {w : World} {pl : Nat → Prop} {A : Option Addr} {c : Nat} {L : List Int} (h0 : RD w pl 1 A L.length (L.map (Value.int .i64))) (hlen : L.length ≤ 1000) :
    Calls Tryd.prog 8 #[.slice A L.length c] w fun e w' => e = .returned (ofS L).val ∧ Below w.heap.size w w' := by
  go_enter Tryd.func8, Tryd.ntmps8
  go_wp2
  go_loopw [8] (fun i wr => ∃ k : Nat, k ≤ L.length ∧ i = .int .i64 k ∧ Below w.heap.size w wr ∧ Blk wr (w.heap.size + 1) (ofS (L.take k)).cs 26 ∧ Blk wr w.heap.size S4.zero.cs 26) (fun i _ => L.length - (intOf i).toNat)
  case atStart => exact ⟨0, Nat.zero_le _, rfl, (((Below.refl _ _).alloc (Nat.le_refl _) _).alloc (by simp) _), Blk.new' _ S4.zero.cs _ _ (by simp), (Blk.new w S4.zero.cs 26).alloc _⟩
  case round =>
    obtain ⟨k, hk, rfl, hb, hB, hR⟩ := hrel
    have h := h0.below hb
    have hz := hB.lt
    by_cases hlt : k < L.length
    · obtain ⟨bA, oA, rfl, _, _, hcA⟩ := h.at_ (by omega)
      have h1 := hcA k (.int .i64 L[k]) (by simp [hlt])
      have HN := Lib.hid (ofS_take L k hlt)
      generalize L[k] = x at h1 HN
      generalize ofS (L.take k) = S at hB HN
      have c0 := hB.cell 0 _ rfl
      have c1 := hB.cell 1 _ rfl
      have c2 := hB.cell 2 _ rfl
      have c3 := hB.cell 3 _ rfl
      clear h hcA h0
      go_wp2_with (first | (go_at_call 18; refine (c_add S x _).mono ?_; rintro e w' ⟨rfl, hba⟩; have hB' := hB.up hba hz; have hR' := hR.up hba (by omega); have d0 := hB'.cell 0 _ rfl; have d1 := hB'.cell 1 _ rfl; have d2 := hB'.cell 2 _ rfl; have d3 := hB'.cell 3 _ rfl; have g0 := hB'.free 0; have g1 := hB'.free 1; have g2 := hB'.free 2; have g3 := hB'.free 3))
      go_roundw
      case rel => exact ⟨k + 1, by omega, by go_num, ((((hb.trans (hba.mono hb.size)).setCell (by simp) _).setCell (by simp) _).setCell (by simp) _).setCell (by simp) _, by rw [HN.out]; exact (((hB'.set 0 _).set 1 _).set 2 _).set 3 _, (((hR'.other _ (by simp) _).other _ (by simp) _).other _ (by simp) _).other _ (by simp) _⟩
      case measure => simp [intOf]; omega
    · obtain rfl : k = L.length := by omega
      rw [List.take_length] at hB
      have c0 := hB.cell 0 _ rfl
      have c1 := hB.cell 1 _ rfl
      have c2 := hB.cell 2 _ rfl
      have c3 := hB.cell 3 _ rfl
      have r0 := hR.cell 0 _ rfl
      have r1 := hR.cell 1 _ rfl
      have r2 := hR.cell 2 _ rfl
      have r3 := hR.cell 3 _ rfl
      have g0 := hR.free 0
      have g1 := hR.free 1
      have g2 := hR.free 2
      have g3 := hR.free 3
      clear h h0
      go_wp2
      exact bodyPost_ret (v := (ofS L).val) (by simp [results, Tryd.results8, go_sem, r0, r1, r2, r3]) rfl ⟨rfl, (((hb.setCell (by simp) _).setCell (by simp) _).setCell (by simp) _).setCell (by simp) _⟩
end Go.Proofs.YtknlkkigiommhaaDoor

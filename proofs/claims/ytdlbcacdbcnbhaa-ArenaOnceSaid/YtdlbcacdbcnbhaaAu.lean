/- The contracts of the document's Free, at and Get. -/
import Derived.Test.YtdlbcacdbcnbhaaAs
namespace Go.Proofs.Ytdlbcacdbcnbhaa
open Go.RowKit

set_option maxHeartbeats 1000000 in
theorem c_rfree {w : World} {pl : Nat → Prop} {τ : List Slot} {A B : Option Addr} {c d : Nat} (h0 : RT w pl τ A c B d) (last : Int) :
    Calls Try.prog 30 #[.agg #[.int .i64 last, .slice A τ.length c, .slice B (lenT τ) d]] w fun e w' => e = .returned (.int .i64 (freeT last τ : Nat)) ∧ Below w.heap.size w w' := by
  have hb0 := up_alloc w (.cells #[.int .i64 last, .slice A τ.length c, .slice B (lenT τ) d] 31)
  have h := h0.below hb0
  have hB := Blk.new w [.int .i64 last, .slice A τ.length c, .slice B (lenT τ) d] 31
  have hf := h0.few
  have hl := freeT_le last τ
  generalize hw1 : w.alloc (.cells [.int .i64 last, .slice A τ.length c, .slice B (lenT τ) d].toArray 31) = w1 at hB
  have hw2 : w.alloc (.cells #[.int .i64 last, .slice A τ.length c, .slice B (lenT τ) d] 31) = w1 := hw1
  rw [hw2] at hb0 h
  have hz : w.heap.size < w1.heap.size := hB.lt
  have HW := Lib.hid hw2
  clear hw1 hw2 h0
  go_enter Try.func30, Try.ntmps30
  go_wp2_with fail
  rw [HW.out]
  go_loopw [3, 4] (fun n i wr => ∃ k : Nat, k ≤ τ.length ∧ i = .int .i64 k ∧ n = .int .i64 (freeT last (τ.take k) : Nat) ∧ Below w1.heap.size w1 wr) (fun _ i _ => τ.length - (intOf i).toNat)
  case atStart => exact ⟨0, Nat.zero_le _, rfl, rfl, Below.refl _ _⟩
  case round =>
    obtain ⟨k, hk, rfl, rfl, hb⟩ := hrel
    have hl2 := freeT_le last (τ.take k)
    have hl3 : (τ.take k).length ≤ k := List.length_take_le _ _
    have Hr := h.below hb
    have hBr := hB.up hb hz
    have c0 := hBr.cell 0 _ rfl
    have c1 := hBr.cell 1 _ rfl
    have c2 := hBr.cell 2 _ rfl
    clear hBr
    by_cases hlt : k < τ.length
    · have hs : τ[k]? = some (τ[k].1, τ[k].2) := List.getElem?_eq_getElem hlt
      have HN := Lib.hid (freeT_next last τ k _ hs)
      have CO := Lib.hid (c_ropen Hr last k _ _ hs)
      generalize (τ[k].1, τ[k].2) = s at HN CO
      clear hs
      cases hfr : isFree last s
      all_goals
        have HF := Lib.hid hfr
        have CO := CO.out
        rw [hfr] at CO
        have CO := Lib.hid CO
        clear hfr
        go_wp2_with (go_at_call 25; refine Calls.mono CO.out ?_; rintro e w' ⟨rfl, hb1⟩)
        go_roundw
        case rel => exact ⟨k + 1, by omega, by go_num, by rw [HN.out, HF.out]; first | rfl | go_num, up_trans hb hb1⟩
        case measure => simp [intOf]; omega
    · obtain rfl : k = τ.length := by omega
      go_wp2
      go_ret
      exact ⟨ret_int (by rw [List.take_length]), up_trans hb0 hb⟩

set_option maxHeartbeats 1000000 in
theorem c_rat_range {w : World} {pl : Nat → Prop} {τ : List Slot} {A B : Option Addr} {c d : Nat} (h0 : RT w pl τ A c B d) (last : Int) (h : Int) (hr : slotF h < 0 ∨ (τ.length : Int) ≤ slotF h) :
    Calls Try.prog 21 #[.agg #[.int .i64 last, .slice A τ.length c, .slice B (lenT τ) d], .int .i64 h] w fun e w' => e = .returned (.tuple #[.int .i64 0, .int .i64 8]) ∧ Below w.heap.size w w' := by
  have hf := h0.few
  clear h0
  rcases hr with hr | hr
  · go_enter Try.func21, Try.ntmps21
    go_wp2_with (go_at_call 34; refine (c_rslot _ _).mono ?_; rintro e w' ⟨rfl, rfl⟩)
    go_ret2
    exact ⟨rfl, up_alloc _ _⟩
  · have h0 : ¬ slotF h < 0 := by omega
    go_enter Try.func21, Try.ntmps21
    go_wp2_with (go_at_call 34; refine (c_rslot _ _).mono ?_; rintro e w' ⟨rfl, rfl⟩)
    go_ret2
    exact ⟨rfl, up_alloc _ _⟩

set_option maxHeartbeats 1000000 in
theorem c_rat_none {w : World} {pl : Nat → Prop} {τ : List Slot} {A B : Option Addr} {c d : Nat} (h0 : RT w pl τ A c B d) (last : Int) (h : Int) (k : Nat) (hk : slotF h = k) (g : Int) (hs : τ[k]? = some (g, none)) :
    Calls Try.prog 21 #[.agg #[.int .i64 last, .slice A τ.length c, .slice B (lenT τ) d], .int .i64 h] w fun e w' => e = .returned (.tuple #[.int .i64 0, .int .i64 9]) ∧ Below w.heap.size w w' := by
  have hb0 := up_alloc w (.cells #[.int .i64 last, .slice A τ.length c, .slice B (lenT τ) d] 31)
  have hf := h0.few
  have hlt : k < τ.length := (List.getElem?_eq_some_iff.1 hs).1
  have CF := Lib.hid (f_no (h0.below hb0) (.int .i64 last) k g hs τ.length)
  have cS := fun W => c_rslot h W
  rw [hk] at cS
  have CS := Lib.hid cS
  clear h0 hs hk cS
  go_enter Try.func21, Try.ntmps21
  go_wp2_with (first | (go_at_call 34; refine (CS.out _).mono ?_; rintro e w' ⟨rfl, rfl⟩) | (go_at_call 35; refine Calls.mono CF.out ?_; rintro e w1 ⟨rfl, hb1⟩))
  go_quiet ((first | (go_at_call 36; exact quiet_left (c_rgen _ _))))
  go_wp2
  go_ret2
  exact ⟨rfl, up_trans hb0 (up_trans hb1 (up_drewN _ _))⟩

set_option maxHeartbeats 1000000 in
theorem c_rat_some {w : World} {pl : Nat → Prop} {τ : List Slot} {A B : Option Addr} {c d : Nat} (h0 : RT w pl τ A c B d) (last : Int) (h : Int) (k : Nat) (hk : slotF h = k) (g : Int) (b : Nat) (x : Int) (hs : τ[k]? = some (g, some (b, x))) (hg : g ≠ genF h) :
    Calls Try.prog 21 #[.agg #[.int .i64 last, .slice A τ.length c, .slice B (lenT τ) d], .int .i64 h] w fun e w' => e = .returned (.tuple #[.int .i64 0, .int .i64 9]) ∧ Below w.heap.size w w' := by
  have hb0 := up_alloc w (.cells #[.int .i64 last, .slice A τ.length c, .slice B (lenT τ) d] 31)
  have hf := h0.few
  have hlt : k < τ.length := (List.getElem?_eq_some_iff.1 hs).1
  have CF := Lib.hid (f_yes (h0.below hb0) (.int .i64 last) k g b x hs τ.length)
  have cS := fun W => c_rslot h W
  rw [hk] at cS
  have CS := Lib.hid cS
  have hne : (g != genF h) = true := by rw [bne_iff_ne]; exact hg
  have hx : ¬ (ixT τ k : Int) < 0 := by omega
  have hd : decide ((ixT τ k : Int) < 0) = false := decide_eq_false hx
  obtain ⟨bA, oA, rfl, _, hlA, hA⟩ := (h0.below hb0).gen
  have hA := hA k _ hs
  have hB := Blk.new w [.int .i64 last, .slice (some ⟨bA, oA, none⟩) τ.length c, .slice B (lenT τ) d] 31
  generalize hw1 : w.alloc (.cells [.int .i64 last, .slice (some ⟨bA, oA, none⟩) τ.length c, .slice B (lenT τ) d].toArray 31) = w1 at hB
  have hw2 : w.alloc (.cells #[.int .i64 last, .slice (some ⟨bA, oA, none⟩) τ.length c, .slice B (lenT τ) d] 31) = w1 := hw1
  rw [hw2] at hb0 hA CF hlA
  have hz : w.heap.size < w1.heap.size := hB.lt
  have HW := Lib.hid hw2
  clear h0 hs hk cS hw1 hw2 hg
  go_enter Try.func21, Try.ntmps21
  go_wp2_with (first | (go_at_call 34; refine (CS.out _).mono ?_; rintro e w' ⟨rfl, rfl⟩) | (go_at_call 35; rw [HW.out]; refine Calls.mono CF.out ?_; rintro e w2 ⟨rfl, hb1⟩; have hBr := hB.up hb1 hz; have c0 := hBr.cell 0 _ rfl; have c1 := hBr.cell 1 _ rfl; have c2 := hBr.cell 2 _ rfl; clear hBr; have hA := (hb1.cell (p := ⟨bA, oA + k, none⟩) hlA).trans hA))
  go_quiet ((first | (go_at_call 36; exact quiet_left (c_rgen _ _))))
  go_wp2
  go_ret2
  exact ⟨rfl, up_trans hb0 (up_trans hb1 (up_drewN _ _))⟩

set_option maxHeartbeats 1000000 in
theorem c_rat_ok {w : World} {pl : Nat → Prop} {τ : List Slot} {A B : Option Addr} {c d : Nat} (h0 : RT w pl τ A c B d) (last : Int) (h : Int) (k : Nat) (hk : slotF h = k) (b : Nat) (x : Int) (hs : τ[k]? = some (genF h, some (b, x))) :
    Calls Try.prog 21 #[.agg #[.int .i64 last, .slice A τ.length c, .slice B (lenT τ) d], .int .i64 h] w fun e w' => e = .returned (.tuple #[.int .i64 (ixT τ k), .int .i64 0]) ∧ Below w.heap.size w w' := by
  have hb0 := up_alloc w (.cells #[.int .i64 last, .slice A τ.length c, .slice B (lenT τ) d] 31)
  have hf := h0.few
  have hlt : k < τ.length := (List.getElem?_eq_some_iff.1 hs).1
  have CF := Lib.hid (f_yes (h0.below hb0) (.int .i64 last) k _ b x hs τ.length)
  have cS := fun W => c_rslot h W
  rw [hk] at cS
  have CS := Lib.hid cS
  have hne : (genF h != genF h) = false := by simp
  have hx : ¬ (ixT τ k : Int) < 0 := by omega
  have hd : decide ((ixT τ k : Int) < 0) = false := decide_eq_false hx
  obtain ⟨bA, oA, rfl, _, hlA, hA⟩ := (h0.below hb0).gen
  have hA := hA k _ hs
  have hB := Blk.new w [.int .i64 last, .slice (some ⟨bA, oA, none⟩) τ.length c, .slice B (lenT τ) d] 31
  generalize hw1 : w.alloc (.cells [.int .i64 last, .slice (some ⟨bA, oA, none⟩) τ.length c, .slice B (lenT τ) d].toArray 31) = w1 at hB
  have hw2 : w.alloc (.cells #[.int .i64 last, .slice (some ⟨bA, oA, none⟩) τ.length c, .slice B (lenT τ) d] 31) = w1 := hw1
  rw [hw2] at hb0 hA CF hlA
  have hz : w.heap.size < w1.heap.size := hB.lt
  have HW := Lib.hid hw2
  clear h0 hs hk cS hw1 hw2
  go_enter Try.func21, Try.ntmps21
  go_wp2_with (first | (go_at_call 34; refine (CS.out _).mono ?_; rintro e w' ⟨rfl, rfl⟩) | (go_at_call 35; rw [HW.out]; refine Calls.mono CF.out ?_; rintro e w2 ⟨rfl, hb1⟩; have hBr := hB.up hb1 hz; have c0 := hBr.cell 0 _ rfl; have c1 := hBr.cell 1 _ rfl; have c2 := hBr.cell 2 _ rfl; clear hBr; have hA := (hb1.cell (p := ⟨bA, oA + k, none⟩) hlA).trans hA))
  go_quiet ((first | (go_at_call 36; exact quiet_left (c_rgen _ _))))
  go_wp2
  go_ret2
  exact ⟨rfl, up_trans hb0 (up_trans hb1 (up_drewN _ _))⟩
end Go.Proofs.Ytdlbcacdbcnbhaa

/- The contracts of arena's New, Add, Len, Free and Handles. -/
import Derived.Test.YtdlbcacdbcnbhaaAg
import Derived.Test.YtdlbcacdbcnbhaaN
namespace Go.Proofs.Ytdlbcacdbcnbhaa
open Go.RowKit

theorem AT.slot2 {w : World} {t S : Nat} {last : Int} {τ : List Slot} (h : AT w t S last τ) (k : Nat) (hk : k < τ.length) : ∃ g o, τ[k]? = some (g, o) ∧ w.cell? ⟨S, k * 2, none⟩ = some (.int .i64 g) ∧ w.cell? ⟨S, k * 2 + 1, none⟩ = some (ptrV o) := by
  refine ⟨τ[k].1, τ[k].2, List.getElem?_eq_getElem hk, h.g k _ (List.getElem?_eq_getElem hk), h.p k _ (List.getElem?_eq_getElem hk)⟩

theorem ei_int : EI Try.prog 28 3 (.int .i64 0) 1 8 := ⟨Try.underlying28, by kernel_rfl, rfl, by omega, by omega⟩
theorem ei_slot : EI Try.prog 49 60 (.agg #[.int .i64 0, .pointer none]) 2 16 := ⟨Try.underlying49, by kernel_rfl, rfl, by omega, by omega⟩
theorem ei_thing : EI Try.prog 29 64 (.agg #[.int .i64 0, .int .i64 0]) 2 16 := ⟨Try.underlying29, by kernel_rfl, rfl, by omega, by omega⟩

set_option maxHeartbeats 400000 in
theorem c_len {w : World} {t S : Nat} {last : Int} {τ : List Slot} (H : AT w t S last τ) :
    Calls Try.prog 17 #[.pointer (some ⟨t, 0, none⟩)] w fun e w' => e = .returned (.int .i64 (lenT τ : Nat)) ∧ Below w.heap.size w w' := by
  have hc := H.c0
  have hf := H.few
  have hl := lenT_le τ
  go_enter Try.func17, Try.ntmps17
  go_wp2_with (go_at_call 22; refine (c_nob H).mono ?_; rintro e w' ⟨rfl, rfl⟩)
  go_loopw [3, 13] (fun n i wr => ∃ k : Nat, k ≤ τ.length ∧ i = .int .i64 k ∧ n = .int .i64 (lenT (τ.take k) : Nat) ∧ Below w.heap.size w wr) (fun _ i _ => τ.length - (intOf i).toNat)
  case atStart => exact ⟨0, Nat.zero_le _, rfl, rfl, Below.refl _ _⟩
  case round =>
    obtain ⟨k, hk, rfl, rfl, hb⟩ := hrel
    have Hr := H.below hb
    have hl2 := lenT_le (τ.take k)
    have hl3 : (τ.take k).length ≤ k := List.length_take_le _ _
    by_cases hlt : k < τ.length
    · obtain ⟨g, o, hs, h1, h2⟩ := Hr.slot2 k hlt
      have HN := Lib.hid (lenT_next τ k _ hs)
      clear hs hc
      rcases o with _ | ⟨b, x⟩
      · simp only [ptrV] at h2
        go_wp2_with (go_at_call 31; refine (c_taken (q := none) (by simp only [ptrV]; go_simp)).mono ?_; rintro e w' ⟨rfl, rfl⟩)
        go_roundw
        case rel => exact ⟨k + 1, by omega, by go_num, by rw [HN.out]; rfl, up_trans hb (up_alloc _ _)⟩
        case measure => simp [intOf]; omega
      · simp only [ptrV] at h2
        go_wp2_with (go_at_call 31; refine (c_taken (q := some (b, x)) (by simp only [ptrV]; go_simp)).mono ?_; rintro e w' ⟨rfl, rfl⟩)
        go_roundw
        case rel => exact ⟨k + 1, by omega, by go_num, by rw [HN.out]; go_num, up_trans hb (up_alloc _ _)⟩
        case measure => simp [intOf]; omega
    · obtain rfl : k = τ.length := by omega
      go_wp2
      go_ret
      exact ⟨ret_int (by rw [List.take_length]), hb⟩

set_option maxHeartbeats 400000 in
theorem c_freeN {w : World} {t S : Nat} {last : Int} {τ : List Slot} (H : AT w t S last τ) :
    Calls Try.prog 18 #[.pointer (some ⟨t, 0, none⟩)] w fun e w' => e = .returned (.int .i64 (freeT last τ : Nat)) ∧ Below w.heap.size w w' := by
  have hc := H.c0
  have hf := H.few
  have hl := freeT_le last τ
  go_enter Try.func18, Try.ntmps18
  go_wp2_with (go_at_call 22; refine (c_nob H).mono ?_; rintro e w' ⟨rfl, rfl⟩)
  go_loopw [3, 13] (fun n i wr => ∃ k : Nat, k ≤ τ.length ∧ i = .int .i64 k ∧ n = .int .i64 (freeT last (τ.take k) : Nat) ∧ Below w.heap.size w wr) (fun _ i _ => τ.length - (intOf i).toNat)
  case atStart => exact ⟨0, Nat.zero_le _, rfl, rfl, Below.refl _ _⟩
  case round =>
    obtain ⟨k, hk, rfl, rfl, hb⟩ := hrel
    have Hr := H.below hb
    have hc1 := Hr.c1
    have hl2 := freeT_le last (τ.take k)
    have hl3 : (τ.take k).length ≤ k := List.length_take_le _ _
    by_cases hlt : k < τ.length
    · obtain ⟨g, o, hs, h1, h2⟩ := Hr.slot2 k hlt
      have HN := Lib.hid (freeT_next last τ k _ hs)
      have htl := Nat.lt_of_lt_of_le H.tab.lt hb.size
      clear hs hc
      rcases o with _ | ⟨b, x⟩
      · simp only [ptrV] at h2
        cases hfr : isFree last (g, none)
        all_goals
          have HF := Lib.hid hfr
          have CF := fun (W : World) B of (a : W.cell? ⟨B, of, none⟩ = some (.int .i64 g)) (b : W.cell? ⟨B, of + 1, none⟩ = some (.pointer none)) => (c_free (q := none) (last := last) a b)
          rw [hfr] at CF
          have CF := Lib.hid CF
          clear hfr
          go_wp2_with (go_at_call 23; refine Calls.mono (CF.out _ _ _ (by go_simp) (by go_simp)) ?_; rintro e w' ⟨rfl, rfl⟩)
          go_roundw
          case rel => exact ⟨k + 1, by omega, by go_num, by rw [HN.out, HF.out]; first | rfl | go_num, up_trans hb (up_alloc _ _)⟩
          case measure => simp [intOf]; omega
      · simp only [ptrV] at h2
        have HF : isFree last (g, some (b, x)) = false := rfl
        have HF := Lib.hid HF
        have CF := fun (W : World) B of (a : W.cell? ⟨B, of, none⟩ = some (.int .i64 g)) (c : W.cell? ⟨B, of + 1, none⟩ = some (.pointer (some ⟨b, 0, none⟩))) => (c_free (q := some (b, x)) (last := last) a c)
        rw [HF.out] at CF
        have CF := Lib.hid CF
        go_wp2_with (go_at_call 23; refine Calls.mono (CF.out _ _ _ (by go_simp) (by go_simp)) ?_; rintro e w' ⟨rfl, rfl⟩)
        go_roundw
        case rel => exact ⟨k + 1, by omega, by go_num, by rw [HN.out, HF.out]; first | rfl | go_num, up_trans hb (up_alloc _ _)⟩
        case measure => simp [intOf]; omega
    · obtain rfl : k = τ.length := by omega
      go_wp2
      go_ret
      exact ⟨ret_int (by rw [List.take_length]), hb⟩

/-- A slice of ints that reads so, in new memory. -/
def IntsPost (w : World) (zs : List Int) (e : Ending) (w' : World) : Prop := ∃ A c, e = .returned (.slice A zs.length c) ∧ zs.length ≤ c ∧ c ≤ maxLen ∧ RD w' (w.heap.size ≤ ·) 1 A zs.length (zs.map (Value.int .i64)) ∧ Below w.heap.size w w'
theorem IntsPost.of {w w' : World} {v : Value} {zs : List Int} {n : Nat} (h : w'.ownsRow w.heap.size 3 1 v n (zs.map (Value.int .i64))) (hb : Below w.heap.size w w') : IntsPost w zs (.returned v) w' := by
  obtain ⟨A, c, rfl, h1, h2, h3⟩ := own_slice h
  obtain rfl : n = zs.length := by have := h.1; simpa using this.symm
  exact ⟨A, c, rfl, h1, h2, h3, hb⟩

theorem IntsPost.of' {w w' : World} {v : Value} {zs : List Int} {n lo : Nat} (h : w'.ownsRow lo 3 1 v n (zs.map (Value.int .i64))) (hlo : w.heap.size ≤ lo) (hb : Below w.heap.size w w') : IntsPost w zs (.returned v) w' := by
  obtain ⟨A, c, rfl, h1, h2, h3⟩ := own_slice h
  obtain rfl : n = zs.length := by have := h.1; simpa using this.symm
  exact ⟨A, c, rfl, h1, h2, h3.lo fun b hb => Nat.le_trans hlo hb, hb⟩

set_option maxHeartbeats 400000 in
theorem c_handles {w : World} {t S : Nat} {last : Int} {τ : List Slot} (H : AT w t S last τ) (hg : ∀ s ∈ τ, ∀ p, s.2 = some p → 1 ≤ s.1 ∧ s.1 ≤ 65535) :
    Calls Try.prog 19 #[.pointer (some ⟨t, 0, none⟩)] w (IntsPost w (handlesF 0 τ)) := by
  have hc := H.c0
  have hf := H.few
  have hl := lenT_le τ
  have HG := Lib.hid hg
  clear hg
  go_enter Try.func19, Try.ntmps19
  go_wp2_with (go_at_call 22; refine (c_nob H).mono ?_; rintro e w' ⟨rfl, rfl⟩)
  go_loopw [3, 15] (fun v i wr => ∃ (k : Nat), k ≤ τ.length ∧ i = .int .i64 k ∧ wr.ownsRow w.heap.size 3 1 v (handlesF 0 (τ.take k)).length ((handlesF 0 (τ.take k)).map (Value.int .i64)) ∧ Below w.heap.size w wr) (fun _ i _ => τ.length - (intOf i).toNat)
  case atStart => exact ⟨0, Nat.zero_le _, rfl, World.ownsRow_nil _ _ _ _, Below.refl _ _⟩
  case round =>
    obtain ⟨k, hk, rfl, hown, hb⟩ := hrel
    have Hr := H.below hb
    have hl2 := lenT_le (τ.take k)
    have hl3 : (τ.take k).length ≤ k := List.length_take_le _ _
    have hl4 := handlesF_len (τ.take k) 0
    have hl5 : (handlesF 0 (τ.take k)).length ≤ 4096 := by omega
    have hsz := hb.size
    clear hl4
    by_cases hlt : k < τ.length
    · obtain ⟨g, o, hs, h1, h2⟩ := Hr.slot2 k hlt
      have HN := Lib.hid (handles_next τ k g o hs)
      have hgm := fun p (e : o = some p) => HG.out (g, o) (List.mem_of_getElem? hs) p e
      clear hs hc
      rcases o with _ | ⟨b, x⟩
      · simp only [ptrV] at h2
        clear hgm
        go_wp2_with (go_at_call 31; refine (c_taken (q := none) (by simp only [ptrV]; go_simp)).mono ?_; rintro e w' ⟨rfl, rfl⟩)
        go_roundw
        case rel => exact ⟨k + 1, by omega, by go_num, by rw [HN.out, show oneH k g none = [] from rfl, List.append_nil]; exact hown.alloc _, up_trans hb (up_alloc _ _)⟩
        case measure => simp [intOf]; omega
      · simp only [ptrV] at h2
        obtain ⟨hg1, hg2⟩ := hgm _ rfl
        clear hgm
        go_wp2_with (first | (go_at_call 31; refine (c_taken (q := some (b, x)) (by simp only [ptrV]; go_simp)).mono ?_; rintro e w' ⟨rfl, rfl⟩)  | (go_at_call 24; refine (c_make _ _ _).mono ?_; rintro e w' ⟨rfl, rfl⟩)  | (at_builtin; go_loud (refine wpList_app ei_int rfl (.tmp 28) (.tmp 30) rfl _ _ rfl ((hown.alloc _).alloc _) rfl (RD.one (by simp)) (by simp [Value.oneCell']) (by omega) (by simp; omega) ?_); intro v' w1 hown1 hb1))
        go_roundw
        case rel => exact ⟨k + 1, by omega, by go_num, by rw [HN.out, List.map_append, List.length_append]; exact hown1, (up_trans hb (up_trans (up_alloc _ _) (up_alloc _ _))).trans hb1⟩
        case measure => simp [intOf]; omega
    · obtain rfl : k = τ.length := by omega
      go_wp2
      go_ret
      rw [List.take_length] at hown
      exact IntsPost.of hown hb
end Go.Proofs.Ytdlbcacdbcnbhaa

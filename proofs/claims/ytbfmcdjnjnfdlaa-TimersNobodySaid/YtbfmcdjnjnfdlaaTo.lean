/- The two closures, and slices.IndexFunc over them. -/
import Derived.Test.YtbfmcdjnjnfdlaaTd
import Derived.Test.YtbfmcdjnjnfdlaaCd
namespace Go.Proofs.Ytbfmcdjnjnfdlaa
open Go.RowKit

theorem box_tm (w : World) (t : Tm) : Blk (w.alloc (.cells #[.int .i64 t.at_, .int .i64 t.no, .int .i64 t.who] 42)) w.heap.size [.int .i64 t.at_, .int .i64 t.no, .int .i64 t.who] 42 := Blk.new w _ _

set_option maxHeartbeats 400000 in
theorem c_isno {w : World} {B : Nat} {no : Int} (hc : w.cell? ⟨B, 0, none⟩ = some (.int .i64 no)) (hB : B < w.heap.size) (t : Tm) :
    Calls Try.prog 22 #[.agg #[.int .i64 t.at_, .int .i64 t.no, .int .i64 t.who], .pointer (some ⟨B, 0, none⟩)] w fun e w' => e = .returned (.bool (t.no == no)) ∧ Below w.heap.size w w' := by
  have hb := up_alloc w (.cells #[.int .i64 t.at_, .int .i64 t.no, .int .i64 t.who] 42)
  have k1 := (box_tm w t).cell 1 _ rfl
  go_enter Try.func22, Try.ntmps22
  go_wp2
  go_ret
  exact ⟨rfl, hb⟩
set_option maxHeartbeats 400000 in
theorem c_isdue {w : World} {B : Nat} {now : Int} (hc : w.cell? ⟨B, 0, none⟩ = some (.int .i64 now)) (hB : B < w.heap.size) (t : Tm) :
    Calls Try.prog 31 #[.agg #[.int .i64 t.at_, .int .i64 t.no, .int .i64 t.who], .pointer (some ⟨B, 0, none⟩)] w fun e w' => e = .returned (.bool (!dueB now t.at_)) ∧ Below w.heap.size w w' := by
  have hb := up_alloc w (.cells #[.int .i64 t.at_, .int .i64 t.no, .int .i64 t.who] 42)
  have k1 := (box_tm w t).cell 0 _ rfl
  go_enter Try.func31, Try.ntmps31
  go_wp2_with (go_at_call 32; refine (c_due _ _ _).mono ?_; rintro e w' ⟨rfl, rfl⟩)
  go_ret
  exact ⟨rfl, hb⟩

/-- Where the first is of which p holds. -/
def IxPost (w : World) (p : Tm → Bool) (xs : List Tm) (e : Ending) (w' : World) : Prop :=
  Below w.heap.size w w' ∧ ((∃ j : Nat, e = .returned (.int .i64 j) ∧ j < xs.length ∧ p (gt xs j) = true ∧ ∀ i, i < j → p (gt xs i) = false) ∨ (e = .returned (.int .i64 (-1)) ∧ ∀ i, i < xs.length → p (gt xs i) = false))
/-- A slice reads as timers. -/
def RT (w : World) (pl : Nat → Prop) (A : Option Addr) (xs : List Tm) : Prop := RD w pl 3 A xs.length (flatT xs)
theorem RT.cells {w : World} {pl : Nat → Prop} {A : Option Addr} {xs : List Tm} (h : RT w pl A xs) {k : Nat} (hk : k < xs.length) : ∃ b o, A = some ⟨b, o, none⟩ ∧ pl b ∧ b < w.heap.size ∧
    w.cell? ⟨b, o + k * 3, none⟩ = some (.int .i64 (gt xs k).at_) ∧ w.cell? ⟨b, o + k * 3 + 1, none⟩ = some (.int .i64 (gt xs k).no) ∧ w.cell? ⟨b, o + k * 3 + 2, none⟩ = some (.int .i64 (gt xs k).who) := by
  obtain ⟨b, o, e, h1, h2, h3⟩ := h.at_ (by omega)
  refine ⟨b, o, e, h1, h2, ?_, ?_, ?_⟩
  · exact h3 (k * 3 + 0) _ (flatT_get (gt_some hk) 0 (by omega))
  · rw [Nat.add_assoc]; exact h3 (k * 3 + 1) _ (flatT_get (gt_some hk) 1 (by omega))
  · rw [Nat.add_assoc]; exact h3 (k * 3 + 2) _ (flatT_get (gt_some hk) 2 (by omega))
theorem RT.below {w w' : World} {pl : Nat → Prop} {A : Option Addr} {xs : List Tm} (h : RT w pl A xs) (hb : Below w.heap.size w w') : RT w' pl A xs := RD.below h hb

set_option maxHeartbeats 1000000 in
theorem c_ixno {w : World} {pl : Nat → Prop} {A : Option Addr} {xs : List Tm} {c B : Nat} {no : Int} (h : RT w pl A xs) (hf : xs.length ≤ 2000) (hc : w.cell? ⟨B, 0, none⟩ = some (.int .i64 no)) (hB : B < w.heap.size) :
    Calls Try.prog 21 #[.slice A xs.length c, .func (.func 22) #[] #[.pointer (some ⟨B, 0, none⟩)]] w (IxPost w (fun t => t.no == no) xs) := by
  have H := Lib.hid h
  have HC := Lib.hid hc
  obtain ⟨n, hn⟩ : ∃ n, n = xs.length := ⟨_, rfl⟩
  have HN := Lib.hid hn
  rw [← hn]
  have hfn : n ≤ 2000 := by omega
  clear h hc hn hf
  go_enter Try.func21, Try.ntmps21
  go_wp2
  go_loopw [8] (fun i wr => ∃ k : Nat, k ≤ n ∧ i = .int .i64 k ∧ (∀ i, i < k → (gt xs i).no ≠ no) ∧ Below w.heap.size w wr) (fun i _ => n - (intOf i).toNat)
  case atStart => exact ⟨0, by omega, rfl, fun i h => absurd h (by omega), Below.refl _ _⟩
  case round =>
    obtain ⟨k, hk, rfl, hp, hb⟩ := hrel
    have HP := Lib.hid hp
    have HB := Lib.hid hb
    clear hp
    by_cases hlt : k < n
    · obtain ⟨b, o, rfl, _, _, i0, i1, i2⟩ := (H.out.below hb).cells (k := k) (by rw [← HN.out]; exact hlt)
      have CI := fun W (hW : Below wr.heap.size wr W) => c_isno (w := W) (((up_trans hb hW).cell (p := ⟨B, 0, none⟩) hB).trans HC.out) (Nat.lt_of_lt_of_le hB (up_trans hb hW).size)
      have CII := Lib.hid (CI wr (Below.refl _ _) (gt xs k))
      clear hb CI
      obtain ⟨t, ht⟩ : ∃ t, t = gt xs k := ⟨_, rfl⟩
      rw [← ht] at i0 i1 i2 CII
      have HT := Lib.hid ht
      clear ht
      cases hno : (t.no == no)
      · rw [hno] at CII
        have HNO := Lib.hid hno
        clear hno
        go_wp2_with (go_at_call 22; refine CII.out.mono ?_; rintro e w2 ⟨rfl, hb2⟩; have HB2 := Lib.hid hb2; clear hb2)
        go_roundw
        case rel => exact ⟨k + 1, by omega, by go_num, fun i hi => by
          rcases Nat.lt_succ_iff_lt_or_eq.1 hi with h | rfl
          · exact HP.out i h
          · rw [← HT.out]; exact beq_eq_false_iff_ne.1 HNO.out, up_trans HB.out HB2.out⟩
        case measure => simp [intOf]; omega
      · rw [hno] at CII
        have HNO := Lib.hid hno
        clear hno
        go_wp2_with (go_at_call 22; refine CII.out.mono ?_; rintro e w2 ⟨rfl, hb2⟩; have HB2 := Lib.hid hb2; clear hb2)
        go_ret
        exact ⟨up_trans HB.out HB2.out, .inl ⟨k, rfl, by rw [← HN.out]; exact hlt, by rw [← HT.out]; exact HNO.out, fun i hi => beq_eq_false_iff_ne.2 (HP.out i hi)⟩⟩
    · have hk' : n ≤ k := by omega
      clear hb
      go_wp2
      go_ret
      exact ⟨HB.out, .inr ⟨rfl, fun i hi => beq_eq_false_iff_ne.2 (HP.out i (by rw [← HN.out] at hi; omega))⟩⟩

set_option maxHeartbeats 1000000 in
theorem c_ixdue {w : World} {pl : Nat → Prop} {A : Option Addr} {xs : List Tm} {c B : Nat} {now : Int} (h : RT w pl A xs) (hf : xs.length ≤ 2000) (hc : w.cell? ⟨B, 0, none⟩ = some (.int .i64 now)) (hB : B < w.heap.size) :
    Calls Try.prog 37 #[.slice A xs.length c, .func (.func 31) #[] #[.pointer (some ⟨B, 0, none⟩)]] w (IxPost w (fun t => !dueB now t.at_) xs) := by
  have H := Lib.hid h
  have HC := Lib.hid hc
  obtain ⟨n, hn⟩ : ∃ n, n = xs.length := ⟨_, rfl⟩
  have HN := Lib.hid hn
  rw [← hn]
  have hfn : n ≤ 2000 := by omega
  clear h hc hn hf
  go_enter Try.func37, Try.ntmps37
  go_wp2
  go_loopw [8] (fun i wr => ∃ k : Nat, k ≤ n ∧ i = .int .i64 k ∧ (∀ i, i < k → (!dueB now (gt xs i).at_) = false) ∧ Below w.heap.size w wr) (fun i _ => n - (intOf i).toNat)
  case atStart => exact ⟨0, by omega, rfl, fun i h => absurd h (by omega), Below.refl _ _⟩
  case round =>
    obtain ⟨k, hk, rfl, hp, hb⟩ := hrel
    have HP := Lib.hid hp
    have HB := Lib.hid hb
    clear hp
    by_cases hlt : k < n
    · obtain ⟨b, o, rfl, _, _, i0, i1, i2⟩ := (H.out.below hb).cells (k := k) (by rw [← HN.out]; exact hlt)
      have CII := Lib.hid (c_isdue (w := wr) ((hb.cell (p := ⟨B, 0, none⟩) hB).trans HC.out) (Nat.lt_of_lt_of_le hB hb.size) (gt xs k))
      clear hb
      obtain ⟨t, ht⟩ : ∃ t, t = gt xs k := ⟨_, rfl⟩
      rw [← ht] at i0 i1 i2 CII
      have HT := Lib.hid ht
      clear ht
      cases hno : (!dueB now t.at_)
      · rw [hno] at CII
        have HNO := Lib.hid hno
        clear hno
        go_wp2_with (go_at_call 31; refine CII.out.mono ?_; rintro e w2 ⟨rfl, hb2⟩; have HB2 := Lib.hid hb2; clear hb2)
        go_roundw
        case rel => exact ⟨k + 1, by omega, by go_num, fun i hi => by
          rcases Nat.lt_succ_iff_lt_or_eq.1 hi with h | rfl
          · exact HP.out i h
          · rw [← HT.out]; exact HNO.out, up_trans HB.out HB2.out⟩
        case measure => simp [intOf]; omega
      · rw [hno] at CII
        have HNO := Lib.hid hno
        clear hno
        go_wp2_with (go_at_call 31; refine CII.out.mono ?_; rintro e w2 ⟨rfl, hb2⟩; have HB2 := Lib.hid hb2; clear hb2)
        go_ret
        exact ⟨up_trans HB.out HB2.out, .inl ⟨k, rfl, by rw [← HN.out]; exact hlt, by rw [← HT.out]; exact HNO.out, fun i hi => HP.out i hi⟩⟩
    · have hk' : n ≤ k := by omega
      clear hb
      go_wp2
      go_ret
      exact ⟨HB.out, .inr ⟨rfl, fun i hi => HP.out i (by rw [← HN.out] at hi; omega)⟩⟩
end Go.Proofs.Ytbfmcdjnjnfdlaa

/- The contracts of arena's find, Get, Set and Drop. -/
import Derived.Test.YtdlbcacdbcnbhaaAt
namespace Go.Proofs.Ytdlbcacdbcnbhaa
open Go.RowKit

set_option maxHeartbeats 400000 in
theorem c_find_range {w : World} {t S : Nat} {last : Int} {τ : List Slot} (H : AT w t S last τ) (h : Int) (hw : I64 h) (hr : slotF h < 0 ∨ (τ.length : Int) ≤ slotF h) :
    Calls Try.prog 20 #[.pointer (some ⟨t, 0, none⟩), .int .i64 h] w fun e w' => e = .returned (.tuple #[.pointer none, .int .i64 8]) ∧ w = w' := by
  have hc := H.c0
  have HW := Lib.hid hw
  clear hw
  have hf := H.few
  rcases hr with hr | hr
  · go_enter Try.func20, Try.ntmps20
    go_wp2_with (first | (go_at_call 22; refine (c_nob H).mono ?_; rintro e w' ⟨rfl, rfl⟩) | (go_at_call 32; refine (c_slot _ HW.out _).mono ?_; rintro e w' ⟨rfl, rfl⟩))
    go_ret2
    exact ⟨rfl, rfl⟩
  · have h0 : ¬ slotF h < 0 := by omega
    go_enter Try.func20, Try.ntmps20
    go_wp2_with (first | (go_at_call 22; refine (c_nob H).mono ?_; rintro e w' ⟨rfl, rfl⟩) | (go_at_call 32; refine (c_slot _ HW.out _).mono ?_; rintro e w' ⟨rfl, rfl⟩))
    go_ret2
    exact ⟨rfl, rfl⟩

set_option maxHeartbeats 400000 in
theorem c_find_stale {w : World} {t S : Nat} {last : Int} {τ : List Slot} (H : AT w t S last τ) (h : Int) (hw : I64 h) (k : Nat) (hk : slotF h = k) (g : Int) (o : Option (Nat × Int)) (hs : τ[k]? = some (g, o)) (hr : o = none ∨ g ≠ genF h) :
    Calls Try.prog 20 #[.pointer (some ⟨t, 0, none⟩), .int .i64 h] w fun e w' => e = .returned (.tuple #[.pointer none, .int .i64 9]) ∧ Drew w w' := by
  have hc := H.c0
  have hg := H.g k _ hs
  have hp := H.p k _ hs
  have HP := Lib.hid (H.p k _ hs)
  have HW := Lib.hid hw
  have hf := H.few
  have hlt : k < τ.length := (List.getElem?_eq_some_iff.1 hs).1
  have cS := fun W => c_slot h hw W
  rw [hk] at cS
  have CS := Lib.hid cS
  clear hw hs hk cS
  by_cases ho : o = none
  · subst ho
    simp only [ptrV] at hp
    clear hr
    go_enter Try.func20, Try.ntmps20
    go_wp2_with (first | (go_at_call 22; refine (c_nob H).mono ?_; rintro e w' ⟨rfl, rfl⟩) | (go_at_call 32; refine (CS.out _).mono ?_; rintro e w' ⟨rfl, rfl⟩))
    go_quiet ((first | (go_at_call 31; exact quiet_left (c_taken HP.out)) | (go_at_call 33; exact quiet_left (c_gen _ HW.out _))))
    go_wp2
    go_ret2
    exact ⟨rfl, Drew.of _ _⟩
  · obtain ⟨⟨b, x⟩, rfl⟩ := Option.ne_none_iff_exists'.1 ho
    have hne : (g != genF h) = true := by
      rw [bne_iff_ne]
      rcases hr with hr | hr
      · exact absurd hr ho
      · exact hr
    simp only [ptrV] at hp
    clear hr ho
    go_enter Try.func20, Try.ntmps20
    go_wp2_with (first | (go_at_call 22; refine (c_nob H).mono ?_; rintro e w' ⟨rfl, rfl⟩) | (go_at_call 32; refine (CS.out _).mono ?_; rintro e w' ⟨rfl, rfl⟩))
    go_quiet ((first | (go_at_call 31; exact quiet_left (c_taken HP.out)) | (go_at_call 33; exact quiet_left (c_gen _ HW.out _))))
    go_wp2
    go_ret2
    exact ⟨rfl, Drew.of _ _⟩

set_option maxHeartbeats 400000 in
theorem c_find_ok {w : World} {t S : Nat} {last : Int} {τ : List Slot} (H : AT w t S last τ) (h : Int) (hw : I64 h) (k : Nat) (hk : slotF h = k) (b : Nat) (x : Int) (hs : τ[k]? = some (genF h, some (b, x))) :
    Calls Try.prog 20 #[.pointer (some ⟨t, 0, none⟩), .int .i64 h] w fun e w' => e = .returned (.tuple #[.pointer (some ⟨S, k * 2, none⟩), .int .i64 0]) ∧ Drew w w' := by
  have hc := H.c0
  have hg := H.g k _ hs
  have hp := H.p k _ hs
  have HP := Lib.hid (H.p k _ hs)
  have HW := Lib.hid hw
  have hf := H.few
  have hlt : k < τ.length := (List.getElem?_eq_some_iff.1 hs).1
  have cS := fun W => c_slot h hw W
  rw [hk] at cS
  have CS := Lib.hid cS
  have hne : (genF h != genF h) = false := by simp
  clear hw hs hk cS
  simp only [ptrV] at hp
  go_enter Try.func20, Try.ntmps20
  go_wp2_with (first | (go_at_call 22; refine (c_nob H).mono ?_; rintro e w' ⟨rfl, rfl⟩) | (go_at_call 32; refine (CS.out _).mono ?_; rintro e w' ⟨rfl, rfl⟩))
  go_quiet ((first | (go_at_call 31; exact quiet_left (c_taken HP.out)) | (go_at_call 33; exact quiet_left (c_gen _ HW.out _))))
  go_wp2
  go_ret2
  exact ⟨rfl, Drew.of _ _⟩
end Go.Proofs.Ytdlbcacdbcnbhaa

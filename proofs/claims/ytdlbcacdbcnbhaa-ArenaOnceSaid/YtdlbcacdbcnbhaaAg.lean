/- The contracts of arena's Get, Set and Drop. -/
import Derived.Test.YtdlbcacdbcnbhaaAf
namespace Go.Proofs.Ytdlbcacdbcnbhaa
open Go.RowKit

theorem AT.drewN {w : World} {t S : Nat} {last : Int} {τ : List Slot} (h : AT w t S last τ) (n : Nat) : AT (w.drewN n) t S last τ := ⟨h.tab, h.row, h.one, h.pos, h.few⟩
theorem AT.alloc {w : World} {t S : Nat} {last : Int} {τ : List Slot} (h : AT w t S last τ) (o : Obj) : AT (w.alloc o) t S last τ := h.below (up_alloc w o)
theorem AT.put {w : World} {t S : Nat} {last : Int} {τ : List Slot} (h : AT w t S last τ) (k : Nat) (g : Int) (o p : Option (Nat × Int)) (hk : τ[k]? = some (g, o)) (hp : ∀ b x, p = some (b, x) → Blk w b [.int .i64 x] 3) :
    AT (w.setCell ⟨S, k * 2 + 1, none⟩ (ptrV p)) t S last (τ.set k (g, p)) := by
  refine ⟨?_, ?_, ?_, by simpa using h.pos, by simpa using h.few⟩
  · rw [List.length_set]
    exact h.tab.other _ h.tS _
  · have := h.row.set (k * 2 + 1) (ptrV p)
    rwa [flat2_set slotV slotV_len τ k (g, o) (g, p) (ptrV p) 1 hk (by omega) rfl] at this
  · intro s hs b x e
    have hB : Blk w b [.int .i64 x] 3 := by
      rcases List.mem_or_eq_of_mem_set hs with h1 | rfl
      · exact h.one s h1 b x e
      · exact hp b x e
    exact hB.other _ (hB.ne h.row (by decide)) _
theorem AT.gen {w : World} {t S : Nat} {last : Int} {τ : List Slot} (h : AT w t S last τ) (k : Nat) (g g' : Int) (o : Option (Nat × Int)) (hk : τ[k]? = some (g, o)) :
    AT (w.setCell ⟨S, k * 2, none⟩ (.int .i64 g')) t S last (τ.set k (g', o)) := by
  refine ⟨?_, ?_, ?_, by simpa using h.pos, by simpa using h.few⟩
  · rw [List.length_set]
    exact h.tab.other _ h.tS _
  · have := h.row.set (k * 2) (.int .i64 g')
    rwa [show k * 2 = k * 2 + 0 from rfl, flat2_set slotV slotV_len τ k (g, o) (g', o) (.int .i64 g') 0 hk (by omega) rfl] at this
  · intro s hs b x e
    have hB : Blk w b [.int .i64 x] 3 := by
      rcases List.mem_or_eq_of_mem_set hs with h1 | rfl
      · exact h.one s h1 b x e
      · exact h.one (g, o) (List.mem_of_getElem? hk) b x e
    exact hB.other _ (hB.ne h.row (by decide)) _
theorem AT.free {w : World} {t S : Nat} {last : Int} {τ : List Slot} (h : AT w t S last τ) (j : Nat) : w.frozen? ⟨S, j, none⟩ = false := h.row.free j

set_option maxHeartbeats 400000 in
theorem c_get_range {w : World} {t S : Nat} {last : Int} {τ : List Slot} (H : AT w t S last τ) (h : Int) (hw : I64 h) (hr : slotF h < 0 ∨ (τ.length : Int) ≤ slotF h) :
    Calls Try.prog 16 #[.pointer (some ⟨t, 0, none⟩), .int .i64 h] w fun e w' => e = .returned (.tuple #[.int .i64 0, .int .i64 8]) ∧ Drew w w' := by
  have C := Lib.hid (c_find_range H h hw hr)
  clear hr hw
  go_enter Try.func16, Try.ntmps16
  go_wp2_with fail
  refine (Calls.mono C.out ?_)
  rintro e w' ⟨rfl, rfl⟩
  go_wp2
  go_ret2
  exact ⟨rfl, Drew.refl _⟩

set_option maxHeartbeats 400000 in
theorem c_get_stale {w : World} {t S : Nat} {last : Int} {τ : List Slot} (H : AT w t S last τ) (h : Int) (hw : I64 h) (k : Nat) (hk : slotF h = k) (g : Int) (o : Option (Nat × Int)) (hs : τ[k]? = some (g, o)) (hr : o = none ∨ g ≠ genF h) :
    Calls Try.prog 16 #[.pointer (some ⟨t, 0, none⟩), .int .i64 h] w fun e w' => e = .returned (.tuple #[.int .i64 0, .int .i64 9]) ∧ Drew w w' := by
  have C := Lib.hid (c_find_stale H h hw k hk g o hs hr)
  clear hr hw hk hs
  go_enter Try.func16, Try.ntmps16
  go_wp2_with fail
  refine (Calls.mono C.out ?_)
  rintro e w' ⟨rfl, n, rfl⟩
  go_wp2
  go_ret2
  exact ⟨rfl, Drew.of _ _⟩

set_option maxHeartbeats 400000 in
theorem c_get_ok {w : World} {t S : Nat} {last : Int} {τ : List Slot} (H : AT w t S last τ) (h : Int) (hw : I64 h) (k : Nat) (hk : slotF h = k) (b : Nat) (x : Int) (hs : τ[k]? = some (genF h, some (b, x))) :
    Calls Try.prog 16 #[.pointer (some ⟨t, 0, none⟩), .int .i64 h] w fun e w' => e = .returned (.tuple #[.int .i64 x, .int .i64 0]) ∧ Drew w w' := by
  have C := Lib.hid (c_find_ok H h hw k hk b x hs)
  have hp := H.p k _ hs
  have hb := (H.one _ (List.mem_of_getElem? hs) b x rfl).cell 0 _ rfl
  simp only [ptrV] at hp
  clear hw hk hs
  go_enter Try.func16, Try.ntmps16
  go_wp2_with fail
  refine (Calls.mono C.out ?_)
  rintro e w' ⟨rfl, n, rfl⟩
  go_wp2
  go_ret2
  exact ⟨rfl, Drew.of _ _⟩

set_option maxHeartbeats 400000 in
theorem c_drop_range {w : World} {t S : Nat} {last : Int} {τ : List Slot} (H : AT w t S last τ) (h : Int) (hw : I64 h) (hr : slotF h < 0 ∨ (τ.length : Int) ≤ slotF h) :
    Calls Try.prog 11 #[.pointer (some ⟨t, 0, none⟩), .int .i64 h] w fun e w' => e = .returned (.int .i64 8) ∧ Drew w w' := by
  have C := Lib.hid (c_find_range H h hw hr)
  clear hr hw
  go_enter Try.func11, Try.ntmps11
  go_wp2_with fail
  refine (Calls.mono C.out ?_)
  rintro e w' ⟨rfl, rfl⟩
  go_wp2
  go_ret
  exact ⟨rfl, Drew.refl _⟩

set_option maxHeartbeats 400000 in
theorem c_drop_stale {w : World} {t S : Nat} {last : Int} {τ : List Slot} (H : AT w t S last τ) (h : Int) (hw : I64 h) (k : Nat) (hk : slotF h = k) (g : Int) (o : Option (Nat × Int)) (hs : τ[k]? = some (g, o)) (hr : o = none ∨ g ≠ genF h) :
    Calls Try.prog 11 #[.pointer (some ⟨t, 0, none⟩), .int .i64 h] w fun e w' => e = .returned (.int .i64 9) ∧ Drew w w' := by
  have C := Lib.hid (c_find_stale H h hw k hk g o hs hr)
  clear hr hw hk hs
  go_enter Try.func11, Try.ntmps11
  go_wp2_with fail
  refine (Calls.mono C.out ?_)
  rintro e w' ⟨rfl, n, rfl⟩
  go_wp2
  go_ret
  exact ⟨rfl, Drew.of _ _⟩

set_option maxHeartbeats 400000 in
theorem c_drop_ok {w : World} {t S : Nat} {last : Int} {τ : List Slot} (H : AT w t S last τ) (h : Int) (hw : I64 h) (k : Nat) (hk : slotF h = k) (b : Nat) (x : Int) (hs : τ[k]? = some (genF h, some (b, x))) :
    Calls Try.prog 11 #[.pointer (some ⟨t, 0, none⟩), .int .i64 h] w fun e w' => e = .returned (.int .i64 0) ∧ AT w' t S last (τ.set k (genF h, none)) ∧ Only (· = S) w w' := by
  have C := Lib.hid (c_find_ok H h hw k hk b x hs)
  have hp := H.p k _ hs
  have fp := H.free (k * 2 + 1)
  simp only [ptrV] at hp
  have HS := Lib.hid hs
  clear hw hk hs
  go_enter Try.func11, Try.ntmps11
  go_wp2_with fail
  refine (Calls.mono C.out ?_)
  rintro e w' ⟨rfl, n, rfl⟩
  go_wp2
  go_ret
  have K := (H.put k _ _ none HS.out (fun _ _ e => by cases e)).drewN n
  exact ⟨rfl, K, ((Only.refl _ w).drewN n).put _ _⟩

set_option maxHeartbeats 400000 in
theorem c_set_range {w : World} {t S : Nat} {last : Int} {τ : List Slot} (H : AT w t S last τ) (h y : Int) (hw : I64 h) (hr : slotF h < 0 ∨ (τ.length : Int) ≤ slotF h) :
    Calls Try.prog 9 #[.pointer (some ⟨t, 0, none⟩), .int .i64 h, .int .i64 y] w fun e w' => e = .returned (.int .i64 8) ∧ Below w.heap.size w w' := by
  have C := fun o => Lib.hid (c_find_range (H.alloc o) h hw hr)
  clear hr hw
  go_enter Try.func9, Try.ntmps9
  go_wp2_with fail
  refine (Calls.mono (C _).out ?_)
  rintro e w' ⟨rfl, rfl⟩
  go_wp2
  go_ret
  exact ⟨rfl, up_alloc _ _⟩

set_option maxHeartbeats 400000 in
theorem c_set_stale {w : World} {t S : Nat} {last : Int} {τ : List Slot} (H : AT w t S last τ) (h y : Int) (hw : I64 h) (k : Nat) (hk : slotF h = k) (g : Int) (o : Option (Nat × Int)) (hs : τ[k]? = some (g, o)) (hr : o = none ∨ g ≠ genF h) :
    Calls Try.prog 9 #[.pointer (some ⟨t, 0, none⟩), .int .i64 h, .int .i64 y] w fun e w' => e = .returned (.int .i64 9) ∧ Below w.heap.size w w' := by
  have C := fun ob => Lib.hid (c_find_stale (H.alloc ob) h hw k hk g o hs hr)
  clear hr hw hk hs
  go_enter Try.func9, Try.ntmps9
  go_wp2_with fail
  refine (Calls.mono (C _).out ?_)
  rintro e w' ⟨rfl, n, rfl⟩
  go_wp2
  go_ret
  exact ⟨rfl, up_trans (up_alloc _ _) (up_drewN _ _)⟩

def SetPost (w : World) (t S : Nat) (last : Int) (τ : List Slot) (k : Nat) (g y : Int) (w' : World) : Prop := AT w' t S last (τ.set k (g, some (w.heap.size, y))) ∧ Only (· = S) w w'
set_option maxHeartbeats 400000 in
theorem c_set_ok {w : World} {t S : Nat} {last : Int} {τ : List Slot} (H : AT w t S last τ) (h y : Int) (hw : I64 h) (k : Nat) (hk : slotF h = k) (b : Nat) (x : Int) (hs : τ[k]? = some (genF h, some (b, x))) :
    Calls Try.prog 9 #[.pointer (some ⟨t, 0, none⟩), .int .i64 h, .int .i64 y] w fun e w' => e = .returned (.int .i64 0) ∧ SetPost w t S last τ k (genF h) y w' := by
  have H1 := H.alloc (.cells #[.int .i64 y] 3)
  have C := Lib.hid (c_find_ok H1 h hw k hk b x hs)
  have hp := H1.p k _ hs
  have fp := H1.free (k * 2 + 1)
  have hB : Blk (w.alloc (.cells #[.int .i64 y] 3)) w.heap.size [.int .i64 y] 3 := Blk.new w [.int .i64 y] 3
  simp only [ptrV] at hp
  have HS := Lib.hid hs
  clear hw hk hs
  go_enter Try.func9, Try.ntmps9
  go_wp2_with fail
  refine (Calls.mono C.out ?_)
  rintro e w' ⟨rfl, n, rfl⟩
  go_wp2
  go_ret
  have K := (H1.put k _ _ (some (w.heap.size, y)) HS.out (fun b' x' e => by cases e; exact hB)).drewN n
  exact ⟨rfl, K, (((Only.refl _ w).alloc _).drewN n).put _ _⟩
end Go.Proofs.Ytdlbcacdbcnbhaa

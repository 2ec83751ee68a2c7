/- A table of package arena, of offers, in memory: find, Get, Drop, Len, Free. -/
import Derived.Test.YtgigcjhggpknnaaRows
import Derived.Test.YtgigcjhggpknnaaM
import Derived.Test.YtgigcjhggpknnaaArm
import Derived.Test.YtgigcjhggpknnaaHd
import Derived.Test.YtgigcjhggpknnaaN
import Derived.IntWalk
import Derived.WalkKit
import Derived.WalkSpells
import Derived.WalkLawsBesides
import Derived.BigQuiet
import Derived.Deep.QuietTactic
import Derived.Outline
import Derived.LoopTactic
import Derived.Deep.RegionHeld3
namespace Go.Proofs.Ytgigcjhggpknnaa
open Go.RowKit

def ptrV (o : Option (Nat × OF)) : Value := match o with | none => .pointer none | some (b, _) => .pointer (some ⟨b, 0, none⟩)
def slotV (s : Slot) : List Value := [.int .i64 s.1, ptrV s.2]
theorem slots_len (τ : List Slot) : (τ.flatMap slotV).length = τ.length * 2 := by
  induction τ with
  | nil => rfl
  | cons s τ ih => rw [List.flatMap_cons, List.length_append, ih]; simp [slotV]; omega
theorem flat2_get {α β : Type} (f : α → List β) (hf : ∀ a, (f a).length = 2) : ∀ (l : List α) (k j : Nat) (s : α), l[k]? = some s → j < 2 → (l.flatMap f)[k * 2 + j]? = (f s)[j]?
  | [], k, j, s, h, _ => by simp at h
  | a :: l, 0, j, s, h, hj => by
    obtain rfl : a = s := by simpa using h
    rw [List.flatMap_cons, List.getElem?_append_left (by rw [hf]; omega), Nat.zero_mul, Nat.zero_add]
  | a :: l, k + 1, j, s, h, hj => by
    rw [List.flatMap_cons, List.getElem?_append_right (by rw [hf]; omega), hf, show (k + 1) * 2 + j - 2 = k * 2 + j by omega]
    exact flat2_get f hf l k j s (by simpa using h) hj
theorem flat2_set {α β : Type} (f : α → List β) (hf : ∀ a, (f a).length = 2) : ∀ (l : List α) (k : Nat) (s t : α) (v : β) (j : Nat), l[k]? = some s → j < 2 → f t = (f s).set j v → (l.flatMap f).set (k * 2 + j) v = (l.set k t).flatMap f
  | [], k, s, t, v, j, h, _, _ => by simp at h
  | a :: l, 0, s, t, v, j, h, hj, e => by
    obtain rfl : a = s := by simpa using h
    rw [List.flatMap_cons, List.set_cons_zero, List.flatMap_cons, e, Nat.zero_mul, Nat.zero_add, List.set_append_left _ _ (by rw [hf]; omega)]
  | a :: l, k + 1, s, t, v, j, h, hj, e => by
    rw [List.flatMap_cons, List.set_cons_succ, List.flatMap_cons, List.set_append_right _ _ (by rw [hf]; omega), hf, show (k + 1) * 2 + j - 2 = k * 2 + j by omega]
    rw [flat2_set f hf l k s t v j (by simpa using h) hj e]
theorem slotV_len (s : Slot) : (slotV s).length = 2 := rfl

/-- The table at block t, with its slots in block S. -/
structure AT (w : World) (t S : Nat) (last : Int) (τ : List Slot) : Prop where
  tab : Blk w t [.slice (some ⟨S, 0, none⟩) τ.length τ.length, .int .i64 last] 108
  row : Blk w S (τ.flatMap slotV) 93
  one : ∀ s ∈ τ, ∀ b x, s.2 = some (b, x) → Blk w b (ofC x) 65
  pos : 0 < τ.length
  few : τ.length ≤ 4096
theorem AT.tS {w : World} {t S : Nat} {last : Int} {τ : List Slot} (h : AT w t S last τ) : t ≠ S := h.tab.ne h.row (by decide)
theorem AT.only {s : Nat → Prop} {w w' : World} {t S : Nat} {last : Int} {τ : List Slot} (h : AT w t S last τ) (o : Only s w w') (hs : ∀ k, k < w.heap.size → ¬ s k) : AT w' t S last τ :=
  ⟨h.tab.only o (hs _ h.tab.lt), h.row.only o (hs _ h.row.lt), fun s hs' b x e => (h.one s hs' b x e).only o (hs _ (h.one s hs' b x e).lt), h.pos, h.few⟩
theorem AT.below {w w' : World} {t S : Nat} {last : Int} {τ : List Slot} (h : AT w t S last τ) (o : Below w.heap.size w w') : AT w' t S last τ := h.only (s := fun _ => False) (Only.of_below o) fun _ _ k => k
theorem AT.c0 {w : World} {t S : Nat} {last : Int} {τ : List Slot} (h : AT w t S last τ) : w.cell? ⟨t, 0, none⟩ = some (.slice (some ⟨S, 0, none⟩) τ.length τ.length) := h.tab.cell 0 _ rfl
theorem AT.c1 {w : World} {t S : Nat} {last : Int} {τ : List Slot} (h : AT w t S last τ) : w.cell? ⟨t, 1, none⟩ = some (.int .i64 last) := h.tab.cell 1 _ rfl
theorem AT.g {w : World} {t S : Nat} {last : Int} {τ : List Slot} (h : AT w t S last τ) (k : Nat) (s : Slot) (hk : τ[k]? = some s) : w.cell? ⟨S, k * 2, none⟩ = some (.int .i64 s.1) := by
  rw [h.row.cell', show k * 2 = k * 2 + 0 from rfl, flat2_get slotV slotV_len τ k 0 s hk (by omega)]
  rfl
theorem AT.p {w : World} {t S : Nat} {last : Int} {τ : List Slot} (h : AT w t S last τ) (k : Nat) (s : Slot) (hk : τ[k]? = some s) : w.cell? ⟨S, k * 2 + 1, none⟩ = some (ptrV s.2) := by
  rw [h.row.cell', flat2_get slotV slotV_len τ k 1 s hk (by omega)]
  rfl

set_option maxHeartbeats 400000 in
theorem a_nob {w : World} {t S : Nat} {last : Int} {τ : List Slot} (h : AT w t S last τ) :
    Calls Try.prog 50 #[.pointer (some ⟨t, 0, none⟩)] w fun e w' => e = .returned (.bool false) ∧ w = w' := by
  have hc := h.c0
  have hp := h.pos
  have hf := h.few
  have hz : ((τ.length : Int) == 0) = false := beq_eq_false_iff_ne.2 (by omega)
  clear h
  go_enter Try.func50, Try.ntmps50
  go_wp2
  go_ret
  exact ⟨ret_bool (by first | rfl | assumption), rfl⟩

set_option maxHeartbeats 400000 in
theorem a_taken {w : World} {B o : Nat} {q : Option (Nat × OF)} (hc : w.cell? ⟨B, o + 1, none⟩ = some (ptrV q)) :
    Calls Try.prog 51 #[.pointer (some ⟨B, o, none⟩)] w fun e w' => e = .returned (.bool q.isSome) ∧ w = w' := by
  rcases q with _ | ⟨b, x⟩
  · simp only [ptrV] at hc
    go_enter Try.func51, Try.ntmps51
    go_wp2
    go_ret
    exact ⟨rfl, rfl⟩
  · simp only [ptrV] at hc
    go_enter Try.func51, Try.ntmps51
    go_wp2
    go_ret
    exact ⟨rfl, rfl⟩

set_option maxHeartbeats 400000 in
theorem a_free {w : World} {B o : Nat} {g last : Int} {q : Option (Nat × OF)} (hg : w.cell? ⟨B, o, none⟩ = some (.int .i64 g)) (hc : w.cell? ⟨B, o + 1, none⟩ = some (ptrV q)) :
    Calls Try.prog 56 #[.pointer (some ⟨B, o, none⟩), .int .i64 last] w fun e w' => e = .returned (.bool (isFree last (g, q))) ∧ w = w' := by
  rcases q with _ | ⟨b, x⟩
  · have HC := Lib.hid hc
    clear hc
    go_enter Try.func56, Try.ntmps56
    go_wp2_with (go_at_call 51; refine (a_taken HC.out).mono ?_; rintro e w' ⟨rfl, rfl⟩)
    go_ret
    exact ⟨ret_bool (by simp [isFree]), rfl⟩
  · have HC := Lib.hid hc
    clear hc
    go_enter Try.func56, Try.ntmps56
    go_wp2_with (go_at_call 51; refine (a_taken HC.out).mono ?_; rintro e w' ⟨rfl, rfl⟩)
    go_ret
    exact ⟨ret_bool (by simp [isFree]), rfl⟩

set_option maxHeartbeats 400000 in
theorem a_find {w : World} {t S : Nat} {last : Int} {τ : List Slot} (H : AT w t S last τ) (h : Int) (hw : I64 h) (k : Nat) (hk : slotF h = k) (b : Nat) (x : OF) (hs : τ[k]? = some (genF h, some (b, x))) :
    Calls Try.prog 43 #[.pointer (some ⟨t, 0, none⟩), .int .i64 h] w fun e w' => e = .returned (.tuple #[.pointer (some ⟨S, k * 2, none⟩), .int .i64 0]) ∧ Drew w w' := by
  have hc := H.c0
  have hg := H.g k _ hs
  have hp := H.p k _ hs
  have HP := Lib.hid (H.p k _ hs)
  have HW := Lib.hid hw
  have hf := H.few
  have hlt : k < τ.length := (List.getElem?_eq_some_iff.1 hs).1
  have cS := fun W => c_slot h hw W
  rw [hk] at cS
  have CS := Lib.hid cS
  have hne : (genF h != genF h) = false := by simp
  clear hw hs hk cS
  simp only [ptrV] at hp
  go_enter Try.func43, Try.ntmps43
  go_wp2_with (first | (go_at_call 50; refine (a_nob H).mono ?_; rintro e w' ⟨rfl, rfl⟩) | (go_at_call 54; refine (CS.out _).mono ?_; rintro e w' ⟨rfl, rfl⟩))
  go_quiet ((first | (go_at_call 51; exact quiet_left (a_taken HP.out)) | (go_at_call 55; exact quiet_left (c_gen _ HW.out _))))
  go_wp2
  go_ret2
  exact ⟨rfl, Drew.of _ _⟩
theorem AT.drewN {w : World} {t S : Nat} {last : Int} {τ : List Slot} (h : AT w t S last τ) (n : Nat) : AT (w.drewN n) t S last τ := ⟨h.tab, h.row, h.one, h.pos, h.few⟩
theorem AT.alloc {w : World} {t S : Nat} {last : Int} {τ : List Slot} (h : AT w t S last τ) (o : Obj) : AT (w.alloc o) t S last τ := h.below (up_alloc w o)
theorem AT.put {w : World} {t S : Nat} {last : Int} {τ : List Slot} (h : AT w t S last τ) (k : Nat) (g : Int) (o p : Option (Nat × OF)) (hk : τ[k]? = some (g, o)) (hp : ∀ b x, p = some (b, x) → Blk w b (ofC x) 65) :
    AT (w.setCell ⟨S, k * 2 + 1, none⟩ (ptrV p)) t S last (τ.set k (g, p)) := by
  refine ⟨?_, ?_, ?_, by simpa using h.pos, by simpa using h.few⟩
  · rw [List.length_set]
    exact h.tab.other _ h.tS _
  · have := h.row.set (k * 2 + 1) (ptrV p)
    rwa [flat2_set slotV slotV_len τ k (g, o) (g, p) (ptrV p) 1 hk (by omega) rfl] at this
  · intro s hs b x e
    have hB : Blk w b (ofC x) 65 := by
      rcases List.mem_or_eq_of_mem_set hs with h1 | rfl
      · exact h.one s h1 b x e
      · exact hp b x e
    exact hB.other _ (hB.ne h.row (by decide)) _
theorem AT.gen {w : World} {t S : Nat} {last : Int} {τ : List Slot} (h : AT w t S last τ) (k : Nat) (g g' : Int) (o : Option (Nat × OF)) (hk : τ[k]? = some (g, o)) :
    AT (w.setCell ⟨S, k * 2, none⟩ (.int .i64 g')) t S last (τ.set k (g', o)) := by
  refine ⟨?_, ?_, ?_, by simpa using h.pos, by simpa using h.few⟩
  · rw [List.length_set]
    exact h.tab.other _ h.tS _
  · have := h.row.set (k * 2) (.int .i64 g')
    rwa [show k * 2 = k * 2 + 0 from rfl, flat2_set slotV slotV_len τ k (g, o) (g', o) (.int .i64 g') 0 hk (by omega) rfl] at this
  · intro s hs b x e
    have hB : Blk w b (ofC x) 65 := by
      rcases List.mem_or_eq_of_mem_set hs with h1 | rfl
      · exact h.one s h1 b x e
      · exact h.one (g, o) (List.mem_of_getElem? hk) b x e
    exact hB.other _ (hB.ne h.row (by decide)) _
theorem AT.free {w : World} {t S : Nat} {last : Int} {τ : List Slot} (h : AT w t S last τ) (j : Nat) : w.frozen? ⟨S, j, none⟩ = false := h.row.free j

set_option maxHeartbeats 400000 in
theorem a_get {w : World} {t S : Nat} {last : Int} {τ : List Slot} (H : AT w t S last τ) (h : Int) (hw : I64 h) (k : Nat) (hk : slotF h = k) (b : Nat) (x : OF) (hs : τ[k]? = some (genF h, some (b, x))) :
    Calls Try.prog 45 #[.pointer (some ⟨t, 0, none⟩), .int .i64 h] w fun e w' => e = .returned (.tuple #[.agg #[.int .i64 x.w, .int .i64 x.g.k, .int .i64 x.g.o, .int .i64 x.g.v, .int .i64 x.g.r, .int .i64 x.g.n], .int .i64 0]) ∧ Below w.heap.size w w' := by
  have HA : AT (w.alloc (.cells #[.int .i64 0, .int .i64 0, .int .i64 0, .int .i64 0, .int .i64 0, .int .i64 0] 65)) t S last τ := H.alloc _
  have hR : Blk (w.alloc (.cells #[.int .i64 0, .int .i64 0, .int .i64 0, .int .i64 0, .int .i64 0, .int .i64 0] 65)) w.heap.size [.int .i64 0, .int .i64 0, .int .i64 0, .int .i64 0, .int .i64 0, .int .i64 0] 65 := Blk.new w _ _
  have up1 := up_alloc w (.cells #[.int .i64 0, .int .i64 0, .int .i64 0, .int .i64 0, .int .i64 0, .int .i64 0] 65)
  have C := Lib.hid (a_find HA h hw k hk b x hs)
  have HS := Lib.hid hs
  clear hw hk hs H
  go_enter Try.func45, Try.ntmps45
  go_wp2_with fail
  refine (Calls.mono C.out ?_)
  rintro e w3 ⟨rfl, hd⟩
  have hb3 := hd.below
  have H3 := HA.below hb3
  have hp := H3.p k _ HS.out
  have hB := H3.one _ (List.mem_of_getElem? HS.out) b x rfl
  have c0 := hB.cell 0 _ rfl
  have c1 := hB.cell 1 _ rfl
  have c2 := hB.cell 2 _ rfl
  have c3 := hB.cell 3 _ rfl
  have c4 := hB.cell 4 _ rfl
  have c5 := hB.cell 5 _ rfl
  have hR3 := hR.up hb3 hR.lt
  have r0 := hR3.cell 0 _ rfl
  have r1 := hR3.cell 1 _ rfl
  have r2 := hR3.cell 2 _ rfl
  have r3 := hR3.cell 3 _ rfl
  have r4 := hR3.cell 4 _ rfl
  have r5 := hR3.cell 5 _ rfl
  have f0 := hR3.free 0
  have f1 := hR3.free 1
  have f2 := hR3.free 2
  have f3 := hR3.free 3
  have f4 := hR3.free 4
  have f5 := hR3.free 5
  have HU := Lib.hid (up_trans up1 hb3)
  simp only [ptrV] at hp
  clear hB hR3 H3 hd hb3 HA hR up1 C HS
  go_wp2_with fail
  refine bodyPost_ret (v := .tuple #[.agg #[.int .i64 x.w, .int .i64 x.g.k, .int .i64 x.g.o, .int .i64 x.g.v, .int .i64 x.g.r, .int .i64 x.g.n], .int .i64 0]) (by simp [results, Try.results45, go_sem, r0, r1, r2, r3, r4, r5]) rfl ?_
  exact ⟨rfl, (((((HU.out.setCell (by simp) _).setCell (by simp) _).setCell (by simp) _).setCell (by simp) _).setCell (by simp) _).setCell (by simp) _⟩

set_option maxHeartbeats 400000 in
theorem a_drop {w : World} {t S : Nat} {last : Int} {τ : List Slot} (H : AT w t S last τ) (h : Int) (hw : I64 h) (k : Nat) (hk : slotF h = k) (b : Nat) (x : OF) (hs : τ[k]? = some (genF h, some (b, x))) :
    Calls Try.prog 27 #[.pointer (some ⟨t, 0, none⟩), .int .i64 h] w fun e w' => e = .returned (.int .i64 0) ∧ AT w' t S last (τ.set k (genF h, none)) ∧ Only (· = S) w w' := by
  have C := Lib.hid (a_find H h hw k hk b x hs)
  have hp := H.p k _ hs
  have fp := H.free (k * 2 + 1)
  simp only [ptrV] at hp
  have HS := Lib.hid hs
  clear hw hk hs
  go_enter Try.func27, Try.ntmps27
  go_wp2_with fail
  refine (Calls.mono C.out ?_)
  rintro e w' ⟨rfl, n, rfl⟩
  go_wp2
  go_ret
  have K := (H.put k _ _ none HS.out (fun _ _ e => by cases e)).drewN n
  exact ⟨rfl, K, ((Only.refl _ w).drewN n).put _ _⟩

theorem AT.slot2 {w : World} {t S : Nat} {last : Int} {τ : List Slot} (h : AT w t S last τ) (k : Nat) (hk : k < τ.length) : ∃ g o, τ[k]? = some (g, o) ∧ w.cell? ⟨S, k * 2, none⟩ = some (.int .i64 g) ∧ w.cell? ⟨S, k * 2 + 1, none⟩ = some (ptrV o) := by
  refine ⟨τ[k].1, τ[k].2, List.getElem?_eq_getElem hk, h.g k _ (List.getElem?_eq_getElem hk), h.p k _ (List.getElem?_eq_getElem hk)⟩

theorem ei_slot : EI Try.prog 106 93 (.agg #[.int .i64 0, .pointer none]) 2 16 := ⟨Try.underlying106, by kernel_rfl, rfl, by omega, by omega⟩
set_option maxHeartbeats 400000 in
theorem a_len {w : World} {t S : Nat} {last : Int} {τ : List Slot} (H : AT w t S last τ) :
    Calls Try.prog 37 #[.pointer (some ⟨t, 0, none⟩)] w fun e w' => e = .returned (.int .i64 (lenT τ : Nat)) ∧ Below w.heap.size w w' := by
  have hc := H.c0
  have hf := H.few
  have hl := lenT_le τ
  go_enter Try.func37, Try.ntmps37
  go_wp2_with (go_at_call 50; refine (a_nob H).mono ?_; rintro e w' ⟨rfl, rfl⟩)
  go_loopw [3, 13] (fun n i wr => ∃ k : Nat, k ≤ τ.length ∧ i = .int .i64 k ∧ n = .int .i64 (lenT (τ.take k) : Nat) ∧ Below w.heap.size w wr) (fun _ i _ => τ.length - (intOf i).toNat)
  case atStart => exact ⟨0, Nat.zero_le _, rfl, rfl, Below.refl _ _⟩
  case round =>
    obtain ⟨k, hk, rfl, rfl, hb⟩ := hrel
    have Hr := H.below hb
    have hl2 := lenT_le (τ.take k)
    have hl3 : (τ.take k).length ≤ k := List.length_take_le _ _
    by_cases hlt : k < τ.length
    · obtain ⟨g, o, hs, h1, h2⟩ := Hr.slot2 k hlt
      have HN := Lib.hid (lenT_next τ k _ hs)
      clear hs hc
      rcases o with _ | ⟨b, x⟩
      · simp only [ptrV] at h2
        go_wp2_with (go_at_call 51; refine (a_taken (q := none) (by simp only [ptrV]; go_simp)).mono ?_; rintro e w' ⟨rfl, rfl⟩)
        go_roundw
        case rel => exact ⟨k + 1, by omega, by go_num, by rw [HN.out]; rfl, up_trans hb (up_alloc _ _)⟩
        case measure => simp [intOf]; omega
      · simp only [ptrV] at h2
        go_wp2_with (go_at_call 51; refine (a_taken (q := some (b, x)) (by simp only [ptrV]; go_simp)).mono ?_; rintro e w' ⟨rfl, rfl⟩)
        go_roundw
        case rel => exact ⟨k + 1, by omega, by go_num, by rw [HN.out]; go_num, up_trans hb (up_alloc _ _)⟩
        case measure => simp [intOf]; omega
    · obtain rfl : k = τ.length := by omega
      go_wp2
      go_ret
      exact ⟨ret_int (by rw [List.take_length]), hb⟩

set_option maxHeartbeats 400000 in
theorem a_freeN {w : World} {t S : Nat} {last : Int} {τ : List Slot} (H : AT w t S last τ) :
    Calls Try.prog 47 #[.pointer (some ⟨t, 0, none⟩)] w fun e w' => e = .returned (.int .i64 (freeT last τ : Nat)) ∧ Below w.heap.size w w' := by
  have hc := H.c0
  have hf := H.few
  have hl := freeT_le last τ
  go_enter Try.func47, Try.ntmps47
  go_wp2_with (go_at_call 50; refine (a_nob H).mono ?_; rintro e w' ⟨rfl, rfl⟩)
  go_loopw [3, 13] (fun n i wr => ∃ k : Nat, k ≤ τ.length ∧ i = .int .i64 k ∧ n = .int .i64 (freeT last (τ.take k) : Nat) ∧ Below w.heap.size w wr) (fun _ i _ => τ.length - (intOf i).toNat)
  case atStart => exact ⟨0, Nat.zero_le _, rfl, rfl, Below.refl _ _⟩
  case round =>
    obtain ⟨k, hk, rfl, rfl, hb⟩ := hrel
    have Hr := H.below hb
    have hc1 := Hr.c1
    have hl2 := freeT_le last (τ.take k)
    have hl3 : (τ.take k).length ≤ k := List.length_take_le _ _
    by_cases hlt : k < τ.length
    · obtain ⟨g, o, hs, h1, h2⟩ := Hr.slot2 k hlt
      have HN := Lib.hid (freeT_next last τ k _ hs)
      have htl := Nat.lt_of_lt_of_le H.tab.lt hb.size
      clear hs hc
      rcases o with _ | ⟨b, x⟩
      · simp only [ptrV] at h2
        cases hfr : isFree last (g, none)
        all_goals
          have HF := Lib.hid hfr
          have CF := fun (W : World) B of (a : W.cell? ⟨B, of, none⟩ = some (.int .i64 g)) (b : W.cell? ⟨B, of + 1, none⟩ = some (.pointer none)) => (a_free (q := none) (last := last) a b)
          rw [hfr] at CF
          have CF := Lib.hid CF
          clear hfr
          go_wp2_with (go_at_call 56; refine Calls.mono (CF.out _ _ _ (by go_simp) (by go_simp)) ?_; rintro e w' ⟨rfl, rfl⟩)
          go_roundw
          case rel => exact ⟨k + 1, by omega, by go_num, by rw [HN.out, HF.out]; first | rfl | go_num, up_trans hb (up_alloc _ _)⟩
          case measure => simp [intOf]; omega
      · simp only [ptrV] at h2
        have HF : isFree last (g, some (b, x)) = false := rfl
        have HF := Lib.hid HF
        have CF := fun (W : World) B of (a : W.cell? ⟨B, of, none⟩ = some (.int .i64 g)) (c : W.cell? ⟨B, of + 1, none⟩ = some (.pointer (some ⟨b, 0, none⟩))) => (a_free (q := some (b, x)) (last := last) a c)
        rw [HF.out] at CF
        have CF := Lib.hid CF
        go_wp2_with (go_at_call 56; refine Calls.mono (CF.out _ _ _ (by go_simp) (by go_simp)) ?_; rintro e w' ⟨rfl, rfl⟩)
        go_roundw
        case rel => exact ⟨k + 1, by omega, by go_num, by rw [HN.out, HF.out]; first | rfl | go_num, up_trans hb (up_alloc _ _)⟩
        case measure => simp [intOf]; omega
    · obtain rfl : k = τ.length := by omega
      go_wp2
      go_ret
      exact ⟨ret_int (by rw [List.take_length]), hb⟩

end Go.Proofs.Ytgigcjhggpknnaa

/- Package offers: a table in memory; nobodys, look, Len, Free, worn, and the store's put. -/
import Derived.Test.YtgigcjhggpknnaaOpa
import Derived.Test.YtgigcjhggpknnaaAra
import Derived.Test.YtgigcjhggpknnaaQe
import Derived.Test.YtgigcjhggpknnaaQf
import Derived.Test.YtgigcjhggpknnaaQg
import Derived.Test.YtgigcjhggpknnaaQk
import Derived.StillTailTactics
namespace Go.Proofs.Ytgigcjhggpknnaa
open Go.RowKit

/-- A table at block t: its store, its arena and the arena's slots, its pool. -/
structure OX (w : World) (t s a S b room M : Nat) (D : List OF) (τ : List Slot) (Hs : List (List Int)) (fr : Nat) : Prop where
  tb : Blk w t [.pointer (some ⟨s, 0, none⟩)] 61
  sb : Blk w s [.pointer (some ⟨a, 0, none⟩), .pointer (some ⟨b, 0, none⟩)] 73
  at_ : AT w a S 65535 τ
  pa : PA w b Hs fr
  iv : IV M τ Hs D
  rm : fr + D.length = room
  len : τ.length = room
  r2 : room ≤ 1024
def OT (w : World) (t s a S b room M : Nat) (D : List OF) : Prop := ∃ τ Hs fr, OX w t s a S b room M D τ Hs fr
/-- What may turn. -/
def two (S b k : Nat) : Prop := k = S ∨ k = b
section
variable {w w' : World} {t s a S b room M : Nat} {D : List OF} {τ : List Slot} {Hs : List (List Int)} {fr : Nat}
theorem OX.n1 (h : OX w t s a S b room M D τ Hs fr) : ¬ two S b t := by
  obtain ⟨_, _, _, _, hp⟩ := h.pa
  rintro (e | e)
  · exact h.tb.ne h.at_.row (by decide) e
  · exact h.tb.ne hp.H.blk (by decide) e
theorem OX.n2 (h : OX w t s a S b room M D τ Hs fr) : ¬ two S b s := by
  obtain ⟨_, _, _, _, hp⟩ := h.pa
  rintro (e | e)
  · exact h.sb.ne h.at_.row (by decide) e
  · exact h.sb.ne hp.H.blk (by decide) e
theorem OX.nSb (h : OX w t s a S b room M D τ Hs fr) : S ≠ b := by
  obtain ⟨_, _, _, _, hp⟩ := h.pa
  exact h.at_.row.ne hp.H.blk (by decide)
theorem OX.nab (h : OX w t s a S b room M D τ Hs fr) : a ≠ b := by
  obtain ⟨_, _, _, _, hp⟩ := h.pa
  exact h.at_.tab.ne hp.H.blk (by decide)
theorem AT.other {w w' : World} {a S b : Nat} {last : Int} {τ : List Slot} {Hs : List (List Int)} {fr : Nat} (h : AT w a S last τ) (hp : PA w b Hs fr) (o : Only (· = b) w w') : AT w' a S last τ := by
  obtain ⟨_, _, _, _, hp⟩ := hp
  exact ⟨h.tab.only o (h.tab.ne hp.H.blk (by decide)), h.row.only o (h.row.ne hp.H.blk (by decide)), fun x hx c y e => (h.one x hx c y e).only o ((h.one x hx c y e).ne hp.H.blk (by decide)), h.pos, h.few⟩
theorem OX.only (h : OX w t s a S b room M D τ Hs fr) {P : Nat → Prop} (o : Only P w w') (hs : ∀ k, k < w.heap.size → ¬ P k) : OX w' t s a S b room M D τ Hs fr :=
  ⟨h.tb.only o (hs _ h.tb.lt), h.sb.only o (hs _ h.sb.lt), h.at_.only o hs, h.pa.only o (hs _ h.pa.lt), h.iv, h.rm, h.len, h.r2⟩
theorem OX.below (h : OX w t s a S b room M D τ Hs fr) (o : Below w.heap.size w w') : OX w' t s a S b room M D τ Hs fr := h.only (P := fun _ => False) (Only.of_below o) fun _ _ k => k
theorem OX.c0 (h : OX w t s a S b room M D τ Hs fr) : w.cell? ⟨t, 0, none⟩ = some (.pointer (some ⟨s, 0, none⟩)) := h.tb.cell 0 _ rfl
theorem OX.s0 (h : OX w t s a S b room M D τ Hs fr) : w.cell? ⟨s, 0, none⟩ = some (.pointer (some ⟨a, 0, none⟩)) := h.sb.cell 0 _ rfl
theorem OX.s1 (h : OX w t s a S b room M D τ Hs fr) : w.cell? ⟨s, 1, none⟩ = some (.pointer (some ⟨b, 0, none⟩)) := h.sb.cell 1 _ rfl
theorem OX.room_ (h : OX w t s a S b room M D τ Hs fr) : D.length ≤ room := by have := h.rm; omega
theorem OX.lt (h : OX w t s a S b room M D τ Hs fr) : S < w.heap.size ∧ b < w.heap.size := ⟨h.at_.row.lt, h.pa.lt⟩
theorem OX.gens (h : OX w t s a S b room M D τ Hs fr) (hM : M < 65535) : ∀ x ∈ τ, x.1 < 65535 := fun x hx => by have := (h.iv.gen x hx).2; omega
/-- Where there is room, there is a free slot, of which the arena takes the first. -/
theorem OX.slot (h : OX w t s a S b room M D τ Hs fr) (hM : M < 65535) (hf : D.length < room) : 0 < freeT 65535 τ ∧ ∃ k g, τ[k]? = some (g, none) ∧ 0 ≤ g ∧ g < 65535 ∧ ∀ s ∈ τ.take k, isFree 65535 s = false := by
  have h1 := free_len 65535 τ (h.gens hM)
  have h2 := h.iv.cnt
  have h3 := h.len
  have h4 : 0 < freeT 65535 τ := by omega
  refine ⟨h4, ?_⟩
  obtain ⟨k, ⟨g, o⟩, hk, hfr, hno⟩ := first_free 65535 τ h4
  unfold isFree at hfr
  rw [Bool.and_eq_true] at hfr
  obtain rfl : o = none := by
    cases o with
    | none => rfl
    | some p => exact absurd hfr.1 (by simp)
  exact ⟨k, g, hk, (h.iv.gen _ (List.mem_of_getElem? hk)).1, of_decide_eq_true hfr.2, hno⟩
theorem OT.below (h : OT w t s a S b room M D) (o : Below w.heap.size w w') : OT w' t s a S b room M D := by
  obtain ⟨τ, Hs, fr, h⟩ := h
  exact ⟨τ, Hs, fr, h.below o⟩
theorem OT.lt (h : OT w t s a S b room M D) : S < w.heap.size ∧ b < w.heap.size := by
  obtain ⟨τ, Hs, fr, h⟩ := h
  exact h.lt
theorem OT.room_ (h : OT w t s a S b room M D) : D.length ≤ room ∧ room ≤ 1024 := by
  obtain ⟨τ, Hs, fr, h⟩ := h
  exact ⟨h.room_, h.r2⟩
theorem OT.who (h : OT w t s a S b room M D) : ∀ x ∈ D, 0 ≤ x.w ∧ x.w < 16 := by
  obtain ⟨τ, Hs, fr, h⟩ := h
  exact h.iv.who
theorem OT.only (h : OT w t s a S b room M D) {P : Nat → Prop} (o : Only P w w') (hs : ∀ k, k < w.heap.size → ¬ P k) : OT w' t s a S b room M D := by
  obtain ⟨τ, Hs, fr, h⟩ := h
  exact ⟨τ, Hs, fr, h.only o hs⟩
theorem OT.mono (h : OT w t s a S b room M D) {M' : Nat} (hM : M ≤ M') : OT w t s a S b room M' D := by
  obtain ⟨τ, Hs, fr, h⟩ := h
  exact ⟨τ, Hs, fr, h.tb, h.sb, h.at_, h.pa, h.iv.mono hM, h.rm, h.len, h.r2⟩
end

/-- A table that is there, or one that nobody made. -/
theorem c_onob {w : World} {t s a S b room M : Nat} {D : List OF} (H : OT w t s a S b room M D) :
    Calls Try.prog 36 #[.pointer (some ⟨t, 0, none⟩)] w fun e w' => e = .returned (.bool false) ∧ w = w' := by
  obtain ⟨_, _, _, H⟩ := H
  have c0 := H.c0
  clear H
  go_enter Try.func36, Try.ntmps36
  go_wp2
  go_ret
  exact ⟨rfl, rfl⟩
set_option maxHeartbeats 400000 in
theorem c_olook {w : World} {t s a S b room M : Nat} {D : List OF} (H : OT w t s a S b room M D) (who : Int) :
    Calls Try.prog 25 #[.pointer (some ⟨t, 0, none⟩), .int .i64 who] w fun e w' => e = .returned (.int .i64 (olkE who)) ∧ w = w' := by
  have CN := Lib.hid (c_onob H)
  clear H
  by_cases h0 : who < 0
  · have HE := Lib.hid (show olkE who = 8 by unfold olkE oRng; rw [decide_eq_true h0]; rfl)
    go_enter Try.func25, Try.ntmps25
    go_wp2_with (go_at_call 36; refine Calls.mono CN.out ?_; rintro e w' ⟨rfl, rfl⟩)
    go_ret
    exact ⟨ret_int HE.out.symm, rfl⟩
  · by_cases h1 : 16 ≤ who
    · have HE := Lib.hid (show olkE who = 8 by unfold olkE oRng; rw [decide_eq_true h1, Bool.or_true]; rfl)
      go_enter Try.func25, Try.ntmps25
      go_wp2_with (go_at_call 36; refine Calls.mono CN.out ?_; rintro e w' ⟨rfl, rfl⟩)
      go_ret
      exact ⟨ret_int HE.out.symm, rfl⟩
    · have HE := Lib.hid (show olkE who = 0 by unfold olkE oRng; rw [decide_eq_false h0, decide_eq_false h1]; rfl)
      go_enter Try.func25, Try.ntmps25
      go_wp2_with (go_at_call 36; refine Calls.mono CN.out ?_; rintro e w' ⟨rfl, rfl⟩)
      go_ret
      exact ⟨ret_int HE.out.symm, rfl⟩
set_option maxHeartbeats 400000 in
theorem c_olen {w : World} {t s a S b room M : Nat} {D : List OF} (H : OT w t s a S b room M D) :
    Calls Try.prog 22 #[.pointer (some ⟨t, 0, none⟩)] w fun e w' => e = .returned (.int .i64 (D.length : Nat)) ∧ Below w.heap.size w w' := by
  have CN := Lib.hid (c_onob H)
  obtain ⟨τ, Hs, fr, H⟩ := H
  have CL := a_len H.at_
  rw [H.iv.cnt] at CL
  have CL := Lib.hid CL
  have c0 := H.c0
  have s0 := H.s0
  clear H
  go_enter Try.func22, Try.ntmps22
  go_wp2_with (first | (go_at_call 36; refine Calls.mono CN.out ?_; rintro e w' ⟨rfl, rfl⟩) | (go_at_call 37; refine Calls.mono CL.out ?_; rintro e w2 ⟨rfl, hb2⟩))
  go_ret
  exact ⟨rfl, hb2⟩
set_option maxHeartbeats 400000 in
theorem c_ofree {w : World} {t s a S b room M : Nat} {D : List OF} (H : OT w t s a S b room M D) (fr : Nat) (hfr : fr + D.length = room) :
    Calls Try.prog 23 #[.pointer (some ⟨t, 0, none⟩)] w fun e w' => e = .returned (.int .i64 (fr : Nat)) ∧ w = w' := by
  have CN := Lib.hid (c_onob H)
  obtain ⟨τ, Hs, fr', H⟩ := H
  obtain rfl : fr' = fr := by have := H.rm; omega
  have CL := Lib.hid (c_free H.pa)
  have c0 := H.c0
  have s1 := H.s1
  clear H
  go_enter Try.func23, Try.ntmps23
  go_wp2_with (first | (go_at_call 36; refine Calls.mono CN.out ?_; rintro e w' ⟨rfl, rfl⟩) | (go_at_call 38; refine Calls.mono CL.out ?_; rintro e w2 ⟨rfl, rfl⟩))
  go_ret
  exact ⟨rfl, rfl⟩
set_option maxHeartbeats 400000 in
theorem c_oworn {w : World} {t s a S b room M : Nat} {D : List OF} {τ : List Slot} {Hs : List (List Int)} {fr : Nat} (H : OX w t s a S b room M D τ Hs fr) (hM : M < 65535) (hf : D.length < room) :
    Calls Try.prog 32 #[.pointer (some ⟨s, 0, none⟩)] w fun e w' => e = .returned (.bool false) ∧ Below w.heap.size w w' := by
  have CF := a_freeN H.at_
  have hp := (H.slot hM hf).1
  have hz : (((freeT 65535 τ : Nat) : Int) == 0) = false := beq_eq_false_iff_ne.2 (by omega)
  generalize freeT 65535 τ = n at CF hz hp
  have CF := Lib.hid CF
  have s0 := H.s0
  clear H hp
  go_enter Try.func32, Try.ntmps32
  go_wp2_with (go_at_call 47; refine Calls.mono CF.out ?_; rintro e w2 ⟨rfl, hb2⟩)
  go_ret
  exact ⟨ret_bool (by first | rfl | assumption), hb2⟩

/-- Another list of offers; slots and pool alone have turned. -/
def OPost (w : World) (t s a S b room M : Nat) (D : List OF) (w' : World) : Prop := OT w' t s a S b room M D ∧ Only (two S b) w w'
set_option maxRecDepth 100000 in
set_option maxHeartbeats 1000000 in
theorem c_oput {w : World} {t s a S b room M : Nat} {D : List OF} {τ : List Slot} {Hs : List (List Int)} {fr : Nat} (H : OX w t s a S b room M D τ Hs fr) (hM : M < 65535) (hf : D.length < room) (p : Nat) (hp : p < 16) (x : OF) (hx : x.w = p) :
    Calls Try.prog 34 #[.pointer (some ⟨s, 0, none⟩), .agg #[.int .i64 x.w, .int .i64 x.g.k, .int .i64 x.g.o, .int .i64 x.g.v, .int .i64 x.g.r, .int .i64 x.g.n]] w fun e w' => e = .returned (.int .i64 0) ∧ OPost w t s a S b room (M + 1) (D ++ [x]) w' := by
  obtain ⟨_, k, g, hk, hg0, hg1, hno⟩ := H.slot hM hf
  obtain ⟨l, hl, _⟩ := H.iv.line hp
  have up1 := up_alloc w (.cells #[.int .i64 x.w, .int .i64 x.g.k, .int .i64 x.g.o, .int .i64 x.g.v, .int .i64 x.g.r, .int .i64 x.g.n] 65)
  have hBx : Blk (w.alloc (.cells #[.int .i64 x.w, .int .i64 x.g.k, .int .i64 x.g.o, .int .i64 x.g.v, .int .i64 x.g.r, .int .i64 x.g.n] 65)) w.heap.size (ofC x) 65 := Blk.new w (ofC x) _
  generalize hw1 : w.alloc (.cells #[.int .i64 x.w, .int .i64 x.g.k, .int .i64 x.g.o, .int .i64 x.g.v, .int .i64 x.g.r, .int .i64 x.g.n] 65) = w1 at up1 hBx
  have HW1 := Lib.hid hw1
  have H1 := H.below up1
  have CA := Lib.hid (fun q => a_add (H1.at_.below (up_drewN w1 q)) x k g hk hg1 hg0 (by omega) hno)
  have s0 := H1.s0
  have s1 := H1.s1
  have i0 := hBx.cell 0 _ rfl
  have i1 := hBx.cell 1 _ rfl
  have i2 := hBx.cell 2 _ rfl
  have i3 := hBx.cell 3 _ rfl
  have i4 := hBx.cell 4 _ rfl
  have i5 := hBx.cell 5 _ rfl
  obtain ⟨f, rfl⟩ : ∃ f, fr = f + 1 := ⟨fr - 1, by have := H.rm; omega⟩
  have HX := Lib.hid H1
  have HK := Lib.hid hk
  have HL := Lib.hid hl
  have HxW := Lib.hid hx
  have HB := Lib.hid hBx
  have HU := Lib.hid up1
  have hz1 : w.heap.size < w1.heap.size := hBx.lt
  have KS : Hid (∀ W, Only (two S b) w1 W → Only (two S b) w1 W ∧ W.cell? ⟨s, 0, none⟩ = some (.pointer (some ⟨a, 0, none⟩)) ∧ W.cell? ⟨w.heap.size, 0, none⟩ = some (.int .i64 x.w) ∧ W.cell? ⟨w.heap.size, 1, none⟩ = some (.int .i64 x.g.k) ∧ W.cell? ⟨w.heap.size, 2, none⟩ = some (.int .i64 x.g.o) ∧ W.cell? ⟨w.heap.size, 3, none⟩ = some (.int .i64 x.g.v) ∧ W.cell? ⟨w.heap.size, 4, none⟩ = some (.int .i64 x.g.r) ∧ W.cell? ⟨w.heap.size, 5, none⟩ = some (.int .i64 x.g.n)) := Lib.hid fun W o => by
    have h1 := H1.sb.only o H1.n2
    have h2 := hBx.only o (fun e => by
      rcases e with e | e
      · exact hBx.ne H1.at_.row (by decide) e
      · obtain ⟨_, _, _, _, hp⟩ := H1.pa
        exact hBx.ne hp.H.blk (by decide) e)
    exact ⟨o, h1.cell 0 _ rfl, h2.cell 0 _ rfl, h2.cell 1 _ rfl, h2.cell 2 _ rfl, h2.cell 3 _ rfl, h2.cell 4 _ rfl, h2.cell 5 _ rfl⟩
  clear hw1 H H1 hk hno hl hx up1 hBx
  go_enter Try.func34, Try.ntmps34
  go_wp2_with fail
  rw [HW1.out]
  refine wp_region_held_drew (S := fun W => Only (two S b) w1 W ∧ W.cell? ⟨s, 0, none⟩ = some (.pointer (some ⟨a, 0, none⟩)) ∧ W.cell? ⟨w.heap.size, 0, none⟩ = some (.int .i64 x.w) ∧ W.cell? ⟨w.heap.size, 1, none⟩ = some (.int .i64 x.g.k) ∧ W.cell? ⟨w.heap.size, 2, none⟩ = some (.int .i64 x.g.o) ∧ W.cell? ⟨w.heap.size, 3, none⟩ = some (.int .i64 x.g.v) ∧ W.cell? ⟨w.heap.size, 4, none⟩ = some (.int .i64 x.g.r) ∧ W.cell? ⟨w.heap.size, 5, none⟩ = some (.int .i64 x.g.n)) (by kernel_rfl) (KS.out _ ((Only.refl _ w1).drewN 1)) (fun hHeld => ?_)
  refine wpAnyH_take (i := 0) (oi := ?_) (v := ?_) ?_ (by kernel_rfl) (by kernel_rfl) (by kernel_rfl) ?_ (Or.inl ⟨?_, ?_⟩) hHeld ?_
  rotate_left 2
  · conv => lhs; simp only [List.getElem?_toArray, List.getElem?_cons_succ, List.getElem?_cons_zero]
  · exact fun _ _ _ h => h
  · rfl
  · intro W hSw
    go_simp
    try with_reducible rfl
  try simp only [Act.put, List.setIfInBounds_toArray, List.set_cons_zero, List.set_cons_succ]
  refine wpAnyH_take (i := 1) (oi := ?_) (v := ?_) ?_ (by kernel_rfl) (by kernel_rfl) (by kernel_rfl) ?_ (Or.inl ⟨?_, ?_⟩) hHeld ?_
  rotate_left 2
  · conv => lhs; simp only [List.getElem?_toArray, List.getElem?_cons_succ, List.getElem?_cons_zero]
  · exact fun _ _ _ h => h
  · rfl
  · intro W hSw
    go_simp
    try with_reducible rfl
  try simp only [Act.put, List.setIfInBounds_toArray, List.set_cons_zero, List.set_cons_succ]
  refine wpAnyH_take (i := 2) (oi := ?_) (v := ?_) ?_ (by kernel_rfl) (by kernel_rfl) (by kernel_rfl) ?_ (Or.inl ⟨?_, ?_⟩) hHeld ?_
  rotate_left 2
  · conv => lhs; simp only [List.getElem?_toArray, List.getElem?_cons_succ, List.getElem?_cons_zero]
  · exact fun _ _ _ h => h
  · rfl
  · intro W hSw
    go_simp
    try with_reducible rfl
  try simp only [Act.put, List.setIfInBounds_toArray, List.set_cons_zero, List.set_cons_succ]
  refine wpAnyH_take (i := 3) (oi := ?_) (v := ?_) ?_ (by kernel_rfl) (by kernel_rfl) (by kernel_rfl) ?_ (Or.inl ⟨?_, ?_⟩) hHeld ?_
  rotate_left 2
  · conv => lhs; simp only [List.getElem?_toArray, List.getElem?_cons_succ, List.getElem?_cons_zero]
  · exact fun _ _ _ h => h
  · rfl
  · intro W hSw
    go_simp
    try with_reducible rfl
  try simp only [Act.put, List.setIfInBounds_toArray, List.set_cons_zero, List.set_cons_succ]
  refine wpAnyH_take (i := 4) (oi := ?_) (v := ?_) ?_ (by kernel_rfl) (by kernel_rfl) (by kernel_rfl) ?_ (Or.inl ⟨?_, ?_⟩) hHeld ?_
  rotate_left 2
  · conv => lhs; simp only [List.getElem?_toArray, List.getElem?_cons_succ, List.getElem?_cons_zero]
  · exact fun _ _ _ h => h
  · rfl
  · intro W hSw
    go_simp
    try with_reducible rfl
  try simp only [Act.put, List.setIfInBounds_toArray, List.set_cons_zero, List.set_cons_succ]
  refine wpAnyH_ready (rs := [5]) (by kernel_rfl) (by simp) ?_
  refine AllReadyH.cons (o := ?_) ?_ (fun K hK => ?_) AllReadyH.nil
  rotate_left 1
  · conv => lhs; simp only [List.getElem?_toArray, List.getElem?_cons_succ, List.getElem?_cons_zero]
  go_simp
  refine Calls.mono (CA.out 1) ?_
  rintro e w2 ⟨rfl, hA2, ho2⟩
  have ho2 : Only (· = S) w1 w2 := (Only.of_below (up_drewN w1 1)).trans ho2
  go_wp2_with fail
  refine hK.out _ _ (KS.out _ (ho2.mono fun _ _ e => .inl e)) (fun hHeld => ?_)
  clear hK K
  try simp only [Act.put, List.setIfInBounds_toArray, List.set_cons_zero, List.set_cons_succ]
  refine wpAnyH_take (i := 6) (oi := ?_) (v := ?_) ?_ (by kernel_rfl) (by kernel_rfl) (by kernel_rfl) ?_ (Or.inl ⟨?_, ?_⟩) hHeld ?_
  rotate_left 2
  · conv => lhs; simp only [List.getElem?_toArray, List.getElem?_cons_succ, List.getElem?_cons_zero]
  · exact fun _ _ _ h => h
  · rfl
  · intro W hSw
    go_simp
    try with_reducible rfl
  try simp only [Act.put, List.setIfInBounds_toArray, List.set_cons_zero, List.set_cons_succ]
  refine wpAnyH_take (i := 7) (oi := ?_) (v := ?_) ?_ (by kernel_rfl) (by kernel_rfl) (by kernel_rfl) ?_ (Or.inl ⟨?_, ?_⟩) hHeld ?_
  rotate_left 2
  · conv => lhs; simp only [List.getElem?_toArray, List.getElem?_cons_succ, List.getElem?_cons_zero]
  · exact fun _ _ _ h => h
  · rfl
  · intro W hSw
    go_simp
    try with_reducible rfl
  try simp only [Act.put, List.setIfInBounds_toArray, List.set_cons_zero, List.set_cons_succ]
  refine wpAnyH_take (i := 8) (oi := ?_) (v := ?_) ?_ (by kernel_rfl) (by kernel_rfl) (by kernel_rfl) ?_ (Or.inl ⟨?_, ?_⟩) hHeld ?_
  rotate_left 2
  · conv => lhs; simp only [List.getElem?_toArray, List.getElem?_cons_succ, List.getElem?_cons_zero]
  · exact fun _ _ _ h => h
  · rfl
  · intro W hSw
    go_simp
    try with_reducible rfl
  try simp only [Act.put, List.setIfInBounds_toArray, List.set_cons_zero, List.set_cons_succ]
  refine wpAnyH_take (i := 9) (oi := ?_) (v := ?_) ?_ (by kernel_rfl) (by kernel_rfl) (by kernel_rfl) ?_ (Or.inl ⟨?_, ?_⟩) hHeld ?_
  rotate_left 2
  · conv => lhs; simp only [List.getElem?_toArray, List.getElem?_cons_succ, List.getElem?_cons_zero]
  · exact fun _ _ _ h => h
  · rfl
  · intro W hSw
    go_simp
    try with_reducible rfl
  try simp only [Act.put, List.setIfInBounds_toArray, List.set_cons_zero, List.set_cons_succ]
  refine wpAnyH_take (i := 10) (oi := ?_) (v := ?_) ?_ (by kernel_rfl) (by kernel_rfl) (by kernel_rfl) ?_ (Or.inl ⟨?_, ?_⟩) hHeld ?_
  rotate_left 2
  · conv => lhs; simp only [List.getElem?_toArray, List.getElem?_cons_succ, List.getElem?_cons_zero]
  · exact fun _ _ _ h => h
  · rfl
  · intro W hSw
    go_simp
    try with_reducible rfl
  try simp only [Act.put, List.setIfInBounds_toArray, List.set_cons_zero, List.set_cons_succ]
  refine wpAnyH_done (by kernel_rfl) ?_ _
  clear hHeld
  have hX := HX.out
  have hp2 := hX.pa.only ho2 (Ne.symm hX.nSb)
  have ht2 := hX.tb.only ho2 (fun e => hX.n1 (.inl e))
  have hs2 := hX.sb.only ho2 (fun e => hX.n2 (.inl e))
  have s0 := hs2.cell 0 _ rfl
  have s1 := hs2.cell 1 _ rfl
  have hB2 := HB.out.only ho2 (HB.out.ne hX.at_.row (by decide))
  have i0 := hB2.cell 0 _ rfl
  rw [show x.w = (p : Int) from HxW.out] at i0
  have CP := Lib.hid (fun q => c_push_ok (hp2.below (up_drewN w2 q)) p (4096 * (g + 1) + k) l HL.out)
  have HA2 := Lib.hid hA2
  have HO2 := Lib.hid ho2
  have HP2 := Lib.hid hp2
  have HT2 := Lib.hid ht2
  have HS2 := Lib.hid hs2
  clear hA2 ho2 hX hp2 ht2 hs2 hB2 i1 i2 i3 i4 i5
  go_wp2_with fail
  go_still_tail 7, (by kernel_rfl)
  go_wp2_with fail
  refine Calls.mono (CP.out 1) ?_
  rintro e w3 ⟨rfl, hp3, ho3⟩
  go_wp2_with fail
  go_ret
  have ho3 : Only (· = b) w2 w3 := (Only.of_below (up_drewN w2 1)).trans ho3
  have hX := HX.out
  refine ⟨rfl, ⟨_, _, f, HT2.out.only ho3 (fun e => hX.n1 (.inr e)), HS2.out.only ho3 (fun e => hX.n2 (.inr e)), HA2.out.other HP2.out ho3, hp3, hX.iv.put HK.out hM (by have := hX.len; have := hX.r2; omega) HL.out x HxW.out, by have := hX.rm; rw [List.length_append, List.length_singleton]; omega, by rw [List.length_set]; exact hX.len, hX.r2⟩, ?_⟩
  exact ((Only.of_below HU.out).trans (HO2.out.mono fun _ _ e => .inl e)).trans (ho3.mono fun _ _ e => .inr e)
end Go.Proofs.Ytgigcjhggpknnaa

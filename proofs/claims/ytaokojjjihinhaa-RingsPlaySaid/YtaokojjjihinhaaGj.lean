/- The document's New, Push, Pop and At. -/
import Derived.Test.YtaokojjjihinhaaGb
namespace Go.Proofs.Ytaokojjjihinhaa
open Go.RowKit

/-- The document's list of things: what reads so, in blocks of pl. -/
def DI (w : World) (pl : Nat → Prop) (u : Value) (L : List Int) : Prop := ∃ A c, u = .slice A L.length c ∧ L.length ≤ c ∧ c ≤ maxLen ∧ RD w pl 1 A L.length (L.map (Value.int .i64))
theorem DI.below {w w' : World} {pl : Nat → Prop} {u : Value} {L : List Int} (h : DI w pl u L) (hb : Below w.heap.size w w') : DI w' pl u L := by
  obtain ⟨A, c, rfl, h1, h2, h3⟩ := h
  exact ⟨A, c, rfl, h1, h2, h3.below hb⟩
theorem DI.nil (w : World) (pl : Nat → Prop) : DI w pl (.slice none 0 0) [] := ⟨none, 0, rfl, Nat.le_refl _, by unfold maxLen; omega, RD.nil _ _ _ _⟩

theorem c_dnew_bad (r : Int) (w : World) (hr : r < 0 ∨ 1024 < r) : Calls Try.prog 8 #[.int .i64 r] w fun e w' => e = .returned (.tuple #[.agg #[.int .i64 0, .slice none 0 0], .int .i64 1]) ∧ Below w.heap.size w w' := by
  have up : Below w.heap.size w (w.alloc (.cells #[.int .i64 0, .slice none 0 0] 30)) := up_alloc w _
  rcases hr with hr | hr
  · go_enter Try.func8, Try.ntmps8
    go_wp2
    exact bodyPost_ret (v := .tuple #[.agg #[.int .i64 0, .slice none 0 0], .int .i64 1]) (by simp [results, Try.results8, go_sem]) rfl ⟨rfl, up⟩
  · have h0 : ¬ r < 0 := by omega
    go_enter Try.func8, Try.ntmps8
    go_wp2
    exact bodyPost_ret (v := .tuple #[.agg #[.int .i64 0, .slice none 0 0], .int .i64 1]) (by simp [results, Try.results8, go_sem]) rfl ⟨rfl, up⟩
theorem c_dnew (r : Nat) (w : World) (h1 : r ≤ 1024) : Calls Try.prog 8 #[.int .i64 r] w fun e w' => e = .returned (.tuple #[.agg #[.int .i64 r, .slice none 0 0], .int .i64 0]) ∧ Below w.heap.size w w' := by
  have up : Below w.heap.size w (w.alloc (.cells #[.int .i64 r, .slice none 0 0] 30)) := up_alloc w _
  go_enter Try.func8, Try.ntmps8
  go_wp2
  exact bodyPost_ret (v := .tuple #[.agg #[.int .i64 r, .slice none 0 0], .int .i64 0]) (by simp [results, Try.results8, go_sem]) rfl ⟨rfl, up⟩

/-- The world of a function that boxes its ring, and has a cell for the ring that it gives. -/
structure LBox (w w2 : World) (room : Int) (u : Value) : Prop where
  up : Below w.heap.size w w2
  box : Blk w2 w.heap.size [.int .i64 room, u] 30
  res : Blk w2 (w.heap.size + 1) [.int .i64 0, .slice none 0 0] 30
theorem lbox (w : World) (room : Int) (u : Value) :
    LBox w ((w.alloc (.cells #[.int .i64 room, u] 30)).alloc (.cells #[.int .i64 0, .slice none 0 0] 30)) room u := by
  refine ⟨up_trans (up_alloc _ _) (up_alloc _ _), (Blk.new w [.int .i64 room, u] _).alloc _, ?_⟩
  have := Blk.new (w.alloc (.cells #[.int .i64 room, u] 30)) [.int .i64 0, .slice none 0 0] 30
  simpa using this

theorem two_up (w : World) (o o' : Obj) : Below w.heap.size w ((w.alloc o).alloc o') := up_trans (up_alloc _ _) (up_alloc _ _)
set_option maxHeartbeats 1000000 in
theorem c_dpush_full (w : World) (A : Option Addr) (n c : Nat) (x : Int) :
    Calls Try.prog 13 #[.agg #[.int .i64 (n : Int), .slice A n c], .int .i64 x] w fun e w' => e = .returned (.tuple #[.agg #[.int .i64 (n : Int), .slice A n c], .int .i64 10]) ∧ Below w.heap.size w w' := by
  have hnn : ((n : Int) == (n : Int)) = true := by simp
  go_enter Try.func13, Try.ntmps13
  go_wp2_with fail
  refine bodyPost_ret (v := .tuple #[.agg #[.int .i64 (n : Int), .slice A n c], .int .i64 10]) (by simp [results, Try.results13, go_sem]) rfl ?_
  exact ⟨rfl, two_up _ _ _⟩
/-- What the document's Push gives: a ring, in new memory. -/
def DPost (w : World) (room : Int) (L : List Int) (n : Nat) (mk : Value → Value) (e : Ending) (w' : World) : Prop :=
  ∃ A c, e = .returned (mk (.agg #[.int .i64 room, .slice A n c])) ∧ n = L.length ∧ DI w' (w.heap.size ≤ ·) (.slice A n c) L ∧ Below w.heap.size w w'
theorem dpush_post {w w2 w4 w5 W : World} {room : Int} {L : List Int} {m n c : Nat} {A : Option Addr} {x : Int} (mk : Value → Value) (hU : Below w.heap.size w w2) (h2 : w2.heap.size = w.heap.size + 2) (h4 : Below (w.heap.size + 2) w2 w4) {ob : Obj} (h5 : Below (w.heap.size + 2) (w4.alloc ob) w5) (hn : n = L.length)
    (hown : w5.ownsRow (w.heap.size + 2) 3 1 (.slice A m c) m (([] ++ L.map (Value.int .i64)) ++ [.int .i64 x])) (hm : m = n + 1) (ho : Only (fun k => k = w.heap.size ∨ k = w.heap.size + 1) w5 W) : DPost w room (L ++ [x]) (n + 1) mk (.returned (mk (.agg #[.int .i64 room, .slice A (n + 1) c]))) W := by
  subst hm
  obtain ⟨A', c', e, hnc, hcm, hrd⟩ := own_slice hown
  cases e
  have hn : n + 1 = (L ++ [x]).length := by simp; exact hn
  refine ⟨A, c, rfl, hn, ⟨A, c, by rw [← hn], by omega, hcm, ?_⟩, ?_⟩
  · rw [← hn]
    have h6 : RD w5 (w.heap.size + 2 ≤ ·) 1 A (n + 1) ((L ++ [x]).map (Value.int .i64)) := by simpa using hrd
    exact (h6.only ho (fun k hk hl => by have : w.heap.size + 2 ≤ k := hl; omega)).lo (fun b hb => by have : w.heap.size + 2 ≤ b := hb; omega)
  · have h7 : Below (w.heap.size + 2) w2 w5 := (h4.trans ((up_alloc w4 ob).mono (by have := h4.size; omega))).trans h5
    have h8 : Below w.heap.size w w5 := hU.trans (h7.mono (by omega))
    exact h8.trans (ho.toBelow (by have := h8.size; omega) (fun k hk => by omega))
set_option maxHeartbeats 2000000 in
theorem c_dpush {w : World} {pl : Nat → Prop} {A : Option Addr} {c rm : Nat} {L : List Int} (h : RD w pl 1 A L.length (L.map (Value.int .i64))) (hl : L.length < rm) (hrm : rm ≤ 1024) (x : Int) :
    Calls Try.prog 13 #[.agg #[.int .i64 (rm : Int), .slice A L.length c], .int .i64 x] w (DPost w rm (L ++ [x]) (L.length + 1) (fun v => .tuple #[v, .int .i64 0])) := by
  have HX := Lib.hid (lbox w rm (.slice A L.length c))
  have HR := Lib.hid (h.below HX.out.up)
  obtain ⟨n, hn⟩ : ∃ n, n = L.length := ⟨_, rfl⟩
  rw [← hn] at HX HR hl ⊢
  have hs : ((w.alloc (.cells #[.int .i64 (rm : Int), .slice A n c] 30)).alloc (.cells #[.int .i64 0, .slice none 0 0] 30)).heap.size = w.heap.size + 2 := by simp
  have hne : ((n : Int) == (rm : Int)) = false := beq_eq_false_iff_ne.2 (by omega)
  have HN := Lib.hid hn
  clear h hn
  go_enter Try.func13, Try.ntmps13
  go_wp2_with (first
    | (at_builtin; refine wpList_app ei_int rfl (.const (.slice none 0 0)) (.tmp 14) rfl (.slice none 0 0) [] rfl (World.ownsRow_nil _ (w.heap.size + 2) _ _) rfl HR.out (by simp [Value.oneCell']) (by omega) (by simp) ?_; intro v4 w4 hown4 hb4; have HO4 := Lib.hid hown4; have HB4 := Lib.hid hb4; clear hown4 hb4)
    | (at_builtin; refine wpList_app ei_int rfl (.tmp 15) (.tmp 17) rfl v4 _ rfl (HO4.out.alloc _) rfl (RD.one rfl) (by simp [Value.oneCell']) (by omega) (by have := HB4.out.size; simp at this; simp; omega) ?_; intro v5 w5 hown5 hb5; have HO5 := Lib.hid hown5; have HB5 := Lib.hid hb5; have hU := HB4.out.trans (((up_alloc w4 _).mono (by have := HB4.out.size; simp at this; omega)).trans hb5); have b0 := (HX.out.box.up hU (by omega)).cell 0 _ rfl; have b1 := (HX.out.box.up hU (by omega)).cell 1 _ rfl; have b2 := (HX.out.box.up hU (by omega)).free 1; have k0 := (HX.out.res.up hU (by omega)).cell 0 _ rfl; have k1 := (HX.out.res.up hU (by omega)).cell 1 _ rfl; have k2 := (HX.out.res.up hU (by omega)).free 0; have k3 := (HX.out.res.up hU (by omega)).free 1; obtain ⟨A5, c5, rfl, _, _, _⟩ := own_slice hown5; clear hown5 hb5))
  refine bodyPost_ret (v := .tuple #[.agg #[.int .i64 (rm : Int), .slice A5 (n + 1) c5], .int .i64 0]) (by simp [results, Try.results13, go_sem, k0, k1]) rfl ?_
  exact dpush_post (fun v => .tuple #[v, .int .i64 0]) HX.out.up hs HB4.out HB5.out HN.out HO5.out (by omega) (((((Only.refl _ _).setCell (.inl (.inl rfl)) _).setCell (.inl (.inr rfl)) _).setCell (.inl (.inr rfl)) _))

/-- What the document's Pop gives of a list that holds something. -/
def DPop (w : World) (pl : Nat → Prop) (room : Int) (L : List Int) (n : Nat) (mk : Value → Value) (e : Ending) (w' : World) : Prop :=
  ∃ A c, e = .returned (mk (.agg #[.int .i64 room, .slice A n c])) ∧ n = L.length ∧ DI w' pl (.slice A n c) L ∧ Below w.heap.size w w'
theorem c_dpop_none (w : World) (room : Int) (A : Option Addr) (c : Nat) :
    Calls Try.prog 11 #[.agg #[.int .i64 room, .slice A 0 c]] w fun e w' => e = .returned (.tuple #[.agg #[.int .i64 room, .slice A 0 c], .int .i64 0, .int .i64 11]) ∧ Below w.heap.size w w' := by
  go_enter Try.func11, Try.ntmps11
  go_wp2_with fail
  refine bodyPost_ret (v := .tuple #[.agg #[.int .i64 room, .slice A 0 c], .int .i64 0, .int .i64 11]) (by simp [results, Try.results11, go_sem]) rfl ?_
  exact ⟨rfl, two_up _ _ _⟩
set_option maxHeartbeats 1000000 in
theorem c_dpop {w : World} {pl : Nat → Prop} {A : Option Addr} {c : Nat} {room x : Int} {L : List Int} (h : RD w pl 1 A (L.length + 1) ((x :: L).map (Value.int .i64))) (hlc : L.length + 1 ≤ c) (hcm : c ≤ maxLen) (hl : L.length ≤ 1024) :
    Calls Try.prog 11 #[.agg #[.int .i64 room, .slice A (L.length + 1) c]] w (DPop w pl room L L.length (fun v => .tuple #[v, .int .i64 x, .int .i64 0])) := by
  obtain ⟨b, o, rfl, hb1, hb2, hcell⟩ := h.at_ (by omega)
  have hx := hcell 0 (.int .i64 x) rfl
  rw [Nat.add_zero] at hx
  have hd := h.drop 1 (by omega)
  obtain ⟨n, hn⟩ : ∃ n, n = L.length := ⟨_, rfl⟩
  rw [← hn] at hd hlc hl ⊢
  have hnz : ((n : Int) + 1 == 0) = false := beq_eq_false_iff_ne.2 (by omega)
  have HR : Hid (RD w pl 1 (some ⟨b, o + 1, none⟩) n (L.map (Value.int .i64))) := Lib.hid (by simpa using hd)
  have HN := Lib.hid hn
  have hc64 : c ≤ 9223372036854775807 := by unfold maxLen at hcm; omega
  have HC := Lib.hid hcm
  clear h hcell hd hn hcm
  by_cases hc1 : c = 1
  · subst hc1
    have hn0 : n = 0 := by omega
    have HN0 := Lib.hid hn0
    go_enter Try.func11, Try.ntmps11
    go_wp2_with fail
    refine bodyPost_ret (v := .tuple #[.agg #[.int .i64 room, .slice (some ⟨b, o, none⟩) 0 0], .int .i64 x, .int .i64 0]) (by simp [results, Try.results11, go_sem]) rfl ?_
    have hL : L = [] := List.eq_nil_of_length_eq_zero (by rw [← HN.out]; exact HN0.out)
    subst hL
    rw [HN0.out]
    exact ⟨_, _, rfl, rfl, ⟨_, _, rfl, by simp, by unfold maxLen; omega, RD.nil _ _ _ _⟩, two_up _ _ _⟩
  · have hc1' : ¬ (1 : Int) = c := by omega
    go_enter Try.func11, Try.ntmps11
    go_wp2_with fail
    refine bodyPost_ret (v := .tuple #[.agg #[.int .i64 room, .slice (some ⟨b, o + 1, none⟩) n (c - 1)], .int .i64 x, .int .i64 0]) (by simp [results, Try.results11, go_sem]) rfl ?_
    have h1 := HR.out.below (two_up w (.cells #[.int .i64 room, .slice (some ⟨b, o + 1, none⟩) n (c - 1)] 30) (.cells #[.int .i64 room, .slice (some ⟨b, o + 1, none⟩) n (c - 1)] 30))
    rw [HN.out] at h1 ⊢
    have hk := HC.out
    have hl2 := HN.out
    exact ⟨_, _, rfl, rfl, ⟨_, _, rfl, by omega, by omega, h1⟩, two_up _ _ _⟩

theorem c_dat_bad (w : World) (room i : Int) (A : Option Addr) (n c : Nat) (hi : i < 0 ∨ (n : Int) ≤ i) :
    Calls Try.prog 15 #[.agg #[.int .i64 room, .slice A n c], .int .i64 i] w fun e w' => e = .returned (.tuple #[.int .i64 0, .int .i64 8]) ∧ Below w.heap.size w w' := by
  by_cases h0 : i < 0
  · clear hi
    go_enter Try.func15, Try.ntmps15
    go_wp2_with fail
    go_ret2
    exact ⟨rfl, up_alloc _ _⟩
  · have h1 : (n : Int) ≤ i := by omega
    clear hi
    go_enter Try.func15, Try.ntmps15
    go_wp2_with fail
    go_ret2
    exact ⟨rfl, up_alloc _ _⟩
theorem c_dat {w : World} {pl : Nat → Prop} {A : Option Addr} {n c : Nat} {room x : Int} {L : List Int} (h : RD w pl 1 A n (L.map (Value.int .i64))) (hl : n ≤ 1024) (i : Nat) (hi : L[i]? = some x) :
    Calls Try.prog 15 #[.agg #[.int .i64 room, .slice A n c], .int .i64 i] w fun e w' => e = .returned (.tuple #[.int .i64 x, .int .i64 0]) ∧ Below w.heap.size w w' := by
  have hn : L.length = n := by have := h.1; simpa using this
  have hil : i < n := by rw [← hn]; exact (List.getElem?_eq_some_iff.1 hi).1
  obtain ⟨b, o, rfl, hb1, hb2, hcell⟩ := h.at_ (by omega)
  have hx := hcell i (.int .i64 x) (by rw [List.getElem?_map, hi]; rfl)
  clear h hcell hi hn
  go_enter Try.func15, Try.ntmps15
  go_wp2_with fail
  go_ret2
  exact ⟨rfl, up_alloc _ _⟩
end Go.Proofs.Ytaokojjjihinhaa

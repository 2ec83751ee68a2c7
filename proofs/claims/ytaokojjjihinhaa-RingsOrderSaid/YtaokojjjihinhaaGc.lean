/- New and Push. -/
import Derived.Test.YtaokojjjihinhaaGb
namespace Go.Proofs.Ytaokojjjihinhaa
open Go.RowKit

theorem c_new_bad (r : Int) (w : World) (hr : r < 0 ∨ 1024 < r) : Calls Try.prog 7 #[.int .i64 r] w fun e w' => e = .returned (.tuple #[.pointer none, .int .i64 1]) ∧ w = w' := by
  rcases hr with hr | hr
  · go_enter Try.func7, Try.ntmps7
    go_wp2
    go_ret2
    exact ⟨rfl, rfl⟩
  · have h0 : ¬ r < 0 := by omega
    go_enter Try.func7, Try.ntmps7
    go_wp2
    go_ret2
    exact ⟨rfl, rfl⟩
/-- What New gives: a ring that holds nothing, in two new blocks. -/
def NewPost (w : World) (r : Nat) (e : Ending) (w' : World) : Prop :=
  e = .returned (.tuple #[.pointer (some ⟨w.heap.size + 1, 0, none⟩), .int .i64 0]) ∧ RW w' (w.heap.size + 1) w.heap.size w.heap.size r 0 (.slice none 0 0) [] [] ∧ Below w.heap.size w w'
theorem c_new (r : Nat) (w : World) (h1 : r ≤ 1024) : Calls Try.prog 7 #[.int .i64 r] w (NewPost w r) := by
  have hB1 := Blk.new w [.int .i64 r, .int .i64 0, .int .i64 0, .slice none 0 0] 57
  have hB2 := Blk.new (w.alloc (.cells #[.int .i64 r, .int .i64 0, .int .i64 0, .slice none 0 0] 57)) [.pointer (some ⟨w.heap.size, 0, none⟩)] 53
  have hs : (w.alloc (.cells #[.int .i64 r, .int .i64 0, .int .i64 0, .slice none 0 0] 57)).heap.size = w.heap.size + 1 := by simp
  rw [hs] at hB2
  have HP : Hid (NewPost w r (.returned (.tuple #[.pointer (some ⟨w.heap.size + 1, 0, none⟩), .int .i64 0])) ((w.alloc (.cells #[.int .i64 r, .int .i64 0, .int .i64 0, .slice none 0 0] 57)).alloc (.cells #[.pointer (some ⟨w.heap.size, 0, none⟩)] 53))) :=
    Lib.hid ⟨rfl, ⟨hB2, hB1.alloc _, World.ownsRow_nil _ _ _ _, RS.new r, h1⟩, up_trans (up_alloc _ _) (up_alloc _ _)⟩
  clear hB1 hB2 hs
  go_enter Try.func7, Try.ntmps7
  go_wp2
  go_ret2
  exact HP.out

/-- What a change of the ring leaves: it holds L now; nothing old has turned but its store and its row. -/
def RPost (w : World) (t S lo rm : Nat) (v : Value) (L : List Int) (r : Value) (e : Ending) (w' : World) : Prop :=
  ∃ f v' xs, e = .returned r ∧ RW w' t S lo rm f v' L xs ∧ Only (PS S v) w w' ∧ ∀ g, v'.ownBlock = some g → v.ownBlock = some g ∨ w.heap.size ≤ g

set_option maxHeartbeats 400000 in
theorem c_push_full {w : World} {t S lo rm f : Nat} {v : Value} {L xs : List Int} (h : RW w t S lo rm f v L xs) (x : Int) (hl : L.length = rm) :
    Calls Try.prog 12 #[.pointer (some ⟨t, 0, none⟩), .int .i64 x] w fun e w' => e = .returned (.int .i64 10) ∧ Drew w w' := by
  have hc := h.c0
  have hc0 := h.box.cell 0 _ rfl
  have hc2 := h.box.cell 2 _ rfl
  have CN := Lib.hid (c_nob h.c0)
  rw [hl] at hc2
  have hnn : ((rm : Int) == (rm : Int)) = true := by simp
  clear h
  go_enter Try.func12, Try.ntmps12
  go_wp2_with (go_at_call 20; refine CN.out.mono ?_; rintro e w' ⟨rfl, rfl⟩)
  go_quiet (fail)
  go_wp2
  go_ret
  exact ⟨rfl, Drew.of _ _⟩
theorem map_snoc (xs : List Int) (x : Int) : xs.map (Value.int .i64) ++ [.int .i64 x] = (xs ++ [x]).map (Value.int .i64) := by simp
theorem push_app_post {w0 w w1 : World} {t S lo rm f n m : Nat} {v v1 : Value} {L xs : List Int} {x : Int} {ob : Obj} (hd : Drew w0 w) (h : RW w t S lo rm f v L xs) (hx : xs.length < rm)
    (hown : w1.ownsRow lo 3 1 v1 n (xs.map (Value.int .i64) ++ [.int .i64 x])) (hg : (w.alloc ob).grownBy w1 v.ownBlock) (h5 : ∀ g, v1.ownBlock = some g → v.ownBlock = some g ∨ (w.alloc ob).heap.size ≤ g) (hm : m = L.length) :
    RPost w0 t S lo rm v (L ++ [x]) (.int .i64 0) (.returned (.int .i64 0)) ((w1.setCell ⟨S, 3, none⟩ v1).setCell ⟨S, 2, none⟩ (.int .i64 ((m : Int) + 1))) := by
  rw [map_snoc] at hown
  have hn : n = (xs ++ [x]).length := by have := hown.1; simp at this; simp; omega
  subst hn hm
  have hB := h.box.alloc ob
  have hB1 := hB.grown hg (fun e => h.Sg S e.symm rfl)
  have hT1 := (h.tab.alloc ob).grown hg (fun e => h.tg t e.symm rfl)
  have hne : ∀ g, v1.ownBlock = some g → S ≠ g := fun g e => by
    obtain ⟨_, ds, hd⟩ := own_blk hown g e
    exact hB1.ne hd (by decide)
  have hsz : w0.heap.size = w.heap.size := by obtain ⟨q, rfl⟩ := hd; rfl
  refine ⟨f, v1, xs ++ [x], rfl, ⟨(hT1.other _ h.tS _).other _ h.tS _, ?_, ?_, (h.rs.push_app x hx).2, h.rm⟩, ?_, fun g e => ?_⟩
  · have := (hB1.set 3 v1).set 2 (.int .i64 ((L.length + 1 : Nat) : Int))
    simpa using this
  · exact own_keep hown (((Only.refl (· = S) w1).put 3 v1).put 2 _) (fun g e k => hne g e k.symm)
  · have o1 : Only (PS S v) w w1 := ((Only.refl _ w).alloc ob).grown hg (fun k e => .inl (.inr e))
    have o2 : Only (PS S v) w0 w1 := (Only.of_below hd.below).trans o1
    exact (o2.setCell (.inl (.inl rfl)) v1).setCell (.inl (.inl rfl)) _
  · rcases h5 g e with k | k
    · exact .inl k
    · exact .inr (by simp at k; omega)
theorem RW.drewN {w : World} {t S lo rm f : Nat} {v : Value} {L xs : List Int} (h : RW w t S lo rm f v L xs) (n : Nat) : RW (w.drewN n) t S lo rm f v L xs := h.below (up_drewN w n)
theorem RW.drew {w w' : World} {t S lo rm f : Nat} {v : Value} {L xs : List Int} (h : RW w t S lo rm f v L xs) (hd : Drew w w') : RW w' t S lo rm f v L xs := h.below hd.below
theorem drew_trans {a b c : World} (h : Drew a b) (k : Drew b c) : Drew a c := by
  obtain ⟨n, rfl⟩ := h
  obtain ⟨m, rfl⟩ := k
  exact ⟨n + m, by simp⟩
set_option maxHeartbeats 1000000 in
theorem c_push_app {w : World} {t S lo rm f : Nat} {v : Value} {L xs : List Int} (h : RW w t S lo rm f v L xs) (x : Int) (hl : L.length < rm) (hx : xs.length < rm) (hlo : lo ≤ w.heap.size) :
    Calls Try.prog 12 #[.pointer (some ⟨t, 0, none⟩), .int .i64 x] w (RPost w t S lo rm v (L ++ [x]) (.int .i64 0)) := by
  have hrm := h.rm
  obtain ⟨n, hn⟩ : ∃ n, n = L.length := ⟨_, rfl⟩
  obtain ⟨m, hm⟩ : ∃ m, m = xs.length := ⟨_, rfl⟩
  have hp := (h.rs.push_app x hx).1
  rw [← hn, ← hm] at hp
  have CN := Lib.hid (c_nob h.c0)
  have CP := fun (W : World) (hd : Drew w W) => c_place (h.drew hd).box h.rm (h.rs.flt (by omega)) L.length (by omega)
  have hne : ((n : Int) == (rm : Int)) = false := beq_eq_false_iff_ne.2 (by omega)
  have hmm : ((m : Int) == (m : Int)) = true := by simp
  rw [← hn, hp] at CP
  have CPP := Lib.hid CP
  have hc := h.c0
  have hc0 := h.box.cell 0 _ rfl
  have hc2 := h.box.cell 2 _ rfl
  have hc3 := h.box.cell 3 _ rfl
  rw [← hn] at hc2
  obtain ⟨A, c, rfl, _, _, _⟩ := own_slice h.row
  have hrow := h.row
  rw [← hm] at hc3 h hrow ⊢
  have H := Lib.hid h
  have HN := Lib.hid hn
  have HM := Lib.hid hm
  have HX := Lib.hid hx
  have hmrm : m < rm := by omega
  have hnrm : n < rm := by omega
  clear hrow h hn hm hx hp CP hl
  go_enter Try.func12, Try.ntmps12
  go_wp2_with (go_at_call 20; refine CN.out.mono ?_; rintro e w' ⟨rfl, rfl⟩)
  go_quiet (fail)
  go_wp2_with fail
  refine Calls.mono (CPP.out _ (Drew.of _ _)) ?_
  rintro e w' ⟨rfl, q, rfl⟩
  have HD := Lib.hid (drew_trans (Drew.of w nq) (Drew.of (w.drewN nq) q))
  obtain ⟨W, hW⟩ : ∃ W, W = (w.drewN nq).drewN q := ⟨_, rfl⟩
  rw [← hW] at HD ⊢
  have h1 := H.out.drew HD.out
  have d0 := h1.c0
  have d3 := h1.box.cell 3 _ rfl
  have f3 := h1.box.free 3
  have f2 := h1.box.free 2
  have d2 := h1.box.cell 2 _ rfl
  rw [← HN.out] at d2
  have HR := Lib.hid h1.row
  rw [← HM.out] at HR
  have hloW : lo ≤ W.heap.size := Nat.le_trans hlo HD.out.below.size
  have H1 := Lib.hid h1
  clear h1 hc hc0 hc2 hc3 hW
  go_wp2_with (at_builtin; refine wpList_app3 ei_int rfl (.tmp 39) (.tmp 41) rfl (.slice A m c) _ rfl (HR.out.alloc _) rfl (RD.one rfl) (by simp [Value.oneCell']) (by omega) (by simp; omega) ?_; intro v1 w1 hown1 hg1 hn1; have HB1 := (H1.out.box.alloc _).grown hg1 (fun e => H1.out.Sg S e.symm rfl); have z3 := HB1.free 3; have y3 := HB1.cell 3 _ rfl; have y2 := HB1.free 2; have z2 := HB1.cell 2 _ rfl; rw [← HN.out] at z2; obtain ⟨A1, c1, rfl, _, _, _⟩ := own_slice hown1)
  go_ret
  exact push_app_post HD.out H1.out HX.out hown1 hg1 hn1 HN.out

theorem map_set (xs : List Int) (k : Nat) (x : Int) : (xs.map (Value.int .i64)).set k (.int .i64 x) = (xs.set k x).map (Value.int .i64) := by simp [List.map_set]
theorem row_set {w : World} {lo g c n : Nat} {xs : List Int} (h : w.ownsRow lo 3 1 (.slice (some ⟨g, 0, none⟩) n c) n (xs.map (Value.int .i64))) (k : Nat) (x : Int) :
    (w.setCell ⟨g, k, none⟩ (.int .i64 x)).ownsRow lo 3 1 (.slice (some ⟨g, 0, none⟩) n c) n ((xs.set k x).map (Value.int .i64)) := by
  rw [← map_set]
  exact (h.stored k (.int .i64 x)).1
theorem push_set_post {w0 w : World} {t S lo rm f n g c m k : Nat} {L xs : List Int} {x : Int} (hd : Drew w0 w) (h : RW w t S lo rm f (.slice (some ⟨g, 0, none⟩) m c) L xs) (hx : xs.length = rm) (hl : L.length < rm) (hm : m = xs.length) (hn : n = L.length) (hk : k = plc rm f L.length) :
    RPost w0 t S lo rm (.slice (some ⟨g, 0, none⟩) m c) (L ++ [x]) (.int .i64 0) (.returned (.int .i64 0)) ((w.setCell ⟨g, k, none⟩ (.int .i64 x)).setCell ⟨S, 2, none⟩ (.int .i64 ((n : Int) + 1))) := by
  subst hm hn hk
  have hsz : w0.heap.size = w.heap.size := by obtain ⟨q, rfl⟩ := hd; rfl
  have hS := h.Sg g rfl
  have hT := h.tg g rfl
  have o1 : Only (PS S (.slice (some ⟨g, 0, none⟩) xs.length c)) w0 ((w.setCell ⟨g, plc rm f L.length, none⟩ (.int .i64 x)).setCell ⟨S, 2, none⟩ (.int .i64 ((L.length : Int) + 1))) :=
    ((Only.of_below hd.below).setCell (.inl (.inr rfl)) _).setCell (.inl (.inl rfl)) _
  refine ⟨f, _, _, rfl, ⟨(h.tab.other _ hT _).other _ h.tS _, ?_, ?_, (h.rs.push_set x hl hx).2, h.rm⟩, o1, fun g e => .inl e⟩
  · have := (h.box.other ⟨g, plc rm f L.length, none⟩ hS (.int .i64 x)).set 2 (.int .i64 ((L.length : Int) + 1))
    simpa using this
  · have := row_set h.row (plc rm f L.length) x
    rw [show (xs.set (plc rm f L.length) x).length = xs.length by simp]
    exact own_keep this ((Only.refl (· = S) _).put 2 _) (fun g' e k => by
      have : g = g' := by simpa [Value.ownBlock] using e
      exact hS (by rw [this]; exact k.symm))
set_option maxHeartbeats 1000000 in
theorem c_push_set {w : World} {t S lo rm f : Nat} {v : Value} {L xs : List Int} (h : RW w t S lo rm f v L xs) (x : Int) (hl : L.length < rm) (hx : xs.length = rm) :
    Calls Try.prog 12 #[.pointer (some ⟨t, 0, none⟩), .int .i64 x] w (RPost w t S lo rm v (L ++ [x]) (.int .i64 0)) := by
  have hrm := h.rm
  obtain ⟨g, c, rfl, _, hcm, _⟩ := own_form h.row (by omega)
  obtain ⟨n, hn⟩ : ∃ n, n = L.length := ⟨_, rfl⟩
  obtain ⟨m, hm⟩ : ∃ m, m = xs.length := ⟨_, rfl⟩
  have hp := (h.rs.push_set x hl hx).1
  obtain ⟨k, hk⟩ : ∃ k, k = plc rm f L.length := ⟨_, rfl⟩
  rw [← hk, ← hm] at hp
  have CN := Lib.hid (c_nob h.c0)
  have CP := fun (W : World) (hd : Drew w W) => c_place (h.drew hd).box h.rm (h.rs.flt (by omega)) L.length (by omega)
  rw [← hk] at CP
  have hne : ((n : Int) == (rm : Int)) = false := beq_eq_false_iff_ne.2 (by omega)
  have hmm : ((k : Int) == (m : Int)) = false := beq_eq_false_iff_ne.2 (by omega)
  rw [← hn] at CP
  have CPP := Lib.hid CP
  rw [← hm] at h ⊢
  have H := Lib.hid h
  have hc := h.c0
  have hc0 := h.box.cell 0 _ rfl
  have hc2 := h.box.cell 2 _ rfl
  have hc3 := h.box.cell 3 _ rfl
  rw [← hn] at hc2
  have HN := Lib.hid hn
  have HM := Lib.hid hm
  have HX := Lib.hid hx
  have HK := Lib.hid hk
  have HL := Lib.hid hl
  have hmrm : m ≤ 1024 := by omega
  have hnrm : n < rm := by omega
  clear h hn hm hx CP hl hk
  go_enter Try.func12, Try.ntmps12
  go_wp2_with (go_at_call 20; refine CN.out.mono ?_; rintro e w' ⟨rfl, rfl⟩)
  go_quiet (fail)
  go_wp2_with fail
  refine Calls.mono (CPP.out _ (Drew.of _ _)) ?_
  rintro e w' ⟨rfl, q, rfl⟩
  have HD := Lib.hid (drew_trans (Drew.of w nq) (Drew.of (w.drewN nq) q))
  obtain ⟨W, hW⟩ : ∃ W, W = (w.drewN nq).drewN q := ⟨_, rfl⟩
  rw [← hW] at HD ⊢
  have h1 := H.out.drew HD.out
  have d0 := h1.c0
  have d3 := h1.box.cell 3 _ rfl
  have f3 := h1.box.free 3
  have f2 := h1.box.free 2
  have d2 := h1.box.cell 2 _ rfl
  rw [← HN.out] at d2
  have hr := h1.row
  rw [← HM.out] at hr
  have hfk := hr.frozenAt k
  have hck : W.cell? ⟨g, k, none⟩ ≠ none := by rw [hr.cellAt k (by omega)]; simp [← HM.out]; omega
  obtain ⟨u, hu⟩ : ∃ u, W.cell? ⟨g, k, none⟩ = some u := Option.ne_none_iff_exists'.1 hck
  have hgS : S ≠ g := h1.Sg g rfl
  have H1 := Lib.hid h1
  clear h1 hc hc0 hc2 hc3 hW hr hck
  go_wp2_with fail
  go_ret
  exact push_set_post HD.out H1.out HX.out HL.out HM.out HN.out HK.out
end Go.Proofs.Ytaokojjjihinhaa

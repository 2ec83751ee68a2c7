/- Pop, Clear and At. -/
import Derived.Test.YtaokojjjihinhaaGc
namespace Go.Proofs.Ytaokojjjihinhaa
open Go.RowKit

theorem quiet_drew {P : Program} {f : FuncId} {args : Array Value} {w : World} {n : Nat} {v : Value} (h : Calls P f args (w.drewN n) fun e w' => e = .returned v ∧ Drew (w.drewN n) w') :
    Calls P f args (w.drewN n) fun e w'' => e = .returned v ∧ ∃ m, w'' = w.drewN m :=
  h.mono fun _ _ ⟨he, m, hm⟩ => ⟨he, n + m, by rw [hm]; simp⟩
theorem c_push {w : World} {t S lo rm f : Nat} {v : Value} {L xs : List Int} (h : RW w t S lo rm f v L xs) (x : Int) (hl : L.length < rm) (hlo : lo ≤ w.heap.size) :
    Calls Try.prog 12 #[.pointer (some ⟨t, 0, none⟩), .int .i64 x] w (RPost w t S lo rm v (L ++ [x]) (.int .i64 0)) := by
  have hf := h.rs.few
  rcases Nat.lt_or_ge xs.length rm with h1 | h1
  · exact c_push_app h x hl h1 hlo
  · exact c_push_set h x hl (by omega)

set_option maxHeartbeats 400000 in
theorem c_pop_none {w : World} {t S lo rm f : Nat} {v : Value} {xs : List Int} (h : RW w t S lo rm f v [] xs) :
    Calls Try.prog 10 #[.pointer (some ⟨t, 0, none⟩)] w fun e w' => e = .returned (.tuple #[.int .i64 0, .int .i64 11]) ∧ w = w' := by
  have hc := h.c0
  have hc2 := h.box.cell 2 _ rfl
  have CN := Lib.hid (c_nob h.c0)
  rw [show ((([] : List Int).length : Nat) : Int) = 0 from rfl] at hc2
  clear h
  go_enter Try.func10, Try.ntmps10
  go_wp2_with (go_at_call 20; refine CN.out.mono ?_; rintro e w' ⟨rfl, rfl⟩)
  go_ret2
  exact ⟨rfl, rfl⟩
/-- Behind the store of the zero: what the ring is but for its first and its many. -/
structure RZ (w : World) (t S lo rm f : Nat) (n : Int) (v : Value) (ys : List Int) : Prop where
  tab : Blk w t [.pointer (some ⟨S, 0, none⟩)] 53
  box : Blk w S [.int .i64 rm, .int .i64 f, .int .i64 n, v] 57
  row : w.ownsRow lo 3 1 v ys.length (ys.map (Value.int .i64))
theorem RZ.below {w w' : World} {t S lo rm f : Nat} {n : Int} {v : Value} {ys : List Int} (h : RZ w t S lo rm f n v ys) (hb : Below w.heap.size w w') : RZ w' t S lo rm f n v ys :=
  ⟨h.tab.up hb h.tab.lt, h.box.up hb h.box.lt, own_below h.row hb⟩
theorem pop_zero {w : World} {t S lo rm f g m c : Nat} {x : Int} {L xs : List Int} (h : RW w t S lo rm f (.slice (some ⟨g, 0, none⟩) m c) (x :: L) xs) (hm : m = xs.length) :
    RZ (w.setCell ⟨g, f, none⟩ (.int .i64 0)) t S lo rm f ((L.length : Int) + 1) (.slice (some ⟨g, 0, none⟩) m c) (xs.set f 0) := by
  subst hm
  refine ⟨h.tab.other _ (h.tg g rfl) _, ?_, ?_⟩
  · have := h.box.other ⟨g, f, none⟩ (h.Sg g rfl) (.int .i64 0)
    simpa using this
  · rw [show (xs.set f 0).length = xs.length by simp]
    exact row_set h.row f 0
theorem pop_post {w0 w w2 : World} {t S lo rm f g m c p : Nat} {x : Int} {n : Int} {L xs : List Int} (hd : Drew w0 w) (h : RW w t S lo rm f (.slice (some ⟨g, 0, none⟩) m c) (x :: L) xs) (hm : m = xs.length) (hp : p = plc rm f 1) (hn : n = L.length)
    (hd2 : Drew (w.setCell ⟨g, f, none⟩ (.int .i64 0)) w2) :
    RPost w0 t S lo rm (.slice (some ⟨g, 0, none⟩) m c) L (.tuple #[.int .i64 x, .int .i64 0]) (.returned (.tuple #[.int .i64 x, .int .i64 0])) ((w2.setCell ⟨S, 1, none⟩ (.int .i64 p)).setCell ⟨S, 2, none⟩ (.int .i64 n)) := by
  have hz := (pop_zero h hm).below hd2.below
  subst hm hp hn
  have o1 : Only (PS S (.slice (some ⟨g, 0, none⟩) xs.length c)) w0 w2 := ((Only.of_below hd.below).setCell (.inl (.inr rfl)) _).trans (Only.of_below hd2.below)
  refine ⟨plc rm f 1, _, _, rfl, ⟨(hz.tab.other _ h.tS _).other _ h.tS _, ?_, ?_, h.rs.pop.2.2, h.rm⟩, (o1.setCell (.inl (.inl rfl)) _).setCell (.inl (.inl rfl)) _, fun g e => .inl e⟩
  · have := (hz.box.set 1 (.int .i64 (plc rm f 1 : Nat))).set 2 (.int .i64 (L.length : Nat))
    simpa using this
  · exact own_keep hz.row (((Only.refl (· = S) _).put 1 _).put 2 _) (fun g' e k => by
      have : g = g' := by simpa [Value.ownBlock] using e
      exact h.Sg g rfl (by rw [this]; exact k.symm))
set_option maxHeartbeats 1000000 in
theorem c_pop {w : World} {t S lo rm f : Nat} {v : Value} {x : Int} {L xs : List Int} (h : RW w t S lo rm f v (x :: L) xs) :
    Calls Try.prog 10 #[.pointer (some ⟨t, 0, none⟩)] w (RPost w t S lo rm v L (.tuple #[.int .i64 x, .int .i64 0])) := by
  have hrm := h.rm
  obtain ⟨hfx, hxf, _⟩ := h.rs.pop
  have hle := h.rs.le
  simp only [List.length_cons] at hle
  have hff := h.rs.flt (by omega)
  obtain ⟨g, c, rfl, hmc, hcm, _, _⟩ := own_form h.row (by omega)
  obtain ⟨n, hn⟩ : ∃ n, n = L.length := ⟨_, rfl⟩
  obtain ⟨m, hm⟩ : ∃ m, m = xs.length := ⟨_, rfl⟩
  obtain ⟨p, hp⟩ : ∃ p, p = plc rm f 1 := ⟨_, rfl⟩
  have CN := Lib.hid (c_nob h.c0)
  have CP := fun (W : World) (n : Nat) (v : Value) (hb : Blk W S [.int .i64 rm, .int .i64 f, .int .i64 n, v] 57) => c_place hb h.rm hff 1 (by omega)
  rw [← hp] at CP
  have CPP := Lib.hid CP
  rw [← hm] at h ⊢
  have H := Lib.hid h
  have hc := h.c0
  have hc1 := h.box.cell 1 _ rfl
  have hc2 := h.box.cell 2 _ rfl
  have hc3 := h.box.cell 3 _ rfl
  rw [List.length_cons, ← hn] at hc2
  have hr := h.row
  rw [← hm] at hr
  have hcf : w.cell? ⟨g, f, none⟩ = some (.int .i64 x) := by rw [hr.cellAt f (by omega), List.getElem?_map, hxf]; rfl
  have hfz := hr.frozenAt f
  have hnz : (((n + 1 : Nat) : Int) == 0) = false := beq_eq_false_iff_ne.2 (by omega)
  have HN := Lib.hid hn
  have HM := Lib.hid hm
  have HP := Lib.hid hp
  have hfm : f < m := by omega
  have hm1 : m ≤ 1024 := by have := h.rs.few; omega
  have hn1 : n ≤ 1024 := by omega
  clear h hn hm hp CP hr hfx hxf hle
  go_enter Try.func10, Try.ntmps10
  go_wp2_with (go_at_call 20; refine CN.out.mono ?_; rintro e w' ⟨rfl, rfl⟩)
  go_quiet (fail)
  go_wp2_with fail
  go_region
  all_goals
    have HD := Lib.hid (Drew.of w (nq + 1))
    obtain ⟨W, hW⟩ : ∃ W, W = w.drewN (nq + 1) := ⟨_, rfl⟩
    rw [← hW] at HD ⊢
    have HR := Lib.hid (H.out.drew HD.out)
    have HZ := Lib.hid (pop_zero HR.out HM.out)
    have hzb := HZ.out.box
    rw [← HN.out] at hzb
    have C1 := Lib.hid (CPP.out _ (n + 1) _ hzb)
    obtain ⟨W1, hW1⟩ : ∃ W1, W1 = W.setCell ⟨g, f, none⟩ (.int .i64 0) := ⟨_, rfl⟩
    have HW1 := Lib.hid hW1
    rw [← hW1] at C1 HZ ⊢
    clear hzb hW hW1 hc hc1 hc2 hc3
    go_wp2_with fail
    refine Calls.mono C1.out ?_
    rintro e w2 ⟨rfl, hd2⟩
    have hz := HZ.out.below hd2.below
    have e1 := hz.box.cell 1 _ rfl
    have e2 := hz.box.cell 2 _ rfl
    have f1 := hz.box.free 1
    have f2 := hz.box.free 2
    rw [← HN.out] at e2
    have HD2 := Lib.hid hd2
    clear hz hd2
    go_wp2_with fail
    go_ret2
    exact pop_post HD.out HR.out HM.out HP.out (by have := HN.out; omega) (HW1.out ▸ HD2.out)

set_option maxHeartbeats 400000 in
theorem c_clear {w : World} {t S lo rm f : Nat} {v : Value} {L xs : List Int} (h : RW w t S lo rm f v L xs) :
    Calls Try.prog 9 #[.pointer (some ⟨t, 0, none⟩)] w (RPost w t S lo rm v [] (.tuple #[])) := by
  have hc := h.c0
  have hc0 := h.box.cell 0 _ rfl
  have hc1 := h.box.cell 1 _ rfl
  have hc2 := h.box.cell 2 _ rfl
  have hc3 := h.box.cell 3 _ rfl
  have hf0 := h.box.free 0
  have hf1 := h.box.free 1
  have hf2 := h.box.free 2
  have hf3 := h.box.free 3
  have CN := Lib.hid (c_nob h.c0)
  have H := Lib.hid h
  obtain ⟨A, c, rfl, _, _⟩ := own_slice h.row
  clear h
  go_enter Try.func9, Try.ntmps9
  go_wp2_with (go_at_call 20; refine CN.out.mono ?_; rintro e w' ⟨rfl, rfl⟩)
  go_region
  all_goals
    go_end0
    have h1 := H.out.drewN 1
    exact ⟨0, .slice none 0 0, [], rfl, ⟨(((h1.tab.other _ h1.tS _).other _ h1.tS _).other _ h1.tS _).other _ h1.tS _, (((h1.box.set 0 _).set 1 _).set 2 _).set 3 _, World.ownsRow_nil _ _ _ _, RS.new rm, h1.rm⟩,
      (((((Only.refl _ w).drewN 1).setCell (.inl (.inl rfl)) _).setCell (.inl (.inl rfl)) _).setCell (.inl (.inl rfl)) _).setCell (.inl (.inl rfl)) _, fun g e => by simp [Value.ownBlock] at e⟩

set_option maxHeartbeats 400000 in
theorem c_at_bad {w : World} {t S lo rm f : Nat} {v : Value} {L xs : List Int} (h : RW w t S lo rm f v L xs) (i : Int) (hi : i < 0 ∨ (L.length : Int) ≤ i) :
    Calls Try.prog 14 #[.pointer (some ⟨t, 0, none⟩), .int .i64 i] w fun e w' => e = .returned (.tuple #[.int .i64 0, .int .i64 8]) ∧ w = w' := by
  have hc := h.c0
  have hc2 := h.box.cell 2 _ rfl
  have CN := Lib.hid (c_nob h.c0)
  generalize L.length = n at *
  clear h
  by_cases h0 : i < 0
  · clear hi
    go_enter Try.func14, Try.ntmps14
    go_wp2_with (go_at_call 20; refine CN.out.mono ?_; rintro e w' ⟨rfl, rfl⟩)
    go_ret2
    exact ⟨rfl, rfl⟩
  · have h1 : (n : Int) ≤ i := by omega
    clear hi
    go_enter Try.func14, Try.ntmps14
    go_wp2_with (go_at_call 20; refine CN.out.mono ?_; rintro e w' ⟨rfl, rfl⟩)
    go_ret2
    exact ⟨rfl, rfl⟩
set_option maxHeartbeats 1000000 in
theorem c_at {w : World} {t S lo rm f : Nat} {v : Value} {L xs : List Int} (h : RW w t S lo rm f v L xs) (i : Nat) (x : Int) (hi : L[i]? = some x) :
    Calls Try.prog 14 #[.pointer (some ⟨t, 0, none⟩), .int .i64 i] w fun e w' => e = .returned (.tuple #[.int .i64 x, .int .i64 0]) ∧ Drew w w' := by
  have hrm := h.rm
  have hil : i < L.length := (List.getElem?_eq_some_iff.1 hi).1
  obtain ⟨hkx, hxk⟩ := h.rs.get hi
  have hle := h.rs.le
  have hff := h.rs.flt (by omega)
  obtain ⟨g, c, rfl, hmc, hcm, _, _⟩ := own_form h.row (by omega)
  obtain ⟨n, hn⟩ : ∃ n, n = L.length := ⟨_, rfl⟩
  obtain ⟨m, hm⟩ : ∃ m, m = xs.length := ⟨_, rfl⟩
  obtain ⟨k, hk⟩ : ∃ k, k = plc rm f i := ⟨_, rfl⟩
  have CN := Lib.hid (c_nob h.c0)
  have CP := fun q => c_place (h.drewN q).box h.rm hff i (by omega)
  rw [← hk] at CP hkx hxk
  have CPP := Lib.hid CP
  have hc := h.c0
  have hc2 := h.box.cell 2 _ rfl
  have hc3 := h.box.cell 3 _ rfl
  rw [← hn] at hc2 hil
  rw [← hm] at hc3 hkx
  have hr := h.row
  have hck : w.cell? ⟨g, k, none⟩ = some (.int .i64 x) := by rw [hr.cellAt k (by omega), List.getElem?_map, hxk]; rfl
  have hm1 : m ≤ 1024 := by have := h.rs.few; omega
  have hn1 : n ≤ 1024 := by omega
  clear h hi hxk hn hk CP hr hle hm
  go_enter Try.func14, Try.ntmps14
  go_wp2_with (go_at_call 20; refine CN.out.mono ?_; rintro e w' ⟨rfl, rfl⟩)
  go_quiet ((go_at_call 21; exact quiet_drew (CPP.out _)))
  go_wp2
  go_ret2
  exact ⟨rfl, Drew.of _ _⟩
end Go.Proofs.Ytaokojjjihinhaa

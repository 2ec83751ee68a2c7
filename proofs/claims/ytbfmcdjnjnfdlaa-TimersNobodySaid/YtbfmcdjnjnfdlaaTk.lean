/- The heap's Push, Pop and Remove. -/
import Derived.Test.YtbfmcdjnjnfdlaaTj
namespace Go.Proofs.Ytbfmcdjnjnfdlaa
open Go.RowKit

theorem PW.slice {w : World} {q o : Nat} {cs : List Value} {tq : TypeId} {lo : Nat} {v : Value} {xs : List Tm} (h : PW w q o cs tq lo v xs) : ∃ A c, v = .slice A xs.length c ∧ xs.length ≤ c ∧ c ≤ maxLen := by
  obtain ⟨A, c, e, h1, h2, _⟩ := own_slice h.row
  exact ⟨A, c, e, h1, h2⟩
theorem PS.only {w w1 w2 : World} {q : Nat} {v v1 : Value} (h1 : Only (PS q v) w w1) (hn : ∀ g, v1.ownBlock = some g → v.ownBlock = some g ∨ w.heap.size ≤ g) (h2 : Only (PS q v1) w1 w2) : Only (PS q v) w w2 :=
  ⟨h2.os.trans h1.os, h2.tape.trans h1.tape, h2.output.trans h1.output, Nat.le_trans h1.size h2.size, fun i hi hs => (h2.block i (Nat.lt_of_lt_of_le hi h1.size) (fun k => by
    rcases k with k | k
    · exact hs (.inl k)
    · rcases hn i k with e | e
      · exact hs (.inr e)
      · omega)).trans (h1.block i hi hs)⟩

set_option maxHeartbeats 2000000 in
theorem c_push {w : World} {q o : Nat} {cs : List Value} {tq : TypeId} {lo : Nat} {v : Value} {xs : List Tm} (h : PW w q o cs tq lo v xs) (hl : xs.length < 2000) (hlo : lo ≤ w.heap.size) (hh : Heap xs.length xs) (t : Tm) :
    Calls Try.prog 25 #[.iface 67 (.pointer (some ⟨q, o, none⟩)), .iface 42 (.agg #[.int .i64 t.at_, .int .i64 t.no, .int .i64 t.who])] w (PilePost w q o cs tq lo v (fun ys => ys.Perm (xs ++ [t]) ∧ Heap ys.length ys) (.tuple #[])) := by
  have C := Lib.hid (c_ppush h hl hlo t)
  have HU := Lib.hid (hh.push t)
  have hmp := m_push ⟨q, o, none⟩ w
  clear h hh
  obtain ⟨n, hn⟩ : ∃ n, n = xs.length := ⟨_, rfl⟩
  have hn2 : n < 2000 := by omega
  have HN := Lib.hid hn
  clear hl hn hlo
  go_enter Try.func25, Try.ntmps25
  go_wp2_with fail
  refine Calls.mono C.out ?_
  rintro e w1 ⟨v1, ys, rfl, hys, hw1, ho1, hn1⟩
  obtain ⟨A, c, hv, _, _⟩ := hw1.slice
  have hly : ys.length = n + 1 := by rw [hys]; simp [HN.out]
  rw [hly] at hv
  subst hv
  obtain ⟨m, hm⟩ : ∃ m, m = n + 1 := ⟨_, rfl⟩
  rw [← hm] at hw1 hn1
  have e1 : (m : Int) - 1 = (n : Int) := by omega
  have HM := Lib.hid hm
  have HLY := Lib.hid hly
  have hml := m_len hw1.cell
  have CU := Lib.hid (c_up hw1 (n + 1) n (by omega) (by omega) (by rw [hys, HN.out]; exact HU.out))
  have HW1 := Lib.hid hw1
  have HO1 := Lib.hid ho1
  have HN1 := Lib.hid hn1
  have HYS := Lib.hid hys
  have hm2 : m ≤ 2000 := by omega
  clear hw1 ho1 hn1 hm hys hly hmp
  go_wp2_with (first | (go_at_call 27; refine (c_len _ _ _ _).mono ?_; rintro e w' ⟨rfl, rfl⟩) | (go_at_call 35; refine CU.out.mono ?_; rintro e w2 ⟨zs, rfl, hz, hw2, ho2⟩))
  go_end0
  obtain ⟨hz1, hz2, _⟩ := hz
  exact ⟨_, zs, rfl, ⟨HYS.out ▸ hz1, by rw [hz1.length_eq, HLY.out]; exact hz2⟩, hw2, PS.only HO1.out HN1.out ho2, HN1.out⟩

/-- What Pop and Remove leave: the timer at place i has gone. -/
def GonePost (w : World) (q o : Nat) (cs : List Value) (tq : TypeId) (lo : Nat) (v : Value) (i : Nat) (xs : List Tm) : Ending → World → Prop :=
  PilePost w q o cs tq lo v (fun ys => (gt xs i :: ys).Perm xs ∧ Heap ys.length ys) (.iface 42 (tmA (gt xs i)))
theorem gone_perm {xs ys : List Tm} {i m : Nat} (hx : xs.length = m + 1) (hi : i ≤ m) (hp : ys.Perm (swapL xs i m)) (ht : gt ys m = gt (swapL xs i m) m) : (gt xs i :: ys.take m).Perm xs ∧ gt ys m = gt xs i := by
  have hl : ys.length = m + 1 := by rw [hp.length_eq, swapL_len, hx]
  have e : gt (swapL xs i m) m = gt xs i := swapL_j (by omega) (by omega)
  have e2 : gt ys m = gt xs i := ht.trans e
  refine ⟨?_, e2⟩
  have h1 := take_gt hl
  rw [e2] at h1
  have h2 : (gt xs i :: ys.take m).Perm (ys.take m ++ [gt xs i]) := (List.perm_append_singleton _ _).symm
  exact h2.trans (by rw [h1]; exact hp.trans (swapL_perm (by omega) (by omega)))

set_option maxHeartbeats 4000000 in
theorem c_pop {w : World} {q o : Nat} {cs : List Value} {tq : TypeId} {lo : Nat} {v : Value} {xs : List Tm} (h : PW w q o cs tq lo v xs) (hh : Heap xs.length xs) (h0 : 0 < xs.length) :
    Calls Try.prog 29 #[.iface 67 (.pointer (some ⟨q, o, none⟩))] w (GonePost w q o cs tq lo v 0 xs) := by
  obtain ⟨m, hm⟩ : ∃ m, xs.length = m + 1 := ⟨xs.length - 1, by omega⟩
  obtain ⟨A, c, hv, _, _⟩ := h.slice
  rw [hm] at hv
  subst hv
  have hf := h.few
  have hml := m_len h.cell
  have hms := m_swap h.cell
  have CS := Lib.hid (h.swp 0 m (by omega) (by omega))
  have e1 : ((m + 1 : Nat) : Int) - 1 = (m : Int) := by omega
  have HD := Lib.hid (Heap.downTo (m := m) (i := 0) (hm ▸ hh) (by omega) (by omega))
  have HM := Lib.hid hm
  have hm2 : m < 2000 := by omega
  have H := Lib.hid h
  clear h hh h0 hm hf
  go_enter Try.func29, Try.ntmps29
  go_wp2_with (first | (go_at_call 27; refine (c_len _ _ _ _).mono ?_; rintro e w' ⟨rfl, rfl⟩))
  refine Calls.mono CS.out ?_
  rintro e w1 ⟨rfl, hw1, ho1⟩
  have CD := Lib.hid (c_down hw1 0 m (by rw [swapL_len, HM.out]; omega) (by omega) HD.out)
  have HO1 := Lib.hid ho1
  clear hw1 ho1 hml hms
  go_wp2_with fail
  refine Calls.mono CD.out ?_
  rintro e w2 ⟨b, ys, rfl, hp, hl, ht, hb, hw2, ho2⟩
  have hly : ys.length = m + 1 := by rw [hl, swapL_len, HM.out]
  have CP := Lib.hid (c_ppop hw2 m hly)
  have hmp := m_pop ⟨q, o, none⟩ w2
  have HB : Hid (Heap m ys) := Lib.hid (by rcases hb with ⟨_, hb⟩ | ⟨_, hb⟩; exact hb; exact hb.zero)
  have HO2 := Lib.hid ho2
  have HG := Lib.hid (gone_perm HM.out (Nat.zero_le m) hp (ht m (Nat.le_refl _)))
  have HLY := Lib.hid hly
  clear hp hl ht hb hw2 ho2 hly
  go_wp2_with fail
  refine Calls.mono CP.out ?_
  rintro e w3 ⟨v3, zs, rfl, hz, hw3, ho3, hn3⟩
  have HW3 := Lib.hid hw3
  have HO3 := Lib.hid ho3
  have HN3 := Lib.hid hn3
  have HZ := Lib.hid hz
  clear hw3 ho3 hn3 hz
  go_wp2_with fail
  go_ret
  refine ⟨v3, zs, by rw [HG.out.2]; rfl, ⟨by rw [HZ.out]; exact HG.out.1, ?_⟩, HW3.out, (HO1.out.trans HO2.out).trans HO3.out, fun g e => ?_⟩
  · rw [HZ.out, List.length_take, HLY.out, Nat.min_eq_left (by omega)]
    exact HB.out.of_same fun k hk => gt_take hk
  · rcases HN3.out g e with k | k
    · exact .inl k
    · exact .inr (Nat.le_trans (HO1.out.trans HO2.out).size k)

set_option maxHeartbeats 4000000 in
theorem c_remove_last {w : World} {q o : Nat} {cs : List Value} {tq : TypeId} {lo : Nat} {v : Value} {xs : List Tm} (h : PW w q o cs tq lo v xs) (hh : Heap xs.length xs) (m : Nat) (hm : xs.length = m + 1) :
    Calls Try.prog 23 #[.iface 67 (.pointer (some ⟨q, o, none⟩)), .int .i64 m] w (GonePost w q o cs tq lo v m xs) := by
  obtain ⟨A, c, hv, _, _⟩ := h.slice
  rw [hm] at hv
  subst hv
  have hf := h.few
  have hml := m_len h.cell
  have e1 : ((m + 1 : Nat) : Int) - 1 = (m : Int) := by omega
  have hne : ((m : Int) != (m : Int)) = false := by simp
  have HM := Lib.hid hm
  have hm2 : m < 2000 := by omega
  have CP := Lib.hid (c_ppop h m hm)
  have hmp := m_pop ⟨q, o, none⟩ w
  have HH : Hid (Heap (xs.take m).length (xs.take m)) := Lib.hid (by
    have e : (xs.take m).length = m := by rw [List.length_take]; omega
    rw [e]
    exact Heap.of_same (fun k h0 h1 => hh k h0 (by omega)) (fun k hk => gt_take hk))
  have HG : Hid ((gt xs m :: xs.take m).Perm xs) := Lib.hid (by
    have h1 := take_gt hm
    have h2 : (gt xs m :: xs.take m).Perm (xs.take m ++ [gt xs m]) := (List.perm_append_singleton _ _).symm
    rwa [h1] at h2)
  clear h hh hm hf
  go_enter Try.func23, Try.ntmps23
  go_wp2_with (first | (go_at_call 27; refine (c_len _ _ _ _).mono ?_; rintro e w' ⟨rfl, rfl⟩))
  refine Calls.mono CP.out ?_
  rintro e w3 ⟨v3, zs, rfl, hz, hw3, ho3, hn3⟩
  have HW3 := Lib.hid hw3
  have HO3 := Lib.hid ho3
  have HN3 := Lib.hid hn3
  have HZ := Lib.hid hz
  clear hw3 ho3 hn3 hz hml hmp
  go_wp2_with fail
  go_ret
  exact ⟨v3, zs, rfl, ⟨by rw [HZ.out]; exact HG.out, by rw [HZ.out]; exact HH.out⟩, HW3.out, HO3.out, HN3.out⟩

set_option maxHeartbeats 4000000 in
theorem c_remove_mid {w : World} {q o : Nat} {cs : List Value} {tq : TypeId} {lo : Nat} {v : Value} {xs : List Tm} (h : PW w q o cs tq lo v xs) (hh : Heap xs.length xs) (i m : Nat) (hm : xs.length = m + 1) (hi : i < m) :
    Calls Try.prog 23 #[.iface 67 (.pointer (some ⟨q, o, none⟩)), .int .i64 i] w (GonePost w q o cs tq lo v i xs) := by
  obtain ⟨A, c, hv, _, _⟩ := h.slice
  rw [hm] at hv
  subst hv
  have hf := h.few
  have hml := m_len h.cell
  have hms := m_swap h.cell
  have CS := Lib.hid (h.swp i m (by omega) (by omega))
  have e1 : ((m + 1 : Nat) : Int) - 1 = (m : Int) := by omega
  have hne : ((m : Int) != (i : Int)) = true := bne_iff_ne.2 (by omega)
  have HD := Lib.hid (Heap.downTo (m := m) (i := i) (hm ▸ hh) (by omega) (by omega))
  have HM := Lib.hid hm
  have hm2 : m < 2000 := by omega
  clear h hh hm hf
  go_enter Try.func23, Try.ntmps23
  go_wp2_with (first | (go_at_call 27; refine (c_len _ _ _ _).mono ?_; rintro e w' ⟨rfl, rfl⟩))
  refine Calls.mono CS.out ?_
  rintro e w1 ⟨rfl, hw1, ho1⟩
  have CD := Lib.hid (c_down hw1 i m (by rw [swapL_len, HM.out]; omega) (by omega) HD.out)
  have HO1 := Lib.hid ho1
  clear hw1 ho1 hml hms
  go_wp2_with fail
  refine Calls.mono CD.out ?_
  rintro e w2 ⟨b, ys, rfl, hp, hl, ht, hb, hw2, ho2⟩
  have hly : ys.length = m + 1 := by rw [hl, swapL_len, HM.out]
  have HO2 := Lib.hid (HO1.out.trans ho2)
  have HG := Lib.hid (gone_perm HM.out (by omega) hp (ht m (Nat.le_refl _)))
  have HLY := Lib.hid hly
  rcases hb with ⟨rfl, hb⟩ | ⟨rfl, hb⟩
  · have CP := Lib.hid (c_ppop hw2 m hly)
    have hmp := m_pop ⟨q, o, none⟩ w2
    have HB := Lib.hid hb
    clear hp hl ht hb hw2 ho2 hly
    go_wp2_with fail
    refine Calls.mono CP.out ?_
    rintro e w3 ⟨v3, zs, rfl, hz, hw3, ho3, hn3⟩
    have HW3 := Lib.hid hw3
    have HO3 := Lib.hid ho3
    have HN3 := Lib.hid hn3
    have HZ := Lib.hid hz
    clear hw3 ho3 hn3 hz
    go_wp2_with fail
    go_ret
    refine ⟨v3, zs, by rw [HG.out.2]; rfl, ⟨by rw [HZ.out]; exact HG.out.1, ?_⟩, HW3.out, HO2.out.trans HO3.out, fun g e => ?_⟩
    · rw [HZ.out, List.length_take, HLY.out, Nat.min_eq_left (by omega)]
      exact HB.out.of_same fun k hk => gt_take hk
    · rcases HN3.out g e with k | k
      · exact .inl k
      · exact .inr (Nat.le_trans HO2.out.size k)
  · have CU := Lib.hid (c_up hw2 m i (by omega) hi hb)
    have HT := Lib.hid (ht m (Nat.le_refl _))
    have HP := Lib.hid hp
    clear hp hl ht hb hw2 ho2 hly HG
    go_wp2_with fail
    refine Calls.mono CU.out ?_
    rintro e w3 ⟨zs, rfl, ⟨hz1, hz2, hz3⟩, hw3, ho3⟩
    have hlz : zs.length = m + 1 := by rw [hz1.length_eq, HLY.out]
    have CP := Lib.hid (c_ppop hw3 m hlz)
    have hmp := m_pop ⟨q, o, none⟩ w3
    have HB := Lib.hid hz2
    have HO3 := Lib.hid (HO2.out.trans ho3)
    have HG := Lib.hid (gone_perm HM.out (by omega) (hz1.trans HP.out) ((hz3 m (Nat.le_refl _)).trans HT.out))
    have HLZ := Lib.hid hlz
    clear hz1 hz2 hz3 hw3 ho3 hlz
    go_wp2_with fail
    refine Calls.mono CP.out ?_
    rintro e w4 ⟨v4, us, rfl, hz, hw4, ho4, hn4⟩
    have HW4 := Lib.hid hw4
    have HO4 := Lib.hid ho4
    have HN4 := Lib.hid hn4
    have HZ := Lib.hid hz
    clear hw4 ho4 hn4 hz
    go_wp2_with fail
    go_ret
    refine ⟨v4, us, by rw [HG.out.2]; rfl, ⟨by rw [HZ.out]; exact HG.out.1, ?_⟩, HW4.out, HO3.out.trans HO4.out, fun g e => ?_⟩
    · rw [HZ.out, List.length_take, HLZ.out, Nat.min_eq_left (by omega)]
      exact HB.out.of_same fun k hk => gt_take hk
    · rcases HN4.out g e with k | k
      · exact .inl k
      · exact .inr (Nat.le_trans HO3.out.size k)
theorem c_remove {w : World} {q o : Nat} {cs : List Value} {tq : TypeId} {lo : Nat} {v : Value} {xs : List Tm} (h : PW w q o cs tq lo v xs) (hh : Heap xs.length xs) (i : Nat) (hi : i < xs.length) :
    Calls Try.prog 23 #[.iface 67 (.pointer (some ⟨q, o, none⟩)), .int .i64 i] w (GonePost w q o cs tq lo v i xs) := by
  obtain ⟨m, hm⟩ : ∃ m, xs.length = m + 1 := ⟨xs.length - 1, by omega⟩
  by_cases e : i = m
  · subst e
    exact c_remove_last h hh i hm
  · exact c_remove_mid h hh i m hm (by omega)
end Go.Proofs.Ytbfmcdjnjnfdlaa

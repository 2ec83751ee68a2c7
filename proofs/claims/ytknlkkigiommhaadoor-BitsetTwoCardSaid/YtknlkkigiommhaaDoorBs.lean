/- The law BitsetTwo, walked. -/
import Derived.Test.YtknlkkigiommhaaDoorBn
import Derived.Test.YtknlkkigiommhaaDoorBk
namespace Go.Proofs.YtknlkkigiommhaaDoor
open Go.RowKit

theorem c_rofS {w : World} {pl : Nat → Prop} {A : Option Addr} {c : Nat} {L : List Int} (h0 : RD w pl 1 A L.length (L.map (Value.int .i64))) (hlen : L.length ≤ 1000) :
    Calls Tryd.prog 9 #[.slice A L.length c] w (IntsPost w (ofS L).ints) := by
  rw [ofS_ints]
  exact c_rof h0 hlen
theorem c_runionS {w : World} {pl pl2 : Nat → Prop} {A A2 : Option Addr} {c c2 : Nat} {s t : S4} (h : RD w pl 1 A s.ints.length (s.ints.map (Value.int .i64))) (k : RD w pl2 1 A2 t.ints.length (t.ints.map (Value.int .i64))) :
    Calls Tryd.prog 23 #[.slice A s.ints.length c, .slice A2 t.ints.length c2] w (IntsPost w (s.uni t).ints) := by
  have h1 := len_le s
  have h2 := len_le t
  unfold S4.len at h1 h2
  have := c_runion (c := c) (c2 := c2) h (by omega) k (by omega)
  unfold S4.ints at this
  rw [ofL_app] at this
  rw [uni_ints]
  exact this
theorem c_rinterS {w : World} {pl pl2 : Nat → Prop} {A A2 : Option Addr} {c c2 : Nat} {s t : S4} (h : RD w pl 1 A s.ints.length (s.ints.map (Value.int .i64))) (k : RD w pl2 1 A2 t.ints.length (t.ints.map (Value.int .i64))) :
    Calls Tryd.prog 25 #[.slice A s.ints.length c, .slice A2 t.ints.length c2] w (IntsPost w (s.int t).ints) := by
  have h1 := len_le s
  have h2 := len_le t
  unfold S4.len at h1 h2
  have := c_rinter (c := c) (c2 := c2) h (by omega) k (by omega)
  unfold S4.ints at this
  rw [rise_inter] at this
  rw [int_ints]
  exact this
theorem c_rlessS {w : World} {pl pl2 : Nat → Prop} {A A2 : Option Addr} {c c2 : Nat} {s t : S4} (h : RD w pl 1 A s.ints.length (s.ints.map (Value.int .i64))) (k : RD w pl2 1 A2 t.ints.length (t.ints.map (Value.int .i64))) :
    Calls Tryd.prog 27 #[.slice A s.ints.length c, .slice A2 t.ints.length c2] w (IntsPost w (s.les t).ints) := by
  have h1 := len_le s
  have h2 := len_le t
  unfold S4.len at h1 h2
  have := c_rless (c := c) (c2 := c2) h (by omega) k (by omega)
  unfold S4.ints at this
  rw [rise_less] at this
  rw [les_ints]
  exact this
theorem c_raddS {w : World} {pl : Nat → Prop} {A : Option Addr} {c : Nat} {s : S4} (h : RD w pl 1 A s.ints.length (s.ints.map (Value.int .i64))) (x : Int) :
    Calls Tryd.prog 19 #[.slice A s.ints.length c, .int .i64 x] w (IntsPost w (s.uni (S4.only x)).ints) := by
  have h1 := len_le s
  unfold S4.len at h1
  have := c_radd (c := c) h (by omega) x
  unfold S4.ints at this
  rw [ofL_add] at this
  rw [add_ints]
  exact this
theorem c_rdropS {w : World} {pl : Nat → Prop} {A : Option Addr} {c : Nat} {s : S4} (h : RD w pl 1 A s.ints.length (s.ints.map (Value.int .i64))) (x : Int) :
    Calls Tryd.prog 21 #[.slice A s.ints.length c, .int .i64 x] w (IntsPost w (s.les (S4.only x)).ints) := by
  have h1 := len_le s
  unfold S4.len at h1
  have := c_rdrop (c := c) h (by omega) x
  unfold S4.ints at this
  rw [rise_drop] at this
  rw [drop_ints]
  exact this
theorem c_subB {s t : S4} {b : Bool} (h : s.sub t = b) (w : World) : Calls Tryd.prog 28 #[s.val, t.val] w fun e w' => e = .returned (.bool b) ∧ Below w.heap.size w w' := by
  rw [← h]
  exact c_sub s t w
theorem c_sameS {w : World} {pl pl' : Nat → Prop} {A B : Option Addr} {c d : Nat} {s : S4} (hA : RD w pl 1 A s.ints.length (s.ints.map (Value.int .i64))) (hB : RD w pl' 1 B s.ints.length (s.ints.map (Value.int .i64))) :
    Calls Tryd.prog 13 #[.slice A s.ints.length c, .slice B s.ints.length d] w fun e w' => e = .returned (.bool true) ∧ Below w.heap.size w w' := by
  have h1 := len_le s
  unfold S4.len at h1
  exact (c_same hA hB (by omega)).mono fun _ _ h => ⟨h.1, h.2.below⟩

set_option maxRecDepth 100000 in
set_option maxHeartbeats 8000000 in
theorem l_two {A A2 : Option Addr} {c c2 : Nat} {L M : List Int} {w : World} {pl pl2 : Nat → Prop} (hL : RD w pl 1 A L.length (L.map (Value.int .i64))) (hM : RD w pl2 1 A2 M.length (M.map (Value.int .i64))) (hT : TabD w) :
    Calls Tryd.prog 4 #[.slice A L.length c, .slice A2 M.length c2] w fun e w' => e = .returned (.bool true) ∧ Below w.heap.size w w' := by
  have HT := Lib.hid hT
  clear hT
  by_cases hl : L.length ≤ 60
  · by_cases hm : M.length ≤ 60
    · have hl2 : decide (60 < L.length) = false := by simpa using hl
      have hm2 : decide (60 < M.length) = false := by simpa using hm
      have hb := Below.refl w.heap.size w
      go_enter Tryd.func4, Tryd.ntmps4
      go_wp2_with fail
      refine Calls.mono (c_of hL (by omega)) ?_
      rintro e w1 ⟨rfl, hb1⟩
      have hM1 := hM.below hb1
      go_wp2_with fail
      refine Calls.mono (c_of hM1 (by omega)) ?_
      rintro e w2 ⟨rfl, hb2⟩
      have hP := (Blk.new w2 (ofS L).cs 26).alloc (.cells (ofS M).cs.toArray 26)
      have hQ := Blk.new' (w2.alloc (.cells (ofS L).cs.toArray 26)) (ofS M).cs 26 (w2.heap.size + 1) (by simp)
      have hb := up_trans (up_trans hb1 hb2) (up_trans (up_alloc w2 (.cells (ofS L).cs.toArray 26)) (up_alloc _ (.cells (ofS M).cs.toArray 26)))
      have hL3 := hL.below hb
      have hM3 := hM.below hb
      clear hL hM hM1 hb1 hb2
      have HLE := Lib.hid hl
      have HME := Lib.hid hm
      go_wp2_with fail
      refine Calls.mono (c_rofS hL3 (by have := HLE.out; omega)) ?_
      rintro e w3 ⟨A3, c3, rfl, hc3, hm3, rd3, hb3⟩
      have hM4 := hM3.below hb3
      go_wp2_with fail
      refine Calls.mono (c_rofS hM4 (by have := HME.out; omega)) ?_
      rintro e w4 ⟨A4, c4, rfl, hc4, hm4, rd4, hb4⟩
      have hb34 := up_trans hb3 hb4
      have hP := hP.up hb34 hP.lt
      have hQ := hQ.up hb34 hQ.lt
      have hb := up_trans hb hb34
      have rd3 := rd3.below hb4
      have hz : w2.heap.size < w4.heap.size := by have := hP.lt; omega
      generalize w2.heap.size = b at hP hQ hz
      clear hL3 hM3 hM4 hb3 hb4 hb34
      generalize ofS L = S at hP hQ rd3 hc3
      generalize ofS M = T at hP hQ rd4 hc4
      obtain ⟨p0, p1, p2, p3, -⟩ := facts4 hP
      obtain ⟨q0, q1, q2, q3, -⟩ := facts4 hQ
      have HTW := Lib.hid (tab_up HT.out hb)
      go_wp2_with fail
      refine Calls.mono (c_union S T _) ?_
      rintro e w' ⟨rfl, hbx⟩
      have hb := up_trans hb hbx
      have HTW := Lib.hid (tab_up HT.out hb)
      have hP := hP.up hbx hP.lt
      have hQ := hQ.up hbx hQ.lt
      clear p0 p1 p2 p3 q0 q1 q2 q3
      obtain ⟨p0, p1, p2, p3, -⟩ := facts4 hP
      obtain ⟨q0, q1, q2, q3, -⟩ := facts4 hQ
      have rd3 := rd3.below hbx
      have rd4 := rd4.below hbx
      go_wp2_with fail
      refine Calls.mono (c_list (S.uni T) _ HTW.out) ?_
      rintro e w' ⟨A5, c5, rfl, hc5, hm5, rd5, hbx⟩
      have hb := up_trans hb hbx
      have HTW := Lib.hid (tab_up HT.out hb)
      have hP := hP.up hbx hP.lt
      have hQ := hQ.up hbx hQ.lt
      clear p0 p1 p2 p3 q0 q1 q2 q3
      obtain ⟨p0, p1, p2, p3, -⟩ := facts4 hP
      obtain ⟨q0, q1, q2, q3, -⟩ := facts4 hQ
      have rd3 := rd3.below hbx
      have rd4 := rd4.below hbx
      go_wp2_with fail
      refine Calls.mono (c_runionS rd3 rd4) ?_
      rintro e w' ⟨A6, c6, rfl, hc6, hm6, rd6, hbx⟩
      have hb := up_trans hb hbx
      have HTW := Lib.hid (tab_up HT.out hb)
      have hP := hP.up hbx hP.lt
      have hQ := hQ.up hbx hQ.lt
      clear p0 p1 p2 p3 q0 q1 q2 q3
      obtain ⟨p0, p1, p2, p3, -⟩ := facts4 hP
      obtain ⟨q0, q1, q2, q3, -⟩ := facts4 hQ
      have rd3 := rd3.below hbx
      have rd4 := rd4.below hbx
      have rd5 := rd5.below hbx
      go_wp2_with fail
      refine Calls.mono (c_sameS rd5 rd6) ?_
      rintro e w' ⟨rfl, hbx⟩
      have hb := up_trans hb hbx
      have HTW := Lib.hid (tab_up HT.out hb)
      have hP := hP.up hbx hP.lt
      have hQ := hQ.up hbx hQ.lt
      clear p0 p1 p2 p3 q0 q1 q2 q3
      obtain ⟨p0, p1, p2, p3, -⟩ := facts4 hP
      obtain ⟨q0, q1, q2, q3, -⟩ := facts4 hQ
      have rd3 := rd3.below hbx
      have rd4 := rd4.below hbx
      clear rd5 rd6 hc5 hc6 hm5 hm6
      go_wp2_with fail
      refine Calls.mono (c_inter S T _) ?_
      rintro e w' ⟨rfl, hbx⟩
      have hb := up_trans hb hbx
      have HTW := Lib.hid (tab_up HT.out hb)
      have hP := hP.up hbx hP.lt
      have hQ := hQ.up hbx hQ.lt
      clear p0 p1 p2 p3 q0 q1 q2 q3
      obtain ⟨p0, p1, p2, p3, -⟩ := facts4 hP
      obtain ⟨q0, q1, q2, q3, -⟩ := facts4 hQ
      have rd3 := rd3.below hbx
      have rd4 := rd4.below hbx
      go_wp2_with fail
      refine Calls.mono (c_list (S.int T) _ HTW.out) ?_
      rintro e w' ⟨A5, c5, rfl, hc5, hm5, rd5, hbx⟩
      have hb := up_trans hb hbx
      have HTW := Lib.hid (tab_up HT.out hb)
      have hP := hP.up hbx hP.lt
      have hQ := hQ.up hbx hQ.lt
      clear p0 p1 p2 p3 q0 q1 q2 q3
      obtain ⟨p0, p1, p2, p3, -⟩ := facts4 hP
      obtain ⟨q0, q1, q2, q3, -⟩ := facts4 hQ
      have rd3 := rd3.below hbx
      have rd4 := rd4.below hbx
      go_wp2_with fail
      refine Calls.mono (c_rinterS rd3 rd4) ?_
      rintro e w' ⟨A6, c6, rfl, hc6, hm6, rd6, hbx⟩
      have hb := up_trans hb hbx
      have HTW := Lib.hid (tab_up HT.out hb)
      have hP := hP.up hbx hP.lt
      have hQ := hQ.up hbx hQ.lt
      clear p0 p1 p2 p3 q0 q1 q2 q3
      obtain ⟨p0, p1, p2, p3, -⟩ := facts4 hP
      obtain ⟨q0, q1, q2, q3, -⟩ := facts4 hQ
      have rd3 := rd3.below hbx
      have rd4 := rd4.below hbx
      have rd5 := rd5.below hbx
      go_wp2_with fail
      refine Calls.mono (c_sameS rd5 rd6) ?_
      rintro e w' ⟨rfl, hbx⟩
      have hb := up_trans hb hbx
      have HTW := Lib.hid (tab_up HT.out hb)
      have hP := hP.up hbx hP.lt
      have hQ := hQ.up hbx hQ.lt
      clear p0 p1 p2 p3 q0 q1 q2 q3
      obtain ⟨p0, p1, p2, p3, -⟩ := facts4 hP
      obtain ⟨q0, q1, q2, q3, -⟩ := facts4 hQ
      have rd3 := rd3.below hbx
      have rd4 := rd4.below hbx
      clear rd5 rd6 hc5 hc6 hm5 hm6
      go_wp2_with fail
      refine Calls.mono (c_less S T _) ?_
      rintro e w' ⟨rfl, hbx⟩
      have hb := up_trans hb hbx
      have HTW := Lib.hid (tab_up HT.out hb)
      have hP := hP.up hbx hP.lt
      have hQ := hQ.up hbx hQ.lt
      clear p0 p1 p2 p3 q0 q1 q2 q3
      obtain ⟨p0, p1, p2, p3, -⟩ := facts4 hP
      obtain ⟨q0, q1, q2, q3, -⟩ := facts4 hQ
      have rd3 := rd3.below hbx
      have rd4 := rd4.below hbx
      go_wp2_with fail
      refine Calls.mono (c_list (S.les T) _ HTW.out) ?_
      rintro e w' ⟨A5, c5, rfl, hc5, hm5, rd5, hbx⟩
      have hb := up_trans hb hbx
      have HTW := Lib.hid (tab_up HT.out hb)
      have hP := hP.up hbx hP.lt
      have hQ := hQ.up hbx hQ.lt
      clear p0 p1 p2 p3 q0 q1 q2 q3
      obtain ⟨p0, p1, p2, p3, -⟩ := facts4 hP
      obtain ⟨q0, q1, q2, q3, -⟩ := facts4 hQ
      have rd3 := rd3.below hbx
      have rd4 := rd4.below hbx
      go_wp2_with fail
      refine Calls.mono (c_rlessS rd3 rd4) ?_
      rintro e w' ⟨A6, c6, rfl, hc6, hm6, rd6, hbx⟩
      have hb := up_trans hb hbx
      have HTW := Lib.hid (tab_up HT.out hb)
      have hP := hP.up hbx hP.lt
      have hQ := hQ.up hbx hQ.lt
      clear p0 p1 p2 p3 q0 q1 q2 q3
      obtain ⟨p0, p1, p2, p3, -⟩ := facts4 hP
      obtain ⟨q0, q1, q2, q3, -⟩ := facts4 hQ
      have rd3 := rd3.below hbx
      have rd4 := rd4.below hbx
      have rd5 := rd5.below hbx
      go_wp2_with fail
      refine Calls.mono (c_sameS rd5 rd6) ?_
      rintro e w' ⟨rfl, hbx⟩
      have hb := up_trans hb hbx
      have HTW := Lib.hid (tab_up HT.out hb)
      have hP := hP.up hbx hP.lt
      have hQ := hQ.up hbx hQ.lt
      clear p0 p1 p2 p3 q0 q1 q2 q3
      obtain ⟨p0, p1, p2, p3, -⟩ := facts4 hP
      obtain ⟨q0, q1, q2, q3, -⟩ := facts4 hQ
      have rd3 := rd3.below hbx
      have rd4 := rd4.below hbx
      clear rd5 rd6 hc5 hc6 hm5 hm6
      by_cases h0 : (S.les T).ints.length = 0
      · have hsub : S.sub T = true := by unfold S4.sub; simp [h0]
        have HS := Lib.hid hsub
        have hk : (((S.les T).ints.length : Int) == 0) = true := by simp [h0]
        have hkk : (true == true) = true := rfl
        clear hsub h0
        go_wp2_with fail
        refine Calls.mono (c_subB HS.out _) ?_
        rintro e w' ⟨rfl, hbx⟩
        have hb := up_trans hb hbx
        have HTW := Lib.hid (tab_up HT.out hb)
        have hP := hP.up hbx hP.lt
        have hQ := hQ.up hbx hQ.lt
        clear p0 p1 p2 p3 q0 q1 q2 q3
        obtain ⟨p0, p1, p2, p3, -⟩ := facts4 hP
        obtain ⟨q0, q1, q2, q3, -⟩ := facts4 hQ
        have rd3 := rd3.below hbx
        have rd4 := rd4.below hbx
        go_wp2_with fail
        refine Calls.mono (c_rlessS rd3 rd4) ?_
        rintro e w' ⟨A6, c6, rfl, hc6, hm6, rd6, hbx⟩
        have hb := up_trans hb hbx
        have HTW := Lib.hid (tab_up HT.out hb)
        have hP := hP.up hbx hP.lt
        have hQ := hQ.up hbx hQ.lt
        clear p0 p1 p2 p3 q0 q1 q2 q3
        obtain ⟨p0, p1, p2, p3, -⟩ := facts4 hP
        obtain ⟨q0, q1, q2, q3, -⟩ := facts4 hQ
        go_wp2_with fail
        refine Calls.mono (c_alive _ HTW.out) ?_
        rintro e w' ⟨rfl, hbx⟩
        have hb := up_trans hb hbx
        go_wp2
        go_ret
        exact ⟨rfl, hb⟩
      · have hsub : S.sub T = false := by unfold S4.sub; simp [h0]
        have HS := Lib.hid hsub
        have hk : (((S.les T).ints.length : Int) == 0) = false := by simp [h0]
        have hkk : (false == false) = true := rfl
        clear hsub h0
        go_wp2_with fail
        refine Calls.mono (c_subB HS.out _) ?_
        rintro e w' ⟨rfl, hbx⟩
        have hb := up_trans hb hbx
        have HTW := Lib.hid (tab_up HT.out hb)
        have hP := hP.up hbx hP.lt
        have hQ := hQ.up hbx hQ.lt
        clear p0 p1 p2 p3 q0 q1 q2 q3
        obtain ⟨p0, p1, p2, p3, -⟩ := facts4 hP
        obtain ⟨q0, q1, q2, q3, -⟩ := facts4 hQ
        have rd3 := rd3.below hbx
        have rd4 := rd4.below hbx
        go_wp2_with fail
        refine Calls.mono (c_rlessS rd3 rd4) ?_
        rintro e w' ⟨A6, c6, rfl, hc6, hm6, rd6, hbx⟩
        have hb := up_trans hb hbx
        have HTW := Lib.hid (tab_up HT.out hb)
        have hP := hP.up hbx hP.lt
        have hQ := hQ.up hbx hQ.lt
        clear p0 p1 p2 p3 q0 q1 q2 q3
        obtain ⟨p0, p1, p2, p3, -⟩ := facts4 hP
        obtain ⟨q0, q1, q2, q3, -⟩ := facts4 hQ
        go_wp2_with fail
        refine Calls.mono (c_alive _ HTW.out) ?_
        rintro e w' ⟨rfl, hbx⟩
        have hb := up_trans hb hbx
        go_wp2
        go_ret
        exact ⟨rfl, hb⟩
    · have hl2 : decide (60 < L.length) = false := by simpa using hl
      have hm2 : decide (60 < M.length) = true := by simpa using hm
      go_enter Tryd.func4, Tryd.ntmps4
      go_wp2_with fail
      refine Calls.mono (c_alive _ HT.out) ?_
      rintro e w' ⟨rfl, hbx⟩
      go_wp2
      go_ret
      exact ⟨rfl, hbx⟩
  · have hl2 : decide (60 < L.length) = true := by simpa using hl
    go_enter Tryd.func4, Tryd.ntmps4
    go_wp2_with fail
    refine Calls.mono (c_alive _ HT.out) ?_
    rintro e w' ⟨rfl, hbx⟩
    go_wp2
    go_ret
    exact ⟨rfl, hbx⟩
end Go.Proofs.YtknlkkigiommhaaDoor

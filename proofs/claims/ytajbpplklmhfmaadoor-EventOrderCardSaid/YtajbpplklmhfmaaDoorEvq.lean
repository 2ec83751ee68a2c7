/- The law Order, walked. (Written by wip/tools/gen28/genorder.py.) -/
import Derived.Test.YtajbpplklmhfmaaDoorEvp
namespace Go.Proofs.YtajbpplklmhfmaaDoor
open Go.RowKit

theorem ev_three (a b : EV) : (evLess a b = true ∧ ((a.k == b.k) && (a.o == b.o) && (a.h == b.h) && (a.n == b.n)) = false) ∨ (evLess a b = false ∧ evLess b a = true ∧ ((a.k == b.k) && (a.o == b.o) && (a.h == b.h) && (a.n == b.n)) = false) ∨ (evLess a b = false ∧ evLess b a = false ∧ ((a.k == b.k) && (a.o == b.o) && (a.h == b.h) && (a.n == b.n)) = true) := by
  have key : ((a.k == b.k) && (a.o == b.o) && (a.h == b.h) && (a.n == b.n)) = true → a = b := fun h => by
    simp only [Bool.and_eq_true, beq_iff_eq] at h
    exact ev_ext h.1.1.1 h.1.1.2 h.1.2 h.2
  cases h1 : evLess a b
  · cases h2 : evLess b a
    · have e := ev_total (less_f.1 h1) (less_f.1 h2)
      subst e
      exact .inr (.inr ⟨rfl, rfl, by simp⟩)
    · refine .inr (.inl ⟨rfl, rfl, ?_⟩)
      cases h : ((a.k == b.k) && (a.o == b.o) && (a.h == b.h) && (a.n == b.n))
      · rfl
      · have e := key h
        subst e
        exact absurd (less_t.1 h2) (ev_irrefl a)
  · refine .inl ⟨rfl, ?_⟩
    cases h : ((a.k == b.k) && (a.o == b.o) && (a.h == b.h) && (a.n == b.n))
    · rfl
    · have e := key h
      subst e
      exact absurd (less_t.1 h1) (ev_irrefl a)
theorem two_new (w : World) (x y : List Value) (t : TypeId) : Blk ((w.alloc (.cells x.toArray t)).alloc (.cells y.toArray t)).drew w.heap.size x t ∧ Blk ((w.alloc (.cells x.toArray t)).alloc (.cells y.toArray t)).drew (w.heap.size + 1) y t ∧ Below w.heap.size w ((w.alloc (.cells x.toArray t)).alloc (.cells y.toArray t)).drew := by
  have hz : (w.alloc (.cells x.toArray t)).heap.size = w.heap.size + 1 := by simp
  have h2 := Blk.new (w.alloc (.cells x.toArray t)) y t
  rw [hz] at h2
  exact ⟨(Blk.new w x t).alloc (.cells y.toArray t), h2, (((Below.refl _ w).alloc (Nat.le_refl _) _).alloc (by simp) _).drew⟩

set_option maxRecDepth 100000 in
set_option maxHeartbeats 8000000 in
theorem l_order {w : World} {pl : Nat → Prop} {A : Option Addr} {n c : Nat} {L : List EV} (ak ao ah an bk bo bh bn : Int) (hl : L.length = n) (hR : RD w pl 4 A n (L.flatMap evC)) (hv : EnvE w) :
    Calls Tryd.prog 5 #[.slice A n c, .agg #[.int .i64 ak, .int .i64 ao, .int .i64 ah, .int .i64 an], .agg #[.int .i64 bk, .int .i64 bo, .int .i64 bh, .int .i64 bn]] w fun e w' => e = .returned (.bool true) ∧ Below w.heap.size w w' := by
  subst hl
  have HV := Lib.hid hv
  have CAL := Lib.hid (fun W => c_alive W)
  have HBA := (Blk.new w [.int .i64 ak, .int .i64 ao, .int .i64 ah, .int .i64 an] 23).alloc (.cells #[.int .i64 bk, .int .i64 bo, .int .i64 bh, .int .i64 bn] 23)
  have HBB := Blk.new (w.alloc (.cells #[.int .i64 ak, .int .i64 ao, .int .i64 ah, .int .i64 an] 23)) [.int .i64 bk, .int .i64 bo, .int .i64 bh, .int .i64 bn] 23
  have hz : (w.alloc (.cells #[.int .i64 ak, .int .i64 ao, .int .i64 ah, .int .i64 an] 23)).heap.size = w.heap.size + 1 := by simp
  rw [hz] at HBB
  have HU0 := ((Below.refl _ w).alloc (Nat.le_refl _) (.cells #[.int .i64 ak, .int .i64 ao, .int .i64 ah, .int .i64 an] 23)).alloc (by simp) (.cells #[.int .i64 bk, .int .i64 bo, .int .i64 bh, .int .i64 bn] 23)
  clear hv hz
  by_cases h60 : (60 : Int) < (L.length : Nat)
  case pos =>
    have HV1 := HV.out.up HU0
    have HU1 := Lib.hid HU0
    clear HBA HBB HU0 hR
    go_enter Tryd.func5, Tryd.ntmps5
    go_wp2_with fail
    refine (CAL.out _ HV1).mono ?_; rintro e w2 ⟨rfl, hb2⟩
    go_wp2
    go_ret
    exact ⟨rfl, up_trans HU1.out hb2⟩
  case neg =>
    have hL : L.length ≤ 100000 := by omega
    generalize hw1 : (w.alloc (.cells [.int .i64 ak, .int .i64 ao, .int .i64 ah, .int .i64 an].toArray 23)).alloc (.cells [.int .i64 bk, .int .i64 bo, .int .i64 bh, .int .i64 bn].toArray 23) = w1 at HBA HBB HU0
    have HW1 := Lib.hid hw1
    have HA1 := Lib.hid HBA
    have HB1 := Lib.hid HBB
    have HU1 := Lib.hid HU0
    have HR := Lib.hid hR
    have hz1 := HBB.lt
    clear hw1 HBA HBB HU0 hR
    go_enter Tryd.func5, Tryd.ntmps5
    go_upto_region 3 with fail
    have HWx : Hid ((w.alloc (.cells #[.int .i64 ak, .int .i64 ao, .int .i64 ah, .int .i64 an] 23)).alloc (.cells #[.int .i64 bk, .int .i64 bo, .int .i64 bh, .int .i64 bn] 23) = w1) := HW1
    rw [HWx.out]
    have a0 := HA1.out.cell 0 _ rfl
    have a1 := HA1.out.cell 1 _ rfl
    have a2 := HA1.out.cell 2 _ rfl
    have a3 := HA1.out.cell 3 _ rfl
    have b0 := HB1.out.cell 0 _ rfl
    have b1 := HB1.out.cell 1 _ rfl
    have b2 := HB1.out.cell 2 _ rfl
    have b3 := HB1.out.cell 3 _ rfl
    go_cut [7, 8] (fun s7 s8 wx => ∃ p q : Nat, s7 = .pointer (some ⟨p, 0, none⟩) ∧ s8 = .pointer (some ⟨q, 0, none⟩) ∧ Blk wx p [.int .i64 ak, .int .i64 ao, .int .i64 ah, .int .i64 an] 27 ∧ Blk wx q [.int .i64 bk, .int .i64 bo, .int .i64 bh, .int .i64 bn] 27 ∧ Below w1.heap.size w1 wx)
    case first =>
      have F1 := Lib.hid (two_new w1 [.int .i64 ak, .int .i64 ao, .int .i64 ah, .int .i64 an] [.int .i64 bk, .int .i64 bo, .int .i64 bh, .int .i64 bn] 27)
      have F2 := Lib.hid (two_new w1 [.int .i64 bk, .int .i64 bo, .int .i64 bh, .int .i64 bn] [.int .i64 ak, .int .i64 ao, .int .i64 ah, .int .i64 an] 27)
      have q0 := fun o => Lib.cell?_alloc_some o a0
      have q1 := fun o => Lib.cell?_alloc_some o a1
      have q2 := fun o => Lib.cell?_alloc_some o a2
      have q3 := fun o => Lib.cell?_alloc_some o a3
      have r0 := fun o => Lib.cell?_alloc_some o b0
      have r1 := fun o => Lib.cell?_alloc_some o b1
      have r2 := fun o => Lib.cell?_alloc_some o b2
      have r3 := fun o => Lib.cell?_alloc_some o b3
      have s0 := fun o p => Lib.cell?_alloc_some p (q0 o)
      have s1 := fun o p => Lib.cell?_alloc_some p (q1 o)
      have s2 := fun o p => Lib.cell?_alloc_some p (q2 o)
      have s3 := fun o p => Lib.cell?_alloc_some p (q3 o)
      have t0 := fun o p => Lib.cell?_alloc_some p (r0 o)
      have t1 := fun o p => Lib.cell?_alloc_some p (r1 o)
      have t2 := fun o p => Lib.cell?_alloc_some p (r2 o)
      have t3 := fun o p => Lib.cell?_alloc_some p (r3 o)
      go_region
      all_goals
        go_wp2_with fail
        go_meet
        first | exact ⟨_, _, rfl, rfl, F1.out.1, F1.out.2.1, F1.out.2.2⟩ | exact ⟨_, _, rfl, rfl, F2.out.2.1, F2.out.1, F2.out.2.2⟩
    case rest =>
      obtain ⟨p, q, rfl, rfl, HPx, HQx, hbc⟩ := hcut
      have HPc := Lib.hid HPx
      have HQc := Lib.hid HQx
      have HAc := Lib.hid (HA1.out.up hbc HA1.out.lt)
      have HBc := Lib.hid (HB1.out.up hbc HB1.out.lt)
      have HUc := Lib.hid (HU1.out.trans (hbc.mono HU1.out.size))
      have HRc := Lib.hid (HR.out.below HUc.out)
      have hL2 : (evSort L).length ≤ 100000 := by rw [evSort_len]; exact hL
      have CLab : Hid (∀ W, Calls Tryd.prog 18 #[.agg #[.int .i64 ak, .int .i64 ao, .int .i64 ah, .int .i64 an], .agg #[.int .i64 bk, .int .i64 bo, .int .i64 bh, .int .i64 bn]] W fun e w' => e = .returned (.bool (evLess ⟨ak, ao, ah, an⟩ ⟨bk, bo, bh, bn⟩)) ∧ Below W.heap.size W w') := Lib.hid (fun W => c_evless ⟨ak, ao, ah, an⟩ ⟨bk, bo, bh, bn⟩ W)
      have CLba : Hid (∀ W, Calls Tryd.prog 18 #[.agg #[.int .i64 bk, .int .i64 bo, .int .i64 bh, .int .i64 bn], .agg #[.int .i64 ak, .int .i64 ao, .int .i64 ah, .int .i64 an]] W fun e w' => e = .returned (.bool (evLess ⟨bk, bo, bh, bn⟩ ⟨ak, ao, ah, an⟩)) ∧ Below W.heap.size W w') := Lib.hid (fun W => c_evless ⟨bk, bo, bh, bn⟩ ⟨ak, ao, ah, an⟩ W)
      have CRab : Hid (∀ W, Calls Tryd.prog 19 #[.agg #[.int .i64 ak, .int .i64 ao, .int .i64 ah, .int .i64 an], .agg #[.int .i64 bk, .int .i64 bo, .int .i64 bh, .int .i64 bn]] W fun e w' => e = .returned (.bool (evLess ⟨ak, ao, ah, an⟩ ⟨bk, bo, bh, bn⟩)) ∧ Below W.heap.size W w') := Lib.hid (fun W => c_rless ⟨ak, ao, ah, an⟩ ⟨bk, bo, bh, bn⟩ W)
      have H3 := Lib.hid (ev_three ⟨ak, ao, ah, an⟩ ⟨bk, bo, bh, bn⟩)
      have hE := fun W => eql_ev ak ao ah an bk bo bh bn W
      clear HPx HQx hbc a0 a1 a2 a3 b0 b1 b2 b3 HA1 HB1 HU1 HR HWx HW1 hz1
      go_upto_region 4 with fail
      go_cut [51] (fun s51 wx => s51 = .bool false ∧ Below wc.heap.size wc wx)
      case first =>
        rcases H3.out with ⟨h1, h2⟩ | ⟨h1, h3, h2⟩ | ⟨h1, h3, h2⟩
        · rw [h1] at CLab CRab
          change (((ak == bk) && (ao == bo) && (ah == bh) && (an == bn))) = _ at h2
          rw [h2] at hE
          clear h1 h2 H3
          go_wp2_with fail
          refine wp_region_held_drew (S := fun W => Below wc.heap.size wc W) (by kernel_rfl) ((Below.refl _ _).drew) (fun hHeld => ?_)
          refine wpAnyH_take (i := 0) (oi := ?_) (v := ?_) ?_ (by kernel_rfl) (by kernel_rfl) (by kernel_rfl) ?_ (Or.inl ⟨?_, ?_⟩) hHeld ?_
          rotate_left 2
          · conv => lhs; simp only [List.getElem?_toArray, List.getElem?_cons_succ, List.getElem?_cons_zero]
          · exact fun _ _ _ h => h
          · rfl
          · intro W hSw
            go_simp
            try with_reducible rfl
          try simp only [Act.put, List.setIfInBounds_toArray, List.set_cons_zero, List.set_cons_succ]
          refine wpAnyH_take (i := 4) (oi := ?_) (v := ?_) ?_ (by kernel_rfl) (by kernel_rfl) (by kernel_rfl) ?_ (Or.inl ⟨?_, ?_⟩) hHeld ?_
          rotate_left 2
          · conv => lhs; simp only [List.getElem?_toArray, List.getElem?_cons_succ, List.getElem?_cons_zero]
          · exact fun _ _ _ h => h
          · rfl
          · intro W hSw
            go_simp
            try with_reducible rfl
          try simp only [Act.put, List.setIfInBounds_toArray, List.set_cons_zero, List.set_cons_succ]
          refine wpAnyH_ready (rs := [1]) (by kernel_rfl) (by simp) ?_
          refine AllReadyH.cons (o := ?_) ?_ (fun K hK => ?_) AllReadyH.nil
          rotate_left 1
          · conv => lhs; simp only [List.getElem?_toArray, List.getElem?_cons_succ, List.getElem?_cons_zero]
          go_simp
          refine (c_to (HRc.out.below hHeld) hL).mono ?_; rintro e wA ⟨A1, c1, rfl, hA, hbA⟩
          go_wp2_with fail
          refine hK.out _ _ (up_trans hHeld hbA) (fun hHeld => ?_)
          clear hK K
          try simp only [Act.put, List.setIfInBounds_toArray, List.set_cons_zero, List.set_cons_succ]
          refine wpAnyH_ready (rs := [2]) (by kernel_rfl) (by simp) ?_
          refine AllReadyH.cons (o := ?_) ?_ (fun K hK => ?_) AllReadyH.nil
          rotate_left 1
          · conv => lhs; simp only [List.getElem?_toArray, List.getElem?_cons_succ, List.getElem?_cons_zero]
          go_simp
          refine (c_evsort hA hL).mono ?_; rintro e wB ⟨A2, c2, rfl, hB, hbB⟩
          go_wp2_with fail
          refine hK.out _ _ (up_trans hHeld hbB) (fun hHeld => ?_)
          clear hK K
          try simp only [Act.put, List.setIfInBounds_toArray, List.set_cons_zero, List.set_cons_succ]
          refine wpAnyH_ready (rs := [3]) (by kernel_rfl) (by simp) ?_
          refine AllReadyH.cons (o := ?_) ?_ (fun K hK => ?_) AllReadyH.nil
          rotate_left 1
          · conv => lhs; simp only [List.getElem?_toArray, List.getElem?_cons_succ, List.getElem?_cons_zero]
          go_simp
          refine (c_back hB hL2).mono ?_; rintro e wC ⟨A3, c3, rfl, hC, hbC⟩
          go_wp2_with fail
          refine hK.out _ _ (up_trans hHeld hbC) (fun hHeld => ?_)
          clear hK K
          try simp only [Act.put, List.setIfInBounds_toArray, List.set_cons_zero, List.set_cons_succ]
          refine wpAnyH_ready (rs := [5]) (by kernel_rfl) (by simp) ?_
          refine AllReadyH.cons (o := ?_) ?_ (fun K hK => ?_) AllReadyH.nil
          rotate_left 1
          · conv => lhs; simp only [List.getElem?_toArray, List.getElem?_cons_succ, List.getElem?_cons_zero]
          go_simp
          refine (c_rsort (HRc.out.below hHeld) hL).mono ?_; rintro e wD ⟨A4, c4, rfl, hD, hbD⟩
          go_wp2_with fail
          refine hK.out _ _ (up_trans hHeld hbD) (fun hHeld => ?_)
          clear hK K
          try simp only [Act.put, List.setIfInBounds_toArray, List.set_cons_zero, List.set_cons_succ]
          refine wpAnyH_ready (rs := [6]) (by kernel_rfl) (by simp) ?_
          refine AllReadyH.cons (o := ?_) ?_ (fun K hK => ?_) AllReadyH.nil
          rotate_left 1
          · conv => lhs; simp only [List.getElem?_toArray, List.getElem?_cons_succ, List.getElem?_cons_zero]
          go_simp
          refine (c_rsame (hC.below hbD) hD hL2).mono ?_; rintro e wE ⟨rfl, hdr⟩
          have hbE := hdr.below
          go_wp2_with fail
          refine hK.out _ _ (up_trans hHeld hbE) (fun hHeld => ?_)
          clear hK K
          try simp only [Act.put, List.setIfInBounds_toArray, List.set_cons_zero, List.set_cons_succ]
          refine wpAnyH_take (i := 7) (oi := ?_) (v := ?_) ?_ (by kernel_rfl) (by kernel_rfl) (by kernel_rfl) ?_ (Or.inl ⟨?_, ?_⟩) hHeld ?_
          rotate_left 2
          · conv => lhs; simp only [List.getElem?_toArray, List.getElem?_cons_succ, List.getElem?_cons_zero]
          · exact fun _ _ _ h => h
          · rfl
          · intro W hSw
            go_simp
            try with_reducible rfl
          try simp only [Act.put, List.setIfInBounds_toArray, List.set_cons_zero, List.set_cons_succ]
          refine wpAnyH_take (i := 8) (oi := ?_) (v := ?_) ?_ (by kernel_rfl) (by kernel_rfl) (by kernel_rfl) ?_ (Or.inl ⟨?_, ?_⟩) hHeld ?_
          rotate_left 2
          · conv => lhs; simp only [List.getElem?_toArray, List.getElem?_cons_succ, List.getElem?_cons_zero]
          · exact fun _ _ _ h => h
          · rfl
          · intro W hSw
            go_simp
            try with_reducible rfl
          try simp only [Act.put, List.setIfInBounds_toArray, List.set_cons_zero, List.set_cons_succ]
          refine wpAnyH_take (i := 9) (oi := ?_) (v := ?_) ?_ (by kernel_rfl) (by kernel_rfl) (by kernel_rfl) ?_ (Or.inl ⟨?_, ?_⟩) hHeld ?_
          rotate_left 2
          · conv => lhs; simp only [List.getElem?_toArray, List.getElem?_cons_succ, List.getElem?_cons_zero]
          · exact fun _ _ _ h => h
          · rfl
          · intro W hSw
            have hp := HPc.out.up hSw HPc.out.lt
            have p0 := hp.cell 0 _ rfl
            have p1 := hp.cell 1 _ rfl
            have p2 := hp.cell 2 _ rfl
            have p3 := hp.cell 3 _ rfl
            have hq := HQc.out.up hSw HQc.out.lt
            have q0 := hq.cell 0 _ rfl
            have q1 := hq.cell 1 _ rfl
            have q2 := hq.cell 2 _ rfl
            have q3 := hq.cell 3 _ rfl
            have ha := HAc.out.up hSw HAc.out.lt
            have a0 := ha.cell 0 _ rfl
            have a1 := ha.cell 1 _ rfl
            have a2 := ha.cell 2 _ rfl
            have a3 := ha.cell 3 _ rfl
            have hb := HBc.out.up hSw HBc.out.lt
            have b0 := hb.cell 0 _ rfl
            have b1 := hb.cell 1 _ rfl
            have b2 := hb.cell 2 _ rfl
            have b3 := hb.cell 3 _ rfl
            go_simp
            try with_reducible rfl
          try simp only [Act.put, List.setIfInBounds_toArray, List.set_cons_zero, List.set_cons_succ]
          refine wpAnyH_take (i := 10) (oi := ?_) (v := ?_) ?_ (by kernel_rfl) (by kernel_rfl) (by kernel_rfl) ?_ (Or.inl ⟨?_, ?_⟩) hHeld ?_
          rotate_left 2
          · conv => lhs; simp only [List.getElem?_toArray, List.getElem?_cons_succ, List.getElem?_cons_zero]
          · exact fun _ _ _ h => h
          · rfl
          · intro W hSw
            have hp := HPc.out.up hSw HPc.out.lt
            have p0 := hp.cell 0 _ rfl
            have p1 := hp.cell 1 _ rfl
            have p2 := hp.cell 2 _ rfl
            have p3 := hp.cell 3 _ rfl
            have hq := HQc.out.up hSw HQc.out.lt
            have q0 := hq.cell 0 _ rfl
            have q1 := hq.cell 1 _ rfl
            have q2 := hq.cell 2 _ rfl
            have q3 := hq.cell 3 _ rfl
            have ha := HAc.out.up hSw HAc.out.lt
            have a0 := ha.cell 0 _ rfl
            have a1 := ha.cell 1 _ rfl
            have a2 := ha.cell 2 _ rfl
            have a3 := ha.cell 3 _ rfl
            have hb := HBc.out.up hSw HBc.out.lt
            have b0 := hb.cell 0 _ rfl
            have b1 := hb.cell 1 _ rfl
            have b2 := hb.cell 2 _ rfl
            have b3 := hb.cell 3 _ rfl
            go_simp
            try with_reducible rfl
          try simp only [Act.put, List.setIfInBounds_toArray, List.set_cons_zero, List.set_cons_succ]
          refine wpAnyH_take (i := 12) (oi := ?_) (v := ?_) ?_ (by kernel_rfl) (by kernel_rfl) (by kernel_rfl) ?_ (Or.inl ⟨?_, ?_⟩) hHeld ?_
          rotate_left 2
          · conv => lhs; simp only [List.getElem?_toArray, List.getElem?_cons_succ, List.getElem?_cons_zero]
          · exact fun _ _ _ h => h
          · rfl
          · intro W hSw
            have hp := HPc.out.up hSw HPc.out.lt
            have p0 := hp.cell 0 _ rfl
            have p1 := hp.cell 1 _ rfl
            have p2 := hp.cell 2 _ rfl
            have p3 := hp.cell 3 _ rfl
            have hq := HQc.out.up hSw HQc.out.lt
            have q0 := hq.cell 0 _ rfl
            have q1 := hq.cell 1 _ rfl
            have q2 := hq.cell 2 _ rfl
            have q3 := hq.cell 3 _ rfl
            have ha := HAc.out.up hSw HAc.out.lt
            have a0 := ha.cell 0 _ rfl
            have a1 := ha.cell 1 _ rfl
            have a2 := ha.cell 2 _ rfl
            have a3 := ha.cell 3 _ rfl
            have hb := HBc.out.up hSw HBc.out.lt
            have b0 := hb.cell 0 _ rfl
            have b1 := hb.cell 1 _ rfl
            have b2 := hb.cell 2 _ rfl
            have b3 := hb.cell 3 _ rfl
            go_simp
            try with_reducible rfl
          try simp only [Act.put, List.setIfInBounds_toArray, List.set_cons_zero, List.set_cons_succ]
          refine wpAnyH_take (i := 13) (oi := ?_) (v := ?_) ?_ (by kernel_rfl) (by kernel_rfl) (by kernel_rfl) ?_ (Or.inl ⟨?_, ?_⟩) hHeld ?_
          rotate_left 2
          · conv => lhs; simp only [List.getElem?_toArray, List.getElem?_cons_succ, List.getElem?_cons_zero]
          · exact fun _ _ _ h => h
          · rfl
          · intro W hSw
            have hp := HPc.out.up hSw HPc.out.lt
            have p0 := hp.cell 0 _ rfl
            have p1 := hp.cell 1 _ rfl
            have p2 := hp.cell 2 _ rfl
            have p3 := hp.cell 3 _ rfl
            have hq := HQc.out.up hSw HQc.out.lt
            have q0 := hq.cell 0 _ rfl
            have q1 := hq.cell 1 _ rfl
            have q2 := hq.cell 2 _ rfl
            have q3 := hq.cell 3 _ rfl
            have ha := HAc.out.up hSw HAc.out.lt
            have a0 := ha.cell 0 _ rfl
            have a1 := ha.cell 1 _ rfl
            have a2 := ha.cell 2 _ rfl
            have a3 := ha.cell 3 _ rfl
            have hb := HBc.out.up hSw HBc.out.lt
            have b0 := hb.cell 0 _ rfl
            have b1 := hb.cell 1 _ rfl
            have b2 := hb.cell 2 _ rfl
            have b3 := hb.cell 3 _ rfl
            go_simp
            try with_reducible rfl
          try simp only [Act.put, List.setIfInBounds_toArray, List.set_cons_zero, List.set_cons_succ]
          refine wpAnyH_ready (rs := [11]) (by kernel_rfl) (by simp) ?_
          refine AllReadyH.cons (o := ?_) ?_ (fun K hK => ?_) AllReadyH.nil
          rotate_left 1
          · conv => lhs; simp only [List.getElem?_toArray, List.getElem?_cons_succ, List.getElem?_cons_zero]
          go_simp
          refine (CLab.out _).mono ?_; rintro e wF ⟨rfl, hbF⟩
          go_wp2_with fail
          refine hK.out _ _ (up_trans hHeld hbF) (fun hHeld => ?_)
          clear hK K
          try simp only [Act.put, List.setIfInBounds_toArray, List.set_cons_zero, List.set_cons_succ]
          refine wpAnyH_ready (rs := [14]) (by kernel_rfl) (by simp) ?_
          refine AllReadyH.cons (o := ?_) ?_ (fun K hK => ?_) AllReadyH.nil
          rotate_left 1
          · conv => lhs; simp only [List.getElem?_toArray, List.getElem?_cons_succ, List.getElem?_cons_zero]
          go_simp
          refine (CRab.out _).mono ?_; rintro e wG ⟨rfl, hbG⟩
          go_wp2_with fail
          refine hK.out _ _ (up_trans hHeld hbG) (fun hHeld => ?_)
          clear hK K
          try simp only [Act.put, List.setIfInBounds_toArray, List.set_cons_zero, List.set_cons_succ]
          refine wpAnyH_take (i := 15) (oi := ?_) (v := ?_) ?_ (by kernel_rfl) (by kernel_rfl) (by kernel_rfl) ?_ (Or.inl ⟨?_, ?_⟩) hHeld ?_
          rotate_left 2
          · conv => lhs; simp only [List.getElem?_toArray, List.getElem?_cons_succ, List.getElem?_cons_zero]
          · exact fun _ _ _ h => h
          · rfl
          · intro W hSw
            go_simp
            try with_reducible rfl
          try simp only [Act.put, List.setIfInBounds_toArray, List.set_cons_zero, List.set_cons_succ]
          refine wpAnyH_take (i := 16) (oi := ?_) (v := ?_) ?_ (by kernel_rfl) (by kernel_rfl) (by kernel_rfl) ?_ (Or.inl ⟨?_, ?_⟩) hHeld ?_
          rotate_left 2
          · conv => lhs; simp only [List.getElem?_toArray, List.getElem?_cons_succ, List.getElem?_cons_zero]
          · exact fun _ _ _ h => h
          · rfl
          · intro W hSw
            go_simp
            try with_reducible rfl
          try simp only [Act.put, List.setIfInBounds_toArray, List.set_cons_zero, List.set_cons_succ]
          refine wpAnyH_take (i := 17) (oi := ?_) (v := ?_) ?_ (by kernel_rfl) (by kernel_rfl) (by kernel_rfl) ?_ (Or.inl ⟨?_, ?_⟩) hHeld ?_
          rotate_left 2
          · conv => lhs; simp only [List.getElem?_toArray, List.getElem?_cons_succ, List.getElem?_cons_zero]
          · exact fun _ _ _ h => h
          · rfl
          · intro W hSw
            go_simp
            try with_reducible rfl
          try simp only [Act.put, List.setIfInBounds_toArray, List.set_cons_zero, List.set_cons_succ]
          refine wpAnyH_take (i := 18) (oi := ?_) (v := ?_) ?_ (by kernel_rfl) (by kernel_rfl) (by kernel_rfl) ?_ (Or.inl ⟨?_, ?_⟩) hHeld ?_
          rotate_left 2
          · conv => lhs; simp only [List.getElem?_toArray, List.getElem?_cons_succ, List.getElem?_cons_zero]
          · exact fun _ _ _ h => h
          · rfl
          · intro W hSw
            have hp := HPc.out.up hSw HPc.out.lt
            have p0 := hp.cell 0 _ rfl
            have p1 := hp.cell 1 _ rfl
            have p2 := hp.cell 2 _ rfl
            have p3 := hp.cell 3 _ rfl
            have hq := HQc.out.up hSw HQc.out.lt
            have q0 := hq.cell 0 _ rfl
            have q1 := hq.cell 1 _ rfl
            have q2 := hq.cell 2 _ rfl
            have q3 := hq.cell 3 _ rfl
            have ha := HAc.out.up hSw HAc.out.lt
            have a0 := ha.cell 0 _ rfl
            have a1 := ha.cell 1 _ rfl
            have a2 := ha.cell 2 _ rfl
            have a3 := ha.cell 3 _ rfl
            have hb := HBc.out.up hSw HBc.out.lt
            have b0 := hb.cell 0 _ rfl
            have b1 := hb.cell 1 _ rfl
            have b2 := hb.cell 2 _ rfl
            have b3 := hb.cell 3 _ rfl
            go_simp
            try with_reducible rfl
          try simp only [Act.put, List.setIfInBounds_toArray, List.set_cons_zero, List.set_cons_succ]
          refine wpAnyH_take (i := 19) (oi := ?_) (v := ?_) ?_ (by kernel_rfl) (by kernel_rfl) (by kernel_rfl) ?_ (Or.inl ⟨?_, ?_⟩) hHeld ?_
          rotate_left 2
          · conv => lhs; simp only [List.getElem?_toArray, List.getElem?_cons_succ, List.getElem?_cons_zero]
          · exact fun _ _ _ h => h
          · rfl
          · intro W hSw
            have hp := HPc.out.up hSw HPc.out.lt
            have p0 := hp.cell 0 _ rfl
            have p1 := hp.cell 1 _ rfl
            have p2 := hp.cell 2 _ rfl
            have p3 := hp.cell 3 _ rfl
            have hq := HQc.out.up hSw HQc.out.lt
            have q0 := hq.cell 0 _ rfl
            have q1 := hq.cell 1 _ rfl
            have q2 := hq.cell 2 _ rfl
            have q3 := hq.cell 3 _ rfl
            have ha := HAc.out.up hSw HAc.out.lt
            have a0 := ha.cell 0 _ rfl
            have a1 := ha.cell 1 _ rfl
            have a2 := ha.cell 2 _ rfl
            have a3 := ha.cell 3 _ rfl
            have hb := HBc.out.up hSw HBc.out.lt
            have b0 := hb.cell 0 _ rfl
            have b1 := hb.cell 1 _ rfl
            have b2 := hb.cell 2 _ rfl
            have b3 := hb.cell 3 _ rfl
            go_simp
            try with_reducible rfl
          try simp only [Act.put, List.setIfInBounds_toArray, List.set_cons_zero, List.set_cons_succ]
          refine wpAnyH_take (i := 20) (oi := ?_) (v := ?_) ?_ (by kernel_rfl) (by kernel_rfl) (by kernel_rfl) ?_ (Or.inl ⟨?_, ?_⟩) hHeld ?_
          rotate_left 2
          · conv => lhs; simp only [List.getElem?_toArray, List.getElem?_cons_succ, List.getElem?_cons_zero]
          · exact fun _ _ _ h => h
          · rfl
          · intro W hSw
            go_simp
            try with_reducible rfl
          try simp only [Act.put, List.setIfInBounds_toArray, List.set_cons_zero, List.set_cons_succ]
          refine wpAnyH_take (i := 21) (oi := ?_) (v := ?_) ?_ (by kernel_rfl) (by kernel_rfl) (by kernel_rfl) ?_ (Or.inl ⟨?_, ?_⟩) hHeld ?_
          rotate_left 2
          · conv => lhs; simp only [List.getElem?_toArray, List.getElem?_cons_succ, List.getElem?_cons_zero]
          · exact fun _ _ _ h => h
          · rfl
          · intro W hSw
            have hp := HPc.out.up hSw HPc.out.lt
            have p0 := hp.cell 0 _ rfl
            have p1 := hp.cell 1 _ rfl
            have p2 := hp.cell 2 _ rfl
            have p3 := hp.cell 3 _ rfl
            have hq := HQc.out.up hSw HQc.out.lt
            have q0 := hq.cell 0 _ rfl
            have q1 := hq.cell 1 _ rfl
            have q2 := hq.cell 2 _ rfl
            have q3 := hq.cell 3 _ rfl
            have ha := HAc.out.up hSw HAc.out.lt
            have a0 := ha.cell 0 _ rfl
            have a1 := ha.cell 1 _ rfl
            have a2 := ha.cell 2 _ rfl
            have a3 := ha.cell 3 _ rfl
            have hb := HBc.out.up hSw HBc.out.lt
            have b0 := hb.cell 0 _ rfl
            have b1 := hb.cell 1 _ rfl
            have b2 := hb.cell 2 _ rfl
            have b3 := hb.cell 3 _ rfl
            go_simp
            try with_reducible rfl
          try simp only [Act.put, List.setIfInBounds_toArray, List.set_cons_zero, List.set_cons_succ]
          refine wpAnyH_take (i := 22) (oi := ?_) (v := ?_) ?_ (by kernel_rfl) (by kernel_rfl) (by kernel_rfl) ?_ (Or.inl ⟨?_, ?_⟩) hHeld ?_
          rotate_left 2
          · conv => lhs; simp only [List.getElem?_toArray, List.getElem?_cons_succ, List.getElem?_cons_zero]
          · exact fun _ _ _ h => h
          · rfl
          · intro W hSw
            have hp := HPc.out.up hSw HPc.out.lt
            have p0 := hp.cell 0 _ rfl
            have p1 := hp.cell 1 _ rfl
            have p2 := hp.cell 2 _ rfl
            have p3 := hp.cell 3 _ rfl
            have hq := HQc.out.up hSw HQc.out.lt
            have q0 := hq.cell 0 _ rfl
            have q1 := hq.cell 1 _ rfl
            have q2 := hq.cell 2 _ rfl
            have q3 := hq.cell 3 _ rfl
            have ha := HAc.out.up hSw HAc.out.lt
            have a0 := ha.cell 0 _ rfl
            have a1 := ha.cell 1 _ rfl
            have a2 := ha.cell 2 _ rfl
            have a3 := ha.cell 3 _ rfl
            have hb := HBc.out.up hSw HBc.out.lt
            have b0 := hb.cell 0 _ rfl
            have b1 := hb.cell 1 _ rfl
            have b2 := hb.cell 2 _ rfl
            have b3 := hb.cell 3 _ rfl
            go_simp
            try with_reducible rfl
          try simp only [Act.put, List.setIfInBounds_toArray, List.set_cons_zero, List.set_cons_succ]
          refine wpAnyH_ready (rs := [23]) (by kernel_rfl) (by simp) ?_
          refine AllReadyH.cons (o := ?_) ?_ (fun K hK => ?_) AllReadyH.nil
          rotate_left 1
          · conv => lhs; simp only [List.getElem?_toArray, List.getElem?_cons_succ, List.getElem?_cons_zero]
          go_simp
          refine (CLab.out _).mono ?_; rintro e wH ⟨rfl, hbH⟩
          go_wp2_with fail
          refine hK.out _ _ (up_trans hHeld hbH) (fun hHeld => ?_)
          clear hK K
          try simp only [Act.put, List.setIfInBounds_toArray, List.set_cons_zero, List.set_cons_succ]
          refine wpAnyH_take (i := 24) (oi := ?_) (v := ?_) ?_ (by kernel_rfl) (by kernel_rfl) (by kernel_rfl) ?_ (Or.inl ⟨?_, ?_⟩) hHeld ?_
          rotate_left 2
          · conv => lhs; simp only [List.getElem?_toArray, List.getElem?_cons_succ, List.getElem?_cons_zero]
          · exact fun _ _ _ h => h
          · rfl
          · intro W hSw
            go_simp
            try with_reducible rfl
          try simp only [Act.put, List.setIfInBounds_toArray, List.set_cons_zero, List.set_cons_succ]
          refine wpAnyH_take (i := 25) (oi := ?_) (v := ?_) ?_ (by kernel_rfl) (by kernel_rfl) (by kernel_rfl) ?_ (Or.inl ⟨?_, ?_⟩) hHeld ?_
          rotate_left 2
          · conv => lhs; simp only [List.getElem?_toArray, List.getElem?_cons_succ, List.getElem?_cons_zero]
          · exact fun _ _ _ h => h
          · rfl
          · intro W hSw
            go_simp
            try with_reducible rfl
          try simp only [Act.put, List.setIfInBounds_toArray, List.set_cons_zero, List.set_cons_succ]
          refine wpAnyH_take (i := 26) (oi := ?_) (v := undef) ?_ (by kernel_rfl) (by kernel_rfl) (by kernel_rfl) ?_ (Or.inr ⟨?_, rfl⟩) hHeld ?_
          rotate_left 1
          · conv => lhs; simp only [List.getElem?_toArray, List.getElem?_cons_succ, List.getElem?_cons_zero]
          · exact fun _ _ _ h => h
          · rfl
          try simp only [Act.put, List.setIfInBounds_toArray, List.set_cons_zero, List.set_cons_succ]
          refine wpAnyH_take (i := 27) (oi := ?_) (v := undef) ?_ (by kernel_rfl) (by kernel_rfl) (by kernel_rfl) ?_ (Or.inr ⟨?_, rfl⟩) hHeld ?_
          rotate_left 1
          · conv => lhs; simp only [List.getElem?_toArray, List.getElem?_cons_succ, List.getElem?_cons_zero]
          · exact fun _ _ _ h => h
          · rfl
          try simp only [Act.put, List.setIfInBounds_toArray, List.set_cons_zero, List.set_cons_succ]
          refine wpAnyH_take (i := 28) (oi := ?_) (v := undef) ?_ (by kernel_rfl) (by kernel_rfl) (by kernel_rfl) ?_ (Or.inr ⟨?_, rfl⟩) hHeld ?_
          rotate_left 1
          · conv => lhs; simp only [List.getElem?_toArray, List.getElem?_cons_succ, List.getElem?_cons_zero]
          · exact fun _ _ _ h => h
          · rfl
          try simp only [Act.put, List.setIfInBounds_toArray, List.set_cons_zero, List.set_cons_succ]
          refine wpAnyH_take (i := 29) (oi := ?_) (v := undef) ?_ (by kernel_rfl) (by kernel_rfl) (by kernel_rfl) ?_ (Or.inr ⟨?_, rfl⟩) hHeld ?_
          rotate_left 1
          · conv => lhs; simp only [List.getElem?_toArray, List.getElem?_cons_succ, List.getElem?_cons_zero]
          · exact fun _ _ _ h => h
          · rfl
          try simp only [Act.put, List.setIfInBounds_toArray, List.set_cons_zero, List.set_cons_succ]
          refine wpAnyH_take (i := 30) (oi := ?_) (v := ?_) ?_ (by kernel_rfl) (by kernel_rfl) (by kernel_rfl) ?_ (Or.inl ⟨?_, ?_⟩) hHeld ?_
          rotate_left 2
          · conv => lhs; simp only [List.getElem?_toArray, List.getElem?_cons_succ, List.getElem?_cons_zero]
          · exact fun _ _ _ h => h
          · rfl
          · intro W hSw
            go_simp
            try with_reducible rfl
          try simp only [Act.put, List.setIfInBounds_toArray, List.set_cons_zero, List.set_cons_succ]
          refine wpAnyH_take (i := 31) (oi := ?_) (v := ?_) ?_ (by kernel_rfl) (by kernel_rfl) (by kernel_rfl) ?_ (Or.inl ⟨?_, ?_⟩) hHeld ?_
          rotate_left 2
          · conv => lhs; simp only [List.getElem?_toArray, List.getElem?_cons_succ, List.getElem?_cons_zero]
          · exact fun _ _ _ h => h
          · rfl
          · intro W hSw
            go_simp
            try with_reducible rfl
          try simp only [Act.put, List.setIfInBounds_toArray, List.set_cons_zero, List.set_cons_succ]
          refine wpAnyH_take (i := 32) (oi := ?_) (v := ?_) ?_ (by kernel_rfl) (by kernel_rfl) (by kernel_rfl) ?_ (Or.inl ⟨?_, ?_⟩) hHeld ?_
          rotate_left 2
          · conv => lhs; simp only [List.getElem?_toArray, List.getElem?_cons_succ, List.getElem?_cons_zero]
          · exact fun _ _ _ h => h
          · rfl
          · intro W hSw
            go_simp
            try with_reducible rfl
          try simp only [Act.put, List.setIfInBounds_toArray, List.set_cons_zero, List.set_cons_succ]
          refine wpAnyH_done (by kernel_rfl) ?_ _
          go_wp2_with fail
          go_meet
          exact ⟨by simp, hHeld⟩
        · rw [h1] at CLab CRab
          rw [h3] at CLba
          change (((ak == bk) && (ao == bo) && (ah == bh) && (an == bn))) = _ at h2
          rw [h2] at hE
          clear h1 h2 H3 h3
          go_wp2_with fail
          refine wp_region_held_drew (S := fun W => Below wc.heap.size wc W) (by kernel_rfl) ((Below.refl _ _).drew) (fun hHeld => ?_)
          refine wpAnyH_take (i := 0) (oi := ?_) (v := ?_) ?_ (by kernel_rfl) (by kernel_rfl) (by kernel_rfl) ?_ (Or.inl ⟨?_, ?_⟩) hHeld ?_
          rotate_left 2
          · conv => lhs; simp only [List.getElem?_toArray, List.getElem?_cons_succ, List.getElem?_cons_zero]
          · exact fun _ _ _ h => h
          · rfl
          · intro W hSw
            go_simp
            try with_reducible rfl
          try simp only [Act.put, List.setIfInBounds_toArray, List.set_cons_zero, List.set_cons_succ]
          refine wpAnyH_take (i := 4) (oi := ?_) (v := ?_) ?_ (by kernel_rfl) (by kernel_rfl) (by kernel_rfl) ?_ (Or.inl ⟨?_, ?_⟩) hHeld ?_
          rotate_left 2
          · conv => lhs; simp only [List.getElem?_toArray, List.getElem?_cons_succ, List.getElem?_cons_zero]
          · exact fun _ _ _ h => h
          · rfl
          · intro W hSw
            go_simp
            try with_reducible rfl
          try simp only [Act.put, List.setIfInBounds_toArray, List.set_cons_zero, List.set_cons_succ]
          refine wpAnyH_ready (rs := [1]) (by kernel_rfl) (by simp) ?_
          refine AllReadyH.cons (o := ?_) ?_ (fun K hK => ?_) AllReadyH.nil
          rotate_left 1
          · conv => lhs; simp only [List.getElem?_toArray, List.getElem?_cons_succ, List.getElem?_cons_zero]
          go_simp
          refine (c_to (HRc.out.below hHeld) hL).mono ?_; rintro e wA ⟨A1, c1, rfl, hA, hbA⟩
          go_wp2_with fail
          refine hK.out _ _ (up_trans hHeld hbA) (fun hHeld => ?_)
          clear hK K
          try simp only [Act.put, List.setIfInBounds_toArray, List.set_cons_zero, List.set_cons_succ]
          refine wpAnyH_ready (rs := [2]) (by kernel_rfl) (by simp) ?_
          refine AllReadyH.cons (o := ?_) ?_ (fun K hK => ?_) AllReadyH.nil
          rotate_left 1
          · conv => lhs; simp only [List.getElem?_toArray, List.getElem?_cons_succ, List.getElem?_cons_zero]
          go_simp
          refine (c_evsort hA hL).mono ?_; rintro e wB ⟨A2, c2, rfl, hB, hbB⟩
          go_wp2_with fail
          refine hK.out _ _ (up_trans hHeld hbB) (fun hHeld => ?_)
          clear hK K
          try simp only [Act.put, List.setIfInBounds_toArray, List.set_cons_zero, List.set_cons_succ]
          refine wpAnyH_ready (rs := [3]) (by kernel_rfl) (by simp) ?_
          refine AllReadyH.cons (o := ?_) ?_ (fun K hK => ?_) AllReadyH.nil
          rotate_left 1
          · conv => lhs; simp only [List.getElem?_toArray, List.getElem?_cons_succ, List.getElem?_cons_zero]
          go_simp
          refine (c_back hB hL2).mono ?_; rintro e wC ⟨A3, c3, rfl, hC, hbC⟩
          go_wp2_with fail
          refine hK.out _ _ (up_trans hHeld hbC) (fun hHeld => ?_)
          clear hK K
          try simp only [Act.put, List.setIfInBounds_toArray, List.set_cons_zero, List.set_cons_succ]
          refine wpAnyH_ready (rs := [5]) (by kernel_rfl) (by simp) ?_
          refine AllReadyH.cons (o := ?_) ?_ (fun K hK => ?_) AllReadyH.nil
          rotate_left 1
          · conv => lhs; simp only [List.getElem?_toArray, List.getElem?_cons_succ, List.getElem?_cons_zero]
          go_simp
          refine (c_rsort (HRc.out.below hHeld) hL).mono ?_; rintro e wD ⟨A4, c4, rfl, hD, hbD⟩
          go_wp2_with fail
          refine hK.out _ _ (up_trans hHeld hbD) (fun hHeld => ?_)
          clear hK K
          try simp only [Act.put, List.setIfInBounds_toArray, List.set_cons_zero, List.set_cons_succ]
          refine wpAnyH_ready (rs := [6]) (by kernel_rfl) (by simp) ?_
          refine AllReadyH.cons (o := ?_) ?_ (fun K hK => ?_) AllReadyH.nil
          rotate_left 1
          · conv => lhs; simp only [List.getElem?_toArray, List.getElem?_cons_succ, List.getElem?_cons_zero]
          go_simp
          refine (c_rsame (hC.below hbD) hD hL2).mono ?_; rintro e wE ⟨rfl, hdr⟩
          have hbE := hdr.below
          go_wp2_with fail
          refine hK.out _ _ (up_trans hHeld hbE) (fun hHeld => ?_)
          clear hK K
          try simp only [Act.put, List.setIfInBounds_toArray, List.set_cons_zero, List.set_cons_succ]
          refine wpAnyH_take (i := 7) (oi := ?_) (v := ?_) ?_ (by kernel_rfl) (by kernel_rfl) (by kernel_rfl) ?_ (Or.inl ⟨?_, ?_⟩) hHeld ?_
          rotate_left 2
          · conv => lhs; simp only [List.getElem?_toArray, List.getElem?_cons_succ, List.getElem?_cons_zero]
          · exact fun _ _ _ h => h
          · rfl
          · intro W hSw
            go_simp
            try with_reducible rfl
          try simp only [Act.put, List.setIfInBounds_toArray, List.set_cons_zero, List.set_cons_succ]
          refine wpAnyH_take (i := 8) (oi := ?_) (v := ?_) ?_ (by kernel_rfl) (by kernel_rfl) (by kernel_rfl) ?_ (Or.inl ⟨?_, ?_⟩) hHeld ?_
          rotate_left 2
          · conv => lhs; simp only [List.getElem?_toArray, List.getElem?_cons_succ, List.getElem?_cons_zero]
          · exact fun _ _ _ h => h
          · rfl
          · intro W hSw
            go_simp
            try with_reducible rfl
          try simp only [Act.put, List.setIfInBounds_toArray, List.set_cons_zero, List.set_cons_succ]
          refine wpAnyH_take (i := 9) (oi := ?_) (v := ?_) ?_ (by kernel_rfl) (by kernel_rfl) (by kernel_rfl) ?_ (Or.inl ⟨?_, ?_⟩) hHeld ?_
          rotate_left 2
          · conv => lhs; simp only [List.getElem?_toArray, List.getElem?_cons_succ, List.getElem?_cons_zero]
          · exact fun _ _ _ h => h
          · rfl
          · intro W hSw
            have hp := HPc.out.up hSw HPc.out.lt
            have p0 := hp.cell 0 _ rfl
            have p1 := hp.cell 1 _ rfl
            have p2 := hp.cell 2 _ rfl
            have p3 := hp.cell 3 _ rfl
            have hq := HQc.out.up hSw HQc.out.lt
            have q0 := hq.cell 0 _ rfl
            have q1 := hq.cell 1 _ rfl
            have q2 := hq.cell 2 _ rfl
            have q3 := hq.cell 3 _ rfl
            have ha := HAc.out.up hSw HAc.out.lt
            have a0 := ha.cell 0 _ rfl
            have a1 := ha.cell 1 _ rfl
            have a2 := ha.cell 2 _ rfl
            have a3 := ha.cell 3 _ rfl
            have hb := HBc.out.up hSw HBc.out.lt
            have b0 := hb.cell 0 _ rfl
            have b1 := hb.cell 1 _ rfl
            have b2 := hb.cell 2 _ rfl
            have b3 := hb.cell 3 _ rfl
            go_simp
            try with_reducible rfl
          try simp only [Act.put, List.setIfInBounds_toArray, List.set_cons_zero, List.set_cons_succ]
          refine wpAnyH_take (i := 10) (oi := ?_) (v := ?_) ?_ (by kernel_rfl) (by kernel_rfl) (by kernel_rfl) ?_ (Or.inl ⟨?_, ?_⟩) hHeld ?_
          rotate_left 2
          · conv => lhs; simp only [List.getElem?_toArray, List.getElem?_cons_succ, List.getElem?_cons_zero]
          · exact fun _ _ _ h => h
          · rfl
          · intro W hSw
            have hp := HPc.out.up hSw HPc.out.lt
            have p0 := hp.cell 0 _ rfl
            have p1 := hp.cell 1 _ rfl
            have p2 := hp.cell 2 _ rfl
            have p3 := hp.cell 3 _ rfl
            have hq := HQc.out.up hSw HQc.out.lt
            have q0 := hq.cell 0 _ rfl
            have q1 := hq.cell 1 _ rfl
            have q2 := hq.cell 2 _ rfl
            have q3 := hq.cell 3 _ rfl
            have ha := HAc.out.up hSw HAc.out.lt
            have a0 := ha.cell 0 _ rfl
            have a1 := ha.cell 1 _ rfl
            have a2 := ha.cell 2 _ rfl
            have a3 := ha.cell 3 _ rfl
            have hb := HBc.out.up hSw HBc.out.lt
            have b0 := hb.cell 0 _ rfl
            have b1 := hb.cell 1 _ rfl
            have b2 := hb.cell 2 _ rfl
            have b3 := hb.cell 3 _ rfl
            go_simp
            try with_reducible rfl
          try simp only [Act.put, List.setIfInBounds_toArray, List.set_cons_zero, List.set_cons_succ]
          refine wpAnyH_take (i := 12) (oi := ?_) (v := ?_) ?_ (by kernel_rfl) (by kernel_rfl) (by kernel_rfl) ?_ (Or.inl ⟨?_, ?_⟩) hHeld ?_
          rotate_left 2
          · conv => lhs; simp only [List.getElem?_toArray, List.getElem?_cons_succ, List.getElem?_cons_zero]
          · exact fun _ _ _ h => h
          · rfl
          · intro W hSw
            have hp := HPc.out.up hSw HPc.out.lt
            have p0 := hp.cell 0 _ rfl
            have p1 := hp.cell 1 _ rfl
            have p2 := hp.cell 2 _ rfl
            have p3 := hp.cell 3 _ rfl
            have hq := HQc.out.up hSw HQc.out.lt
            have q0 := hq.cell 0 _ rfl
            have q1 := hq.cell 1 _ rfl
            have q2 := hq.cell 2 _ rfl
            have q3 := hq.cell 3 _ rfl
            have ha := HAc.out.up hSw HAc.out.lt
            have a0 := ha.cell 0 _ rfl
            have a1 := ha.cell 1 _ rfl
            have a2 := ha.cell 2 _ rfl
            have a3 := ha.cell 3 _ rfl
            have hb := HBc.out.up hSw HBc.out.lt
            have b0 := hb.cell 0 _ rfl
            have b1 := hb.cell 1 _ rfl
            have b2 := hb.cell 2 _ rfl
            have b3 := hb.cell 3 _ rfl
            go_simp
            try with_reducible rfl
          try simp only [Act.put, List.setIfInBounds_toArray, List.set_cons_zero, List.set_cons_succ]
          refine wpAnyH_take (i := 13) (oi := ?_) (v := ?_) ?_ (by kernel_rfl) (by kernel_rfl) (by kernel_rfl) ?_ (Or.inl ⟨?_, ?_⟩) hHeld ?_
          rotate_left 2
          · conv => lhs; simp only [List.getElem?_toArray, List.getElem?_cons_succ, List.getElem?_cons_zero]
          · exact fun _ _ _ h => h
          · rfl
          · intro W hSw
            have hp := HPc.out.up hSw HPc.out.lt
            have p0 := hp.cell 0 _ rfl
            have p1 := hp.cell 1 _ rfl
            have p2 := hp.cell 2 _ rfl
            have p3 := hp.cell 3 _ rfl
            have hq := HQc.out.up hSw HQc.out.lt
            have q0 := hq.cell 0 _ rfl
            have q1 := hq.cell 1 _ rfl
            have q2 := hq.cell 2 _ rfl
            have q3 := hq.cell 3 _ rfl
            have ha := HAc.out.up hSw HAc.out.lt
            have a0 := ha.cell 0 _ rfl
            have a1 := ha.cell 1 _ rfl
            have a2 := ha.cell 2 _ rfl
            have a3 := ha.cell 3 _ rfl
            have hb := HBc.out.up hSw HBc.out.lt
            have b0 := hb.cell 0 _ rfl
            have b1 := hb.cell 1 _ rfl
            have b2 := hb.cell 2 _ rfl
            have b3 := hb.cell 3 _ rfl
            go_simp
            try with_reducible rfl
          try simp only [Act.put, List.setIfInBounds_toArray, List.set_cons_zero, List.set_cons_succ]
          refine wpAnyH_ready (rs := [11]) (by kernel_rfl) (by simp) ?_
          refine AllReadyH.cons (o := ?_) ?_ (fun K hK => ?_) AllReadyH.nil
          rotate_left 1
          · conv => lhs; simp only [List.getElem?_toArray, List.getElem?_cons_succ, List.getElem?_cons_zero]
          go_simp
          refine (CLab.out _).mono ?_; rintro e wF ⟨rfl, hbF⟩
          go_wp2_with fail
          refine hK.out _ _ (up_trans hHeld hbF) (fun hHeld => ?_)
          clear hK K
          try simp only [Act.put, List.setIfInBounds_toArray, List.set_cons_zero, List.set_cons_succ]
          refine wpAnyH_ready (rs := [14]) (by kernel_rfl) (by simp) ?_
          refine AllReadyH.cons (o := ?_) ?_ (fun K hK => ?_) AllReadyH.nil
          rotate_left 1
          · conv => lhs; simp only [List.getElem?_toArray, List.getElem?_cons_succ, List.getElem?_cons_zero]
          go_simp
          refine (CRab.out _).mono ?_; rintro e wG ⟨rfl, hbG⟩
          go_wp2_with fail
          refine hK.out _ _ (up_trans hHeld hbG) (fun hHeld => ?_)
          clear hK K
          try simp only [Act.put, List.setIfInBounds_toArray, List.set_cons_zero, List.set_cons_succ]
          refine wpAnyH_take (i := 15) (oi := ?_) (v := ?_) ?_ (by kernel_rfl) (by kernel_rfl) (by kernel_rfl) ?_ (Or.inl ⟨?_, ?_⟩) hHeld ?_
          rotate_left 2
          · conv => lhs; simp only [List.getElem?_toArray, List.getElem?_cons_succ, List.getElem?_cons_zero]
          · exact fun _ _ _ h => h
          · rfl
          · intro W hSw
            go_simp
            try with_reducible rfl
          try simp only [Act.put, List.setIfInBounds_toArray, List.set_cons_zero, List.set_cons_succ]
          refine wpAnyH_take (i := 16) (oi := ?_) (v := ?_) ?_ (by kernel_rfl) (by kernel_rfl) (by kernel_rfl) ?_ (Or.inl ⟨?_, ?_⟩) hHeld ?_
          rotate_left 2
          · conv => lhs; simp only [List.getElem?_toArray, List.getElem?_cons_succ, List.getElem?_cons_zero]
          · exact fun _ _ _ h => h
          · rfl
          · intro W hSw
            go_simp
            try with_reducible rfl
          try simp only [Act.put, List.setIfInBounds_toArray, List.set_cons_zero, List.set_cons_succ]
          refine wpAnyH_take (i := 17) (oi := ?_) (v := ?_) ?_ (by kernel_rfl) (by kernel_rfl) (by kernel_rfl) ?_ (Or.inl ⟨?_, ?_⟩) hHeld ?_
          rotate_left 2
          · conv => lhs; simp only [List.getElem?_toArray, List.getElem?_cons_succ, List.getElem?_cons_zero]
          · exact fun _ _ _ h => h
          · rfl
          · intro W hSw
            go_simp
            try with_reducible rfl
          try simp only [Act.put, List.setIfInBounds_toArray, List.set_cons_zero, List.set_cons_succ]
          refine wpAnyH_take (i := 18) (oi := ?_) (v := ?_) ?_ (by kernel_rfl) (by kernel_rfl) (by kernel_rfl) ?_ (Or.inl ⟨?_, ?_⟩) hHeld ?_
          rotate_left 2
          · conv => lhs; simp only [List.getElem?_toArray, List.getElem?_cons_succ, List.getElem?_cons_zero]
          · exact fun _ _ _ h => h
          · rfl
          · intro W hSw
            have hp := HPc.out.up hSw HPc.out.lt
            have p0 := hp.cell 0 _ rfl
            have p1 := hp.cell 1 _ rfl
            have p2 := hp.cell 2 _ rfl
            have p3 := hp.cell 3 _ rfl
            have hq := HQc.out.up hSw HQc.out.lt
            have q0 := hq.cell 0 _ rfl
            have q1 := hq.cell 1 _ rfl
            have q2 := hq.cell 2 _ rfl
            have q3 := hq.cell 3 _ rfl
            have ha := HAc.out.up hSw HAc.out.lt
            have a0 := ha.cell 0 _ rfl
            have a1 := ha.cell 1 _ rfl
            have a2 := ha.cell 2 _ rfl
            have a3 := ha.cell 3 _ rfl
            have hb := HBc.out.up hSw HBc.out.lt
            have b0 := hb.cell 0 _ rfl
            have b1 := hb.cell 1 _ rfl
            have b2 := hb.cell 2 _ rfl
            have b3 := hb.cell 3 _ rfl
            go_simp
            try with_reducible rfl
          try simp only [Act.put, List.setIfInBounds_toArray, List.set_cons_zero, List.set_cons_succ]
          refine wpAnyH_take (i := 19) (oi := ?_) (v := ?_) ?_ (by kernel_rfl) (by kernel_rfl) (by kernel_rfl) ?_ (Or.inl ⟨?_, ?_⟩) hHeld ?_
          rotate_left 2
          · conv => lhs; simp only [List.getElem?_toArray, List.getElem?_cons_succ, List.getElem?_cons_zero]
          · exact fun _ _ _ h => h
          · rfl
          · intro W hSw
            have hp := HPc.out.up hSw HPc.out.lt
            have p0 := hp.cell 0 _ rfl
            have p1 := hp.cell 1 _ rfl
            have p2 := hp.cell 2 _ rfl
            have p3 := hp.cell 3 _ rfl
            have hq := HQc.out.up hSw HQc.out.lt
            have q0 := hq.cell 0 _ rfl
            have q1 := hq.cell 1 _ rfl
            have q2 := hq.cell 2 _ rfl
            have q3 := hq.cell 3 _ rfl
            have ha := HAc.out.up hSw HAc.out.lt
            have a0 := ha.cell 0 _ rfl
            have a1 := ha.cell 1 _ rfl
            have a2 := ha.cell 2 _ rfl
            have a3 := ha.cell 3 _ rfl
            have hb := HBc.out.up hSw HBc.out.lt
            have b0 := hb.cell 0 _ rfl
            have b1 := hb.cell 1 _ rfl
            have b2 := hb.cell 2 _ rfl
            have b3 := hb.cell 3 _ rfl
            go_simp
            try with_reducible rfl
          try simp only [Act.put, List.setIfInBounds_toArray, List.set_cons_zero, List.set_cons_succ]
          refine wpAnyH_take (i := 20) (oi := ?_) (v := ?_) ?_ (by kernel_rfl) (by kernel_rfl) (by kernel_rfl) ?_ (Or.inl ⟨?_, ?_⟩) hHeld ?_
          rotate_left 2
          · conv => lhs; simp only [List.getElem?_toArray, List.getElem?_cons_succ, List.getElem?_cons_zero]
          · exact fun _ _ _ h => h
          · rfl
          · intro W hSw
            go_simp
            try with_reducible rfl
          try simp only [Act.put, List.setIfInBounds_toArray, List.set_cons_zero, List.set_cons_succ]
          refine wpAnyH_take (i := 21) (oi := ?_) (v := ?_) ?_ (by kernel_rfl) (by kernel_rfl) (by kernel_rfl) ?_ (Or.inl ⟨?_, ?_⟩) hHeld ?_
          rotate_left 2
          · conv => lhs; simp only [List.getElem?_toArray, List.getElem?_cons_succ, List.getElem?_cons_zero]
          · exact fun _ _ _ h => h
          · rfl
          · intro W hSw
            have hp := HPc.out.up hSw HPc.out.lt
            have p0 := hp.cell 0 _ rfl
            have p1 := hp.cell 1 _ rfl
            have p2 := hp.cell 2 _ rfl
            have p3 := hp.cell 3 _ rfl
            have hq := HQc.out.up hSw HQc.out.lt
            have q0 := hq.cell 0 _ rfl
            have q1 := hq.cell 1 _ rfl
            have q2 := hq.cell 2 _ rfl
            have q3 := hq.cell 3 _ rfl
            have ha := HAc.out.up hSw HAc.out.lt
            have a0 := ha.cell 0 _ rfl
            have a1 := ha.cell 1 _ rfl
            have a2 := ha.cell 2 _ rfl
            have a3 := ha.cell 3 _ rfl
            have hb := HBc.out.up hSw HBc.out.lt
            have b0 := hb.cell 0 _ rfl
            have b1 := hb.cell 1 _ rfl
            have b2 := hb.cell 2 _ rfl
            have b3 := hb.cell 3 _ rfl
            go_simp
            try with_reducible rfl
          try simp only [Act.put, List.setIfInBounds_toArray, List.set_cons_zero, List.set_cons_succ]
          refine wpAnyH_take (i := 22) (oi := ?_) (v := ?_) ?_ (by kernel_rfl) (by kernel_rfl) (by kernel_rfl) ?_ (Or.inl ⟨?_, ?_⟩) hHeld ?_
          rotate_left 2
          · conv => lhs; simp only [List.getElem?_toArray, List.getElem?_cons_succ, List.getElem?_cons_zero]
          · exact fun _ _ _ h => h
          · rfl
          · intro W hSw
            have hp := HPc.out.up hSw HPc.out.lt
            have p0 := hp.cell 0 _ rfl
            have p1 := hp.cell 1 _ rfl
            have p2 := hp.cell 2 _ rfl
            have p3 := hp.cell 3 _ rfl
            have hq := HQc.out.up hSw HQc.out.lt
            have q0 := hq.cell 0 _ rfl
            have q1 := hq.cell 1 _ rfl
            have q2 := hq.cell 2 _ rfl
            have q3 := hq.cell 3 _ rfl
            have ha := HAc.out.up hSw HAc.out.lt
            have a0 := ha.cell 0 _ rfl
            have a1 := ha.cell 1 _ rfl
            have a2 := ha.cell 2 _ rfl
            have a3 := ha.cell 3 _ rfl
            have hb := HBc.out.up hSw HBc.out.lt
            have b0 := hb.cell 0 _ rfl
            have b1 := hb.cell 1 _ rfl
            have b2 := hb.cell 2 _ rfl
            have b3 := hb.cell 3 _ rfl
            go_simp
            try with_reducible rfl
          try simp only [Act.put, List.setIfInBounds_toArray, List.set_cons_zero, List.set_cons_succ]
          refine wpAnyH_ready (rs := [23]) (by kernel_rfl) (by simp) ?_
          refine AllReadyH.cons (o := ?_) ?_ (fun K hK => ?_) AllReadyH.nil
          rotate_left 1
          · conv => lhs; simp only [List.getElem?_toArray, List.getElem?_cons_succ, List.getElem?_cons_zero]
          go_simp
          refine (CLab.out _).mono ?_; rintro e wH ⟨rfl, hbH⟩
          go_wp2_with fail
          refine hK.out _ _ (up_trans hHeld hbH) (fun hHeld => ?_)
          clear hK K
          try simp only [Act.put, List.setIfInBounds_toArray, List.set_cons_zero, List.set_cons_succ]
          refine wpAnyH_take (i := 24) (oi := ?_) (v := ?_) ?_ (by kernel_rfl) (by kernel_rfl) (by kernel_rfl) ?_ (Or.inl ⟨?_, ?_⟩) hHeld ?_
          rotate_left 2
          · conv => lhs; simp only [List.getElem?_toArray, List.getElem?_cons_succ, List.getElem?_cons_zero]
          · exact fun _ _ _ h => h
          · rfl
          · intro W hSw
            go_simp
            try with_reducible rfl
          try simp only [Act.put, List.setIfInBounds_toArray, List.set_cons_zero, List.set_cons_succ]
          refine wpAnyH_take (i := 25) (oi := ?_) (v := ?_) ?_ (by kernel_rfl) (by kernel_rfl) (by kernel_rfl) ?_ (Or.inl ⟨?_, ?_⟩) hHeld ?_
          rotate_left 2
          · conv => lhs; simp only [List.getElem?_toArray, List.getElem?_cons_succ, List.getElem?_cons_zero]
          · exact fun _ _ _ h => h
          · rfl
          · intro W hSw
            go_simp
            try with_reducible rfl
          try simp only [Act.put, List.setIfInBounds_toArray, List.set_cons_zero, List.set_cons_succ]
          refine wpAnyH_take (i := 26) (oi := ?_) (v := ?_) ?_ (by kernel_rfl) (by kernel_rfl) (by kernel_rfl) ?_ (Or.inl ⟨?_, ?_⟩) hHeld ?_
          rotate_left 2
          · conv => lhs; simp only [List.getElem?_toArray, List.getElem?_cons_succ, List.getElem?_cons_zero]
          · exact fun _ _ _ h => h
          · rfl
          · intro W hSw
            have hp := HPc.out.up hSw HPc.out.lt
            have p0 := hp.cell 0 _ rfl
            have p1 := hp.cell 1 _ rfl
            have p2 := hp.cell 2 _ rfl
            have p3 := hp.cell 3 _ rfl
            have hq := HQc.out.up hSw HQc.out.lt
            have q0 := hq.cell 0 _ rfl
            have q1 := hq.cell 1 _ rfl
            have q2 := hq.cell 2 _ rfl
            have q3 := hq.cell 3 _ rfl
            have ha := HAc.out.up hSw HAc.out.lt
            have a0 := ha.cell 0 _ rfl
            have a1 := ha.cell 1 _ rfl
            have a2 := ha.cell 2 _ rfl
            have a3 := ha.cell 3 _ rfl
            have hb := HBc.out.up hSw HBc.out.lt
            have b0 := hb.cell 0 _ rfl
            have b1 := hb.cell 1 _ rfl
            have b2 := hb.cell 2 _ rfl
            have b3 := hb.cell 3 _ rfl
            go_simp
            try with_reducible rfl
          try simp only [Act.put, List.setIfInBounds_toArray, List.set_cons_zero, List.set_cons_succ]
          refine wpAnyH_take (i := 27) (oi := ?_) (v := ?_) ?_ (by kernel_rfl) (by kernel_rfl) (by kernel_rfl) ?_ (Or.inl ⟨?_, ?_⟩) hHeld ?_
          rotate_left 2
          · conv => lhs; simp only [List.getElem?_toArray, List.getElem?_cons_succ, List.getElem?_cons_zero]
          · exact fun _ _ _ h => h
          · rfl
          · intro W hSw
            have hp := HPc.out.up hSw HPc.out.lt
            have p0 := hp.cell 0 _ rfl
            have p1 := hp.cell 1 _ rfl
            have p2 := hp.cell 2 _ rfl
            have p3 := hp.cell 3 _ rfl
            have hq := HQc.out.up hSw HQc.out.lt
            have q0 := hq.cell 0 _ rfl
            have q1 := hq.cell 1 _ rfl
            have q2 := hq.cell 2 _ rfl
            have q3 := hq.cell 3 _ rfl
            have ha := HAc.out.up hSw HAc.out.lt
            have a0 := ha.cell 0 _ rfl
            have a1 := ha.cell 1 _ rfl
            have a2 := ha.cell 2 _ rfl
            have a3 := ha.cell 3 _ rfl
            have hb := HBc.out.up hSw HBc.out.lt
            have b0 := hb.cell 0 _ rfl
            have b1 := hb.cell 1 _ rfl
            have b2 := hb.cell 2 _ rfl
            have b3 := hb.cell 3 _ rfl
            go_simp
            try with_reducible rfl
          try simp only [Act.put, List.setIfInBounds_toArray, List.set_cons_zero, List.set_cons_succ]
          refine wpAnyH_ready (rs := [28]) (by kernel_rfl) (by simp) ?_
          refine AllReadyH.cons (o := ?_) ?_ (fun K hK => ?_) AllReadyH.nil
          rotate_left 1
          · conv => lhs; simp only [List.getElem?_toArray, List.getElem?_cons_succ, List.getElem?_cons_zero]
          go_simp
          refine (CLba.out _).mono ?_; rintro e wI ⟨rfl, hbI⟩
          go_wp2_with fail
          refine hK.out _ _ (up_trans hHeld hbI) (fun hHeld => ?_)
          clear hK K
          try simp only [Act.put, List.setIfInBounds_toArray, List.set_cons_zero, List.set_cons_succ]
          refine wpAnyH_take (i := 29) (oi := ?_) (v := ?_) ?_ (by kernel_rfl) (by kernel_rfl) (by kernel_rfl) ?_ (Or.inl ⟨?_, ?_⟩) hHeld ?_
          rotate_left 2
          · conv => lhs; simp only [List.getElem?_toArray, List.getElem?_cons_succ, List.getElem?_cons_zero]
          · exact fun _ _ _ h => h
          · rfl
          · intro W hSw
            go_simp
            try with_reducible rfl
          try simp only [Act.put, List.setIfInBounds_toArray, List.set_cons_zero, List.set_cons_succ]
          refine wpAnyH_take (i := 30) (oi := ?_) (v := ?_) ?_ (by kernel_rfl) (by kernel_rfl) (by kernel_rfl) ?_ (Or.inl ⟨?_, ?_⟩) hHeld ?_
          rotate_left 2
          · conv => lhs; simp only [List.getElem?_toArray, List.getElem?_cons_succ, List.getElem?_cons_zero]
          · exact fun _ _ _ h => h
          · rfl
          · intro W hSw
            go_simp
            try with_reducible rfl
          try simp only [Act.put, List.setIfInBounds_toArray, List.set_cons_zero, List.set_cons_succ]
          refine wpAnyH_take (i := 31) (oi := ?_) (v := ?_) ?_ (by kernel_rfl) (by kernel_rfl) (by kernel_rfl) ?_ (Or.inl ⟨?_, ?_⟩) hHeld ?_
          rotate_left 2
          · conv => lhs; simp only [List.getElem?_toArray, List.getElem?_cons_succ, List.getElem?_cons_zero]
          · exact fun _ _ _ h => h
          · rfl
          · intro W hSw
            go_simp
            try with_reducible rfl
          try simp only [Act.put, List.setIfInBounds_toArray, List.set_cons_zero, List.set_cons_succ]
          refine wpAnyH_take (i := 32) (oi := ?_) (v := ?_) ?_ (by kernel_rfl) (by kernel_rfl) (by kernel_rfl) ?_ (Or.inl ⟨?_, ?_⟩) hHeld ?_
          rotate_left 2
          · conv => lhs; simp only [List.getElem?_toArray, List.getElem?_cons_succ, List.getElem?_cons_zero]
          · exact fun _ _ _ h => h
          · rfl
          · intro W hSw
            go_simp
            try with_reducible rfl
          try simp only [Act.put, List.setIfInBounds_toArray, List.set_cons_zero, List.set_cons_succ]
          refine wpAnyH_done (by kernel_rfl) ?_ _
          go_wp2_with fail
          go_meet
          exact ⟨by simp, hHeld⟩
        · rw [h1] at CLab CRab
          rw [h3] at CLba
          change (((ak == bk) && (ao == bo) && (ah == bh) && (an == bn))) = _ at h2
          rw [h2] at hE
          clear h1 h2 H3 h3
          go_wp2_with fail
          refine wp_region_held_drew (S := fun W => Below wc.heap.size wc W) (by kernel_rfl) ((Below.refl _ _).drew) (fun hHeld => ?_)
          refine wpAnyH_take (i := 0) (oi := ?_) (v := ?_) ?_ (by kernel_rfl) (by kernel_rfl) (by kernel_rfl) ?_ (Or.inl ⟨?_, ?_⟩) hHeld ?_
          rotate_left 2
          · conv => lhs; simp only [List.getElem?_toArray, List.getElem?_cons_succ, List.getElem?_cons_zero]
          · exact fun _ _ _ h => h
          · rfl
          · intro W hSw
            go_simp
            try with_reducible rfl
          try simp only [Act.put, List.setIfInBounds_toArray, List.set_cons_zero, List.set_cons_succ]
          refine wpAnyH_take (i := 4) (oi := ?_) (v := ?_) ?_ (by kernel_rfl) (by kernel_rfl) (by kernel_rfl) ?_ (Or.inl ⟨?_, ?_⟩) hHeld ?_
          rotate_left 2
          · conv => lhs; simp only [List.getElem?_toArray, List.getElem?_cons_succ, List.getElem?_cons_zero]
          · exact fun _ _ _ h => h
          · rfl
          · intro W hSw
            go_simp
            try with_reducible rfl
          try simp only [Act.put, List.setIfInBounds_toArray, List.set_cons_zero, List.set_cons_succ]
          refine wpAnyH_ready (rs := [1]) (by kernel_rfl) (by simp) ?_
          refine AllReadyH.cons (o := ?_) ?_ (fun K hK => ?_) AllReadyH.nil
          rotate_left 1
          · conv => lhs; simp only [List.getElem?_toArray, List.getElem?_cons_succ, List.getElem?_cons_zero]
          go_simp
          refine (c_to (HRc.out.below hHeld) hL).mono ?_; rintro e wA ⟨A1, c1, rfl, hA, hbA⟩
          go_wp2_with fail
          refine hK.out _ _ (up_trans hHeld hbA) (fun hHeld => ?_)
          clear hK K
          try simp only [Act.put, List.setIfInBounds_toArray, List.set_cons_zero, List.set_cons_succ]
          refine wpAnyH_ready (rs := [2]) (by kernel_rfl) (by simp) ?_
          refine AllReadyH.cons (o := ?_) ?_ (fun K hK => ?_) AllReadyH.nil
          rotate_left 1
          · conv => lhs; simp only [List.getElem?_toArray, List.getElem?_cons_succ, List.getElem?_cons_zero]
          go_simp
          refine (c_evsort hA hL).mono ?_; rintro e wB ⟨A2, c2, rfl, hB, hbB⟩
          go_wp2_with fail
          refine hK.out _ _ (up_trans hHeld hbB) (fun hHeld => ?_)
          clear hK K
          try simp only [Act.put, List.setIfInBounds_toArray, List.set_cons_zero, List.set_cons_succ]
          refine wpAnyH_ready (rs := [3]) (by kernel_rfl) (by simp) ?_
          refine AllReadyH.cons (o := ?_) ?_ (fun K hK => ?_) AllReadyH.nil
          rotate_left 1
          · conv => lhs; simp only [List.getElem?_toArray, List.getElem?_cons_succ, List.getElem?_cons_zero]
          go_simp
          refine (c_back hB hL2).mono ?_; rintro e wC ⟨A3, c3, rfl, hC, hbC⟩
          go_wp2_with fail
          refine hK.out _ _ (up_trans hHeld hbC) (fun hHeld => ?_)
          clear hK K
          try simp only [Act.put, List.setIfInBounds_toArray, List.set_cons_zero, List.set_cons_succ]
          refine wpAnyH_ready (rs := [5]) (by kernel_rfl) (by simp) ?_
          refine AllReadyH.cons (o := ?_) ?_ (fun K hK => ?_) AllReadyH.nil
          rotate_left 1
          · conv => lhs; simp only [List.getElem?_toArray, List.getElem?_cons_succ, List.getElem?_cons_zero]
          go_simp
          refine (c_rsort (HRc.out.below hHeld) hL).mono ?_; rintro e wD ⟨A4, c4, rfl, hD, hbD⟩
          go_wp2_with fail
          refine hK.out _ _ (up_trans hHeld hbD) (fun hHeld => ?_)
          clear hK K
          try simp only [Act.put, List.setIfInBounds_toArray, List.set_cons_zero, List.set_cons_succ]
          refine wpAnyH_ready (rs := [6]) (by kernel_rfl) (by simp) ?_
          refine AllReadyH.cons (o := ?_) ?_ (fun K hK => ?_) AllReadyH.nil
          rotate_left 1
          · conv => lhs; simp only [List.getElem?_toArray, List.getElem?_cons_succ, List.getElem?_cons_zero]
          go_simp
          refine (c_rsame (hC.below hbD) hD hL2).mono ?_; rintro e wE ⟨rfl, hdr⟩
          have hbE := hdr.below
          go_wp2_with fail
          refine hK.out _ _ (up_trans hHeld hbE) (fun hHeld => ?_)
          clear hK K
          try simp only [Act.put, List.setIfInBounds_toArray, List.set_cons_zero, List.set_cons_succ]
          refine wpAnyH_take (i := 7) (oi := ?_) (v := ?_) ?_ (by kernel_rfl) (by kernel_rfl) (by kernel_rfl) ?_ (Or.inl ⟨?_, ?_⟩) hHeld ?_
          rotate_left 2
          · conv => lhs; simp only [List.getElem?_toArray, List.getElem?_cons_succ, List.getElem?_cons_zero]
          · exact fun _ _ _ h => h
          · rfl
          · intro W hSw
            go_simp
            try with_reducible rfl
          try simp only [Act.put, List.setIfInBounds_toArray, List.set_cons_zero, List.set_cons_succ]
          refine wpAnyH_take (i := 8) (oi := ?_) (v := ?_) ?_ (by kernel_rfl) (by kernel_rfl) (by kernel_rfl) ?_ (Or.inl ⟨?_, ?_⟩) hHeld ?_
          rotate_left 2
          · conv => lhs; simp only [List.getElem?_toArray, List.getElem?_cons_succ, List.getElem?_cons_zero]
          · exact fun _ _ _ h => h
          · rfl
          · intro W hSw
            go_simp
            try with_reducible rfl
          try simp only [Act.put, List.setIfInBounds_toArray, List.set_cons_zero, List.set_cons_succ]
          refine wpAnyH_take (i := 9) (oi := ?_) (v := ?_) ?_ (by kernel_rfl) (by kernel_rfl) (by kernel_rfl) ?_ (Or.inl ⟨?_, ?_⟩) hHeld ?_
          rotate_left 2
          · conv => lhs; simp only [List.getElem?_toArray, List.getElem?_cons_succ, List.getElem?_cons_zero]
          · exact fun _ _ _ h => h
          · rfl
          · intro W hSw
            have hp := HPc.out.up hSw HPc.out.lt
            have p0 := hp.cell 0 _ rfl
            have p1 := hp.cell 1 _ rfl
            have p2 := hp.cell 2 _ rfl
            have p3 := hp.cell 3 _ rfl
            have hq := HQc.out.up hSw HQc.out.lt
            have q0 := hq.cell 0 _ rfl
            have q1 := hq.cell 1 _ rfl
            have q2 := hq.cell 2 _ rfl
            have q3 := hq.cell 3 _ rfl
            have ha := HAc.out.up hSw HAc.out.lt
            have a0 := ha.cell 0 _ rfl
            have a1 := ha.cell 1 _ rfl
            have a2 := ha.cell 2 _ rfl
            have a3 := ha.cell 3 _ rfl
            have hb := HBc.out.up hSw HBc.out.lt
            have b0 := hb.cell 0 _ rfl
            have b1 := hb.cell 1 _ rfl
            have b2 := hb.cell 2 _ rfl
            have b3 := hb.cell 3 _ rfl
            go_simp
            try with_reducible rfl
          try simp only [Act.put, List.setIfInBounds_toArray, List.set_cons_zero, List.set_cons_succ]
          refine wpAnyH_take (i := 10) (oi := ?_) (v := ?_) ?_ (by kernel_rfl) (by kernel_rfl) (by kernel_rfl) ?_ (Or.inl ⟨?_, ?_⟩) hHeld ?_
          rotate_left 2
          · conv => lhs; simp only [List.getElem?_toArray, List.getElem?_cons_succ, List.getElem?_cons_zero]
          · exact fun _ _ _ h => h
          · rfl
          · intro W hSw
            have hp := HPc.out.up hSw HPc.out.lt
            have p0 := hp.cell 0 _ rfl
            have p1 := hp.cell 1 _ rfl
            have p2 := hp.cell 2 _ rfl
            have p3 := hp.cell 3 _ rfl
            have hq := HQc.out.up hSw HQc.out.lt
            have q0 := hq.cell 0 _ rfl
            have q1 := hq.cell 1 _ rfl
            have q2 := hq.cell 2 _ rfl
            have q3 := hq.cell 3 _ rfl
            have ha := HAc.out.up hSw HAc.out.lt
            have a0 := ha.cell 0 _ rfl
            have a1 := ha.cell 1 _ rfl
            have a2 := ha.cell 2 _ rfl
            have a3 := ha.cell 3 _ rfl
            have hb := HBc.out.up hSw HBc.out.lt
            have b0 := hb.cell 0 _ rfl
            have b1 := hb.cell 1 _ rfl
            have b2 := hb.cell 2 _ rfl
            have b3 := hb.cell 3 _ rfl
            go_simp
            try with_reducible rfl
          try simp only [Act.put, List.setIfInBounds_toArray, List.set_cons_zero, List.set_cons_succ]
          refine wpAnyH_take (i := 12) (oi := ?_) (v := ?_) ?_ (by kernel_rfl) (by kernel_rfl) (by kernel_rfl) ?_ (Or.inl ⟨?_, ?_⟩) hHeld ?_
          rotate_left 2
          · conv => lhs; simp only [List.getElem?_toArray, List.getElem?_cons_succ, List.getElem?_cons_zero]
          · exact fun _ _ _ h => h
          · rfl
          · intro W hSw
            have hp := HPc.out.up hSw HPc.out.lt
            have p0 := hp.cell 0 _ rfl
            have p1 := hp.cell 1 _ rfl
            have p2 := hp.cell 2 _ rfl
            have p3 := hp.cell 3 _ rfl
            have hq := HQc.out.up hSw HQc.out.lt
            have q0 := hq.cell 0 _ rfl
            have q1 := hq.cell 1 _ rfl
            have q2 := hq.cell 2 _ rfl
            have q3 := hq.cell 3 _ rfl
            have ha := HAc.out.up hSw HAc.out.lt
            have a0 := ha.cell 0 _ rfl
            have a1 := ha.cell 1 _ rfl
            have a2 := ha.cell 2 _ rfl
            have a3 := ha.cell 3 _ rfl
            have hb := HBc.out.up hSw HBc.out.lt
            have b0 := hb.cell 0 _ rfl
            have b1 := hb.cell 1 _ rfl
            have b2 := hb.cell 2 _ rfl
            have b3 := hb.cell 3 _ rfl
            go_simp
            try with_reducible rfl
          try simp only [Act.put, List.setIfInBounds_toArray, List.set_cons_zero, List.set_cons_succ]
          refine wpAnyH_take (i := 13) (oi := ?_) (v := ?_) ?_ (by kernel_rfl) (by kernel_rfl) (by kernel_rfl) ?_ (Or.inl ⟨?_, ?_⟩) hHeld ?_
          rotate_left 2
          · conv => lhs; simp only [List.getElem?_toArray, List.getElem?_cons_succ, List.getElem?_cons_zero]
          · exact fun _ _ _ h => h
          · rfl
          · intro W hSw
            have hp := HPc.out.up hSw HPc.out.lt
            have p0 := hp.cell 0 _ rfl
            have p1 := hp.cell 1 _ rfl
            have p2 := hp.cell 2 _ rfl
            have p3 := hp.cell 3 _ rfl
            have hq := HQc.out.up hSw HQc.out.lt
            have q0 := hq.cell 0 _ rfl
            have q1 := hq.cell 1 _ rfl
            have q2 := hq.cell 2 _ rfl
            have q3 := hq.cell 3 _ rfl
            have ha := HAc.out.up hSw HAc.out.lt
            have a0 := ha.cell 0 _ rfl
            have a1 := ha.cell 1 _ rfl
            have a2 := ha.cell 2 _ rfl
            have a3 := ha.cell 3 _ rfl
            have hb := HBc.out.up hSw HBc.out.lt
            have b0 := hb.cell 0 _ rfl
            have b1 := hb.cell 1 _ rfl
            have b2 := hb.cell 2 _ rfl
            have b3 := hb.cell 3 _ rfl
            go_simp
            try with_reducible rfl
          try simp only [Act.put, List.setIfInBounds_toArray, List.set_cons_zero, List.set_cons_succ]
          refine wpAnyH_ready (rs := [11]) (by kernel_rfl) (by simp) ?_
          refine AllReadyH.cons (o := ?_) ?_ (fun K hK => ?_) AllReadyH.nil
          rotate_left 1
          · conv => lhs; simp only [List.getElem?_toArray, List.getElem?_cons_succ, List.getElem?_cons_zero]
          go_simp
          refine (CLab.out _).mono ?_; rintro e wF ⟨rfl, hbF⟩
          go_wp2_with fail
          refine hK.out _ _ (up_trans hHeld hbF) (fun hHeld => ?_)
          clear hK K
          try simp only [Act.put, List.setIfInBounds_toArray, List.set_cons_zero, List.set_cons_succ]
          refine wpAnyH_ready (rs := [14]) (by kernel_rfl) (by simp) ?_
          refine AllReadyH.cons (o := ?_) ?_ (fun K hK => ?_) AllReadyH.nil
          rotate_left 1
          · conv => lhs; simp only [List.getElem?_toArray, List.getElem?_cons_succ, List.getElem?_cons_zero]
          go_simp
          refine (CRab.out _).mono ?_; rintro e wG ⟨rfl, hbG⟩
          go_wp2_with fail
          refine hK.out _ _ (up_trans hHeld hbG) (fun hHeld => ?_)
          clear hK K
          try simp only [Act.put, List.setIfInBounds_toArray, List.set_cons_zero, List.set_cons_succ]
          refine wpAnyH_take (i := 15) (oi := ?_) (v := ?_) ?_ (by kernel_rfl) (by kernel_rfl) (by kernel_rfl) ?_ (Or.inl ⟨?_, ?_⟩) hHeld ?_
          rotate_left 2
          · conv => lhs; simp only [List.getElem?_toArray, List.getElem?_cons_succ, List.getElem?_cons_zero]
          · exact fun _ _ _ h => h
          · rfl
          · intro W hSw
            go_simp
            try with_reducible rfl
          try simp only [Act.put, List.setIfInBounds_toArray, List.set_cons_zero, List.set_cons_succ]
          refine wpAnyH_take (i := 16) (oi := ?_) (v := ?_) ?_ (by kernel_rfl) (by kernel_rfl) (by kernel_rfl) ?_ (Or.inl ⟨?_, ?_⟩) hHeld ?_
          rotate_left 2
          · conv => lhs; simp only [List.getElem?_toArray, List.getElem?_cons_succ, List.getElem?_cons_zero]
          · exact fun _ _ _ h => h
          · rfl
          · intro W hSw
            go_simp
            try with_reducible rfl
          try simp only [Act.put, List.setIfInBounds_toArray, List.set_cons_zero, List.set_cons_succ]
          refine wpAnyH_take (i := 17) (oi := ?_) (v := ?_) ?_ (by kernel_rfl) (by kernel_rfl) (by kernel_rfl) ?_ (Or.inl ⟨?_, ?_⟩) hHeld ?_
          rotate_left 2
          · conv => lhs; simp only [List.getElem?_toArray, List.getElem?_cons_succ, List.getElem?_cons_zero]
          · exact fun _ _ _ h => h
          · rfl
          · intro W hSw
            go_simp
            try with_reducible rfl
          try simp only [Act.put, List.setIfInBounds_toArray, List.set_cons_zero, List.set_cons_succ]
          refine wpAnyH_take (i := 18) (oi := ?_) (v := ?_) ?_ (by kernel_rfl) (by kernel_rfl) (by kernel_rfl) ?_ (Or.inl ⟨?_, ?_⟩) hHeld ?_
          rotate_left 2
          · conv => lhs; simp only [List.getElem?_toArray, List.getElem?_cons_succ, List.getElem?_cons_zero]
          · exact fun _ _ _ h => h
          · rfl
          · intro W hSw
            have hp := HPc.out.up hSw HPc.out.lt
            have p0 := hp.cell 0 _ rfl
            have p1 := hp.cell 1 _ rfl
            have p2 := hp.cell 2 _ rfl
            have p3 := hp.cell 3 _ rfl
            have hq := HQc.out.up hSw HQc.out.lt
            have q0 := hq.cell 0 _ rfl
            have q1 := hq.cell 1 _ rfl
            have q2 := hq.cell 2 _ rfl
            have q3 := hq.cell 3 _ rfl
            have ha := HAc.out.up hSw HAc.out.lt
            have a0 := ha.cell 0 _ rfl
            have a1 := ha.cell 1 _ rfl
            have a2 := ha.cell 2 _ rfl
            have a3 := ha.cell 3 _ rfl
            have hb := HBc.out.up hSw HBc.out.lt
            have b0 := hb.cell 0 _ rfl
            have b1 := hb.cell 1 _ rfl
            have b2 := hb.cell 2 _ rfl
            have b3 := hb.cell 3 _ rfl
            go_simp
            try with_reducible rfl
          try simp only [Act.put, List.setIfInBounds_toArray, List.set_cons_zero, List.set_cons_succ]
          refine wpAnyH_take (i := 19) (oi := ?_) (v := ?_) ?_ (by kernel_rfl) (by kernel_rfl) (by kernel_rfl) ?_ (Or.inl ⟨?_, ?_⟩) hHeld ?_
          rotate_left 2
          · conv => lhs; simp only [List.getElem?_toArray, List.getElem?_cons_succ, List.getElem?_cons_zero]
          · exact fun _ _ _ h => h
          · rfl
          · intro W hSw
            have hp := HPc.out.up hSw HPc.out.lt
            have p0 := hp.cell 0 _ rfl
            have p1 := hp.cell 1 _ rfl
            have p2 := hp.cell 2 _ rfl
            have p3 := hp.cell 3 _ rfl
            have hq := HQc.out.up hSw HQc.out.lt
            have q0 := hq.cell 0 _ rfl
            have q1 := hq.cell 1 _ rfl
            have q2 := hq.cell 2 _ rfl
            have q3 := hq.cell 3 _ rfl
            have ha := HAc.out.up hSw HAc.out.lt
            have a0 := ha.cell 0 _ rfl
            have a1 := ha.cell 1 _ rfl
            have a2 := ha.cell 2 _ rfl
            have a3 := ha.cell 3 _ rfl
            have hb := HBc.out.up hSw HBc.out.lt
            have b0 := hb.cell 0 _ rfl
            have b1 := hb.cell 1 _ rfl
            have b2 := hb.cell 2 _ rfl
            have b3 := hb.cell 3 _ rfl
            go_simp
            try with_reducible rfl
          try simp only [Act.put, List.setIfInBounds_toArray, List.set_cons_zero, List.set_cons_succ]
          refine wpAnyH_take (i := 20) (oi := ?_) (v := ?_) ?_ (by kernel_rfl) (by kernel_rfl) (by kernel_rfl) ?_ (Or.inl ⟨?_, ?_⟩) hHeld ?_
          rotate_left 2
          · conv => lhs; simp only [List.getElem?_toArray, List.getElem?_cons_succ, List.getElem?_cons_zero]
          · exact fun _ _ _ h => h
          · rfl
          · intro W hSw
            go_simp
            try with_reducible rfl
          try simp only [Act.put, List.setIfInBounds_toArray, List.set_cons_zero, List.set_cons_succ]
          refine wpAnyH_take (i := 21) (oi := ?_) (v := ?_) ?_ (by kernel_rfl) (by kernel_rfl) (by kernel_rfl) ?_ (Or.inl ⟨?_, ?_⟩) hHeld ?_
          rotate_left 2
          · conv => lhs; simp only [List.getElem?_toArray, List.getElem?_cons_succ, List.getElem?_cons_zero]
          · exact fun _ _ _ h => h
          · rfl
          · intro W hSw
            have hp := HPc.out.up hSw HPc.out.lt
            have p0 := hp.cell 0 _ rfl
            have p1 := hp.cell 1 _ rfl
            have p2 := hp.cell 2 _ rfl
            have p3 := hp.cell 3 _ rfl
            have hq := HQc.out.up hSw HQc.out.lt
            have q0 := hq.cell 0 _ rfl
            have q1 := hq.cell 1 _ rfl
            have q2 := hq.cell 2 _ rfl
            have q3 := hq.cell 3 _ rfl
            have ha := HAc.out.up hSw HAc.out.lt
            have a0 := ha.cell 0 _ rfl
            have a1 := ha.cell 1 _ rfl
            have a2 := ha.cell 2 _ rfl
            have a3 := ha.cell 3 _ rfl
            have hb := HBc.out.up hSw HBc.out.lt
            have b0 := hb.cell 0 _ rfl
            have b1 := hb.cell 1 _ rfl
            have b2 := hb.cell 2 _ rfl
            have b3 := hb.cell 3 _ rfl
            go_simp
            try with_reducible rfl
          try simp only [Act.put, List.setIfInBounds_toArray, List.set_cons_zero, List.set_cons_succ]
          refine wpAnyH_take (i := 22) (oi := ?_) (v := ?_) ?_ (by kernel_rfl) (by kernel_rfl) (by kernel_rfl) ?_ (Or.inl ⟨?_, ?_⟩) hHeld ?_
          rotate_left 2
          · conv => lhs; simp only [List.getElem?_toArray, List.getElem?_cons_succ, List.getElem?_cons_zero]
          · exact fun _ _ _ h => h
          · rfl
          · intro W hSw
            have hp := HPc.out.up hSw HPc.out.lt
            have p0 := hp.cell 0 _ rfl
            have p1 := hp.cell 1 _ rfl
            have p2 := hp.cell 2 _ rfl
            have p3 := hp.cell 3 _ rfl
            have hq := HQc.out.up hSw HQc.out.lt
            have q0 := hq.cell 0 _ rfl
            have q1 := hq.cell 1 _ rfl
            have q2 := hq.cell 2 _ rfl
            have q3 := hq.cell 3 _ rfl
            have ha := HAc.out.up hSw HAc.out.lt
            have a0 := ha.cell 0 _ rfl
            have a1 := ha.cell 1 _ rfl
            have a2 := ha.cell 2 _ rfl
            have a3 := ha.cell 3 _ rfl
            have hb := HBc.out.up hSw HBc.out.lt
            have b0 := hb.cell 0 _ rfl
            have b1 := hb.cell 1 _ rfl
            have b2 := hb.cell 2 _ rfl
            have b3 := hb.cell 3 _ rfl
            go_simp
            try with_reducible rfl
          try simp only [Act.put, List.setIfInBounds_toArray, List.set_cons_zero, List.set_cons_succ]
          refine wpAnyH_ready (rs := [23]) (by kernel_rfl) (by simp) ?_
          refine AllReadyH.cons (o := ?_) ?_ (fun K hK => ?_) AllReadyH.nil
          rotate_left 1
          · conv => lhs; simp only [List.getElem?_toArray, List.getElem?_cons_succ, List.getElem?_cons_zero]
          go_simp
          refine (CLab.out _).mono ?_; rintro e wH ⟨rfl, hbH⟩
          go_wp2_with fail
          refine hK.out _ _ (up_trans hHeld hbH) (fun hHeld => ?_)
          clear hK K
          try simp only [Act.put, List.setIfInBounds_toArray, List.set_cons_zero, List.set_cons_succ]
          refine wpAnyH_take (i := 24) (oi := ?_) (v := ?_) ?_ (by kernel_rfl) (by kernel_rfl) (by kernel_rfl) ?_ (Or.inl ⟨?_, ?_⟩) hHeld ?_
          rotate_left 2
          · conv => lhs; simp only [List.getElem?_toArray, List.getElem?_cons_succ, List.getElem?_cons_zero]
          · exact fun _ _ _ h => h
          · rfl
          · intro W hSw
            go_simp
            try with_reducible rfl
          try simp only [Act.put, List.setIfInBounds_toArray, List.set_cons_zero, List.set_cons_succ]
          refine wpAnyH_take (i := 25) (oi := ?_) (v := ?_) ?_ (by kernel_rfl) (by kernel_rfl) (by kernel_rfl) ?_ (Or.inl ⟨?_, ?_⟩) hHeld ?_
          rotate_left 2
          · conv => lhs; simp only [List.getElem?_toArray, List.getElem?_cons_succ, List.getElem?_cons_zero]
          · exact fun _ _ _ h => h
          · rfl
          · intro W hSw
            go_simp
            try with_reducible rfl
          try simp only [Act.put, List.setIfInBounds_toArray, List.set_cons_zero, List.set_cons_succ]
          refine wpAnyH_take (i := 26) (oi := ?_) (v := ?_) ?_ (by kernel_rfl) (by kernel_rfl) (by kernel_rfl) ?_ (Or.inl ⟨?_, ?_⟩) hHeld ?_
          rotate_left 2
          · conv => lhs; simp only [List.getElem?_toArray, List.getElem?_cons_succ, List.getElem?_cons_zero]
          · exact fun _ _ _ h => h
          · rfl
          · intro W hSw
            have hp := HPc.out.up hSw HPc.out.lt
            have p0 := hp.cell 0 _ rfl
            have p1 := hp.cell 1 _ rfl
            have p2 := hp.cell 2 _ rfl
            have p3 := hp.cell 3 _ rfl
            have hq := HQc.out.up hSw HQc.out.lt
            have q0 := hq.cell 0 _ rfl
            have q1 := hq.cell 1 _ rfl
            have q2 := hq.cell 2 _ rfl
            have q3 := hq.cell 3 _ rfl
            have ha := HAc.out.up hSw HAc.out.lt
            have a0 := ha.cell 0 _ rfl
            have a1 := ha.cell 1 _ rfl
            have a2 := ha.cell 2 _ rfl
            have a3 := ha.cell 3 _ rfl
            have hb := HBc.out.up hSw HBc.out.lt
            have b0 := hb.cell 0 _ rfl
            have b1 := hb.cell 1 _ rfl
            have b2 := hb.cell 2 _ rfl
            have b3 := hb.cell 3 _ rfl
            go_simp
            try with_reducible rfl
          try simp only [Act.put, List.setIfInBounds_toArray, List.set_cons_zero, List.set_cons_succ]
          refine wpAnyH_take (i := 27) (oi := ?_) (v := ?_) ?_ (by kernel_rfl) (by kernel_rfl) (by kernel_rfl) ?_ (Or.inl ⟨?_, ?_⟩) hHeld ?_
          rotate_left 2
          · conv => lhs; simp only [List.getElem?_toArray, List.getElem?_cons_succ, List.getElem?_cons_zero]
          · exact fun _ _ _ h => h
          · rfl
          · intro W hSw
            have hp := HPc.out.up hSw HPc.out.lt
            have p0 := hp.cell 0 _ rfl
            have p1 := hp.cell 1 _ rfl
            have p2 := hp.cell 2 _ rfl
            have p3 := hp.cell 3 _ rfl
            have hq := HQc.out.up hSw HQc.out.lt
            have q0 := hq.cell 0 _ rfl
            have q1 := hq.cell 1 _ rfl
            have q2 := hq.cell 2 _ rfl
            have q3 := hq.cell 3 _ rfl
            have ha := HAc.out.up hSw HAc.out.lt
            have a0 := ha.cell 0 _ rfl
            have a1 := ha.cell 1 _ rfl
            have a2 := ha.cell 2 _ rfl
            have a3 := ha.cell 3 _ rfl
            have hb := HBc.out.up hSw HBc.out.lt
            have b0 := hb.cell 0 _ rfl
            have b1 := hb.cell 1 _ rfl
            have b2 := hb.cell 2 _ rfl
            have b3 := hb.cell 3 _ rfl
            go_simp
            try with_reducible rfl
          try simp only [Act.put, List.setIfInBounds_toArray, List.set_cons_zero, List.set_cons_succ]
          refine wpAnyH_ready (rs := [28]) (by kernel_rfl) (by simp) ?_
          refine AllReadyH.cons (o := ?_) ?_ (fun K hK => ?_) AllReadyH.nil
          rotate_left 1
          · conv => lhs; simp only [List.getElem?_toArray, List.getElem?_cons_succ, List.getElem?_cons_zero]
          go_simp
          refine (CLba.out _).mono ?_; rintro e wI ⟨rfl, hbI⟩
          go_wp2_with fail
          refine hK.out _ _ (up_trans hHeld hbI) (fun hHeld => ?_)
          clear hK K
          try simp only [Act.put, List.setIfInBounds_toArray, List.set_cons_zero, List.set_cons_succ]
          refine wpAnyH_take (i := 29) (oi := ?_) (v := ?_) ?_ (by kernel_rfl) (by kernel_rfl) (by kernel_rfl) ?_ (Or.inl ⟨?_, ?_⟩) hHeld ?_
          rotate_left 2
          · conv => lhs; simp only [List.getElem?_toArray, List.getElem?_cons_succ, List.getElem?_cons_zero]
          · exact fun _ _ _ h => h
          · rfl
          · intro W hSw
            go_simp
            try with_reducible rfl
          try simp only [Act.put, List.setIfInBounds_toArray, List.set_cons_zero, List.set_cons_succ]
          refine wpAnyH_take (i := 30) (oi := ?_) (v := ?_) ?_ (by kernel_rfl) (by kernel_rfl) (by kernel_rfl) ?_ (Or.inl ⟨?_, ?_⟩) hHeld ?_
          rotate_left 2
          · conv => lhs; simp only [List.getElem?_toArray, List.getElem?_cons_succ, List.getElem?_cons_zero]
          · exact fun _ _ _ h => h
          · rfl
          · intro W hSw
            go_simp
            try with_reducible rfl
          try simp only [Act.put, List.setIfInBounds_toArray, List.set_cons_zero, List.set_cons_succ]
          refine wpAnyH_take (i := 31) (oi := ?_) (v := ?_) ?_ (by kernel_rfl) (by kernel_rfl) (by kernel_rfl) ?_ (Or.inl ⟨?_, ?_⟩) hHeld ?_
          rotate_left 2
          · conv => lhs; simp only [List.getElem?_toArray, List.getElem?_cons_succ, List.getElem?_cons_zero]
          · exact fun _ _ _ h => h
          · rfl
          · intro W hSw
            go_simp
            try with_reducible rfl
          try simp only [Act.put, List.setIfInBounds_toArray, List.set_cons_zero, List.set_cons_succ]
          refine wpAnyH_take (i := 32) (oi := ?_) (v := ?_) ?_ (by kernel_rfl) (by kernel_rfl) (by kernel_rfl) ?_ (Or.inl ⟨?_, ?_⟩) hHeld ?_
          rotate_left 2
          · conv => lhs; simp only [List.getElem?_toArray, List.getElem?_cons_succ, List.getElem?_cons_zero]
          · exact fun _ _ _ h => h
          · rfl
          · intro W hSw
            go_simp
            try with_reducible rfl
          try simp only [Act.put, List.setIfInBounds_toArray, List.set_cons_zero, List.set_cons_succ]
          refine wpAnyH_done (by kernel_rfl) ?_ _
          go_wp2_with fail
          go_meet
          exact ⟨by simp, hHeld⟩
      case rest =>
        obtain ⟨rfl, hbc2⟩ := hcut
        rename World => w4
        have HP4 := Lib.hid (HPc.out.up hbc2 HPc.out.lt)
        have HU4 := Lib.hid (HUc.out.trans (hbc2.mono HUc.out.size))
        have HV4 := Lib.hid (HV.out.up HU4.out)
        have CT := Lib.hid (fun W => c_evtxt ak ao ah an W)
        have p0 := HP4.out.cell 0 _ rfl
        have p1 := HP4.out.cell 1 _ rfl
        have p2 := HP4.out.cell 2 _ rfl
        have p3 := HP4.out.cell 3 _ rfl
        clear hbc2 CLab CLba CRab hE H3 HQc HAc HBc HRc HUc HPc
        by_cases hx : evChk ak ao ah an = 0
        case neg =>
          have tx : (evChk ak ao ah an != 0) = true := by simpa [bne] using hx
          generalize evChk ak ao ah an = x at CT tx
          generalize evTxt ak ao ah an = sx at CT
          clear hx
          go_wp2_with fail
          refine (CT.out _ HV4.out).mono ?_; rintro e w5 ⟨rfl, hb5⟩
          have HU5 := Lib.hid (HU4.out.trans (hb5.mono HU4.out.size))
          have HV5 := Lib.hid (HV.out.up HU5.out)
          clear hb5
          go_wp2_with fail
          refine (CAL.out _ HV5.out).mono ?_; rintro e w6 ⟨rfl, hb6⟩
          go_wp2
          go_ret
          exact ⟨rfl, HU5.out.trans (hb6.mono HU5.out.size)⟩
        case pos =>
          have CP := Lib.hid (fun W => c_evparse ⟨(evTxt ak ao ah an).toArray⟩ (by have := evTxt_len ak ao ah an; simp [ByteArray.size]; omega) W)
          change Hid (∀ W, EnvE W → Calls _ _ _ _ (ParPost W (evPar evNP (evTxt ak ao ah an)))) at CP
          rw [evPar_back hx] at CP
          rw [hx] at CT
          generalize evTxt ak ao ah an = sx at CT CP
          have hE2 := fun W => eql_ev ak ao ah an ak ao ah an W
          simp only [beq_self_eq_true, Bool.and_self] at hE2
          clear hx
          go_wp2_with fail
          refine (CT.out _ HV4.out).mono ?_; rintro e w5 ⟨rfl, hb5⟩
          have HU5 := Lib.hid (HU4.out.trans (hb5.mono HU4.out.size))
          have HV5 := Lib.hid (HV.out.up HU5.out)
          have HP5 := Lib.hid (HP4.out.up hb5 HP4.out.lt)
          clear hb5
          go_wp2_with fail
          refine (CP.out _ HV5.out).mono ?_; rintro e w6 ⟨rfl, hb6⟩
          have HP6 := HP5.out.up hb6 HP5.out.lt
          have e0 := HP6.cell 0 _ rfl
          have e1 := HP6.cell 1 _ rfl
          have e2 := HP6.cell 2 _ rfl
          have e3 := HP6.cell 3 _ rfl
          have k0 := fun o => Lib.cell?_alloc_some o e0
          have k1 := fun o => Lib.cell?_alloc_some o e1
          have k2 := fun o => Lib.cell?_alloc_some o e2
          have k3 := fun o => Lib.cell?_alloc_some o e3
          have hbx := HU5.out.trans (hb6.mono HU5.out.size)
          have HU6 := Lib.hid (hbx.alloc hbx.size (.cells #[.int .i64 ak, .int .i64 ao, .int .i64 ah, .int .i64 an] 27))
          have HV6 := Lib.hid (HV.out.up HU6.out)
          clear hb6 hbx HP6 p0 p1 p2 p3
          go_wp2_with fail
          refine (CAL.out _ HV6.out).mono ?_; rintro e w7 ⟨rfl, hb7⟩
          go_wp2
          go_ret
          exact ⟨rfl, HU6.out.trans (hb7.mono HU6.out.size)⟩
end Go.Proofs.YtajbpplklmhfmaaDoor

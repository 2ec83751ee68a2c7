/- The law RingsPlay: its loop. -/
import Derived.Test.YtaokojjjihinhaaGo
import Derived.Deep.DeepCutAuto
import Derived.Deep.CutRange
import Derived.Deep.CutBlock
namespace Go.Proofs.Ytaokojjjihinhaa
open Go.RowKit

/-- What holds behind a round's step. -/
def SR (w wx : World) (bs b7 rm : Nat) (d a : Int) : Prop :=
  ∃ (v u : Value) (L : List Int), PR w wx b7 rm v u L ∧ Blk wx bs [.int .u8 d, .int .i64 a] 34
set_option maxHeartbeats 8000000 in
set_option maxRecDepth 100000 in
theorem l_plays_run (rm : Nat) (A : Option Addr) (n cp : Nat) (LL : List Step) (w : World) (hR : RD w (fun _ => True) 2 A n (LL.flatMap stepV)) (hl : LL.length = n) (hs : ∀ p ∈ LL, StepOk p) (hn : n ≤ 100) (hrm : rm ≤ 1024) :
    Calls Try.prog 3 #[.int .i64 (rm : Int), .slice A n cp] w (Alive w) := by
  have C1 := Lib.hid (rv_new rm w hrm)
  have HR := Lib.hid hR
  have HL := Lib.hid hl
  have HS := Lib.hid hs
  clear hR hl hs
  go_enter Try.func3, Try.ntmps3
  go_wp2_with fail
  refine Calls.mono C1.out ?_
  rintro e w1 ⟨rfl, h1⟩
  have C2 := Lib.hid (c_dnew rm w1 hrm)
  have H1 := Lib.hid h1
  clear h1
  go_wp2_with fail
  refine Calls.mono C2.out ?_
  rintro e w2 ⟨rfl, hb2⟩
  obtain ⟨b7, hb7⟩ : ∃ b7, b7 = w2.heap.size := ⟨_, rfl⟩
  have hup := up_alloc w2 (.cells #[.int .i64 (rm : Int), .slice none 0 0] 30)
  have HP : Hid (PR w (w2.alloc (.cells #[.int .i64 (rm : Int), .slice none 0 0] 30)) b7 rm (.slice none 0 0) (.slice none 0 0) []) :=
    Lib.hid ⟨(H1.out.below hb2).below hup, hb7 ▸ Blk.new w2 [.int .i64 (rm : Int), .slice none 0 0] _, DI.nil _ _, by rw [hb7]; exact Nat.le_trans H1.out.up.size hb2.size⟩
  have HB7 := Lib.hid hb7
  clear hup hb2 hb7
  go_wp2_with fail
  rw [← HB7.out]
  go_loopw [56] (fun i wr => ∃ (k : Nat) (v u : Value) (L : List Int), k ≤ n ∧ i = .int .i64 k ∧ PR w wr b7 rm v u L) (fun i _ => n - (intOf i).toNat)
  case atStart => exact ⟨0, _, _, [], Nat.zero_le _, rfl, HP.out⟩
  case round =>
    obtain ⟨k, v, u, L, hk, rfl, hp⟩ := hrel
    by_cases hlt : k < n
    · obtain ⟨b, o, rfl, _⟩ := HR.out.at_ (by omega)
      obtain ⟨s, hsk⟩ : ∃ s, LL[k]? = some s := ⟨_, List.getElem?_eq_getElem (by rw [HL.out]; exact hlt)⟩
      have hok := HS.out s (List.mem_of_getElem? hsk)
      obtain ⟨j0, j1⟩ := step_cells (HR.out.below hp.rv.up) HL.out k s hsk
      obtain ⟨d, a⟩ := s
      obtain ⟨hd0, hd1⟩ := hok
      simp only at j0 j1 hd0 hd1
      obtain ⟨Au, cu, eu, _⟩ := hp.di
      subst eu
      have hba := up_alloc wr (.cells #[.int .u8 d, .int .i64 a] 34)
      have hX := Blk.new wr [.int .u8 d, .int .i64 a] 34
      generalize hw3 : wr.alloc (.cells #[.int .u8 d, .int .i64 a] 34) = w3 at hba
      have hX3 : Blk w3 wr.heap.size [.int .u8 d, .int .i64 a] 34 := by subst hw3; exact hX
      have h3 := hp.below hba
      have x0 := hX3.cell 0 _ rfl
      have x1 := hX3.cell 1 _ rfl
      have HW := Lib.hid hw3
      have H3 := Lib.hid h3
      have HX := Lib.hid hX3
      clear hp hba hX hw3 h3 hX3 hsk
      have hm0 : 0 ≤ d % 3 := by omega
      go_upto_block 2 with fail
      rw [HW.out]
      go_cut [11, 12, 13, 14, 15, 16, 17, 56] (fun s11 s12 s13 s14 s15 s16 s17 s56 wx => s56 = .int .i64 (k : Int) ∧ SR w wx wr.heap.size b7 rm d a)
      case first =>
        cases hm0' : (d == 0)
        · cases hm : (d % 3 == 0)
          · obtain ⟨er, L', CP, CD⟩ := push_both H3.out.rv a
            have CPH := Lib.hid CP
            have CDH := Lib.hid CD
            have hee : (er != er) = false := by simp
            clear CP CD
            go_wp2_with fail
            refine Calls.mono CPH.out ?_
            rintro e w4 ⟨v4, rfl, hv4, hk4, hs4⟩
            have h4 := hk4.pl H3.out.di
            obtain ⟨hB4, _⟩ := hk4.blk H3.out.box (H3.out.rv.not H3.out.box (by decide) (by decide))
            obtain ⟨hX4, _⟩ := hk4.blk HX.out (H3.out.rv.not HX.out (by decide) (by decide))
            clear x0 x1
            have c0 := hB4.cell 0 _ rfl
            have c1 := hB4.cell 1 _ rfl
            have HV4 := Lib.hid hv4
            have HD4 := Lib.hid h4
            have HB4 := Lib.hid hB4
            have HX4 := Lib.hid hX4
            have x1 := hX4.cell 1 _ rfl
            have CDD := Lib.hid (CDH.out w4 _ _ (PR.new hv4 hB4) h4)
            clear hv4 hk4 hs4 hB4 hX4 h4
            go_wp2_with fail
            refine Calls.mono CDD.out ?_
            rintro e w5 ⟨A5, c5, rfl, hu5, hb5⟩
            have hB6 := HB4.out.up hb5 HB4.out.lt
            have HS5 : Hid (SR w ((w5.setCell ⟨b7, 0, none⟩ (.int .i64 (rm : Int))).setCell ⟨b7, 1, none⟩ (.slice A5 L'.length c5)) wr.heap.size b7 rm d a) :=
              Lib.hid ⟨v4, _, L', PR.store (HV4.out.below hb5) hB6 rfl hu5 H3.out.b7, by
                have hx6 := HX4.out.up hb5 HX4.out.lt
                have hne := hB6.ne hx6 (by decide)
                exact (hx6.other _ (Ne.symm hne) _).other _ (Ne.symm hne) _⟩
            have f0 := hB6.free 0
            have f1 := hB6.free 1
            have d0 := hB6.cell 0 _ rfl
            have d1 := hB6.cell 1 _ rfl
            clear hb5 hB6 hu5 c0 c1 x1
            go_wp2_with fail
            go_meet
            case rel => exact ⟨rfl, HS5.out⟩
          · obtain ⟨y, er, L', CP, CD⟩ := pop_both H3.out.rv
            have CPH := Lib.hid CP
            have CDH := Lib.hid CD
            have hyy : (y != y) = false := by simp
            have hee : (er != er) = false := by simp
            clear CP CD
            go_wp2_with fail
            refine Calls.mono CPH.out ?_
            rintro e w4 ⟨v4, rfl, hv4, hk4, hs4⟩
            have h4 := hk4.pl H3.out.di
            obtain ⟨hB4, _⟩ := hk4.blk H3.out.box (H3.out.rv.not H3.out.box (by decide) (by decide))
            obtain ⟨hX4, _⟩ := hk4.blk HX.out (H3.out.rv.not HX.out (by decide) (by decide))
            clear x0 x1
            have c0 := hB4.cell 0 _ rfl
            have c1 := hB4.cell 1 _ rfl
            have HV4 := Lib.hid hv4
            have HD4 := Lib.hid h4
            have HB4 := Lib.hid hB4
            have HX4 := Lib.hid hX4
            have CDD := Lib.hid (CDH.out w4 _ _ h4)
            clear hv4 hk4 hs4 hB4 hX4 h4
            go_wp2_with fail
            refine Calls.mono CDD.out ?_
            rintro e w5 ⟨A5, c5, rfl, hu5, hb5⟩
            have hb6 := up_trans hb5 (up_alloc w5 (.cells #[.int .i64 (rm : Int), .slice A5 L'.length c5] 30))
            have hB6 := HB4.out.up hb6 HB4.out.lt
            have HS5 : Hid (SR w (((w5.alloc (.cells #[.int .i64 (rm : Int), .slice A5 L'.length c5] 30)).setCell ⟨b7, 0, none⟩ (.int .i64 (rm : Int))).setCell ⟨b7, 1, none⟩ (.slice A5 L'.length c5)) wr.heap.size b7 rm d a) :=
              Lib.hid ⟨v4, _, L', PR.store (HV4.out.below hb6) hB6 rfl (hu5.below (up_alloc _ _)) H3.out.b7, by
                have hx6 := HX4.out.up hb6 HX4.out.lt
                have hne := hB6.ne hx6 (by decide)
                exact (hx6.other _ (Ne.symm hne) _).other _ (Ne.symm hne) _⟩
            have f0 := hB6.free 0
            have f1 := hB6.free 1
            have d0 := hB6.cell 0 _ rfl
            have d1 := hB6.cell 1 _ rfl
            clear hb5 hb6 hB6 hu5 c0 c1
            go_wp2_with fail
            go_meet
            case rel => exact ⟨rfl, HS5.out⟩
        · have CPH := Lib.hid (rv_clear H3.out.rv)
          go_wp2_with fail
          refine Calls.mono CPH.out ?_
          rintro e w4 ⟨v4, rfl, hv4, hk4, hs4⟩
          have h4 := hk4.pl H3.out.di
          obtain ⟨hB4, _⟩ := hk4.blk H3.out.box (H3.out.rv.not H3.out.box (by decide) (by decide))
          obtain ⟨hX4, _⟩ := hk4.blk HX.out (H3.out.rv.not HX.out (by decide) (by decide))
          clear x0 x1
          have c0 := hB4.cell 0 _ rfl
          have c1 := hB4.cell 1 _ rfl
          have HV4 := Lib.hid hv4
          have HD4 := Lib.hid h4
          have HB4 := Lib.hid hB4
          have HX4 := Lib.hid hX4
          have HS5 : Hid (SR w (w4.setCell ⟨b7, 1, none⟩ (.slice none 0 0)) wr.heap.size b7 rm d a) :=
            Lib.hid ⟨v4, _, [], PR.store1 hv4 hB4 (DI.nil _ _) H3.out.b7, hX4.other _ (Ne.symm (hB4.ne hX4 (by decide))) _⟩
          have f1 := hB4.free 1
          clear hv4 hk4 hs4 hB4 hX4 h4
          go_wp2_with fail
          go_meet
          case rel => exact ⟨rfl, HS5.out⟩
      case rest =>
        obtain ⟨rfl, v1, u1, L1, hP, hXs⟩ := hcut
        clear j0 j1 x0 x1 HX H3
        have CF := Lib.hid (rv_at hP.rv a)
        obtain ⟨y, hy⟩ : ∃ y, y = (atL L1 a).1 := ⟨_, rfl⟩
        obtain ⟨ey, hey⟩ : ∃ ey, ey = (atL L1 a).2 := ⟨_, rfl⟩
        rw [← hy, ← hey] at CF
        obtain ⟨A1, c1, e1, hl1, hm1, hrd1⟩ := hP.di
        subst e1
        obtain ⟨m1, hm1'⟩ : ∃ m1, L1.length = m1 := ⟨_, rfl⟩
        rw [hm1'] at hrd1 hP
        have hf1 : m1 ≤ 1024 := by have := hP.rv.le; omega
        have HPP := Lib.hid hP
        have HXS := Lib.hid hXs
        have c0 := hXs.cell 1 _ rfl
        have HRD := Lib.hid hrd1
        have HYY := Lib.hid hy
        have HEY := Lib.hid hey
        have HM1 := Lib.hid hm1'
        clear hP hXs hl1 hm1 hrd1 hy hey hm1'
        go_wp2_with fail
        refine Calls.mono CF.out ?_
        rintro e w6 ⟨rfl, hb6⟩
        have CG := Lib.hid (d_at (room := rm) (c := c1) (HRD.out.below hb6) hf1 a)
        rw [← HYY.out, ← HEY.out] at CG
        have HP6 := Lib.hid (HPP.out.below hb6)
        have g0 := HP6.out.box.cell 0 _ rfl
        have g1 := HP6.out.box.cell 1 _ rfl
        have g3 := (HXS.out.up hb6 HXS.out.lt).cell 1 _ rfl
        have HR6 := Lib.hid (HRD.out.below hb6)
        clear c0 hb6
        go_wp2_with fail
        refine Calls.mono CG.out ?_
        rintro e w7 ⟨rfl, hb7⟩
        have HP7 := Lib.hid (HP6.out.below hb7)
        have HV7 := Lib.hid HP7.out.rv
        have HD7 := Lib.hid (HR6.out.below hb7)
        have HF7 := Lib.hid hf1
        have hyy : (y != y) = false := by simp
        have hee : (ey != ey) = false := by simp
        have hmm : ((m1 : Int) != (m1 : Int)) = false := by simp
        have hrr : ((rm : Int) != (rm : Int)) = false := by simp
        have KS : Hid (∀ W, Below w7.heap.size w7 W → Below w7.heap.size w7 W ∧ W.cell? ⟨b7, 0, none⟩ = some (.int .i64 (rm : Int)) ∧ W.cell? ⟨b7, 1, none⟩ = some (.slice A1 m1 c1)) := Lib.hid (fun W hb => ⟨hb, (HP7.out.box.up hb HP7.out.box.lt).cell 0 _ rfl, (HP7.out.box.up hb HP7.out.box.lt).cell 1 _ rfl⟩)
        clear g0 g1 g3 hb7
        go_wp2_with fail
        refine wp_region_held_drew (S := (fun W => Below w7.heap.size w7 W ∧ W.cell? ⟨b7, 0, none⟩ = some (.int .i64 (rm : Int)) ∧ W.cell? ⟨b7, 1, none⟩ = some (.slice A1 m1 c1))) (by kernel_rfl) (KS.out _ ((Below.refl _ _).drew)) (fun hHeld => ?_)
        refine wpAnyH_take (i := 0) (oi := ?_) (v := ?_) ?_ (by kernel_rfl) (by kernel_rfl) (by kernel_rfl) ?_ (Or.inl ⟨?_, ?_⟩) hHeld ?_
        rotate_left 2
        · conv => lhs; simp only [List.getElem?_toArray, List.getElem?_cons_succ, List.getElem?_cons_zero]
        · exact fun _ _ _ h => h
        · rfl
        · intro w hSw
          try dsimp only at hSw
          go_simp
          try with_reducible rfl
        try simp only [Act.put, List.setIfInBounds_toArray, List.set_cons_zero, List.set_cons_succ]
        refine wpAnyH_take (i := 1) (oi := ?_) (v := ?_) ?_ (by kernel_rfl) (by kernel_rfl) (by kernel_rfl) ?_ (Or.inl ⟨?_, ?_⟩) hHeld ?_
        rotate_left 2
        · conv => lhs; simp only [List.getElem?_toArray, List.getElem?_cons_succ, List.getElem?_cons_zero]
        · exact fun _ _ _ h => h
        · rfl
        · intro w hSw
          try dsimp only at hSw
          go_simp
          try with_reducible rfl
        try simp only [Act.put, List.setIfInBounds_toArray, List.set_cons_zero, List.set_cons_succ]
        refine wpAnyH_take (i := 2) (oi := ?_) (v := ?_) ?_ (by kernel_rfl) (by kernel_rfl) (by kernel_rfl) ?_ (Or.inl ⟨?_, ?_⟩) hHeld ?_
        rotate_left 2
        · conv => lhs; simp only [List.getElem?_toArray, List.getElem?_cons_succ, List.getElem?_cons_zero]
        · exact fun _ _ _ h => h
        · rfl
        · intro w hSw
          try dsimp only at hSw
          go_simp
          try with_reducible rfl
        try simp only [Act.put, List.setIfInBounds_toArray, List.set_cons_zero, List.set_cons_succ]
        refine wpAnyH_take (i := 3) (oi := ?_) (v := ?_) ?_ (by kernel_rfl) (by kernel_rfl) (by kernel_rfl) ?_ (Or.inl ⟨?_, ?_⟩) hHeld ?_
        rotate_left 2
        · conv => lhs; simp only [List.getElem?_toArray, List.getElem?_cons_succ, List.getElem?_cons_zero]
        · exact fun _ _ _ h => h
        · rfl
        · intro w hSw
          try dsimp only at hSw
          go_simp
          try with_reducible rfl
        try simp only [Act.put, List.setIfInBounds_toArray, List.set_cons_zero, List.set_cons_succ]
        refine wpAnyH_take (i := 4) (oi := ?_) (v := ?_) ?_ (by kernel_rfl) (by kernel_rfl) (by kernel_rfl) ?_ (Or.inl ⟨?_, ?_⟩) hHeld ?_
        rotate_left 2
        · conv => lhs; simp only [List.getElem?_toArray, List.getElem?_cons_succ, List.getElem?_cons_zero]
        · exact fun _ _ _ h => h
        · rfl
        · intro w hSw
          try dsimp only at hSw
          go_simp
          try with_reducible rfl
        try simp only [Act.put, List.setIfInBounds_toArray, List.set_cons_zero, List.set_cons_succ]
        refine wpAnyH_take (i := 5) (oi := ?_) (v := ?_) ?_ (by kernel_rfl) (by kernel_rfl) (by kernel_rfl) ?_ (Or.inl ⟨?_, ?_⟩) hHeld ?_
        rotate_left 2
        · conv => lhs; simp only [List.getElem?_toArray, List.getElem?_cons_succ, List.getElem?_cons_zero]
        · exact fun _ _ _ h => h
        · rfl
        · intro w hSw
          try dsimp only at hSw
          go_simp
          try with_reducible rfl
        try simp only [Act.put, List.setIfInBounds_toArray, List.set_cons_zero, List.set_cons_succ]
        refine wpAnyH_take (i := 6) (oi := ?_) (v := ?_) ?_ (by kernel_rfl) (by kernel_rfl) (by kernel_rfl) ?_ (Or.inl ⟨?_, ?_⟩) hHeld ?_
        rotate_left 2
        · conv => lhs; simp only [List.getElem?_toArray, List.getElem?_cons_succ, List.getElem?_cons_zero]
        · exact fun _ _ _ h => h
        · rfl
        · intro w hSw
          try dsimp only at hSw
          go_simp
          try with_reducible rfl
        try simp only [Act.put, List.setIfInBounds_toArray, List.set_cons_zero, List.set_cons_succ]
        refine wpAnyH_take (i := 7) (oi := ?_) (v := ?_) ?_ (by kernel_rfl) (by kernel_rfl) (by kernel_rfl) ?_ (Or.inl ⟨?_, ?_⟩) hHeld ?_
        rotate_left 2
        · conv => lhs; simp only [List.getElem?_toArray, List.getElem?_cons_succ, List.getElem?_cons_zero]
        · exact fun _ _ _ h => h
        · rfl
        · intro w hSw
          try dsimp only at hSw
          go_simp
          try with_reducible rfl
        try simp only [Act.put, List.setIfInBounds_toArray, List.set_cons_zero, List.set_cons_succ]
        refine wpAnyH_take (i := 8) (oi := ?_) (v := ?_) ?_ (by kernel_rfl) (by kernel_rfl) (by kernel_rfl) ?_ (Or.inl ⟨?_, ?_⟩) hHeld ?_
        rotate_left 2
        · conv => lhs; simp only [List.getElem?_toArray, List.getElem?_cons_succ, List.getElem?_cons_zero]
        · exact fun _ _ _ h => h
        · rfl
        · intro w hSw
          try dsimp only at hSw
          go_simp
          try with_reducible rfl
        try simp only [Act.put, List.setIfInBounds_toArray, List.set_cons_zero, List.set_cons_succ]
        refine wpAnyH_take (i := 9) (oi := ?_) (v := ?_) ?_ (by kernel_rfl) (by kernel_rfl) (by kernel_rfl) ?_ (Or.inl ⟨?_, ?_⟩) hHeld ?_
        rotate_left 2
        · conv => lhs; simp only [List.getElem?_toArray, List.getElem?_cons_succ, List.getElem?_cons_zero]
        · exact fun _ _ _ h => h
        · rfl
        · intro w hSw
          try dsimp only at hSw
          go_simp
          try with_reducible rfl
        try simp only [Act.put, List.setIfInBounds_toArray, List.set_cons_zero, List.set_cons_succ]
        refine wpAnyH_take (i := 11) (oi := ?_) (v := ?_) ?_ (by kernel_rfl) (by kernel_rfl) (by kernel_rfl) ?_ (Or.inl ⟨?_, ?_⟩) hHeld ?_
        rotate_left 2
        · conv => lhs; simp only [List.getElem?_toArray, List.getElem?_cons_succ, List.getElem?_cons_zero]
        · exact fun _ _ _ h => h
        · rfl
        · intro w hSw
          try dsimp only at hSw
          go_simp
          try with_reducible rfl
        try simp only [Act.put, List.setIfInBounds_toArray, List.set_cons_zero, List.set_cons_succ]
        refine wpAnyH_take (i := 12) (oi := ?_) (v := ?_) ?_ (by kernel_rfl) (by kernel_rfl) (by kernel_rfl) ?_ (Or.inl ⟨?_, ?_⟩) hHeld ?_
        rotate_left 2
        · conv => lhs; simp only [List.getElem?_toArray, List.getElem?_cons_succ, List.getElem?_cons_zero]
        · exact fun _ _ _ h => h
        · rfl
        · intro w hSw
          try dsimp only at hSw
          go_simp
          try with_reducible rfl
        try simp only [Act.put, List.setIfInBounds_toArray, List.set_cons_zero, List.set_cons_succ]
        refine wpAnyH_ready (rs := [10]) (by kernel_rfl) (by simp) ?_
        refine AllReadyH.cons (o := ?_) ?_ (fun K hK => ?_) AllReadyH.nil
        rotate_left 1
        · conv => lhs; simp only [List.getElem?_toArray, List.getElem?_cons_succ, List.getElem?_cons_zero]
        go_simp
        refine (rv_list (HV7.out.below hHeld.1)).mono ?_
        rintro e wA ⟨AA, cA, rfl, hlA, hmA, hrA, hbA⟩
        rw [HM1.out] at hrA ⊢
        have HRA := Lib.hid hrA
        clear hrA hlA hmA
        go_wp2_with fail
        refine hK.out _ _ (KS.out _ (up_trans hHeld.1 hbA)) (fun hHeld => ?_)
        clear hK K
        try simp only [Act.put, List.setIfInBounds_toArray, List.set_cons_zero, List.set_cons_succ]
        refine wpAnyH_ready (rs := [13]) (by kernel_rfl) (by simp) ?_
        refine AllReadyH.cons (o := ?_) ?_ (fun K hK => ?_) AllReadyH.nil
        rotate_left 1
        · conv => lhs; simp only [List.getElem?_toArray, List.getElem?_cons_succ, List.getElem?_cons_zero]
        go_simp
        refine (k_same HM1.out HRA.out (HD7.out.below hHeld.1) HF7.out).mono ?_
        rintro e wS ⟨rfl, hdS⟩
        go_wp2_with fail
        refine hK.out _ _ (KS.out _ (up_trans hHeld.1 hdS.below)) (fun hHeld => ?_)
        clear hK K
        try simp only [Act.put, List.setIfInBounds_toArray, List.set_cons_zero, List.set_cons_succ]
        refine wpAnyH_take (i := 14) (oi := ?_) (v := ?_) ?_ (by kernel_rfl) (by kernel_rfl) (by kernel_rfl) ?_ (Or.inl ⟨?_, ?_⟩) hHeld ?_
        rotate_left 2
        · conv => lhs; simp only [List.getElem?_toArray, List.getElem?_cons_succ, List.getElem?_cons_zero]
        · exact fun _ _ _ h => h
        · rfl
        · intro w hSw
          try dsimp only at hSw
          go_simp
          try with_reducible rfl
        try simp only [Act.put, List.setIfInBounds_toArray, List.set_cons_zero, List.set_cons_succ]
        refine wpAnyH_take (i := 15) (oi := ?_) (v := ?_) ?_ (by kernel_rfl) (by kernel_rfl) (by kernel_rfl) ?_ (Or.inl ⟨?_, ?_⟩) hHeld ?_
        rotate_left 2
        · conv => lhs; simp only [List.getElem?_toArray, List.getElem?_cons_succ, List.getElem?_cons_zero]
        · exact fun _ _ _ h => h
        · rfl
        · intro w hSw
          try dsimp only at hSw
          go_simp
          try with_reducible rfl
        try simp only [Act.put, List.setIfInBounds_toArray, List.set_cons_zero, List.set_cons_succ]
        refine wpAnyH_take (i := 16) (oi := ?_) (v := ?_) ?_ (by kernel_rfl) (by kernel_rfl) (by kernel_rfl) ?_ (Or.inl ⟨?_, ?_⟩) hHeld ?_
        rotate_left 2
        · conv => lhs; simp only [List.getElem?_toArray, List.getElem?_cons_succ, List.getElem?_cons_zero]
        · exact fun _ _ _ h => h
        · rfl
        · intro w hSw
          try dsimp only at hSw
          go_simp
          try with_reducible rfl
        try simp only [Act.put, List.setIfInBounds_toArray, List.set_cons_zero, List.set_cons_succ]
        refine wpAnyH_take (i := 17) (oi := ?_) (v := ?_) ?_ (by kernel_rfl) (by kernel_rfl) (by kernel_rfl) ?_ (Or.inl ⟨?_, ?_⟩) hHeld ?_
        rotate_left 2
        · conv => lhs; simp only [List.getElem?_toArray, List.getElem?_cons_succ, List.getElem?_cons_zero]
        · exact fun _ _ _ h => h
        · rfl
        · intro w hSw
          try dsimp only at hSw
          go_simp
          try with_reducible rfl
        try simp only [Act.put, List.setIfInBounds_toArray, List.set_cons_zero, List.set_cons_succ]
        refine wpAnyH_take (i := 19) (oi := ?_) (v := ?_) ?_ (by kernel_rfl) (by kernel_rfl) (by kernel_rfl) ?_ (Or.inl ⟨?_, ?_⟩) hHeld ?_
        rotate_left 2
        · conv => lhs; simp only [List.getElem?_toArray, List.getElem?_cons_succ, List.getElem?_cons_zero]
        · exact fun _ _ _ h => h
        · rfl
        · intro w hSw
          try dsimp only at hSw
          go_simp
          try with_reducible rfl
        try simp only [Act.put, List.setIfInBounds_toArray, List.set_cons_zero, List.set_cons_succ]
        refine wpAnyH_take (i := 20) (oi := ?_) (v := ?_) ?_ (by kernel_rfl) (by kernel_rfl) (by kernel_rfl) ?_ (Or.inl ⟨?_, ?_⟩) hHeld ?_
        rotate_left 2
        · conv => lhs; simp only [List.getElem?_toArray, List.getElem?_cons_succ, List.getElem?_cons_zero]
        · exact fun _ _ _ h => h
        · rfl
        · intro w hSw
          try dsimp only at hSw
          go_simp
          try with_reducible rfl
        try simp only [Act.put, List.setIfInBounds_toArray, List.set_cons_zero, List.set_cons_succ]
        refine wpAnyH_take (i := 21) (oi := ?_) (v := ?_) ?_ (by kernel_rfl) (by kernel_rfl) (by kernel_rfl) ?_ (Or.inl ⟨?_, ?_⟩) hHeld ?_
        rotate_left 2
        · conv => lhs; simp only [List.getElem?_toArray, List.getElem?_cons_succ, List.getElem?_cons_zero]
        · exact fun _ _ _ h => h
        · rfl
        · intro w hSw
          try dsimp only at hSw
          go_simp
          try with_reducible rfl
        try simp only [Act.put, List.setIfInBounds_toArray, List.set_cons_zero, List.set_cons_succ]
        refine wpAnyH_ready (rs := [18]) (by kernel_rfl) (by simp) ?_
        refine AllReadyH.cons (o := ?_) ?_ (fun K hK => ?_) AllReadyH.nil
        rotate_left 1
        · conv => lhs; simp only [List.getElem?_toArray, List.getElem?_cons_succ, List.getElem?_cons_zero]
        go_simp
        refine (k_len (m := (m1 : Int)) (HV7.out.below hHeld.1) (by rw [HM1.out])).mono ?_
        rintro e w' ⟨rfl, rfl⟩
        go_wp2_with fail
        refine hK.out _ _ (KS.out _ (hHeld.1)) (fun hHeld => ?_)
        clear hK K
        try simp only [Act.put, List.setIfInBounds_toArray, List.set_cons_zero, List.set_cons_succ]
        refine wpAnyH_take (i := 22) (oi := ?_) (v := ?_) ?_ (by kernel_rfl) (by kernel_rfl) (by kernel_rfl) ?_ (Or.inl ⟨?_, ?_⟩) hHeld ?_
        rotate_left 2
        · conv => lhs; simp only [List.getElem?_toArray, List.getElem?_cons_succ, List.getElem?_cons_zero]
        · exact fun _ _ _ h => h
        · rfl
        · intro w hSw
          try dsimp only at hSw
          go_simp
          try with_reducible rfl
        try simp only [Act.put, List.setIfInBounds_toArray, List.set_cons_zero, List.set_cons_succ]
        refine wpAnyH_take (i := 23) (oi := ?_) (v := ?_) ?_ (by kernel_rfl) (by kernel_rfl) (by kernel_rfl) ?_ (Or.inl ⟨?_, ?_⟩) hHeld ?_
        rotate_left 2
        · conv => lhs; simp only [List.getElem?_toArray, List.getElem?_cons_succ, List.getElem?_cons_zero]
        · exact fun _ _ _ h => h
        · rfl
        · intro w hSw
          try dsimp only at hSw
          go_simp
          try with_reducible rfl
        try simp only [Act.put, List.setIfInBounds_toArray, List.set_cons_zero, List.set_cons_succ]
        refine wpAnyH_take (i := 24) (oi := ?_) (v := ?_) ?_ (by kernel_rfl) (by kernel_rfl) (by kernel_rfl) ?_ (Or.inl ⟨?_, ?_⟩) hHeld ?_
        rotate_left 2
        · conv => lhs; simp only [List.getElem?_toArray, List.getElem?_cons_succ, List.getElem?_cons_zero]
        · exact fun _ _ _ h => h
        · rfl
        · intro w hSw
          try dsimp only at hSw
          go_simp
          try with_reducible rfl
        try simp only [Act.put, List.setIfInBounds_toArray, List.set_cons_zero, List.set_cons_succ]
        refine wpAnyH_take (i := 25) (oi := ?_) (v := ?_) ?_ (by kernel_rfl) (by kernel_rfl) (by kernel_rfl) ?_ (Or.inl ⟨?_, ?_⟩) hHeld ?_
        rotate_left 2
        · conv => lhs; simp only [List.getElem?_toArray, List.getElem?_cons_succ, List.getElem?_cons_zero]
        · exact fun _ _ _ h => h
        · rfl
        · intro w hSw
          try dsimp only at hSw
          go_simp
          try with_reducible rfl
        try simp only [Act.put, List.setIfInBounds_toArray, List.set_cons_zero, List.set_cons_succ]
        refine wpAnyH_take (i := 27) (oi := ?_) (v := ?_) ?_ (by kernel_rfl) (by kernel_rfl) (by kernel_rfl) ?_ (Or.inl ⟨?_, ?_⟩) hHeld ?_
        rotate_left 2
        · conv => lhs; simp only [List.getElem?_toArray, List.getElem?_cons_succ, List.getElem?_cons_zero]
        · exact fun _ _ _ h => h
        · rfl
        · intro w hSw
          try dsimp only at hSw
          go_simp
          try with_reducible rfl
        try simp only [Act.put, List.setIfInBounds_toArray, List.set_cons_zero, List.set_cons_succ]
        refine wpAnyH_ready (rs := [26]) (by kernel_rfl) (by simp) ?_
        refine AllReadyH.cons (o := ?_) ?_ (fun K hK => ?_) AllReadyH.nil
        rotate_left 1
        · conv => lhs; simp only [List.getElem?_toArray, List.getElem?_cons_succ, List.getElem?_cons_zero]
        go_simp
        refine (rv_room (HV7.out.below hHeld.1)).mono ?_
        rintro e w' ⟨rfl, rfl⟩
        go_wp2_with fail
        refine hK.out _ _ (KS.out _ (hHeld.1)) (fun hHeld => ?_)
        clear hK K
        try simp only [Act.put, List.setIfInBounds_toArray, List.set_cons_zero, List.set_cons_succ]
        refine wpAnyH_take (i := 28) (oi := ?_) (v := ?_) ?_ (by kernel_rfl) (by kernel_rfl) (by kernel_rfl) ?_ (Or.inl ⟨?_, ?_⟩) hHeld ?_
        rotate_left 2
        · conv => lhs; simp only [List.getElem?_toArray, List.getElem?_cons_succ, List.getElem?_cons_zero]
        · exact fun _ _ _ h => h
        · rfl
        · intro w hSw
          try dsimp only at hSw
          go_simp
          try with_reducible rfl
        try simp only [Act.put, List.setIfInBounds_toArray, List.set_cons_zero, List.set_cons_succ]
        refine wpAnyH_take (i := 29) (oi := ?_) (v := ?_) ?_ (by kernel_rfl) (by kernel_rfl) (by kernel_rfl) ?_ (Or.inl ⟨?_, ?_⟩) hHeld ?_
        rotate_left 2
        · conv => lhs; simp only [List.getElem?_toArray, List.getElem?_cons_succ, List.getElem?_cons_zero]
        · exact fun _ _ _ h => h
        · rfl
        · intro w hSw
          try dsimp only at hSw
          go_simp
          try with_reducible rfl
        try simp only [Act.put, List.setIfInBounds_toArray, List.set_cons_zero, List.set_cons_succ]
        refine wpAnyH_done (by kernel_rfl) ?_ _
        go_wp2_with fail
        go_roundw
        case rel => exact ⟨k + 1, _, _, L1, by omega, by go_num, HP7.out.below hHeld.1⟩
        case measure => simp [intOf]; omega
    · have hkn : k = n := by omega
      subst hkn
      have C9 := Lib.hid (c_alive wr)
      have HU9 := Lib.hid hp.rv.up
      clear hlt hk hp
      go_wp2_with fail
      refine Calls.mono C9.out ?_
      rintro e w9 ⟨rfl, hb9⟩
      have HU10 := Lib.hid (up_trans HU9.out hb9)
      clear hb9
      go_wp2_with fail
      go_ret
      exact ⟨rfl, HU10.out⟩
theorem l_plays (r : Int) (A : Option Addr) (n cp : Nat) (LL : List Step) (w : World) (hR : RD w (fun _ => True) 2 A n (LL.flatMap stepV)) (hl : LL.length = n) (hs : ∀ p ∈ LL, StepOk p) :
    Calls Try.prog 3 #[.int .i64 r, .slice A n cp] w (Alive w) := by
  by_cases hn : 100 < n
  · exact l_plays_many r A n cp w hn
  · by_cases hr : r < 0 ∨ 1024 < r
    · exact l_plays_bad r A n cp w (by omega) hr
    · obtain ⟨rm, rfl⟩ : ∃ rm : Nat, r = rm := ⟨r.toNat, by omega⟩
      exact l_plays_run rm A n cp LL w hR hl hs (by omega) (by omega)
end Go.Proofs.Ytaokojjjihinhaa

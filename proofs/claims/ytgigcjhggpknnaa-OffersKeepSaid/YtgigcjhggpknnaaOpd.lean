/- Package offers: Put, Drop, Clear. (Written by wip/tools/gen26/genput.py.) -/
import Derived.Test.YtgigcjhggpknnaaOpc
import Derived.OrdersHeld
namespace Go.Proofs.Ytgigcjhggpknnaa
open Go.RowKit

section
variable {w : World} {t s a S b room M : Nat} {D : List OF}
theorem put_rng {room : Nat} {D : List OF} {who no : Int} (h : oRng who = true) : putE room D who no = 8 := by unfold putE; rw [if_pos h]
theorem put_there {room : Nat} {D : List OF} {who no : Int} (h : oRng who = false) (h2 : hasO D who no = true) : putE room D who no = 7 := by unfold putE; rw [h, if_neg (by decide), if_pos h2]
theorem put_full {room : Nat} {D : List OF} {who no : Int} (h : oRng who = false) (h2 : hasO D who no = false) (h3 : D.length = room) : putE room D who no = 10 := by unfold putE; rw [h, if_neg (by decide), h2, if_neg (by decide), if_pos h3]
theorem put_ok {room : Nat} {D : List OF} {who no : Int} (h : oRng who = false) (h2 : hasO D who no = false) (h3 : D.length ≠ room) : putE room D who no = 0 := by unfold putE; rw [h, if_neg (by decide), h2, if_neg (by decide), if_neg h3]
theorem putL_no {room : Nat} {D : List OF} {who : Int} {g : GD} (h : putE room D who g.n ≠ 0) : putL room D who g = D := if_neg h
theorem putL_ok {room : Nat} {D : List OF} {who : Int} {g : GD} (h : putE room D who g.n = 0) : putL room D who g = D ++ [⟨who, g⟩] := if_pos h
set_option maxRecDepth 100000 in
set_option maxHeartbeats 4000000 in
theorem c_opsh (H : OT w t s a S b room M D) (hM : M < 65535) (who gk go gv gr gn : Int) :
    Calls Try.prog 13 #[.pointer (some ⟨t, 0, none⟩), .int .i64 who, .agg #[.int .i64 gk, .int .i64 go, .int .i64 gv, .int .i64 gr, .int .i64 gn]] w fun e w' => e = .returned (.int .i64 (putE room D who gn)) ∧ OPost w t s a S b room (M + 1) (putL room D who ⟨gk, go, gv, gr, gn⟩) w' := by
  have up1 := up_alloc w (.cells #[.int .i64 gk, .int .i64 go, .int .i64 gv, .int .i64 gr, .int .i64 gn] 34)
  have hBx : Blk (w.alloc (.cells #[.int .i64 gk, .int .i64 go, .int .i64 gv, .int .i64 gr, .int .i64 gn] 34)) w.heap.size [.int .i64 gk, .int .i64 go, .int .i64 gv, .int .i64 gr, .int .i64 gn] 34 := Blk.new w _ _
  generalize hw1 : w.alloc (.cells #[.int .i64 gk, .int .i64 go, .int .i64 gv, .int .i64 gr, .int .i64 gn] 34) = w1 at up1 hBx
  have HW1 := Lib.hid hw1
  have H1 := H.below up1
  have HX := Lib.hid H1
  have HU := Lib.hid up1
  have CK := c_olook H1 who
  cases hr : oRng who
  · obtain ⟨p, rfl, hp⟩ := oRng_no hr
    rw [show olkE (p : Int) = 0 by unfold olkE; rw [hr]; rfl] at CK
    have CK := Lib.hid CK
    obtain ⟨τ, Hs, fr, X1⟩ := H1
    have c0 := X1.c0
    have KS : Hid (∀ W, Below w1.heap.size w1 W → Below w1.heap.size w1 W ∧ W.cell? ⟨t, 0, none⟩ = some (.pointer (some ⟨s, 0, none⟩)) ∧ W.cell? ⟨w.heap.size, 4, none⟩ = some (.int .i64 gn)) := Lib.hid fun W o => ⟨o, (X1.below o).c0, (hBx.up o hBx.lt).cell 4 _ rfl⟩
    have HBx := Lib.hid hBx
    have HR := Lib.hid hr
    have i4 := hBx.cell 4 _ rfl
    have HX1 := Lib.hid X1
    clear hw1 H up1 hBx X1 hr
    cases hh : hasO D p gn
    · have CF := Lib.hid (fun q => c_ofind_no (HX1.out.below (up_drewN w1 q)) p hp gn (has_no hh).1)
      have HH := Lib.hid hh
      have CFr := Lib.hid (fun W (hW : Below w1.heap.size w1 W) => c_ofree (HX.out.below hW) fr HX1.out.rm)
      have hrm := HX1.out.rm
      have hr2 := HX1.out.r2
      clear hh
      by_cases hf : fr = 0
      · have HE := Lib.hid (put_full (room := room) HR.out HH.out (by omega))
        have tz : ((fr : Int) == 0) = true := by rw [hf]; rfl
        clear hf hrm
        go_enter Try.func13, Try.ntmps13
        go_wp2_with fail
        rw [HW1.out]
        refine Calls.mono CK.out ?_
        rintro e w' ⟨rfl, rfl⟩
        go_wp2_with fail
        refine wp_region_held_drew (S := fun W => Below w1.heap.size w1 W ∧ W.cell? ⟨t, 0, none⟩ = some (.pointer (some ⟨s, 0, none⟩)) ∧ W.cell? ⟨w.heap.size, 4, none⟩ = some (.int .i64 gn)) (by kernel_rfl) (KS.out _ (up_drewN w1 1)) (fun hHeld => ?_)
        refine wpAnyH_take (i := 0) (oi := ?_) (v := ?_) ?_ (by kernel_rfl) (by kernel_rfl) (by kernel_rfl) ?_ (Or.inl ⟨?_, ?_⟩) hHeld ?_
        rotate_left 2
        · conv => lhs; simp only [List.getElem?_toArray, List.getElem?_cons_succ, List.getElem?_cons_zero]
        · exact fun _ _ _ h => h
        · rfl
        · intro W hSw
          go_simp
          try with_reducible rfl
        try simp only [Act.put, List.setIfInBounds_toArray, List.set_cons_zero, List.set_cons_succ]
        refine wpAnyH_take (i := 1) (oi := ?_) (v := ?_) ?_ (by kernel_rfl) (by kernel_rfl) (by kernel_rfl) ?_ (Or.inl ⟨?_, ?_⟩) hHeld ?_
        rotate_left 2
        · conv => lhs; simp only [List.getElem?_toArray, List.getElem?_cons_succ, List.getElem?_cons_zero]
        · exact fun _ _ _ h => h
        · rfl
        · intro W hSw
          go_simp
          try with_reducible rfl
        try simp only [Act.put, List.setIfInBounds_toArray, List.set_cons_zero, List.set_cons_succ]
        refine wpAnyH_take (i := 2) (oi := ?_) (v := ?_) ?_ (by kernel_rfl) (by kernel_rfl) (by kernel_rfl) ?_ (Or.inl ⟨?_, ?_⟩) hHeld ?_
        rotate_left 2
        · conv => lhs; simp only [List.getElem?_toArray, List.getElem?_cons_succ, List.getElem?_cons_zero]
        · exact fun _ _ _ h => h
        · rfl
        · intro W hSw
          go_simp
          try with_reducible rfl
        try simp only [Act.put, List.setIfInBounds_toArray, List.set_cons_zero, List.set_cons_succ]
        refine wpAnyH_take (i := 3) (oi := ?_) (v := ?_) ?_ (by kernel_rfl) (by kernel_rfl) (by kernel_rfl) ?_ (Or.inl ⟨?_, ?_⟩) hHeld ?_
        rotate_left 2
        · conv => lhs; simp only [List.getElem?_toArray, List.getElem?_cons_succ, List.getElem?_cons_zero]
        · exact fun _ _ _ h => h
        · rfl
        · intro W hSw
          go_simp
          try with_reducible rfl
        try simp only [Act.put, List.setIfInBounds_toArray, List.set_cons_zero, List.set_cons_succ]
        refine wpAnyH_take (i := 4) (oi := ?_) (v := ?_) ?_ (by kernel_rfl) (by kernel_rfl) (by kernel_rfl) ?_ (Or.inl ⟨?_, ?_⟩) hHeld ?_
        rotate_left 2
        · conv => lhs; simp only [List.getElem?_toArray, List.getElem?_cons_succ, List.getElem?_cons_zero]
        · exact fun _ _ _ h => h
        · rfl
        · intro W hSw
          go_simp
          try with_reducible rfl
        try simp only [Act.put, List.setIfInBounds_toArray, List.set_cons_zero, List.set_cons_succ]
        refine wpAnyH_take (i := 5) (oi := ?_) (v := ?_) ?_ (by kernel_rfl) (by kernel_rfl) (by kernel_rfl) ?_ (Or.inl ⟨?_, ?_⟩) hHeld ?_
        rotate_left 2
        · conv => lhs; simp only [List.getElem?_toArray, List.getElem?_cons_succ, List.getElem?_cons_zero]
        · exact fun _ _ _ h => h
        · rfl
        · intro W hSw
          go_simp
          try with_reducible rfl
        try simp only [Act.put, List.setIfInBounds_toArray, List.set_cons_zero, List.set_cons_succ]
        refine wpAnyH_take (i := 6) (oi := ?_) (v := ?_) ?_ (by kernel_rfl) (by kernel_rfl) (by kernel_rfl) ?_ (Or.inl ⟨?_, ?_⟩) hHeld ?_
        rotate_left 2
        · conv => lhs; simp only [List.getElem?_toArray, List.getElem?_cons_succ, List.getElem?_cons_zero]
        · exact fun _ _ _ h => h
        · rfl
        · intro W hSw
          go_simp
          try with_reducible rfl
        try simp only [Act.put, List.setIfInBounds_toArray, List.set_cons_zero, List.set_cons_succ]
        refine wpAnyH_ready (rs := [7]) (by kernel_rfl) (by simp) ?_
        refine AllReadyH.cons (o := ?_) ?_ (fun K hK => ?_) AllReadyH.nil
        rotate_left 1
        · conv => lhs; simp only [List.getElem?_toArray, List.getElem?_cons_succ, List.getElem?_cons_zero]
        go_simp
        refine Calls.mono (CF.out 1) ?_
        rintro e w2 ⟨rfl, hb2⟩
        go_wp2_with fail
        refine hK.out _ _ (KS.out _ (up_trans (up_drewN w1 1) hb2)) (fun hHeld => ?_)
        clear hK K
        try simp only [Act.put, List.setIfInBounds_toArray, List.set_cons_zero, List.set_cons_succ]
        refine wpAnyH_take (i := 8) (oi := ?_) (v := ?_) ?_ (by kernel_rfl) (by kernel_rfl) (by kernel_rfl) ?_ (Or.inl ⟨?_, ?_⟩) hHeld ?_
        rotate_left 2
        · conv => lhs; simp only [List.getElem?_toArray, List.getElem?_cons_succ, List.getElem?_cons_zero]
        · exact fun _ _ _ h => h
        · rfl
        · intro W hSw
          go_simp
          try with_reducible rfl
        try simp only [Act.put, List.setIfInBounds_toArray, List.set_cons_zero, List.set_cons_succ]
        refine wpAnyH_take (i := 9) (oi := ?_) (v := ?_) ?_ (by kernel_rfl) (by kernel_rfl) (by kernel_rfl) ?_ (Or.inl ⟨?_, ?_⟩) hHeld ?_
        rotate_left 2
        · conv => lhs; simp only [List.getElem?_toArray, List.getElem?_cons_succ, List.getElem?_cons_zero]
        · exact fun _ _ _ h => h
        · rfl
        · intro W hSw
          go_simp
          try with_reducible rfl
        try simp only [Act.put, List.setIfInBounds_toArray, List.set_cons_zero, List.set_cons_succ]
        refine wpAnyH_take (i := 10) (oi := ?_) (v := ?_) ?_ (by kernel_rfl) (by kernel_rfl) (by kernel_rfl) ?_ (Or.inl ⟨?_, ?_⟩) hHeld ?_
        rotate_left 2
        · conv => lhs; simp only [List.getElem?_toArray, List.getElem?_cons_succ, List.getElem?_cons_zero]
        · exact fun _ _ _ h => h
        · rfl
        · intro W hSw
          go_simp
          try with_reducible rfl
        try simp only [Act.put, List.setIfInBounds_toArray, List.set_cons_zero, List.set_cons_succ]
        refine wpAnyH_take (i := 11) (oi := ?_) (v := ?_) ?_ (by kernel_rfl) (by kernel_rfl) (by kernel_rfl) ?_ (Or.inl ⟨?_, ?_⟩) hHeld ?_
        rotate_left 2
        · conv => lhs; simp only [List.getElem?_toArray, List.getElem?_cons_succ, List.getElem?_cons_zero]
        · exact fun _ _ _ h => h
        · rfl
        · intro W hSw
          go_simp
          try with_reducible rfl
        try simp only [Act.put, List.setIfInBounds_toArray, List.set_cons_zero, List.set_cons_succ]
        refine wpAnyH_take (i := 12) (oi := ?_) (v := ?_) ?_ (by kernel_rfl) (by kernel_rfl) (by kernel_rfl) ?_ (Or.inl ⟨?_, ?_⟩) hHeld ?_
        rotate_left 2
        · conv => lhs; simp only [List.getElem?_toArray, List.getElem?_cons_succ, List.getElem?_cons_zero]
        · exact fun _ _ _ h => h
        · rfl
        · intro W hSw
          go_simp
          try with_reducible rfl
        try simp only [Act.put, List.setIfInBounds_toArray, List.set_cons_zero, List.set_cons_succ]
        refine wpAnyH_done (by kernel_rfl) ?_ _
        clear hHeld
        have hb2 := up_trans (up_drewN w1 1) hb2
        go_wp2_with (go_at_call 23; refine Calls.mono (CFr.out _ hb2) ?_; rintro e w3 ⟨rfl, rfl⟩)
        go_ret
        refine ⟨ret_int HE.out.symm, ?_, Only.of_below (up_trans HU.out hb2)⟩
        rw [putL_no (by rw [HE.out]; decide)]
        exact (HX.out.below hb2).mono (by omega)
      · have hfd : D.length ≠ room := by omega
        have HE := Lib.hid (put_ok (room := room) HR.out HH.out hfd)
        have tz : ((fr : Int) == 0) = false := beq_eq_false_iff_ne.2 (by omega)
        have hlt : D.length < room := by omega
        have CW := Lib.hid (fun W (hW : Below w1.heap.size w1 W) => c_oworn (HX1.out.below hW) hM hlt)
        have CP := Lib.hid (fun W (hW : Below w1.heap.size w1 W) => c_oput (HX1.out.below hW) hM hlt p hp ⟨(p : Int), ⟨gk, go, gv, gr, gn⟩⟩ rfl)
        clear hf hfd hrm hlt
        go_enter Try.func13, Try.ntmps13
        go_wp2_with fail
        rw [HW1.out]
        refine Calls.mono CK.out ?_
        rintro e w' ⟨rfl, rfl⟩
        go_wp2_with fail
        refine wp_region_held_drew (S := fun W => Below w1.heap.size w1 W ∧ W.cell? ⟨t, 0, none⟩ = some (.pointer (some ⟨s, 0, none⟩)) ∧ W.cell? ⟨w.heap.size, 4, none⟩ = some (.int .i64 gn)) (by kernel_rfl) (KS.out _ (up_drewN w1 1)) (fun hHeld => ?_)
        refine wpAnyH_take (i := 0) (oi := ?_) (v := ?_) ?_ (by kernel_rfl) (by kernel_rfl) (by kernel_rfl) ?_ (Or.inl ⟨?_, ?_⟩) hHeld ?_
        rotate_left 2
        · conv => lhs; simp only [List.getElem?_toArray, List.getElem?_cons_succ, List.getElem?_cons_zero]
        · exact fun _ _ _ h => h
        · rfl
        · intro W hSw
          go_simp
          try with_reducible rfl
        try simp only [Act.put, List.setIfInBounds_toArray, List.set_cons_zero, List.set_cons_succ]
        refine wpAnyH_take (i := 1) (oi := ?_) (v := ?_) ?_ (by kernel_rfl) (by kernel_rfl) (by kernel_rfl) ?_ (Or.inl ⟨?_, ?_⟩) hHeld ?_
        rotate_left 2
        · conv => lhs; simp only [List.getElem?_toArray, List.getElem?_cons_succ, List.getElem?_cons_zero]
        · exact fun _ _ _ h => h
        · rfl
        · intro W hSw
          go_simp
          try with_reducible rfl
        try simp only [Act.put, List.setIfInBounds_toArray, List.set_cons_zero, List.set_cons_succ]
        refine wpAnyH_take (i := 2) (oi := ?_) (v := ?_) ?_ (by kernel_rfl) (by kernel_rfl) (by kernel_rfl) ?_ (Or.inl ⟨?_, ?_⟩) hHeld ?_
        rotate_left 2
        · conv => lhs; simp only [List.getElem?_toArray, List.getElem?_cons_succ, List.getElem?_cons_zero]
        · exact fun _ _ _ h => h
        · rfl
        · intro W hSw
          go_simp
          try with_reducible rfl
        try simp only [Act.put, List.setIfInBounds_toArray, List.set_cons_zero, List.set_cons_succ]
        refine wpAnyH_take (i := 3) (oi := ?_) (v := ?_) ?_ (by kernel_rfl) (by kernel_rfl) (by kernel_rfl) ?_ (Or.inl ⟨?_, ?_⟩) hHeld ?_
        rotate_left 2
        · conv => lhs; simp only [List.getElem?_toArray, List.getElem?_cons_succ, List.getElem?_cons_zero]
        · exact fun _ _ _ h => h
        · rfl
        · intro W hSw
          go_simp
          try with_reducible rfl
        try simp only [Act.put, List.setIfInBounds_toArray, List.set_cons_zero, List.set_cons_succ]
        refine wpAnyH_take (i := 4) (oi := ?_) (v := ?_) ?_ (by kernel_rfl) (by kernel_rfl) (by kernel_rfl) ?_ (Or.inl ⟨?_, ?_⟩) hHeld ?_
        rotate_left 2
        · conv => lhs; simp only [List.getElem?_toArray, List.getElem?_cons_succ, List.getElem?_cons_zero]
        · exact fun _ _ _ h => h
        · rfl
        · intro W hSw
          go_simp
          try with_reducible rfl
        try simp only [Act.put, List.setIfInBounds_toArray, List.set_cons_zero, List.set_cons_succ]
        refine wpAnyH_take (i := 5) (oi := ?_) (v := ?_) ?_ (by kernel_rfl) (by kernel_rfl) (by kernel_rfl) ?_ (Or.inl ⟨?_, ?_⟩) hHeld ?_
        rotate_left 2
        · conv => lhs; simp only [List.getElem?_toArray, List.getElem?_cons_succ, List.getElem?_cons_zero]
        · exact fun _ _ _ h => h
        · rfl
        · intro W hSw
          go_simp
          try with_reducible rfl
        try simp only [Act.put, List.setIfInBounds_toArray, List.set_cons_zero, List.set_cons_succ]
        refine wpAnyH_take (i := 6) (oi := ?_) (v := ?_) ?_ (by kernel_rfl) (by kernel_rfl) (by kernel_rfl) ?_ (Or.inl ⟨?_, ?_⟩) hHeld ?_
        rotate_left 2
        · conv => lhs; simp only [List.getElem?_toArray, List.getElem?_cons_succ, List.getElem?_cons_zero]
        · exact fun _ _ _ h => h
        · rfl
        · intro W hSw
          go_simp
          try with_reducible rfl
        try simp only [Act.put, List.setIfInBounds_toArray, List.set_cons_zero, List.set_cons_succ]
        refine wpAnyH_ready (rs := [7]) (by kernel_rfl) (by simp) ?_
        refine AllReadyH.cons (o := ?_) ?_ (fun K hK => ?_) AllReadyH.nil
        rotate_left 1
        · conv => lhs; simp only [List.getElem?_toArray, List.getElem?_cons_succ, List.getElem?_cons_zero]
        go_simp
        refine Calls.mono (CF.out 1) ?_
        rintro e w2 ⟨rfl, hb2⟩
        go_wp2_with fail
        refine hK.out _ _ (KS.out _ (up_trans (up_drewN w1 1) hb2)) (fun hHeld => ?_)
        clear hK K
        try simp only [Act.put, List.setIfInBounds_toArray, List.set_cons_zero, List.set_cons_succ]
        refine wpAnyH_take (i := 8) (oi := ?_) (v := ?_) ?_ (by kernel_rfl) (by kernel_rfl) (by kernel_rfl) ?_ (Or.inl ⟨?_, ?_⟩) hHeld ?_
        rotate_left 2
        · conv => lhs; simp only [List.getElem?_toArray, List.getElem?_cons_succ, List.getElem?_cons_zero]
        · exact fun _ _ _ h => h
        · rfl
        · intro W hSw
          go_simp
          try with_reducible rfl
        try simp only [Act.put, List.setIfInBounds_toArray, List.set_cons_zero, List.set_cons_succ]
        refine wpAnyH_take (i := 9) (oi := ?_) (v := ?_) ?_ (by kernel_rfl) (by kernel_rfl) (by kernel_rfl) ?_ (Or.inl ⟨?_, ?_⟩) hHeld ?_
        rotate_left 2
        · conv => lhs; simp only [List.getElem?_toArray, List.getElem?_cons_succ, List.getElem?_cons_zero]
        · exact fun _ _ _ h => h
        · rfl
        · intro W hSw
          go_simp
          try with_reducible rfl
        try simp only [Act.put, List.setIfInBounds_toArray, List.set_cons_zero, List.set_cons_succ]
        refine wpAnyH_take (i := 10) (oi := ?_) (v := ?_) ?_ (by kernel_rfl) (by kernel_rfl) (by kernel_rfl) ?_ (Or.inl ⟨?_, ?_⟩) hHeld ?_
        rotate_left 2
        · conv => lhs; simp only [List.getElem?_toArray, List.getElem?_cons_succ, List.getElem?_cons_zero]
        · exact fun _ _ _ h => h
        · rfl
        · intro W hSw
          go_simp
          try with_reducible rfl
        try simp only [Act.put, List.setIfInBounds_toArray, List.set_cons_zero, List.set_cons_succ]
        refine wpAnyH_take (i := 11) (oi := ?_) (v := ?_) ?_ (by kernel_rfl) (by kernel_rfl) (by kernel_rfl) ?_ (Or.inl ⟨?_, ?_⟩) hHeld ?_
        rotate_left 2
        · conv => lhs; simp only [List.getElem?_toArray, List.getElem?_cons_succ, List.getElem?_cons_zero]
        · exact fun _ _ _ h => h
        · rfl
        · intro W hSw
          go_simp
          try with_reducible rfl
        try simp only [Act.put, List.setIfInBounds_toArray, List.set_cons_zero, List.set_cons_succ]
        refine wpAnyH_take (i := 12) (oi := ?_) (v := ?_) ?_ (by kernel_rfl) (by kernel_rfl) (by kernel_rfl) ?_ (Or.inl ⟨?_, ?_⟩) hHeld ?_
        rotate_left 2
        · conv => lhs; simp only [List.getElem?_toArray, List.getElem?_cons_succ, List.getElem?_cons_zero]
        · exact fun _ _ _ h => h
        · rfl
        · intro W hSw
          go_simp
          try with_reducible rfl
        try simp only [Act.put, List.setIfInBounds_toArray, List.set_cons_zero, List.set_cons_succ]
        refine wpAnyH_done (by kernel_rfl) ?_ _
        clear hHeld
        have hb2 := up_trans (up_drewN w1 1) hb2
        have c0 := (HX1.out.below hb2).c0
        go_wp2_with (first | (go_at_call 23; refine Calls.mono (CFr.out _ hb2) ?_; rintro e w3 ⟨rfl, rfl⟩) | (go_at_call 32; refine Calls.mono (CW.out _ hb2) ?_; rintro e w3 ⟨rfl, hb3⟩))
        have hb3 := up_trans hb2 hb3
        have c0 := (HX1.out.below hb3).c0
        have hB3 := HBx.out.up hb3 HBx.out.lt
        have i0 := hB3.cell 0 _ rfl
        have i1 := hB3.cell 1 _ rfl
        have i2 := hB3.cell 2 _ rfl
        have i3 := hB3.cell 3 _ rfl
        have i4 := hB3.cell 4 _ rfl
        clear hB3
        go_still_tail 7, (by kernel_rfl)
        go_wp2_with fail
        refine Calls.mono (CP.out _ (up_trans hb3 (up_drewN _ 1))) ?_
        rintro e w4 ⟨rfl, h4, ho4⟩
        go_wp2_with fail
        go_ret
        refine ⟨ret_int HE.out.symm, ?_, (Only.of_below (up_trans HU.out (up_trans hb3 (up_drewN _ 1)))).trans ho4⟩
        rw [putL_ok HE.out]
        exact h4
    · obtain ⟨i, x, hx, hn, hb, _⟩ := has_yes hh
      obtain ⟨l, hl, hll⟩ := HX1.out.iv.line hp
      have hex : ∃ z, l[i]? = some z := ⟨_, List.getElem?_eq_getElem (by have := (List.getElem?_eq_some_iff.1 hx).1; omega)⟩
      obtain ⟨z, hz⟩ := hex
      have CF := Lib.hid (fun q => c_ofind_yes (HX1.out.below (up_drewN w1 q)) p l hl gn i z x hz hx hn hb)
      have HE := Lib.hid (put_there (room := room) HR.out hh)
      clear hx hn hb hl hz hll hh
      go_enter Try.func13, Try.ntmps13
      go_wp2_with fail
      rw [HW1.out]
      refine Calls.mono CK.out ?_
      rintro e w' ⟨rfl, rfl⟩
      go_wp2_with fail
      refine wp_region_held_drew (S := fun W => Below w1.heap.size w1 W ∧ W.cell? ⟨t, 0, none⟩ = some (.pointer (some ⟨s, 0, none⟩)) ∧ W.cell? ⟨w.heap.size, 4, none⟩ = some (.int .i64 gn)) (by kernel_rfl) (KS.out _ (up_drewN w1 1)) (fun hHeld => ?_)
      refine wpAnyH_take (i := 0) (oi := ?_) (v := ?_) ?_ (by kernel_rfl) (by kernel_rfl) (by kernel_rfl) ?_ (Or.inl ⟨?_, ?_⟩) hHeld ?_
      rotate_left 2
      · conv => lhs; simp only [List.getElem?_toArray, List.getElem?_cons_succ, List.getElem?_cons_zero]
      · exact fun _ _ _ h => h
      · rfl
      · intro W hSw
        go_simp
        try with_reducible rfl
      try simp only [Act.put, List.setIfInBounds_toArray, List.set_cons_zero, List.set_cons_succ]
      refine wpAnyH_take (i := 1) (oi := ?_) (v := ?_) ?_ (by kernel_rfl) (by kernel_rfl) (by kernel_rfl) ?_ (Or.inl ⟨?_, ?_⟩) hHeld ?_
      rotate_left 2
      · conv => lhs; simp only [List.getElem?_toArray, List.getElem?_cons_succ, List.getElem?_cons_zero]
      · exact fun _ _ _ h => h
      · rfl
      · intro W hSw
        go_simp
        try with_reducible rfl
      try simp only [Act.put, List.setIfInBounds_toArray, List.set_cons_zero, List.set_cons_succ]
      refine wpAnyH_take (i := 2) (oi := ?_) (v := ?_) ?_ (by kernel_rfl) (by kernel_rfl) (by kernel_rfl) ?_ (Or.inl ⟨?_, ?_⟩) hHeld ?_
      rotate_left 2
      · conv => lhs; simp only [List.getElem?_toArray, List.getElem?_cons_succ, List.getElem?_cons_zero]
      · exact fun _ _ _ h => h
      · rfl
      · intro W hSw
        go_simp
        try with_reducible rfl
      try simp only [Act.put, List.setIfInBounds_toArray, List.set_cons_zero, List.set_cons_succ]
      refine wpAnyH_take (i := 3) (oi := ?_) (v := ?_) ?_ (by kernel_rfl) (by kernel_rfl) (by kernel_rfl) ?_ (Or.inl ⟨?_, ?_⟩) hHeld ?_
      rotate_left 2
      · conv => lhs; simp only [List.getElem?_toArray, List.getElem?_cons_succ, List.getElem?_cons_zero]
      · exact fun _ _ _ h => h
      · rfl
      · intro W hSw
        go_simp
        try with_reducible rfl
      try simp only [Act.put, List.setIfInBounds_toArray, List.set_cons_zero, List.set_cons_succ]
      refine wpAnyH_take (i := 4) (oi := ?_) (v := ?_) ?_ (by kernel_rfl) (by kernel_rfl) (by kernel_rfl) ?_ (Or.inl ⟨?_, ?_⟩) hHeld ?_
      rotate_left 2
      · conv => lhs; simp only [List.getElem?_toArray, List.getElem?_cons_succ, List.getElem?_cons_zero]
      · exact fun _ _ _ h => h
      · rfl
      · intro W hSw
        go_simp
        try with_reducible rfl
      try simp only [Act.put, List.setIfInBounds_toArray, List.set_cons_zero, List.set_cons_succ]
      refine wpAnyH_take (i := 5) (oi := ?_) (v := ?_) ?_ (by kernel_rfl) (by kernel_rfl) (by kernel_rfl) ?_ (Or.inl ⟨?_, ?_⟩) hHeld ?_
      rotate_left 2
      · conv => lhs; simp only [List.getElem?_toArray, List.getElem?_cons_succ, List.getElem?_cons_zero]
      · exact fun _ _ _ h => h
      · rfl
      · intro W hSw
        go_simp
        try with_reducible rfl
      try simp only [Act.put, List.setIfInBounds_toArray, List.set_cons_zero, List.set_cons_succ]
      refine wpAnyH_take (i := 6) (oi := ?_) (v := ?_) ?_ (by kernel_rfl) (by kernel_rfl) (by kernel_rfl) ?_ (Or.inl ⟨?_, ?_⟩) hHeld ?_
      rotate_left 2
      · conv => lhs; simp only [List.getElem?_toArray, List.getElem?_cons_succ, List.getElem?_cons_zero]
      · exact fun _ _ _ h => h
      · rfl
      · intro W hSw
        go_simp
        try with_reducible rfl
      try simp only [Act.put, List.setIfInBounds_toArray, List.set_cons_zero, List.set_cons_succ]
      refine wpAnyH_ready (rs := [7]) (by kernel_rfl) (by simp) ?_
      refine AllReadyH.cons (o := ?_) ?_ (fun K hK => ?_) AllReadyH.nil
      rotate_left 1
      · conv => lhs; simp only [List.getElem?_toArray, List.getElem?_cons_succ, List.getElem?_cons_zero]
      go_simp
      refine Calls.mono (CF.out 1) ?_
      rintro e w2 ⟨rfl, hb2⟩
      go_wp2_with fail
      refine hK.out _ _ (KS.out _ (up_trans (up_drewN w1 1) hb2)) (fun hHeld => ?_)
      clear hK K
      try simp only [Act.put, List.setIfInBounds_toArray, List.set_cons_zero, List.set_cons_succ]
      refine wpAnyH_take (i := 8) (oi := ?_) (v := ?_) ?_ (by kernel_rfl) (by kernel_rfl) (by kernel_rfl) ?_ (Or.inl ⟨?_, ?_⟩) hHeld ?_
      rotate_left 2
      · conv => lhs; simp only [List.getElem?_toArray, List.getElem?_cons_succ, List.getElem?_cons_zero]
      · exact fun _ _ _ h => h
      · rfl
      · intro W hSw
        go_simp
        try with_reducible rfl
      try simp only [Act.put, List.setIfInBounds_toArray, List.set_cons_zero, List.set_cons_succ]
      refine wpAnyH_take (i := 9) (oi := ?_) (v := ?_) ?_ (by kernel_rfl) (by kernel_rfl) (by kernel_rfl) ?_ (Or.inl ⟨?_, ?_⟩) hHeld ?_
      rotate_left 2
      · conv => lhs; simp only [List.getElem?_toArray, List.getElem?_cons_succ, List.getElem?_cons_zero]
      · exact fun _ _ _ h => h
      · rfl
      · intro W hSw
        go_simp
        try with_reducible rfl
      try simp only [Act.put, List.setIfInBounds_toArray, List.set_cons_zero, List.set_cons_succ]
      refine wpAnyH_take (i := 10) (oi := ?_) (v := ?_) ?_ (by kernel_rfl) (by kernel_rfl) (by kernel_rfl) ?_ (Or.inl ⟨?_, ?_⟩) hHeld ?_
      rotate_left 2
      · conv => lhs; simp only [List.getElem?_toArray, List.getElem?_cons_succ, List.getElem?_cons_zero]
      · exact fun _ _ _ h => h
      · rfl
      · intro W hSw
        go_simp
        try with_reducible rfl
      try simp only [Act.put, List.setIfInBounds_toArray, List.set_cons_zero, List.set_cons_succ]
      refine wpAnyH_take (i := 11) (oi := ?_) (v := ?_) ?_ (by kernel_rfl) (by kernel_rfl) (by kernel_rfl) ?_ (Or.inl ⟨?_, ?_⟩) hHeld ?_
      rotate_left 2
      · conv => lhs; simp only [List.getElem?_toArray, List.getElem?_cons_succ, List.getElem?_cons_zero]
      · exact fun _ _ _ h => h
      · rfl
      · intro W hSw
        go_simp
        try with_reducible rfl
      try simp only [Act.put, List.setIfInBounds_toArray, List.set_cons_zero, List.set_cons_succ]
      refine wpAnyH_take (i := 12) (oi := ?_) (v := ?_) ?_ (by kernel_rfl) (by kernel_rfl) (by kernel_rfl) ?_ (Or.inl ⟨?_, ?_⟩) hHeld ?_
      rotate_left 2
      · conv => lhs; simp only [List.getElem?_toArray, List.getElem?_cons_succ, List.getElem?_cons_zero]
      · exact fun _ _ _ h => h
      · rfl
      · intro W hSw
        go_simp
        try with_reducible rfl
      try simp only [Act.put, List.setIfInBounds_toArray, List.set_cons_zero, List.set_cons_succ]
      refine wpAnyH_done (by kernel_rfl) ?_ _
      clear hHeld
      have hb2 := up_trans (up_drewN w1 1) hb2
      go_wp2
      go_ret
      refine ⟨ret_int HE.out.symm, ?_, Only.of_below (up_trans HU.out hb2)⟩
      rw [putL_no (by rw [HE.out]; decide)]
      exact (HX.out.below hb2).mono (by omega)
  · rw [show olkE who = 8 by unfold olkE; rw [hr]; rfl] at CK
    have CK := Lib.hid CK
    have HE := Lib.hid (put_rng (room := room) (D := D) (no := gn) hr)
    clear hw1 H H1 up1 hBx hr
    go_enter Try.func13, Try.ntmps13
    go_wp2_with fail
    rw [HW1.out]
    refine Calls.mono CK.out ?_
    rintro e w' ⟨rfl, rfl⟩
    go_wp2_with fail
    go_ret
    refine ⟨ret_int HE.out.symm, ?_, Only.of_below HU.out⟩
    rw [putL_no (by rw [HE.out]; decide)]
    exact HX.out.mono (by omega)

set_option maxHeartbeats 1000000 in
theorem c_odrp (H : OT w t s a S b room M D) (who no : Int) :
    Calls Try.prog 11 #[.pointer (some ⟨t, 0, none⟩), .int .i64 who, .int .i64 no] w fun e w' => e = .returned (.int .i64 (drpE D who no)) ∧ OPost w t s a S b room M (drpO D who no) w' := by
  have HX := Lib.hid H
  have CK := c_olook H who
  cases hr : oRng who
  · obtain ⟨p, rfl, hp⟩ := oRng_no hr
    rw [show olkE (p : Int) = 0 by unfold olkE; rw [hr]; rfl] at CK
    have CK := Lib.hid CK
    obtain ⟨τ, Hs, fr, X1⟩ := H
    have c0 := X1.c0
    have HX1 := Lib.hid X1
    cases hh : hasO D p no
    · have CF := Lib.hid (c_ofind_no X1 p hp no (has_no hh).1)
      have HE := Lib.hid (show drpE D p no = 6 by unfold drpE; rw [hr, hh]; rfl)
      have HD := Lib.hid (has_no hh).2
      clear X1 hr hh
      go_enter Try.func11, Try.ntmps11
      go_wp2_with (first | (go_at_call 25; refine Calls.mono CK.out ?_; rintro e w' ⟨rfl, rfl⟩) | (go_at_call 28; refine Calls.mono CF.out ?_; rintro e w2 ⟨rfl, hb2⟩))
      go_ret
      refine ⟨ret_int HE.out.symm, ?_, Only.of_below hb2⟩
      rw [HD.out]
      exact HX.out.below hb2
    · obtain ⟨i, x, hx, hn, hb, h5, h6, h7, h8⟩ := has_yes hh
      obtain ⟨l, hl, hll⟩ := X1.iv.line hp
      have hex : ∃ z, l[i]? = some z := ⟨_, List.getElem?_eq_getElem (by have := (List.getElem?_eq_some_iff.1 hx).1; omega)⟩
      obtain ⟨z, hz⟩ := hex
      obtain ⟨k, b', s1, s2, s3⟩ := (X1.iv.mt p l hl).2 i z x hz hx
      have CF := Lib.hid (c_ofind_yes X1 p l hl no i z x hz hx hn hb)
      have HE := Lib.hid (show drpE D p no = 0 by unfold drpE; rw [hr, hh]; rfl)
      have HIV := Lib.hid (X1.iv.out hl hz h5 h8 h6 h7 s1)
      have CR := Lib.hid (fun W (hW : Below w.heap.size w W) => c_remove_yes (X1.pa.below hW) p z l hl i hz (nodup_out (X1.iv.nd p l hl) hz).2.2)
      have CD := Lib.hid (fun W (hW : AT W a S 65535 τ) => a_drop hW z s2 k s1 b' x s3)
      have H6 := Lib.hid h6
      clear X1 hr hh hx hn hb h5 h6 h7 h8 hl hll hz s1 s2 s3
      go_enter Try.func11, Try.ntmps11
      go_wp2_with (first | (go_at_call 25; refine Calls.mono CK.out ?_; rintro e w' ⟨rfl, rfl⟩) | (go_at_call 28; refine Calls.mono CF.out ?_; rintro e w2 ⟨rfl, hb2⟩; have X2 := Lib.hid (HX1.out.below hb2); have c0 := X2.out.c0; have s1 := X2.out.s1) | (go_at_call 29; refine Calls.mono (CR.out _ hb2) ?_; rintro e w3 ⟨rfl, hp3, ho3⟩; have ht3 := X2.out.tb.only ho3 (fun e => X2.out.n1 (.inr e)); have hs3 := X2.out.sb.only ho3 (fun e => X2.out.n2 (.inr e)); have c0 := ht3.cell 0 _ rfl; have s0 := hs3.cell 0 _ rfl))
      have ha3 := X2.out.at_.other X2.out.pa ho3
      have HT3 := Lib.hid ht3
      have HS3 := Lib.hid hs3
      have HP3 := Lib.hid hp3
      have HO3 := Lib.hid ho3
      have CD := Lib.hid (CD.out w3 ha3)
      clear ht3 hs3 hp3 ho3 ha3 s1
      refine Calls.mono CD.out ?_
      rintro e w4 ⟨rfl, ha4, ho4⟩
      go_wp2_with fail
      go_ret
      have X := X2.out
      refine ⟨ret_int HE.out.symm, ⟨_, _, fr + 1, HT3.out.only ho4 (fun e => X.n1 (.inl e)), HS3.out.only ho4 (fun e => X.n2 (.inl e)), ha4, HP3.out.only ho4 (Ne.symm X.nSb), HIV.out, by have := X.rm; have := H6.out; omega, by rw [List.length_set]; exact X.len, X.r2⟩, ?_⟩
      exact ((Only.of_below hb2).trans (HO3.out.mono fun _ _ e => .inr e)).trans (ho4.mono fun _ _ e => .inl e)
  · rw [show olkE who = 8 by unfold olkE; rw [hr]; rfl] at CK
    have CK := Lib.hid CK
    have HE := Lib.hid (show drpE D who no = 8 by unfold drpE; rw [hr]; rfl)
    have HD : drpO D who no = D := by
      have h0 : hasO D who no = false := by
        refine List.any_eq_false.2 fun x hx h => ?_
        have := (wn_w h).1
        have := H.who x hx
        have := oRng_yes hr
        omega
      exact (has_no h0).2
    have HD := Lib.hid HD
    clear H hr
    go_enter Try.func11, Try.ntmps11
    go_wp2_with (go_at_call 25; refine Calls.mono CK.out ?_; rintro e w' ⟨rfl, rfl⟩)
    go_ret
    refine ⟨ret_int HE.out.symm, ?_, Only.refl _ _⟩
    rw [HD.out]
    exact HX.out

/-- The next one of a process goes: the pool's part. -/
theorem cl_pop {τ : List Slot} {Hs : List (List Int)} {fr : Nat} (X : OX w t s a S b room M D τ Hs fr) (p : Nat) (hp : p < 16) :
    Calls Try.prog 26 #[.pointer (some ⟨b, 0, none⟩), .int .i64 (p : Int)] w fun e w' => ∃ z er, e = .returned (.tuple #[.int .i64 z, .int .i64 er]) ∧ Only (· = b) w w' ∧
      ((er = 11 ∧ whoO D p = [] ∧ OX w' t s a S b room M D τ Hs fr) ∨ (er = 0 ∧ whoO D p ≠ [] ∧ Blk w' t [.pointer (some ⟨s, 0, none⟩)] 61 ∧ Blk w' s [.pointer (some ⟨a, 0, none⟩), .pointer (some ⟨b, 0, none⟩)] 73 ∧
        Calls Try.prog 27 #[.pointer (some ⟨a, 0, none⟩), .int .i64 z] w' fun e w'' => e = .returned (.int .i64 0) ∧ Only (· = S) w' w'' ∧ OT w'' t s a S b room M (D.eraseP (isW p)))) := by
  obtain ⟨l, hl, hll⟩ := X.iv.line hp
  rcases l with _ | ⟨z, l⟩
  · have hw : whoO D p = [] := List.eq_nil_of_length_eq_zero hll.symm
    refine (c_pop_none X.pa p hl).mono ?_
    rintro e w' ⟨rfl, hd⟩
    exact ⟨0, 11, rfl, Only.of_below hd.below, .inl ⟨rfl, hw, X.below hd.below⟩⟩
  · obtain ⟨x, q, hw⟩ : ∃ x q, whoO D p = x :: q := List.exists_cons_of_length_pos (by rw [← hll]; simp)
    obtain ⟨k, b', s1, s2, s3⟩ := (X.iv.mt p _ hl).2 0 z x rfl (by rw [hw]; rfl)
    obtain ⟨e1, e2, e3, e4, _⟩ := cl_step hw
    have hiv := X.iv.out hl (i := 0) (z := z) rfl (D' := D.eraseP (isW p)) (by rw [e1, hw]; rfl) e4 e2 e3 s1
    refine (c_pop_ok X.pa p z l hl).mono ?_
    rintro e w' ⟨rfl, hp3, ho3⟩
    have ht3 := X.tb.only ho3 (fun e => X.n1 (.inr e))
    have hs3 := X.sb.only ho3 (fun e => X.n2 (.inr e))
    have ha3 := X.at_.other X.pa ho3
    refine ⟨z, 0, rfl, ho3, .inr ⟨rfl, by rw [hw]; simp, ht3, hs3, ?_⟩⟩
    refine (a_drop ha3 z s2 k s1 b' x s3).mono ?_
    rintro e w4 ⟨rfl, ha4, ho4⟩
    exact ⟨rfl, ho4, _, _, fr + 1, ht3.only ho4 (fun e => X.n1 (.inl e)), hs3.only ho4 (fun e => X.n2 (.inl e)), ha4, hp3.only ho4 (Ne.symm X.nSb), hiv, by have := X.rm; omega, by rw [List.length_set]; exact X.len, X.r2⟩
set_option maxHeartbeats 1000000 in
theorem c_oclr (H : OT w t s a S b room M D) (who : Int) :
    Calls Try.prog 9 #[.pointer (some ⟨t, 0, none⟩), .int .i64 who] w fun e w' => e = .returned (.int .i64 ((D.length : Int) - (clO D who).length)) ∧ OPost w t s a S b room M (clO D who) w' := by
  have HX := Lib.hid H
  have CK := c_olook H who
  have hln := H.room_
  cases hr : oRng who
  · obtain ⟨p, rfl, hp⟩ := oRng_no hr
    rw [show olkE (p : Int) = 0 by unfold olkE; rw [hr]; rfl] at CK
    have CK := Lib.hid CK
    obtain ⟨τ, Hs, fr, X1⟩ := H
    have c0 := X1.c0
    have s1 := X1.s1
    have C1 := Lib.hid (cl_pop X1 p hp)
    have CP := Lib.hid (fun W E τ' Hs' fr' (h : OX W t s a S b room M E τ' Hs' fr') => cl_pop h p hp)
    clear X1 hr
    go_enter Try.func9, Try.ntmps9
    go_wp2_with (first | (go_at_call 25; refine Calls.mono CK.out ?_; rintro e w' ⟨rfl, rfl⟩) | (go_at_call 26; refine Calls.mono C1.out ?_; rintro e w1 ⟨z1, er1, rfl, ho1, hx1⟩))
    go_loopw [5, 6, 7] (fun m h e wr => ∃ (E : List OF) (n : Nat) (z er : Int), n + E.length = D.length ∧ clO E p = clO D p ∧ m = .int .i64 n ∧ h = .int .i64 z ∧ e = .int .i64 er ∧ Only (two S b) w wr ∧
        ((er = 11 ∧ whoO E p = [] ∧ OT wr t s a S b room M E) ∨ (er = 0 ∧ whoO E p ≠ [] ∧ Blk wr t [.pointer (some ⟨s, 0, none⟩)] 61 ∧ Blk wr s [.pointer (some ⟨a, 0, none⟩), .pointer (some ⟨b, 0, none⟩)] 73 ∧
          Calls Try.prog 27 #[.pointer (some ⟨a, 0, none⟩), .int .i64 z] wr fun e w'' => e = .returned (.int .i64 0) ∧ Only (· = S) wr w'' ∧ OT w'' t s a S b room M (E.eraseP (isW p))))) (fun m _ _ _ => D.length - (intOf m).toNat)
    case atStart =>
      refine ⟨D, 0, z1, er1, by omega, rfl, rfl, rfl, rfl, ho1.mono fun _ _ e => .inr e, ?_⟩
      rcases hx1 with ⟨h1, h2, h3⟩ | h1
      · exact .inl ⟨h1, h2, _, _, _, h3⟩
      · exact .inr h1
    case round =>
      obtain ⟨E, n, z, er, hn, hcl, rfl, rfl, rfl, ho, hx⟩ := hrel
      have HN := Lib.hid hn
      have HC := Lib.hid hcl
      have HO' := Lib.hid ho
      have hnl : n ≤ 1024 := by omega
      clear hn hcl ho
      rcases hx with ⟨rfl, h2, h3⟩ | ⟨rfl, h2, h3, h4, CD⟩
      · have HE := Lib.hid (cl_none h2)
        have H3 := Lib.hid h3
        clear h2 h3
        go_wp2
        go_ret
        have hE : E = clO D p := by rw [← HC.out, HE.out]
        refine ⟨ret_int (by have := HN.out; rw [← hE]; omega), ?_, HO'.out⟩
        rw [← hE]
        exact H3.out
      · have c0 := h3.cell 0 _ rfl
        have s0 := h4.cell 0 _ rfl
        obtain ⟨x, q, hw⟩ := List.exists_cons_of_ne_nil h2
        obtain ⟨_, e2, _, _, e5⟩ := cl_step hw
        have E2 := Lib.hid e2
        have E5 := Lib.hid e5
        have CD := Lib.hid CD
        clear h2 h3 h4 hw e2 e5
        go_wp2_with (go_at_call 27; refine Calls.mono CD.out ?_; rintro e w2 ⟨rfl, ho2, τ2, Hs2, fr2, X2⟩; have c0 := X2.c0; have s1 := X2.s1)
        refine Calls.mono (CP.out _ _ _ _ _ X2) ?_
        rintro e w3 ⟨z3, er3, rfl, ho3, hx3⟩
        have HX3 := Lib.hid hx3
        clear hx3 X2
        go_wp2_with fail
        go_roundw
        case rel =>
          refine ⟨E.eraseP (isW p), n + 1, z3, er3, by have := E2.out; have := HN.out; omega, by rw [E5.out, HC.out], by go_num, rfl, rfl, (HO'.out.trans (ho2.mono fun _ _ e => .inl e)).trans (ho3.mono fun _ _ e => .inr e), ?_⟩
          rcases HX3.out with ⟨h1, h2, h3⟩ | h1
          · exact .inl ⟨h1, h2, _, _, _, h3⟩
          · exact .inr h1
        case measure =>
          have := E2.out
          have := HN.out
          simp [intOf]
          omega
  · rw [show olkE who = 8 by unfold olkE; rw [hr]; rfl] at CK
    have CK := Lib.hid CK
    have HD : clO D who = D := by
      refine List.filter_eq_self.2 fun x hx => ?_
      have h1 := H.who x hx
      have h2 := oRng_yes hr
      unfold isW
      rw [show (x.w == who) = false from beq_eq_false_iff_ne.2 (by omega)]
      rfl
    have HD := Lib.hid HD
    clear H hr
    go_enter Try.func9, Try.ntmps9
    go_wp2_with (go_at_call 25; refine Calls.mono CK.out ?_; rintro e w' ⟨rfl, rfl⟩)
    go_ret
    rw [HD.out]
    exact ⟨ret_int (by omega), HX.out, Only.refl _ _⟩
end
end Go.Proofs.Ytgigcjhggpknnaa

/- The document's Text of an event. (Written by wip/tools/gen28/genrtext.py.) -/
import Derived.Test.YtajbpplklmhfmaaDoorEvj
import Derived.Test.YtajbpplklmhfmaaDoorEvc
import Derived.Test.YtajbpplklmhfmaaDoorDg
import Derived.IntWalk
import Derived.Deep.RegionHeld3
import Derived.Deep.CutBlock
import Derived.Laws.Concat
import Derived.Deep.DeepCutAuto
namespace Go.Proofs.YtajbpplklmhfmaaDoor
open Go.RowKit

theorem c_rdig (n : Int) (h0 : 0 ≤ n) (h1 : n ≤ 15) (w : World) :
    Calls Tryd.prog 23 #[.int .i64 n] w fun e w' => e = .returned (.string ⟨(evD n).toArray⟩) ∧ Below w.heap.size w w' := by
  obtain ⟨m, rfl⟩ := Int.eq_ofNat_of_zero_le h0
  exact c_digitsN m (by omega) w
theorem tk_cat {P : Program} {o : Oper} {a : Act} {W : World} {t t' : TypeId} {x y : Operand} {s r : List UInt8} (ho : o.op = .binOp .add t x y t') (hx : a.eval x = .string ⟨s.toArray⟩) (hy : a.eval y = .string ⟨r.toArray⟩) (hs : s.length ≤ 10000) (hr : r.length ≤ 10000) :
    (execOp a.eval o).run P W = .ok (.value (.string ⟨(s ++ r).toArray⟩)) W := by
  have h := run_string_add_lists (P := P) (w := W) s r (by omega) (by omega)
  unfold execOp
  have h2 : (Op.stringOp BinOp.add ⟨s.toArray⟩ ⟨r.toArray⟩).run P W = .ok (.string ⟨(s ++ r).toArray⟩) W := h
  simp only [ho, hx, hy, binOp_string_add, eqGuard, Bool.not_false, if_true, Sem.run_bind, Sem.run_pure, Result.andThen_ok, h2]

set_option maxRecDepth 100000 in
set_option maxHeartbeats 4000000 in
theorem c_rtxt (k o h n : Int) (w : World) : Calls Tryd.prog 7 #[.agg #[.int .i64 k, .int .i64 o, .int .i64 h, .int .i64 n]] w fun e w' => e = .returned (.tuple #[.string ⟨(evTxt k o h n).toArray⟩, .int .i64 (evChk k o h n)]) ∧ Below w.heap.size w w' := by
  have HB := Blk.new w [.int .i64 k, .int .i64 o, .int .i64 h, .int .i64 n] 23
  have HU := Lib.hid (up_alloc w (.cells #[.int .i64 k, .int .i64 o, .int .i64 h, .int .i64 n] 23))
  have CC := Lib.hid (c_rchk k o h n (w.alloc (.cells #[.int .i64 k, .int .i64 o, .int .i64 h, .int .i64 n] 23)))
  by_cases h0 : evChk k o h n = 0
  case neg =>
    have HX := Lib.hid (evTxt_no h0)
    have hb : (evChk k o h n != 0) = true := by simpa [bne] using h0
    generalize evChk k o h n = x at CC hb
    clear h0 HB
    go_enter Tryd.func7, Tryd.ntmps7
    go_wp2_with fail
    refine CC.out.mono ?_; rintro e w2 ⟨rfl, hb2⟩
    go_wp2
    go_ret2
    exact ⟨ret_str2 (by rw [HX.out]) rfl, up_trans HU.out hb2⟩
  case pos =>
    have HX := Lib.hid (evTxt_ok h0)
    have hf := evFit_of h0
    have Co := Lib.hid (fun W => c_rdig o hf.o0 (by have := hf.o1; omega) W)
    have Ch := Lib.hid (fun W => c_rdig h hf.h0 hf.h1 W)
    have Cn := Lib.hid (fun W => c_rdig n hf.n0 (by have := hf.n1; omega) W)
    have lo := evD_len (n := o) (by have := hf.o1; omega)
    have lh := evD_len (n := h) hf.h1
    have ln := evD_len (n := n) (by have := hf.n1; omega)
    obtain ⟨m, hm⟩ : ∃ m : Nat, k = (m : Int) + 1 := ⟨(k - 1).toNat, by have := hf.k0; omega⟩
    have hm8 : m < 8 := by have := hf.k1; omega
    have hm0 : (0 : Int) ≤ m := by omega
    have hm9 : (m : Int) < 8 := by omega
    have ls := evNm_len (m + 1)
    have hN := nmC_at m hm8
    have HS : Hid (IntKind.i64.wrap (k - 1) = m) := Lib.hid (by rw [IntWalk.i64_in (k - 1) (by omega)]; omega)
    have HT : Hid (k.toNat = m + 1) := Lib.hid (by omega)
    have HM := Lib.hid hm
    rw [h0] at CC ⊢
    rw [HT.out] at HX
    clear h0 hf hm8 hm
    generalize hsn : evNm (m + 1) = sn at ls HX hN
    clear hsn
    go_enter Tryd.func7, Tryd.ntmps7
    go_wp2_with fail
    refine CC.out.mono ?_; rintro e w2 ⟨rfl, hb2⟩
    have HB2 := HB.up hb2 HB.lt
    have HU2 := Lib.hid (up_trans HU.out hb2)
    clear HB HU CC hb2
    go_upto_region 4 with fail
    go_cut [5] (fun s5 wx => s5 = .string ⟨(sn ++ [32]).toArray⟩ ∧ Below w2.heap.size w2 wx)
    case first =>
      refine wp_region_held_drew (S := fun W => Below w2.heap.size w2 W) (by kernel_rfl) ((Below.refl _ _).drew) (fun hHeld => ?_)
      refine wpAnyH_take (i := 1) (oi := ?_) (v := ?_) ?_ (by kernel_rfl) (by kernel_rfl) (by kernel_rfl) ?_ (Or.inl ⟨?_, ?_⟩) hHeld ?_
      rotate_left 2
      · conv => lhs; simp only [List.getElem?_toArray, List.getElem?_cons_succ, List.getElem?_cons_zero]
      · exact fun _ _ _ h => h
      · rfl
      · intro W hSw
        have h' := HB2.up hSw HB2.lt
        have k0 := h'.cell 0 _ rfl
        have k1 := h'.cell 1 _ rfl
        go_simp
        try with_reducible rfl
      try simp only [Act.put, List.setIfInBounds_toArray, List.set_cons_zero, List.set_cons_succ]
      refine wpAnyH_take (i := 2) (oi := ?_) (v := ?_) ?_ (by kernel_rfl) (by kernel_rfl) (by kernel_rfl) ?_ (Or.inl ⟨?_, ?_⟩) hHeld ?_
      rotate_left 2
      · conv => lhs; simp only [List.getElem?_toArray, List.getElem?_cons_succ, List.getElem?_cons_zero]
      · exact fun _ _ _ h => h
      · rfl
      · intro W hSw
        have h' := HB2.up hSw HB2.lt
        have k0 := h'.cell 0 _ rfl
        have k1 := h'.cell 1 _ rfl
        go_simp
        try with_reducible rfl
      try simp only [Act.put, List.setIfInBounds_toArray, List.set_cons_zero, List.set_cons_succ]
      refine wpAnyH_take (i := 3) (oi := ?_) (v := .int .i64 m) ?_ (by kernel_rfl) (by kernel_rfl) (by kernel_rfl) ?_ (Or.inl ⟨?_, ?_⟩) hHeld ?_
      rotate_left 1
      · conv => lhs; simp only [List.getElem?_toArray, List.getElem?_cons_succ, List.getElem?_cons_zero]
      · exact fun _ _ _ h => h
      · rfl
      · intro W hSw
        go_simp
        first | exact HS.out | (rw [HS.out]) | rfl
      try simp only [Act.put, List.setIfInBounds_toArray, List.set_cons_zero, List.set_cons_succ]
      refine wpAnyH_ready (rs := [0]) (by kernel_rfl) (by simp) ?_
      refine AllReadyH.cons (o := ?_) ?_ (fun K hK => ?_) AllReadyH.nil
      rotate_left 1
      · conv => lhs; simp only [List.getElem?_toArray, List.getElem?_cons_succ, List.getElem?_cons_zero]
      go_simp
      refine (c_names _).mono ?_; rintro e wB ⟨rfl, hnB, hbB⟩
      go_wp2_with fail
      refine hK.out _ _ (up_trans hHeld hbB) (fun hHeld => ?_)
      clear hK K
      try simp only [Act.put, List.setIfInBounds_toArray, List.set_cons_zero, List.set_cons_succ]
      refine wpAnyH_take (i := 4) (oi := ?_) (v := ?_) ?_ (by kernel_rfl) (by kernel_rfl) (by kernel_rfl) ?_ (Or.inl ⟨?_, ?_⟩) hHeld ?_
      rotate_left 2
      · conv => lhs; simp only [List.getElem?_toArray, List.getElem?_cons_succ, List.getElem?_cons_zero]
      · exact fun _ _ _ h => h
      · rfl
      · intro W hSw
        go_simp
        try with_reducible rfl
      try simp only [Act.put, List.setIfInBounds_toArray, List.set_cons_zero, List.set_cons_succ]
      have q5 : wB.cell? ⟨w2.heap.size, m, none⟩ = some (.string ⟨sn.toArray⟩) := hnB.cell m _ hN
      refine wpAnyH_ready (rs := [5]) (by kernel_rfl) (by simp) ?_
      refine AllReadyH.cons (o := ?_) ?_ (fun K hK => ?_) AllReadyH.nil
      rotate_left 1
      · conv => lhs; simp only [List.getElem?_toArray, List.getElem?_cons_succ, List.getElem?_cons_zero]
      go_simp
      refine hK.out _ _ (hHeld) (fun hHeld => ?_)
      clear hK K
      try simp only [Act.put, List.setIfInBounds_toArray, List.set_cons_zero, List.set_cons_succ]
      refine wpAnyH_take (i := 6) (oi := ?_) (v := .string ⟨(sn ++ [32]).toArray⟩) ?_ (by kernel_rfl) (by kernel_rfl) (by kernel_rfl) ?_ (Or.inl ⟨?_, ?_⟩) hHeld ?_
      rotate_left 1
      · conv => lhs; simp only [List.getElem?_toArray, List.getElem?_cons_succ, List.getElem?_cons_zero]
      · exact fun _ _ _ h => h
      · rfl
      · intro W hSw
        exact tk_cat rfl rfl rfl (by omega) (by decide)
      try simp only [Act.put, List.setIfInBounds_toArray, List.set_cons_zero, List.set_cons_succ]
      refine wpAnyH_take (i := 7) (oi := ?_) (v := ?_) ?_ (by kernel_rfl) (by kernel_rfl) (by kernel_rfl) ?_ (Or.inl ⟨?_, ?_⟩) hHeld ?_
      rotate_left 2
      · conv => lhs; simp only [List.getElem?_toArray, List.getElem?_cons_succ, List.getElem?_cons_zero]
      · exact fun _ _ _ h => h
      · rfl
      · intro W hSw
        go_simp
        try with_reducible rfl
      try simp only [Act.put, List.setIfInBounds_toArray, List.set_cons_zero, List.set_cons_succ]
      refine wpAnyH_done (by kernel_rfl) ?_ _
      go_wp2_with fail
      go_meet
      exact ⟨by simp, hHeld⟩
    case rest =>
      obtain ⟨hs5, hbc⟩ := hcut
      obtain ⟨s2, hs2⟩ : ∃ s2, sn ++ [32] = s2 := ⟨_, rfl⟩
      have l2 : s2.length ≤ 5 := by rw [← hs2, List.length_append]; simp; omega
      rw [hs2] at hs5
      have HS2 := Lib.hid hs2
      subst hs5
      clear hs2 ls
      have HB4 := HB2.up hbc HB2.lt
      have HU4 := Lib.hid (up_trans HU2.out hbc)
      clear HB2 HU2 hbc
      have j0 := HB4.cell 0 _ rfl
      rcases ltr_ways k with hl | hl | ⟨hl, hk⟩
      case inr.inr =>
        have HY := Lib.hid (abt_high (k := k) (o := o) (h := h) (n := n) hl)
        have hk4 : ¬ k ≤ 4 := by have := HM.out; omega
        generalize evD h = sh at lh Ch HY
        generalize evD n = sn2 at ln Cn HY
        have cH := grown_call (w := wc) fun W _ => Ch.out W
        have cN := grown_call (w := wc) fun W _ => Cn.out W
        have i2 := cell_regrown (HB4.cell 2 _ rfl)
        have i3 := cell_regrown (HB4.cell 3 _ rfl)
        clear HB4 hl hk hN Ch Cn Co lo
        go_wp2_with fail
        refine wp_region_quiet_below (by kernel_rfl) (by kernel_rfl) ?_
        repeat (go_big_quiet_step (first | (with_reducible exact cH _ _) | (with_reducible exact cN _ _)))
        refine wpQuiet_nil ?_
        intro _ hw'
        obtain ⟨⟨dq, osq⟩, hw''⟩ := hw'
        have HQ := Lib.hid (up_trans HU4.out (hw'' ▸ below_regrown wc dq osq))
        clear hw'' i2 i3 cH cN
        go_wp2
        go_ret2
        refine ⟨ret_str2 ?_ rfl, HQ.out⟩
        rw [HX.out, HY.out, ← HS2.out]
        apply ByteArray.ext
        simp
      case inl =>
        obtain ⟨c, hc, hm4⟩ : ∃ c : UInt8, evLtr k = [c] ∧ m < 4 := ⟨_, hl.1, by have := hl.2; have := HM.out; omega⟩
        have hk4 : k ≤ 4 := by have := HM.out; omega
        have hm5 : (m : Int) < 4 := by omega
        have hQ := mkC_at m hm4
        rw [show ((m + 1 : Nat) : Int) = k from by rw [HM.out]; omega, hc] at hQ
        have HY := Lib.hid (abt_low (k := k) (o := o) (h := h) (n := n) hc)
        generalize evD o = so at lo Co HY
        clear hl hc hm4 Ch Cn lh ln hN
        go_wp2_with fail
        refine wp_region_held_drew (S := fun W => Below wc.heap.size wc W) (by kernel_rfl) ((Below.refl _ _).drew) (fun hHeld => ?_)
        refine wpAnyH_take (i := 0) (oi := ?_) (v := ?_) ?_ (by kernel_rfl) (by kernel_rfl) (by kernel_rfl) ?_ (Or.inl ⟨?_, ?_⟩) hHeld ?_
        rotate_left 2
        · conv => lhs; simp only [List.getElem?_toArray, List.getElem?_cons_succ, List.getElem?_cons_zero]
        · exact fun _ _ _ h => h
        · rfl
        · intro W hSw
          go_simp
          try with_reducible rfl
        try simp only [Act.put, List.setIfInBounds_toArray, List.set_cons_zero, List.set_cons_succ]
        refine wpAnyH_take (i := 2) (oi := ?_) (v := ?_) ?_ (by kernel_rfl) (by kernel_rfl) (by kernel_rfl) ?_ (Or.inl ⟨?_, ?_⟩) hHeld ?_
        rotate_left 2
        · conv => lhs; simp only [List.getElem?_toArray, List.getElem?_cons_succ, List.getElem?_cons_zero]
        · exact fun _ _ _ h => h
        · rfl
        · intro W hSw
          have h' := HB4.up hSw HB4.lt
          have k0 := h'.cell 0 _ rfl
          have k1 := h'.cell 1 _ rfl
          go_simp
          try with_reducible rfl
        try simp only [Act.put, List.setIfInBounds_toArray, List.set_cons_zero, List.set_cons_succ]
        refine wpAnyH_take (i := 3) (oi := ?_) (v := ?_) ?_ (by kernel_rfl) (by kernel_rfl) (by kernel_rfl) ?_ (Or.inl ⟨?_, ?_⟩) hHeld ?_
        rotate_left 2
        · conv => lhs; simp only [List.getElem?_toArray, List.getElem?_cons_succ, List.getElem?_cons_zero]
        · exact fun _ _ _ h => h
        · rfl
        · intro W hSw
          have h' := HB4.up hSw HB4.lt
          have k0 := h'.cell 0 _ rfl
          have k1 := h'.cell 1 _ rfl
          go_simp
          try with_reducible rfl
        try simp only [Act.put, List.setIfInBounds_toArray, List.set_cons_zero, List.set_cons_succ]
        refine wpAnyH_take (i := 4) (oi := ?_) (v := .int .i64 m) ?_ (by kernel_rfl) (by kernel_rfl) (by kernel_rfl) ?_ (Or.inl ⟨?_, ?_⟩) hHeld ?_
        rotate_left 1
        · conv => lhs; simp only [List.getElem?_toArray, List.getElem?_cons_succ, List.getElem?_cons_zero]
        · exact fun _ _ _ h => h
        · rfl
        · intro W hSw
          go_simp
          first | exact HS.out | (rw [HS.out]) | rfl
        try simp only [Act.put, List.setIfInBounds_toArray, List.set_cons_zero, List.set_cons_succ]
        refine wpAnyH_take (i := 8) (oi := ?_) (v := ?_) ?_ (by kernel_rfl) (by kernel_rfl) (by kernel_rfl) ?_ (Or.inl ⟨?_, ?_⟩) hHeld ?_
        rotate_left 2
        · conv => lhs; simp only [List.getElem?_toArray, List.getElem?_cons_succ, List.getElem?_cons_zero]
        · exact fun _ _ _ h => h
        · rfl
        · intro W hSw
          have h' := HB4.up hSw HB4.lt
          have k0 := h'.cell 0 _ rfl
          have k1 := h'.cell 1 _ rfl
          go_simp
          try with_reducible rfl
        try simp only [Act.put, List.setIfInBounds_toArray, List.set_cons_zero, List.set_cons_succ]
        refine wpAnyH_take (i := 9) (oi := ?_) (v := ?_) ?_ (by kernel_rfl) (by kernel_rfl) (by kernel_rfl) ?_ (Or.inl ⟨?_, ?_⟩) hHeld ?_
        rotate_left 2
        · conv => lhs; simp only [List.getElem?_toArray, List.getElem?_cons_succ, List.getElem?_cons_zero]
        · exact fun _ _ _ h => h
        · rfl
        · intro W hSw
          have h' := HB4.up hSw HB4.lt
          have k0 := h'.cell 0 _ rfl
          have k1 := h'.cell 1 _ rfl
          go_simp
          try with_reducible rfl
        try simp only [Act.put, List.setIfInBounds_toArray, List.set_cons_zero, List.set_cons_succ]
        refine wpAnyH_ready (rs := [1]) (by kernel_rfl) (by simp) ?_
        refine AllReadyH.cons (o := ?_) ?_ (fun K hK => ?_) AllReadyH.nil
        rotate_left 1
        · conv => lhs; simp only [List.getElem?_toArray, List.getElem?_cons_succ, List.getElem?_cons_zero]
        go_simp
        refine (c_marks _).mono ?_; rintro e wB ⟨rfl, hnB, hbB⟩
        go_wp2_with fail
        refine hK.out _ _ (up_trans hHeld hbB) (fun hHeld => ?_)
        clear hK K
        try simp only [Act.put, List.setIfInBounds_toArray, List.set_cons_zero, List.set_cons_succ]
        refine wpAnyH_take (i := 5) (oi := ?_) (v := ?_) ?_ (by kernel_rfl) (by kernel_rfl) (by kernel_rfl) ?_ (Or.inl ⟨?_, ?_⟩) hHeld ?_
        rotate_left 2
        · conv => lhs; simp only [List.getElem?_toArray, List.getElem?_cons_succ, List.getElem?_cons_zero]
        · exact fun _ _ _ h => h
        · rfl
        · intro W hSw
          go_simp
          try with_reducible rfl
        try simp only [Act.put, List.setIfInBounds_toArray, List.set_cons_zero, List.set_cons_succ]
        refine wpAnyH_ready (rs := [6, 10]) (by kernel_rfl) (by simp) ?_
        refine AllReadyH.cons (o := ?_) ?_ (fun K hK => ?_) ?_
        rotate_left 1
        · conv => lhs; simp only [List.getElem?_toArray, List.getElem?_cons_succ, List.getElem?_cons_zero]
        · have q6 : wB.cell? ⟨wc.heap.size, m, none⟩ = some (.string ⟨#[c]⟩) := hnB.cell m _ hQ
          go_simp
          refine hK.out _ _ (hHeld) (fun hHeld => ?_)
          clear hK K
          try simp only [Act.put, List.setIfInBounds_toArray, List.set_cons_zero, List.set_cons_succ]
          refine wpAnyH_take (i := 7) (oi := ?_) (v := .string ⟨(s2 ++ [c]).toArray⟩) ?_ (by kernel_rfl) (by kernel_rfl) (by kernel_rfl) ?_ (Or.inl ⟨?_, ?_⟩) hHeld ?_
          rotate_left 1
          · conv => lhs; simp only [List.getElem?_toArray, List.getElem?_cons_succ, List.getElem?_cons_zero]
          · exact fun _ _ _ h => h
          · rfl
          · intro W hSw
            exact tk_cat rfl rfl rfl (by omega) (by simp)
          try simp only [Act.put, List.setIfInBounds_toArray, List.set_cons_zero, List.set_cons_succ]
          refine wpAnyH_ready (rs := [10]) (by kernel_rfl) (by simp) ?_
          refine AllReadyH.cons (o := ?_) ?_ (fun K hK => ?_) AllReadyH.nil
          rotate_left 1
          · conv => lhs; simp only [List.getElem?_toArray, List.getElem?_cons_succ, List.getElem?_cons_zero]
          go_simp
          refine (Co.out _).mono ?_; rintro e wD ⟨rfl, hbD⟩
          go_wp2_with fail
          refine hK.out _ _ (up_trans hHeld hbD) (fun hHeld => ?_)
          clear hK K
          try simp only [Act.put, List.setIfInBounds_toArray, List.set_cons_zero, List.set_cons_succ]
          refine wpAnyH_take (i := 11) (oi := ?_) (v := .string ⟨((s2 ++ [c]) ++ so).toArray⟩) ?_ (by kernel_rfl) (by kernel_rfl) (by kernel_rfl) ?_ (Or.inl ⟨?_, ?_⟩) hHeld ?_
          rotate_left 1
          · conv => lhs; simp only [List.getElem?_toArray, List.getElem?_cons_succ, List.getElem?_cons_zero]
          · exact fun _ _ _ h => h
          · rfl
          · intro W hSw
            exact tk_cat rfl rfl rfl (by simp; omega) (by omega)
          try simp only [Act.put, List.setIfInBounds_toArray, List.set_cons_zero, List.set_cons_succ]
          refine wpAnyH_take (i := 12) (oi := ?_) (v := ?_) ?_ (by kernel_rfl) (by kernel_rfl) (by kernel_rfl) ?_ (Or.inl ⟨?_, ?_⟩) hHeld ?_
          rotate_left 2
          · conv => lhs; simp only [List.getElem?_toArray, List.getElem?_cons_succ, List.getElem?_cons_zero]
          · exact fun _ _ _ h => h
          · rfl
          · intro W hSw
            go_simp
            try with_reducible rfl
          try simp only [Act.put, List.setIfInBounds_toArray, List.set_cons_zero, List.set_cons_succ]
          refine wpAnyH_take (i := 13) (oi := ?_) (v := ?_) ?_ (by kernel_rfl) (by kernel_rfl) (by kernel_rfl) ?_ (Or.inl ⟨?_, ?_⟩) hHeld ?_
          rotate_left 2
          · conv => lhs; simp only [List.getElem?_toArray, List.getElem?_cons_succ, List.getElem?_cons_zero]
          · exact fun _ _ _ h => h
          · rfl
          · intro W hSw
            go_simp
            try with_reducible rfl
          try simp only [Act.put, List.setIfInBounds_toArray, List.set_cons_zero, List.set_cons_succ]
          refine wpAnyH_done (by kernel_rfl) ?_ _
          go_wp2_with fail
          have HQ := Lib.hid (up_trans HU4.out hHeld)
          go_wp2
          go_ret2
          refine ⟨ret_str2 ?_ rfl, HQ.out⟩
          rw [HX.out, HY.out, ← HS2.out]
          apply ByteArray.ext
          simp
        refine AllReadyH.cons (o := ?_) ?_ (fun K hK => ?_) AllReadyH.nil
        rotate_left 1
        · conv => lhs; simp only [List.getElem?_toArray, List.getElem?_cons_succ, List.getElem?_cons_zero]
        go_simp
        refine (Co.out _).mono ?_; rintro e wD ⟨rfl, hbD⟩
        go_wp2_with fail
        refine hK.out _ _ (up_trans hHeld hbD) (fun hHeld => ?_)
        clear hK K
        try simp only [Act.put, List.setIfInBounds_toArray, List.set_cons_zero, List.set_cons_succ]
        have q6 : wD.cell? ⟨wc.heap.size, m, none⟩ = some (.string ⟨#[c]⟩) := (hnB.up hbD hnB.lt).cell m _ hQ
        refine wpAnyH_ready (rs := [6]) (by kernel_rfl) (by simp) ?_
        refine AllReadyH.cons (o := ?_) ?_ (fun K hK => ?_) AllReadyH.nil
        rotate_left 1
        · conv => lhs; simp only [List.getElem?_toArray, List.getElem?_cons_succ, List.getElem?_cons_zero]
        go_simp
        refine hK.out _ _ (hHeld) (fun hHeld => ?_)
        clear hK K
        try simp only [Act.put, List.setIfInBounds_toArray, List.set_cons_zero, List.set_cons_succ]
        refine wpAnyH_take (i := 7) (oi := ?_) (v := .string ⟨(s2 ++ [c]).toArray⟩) ?_ (by kernel_rfl) (by kernel_rfl) (by kernel_rfl) ?_ (Or.inl ⟨?_, ?_⟩) hHeld ?_
        rotate_left 1
        · conv => lhs; simp only [List.getElem?_toArray, List.getElem?_cons_succ, List.getElem?_cons_zero]
        · exact fun _ _ _ h => h
        · rfl
        · intro W hSw
          exact tk_cat rfl rfl rfl (by omega) (by simp)
        try simp only [Act.put, List.setIfInBounds_toArray, List.set_cons_zero, List.set_cons_succ]
        refine wpAnyH_take (i := 11) (oi := ?_) (v := .string ⟨((s2 ++ [c]) ++ so).toArray⟩) ?_ (by kernel_rfl) (by kernel_rfl) (by kernel_rfl) ?_ (Or.inl ⟨?_, ?_⟩) hHeld ?_
        rotate_left 1
        · conv => lhs; simp only [List.getElem?_toArray, List.getElem?_cons_succ, List.getElem?_cons_zero]
        · exact fun _ _ _ h => h
        · rfl
        · intro W hSw
          exact tk_cat rfl rfl rfl (by simp; omega) (by omega)
        try simp only [Act.put, List.setIfInBounds_toArray, List.set_cons_zero, List.set_cons_succ]
        refine wpAnyH_take (i := 12) (oi := ?_) (v := ?_) ?_ (by kernel_rfl) (by kernel_rfl) (by kernel_rfl) ?_ (Or.inl ⟨?_, ?_⟩) hHeld ?_
        rotate_left 2
        · conv => lhs; simp only [List.getElem?_toArray, List.getElem?_cons_succ, List.getElem?_cons_zero]
        · exact fun _ _ _ h => h
        · rfl
        · intro W hSw
          go_simp
          try with_reducible rfl
        try simp only [Act.put, List.setIfInBounds_toArray, List.set_cons_zero, List.set_cons_succ]
        refine wpAnyH_take (i := 13) (oi := ?_) (v := ?_) ?_ (by kernel_rfl) (by kernel_rfl) (by kernel_rfl) ?_ (Or.inl ⟨?_, ?_⟩) hHeld ?_
        rotate_left 2
        · conv => lhs; simp only [List.getElem?_toArray, List.getElem?_cons_succ, List.getElem?_cons_zero]
        · exact fun _ _ _ h => h
        · rfl
        · intro W hSw
          go_simp
          try with_reducible rfl
        try simp only [Act.put, List.setIfInBounds_toArray, List.set_cons_zero, List.set_cons_succ]
        refine wpAnyH_done (by kernel_rfl) ?_ _
        go_wp2_with fail
        have HQ := Lib.hid (up_trans HU4.out hHeld)
        go_wp2
        go_ret2
        refine ⟨ret_str2 ?_ rfl, HQ.out⟩
        rw [HX.out, HY.out, ← HS2.out]
        apply ByteArray.ext
        simp
      case inr.inl =>
        obtain ⟨c, hc, hm4⟩ : ∃ c : UInt8, evLtr k = [c] ∧ m < 4 := ⟨_, hl.1, by have := hl.2; have := HM.out; omega⟩
        have hk4 : k ≤ 4 := by have := HM.out; omega
        have hm5 : (m : Int) < 4 := by omega
        have hQ := mkC_at m hm4
        rw [show ((m + 1 : Nat) : Int) = k from by rw [HM.out]; omega, hc] at hQ
        have HY := Lib.hid (abt_low (k := k) (o := o) (h := h) (n := n) hc)
        generalize evD o = so at lo Co HY
        clear hl hc hm4 Ch Cn lh ln hN
        go_wp2_with fail
        refine wp_region_held_drew (S := fun W => Below wc.heap.size wc W) (by kernel_rfl) ((Below.refl _ _).drew) (fun hHeld => ?_)
        refine wpAnyH_take (i := 0) (oi := ?_) (v := ?_) ?_ (by kernel_rfl) (by kernel_rfl) (by kernel_rfl) ?_ (Or.inl ⟨?_, ?_⟩) hHeld ?_
        rotate_left 2
        · conv => lhs; simp only [List.getElem?_toArray, List.getElem?_cons_succ, List.getElem?_cons_zero]
        · exact fun _ _ _ h => h
        · rfl
        · intro W hSw
          go_simp
          try with_reducible rfl
        try simp only [Act.put, List.setIfInBounds_toArray, List.set_cons_zero, List.set_cons_succ]
        refine wpAnyH_take (i := 2) (oi := ?_) (v := ?_) ?_ (by kernel_rfl) (by kernel_rfl) (by kernel_rfl) ?_ (Or.inl ⟨?_, ?_⟩) hHeld ?_
        rotate_left 2
        · conv => lhs; simp only [List.getElem?_toArray, List.getElem?_cons_succ, List.getElem?_cons_zero]
        · exact fun _ _ _ h => h
        · rfl
        · intro W hSw
          have h' := HB4.up hSw HB4.lt
          have k0 := h'.cell 0 _ rfl
          have k1 := h'.cell 1 _ rfl
          go_simp
          try with_reducible rfl
        try simp only [Act.put, List.setIfInBounds_toArray, List.set_cons_zero, List.set_cons_succ]
        refine wpAnyH_take (i := 3) (oi := ?_) (v := ?_) ?_ (by kernel_rfl) (by kernel_rfl) (by kernel_rfl) ?_ (Or.inl ⟨?_, ?_⟩) hHeld ?_
        rotate_left 2
        · conv => lhs; simp only [List.getElem?_toArray, List.getElem?_cons_succ, List.getElem?_cons_zero]
        · exact fun _ _ _ h => h
        · rfl
        · intro W hSw
          have h' := HB4.up hSw HB4.lt
          have k0 := h'.cell 0 _ rfl
          have k1 := h'.cell 1 _ rfl
          go_simp
          try with_reducible rfl
        try simp only [Act.put, List.setIfInBounds_toArray, List.set_cons_zero, List.set_cons_succ]
        refine wpAnyH_take (i := 4) (oi := ?_) (v := .int .i64 m) ?_ (by kernel_rfl) (by kernel_rfl) (by kernel_rfl) ?_ (Or.inl ⟨?_, ?_⟩) hHeld ?_
        rotate_left 1
        · conv => lhs; simp only [List.getElem?_toArray, List.getElem?_cons_succ, List.getElem?_cons_zero]
        · exact fun _ _ _ h => h
        · rfl
        · intro W hSw
          go_simp
          first | exact HS.out | (rw [HS.out]) | rfl
        try simp only [Act.put, List.setIfInBounds_toArray, List.set_cons_zero, List.set_cons_succ]
        refine wpAnyH_take (i := 8) (oi := ?_) (v := ?_) ?_ (by kernel_rfl) (by kernel_rfl) (by kernel_rfl) ?_ (Or.inl ⟨?_, ?_⟩) hHeld ?_
        rotate_left 2
        · conv => lhs; simp only [List.getElem?_toArray, List.getElem?_cons_succ, List.getElem?_cons_zero]
        · exact fun _ _ _ h => h
        · rfl
        · intro W hSw
          have h' := HB4.up hSw HB4.lt
          have k0 := h'.cell 0 _ rfl
          have k1 := h'.cell 1 _ rfl
          go_simp
          try with_reducible rfl
        try simp only [Act.put, List.setIfInBounds_toArray, List.set_cons_zero, List.set_cons_succ]
        refine wpAnyH_take (i := 9) (oi := ?_) (v := ?_) ?_ (by kernel_rfl) (by kernel_rfl) (by kernel_rfl) ?_ (Or.inl ⟨?_, ?_⟩) hHeld ?_
        rotate_left 2
        · conv => lhs; simp only [List.getElem?_toArray, List.getElem?_cons_succ, List.getElem?_cons_zero]
        · exact fun _ _ _ h => h
        · rfl
        · intro W hSw
          have h' := HB4.up hSw HB4.lt
          have k0 := h'.cell 0 _ rfl
          have k1 := h'.cell 1 _ rfl
          go_simp
          try with_reducible rfl
        try simp only [Act.put, List.setIfInBounds_toArray, List.set_cons_zero, List.set_cons_succ]
        refine wpAnyH_ready (rs := [1]) (by kernel_rfl) (by simp) ?_
        refine AllReadyH.cons (o := ?_) ?_ (fun K hK => ?_) AllReadyH.nil
        rotate_left 1
        · conv => lhs; simp only [List.getElem?_toArray, List.getElem?_cons_succ, List.getElem?_cons_zero]
        go_simp
        refine (c_marks _).mono ?_; rintro e wB ⟨rfl, hnB, hbB⟩
        go_wp2_with fail
        refine hK.out _ _ (up_trans hHeld hbB) (fun hHeld => ?_)
        clear hK K
        try simp only [Act.put, List.setIfInBounds_toArray, List.set_cons_zero, List.set_cons_succ]
        refine wpAnyH_take (i := 5) (oi := ?_) (v := ?_) ?_ (by kernel_rfl) (by kernel_rfl) (by kernel_rfl) ?_ (Or.inl ⟨?_, ?_⟩) hHeld ?_
        rotate_left 2
        · conv => lhs; simp only [List.getElem?_toArray, List.getElem?_cons_succ, List.getElem?_cons_zero]
        · exact fun _ _ _ h => h
        · rfl
        · intro W hSw
          go_simp
          try with_reducible rfl
        try simp only [Act.put, List.setIfInBounds_toArray, List.set_cons_zero, List.set_cons_succ]
        refine wpAnyH_ready (rs := [6, 10]) (by kernel_rfl) (by simp) ?_
        refine AllReadyH.cons (o := ?_) ?_ (fun K hK => ?_) ?_
        rotate_left 1
        · conv => lhs; simp only [List.getElem?_toArray, List.getElem?_cons_succ, List.getElem?_cons_zero]
        · have q6 : wB.cell? ⟨wc.heap.size, m, none⟩ = some (.string ⟨#[c]⟩) := hnB.cell m _ hQ
          go_simp
          refine hK.out _ _ (hHeld) (fun hHeld => ?_)
          clear hK K
          try simp only [Act.put, List.setIfInBounds_toArray, List.set_cons_zero, List.set_cons_succ]
          refine wpAnyH_take (i := 7) (oi := ?_) (v := .string ⟨(s2 ++ [c]).toArray⟩) ?_ (by kernel_rfl) (by kernel_rfl) (by kernel_rfl) ?_ (Or.inl ⟨?_, ?_⟩) hHeld ?_
          rotate_left 1
          · conv => lhs; simp only [List.getElem?_toArray, List.getElem?_cons_succ, List.getElem?_cons_zero]
          · exact fun _ _ _ h => h
          · rfl
          · intro W hSw
            exact tk_cat rfl rfl rfl (by omega) (by simp)
          try simp only [Act.put, List.setIfInBounds_toArray, List.set_cons_zero, List.set_cons_succ]
          refine wpAnyH_ready (rs := [10]) (by kernel_rfl) (by simp) ?_
          refine AllReadyH.cons (o := ?_) ?_ (fun K hK => ?_) AllReadyH.nil
          rotate_left 1
          · conv => lhs; simp only [List.getElem?_toArray, List.getElem?_cons_succ, List.getElem?_cons_zero]
          go_simp
          refine (Co.out _).mono ?_; rintro e wD ⟨rfl, hbD⟩
          go_wp2_with fail
          refine hK.out _ _ (up_trans hHeld hbD) (fun hHeld => ?_)
          clear hK K
          try simp only [Act.put, List.setIfInBounds_toArray, List.set_cons_zero, List.set_cons_succ]
          refine wpAnyH_take (i := 11) (oi := ?_) (v := .string ⟨((s2 ++ [c]) ++ so).toArray⟩) ?_ (by kernel_rfl) (by kernel_rfl) (by kernel_rfl) ?_ (Or.inl ⟨?_, ?_⟩) hHeld ?_
          rotate_left 1
          · conv => lhs; simp only [List.getElem?_toArray, List.getElem?_cons_succ, List.getElem?_cons_zero]
          · exact fun _ _ _ h => h
          · rfl
          · intro W hSw
            exact tk_cat rfl rfl rfl (by simp; omega) (by omega)
          try simp only [Act.put, List.setIfInBounds_toArray, List.set_cons_zero, List.set_cons_succ]
          refine wpAnyH_take (i := 12) (oi := ?_) (v := ?_) ?_ (by kernel_rfl) (by kernel_rfl) (by kernel_rfl) ?_ (Or.inl ⟨?_, ?_⟩) hHeld ?_
          rotate_left 2
          · conv => lhs; simp only [List.getElem?_toArray, List.getElem?_cons_succ, List.getElem?_cons_zero]
          · exact fun _ _ _ h => h
          · rfl
          · intro W hSw
            go_simp
            try with_reducible rfl
          try simp only [Act.put, List.setIfInBounds_toArray, List.set_cons_zero, List.set_cons_succ]
          refine wpAnyH_take (i := 13) (oi := ?_) (v := ?_) ?_ (by kernel_rfl) (by kernel_rfl) (by kernel_rfl) ?_ (Or.inl ⟨?_, ?_⟩) hHeld ?_
          rotate_left 2
          · conv => lhs; simp only [List.getElem?_toArray, List.getElem?_cons_succ, List.getElem?_cons_zero]
          · exact fun _ _ _ h => h
          · rfl
          · intro W hSw
            go_simp
            try with_reducible rfl
          try simp only [Act.put, List.setIfInBounds_toArray, List.set_cons_zero, List.set_cons_succ]
          refine wpAnyH_done (by kernel_rfl) ?_ _
          go_wp2_with fail
          have HQ := Lib.hid (up_trans HU4.out hHeld)
          go_wp2
          go_ret2
          refine ⟨ret_str2 ?_ rfl, HQ.out⟩
          rw [HX.out, HY.out, ← HS2.out]
          apply ByteArray.ext
          simp
        refine AllReadyH.cons (o := ?_) ?_ (fun K hK => ?_) AllReadyH.nil
        rotate_left 1
        · conv => lhs; simp only [List.getElem?_toArray, List.getElem?_cons_succ, List.getElem?_cons_zero]
        go_simp
        refine (Co.out _).mono ?_; rintro e wD ⟨rfl, hbD⟩
        go_wp2_with fail
        refine hK.out _ _ (up_trans hHeld hbD) (fun hHeld => ?_)
        clear hK K
        try simp only [Act.put, List.setIfInBounds_toArray, List.set_cons_zero, List.set_cons_succ]
        have q6 : wD.cell? ⟨wc.heap.size, m, none⟩ = some (.string ⟨#[c]⟩) := (hnB.up hbD hnB.lt).cell m _ hQ
        refine wpAnyH_ready (rs := [6]) (by kernel_rfl) (by simp) ?_
        refine AllReadyH.cons (o := ?_) ?_ (fun K hK => ?_) AllReadyH.nil
        rotate_left 1
        · conv => lhs; simp only [List.getElem?_toArray, List.getElem?_cons_succ, List.getElem?_cons_zero]
        go_simp
        refine hK.out _ _ (hHeld) (fun hHeld => ?_)
        clear hK K
        try simp only [Act.put, List.setIfInBounds_toArray, List.set_cons_zero, List.set_cons_succ]
        refine wpAnyH_take (i := 7) (oi := ?_) (v := .string ⟨(s2 ++ [c]).toArray⟩) ?_ (by kernel_rfl) (by kernel_rfl) (by kernel_rfl) ?_ (Or.inl ⟨?_, ?_⟩) hHeld ?_
        rotate_left 1
        · conv => lhs; simp only [List.getElem?_toArray, List.getElem?_cons_succ, List.getElem?_cons_zero]
        · exact fun _ _ _ h => h
        · rfl
        · intro W hSw
          exact tk_cat rfl rfl rfl (by omega) (by simp)
        try simp only [Act.put, List.setIfInBounds_toArray, List.set_cons_zero, List.set_cons_succ]
        refine wpAnyH_take (i := 11) (oi := ?_) (v := .string ⟨((s2 ++ [c]) ++ so).toArray⟩) ?_ (by kernel_rfl) (by kernel_rfl) (by kernel_rfl) ?_ (Or.inl ⟨?_, ?_⟩) hHeld ?_
        rotate_left 1
        · conv => lhs; simp only [List.getElem?_toArray, List.getElem?_cons_succ, List.getElem?_cons_zero]
        · exact fun _ _ _ h => h
        · rfl
        · intro W hSw
          exact tk_cat rfl rfl rfl (by simp; omega) (by omega)
        try simp only [Act.put, List.setIfInBounds_toArray, List.set_cons_zero, List.set_cons_succ]
        refine wpAnyH_take (i := 12) (oi := ?_) (v := ?_) ?_ (by kernel_rfl) (by kernel_rfl) (by kernel_rfl) ?_ (Or.inl ⟨?_, ?_⟩) hHeld ?_
        rotate_left 2
        · conv => lhs; simp only [List.getElem?_toArray, List.getElem?_cons_succ, List.getElem?_cons_zero]
        · exact fun _ _ _ h => h
        · rfl
        · intro W hSw
          go_simp
          try with_reducible rfl
        try simp only [Act.put, List.setIfInBounds_toArray, List.set_cons_zero, List.set_cons_succ]
        refine wpAnyH_take (i := 13) (oi := ?_) (v := ?_) ?_ (by kernel_rfl) (by kernel_rfl) (by kernel_rfl) ?_ (Or.inl ⟨?_, ?_⟩) hHeld ?_
        rotate_left 2
        · conv => lhs; simp only [List.getElem?_toArray, List.getElem?_cons_succ, List.getElem?_cons_zero]
        · exact fun _ _ _ h => h
        · rfl
        · intro W hSw
          go_simp
          try with_reducible rfl
        try simp only [Act.put, List.setIfInBounds_toArray, List.set_cons_zero, List.set_cons_succ]
        refine wpAnyH_done (by kernel_rfl) ?_ _
        go_wp2_with fail
        have HQ := Lib.hid (up_trans HU4.out hHeld)
        go_wp2
        go_ret2
        refine ⟨ret_str2 ?_ rfl, HQ.out⟩
        rw [HX.out, HY.out, ← HS2.out]
        apply ByteArray.ext
        simp
end Go.Proofs.YtajbpplklmhfmaaDoor

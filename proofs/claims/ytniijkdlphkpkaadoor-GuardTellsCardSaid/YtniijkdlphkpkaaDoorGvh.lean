/- The document's digits and Text of layer 25. -/
import Derived.Test.YtniijkdlphkpkaaDoorGvg
import Derived.Test.YtniijkdlphkpkaaDoorGve
import Derived.Test.YtniijkdlphkpkaaDoorDg
import Derived.Deep.RegionHeld3
import Derived.Great.BuildSlice
import Derived.Deep.CutBlock
import Derived.Laws.Concat
import Derived.Deep.DeepCutAuto
namespace Go.Proofs.YtniijkdlphkpkaaDoor
open Go.RowKit

theorem c_digitsZ (n : Int) (h0 : 0 ≤ n) (h1 : n ≤ 9223372036854775807) (w : World) :
    Calls Tryd.prog 35 #[.int .i64 n] w fun e w' => e = .returned (.string ⟨(Lib.decDigits n.toNat).toArray⟩) ∧ Below w.heap.size w w' := by
  obtain ⟨m, rfl⟩ := Int.eq_ofNat_of_zero_le h0
  exact c_digitsN m (by omega) w
set_option maxHeartbeats 400000 in
theorem c_rdigits (n : Int) (h0 : -1099511627776 ≤ n) (h1 : n ≤ 1099511627776) (w : World) :
    Calls Tryd.prog 21 #[.int .i64 n] w fun e w' => e = .returned (.string ⟨(Lib.itoa n).toArray⟩) ∧ Below w.heap.size w w' := by
  by_cases hn : n < 0
  · rw [it_neg n hn]
    have hl := dg_len19 (-n).toNat (by omega)
    go_enter Tryd.func21, Tryd.ntmps21
    go_wp2_with (go_at_call 35; refine (c_digitsZ _ (by omega) (by omega) _).mono ?_; rintro e w1 ⟨rfl, hb1⟩)
    go_ret
    exact ⟨ret_str (bytes_push _ _), hb1⟩
  · rw [it_pos n (by omega)]
    go_enter Tryd.func21, Tryd.ntmps21
    go_wp2_with (go_at_call 35; refine (c_digitsZ _ (by omega) (by omega) _).mono ?_; rintro e w1 ⟨rfl, hb1⟩)
    go_ret
    exact ⟨rfl, hb1⟩

/-- A name out of the document's list of them, in whatever has grown out of the world in which it was laid. -/
theorem names_cell {W w' : World} (hb : Below (W.alloc (.cells #[.string ⟨#[105, 110]⟩, .string ⟨#[111, 117, 116]⟩, .string ⟨#[98, 97, 114]⟩, .string ⟨#[116, 105, 109, 101]⟩, .string ⟨#[115, 107, 105, 112]⟩, .string ⟨#[106, 111, 105, 110]⟩] 9)).heap.size (W.alloc (.cells #[.string ⟨#[105, 110]⟩, .string ⟨#[111, 117, 116]⟩, .string ⟨#[98, 97, 114]⟩, .string ⟨#[116, 105, 109, 101]⟩, .string ⟨#[115, 107, 105, 112]⟩, .string ⟨#[106, 111, 105, 110]⟩] 9)) w') (j : Nat) (v : Value) (hj : ([.string ⟨#[105, 110]⟩, .string ⟨#[111, 117, 116]⟩, .string ⟨#[98, 97, 114]⟩, .string ⟨#[116, 105, 109, 101]⟩, .string ⟨#[115, 107, 105, 112]⟩, .string ⟨#[106, 111, 105, 110]⟩] : List Value)[j]? = some v) : w'.cell? ⟨W.heap.size, j, none⟩ = some v := by
  have h := (Blk.new W [.string ⟨#[105, 110]⟩, .string ⟨#[111, 117, 116]⟩, .string ⟨#[98, 97, 114]⟩, .string ⟨#[116, 105, 109, 101]⟩, .string ⟨#[115, 107, 105, 112]⟩, .string ⟨#[106, 111, 105, 110]⟩] 9).cell j v hj
  have hlt := (Blk.new W [.string ⟨#[105, 110]⟩, .string ⟨#[111, 117, 116]⟩, .string ⟨#[98, 97, 114]⟩, .string ⟨#[116, 105, 109, 101]⟩, .string ⟨#[115, 107, 105, 112]⟩, .string ⟨#[106, 111, 105, 110]⟩] 9).lt
  exact (hb.cell (p := ⟨W.heap.size, j, none⟩) hlt).trans h
theorem names_new (W : World) (j : Nat) (v : Value) (hj : ([.string ⟨#[105, 110]⟩, .string ⟨#[111, 117, 116]⟩, .string ⟨#[98, 97, 114]⟩, .string ⟨#[116, 105, 109, 101]⟩, .string ⟨#[115, 107, 105, 112]⟩, .string ⟨#[106, 111, 105, 110]⟩] : List Value)[j]? = some v) : (W.alloc (.cells #[.string ⟨#[105, 110]⟩, .string ⟨#[111, 117, 116]⟩, .string ⟨#[98, 97, 114]⟩, .string ⟨#[116, 105, 109, 101]⟩, .string ⟨#[115, 107, 105, 112]⟩, .string ⟨#[106, 111, 105, 110]⟩] 9)).cell? ⟨W.heap.size, j, none⟩ = some v := (Blk.new W [.string ⟨#[105, 110]⟩, .string ⟨#[111, 117, 116]⟩, .string ⟨#[98, 97, 114]⟩, .string ⟨#[116, 105, 109, 101]⟩, .string ⟨#[115, 107, 105, 112]⟩, .string ⟨#[106, 111, 105, 110]⟩] 9).cell j v hj

theorem tk_cat {P : Program} {o : Oper} {a : Act} {W : World} {t t' : TypeId} {x y : Operand} {s r : List UInt8} (ho : o.op = .binOp .add t x y t') (hx : a.eval x = .string ⟨s.toArray⟩) (hy : a.eval y = .string ⟨r.toArray⟩) (hs : s.length ≤ 10000) (hr : r.length ≤ 10000) :
    (execOp a.eval o).run P W = .ok (.value (.string ⟨(s ++ r).toArray⟩)) W := by
  have h := run_string_add_lists (P := P) (w := W) s r (by omega) (by omega)
  unfold execOp
  have h2 : (Op.stringOp BinOp.add ⟨s.toArray⟩ ⟨r.toArray⟩).run P W = .ok (.string ⟨(s ++ r).toArray⟩) W := h
  simp only [ho, hx, hy, binOp_string_add, eqGuard, Bool.not_false, if_true, Sem.run_bind, Sem.run_pure, Result.andThen_ok, h2]

set_option maxRecDepth 100000 in
set_option maxHeartbeats 4000000 in
theorem c_rtext1 (o v r n : Int) (h0 : chkE 1 o v r n = 0) (w : World) :
    Calls Tryd.prog 7 #[.agg #[.int .i64 1, .int .i64 o, .int .i64 v, .int .i64 r, .int .i64 n]] w fun e w' => e = .returned (.tuple #[.string ⟨(textL 1 o v r n).toArray⟩, .int .i64 0]) ∧ Below w.heap.size w w' := by
  have HB := Blk.new w [.int .i64 1, .int .i64 o, .int .i64 v, .int .i64 r, .int .i64 n] 23
  have HU := up_alloc w (.cells #[.int .i64 1, .int .i64 o, .int .i64 v, .int .i64 r, .int .i64 n] 23)
  have CC := Lib.hid (c_rcheck 1 o v r n (w.alloc (.cells #[.int .i64 1, .int .i64 o, .int .i64 v, .int .i64 r, .int .i64 n] 23)))
  rw [h0] at CC
  have HF := Lib.hid (fit_of h0)
  clear h0
  have CD := Lib.hid (fun (x : Int) (h : -1099511627776 ≤ x ∧ x ≤ 1099511627776) (W : World) => c_rdigits x h.1 h.2 W)
  have bn : -1099511627776 ≤ n ∧ n ≤ 1099511627776 := by have := HF.out.n0; have := HF.out.n1; omega
  have ln := it_len (n := n) (by omega) (by omega)
  have Cn := Lib.hid (CD.out n bn)
  have bo : -1099511627776 ≤ o ∧ o ≤ 1099511627776 := by have := HF.out.o0; have := HF.out.o1; omega
  have lo := it_len (n := o) (by omega) (by omega)
  have Co := Lib.hid (CD.out o bo)
  have bv : -1099511627776 ≤ v ∧ v ≤ 1099511627776 := by have := HF.out.v0; have := HF.out.v1; omega
  have lv := it_len (n := v) (by omega) (by omega)
  have Cv := Lib.hid (CD.out v bv)
  have br : -1099511627776 ≤ r ∧ r ≤ 1099511627776 := by have := HF.out.r0; have := HF.out.r1; omega
  have lr := it_len (n := r) (by omega) (by omega)
  have Cr := Lib.hid (CD.out r br)
  have HX := Lib.hid (show textL 1 o v r n = Lib.itoa n ++ ([58, 32] ++ wantL 1 o v r) from rfl)
  rw [want1] at HX
  generalize Lib.itoa n = sn at ln Cn HX
  generalize Lib.itoa o = so at lo Co HX
  generalize Lib.itoa v = sv at lv Cv HX
  generalize Lib.itoa r = sr at lr Cr HX
  clear bn bo bv br CD
  go_enter Tryd.func7, Tryd.ntmps7
  go_wp2_with fail
  refine CC.out.mono ?_; rintro e w2 ⟨rfl, hb2⟩
  have HB2 := HB.up hb2 HB.lt
  have HU2 := Lib.hid (up_trans HU hb2)
  clear HB HU CC hb2
  go_upto_region 4 with fail
  go_cut [5] (fun s5 wx => s5 = .string ⟨(sn ++ ([58, 32] ++ [105, 110])).toArray⟩ ∧ Below w2.heap.size w2 wx)
  case first =>
    refine wp_region_held_drew (S := fun W => Below w2.heap.size w2 W) (by kernel_rfl) ((Below.refl _ _).drew) (fun hHeld => ?_)
    refine wpAnyH_take (i := 0) (oi := ?_) (v := ?_) ?_ (by kernel_rfl) (by kernel_rfl) (by kernel_rfl) ?_ (Or.inl ⟨?_, ?_⟩) hHeld ?_
    rotate_left 2
    · conv => lhs; simp only [List.getElem?_toArray, List.getElem?_cons_succ, List.getElem?_cons_zero]
    · exact fun _ _ _ h => h
    · rfl
    · intro W hSw
      have h' := HB2.up hSw HB2.lt
      have k0 := h'.cell 0 _ rfl
      have k4 := h'.cell 4 _ rfl
      go_simp
      try with_reducible rfl
    try simp only [Act.put, List.setIfInBounds_toArray, List.set_cons_zero, List.set_cons_succ]
    refine wpAnyH_take (i := 1) (oi := ?_) (v := ?_) ?_ (by kernel_rfl) (by kernel_rfl) (by kernel_rfl) ?_ (Or.inl ⟨?_, ?_⟩) hHeld ?_
    rotate_left 2
    · conv => lhs; simp only [List.getElem?_toArray, List.getElem?_cons_succ, List.getElem?_cons_zero]
    · exact fun _ _ _ h => h
    · rfl
    · intro W hSw
      have h' := HB2.up hSw HB2.lt
      have k0 := h'.cell 0 _ rfl
      have k4 := h'.cell 4 _ rfl
      go_simp
      try with_reducible rfl
    try simp only [Act.put, List.setIfInBounds_toArray, List.set_cons_zero, List.set_cons_succ]
    refine wpAnyH_take (i := 5) (oi := ?_) (v := ?_) ?_ (by kernel_rfl) (by kernel_rfl) (by kernel_rfl) ?_ (Or.inl ⟨?_, ?_⟩) hHeld ?_
    rotate_left 2
    · conv => lhs; simp only [List.getElem?_toArray, List.getElem?_cons_succ, List.getElem?_cons_zero]
    · exact fun _ _ _ h => h
    · rfl
    · intro W hSw
      have h' := HB2.up hSw HB2.lt
      have k0 := h'.cell 0 _ rfl
      have k4 := h'.cell 4 _ rfl
      go_simp
      try with_reducible rfl
    try simp only [Act.put, List.setIfInBounds_toArray, List.set_cons_zero, List.set_cons_succ]
    refine wpAnyH_take (i := 6) (oi := ?_) (v := ?_) ?_ (by kernel_rfl) (by kernel_rfl) (by kernel_rfl) ?_ (Or.inl ⟨?_, ?_⟩) hHeld ?_
    rotate_left 2
    · conv => lhs; simp only [List.getElem?_toArray, List.getElem?_cons_succ, List.getElem?_cons_zero]
    · exact fun _ _ _ h => h
    · rfl
    · intro W hSw
      have h' := HB2.up hSw HB2.lt
      have k0 := h'.cell 0 _ rfl
      have k4 := h'.cell 4 _ rfl
      go_simp
      try with_reducible rfl
    try simp only [Act.put, List.setIfInBounds_toArray, List.set_cons_zero, List.set_cons_succ]
    refine wpAnyH_take (i := 7) (oi := ?_) (v := .int .i64 0) ?_ (by kernel_rfl) (by kernel_rfl) (by kernel_rfl) ?_ (Or.inl ⟨?_, ?_⟩) hHeld ?_
    rotate_left 1
    · conv => lhs; simp only [List.getElem?_toArray, List.getElem?_cons_succ, List.getElem?_cons_zero]
    · exact fun _ _ _ h => h
    · rfl
    · intro W hSw
      go_simp
      try rfl
    try simp only [Act.put, List.setIfInBounds_toArray, List.set_cons_zero, List.set_cons_succ]
    refine wpAnyH_ready (rs := [2, 4]) (by kernel_rfl) (by simp) ?_
    refine AllReadyH.cons (o := ?_) ?_ (fun K hK => ?_) ?_
    rotate_left 1
    · conv => lhs; simp only [List.getElem?_toArray, List.getElem?_cons_succ, List.getElem?_cons_zero]
    · go_simp
      refine (Cn.out _).mono ?_; rintro e wB ⟨rfl, hbB⟩
      go_wp2_with fail
      refine hK.out _ _ (up_trans hHeld hbB) (fun hHeld => ?_)
      clear hK K
      try simp only [Act.put, List.setIfInBounds_toArray, List.set_cons_zero, List.set_cons_succ]
      refine wpAnyH_take (i := 3) (oi := ?_) (v := .string ⟨(sn ++ [58, 32]).toArray⟩) ?_ (by kernel_rfl) (by kernel_rfl) (by kernel_rfl) ?_ (Or.inl ⟨?_, ?_⟩) hHeld ?_
      rotate_left 1
      · conv => lhs; simp only [List.getElem?_toArray, List.getElem?_cons_succ, List.getElem?_cons_zero]
      · exact fun _ _ _ h => h
      · rfl
      · intro W hSw
        exact tk_cat rfl rfl rfl (by omega) (by decide)
      try simp only [Act.put, List.setIfInBounds_toArray, List.set_cons_zero, List.set_cons_succ]
      refine wpAnyH_ready (rs := [4]) (by kernel_rfl) (by simp) ?_
      refine AllReadyH.cons (o := ?_) ?_ (fun K hK => ?_) AllReadyH.nil
      rotate_left 1
      · conv => lhs; simp only [List.getElem?_toArray, List.getElem?_cons_succ, List.getElem?_cons_zero]
      go_simp
      refine hK.out _ _ (up_trans hHeld (up_alloc _ _)) (fun hHeld => ?_)
      clear hK K
      try simp only [Act.put, List.setIfInBounds_toArray, List.set_cons_zero, List.set_cons_succ]
      refine wpAnyH_take (i := 8) (oi := ?_) (v := .pointer (some ⟨wB.heap.size, 0, none⟩)) ?_ (by kernel_rfl) (by kernel_rfl) (by kernel_rfl) ?_ (Or.inl ⟨?_, ?_⟩) hHeld ?_
      rotate_left 1
      · conv => lhs; simp only [List.getElem?_toArray, List.getElem?_cons_succ, List.getElem?_cons_zero]
      · exact fun _ _ _ h => h
      · rfl
      · intro W hSw
        have h' := HB2.up hSw HB2.lt
        have k0 := h'.cell 0 _ rfl
        have k4 := h'.cell 4 _ rfl
        go_simp
        try with_reducible rfl
      try simp only [Act.put, List.setIfInBounds_toArray, List.set_cons_zero, List.set_cons_succ]
      have q4 := names_new wB 0 _ rfl
      refine wpAnyH_ready (rs := [9]) (by kernel_rfl) (by simp) ?_
      refine AllReadyH.cons (o := ?_) ?_ (fun K hK => ?_) AllReadyH.nil
      rotate_left 1
      · conv => lhs; simp only [List.getElem?_toArray, List.getElem?_cons_succ, List.getElem?_cons_zero]
      go_simp
      refine hK.out _ _ (hHeld) (fun hHeld => ?_)
      clear hK K
      try simp only [Act.put, List.setIfInBounds_toArray, List.set_cons_zero, List.set_cons_succ]
      refine wpAnyH_take (i := 10) (oi := ?_) (v := .string ⟨((sn ++ [58, 32]) ++ [105, 110]).toArray⟩) ?_ (by kernel_rfl) (by kernel_rfl) (by kernel_rfl) ?_ (Or.inl ⟨?_, ?_⟩) hHeld ?_
      rotate_left 1
      · conv => lhs; simp only [List.getElem?_toArray, List.getElem?_cons_succ, List.getElem?_cons_zero]
      · exact fun _ _ _ h => h
      · rfl
      · intro W hSw
        exact tk_cat rfl rfl rfl (by simp; omega) (by decide)
      try simp only [Act.put, List.setIfInBounds_toArray, List.set_cons_zero, List.set_cons_succ]
      refine wpAnyH_take (i := 11) (oi := ?_) (v := ?_) ?_ (by kernel_rfl) (by kernel_rfl) (by kernel_rfl) ?_ (Or.inl ⟨?_, ?_⟩) hHeld ?_
      rotate_left 2
      · conv => lhs; simp only [List.getElem?_toArray, List.getElem?_cons_succ, List.getElem?_cons_zero]
      · exact fun _ _ _ h => h
      · rfl
      · intro W hSw
        have h' := HB2.up hSw HB2.lt
        have k0 := h'.cell 0 _ rfl
        have k4 := h'.cell 4 _ rfl
        go_simp
        try with_reducible rfl
      try simp only [Act.put, List.setIfInBounds_toArray, List.set_cons_zero, List.set_cons_succ]
      refine wpAnyH_done (by kernel_rfl) ?_ _
      go_wp2_with fail
      go_meet
      exact ⟨by simp, hHeld⟩
    refine AllReadyH.cons (o := ?_) ?_ (fun K hK => ?_) AllReadyH.nil
    rotate_left 1
    · conv => lhs; simp only [List.getElem?_toArray, List.getElem?_cons_succ, List.getElem?_cons_zero]
    go_simp
    refine hK.out _ _ (up_trans hHeld (up_alloc _ _)) (fun hHeld => ?_)
    clear hK K
    try simp only [Act.put, List.setIfInBounds_toArray, List.set_cons_zero, List.set_cons_succ]
    refine wpAnyH_take (i := 8) (oi := ?_) (v := .pointer (some ⟨w2.drew.heap.size, 0, none⟩)) ?_ (by kernel_rfl) (by kernel_rfl) (by kernel_rfl) ?_ (Or.inl ⟨?_, ?_⟩) hHeld ?_
    rotate_left 1
    · conv => lhs; simp only [List.getElem?_toArray, List.getElem?_cons_succ, List.getElem?_cons_zero]
    · exact fun _ _ _ h => h
    · rfl
    · intro W hSw
      have h' := HB2.up hSw HB2.lt
      have k0 := h'.cell 0 _ rfl
      have k4 := h'.cell 4 _ rfl
      go_simp
      try with_reducible rfl
    try simp only [Act.put, List.setIfInBounds_toArray, List.set_cons_zero, List.set_cons_succ]
    have q4 := names_new w2 0 _ rfl
    refine wpAnyH_ready (rs := [2, 9]) (by kernel_rfl) (by simp) ?_
    refine AllReadyH.cons (o := ?_) ?_ (fun K hK => ?_) ?_
    rotate_left 1
    · conv => lhs; simp only [List.getElem?_toArray, List.getElem?_cons_succ, List.getElem?_cons_zero]
    · go_simp
      refine (Cn.out _).mono ?_; rintro e wB ⟨rfl, hbB⟩
      have q5 : wB.cell? ⟨w2.heap.size, 0, none⟩ = some (.string ⟨#[105, 110]⟩) := names_cell (W := w2.drew) hbB 0 _ rfl
      clear q4
      go_wp2_with fail
      refine hK.out _ _ (up_trans hHeld hbB) (fun hHeld => ?_)
      clear hK K
      try simp only [Act.put, List.setIfInBounds_toArray, List.set_cons_zero, List.set_cons_succ]
      refine wpAnyH_take (i := 3) (oi := ?_) (v := .string ⟨(sn ++ [58, 32]).toArray⟩) ?_ (by kernel_rfl) (by kernel_rfl) (by kernel_rfl) ?_ (Or.inl ⟨?_, ?_⟩) hHeld ?_
      rotate_left 1
      · conv => lhs; simp only [List.getElem?_toArray, List.getElem?_cons_succ, List.getElem?_cons_zero]
      · exact fun _ _ _ h => h
      · rfl
      · intro W hSw
        exact tk_cat rfl rfl rfl (by omega) (by decide)
      try simp only [Act.put, List.setIfInBounds_toArray, List.set_cons_zero, List.set_cons_succ]
      refine wpAnyH_ready (rs := [9]) (by kernel_rfl) (by simp) ?_
      refine AllReadyH.cons (o := ?_) ?_ (fun K hK => ?_) AllReadyH.nil
      rotate_left 1
      · conv => lhs; simp only [List.getElem?_toArray, List.getElem?_cons_succ, List.getElem?_cons_zero]
      go_simp
      refine hK.out _ _ (hHeld) (fun hHeld => ?_)
      clear hK K
      try simp only [Act.put, List.setIfInBounds_toArray, List.set_cons_zero, List.set_cons_succ]
      refine wpAnyH_take (i := 10) (oi := ?_) (v := .string ⟨((sn ++ [58, 32]) ++ [105, 110]).toArray⟩) ?_ (by kernel_rfl) (by kernel_rfl) (by kernel_rfl) ?_ (Or.inl ⟨?_, ?_⟩) hHeld ?_
      rotate_left 1
      · conv => lhs; simp only [List.getElem?_toArray, List.getElem?_cons_succ, List.getElem?_cons_zero]
      · exact fun _ _ _ h => h
      · rfl
      · intro W hSw
        exact tk_cat rfl rfl rfl (by simp; omega) (by decide)
      try simp only [Act.put, List.setIfInBounds_toArray, List.set_cons_zero, List.set_cons_succ]
      refine wpAnyH_take (i := 11) (oi := ?_) (v := ?_) ?_ (by kernel_rfl) (by kernel_rfl) (by kernel_rfl) ?_ (Or.inl ⟨?_, ?_⟩) hHeld ?_
      rotate_left 2
      · conv => lhs; simp only [List.getElem?_toArray, List.getElem?_cons_succ, List.getElem?_cons_zero]
      · exact fun _ _ _ h => h
      · rfl
      · intro W hSw
        have h' := HB2.up hSw HB2.lt
        have k0 := h'.cell 0 _ rfl
        have k4 := h'.cell 4 _ rfl
        go_simp
        try with_reducible rfl
      try simp only [Act.put, List.setIfInBounds_toArray, List.set_cons_zero, List.set_cons_succ]
      refine wpAnyH_done (by kernel_rfl) ?_ _
      go_wp2_with fail
      go_meet
      exact ⟨by simp, hHeld⟩
    refine AllReadyH.cons (o := ?_) ?_ (fun K hK => ?_) AllReadyH.nil
    rotate_left 1
    · conv => lhs; simp only [List.getElem?_toArray, List.getElem?_cons_succ, List.getElem?_cons_zero]
    go_simp
    refine hK.out _ _ (hHeld) (fun hHeld => ?_)
    clear hK K
    try simp only [Act.put, List.setIfInBounds_toArray, List.set_cons_zero, List.set_cons_succ]
    refine wpAnyH_ready (rs := [2]) (by kernel_rfl) (by simp) ?_
    refine AllReadyH.cons (o := ?_) ?_ (fun K hK => ?_) AllReadyH.nil
    rotate_left 1
    · conv => lhs; simp only [List.getElem?_toArray, List.getElem?_cons_succ, List.getElem?_cons_zero]
    go_simp
    refine (Cn.out _).mono ?_; rintro e wB ⟨rfl, hbB⟩
    go_wp2_with fail
    refine hK.out _ _ (up_trans hHeld hbB) (fun hHeld => ?_)
    clear hK K
    try simp only [Act.put, List.setIfInBounds_toArray, List.set_cons_zero, List.set_cons_succ]
    refine wpAnyH_take (i := 3) (oi := ?_) (v := .string ⟨(sn ++ [58, 32]).toArray⟩) ?_ (by kernel_rfl) (by kernel_rfl) (by kernel_rfl) ?_ (Or.inl ⟨?_, ?_⟩) hHeld ?_
    rotate_left 1
    · conv => lhs; simp only [List.getElem?_toArray, List.getElem?_cons_succ, List.getElem?_cons_zero]
    · exact fun _ _ _ h => h
    · rfl
    · intro W hSw
      exact tk_cat rfl rfl rfl (by omega) (by decide)
    try simp only [Act.put, List.setIfInBounds_toArray, List.set_cons_zero, List.set_cons_succ]
    refine wpAnyH_take (i := 10) (oi := ?_) (v := .string ⟨((sn ++ [58, 32]) ++ [105, 110]).toArray⟩) ?_ (by kernel_rfl) (by kernel_rfl) (by kernel_rfl) ?_ (Or.inl ⟨?_, ?_⟩) hHeld ?_
    rotate_left 1
    · conv => lhs; simp only [List.getElem?_toArray, List.getElem?_cons_succ, List.getElem?_cons_zero]
    · exact fun _ _ _ h => h
    · rfl
    · intro W hSw
      exact tk_cat rfl rfl rfl (by simp; omega) (by decide)
    try simp only [Act.put, List.setIfInBounds_toArray, List.set_cons_zero, List.set_cons_succ]
    refine wpAnyH_take (i := 11) (oi := ?_) (v := ?_) ?_ (by kernel_rfl) (by kernel_rfl) (by kernel_rfl) ?_ (Or.inl ⟨?_, ?_⟩) hHeld ?_
    rotate_left 2
    · conv => lhs; simp only [List.getElem?_toArray, List.getElem?_cons_succ, List.getElem?_cons_zero]
    · exact fun _ _ _ h => h
    · rfl
    · intro W hSw
      have h' := HB2.up hSw HB2.lt
      have k0 := h'.cell 0 _ rfl
      have k4 := h'.cell 4 _ rfl
      go_simp
      try with_reducible rfl
    try simp only [Act.put, List.setIfInBounds_toArray, List.set_cons_zero, List.set_cons_succ]
    refine wpAnyH_done (by kernel_rfl) ?_ _
    go_wp2_with fail
    go_meet
    exact ⟨by simp, hHeld⟩
  case rest =>
    obtain ⟨rfl, hbc⟩ := hcut
    have HB4 := HB2.up hbc HB2.lt
    have HU4 := Lib.hid (up_trans HU2.out hbc)
    clear HB2 HU2 hbc
    have j0 := HB4.cell 0 _ rfl
    have i1 := cell_regrown (HB4.cell 1 _ rfl)
    have i2 := cell_regrown (HB4.cell 2 _ rfl)
    have i3 := cell_regrown (HB4.cell 3 _ rfl)
    have i4 := cell_regrown (HB4.cell 4 _ rfl)
    have cA := grown_call (w := wc) fun W _ => Co.out W
    have cB := grown_call (w := wc) fun W _ => Cr.out W
    clear HB4
    go_wp2_with fail
    refine wp_region_quiet_below (by kernel_rfl) (by kernel_rfl) ?_
    repeat (go_big_quiet_step (first | (with_reducible exact cA _ _) | (with_reducible exact cB _ _)))
    refine wpQuiet_nil ?_
    intro _ hw'
    obtain ⟨⟨dq, osq⟩, hw''⟩ := hw'
    have HQ := Lib.hid (up_trans HU4.out (hw'' ▸ below_regrown wc dq osq))
    clear hw'' j0 i1 i2 i3 i4 cA cB
    go_wp2
    go_ret2
    refine ⟨ret_str2 ?_ rfl, HQ.out⟩
    rw [HX.out]
    apply ByteArray.ext
    simp
set_option maxRecDepth 100000 in
set_option maxHeartbeats 4000000 in
theorem c_rtext2 (o v r n : Int) (h0 : chkE 2 o v r n = 0) (w : World) :
    Calls Tryd.prog 7 #[.agg #[.int .i64 2, .int .i64 o, .int .i64 v, .int .i64 r, .int .i64 n]] w fun e w' => e = .returned (.tuple #[.string ⟨(textL 2 o v r n).toArray⟩, .int .i64 0]) ∧ Below w.heap.size w w' := by
  have HB := Blk.new w [.int .i64 2, .int .i64 o, .int .i64 v, .int .i64 r, .int .i64 n] 23
  have HU := up_alloc w (.cells #[.int .i64 2, .int .i64 o, .int .i64 v, .int .i64 r, .int .i64 n] 23)
  have CC := Lib.hid (c_rcheck 2 o v r n (w.alloc (.cells #[.int .i64 2, .int .i64 o, .int .i64 v, .int .i64 r, .int .i64 n] 23)))
  rw [h0] at CC
  have HF := Lib.hid (fit_of h0)
  clear h0
  have CD := Lib.hid (fun (x : Int) (h : -1099511627776 ≤ x ∧ x ≤ 1099511627776) (W : World) => c_rdigits x h.1 h.2 W)
  have bn : -1099511627776 ≤ n ∧ n ≤ 1099511627776 := by have := HF.out.n0; have := HF.out.n1; omega
  have ln := it_len (n := n) (by omega) (by omega)
  have Cn := Lib.hid (CD.out n bn)
  have bo : -1099511627776 ≤ o ∧ o ≤ 1099511627776 := by have := HF.out.o0; have := HF.out.o1; omega
  have lo := it_len (n := o) (by omega) (by omega)
  have Co := Lib.hid (CD.out o bo)
  have bv : -1099511627776 ≤ v ∧ v ≤ 1099511627776 := by have := HF.out.v0; have := HF.out.v1; omega
  have lv := it_len (n := v) (by omega) (by omega)
  have Cv := Lib.hid (CD.out v bv)
  have br : -1099511627776 ≤ r ∧ r ≤ 1099511627776 := by have := HF.out.r0; have := HF.out.r1; omega
  have lr := it_len (n := r) (by omega) (by omega)
  have Cr := Lib.hid (CD.out r br)
  have HX := Lib.hid (show textL 2 o v r n = Lib.itoa n ++ ([58, 32] ++ wantL 2 o v r) from rfl)
  rw [want2] at HX
  generalize Lib.itoa n = sn at ln Cn HX
  generalize Lib.itoa o = so at lo Co HX
  generalize Lib.itoa v = sv at lv Cv HX
  generalize Lib.itoa r = sr at lr Cr HX
  clear bn bo bv br CD
  go_enter Tryd.func7, Tryd.ntmps7
  go_wp2_with fail
  refine CC.out.mono ?_; rintro e w2 ⟨rfl, hb2⟩
  have HB2 := HB.up hb2 HB.lt
  have HU2 := Lib.hid (up_trans HU hb2)
  clear HB HU CC hb2
  go_upto_region 4 with fail
  go_cut [5] (fun s5 wx => s5 = .string ⟨(sn ++ ([58, 32] ++ [111, 117, 116])).toArray⟩ ∧ Below w2.heap.size w2 wx)
  case first =>
    refine wp_region_held_drew (S := fun W => Below w2.heap.size w2 W) (by kernel_rfl) ((Below.refl _ _).drew) (fun hHeld => ?_)
    refine wpAnyH_take (i := 0) (oi := ?_) (v := ?_) ?_ (by kernel_rfl) (by kernel_rfl) (by kernel_rfl) ?_ (Or.inl ⟨?_, ?_⟩) hHeld ?_
    rotate_left 2
    · conv => lhs; simp only [List.getElem?_toArray, List.getElem?_cons_succ, List.getElem?_cons_zero]
    · exact fun _ _ _ h => h
    · rfl
    · intro W hSw
      have h' := HB2.up hSw HB2.lt
      have k0 := h'.cell 0 _ rfl
      have k4 := h'.cell 4 _ rfl
      go_simp
      try with_reducible rfl
    try simp only [Act.put, List.setIfInBounds_toArray, List.set_cons_zero, List.set_cons_succ]
    refine wpAnyH_take (i := 1) (oi := ?_) (v := ?_) ?_ (by kernel_rfl) (by kernel_rfl) (by kernel_rfl) ?_ (Or.inl ⟨?_, ?_⟩) hHeld ?_
    rotate_left 2
    · conv => lhs; simp only [List.getElem?_toArray, List.getElem?_cons_succ, List.getElem?_cons_zero]
    · exact fun _ _ _ h => h
    · rfl
    · intro W hSw
      have h' := HB2.up hSw HB2.lt
      have k0 := h'.cell 0 _ rfl
      have k4 := h'.cell 4 _ rfl
      go_simp
      try with_reducible rfl
    try simp only [Act.put, List.setIfInBounds_toArray, List.set_cons_zero, List.set_cons_succ]
    refine wpAnyH_take (i := 5) (oi := ?_) (v := ?_) ?_ (by kernel_rfl) (by kernel_rfl) (by kernel_rfl) ?_ (Or.inl ⟨?_, ?_⟩) hHeld ?_
    rotate_left 2
    · conv => lhs; simp only [List.getElem?_toArray, List.getElem?_cons_succ, List.getElem?_cons_zero]
    · exact fun _ _ _ h => h
    · rfl
    · intro W hSw
      have h' := HB2.up hSw HB2.lt
      have k0 := h'.cell 0 _ rfl
      have k4 := h'.cell 4 _ rfl
      go_simp
      try with_reducible rfl
    try simp only [Act.put, List.setIfInBounds_toArray, List.set_cons_zero, List.set_cons_succ]
    refine wpAnyH_take (i := 6) (oi := ?_) (v := ?_) ?_ (by kernel_rfl) (by kernel_rfl) (by kernel_rfl) ?_ (Or.inl ⟨?_, ?_⟩) hHeld ?_
    rotate_left 2
    · conv => lhs; simp only [List.getElem?_toArray, List.getElem?_cons_succ, List.getElem?_cons_zero]
    · exact fun _ _ _ h => h
    · rfl
    · intro W hSw
      have h' := HB2.up hSw HB2.lt
      have k0 := h'.cell 0 _ rfl
      have k4 := h'.cell 4 _ rfl
      go_simp
      try with_reducible rfl
    try simp only [Act.put, List.setIfInBounds_toArray, List.set_cons_zero, List.set_cons_succ]
    refine wpAnyH_take (i := 7) (oi := ?_) (v := .int .i64 1) ?_ (by kernel_rfl) (by kernel_rfl) (by kernel_rfl) ?_ (Or.inl ⟨?_, ?_⟩) hHeld ?_
    rotate_left 1
    · conv => lhs; simp only [List.getElem?_toArray, List.getElem?_cons_succ, List.getElem?_cons_zero]
    · exact fun _ _ _ h => h
    · rfl
    · intro W hSw
      go_simp
      try rfl
    try simp only [Act.put, List.setIfInBounds_toArray, List.set_cons_zero, List.set_cons_succ]
    refine wpAnyH_ready (rs := [2, 4]) (by kernel_rfl) (by simp) ?_
    refine AllReadyH.cons (o := ?_) ?_ (fun K hK => ?_) ?_
    rotate_left 1
    · conv => lhs; simp only [List.getElem?_toArray, List.getElem?_cons_succ, List.getElem?_cons_zero]
    · go_simp
      refine (Cn.out _).mono ?_; rintro e wB ⟨rfl, hbB⟩
      go_wp2_with fail
      refine hK.out _ _ (up_trans hHeld hbB) (fun hHeld => ?_)
      clear hK K
      try simp only [Act.put, List.setIfInBounds_toArray, List.set_cons_zero, List.set_cons_succ]
      refine wpAnyH_take (i := 3) (oi := ?_) (v := .string ⟨(sn ++ [58, 32]).toArray⟩) ?_ (by kernel_rfl) (by kernel_rfl) (by kernel_rfl) ?_ (Or.inl ⟨?_, ?_⟩) hHeld ?_
      rotate_left 1
      · conv => lhs; simp only [List.getElem?_toArray, List.getElem?_cons_succ, List.getElem?_cons_zero]
      · exact fun _ _ _ h => h
      · rfl
      · intro W hSw
        exact tk_cat rfl rfl rfl (by omega) (by decide)
      try simp only [Act.put, List.setIfInBounds_toArray, List.set_cons_zero, List.set_cons_succ]
      refine wpAnyH_ready (rs := [4]) (by kernel_rfl) (by simp) ?_
      refine AllReadyH.cons (o := ?_) ?_ (fun K hK => ?_) AllReadyH.nil
      rotate_left 1
      · conv => lhs; simp only [List.getElem?_toArray, List.getElem?_cons_succ, List.getElem?_cons_zero]
      go_simp
      refine hK.out _ _ (up_trans hHeld (up_alloc _ _)) (fun hHeld => ?_)
      clear hK K
      try simp only [Act.put, List.setIfInBounds_toArray, List.set_cons_zero, List.set_cons_succ]
      refine wpAnyH_take (i := 8) (oi := ?_) (v := .pointer (some ⟨wB.heap.size, 1, none⟩)) ?_ (by kernel_rfl) (by kernel_rfl) (by kernel_rfl) ?_ (Or.inl ⟨?_, ?_⟩) hHeld ?_
      rotate_left 1
      · conv => lhs; simp only [List.getElem?_toArray, List.getElem?_cons_succ, List.getElem?_cons_zero]
      · exact fun _ _ _ h => h
      · rfl
      · intro W hSw
        have h' := HB2.up hSw HB2.lt
        have k0 := h'.cell 0 _ rfl
        have k4 := h'.cell 4 _ rfl
        go_simp
        try with_reducible rfl
      try simp only [Act.put, List.setIfInBounds_toArray, List.set_cons_zero, List.set_cons_succ]
      have q4 := names_new wB 1 _ rfl
      refine wpAnyH_ready (rs := [9]) (by kernel_rfl) (by simp) ?_
      refine AllReadyH.cons (o := ?_) ?_ (fun K hK => ?_) AllReadyH.nil
      rotate_left 1
      · conv => lhs; simp only [List.getElem?_toArray, List.getElem?_cons_succ, List.getElem?_cons_zero]
      go_simp
      refine hK.out _ _ (hHeld) (fun hHeld => ?_)
      clear hK K
      try simp only [Act.put, List.setIfInBounds_toArray, List.set_cons_zero, List.set_cons_succ]
      refine wpAnyH_take (i := 10) (oi := ?_) (v := .string ⟨((sn ++ [58, 32]) ++ [111, 117, 116]).toArray⟩) ?_ (by kernel_rfl) (by kernel_rfl) (by kernel_rfl) ?_ (Or.inl ⟨?_, ?_⟩) hHeld ?_
      rotate_left 1
      · conv => lhs; simp only [List.getElem?_toArray, List.getElem?_cons_succ, List.getElem?_cons_zero]
      · exact fun _ _ _ h => h
      · rfl
      · intro W hSw
        exact tk_cat rfl rfl rfl (by simp; omega) (by decide)
      try simp only [Act.put, List.setIfInBounds_toArray, List.set_cons_zero, List.set_cons_succ]
      refine wpAnyH_take (i := 11) (oi := ?_) (v := ?_) ?_ (by kernel_rfl) (by kernel_rfl) (by kernel_rfl) ?_ (Or.inl ⟨?_, ?_⟩) hHeld ?_
      rotate_left 2
      · conv => lhs; simp only [List.getElem?_toArray, List.getElem?_cons_succ, List.getElem?_cons_zero]
      · exact fun _ _ _ h => h
      · rfl
      · intro W hSw
        have h' := HB2.up hSw HB2.lt
        have k0 := h'.cell 0 _ rfl
        have k4 := h'.cell 4 _ rfl
        go_simp
        try with_reducible rfl
      try simp only [Act.put, List.setIfInBounds_toArray, List.set_cons_zero, List.set_cons_succ]
      refine wpAnyH_done (by kernel_rfl) ?_ _
      go_wp2_with fail
      go_meet
      exact ⟨by simp, hHeld⟩
    refine AllReadyH.cons (o := ?_) ?_ (fun K hK => ?_) AllReadyH.nil
    rotate_left 1
    · conv => lhs; simp only [List.getElem?_toArray, List.getElem?_cons_succ, List.getElem?_cons_zero]
    go_simp
    refine hK.out _ _ (up_trans hHeld (up_alloc _ _)) (fun hHeld => ?_)
    clear hK K
    try simp only [Act.put, List.setIfInBounds_toArray, List.set_cons_zero, List.set_cons_succ]
    refine wpAnyH_take (i := 8) (oi := ?_) (v := .pointer (some ⟨w2.drew.heap.size, 1, none⟩)) ?_ (by kernel_rfl) (by kernel_rfl) (by kernel_rfl) ?_ (Or.inl ⟨?_, ?_⟩) hHeld ?_
    rotate_left 1
    · conv => lhs; simp only [List.getElem?_toArray, List.getElem?_cons_succ, List.getElem?_cons_zero]
    · exact fun _ _ _ h => h
    · rfl
    · intro W hSw
      have h' := HB2.up hSw HB2.lt
      have k0 := h'.cell 0 _ rfl
      have k4 := h'.cell 4 _ rfl
      go_simp
      try with_reducible rfl
    try simp only [Act.put, List.setIfInBounds_toArray, List.set_cons_zero, List.set_cons_succ]
    have q4 := names_new w2 1 _ rfl
    refine wpAnyH_ready (rs := [2, 9]) (by kernel_rfl) (by simp) ?_
    refine AllReadyH.cons (o := ?_) ?_ (fun K hK => ?_) ?_
    rotate_left 1
    · conv => lhs; simp only [List.getElem?_toArray, List.getElem?_cons_succ, List.getElem?_cons_zero]
    · go_simp
      refine (Cn.out _).mono ?_; rintro e wB ⟨rfl, hbB⟩
      have q5 : wB.cell? ⟨w2.heap.size, 1, none⟩ = some (.string ⟨#[111, 117, 116]⟩) := names_cell (W := w2.drew) hbB 1 _ rfl
      clear q4
      go_wp2_with fail
      refine hK.out _ _ (up_trans hHeld hbB) (fun hHeld => ?_)
      clear hK K
      try simp only [Act.put, List.setIfInBounds_toArray, List.set_cons_zero, List.set_cons_succ]
      refine wpAnyH_take (i := 3) (oi := ?_) (v := .string ⟨(sn ++ [58, 32]).toArray⟩) ?_ (by kernel_rfl) (by kernel_rfl) (by kernel_rfl) ?_ (Or.inl ⟨?_, ?_⟩) hHeld ?_
      rotate_left 1
      · conv => lhs; simp only [List.getElem?_toArray, List.getElem?_cons_succ, List.getElem?_cons_zero]
      · exact fun _ _ _ h => h
      · rfl
      · intro W hSw
        exact tk_cat rfl rfl rfl (by omega) (by decide)
      try simp only [Act.put, List.setIfInBounds_toArray, List.set_cons_zero, List.set_cons_succ]
      refine wpAnyH_ready (rs := [9]) (by kernel_rfl) (by simp) ?_
      refine AllReadyH.cons (o := ?_) ?_ (fun K hK => ?_) AllReadyH.nil
      rotate_left 1
      · conv => lhs; simp only [List.getElem?_toArray, List.getElem?_cons_succ, List.getElem?_cons_zero]
      go_simp
      refine hK.out _ _ (hHeld) (fun hHeld => ?_)
      clear hK K
      try simp only [Act.put, List.setIfInBounds_toArray, List.set_cons_zero, List.set_cons_succ]
      refine wpAnyH_take (i := 10) (oi := ?_) (v := .string ⟨((sn ++ [58, 32]) ++ [111, 117, 116]).toArray⟩) ?_ (by kernel_rfl) (by kernel_rfl) (by kernel_rfl) ?_ (Or.inl ⟨?_, ?_⟩) hHeld ?_
      rotate_left 1
      · conv => lhs; simp only [List.getElem?_toArray, List.getElem?_cons_succ, List.getElem?_cons_zero]
      · exact fun _ _ _ h => h
      · rfl
      · intro W hSw
        exact tk_cat rfl rfl rfl (by simp; omega) (by decide)
      try simp only [Act.put, List.setIfInBounds_toArray, List.set_cons_zero, List.set_cons_succ]
      refine wpAnyH_take (i := 11) (oi := ?_) (v := ?_) ?_ (by kernel_rfl) (by kernel_rfl) (by kernel_rfl) ?_ (Or.inl ⟨?_, ?_⟩) hHeld ?_
      rotate_left 2
      · conv => lhs; simp only [List.getElem?_toArray, List.getElem?_cons_succ, List.getElem?_cons_zero]
      · exact fun _ _ _ h => h
      · rfl
      · intro W hSw
        have h' := HB2.up hSw HB2.lt
        have k0 := h'.cell 0 _ rfl
        have k4 := h'.cell 4 _ rfl
        go_simp
        try with_reducible rfl
      try simp only [Act.put, List.setIfInBounds_toArray, List.set_cons_zero, List.set_cons_succ]
      refine wpAnyH_done (by kernel_rfl) ?_ _
      go_wp2_with fail
      go_meet
      exact ⟨by simp, hHeld⟩
    refine AllReadyH.cons (o := ?_) ?_ (fun K hK => ?_) AllReadyH.nil
    rotate_left 1
    · conv => lhs; simp only [List.getElem?_toArray, List.getElem?_cons_succ, List.getElem?_cons_zero]
    go_simp
    refine hK.out _ _ (hHeld) (fun hHeld => ?_)
    clear hK K
    try simp only [Act.put, List.setIfInBounds_toArray, List.set_cons_zero, List.set_cons_succ]
    refine wpAnyH_ready (rs := [2]) (by kernel_rfl) (by simp) ?_
    refine AllReadyH.cons (o := ?_) ?_ (fun K hK => ?_) AllReadyH.nil
    rotate_left 1
    · conv => lhs; simp only [List.getElem?_toArray, List.getElem?_cons_succ, List.getElem?_cons_zero]
    go_simp
    refine (Cn.out _).mono ?_; rintro e wB ⟨rfl, hbB⟩
    go_wp2_with fail
    refine hK.out _ _ (up_trans hHeld hbB) (fun hHeld => ?_)
    clear hK K
    try simp only [Act.put, List.setIfInBounds_toArray, List.set_cons_zero, List.set_cons_succ]
    refine wpAnyH_take (i := 3) (oi := ?_) (v := .string ⟨(sn ++ [58, 32]).toArray⟩) ?_ (by kernel_rfl) (by kernel_rfl) (by kernel_rfl) ?_ (Or.inl ⟨?_, ?_⟩) hHeld ?_
    rotate_left 1
    · conv => lhs; simp only [List.getElem?_toArray, List.getElem?_cons_succ, List.getElem?_cons_zero]
    · exact fun _ _ _ h => h
    · rfl
    · intro W hSw
      exact tk_cat rfl rfl rfl (by omega) (by decide)
    try simp only [Act.put, List.setIfInBounds_toArray, List.set_cons_zero, List.set_cons_succ]
    refine wpAnyH_take (i := 10) (oi := ?_) (v := .string ⟨((sn ++ [58, 32]) ++ [111, 117, 116]).toArray⟩) ?_ (by kernel_rfl) (by kernel_rfl) (by kernel_rfl) ?_ (Or.inl ⟨?_, ?_⟩) hHeld ?_
    rotate_left 1
    · conv => lhs; simp only [List.getElem?_toArray, List.getElem?_cons_succ, List.getElem?_cons_zero]
    · exact fun _ _ _ h => h
    · rfl
    · intro W hSw
      exact tk_cat rfl rfl rfl (by simp; omega) (by decide)
    try simp only [Act.put, List.setIfInBounds_toArray, List.set_cons_zero, List.set_cons_succ]
    refine wpAnyH_take (i := 11) (oi := ?_) (v := ?_) ?_ (by kernel_rfl) (by kernel_rfl) (by kernel_rfl) ?_ (Or.inl ⟨?_, ?_⟩) hHeld ?_
    rotate_left 2
    · conv => lhs; simp only [List.getElem?_toArray, List.getElem?_cons_succ, List.getElem?_cons_zero]
    · exact fun _ _ _ h => h
    · rfl
    · intro W hSw
      have h' := HB2.up hSw HB2.lt
      have k0 := h'.cell 0 _ rfl
      have k4 := h'.cell 4 _ rfl
      go_simp
      try with_reducible rfl
    try simp only [Act.put, List.setIfInBounds_toArray, List.set_cons_zero, List.set_cons_succ]
    refine wpAnyH_done (by kernel_rfl) ?_ _
    go_wp2_with fail
    go_meet
    exact ⟨by simp, hHeld⟩
  case rest =>
    obtain ⟨rfl, hbc⟩ := hcut
    have HB4 := HB2.up hbc HB2.lt
    have HU4 := Lib.hid (up_trans HU2.out hbc)
    clear HB2 HU2 hbc
    have j0 := HB4.cell 0 _ rfl
    have i1 := cell_regrown (HB4.cell 1 _ rfl)
    have i2 := cell_regrown (HB4.cell 2 _ rfl)
    have i3 := cell_regrown (HB4.cell 3 _ rfl)
    have i4 := cell_regrown (HB4.cell 4 _ rfl)
    have cA := grown_call (w := wc) fun W _ => Co.out W
    have cB := grown_call (w := wc) fun W _ => Cv.out W
    clear HB4
    go_wp2_with fail
    refine wp_region_quiet_below (by kernel_rfl) (by kernel_rfl) ?_
    repeat (go_big_quiet_step (first | (with_reducible exact cA _ _) | (with_reducible exact cB _ _)))
    refine wpQuiet_nil ?_
    intro _ hw'
    obtain ⟨⟨dq, osq⟩, hw''⟩ := hw'
    have HQ := Lib.hid (up_trans HU4.out (hw'' ▸ below_regrown wc dq osq))
    clear hw'' j0 i1 i2 i3 i4 cA cB
    go_wp2
    go_ret2
    refine ⟨ret_str2 ?_ rfl, HQ.out⟩
    rw [HX.out]
    apply ByteArray.ext
    simp
set_option maxRecDepth 100000 in
set_option maxHeartbeats 4000000 in
theorem c_rtext3 (o v r n : Int) (h0 : chkE 3 o v r n = 0) (w : World) :
    Calls Tryd.prog 7 #[.agg #[.int .i64 3, .int .i64 o, .int .i64 v, .int .i64 r, .int .i64 n]] w fun e w' => e = .returned (.tuple #[.string ⟨(textL 3 o v r n).toArray⟩, .int .i64 0]) ∧ Below w.heap.size w w' := by
  have HB := Blk.new w [.int .i64 3, .int .i64 o, .int .i64 v, .int .i64 r, .int .i64 n] 23
  have HU := up_alloc w (.cells #[.int .i64 3, .int .i64 o, .int .i64 v, .int .i64 r, .int .i64 n] 23)
  have CC := Lib.hid (c_rcheck 3 o v r n (w.alloc (.cells #[.int .i64 3, .int .i64 o, .int .i64 v, .int .i64 r, .int .i64 n] 23)))
  rw [h0] at CC
  have HF := Lib.hid (fit_of h0)
  clear h0
  have CD := Lib.hid (fun (x : Int) (h : -1099511627776 ≤ x ∧ x ≤ 1099511627776) (W : World) => c_rdigits x h.1 h.2 W)
  have bn : -1099511627776 ≤ n ∧ n ≤ 1099511627776 := by have := HF.out.n0; have := HF.out.n1; omega
  have ln := it_len (n := n) (by omega) (by omega)
  have Cn := Lib.hid (CD.out n bn)
  have bo : -1099511627776 ≤ o ∧ o ≤ 1099511627776 := by have := HF.out.o0; have := HF.out.o1; omega
  have lo := it_len (n := o) (by omega) (by omega)
  have Co := Lib.hid (CD.out o bo)
  have bv : -1099511627776 ≤ v ∧ v ≤ 1099511627776 := by have := HF.out.v0; have := HF.out.v1; omega
  have lv := it_len (n := v) (by omega) (by omega)
  have Cv := Lib.hid (CD.out v bv)
  have br : -1099511627776 ≤ r ∧ r ≤ 1099511627776 := by have := HF.out.r0; have := HF.out.r1; omega
  have lr := it_len (n := r) (by omega) (by omega)
  have Cr := Lib.hid (CD.out r br)
  have HX := Lib.hid (show textL 3 o v r n = Lib.itoa n ++ ([58, 32] ++ wantL 3 o v r) from rfl)
  rw [want3] at HX
  generalize Lib.itoa n = sn at ln Cn HX
  generalize Lib.itoa o = so at lo Co HX
  generalize Lib.itoa v = sv at lv Cv HX
  generalize Lib.itoa r = sr at lr Cr HX
  clear bn bo bv br CD
  go_enter Tryd.func7, Tryd.ntmps7
  go_wp2_with fail
  refine CC.out.mono ?_; rintro e w2 ⟨rfl, hb2⟩
  have HB2 := HB.up hb2 HB.lt
  have HU2 := Lib.hid (up_trans HU hb2)
  clear HB HU CC hb2
  go_upto_region 4 with fail
  go_cut [5] (fun s5 wx => s5 = .string ⟨(sn ++ ([58, 32] ++ [98, 97, 114])).toArray⟩ ∧ Below w2.heap.size w2 wx)
  case first =>
    refine wp_region_held_drew (S := fun W => Below w2.heap.size w2 W) (by kernel_rfl) ((Below.refl _ _).drew) (fun hHeld => ?_)
    refine wpAnyH_take (i := 0) (oi := ?_) (v := ?_) ?_ (by kernel_rfl) (by kernel_rfl) (by kernel_rfl) ?_ (Or.inl ⟨?_, ?_⟩) hHeld ?_
    rotate_left 2
    · conv => lhs; simp only [List.getElem?_toArray, List.getElem?_cons_succ, List.getElem?_cons_zero]
    · exact fun _ _ _ h => h
    · rfl
    · intro W hSw
      have h' := HB2.up hSw HB2.lt
      have k0 := h'.cell 0 _ rfl
      have k4 := h'.cell 4 _ rfl
      go_simp
      try with_reducible rfl
    try simp only [Act.put, List.setIfInBounds_toArray, List.set_cons_zero, List.set_cons_succ]
    refine wpAnyH_take (i := 1) (oi := ?_) (v := ?_) ?_ (by kernel_rfl) (by kernel_rfl) (by kernel_rfl) ?_ (Or.inl ⟨?_, ?_⟩) hHeld ?_
    rotate_left 2
    · conv => lhs; simp only [List.getElem?_toArray, List.getElem?_cons_succ, List.getElem?_cons_zero]
    · exact fun _ _ _ h => h
    · rfl
    · intro W hSw
      have h' := HB2.up hSw HB2.lt
      have k0 := h'.cell 0 _ rfl
      have k4 := h'.cell 4 _ rfl
      go_simp
      try with_reducible rfl
    try simp only [Act.put, List.setIfInBounds_toArray, List.set_cons_zero, List.set_cons_succ]
    refine wpAnyH_take (i := 5) (oi := ?_) (v := ?_) ?_ (by kernel_rfl) (by kernel_rfl) (by kernel_rfl) ?_ (Or.inl ⟨?_, ?_⟩) hHeld ?_
    rotate_left 2
    · conv => lhs; simp only [List.getElem?_toArray, List.getElem?_cons_succ, List.getElem?_cons_zero]
    · exact fun _ _ _ h => h
    · rfl
    · intro W hSw
      have h' := HB2.up hSw HB2.lt
      have k0 := h'.cell 0 _ rfl
      have k4 := h'.cell 4 _ rfl
      go_simp
      try with_reducible rfl
    try simp only [Act.put, List.setIfInBounds_toArray, List.set_cons_zero, List.set_cons_succ]
    refine wpAnyH_take (i := 6) (oi := ?_) (v := ?_) ?_ (by kernel_rfl) (by kernel_rfl) (by kernel_rfl) ?_ (Or.inl ⟨?_, ?_⟩) hHeld ?_
    rotate_left 2
    · conv => lhs; simp only [List.getElem?_toArray, List.getElem?_cons_succ, List.getElem?_cons_zero]
    · exact fun _ _ _ h => h
    · rfl
    · intro W hSw
      have h' := HB2.up hSw HB2.lt
      have k0 := h'.cell 0 _ rfl
      have k4 := h'.cell 4 _ rfl
      go_simp
      try with_reducible rfl
    try simp only [Act.put, List.setIfInBounds_toArray, List.set_cons_zero, List.set_cons_succ]
    refine wpAnyH_take (i := 7) (oi := ?_) (v := .int .i64 2) ?_ (by kernel_rfl) (by kernel_rfl) (by kernel_rfl) ?_ (Or.inl ⟨?_, ?_⟩) hHeld ?_
    rotate_left 1
    · conv => lhs; simp only [List.getElem?_toArray, List.getElem?_cons_succ, List.getElem?_cons_zero]
    · exact fun _ _ _ h => h
    · rfl
    · intro W hSw
      go_simp
      try rfl
    try simp only [Act.put, List.setIfInBounds_toArray, List.set_cons_zero, List.set_cons_succ]
    refine wpAnyH_ready (rs := [2, 4]) (by kernel_rfl) (by simp) ?_
    refine AllReadyH.cons (o := ?_) ?_ (fun K hK => ?_) ?_
    rotate_left 1
    · conv => lhs; simp only [List.getElem?_toArray, List.getElem?_cons_succ, List.getElem?_cons_zero]
    · go_simp
      refine (Cn.out _).mono ?_; rintro e wB ⟨rfl, hbB⟩
      go_wp2_with fail
      refine hK.out _ _ (up_trans hHeld hbB) (fun hHeld => ?_)
      clear hK K
      try simp only [Act.put, List.setIfInBounds_toArray, List.set_cons_zero, List.set_cons_succ]
      refine wpAnyH_take (i := 3) (oi := ?_) (v := .string ⟨(sn ++ [58, 32]).toArray⟩) ?_ (by kernel_rfl) (by kernel_rfl) (by kernel_rfl) ?_ (Or.inl ⟨?_, ?_⟩) hHeld ?_
      rotate_left 1
      · conv => lhs; simp only [List.getElem?_toArray, List.getElem?_cons_succ, List.getElem?_cons_zero]
      · exact fun _ _ _ h => h
      · rfl
      · intro W hSw
        exact tk_cat rfl rfl rfl (by omega) (by decide)
      try simp only [Act.put, List.setIfInBounds_toArray, List.set_cons_zero, List.set_cons_succ]
      refine wpAnyH_ready (rs := [4]) (by kernel_rfl) (by simp) ?_
      refine AllReadyH.cons (o := ?_) ?_ (fun K hK => ?_) AllReadyH.nil
      rotate_left 1
      · conv => lhs; simp only [List.getElem?_toArray, List.getElem?_cons_succ, List.getElem?_cons_zero]
      go_simp
      refine hK.out _ _ (up_trans hHeld (up_alloc _ _)) (fun hHeld => ?_)
      clear hK K
      try simp only [Act.put, List.setIfInBounds_toArray, List.set_cons_zero, List.set_cons_succ]
      refine wpAnyH_take (i := 8) (oi := ?_) (v := .pointer (some ⟨wB.heap.size, 2, none⟩)) ?_ (by kernel_rfl) (by kernel_rfl) (by kernel_rfl) ?_ (Or.inl ⟨?_, ?_⟩) hHeld ?_
      rotate_left 1
      · conv => lhs; simp only [List.getElem?_toArray, List.getElem?_cons_succ, List.getElem?_cons_zero]
      · exact fun _ _ _ h => h
      · rfl
      · intro W hSw
        have h' := HB2.up hSw HB2.lt
        have k0 := h'.cell 0 _ rfl
        have k4 := h'.cell 4 _ rfl
        go_simp
        try with_reducible rfl
      try simp only [Act.put, List.setIfInBounds_toArray, List.set_cons_zero, List.set_cons_succ]
      have q4 := names_new wB 2 _ rfl
      refine wpAnyH_ready (rs := [9]) (by kernel_rfl) (by simp) ?_
      refine AllReadyH.cons (o := ?_) ?_ (fun K hK => ?_) AllReadyH.nil
      rotate_left 1
      · conv => lhs; simp only [List.getElem?_toArray, List.getElem?_cons_succ, List.getElem?_cons_zero]
      go_simp
      refine hK.out _ _ (hHeld) (fun hHeld => ?_)
      clear hK K
      try simp only [Act.put, List.setIfInBounds_toArray, List.set_cons_zero, List.set_cons_succ]
      refine wpAnyH_take (i := 10) (oi := ?_) (v := .string ⟨((sn ++ [58, 32]) ++ [98, 97, 114]).toArray⟩) ?_ (by kernel_rfl) (by kernel_rfl) (by kernel_rfl) ?_ (Or.inl ⟨?_, ?_⟩) hHeld ?_
      rotate_left 1
      · conv => lhs; simp only [List.getElem?_toArray, List.getElem?_cons_succ, List.getElem?_cons_zero]
      · exact fun _ _ _ h => h
      · rfl
      · intro W hSw
        exact tk_cat rfl rfl rfl (by simp; omega) (by decide)
      try simp only [Act.put, List.setIfInBounds_toArray, List.set_cons_zero, List.set_cons_succ]
      refine wpAnyH_take (i := 11) (oi := ?_) (v := ?_) ?_ (by kernel_rfl) (by kernel_rfl) (by kernel_rfl) ?_ (Or.inl ⟨?_, ?_⟩) hHeld ?_
      rotate_left 2
      · conv => lhs; simp only [List.getElem?_toArray, List.getElem?_cons_succ, List.getElem?_cons_zero]
      · exact fun _ _ _ h => h
      · rfl
      · intro W hSw
        have h' := HB2.up hSw HB2.lt
        have k0 := h'.cell 0 _ rfl
        have k4 := h'.cell 4 _ rfl
        go_simp
        try with_reducible rfl
      try simp only [Act.put, List.setIfInBounds_toArray, List.set_cons_zero, List.set_cons_succ]
      refine wpAnyH_done (by kernel_rfl) ?_ _
      go_wp2_with fail
      go_meet
      exact ⟨by simp, hHeld⟩
    refine AllReadyH.cons (o := ?_) ?_ (fun K hK => ?_) AllReadyH.nil
    rotate_left 1
    · conv => lhs; simp only [List.getElem?_toArray, List.getElem?_cons_succ, List.getElem?_cons_zero]
    go_simp
    refine hK.out _ _ (up_trans hHeld (up_alloc _ _)) (fun hHeld => ?_)
    clear hK K
    try simp only [Act.put, List.setIfInBounds_toArray, List.set_cons_zero, List.set_cons_succ]
    refine wpAnyH_take (i := 8) (oi := ?_) (v := .pointer (some ⟨w2.drew.heap.size, 2, none⟩)) ?_ (by kernel_rfl) (by kernel_rfl) (by kernel_rfl) ?_ (Or.inl ⟨?_, ?_⟩) hHeld ?_
    rotate_left 1
    · conv => lhs; simp only [List.getElem?_toArray, List.getElem?_cons_succ, List.getElem?_cons_zero]
    · exact fun _ _ _ h => h
    · rfl
    · intro W hSw
      have h' := HB2.up hSw HB2.lt
      have k0 := h'.cell 0 _ rfl
      have k4 := h'.cell 4 _ rfl
      go_simp
      try with_reducible rfl
    try simp only [Act.put, List.setIfInBounds_toArray, List.set_cons_zero, List.set_cons_succ]
    have q4 := names_new w2 2 _ rfl
    refine wpAnyH_ready (rs := [2, 9]) (by kernel_rfl) (by simp) ?_
    refine AllReadyH.cons (o := ?_) ?_ (fun K hK => ?_) ?_
    rotate_left 1
    · conv => lhs; simp only [List.getElem?_toArray, List.getElem?_cons_succ, List.getElem?_cons_zero]
    · go_simp
      refine (Cn.out _).mono ?_; rintro e wB ⟨rfl, hbB⟩
      have q5 : wB.cell? ⟨w2.heap.size, 2, none⟩ = some (.string ⟨#[98, 97, 114]⟩) := names_cell (W := w2.drew) hbB 2 _ rfl
      clear q4
      go_wp2_with fail
      refine hK.out _ _ (up_trans hHeld hbB) (fun hHeld => ?_)
      clear hK K
      try simp only [Act.put, List.setIfInBounds_toArray, List.set_cons_zero, List.set_cons_succ]
      refine wpAnyH_take (i := 3) (oi := ?_) (v := .string ⟨(sn ++ [58, 32]).toArray⟩) ?_ (by kernel_rfl) (by kernel_rfl) (by kernel_rfl) ?_ (Or.inl ⟨?_, ?_⟩) hHeld ?_
      rotate_left 1
      · conv => lhs; simp only [List.getElem?_toArray, List.getElem?_cons_succ, List.getElem?_cons_zero]
      · exact fun _ _ _ h => h
      · rfl
      · intro W hSw
        exact tk_cat rfl rfl rfl (by omega) (by decide)
      try simp only [Act.put, List.setIfInBounds_toArray, List.set_cons_zero, List.set_cons_succ]
      refine wpAnyH_ready (rs := [9]) (by kernel_rfl) (by simp) ?_
      refine AllReadyH.cons (o := ?_) ?_ (fun K hK => ?_) AllReadyH.nil
      rotate_left 1
      · conv => lhs; simp only [List.getElem?_toArray, List.getElem?_cons_succ, List.getElem?_cons_zero]
      go_simp
      refine hK.out _ _ (hHeld) (fun hHeld => ?_)
      clear hK K
      try simp only [Act.put, List.setIfInBounds_toArray, List.set_cons_zero, List.set_cons_succ]
      refine wpAnyH_take (i := 10) (oi := ?_) (v := .string ⟨((sn ++ [58, 32]) ++ [98, 97, 114]).toArray⟩) ?_ (by kernel_rfl) (by kernel_rfl) (by kernel_rfl) ?_ (Or.inl ⟨?_, ?_⟩) hHeld ?_
      rotate_left 1
      · conv => lhs; simp only [List.getElem?_toArray, List.getElem?_cons_succ, List.getElem?_cons_zero]
      · exact fun _ _ _ h => h
      · rfl
      · intro W hSw
        exact tk_cat rfl rfl rfl (by simp; omega) (by decide)
      try simp only [Act.put, List.setIfInBounds_toArray, List.set_cons_zero, List.set_cons_succ]
      refine wpAnyH_take (i := 11) (oi := ?_) (v := ?_) ?_ (by kernel_rfl) (by kernel_rfl) (by kernel_rfl) ?_ (Or.inl ⟨?_, ?_⟩) hHeld ?_
      rotate_left 2
      · conv => lhs; simp only [List.getElem?_toArray, List.getElem?_cons_succ, List.getElem?_cons_zero]
      · exact fun _ _ _ h => h
      · rfl
      · intro W hSw
        have h' := HB2.up hSw HB2.lt
        have k0 := h'.cell 0 _ rfl
        have k4 := h'.cell 4 _ rfl
        go_simp
        try with_reducible rfl
      try simp only [Act.put, List.setIfInBounds_toArray, List.set_cons_zero, List.set_cons_succ]
      refine wpAnyH_done (by kernel_rfl) ?_ _
      go_wp2_with fail
      go_meet
      exact ⟨by simp, hHeld⟩
    refine AllReadyH.cons (o := ?_) ?_ (fun K hK => ?_) AllReadyH.nil
    rotate_left 1
    · conv => lhs; simp only [List.getElem?_toArray, List.getElem?_cons_succ, List.getElem?_cons_zero]
    go_simp
    refine hK.out _ _ (hHeld) (fun hHeld => ?_)
    clear hK K
    try simp only [Act.put, List.setIfInBounds_toArray, List.set_cons_zero, List.set_cons_succ]
    refine wpAnyH_ready (rs := [2]) (by kernel_rfl) (by simp) ?_
    refine AllReadyH.cons (o := ?_) ?_ (fun K hK => ?_) AllReadyH.nil
    rotate_left 1
    · conv => lhs; simp only [List.getElem?_toArray, List.getElem?_cons_succ, List.getElem?_cons_zero]
    go_simp
    refine (Cn.out _).mono ?_; rintro e wB ⟨rfl, hbB⟩
    go_wp2_with fail
    refine hK.out _ _ (up_trans hHeld hbB) (fun hHeld => ?_)
    clear hK K
    try simp only [Act.put, List.setIfInBounds_toArray, List.set_cons_zero, List.set_cons_succ]
    refine wpAnyH_take (i := 3) (oi := ?_) (v := .string ⟨(sn ++ [58, 32]).toArray⟩) ?_ (by kernel_rfl) (by kernel_rfl) (by kernel_rfl) ?_ (Or.inl ⟨?_, ?_⟩) hHeld ?_
    rotate_left 1
    · conv => lhs; simp only [List.getElem?_toArray, List.getElem?_cons_succ, List.getElem?_cons_zero]
    · exact fun _ _ _ h => h
    · rfl
    · intro W hSw
      exact tk_cat rfl rfl rfl (by omega) (by decide)
    try simp only [Act.put, List.setIfInBounds_toArray, List.set_cons_zero, List.set_cons_succ]
    refine wpAnyH_take (i := 10) (oi := ?_) (v := .string ⟨((sn ++ [58, 32]) ++ [98, 97, 114]).toArray⟩) ?_ (by kernel_rfl) (by kernel_rfl) (by kernel_rfl) ?_ (Or.inl ⟨?_, ?_⟩) hHeld ?_
    rotate_left 1
    · conv => lhs; simp only [List.getElem?_toArray, List.getElem?_cons_succ, List.getElem?_cons_zero]
    · exact fun _ _ _ h => h
    · rfl
    · intro W hSw
      exact tk_cat rfl rfl rfl (by simp; omega) (by decide)
    try simp only [Act.put, List.setIfInBounds_toArray, List.set_cons_zero, List.set_cons_succ]
    refine wpAnyH_take (i := 11) (oi := ?_) (v := ?_) ?_ (by kernel_rfl) (by kernel_rfl) (by kernel_rfl) ?_ (Or.inl ⟨?_, ?_⟩) hHeld ?_
    rotate_left 2
    · conv => lhs; simp only [List.getElem?_toArray, List.getElem?_cons_succ, List.getElem?_cons_zero]
    · exact fun _ _ _ h => h
    · rfl
    · intro W hSw
      have h' := HB2.up hSw HB2.lt
      have k0 := h'.cell 0 _ rfl
      have k4 := h'.cell 4 _ rfl
      go_simp
      try with_reducible rfl
    try simp only [Act.put, List.setIfInBounds_toArray, List.set_cons_zero, List.set_cons_succ]
    refine wpAnyH_done (by kernel_rfl) ?_ _
    go_wp2_with fail
    go_meet
    exact ⟨by simp, hHeld⟩
  case rest =>
    obtain ⟨rfl, hbc⟩ := hcut
    have HB4 := HB2.up hbc HB2.lt
    have HU4 := Lib.hid (up_trans HU2.out hbc)
    clear HB2 HU2 hbc
    have i0 := HB4.cell 0 _ rfl
    have i1 := HB4.cell 1 _ rfl
    have i2 := HB4.cell 2 _ rfl
    have i3 := HB4.cell 3 _ rfl
    have i4 := HB4.cell 4 _ rfl
    go_wp2_with fail
    refine (Co.out _).mono ?_; rintro e w5 ⟨rfl, hb5⟩
    go_wp2
    go_ret2
    refine ⟨ret_str2 ?_ rfl, up_trans HU4.out hb5⟩
    rw [HX.out]
    apply ByteArray.ext
    simp
set_option maxRecDepth 100000 in
set_option maxHeartbeats 4000000 in
theorem c_rtext4 (o v r n : Int) (h0 : chkE 4 o v r n = 0) (w : World) :
    Calls Tryd.prog 7 #[.agg #[.int .i64 4, .int .i64 o, .int .i64 v, .int .i64 r, .int .i64 n]] w fun e w' => e = .returned (.tuple #[.string ⟨(textL 4 o v r n).toArray⟩, .int .i64 0]) ∧ Below w.heap.size w w' := by
  have HB := Blk.new w [.int .i64 4, .int .i64 o, .int .i64 v, .int .i64 r, .int .i64 n] 23
  have HU := up_alloc w (.cells #[.int .i64 4, .int .i64 o, .int .i64 v, .int .i64 r, .int .i64 n] 23)
  have CC := Lib.hid (c_rcheck 4 o v r n (w.alloc (.cells #[.int .i64 4, .int .i64 o, .int .i64 v, .int .i64 r, .int .i64 n] 23)))
  rw [h0] at CC
  have HF := Lib.hid (fit_of h0)
  clear h0
  have CD := Lib.hid (fun (x : Int) (h : -1099511627776 ≤ x ∧ x ≤ 1099511627776) (W : World) => c_rdigits x h.1 h.2 W)
  have bn : -1099511627776 ≤ n ∧ n ≤ 1099511627776 := by have := HF.out.n0; have := HF.out.n1; omega
  have ln := it_len (n := n) (by omega) (by omega)
  have Cn := Lib.hid (CD.out n bn)
  have bo : -1099511627776 ≤ o ∧ o ≤ 1099511627776 := by have := HF.out.o0; have := HF.out.o1; omega
  have lo := it_len (n := o) (by omega) (by omega)
  have Co := Lib.hid (CD.out o bo)
  have bv : -1099511627776 ≤ v ∧ v ≤ 1099511627776 := by have := HF.out.v0; have := HF.out.v1; omega
  have lv := it_len (n := v) (by omega) (by omega)
  have Cv := Lib.hid (CD.out v bv)
  have br : -1099511627776 ≤ r ∧ r ≤ 1099511627776 := by have := HF.out.r0; have := HF.out.r1; omega
  have lr := it_len (n := r) (by omega) (by omega)
  have Cr := Lib.hid (CD.out r br)
  have HX := Lib.hid (show textL 4 o v r n = Lib.itoa n ++ ([58, 32] ++ wantL 4 o v r) from rfl)
  rw [want4] at HX
  generalize Lib.itoa n = sn at ln Cn HX
  generalize Lib.itoa o = so at lo Co HX
  generalize Lib.itoa v = sv at lv Cv HX
  generalize Lib.itoa r = sr at lr Cr HX
  clear bn bo bv br CD
  go_enter Tryd.func7, Tryd.ntmps7
  go_wp2_with fail
  refine CC.out.mono ?_; rintro e w2 ⟨rfl, hb2⟩
  have HB2 := HB.up hb2 HB.lt
  have HU2 := Lib.hid (up_trans HU hb2)
  clear HB HU CC hb2
  go_upto_region 4 with fail
  go_cut [5] (fun s5 wx => s5 = .string ⟨(sn ++ ([58, 32] ++ [116, 105, 109, 101])).toArray⟩ ∧ Below w2.heap.size w2 wx)
  case first =>
    refine wp_region_held_drew (S := fun W => Below w2.heap.size w2 W) (by kernel_rfl) ((Below.refl _ _).drew) (fun hHeld => ?_)
    refine wpAnyH_take (i := 0) (oi := ?_) (v := ?_) ?_ (by kernel_rfl) (by kernel_rfl) (by kernel_rfl) ?_ (Or.inl ⟨?_, ?_⟩) hHeld ?_
    rotate_left 2
    · conv => lhs; simp only [List.getElem?_toArray, List.getElem?_cons_succ, List.getElem?_cons_zero]
    · exact fun _ _ _ h => h
    · rfl
    · intro W hSw
      have h' := HB2.up hSw HB2.lt
      have k0 := h'.cell 0 _ rfl
      have k4 := h'.cell 4 _ rfl
      go_simp
      try with_reducible rfl
    try simp only [Act.put, List.setIfInBounds_toArray, List.set_cons_zero, List.set_cons_succ]
    refine wpAnyH_take (i := 1) (oi := ?_) (v := ?_) ?_ (by kernel_rfl) (by kernel_rfl) (by kernel_rfl) ?_ (Or.inl ⟨?_, ?_⟩) hHeld ?_
    rotate_left 2
    · conv => lhs; simp only [List.getElem?_toArray, List.getElem?_cons_succ, List.getElem?_cons_zero]
    · exact fun _ _ _ h => h
    · rfl
    · intro W hSw
      have h' := HB2.up hSw HB2.lt
      have k0 := h'.cell 0 _ rfl
      have k4 := h'.cell 4 _ rfl
      go_simp
      try with_reducible rfl
    try simp only [Act.put, List.setIfInBounds_toArray, List.set_cons_zero, List.set_cons_succ]
    refine wpAnyH_take (i := 5) (oi := ?_) (v := ?_) ?_ (by kernel_rfl) (by kernel_rfl) (by kernel_rfl) ?_ (Or.inl ⟨?_, ?_⟩) hHeld ?_
    rotate_left 2
    · conv => lhs; simp only [List.getElem?_toArray, List.getElem?_cons_succ, List.getElem?_cons_zero]
    · exact fun _ _ _ h => h
    · rfl
    · intro W hSw
      have h' := HB2.up hSw HB2.lt
      have k0 := h'.cell 0 _ rfl
      have k4 := h'.cell 4 _ rfl
      go_simp
      try with_reducible rfl
    try simp only [Act.put, List.setIfInBounds_toArray, List.set_cons_zero, List.set_cons_succ]
    refine wpAnyH_take (i := 6) (oi := ?_) (v := ?_) ?_ (by kernel_rfl) (by kernel_rfl) (by kernel_rfl) ?_ (Or.inl ⟨?_, ?_⟩) hHeld ?_
    rotate_left 2
    · conv => lhs; simp only [List.getElem?_toArray, List.getElem?_cons_succ, List.getElem?_cons_zero]
    · exact fun _ _ _ h => h
    · rfl
    · intro W hSw
      have h' := HB2.up hSw HB2.lt
      have k0 := h'.cell 0 _ rfl
      have k4 := h'.cell 4 _ rfl
      go_simp
      try with_reducible rfl
    try simp only [Act.put, List.setIfInBounds_toArray, List.set_cons_zero, List.set_cons_succ]
    refine wpAnyH_take (i := 7) (oi := ?_) (v := .int .i64 3) ?_ (by kernel_rfl) (by kernel_rfl) (by kernel_rfl) ?_ (Or.inl ⟨?_, ?_⟩) hHeld ?_
    rotate_left 1
    · conv => lhs; simp only [List.getElem?_toArray, List.getElem?_cons_succ, List.getElem?_cons_zero]
    · exact fun _ _ _ h => h
    · rfl
    · intro W hSw
      go_simp
      try rfl
    try simp only [Act.put, List.setIfInBounds_toArray, List.set_cons_zero, List.set_cons_succ]
    refine wpAnyH_ready (rs := [2, 4]) (by kernel_rfl) (by simp) ?_
    refine AllReadyH.cons (o := ?_) ?_ (fun K hK => ?_) ?_
    rotate_left 1
    · conv => lhs; simp only [List.getElem?_toArray, List.getElem?_cons_succ, List.getElem?_cons_zero]
    · go_simp
      refine (Cn.out _).mono ?_; rintro e wB ⟨rfl, hbB⟩
      go_wp2_with fail
      refine hK.out _ _ (up_trans hHeld hbB) (fun hHeld => ?_)
      clear hK K
      try simp only [Act.put, List.setIfInBounds_toArray, List.set_cons_zero, List.set_cons_succ]
      refine wpAnyH_take (i := 3) (oi := ?_) (v := .string ⟨(sn ++ [58, 32]).toArray⟩) ?_ (by kernel_rfl) (by kernel_rfl) (by kernel_rfl) ?_ (Or.inl ⟨?_, ?_⟩) hHeld ?_
      rotate_left 1
      · conv => lhs; simp only [List.getElem?_toArray, List.getElem?_cons_succ, List.getElem?_cons_zero]
      · exact fun _ _ _ h => h
      · rfl
      · intro W hSw
        exact tk_cat rfl rfl rfl (by omega) (by decide)
      try simp only [Act.put, List.setIfInBounds_toArray, List.set_cons_zero, List.set_cons_succ]
      refine wpAnyH_ready (rs := [4]) (by kernel_rfl) (by simp) ?_
      refine AllReadyH.cons (o := ?_) ?_ (fun K hK => ?_) AllReadyH.nil
      rotate_left 1
      · conv => lhs; simp only [List.getElem?_toArray, List.getElem?_cons_succ, List.getElem?_cons_zero]
      go_simp
      refine hK.out _ _ (up_trans hHeld (up_alloc _ _)) (fun hHeld => ?_)
      clear hK K
      try simp only [Act.put, List.setIfInBounds_toArray, List.set_cons_zero, List.set_cons_succ]
      refine wpAnyH_take (i := 8) (oi := ?_) (v := .pointer (some ⟨wB.heap.size, 3, none⟩)) ?_ (by kernel_rfl) (by kernel_rfl) (by kernel_rfl) ?_ (Or.inl ⟨?_, ?_⟩) hHeld ?_
      rotate_left 1
      · conv => lhs; simp only [List.getElem?_toArray, List.getElem?_cons_succ, List.getElem?_cons_zero]
      · exact fun _ _ _ h => h
      · rfl
      · intro W hSw
        have h' := HB2.up hSw HB2.lt
        have k0 := h'.cell 0 _ rfl
        have k4 := h'.cell 4 _ rfl
        go_simp
        try with_reducible rfl
      try simp only [Act.put, List.setIfInBounds_toArray, List.set_cons_zero, List.set_cons_succ]
      have q4 := names_new wB 3 _ rfl
      refine wpAnyH_ready (rs := [9]) (by kernel_rfl) (by simp) ?_
      refine AllReadyH.cons (o := ?_) ?_ (fun K hK => ?_) AllReadyH.nil
      rotate_left 1
      · conv => lhs; simp only [List.getElem?_toArray, List.getElem?_cons_succ, List.getElem?_cons_zero]
      go_simp
      refine hK.out _ _ (hHeld) (fun hHeld => ?_)
      clear hK K
      try simp only [Act.put, List.setIfInBounds_toArray, List.set_cons_zero, List.set_cons_succ]
      refine wpAnyH_take (i := 10) (oi := ?_) (v := .string ⟨((sn ++ [58, 32]) ++ [116, 105, 109, 101]).toArray⟩) ?_ (by kernel_rfl) (by kernel_rfl) (by kernel_rfl) ?_ (Or.inl ⟨?_, ?_⟩) hHeld ?_
      rotate_left 1
      · conv => lhs; simp only [List.getElem?_toArray, List.getElem?_cons_succ, List.getElem?_cons_zero]
      · exact fun _ _ _ h => h
      · rfl
      · intro W hSw
        exact tk_cat rfl rfl rfl (by simp; omega) (by decide)
      try simp only [Act.put, List.setIfInBounds_toArray, List.set_cons_zero, List.set_cons_succ]
      refine wpAnyH_take (i := 11) (oi := ?_) (v := ?_) ?_ (by kernel_rfl) (by kernel_rfl) (by kernel_rfl) ?_ (Or.inl ⟨?_, ?_⟩) hHeld ?_
      rotate_left 2
      · conv => lhs; simp only [List.getElem?_toArray, List.getElem?_cons_succ, List.getElem?_cons_zero]
      · exact fun _ _ _ h => h
      · rfl
      · intro W hSw
        have h' := HB2.up hSw HB2.lt
        have k0 := h'.cell 0 _ rfl
        have k4 := h'.cell 4 _ rfl
        go_simp
        try with_reducible rfl
      try simp only [Act.put, List.setIfInBounds_toArray, List.set_cons_zero, List.set_cons_succ]
      refine wpAnyH_done (by kernel_rfl) ?_ _
      go_wp2_with fail
      go_meet
      exact ⟨by simp, hHeld⟩
    refine AllReadyH.cons (o := ?_) ?_ (fun K hK => ?_) AllReadyH.nil
    rotate_left 1
    · conv => lhs; simp only [List.getElem?_toArray, List.getElem?_cons_succ, List.getElem?_cons_zero]
    go_simp
    refine hK.out _ _ (up_trans hHeld (up_alloc _ _)) (fun hHeld => ?_)
    clear hK K
    try simp only [Act.put, List.setIfInBounds_toArray, List.set_cons_zero, List.set_cons_succ]
    refine wpAnyH_take (i := 8) (oi := ?_) (v := .pointer (some ⟨w2.drew.heap.size, 3, none⟩)) ?_ (by kernel_rfl) (by kernel_rfl) (by kernel_rfl) ?_ (Or.inl ⟨?_, ?_⟩) hHeld ?_
    rotate_left 1
    · conv => lhs; simp only [List.getElem?_toArray, List.getElem?_cons_succ, List.getElem?_cons_zero]
    · exact fun _ _ _ h => h
    · rfl
    · intro W hSw
      have h' := HB2.up hSw HB2.lt
      have k0 := h'.cell 0 _ rfl
      have k4 := h'.cell 4 _ rfl
      go_simp
      try with_reducible rfl
    try simp only [Act.put, List.setIfInBounds_toArray, List.set_cons_zero, List.set_cons_succ]
    have q4 := names_new w2 3 _ rfl
    refine wpAnyH_ready (rs := [2, 9]) (by kernel_rfl) (by simp) ?_
    refine AllReadyH.cons (o := ?_) ?_ (fun K hK => ?_) ?_
    rotate_left 1
    · conv => lhs; simp only [List.getElem?_toArray, List.getElem?_cons_succ, List.getElem?_cons_zero]
    · go_simp
      refine (Cn.out _).mono ?_; rintro e wB ⟨rfl, hbB⟩
      have q5 : wB.cell? ⟨w2.heap.size, 3, none⟩ = some (.string ⟨#[116, 105, 109, 101]⟩) := names_cell (W := w2.drew) hbB 3 _ rfl
      clear q4
      go_wp2_with fail
      refine hK.out _ _ (up_trans hHeld hbB) (fun hHeld => ?_)
      clear hK K
      try simp only [Act.put, List.setIfInBounds_toArray, List.set_cons_zero, List.set_cons_succ]
      refine wpAnyH_take (i := 3) (oi := ?_) (v := .string ⟨(sn ++ [58, 32]).toArray⟩) ?_ (by kernel_rfl) (by kernel_rfl) (by kernel_rfl) ?_ (Or.inl ⟨?_, ?_⟩) hHeld ?_
      rotate_left 1
      · conv => lhs; simp only [List.getElem?_toArray, List.getElem?_cons_succ, List.getElem?_cons_zero]
      · exact fun _ _ _ h => h
      · rfl
      · intro W hSw
        exact tk_cat rfl rfl rfl (by omega) (by decide)
      try simp only [Act.put, List.setIfInBounds_toArray, List.set_cons_zero, List.set_cons_succ]
      refine wpAnyH_ready (rs := [9]) (by kernel_rfl) (by simp) ?_
      refine AllReadyH.cons (o := ?_) ?_ (fun K hK => ?_) AllReadyH.nil
      rotate_left 1
      · conv => lhs; simp only [List.getElem?_toArray, List.getElem?_cons_succ, List.getElem?_cons_zero]
      go_simp
      refine hK.out _ _ (hHeld) (fun hHeld => ?_)
      clear hK K
      try simp only [Act.put, List.setIfInBounds_toArray, List.set_cons_zero, List.set_cons_succ]
      refine wpAnyH_take (i := 10) (oi := ?_) (v := .string ⟨((sn ++ [58, 32]) ++ [116, 105, 109, 101]).toArray⟩) ?_ (by kernel_rfl) (by kernel_rfl) (by kernel_rfl) ?_ (Or.inl ⟨?_, ?_⟩) hHeld ?_
      rotate_left 1
      · conv => lhs; simp only [List.getElem?_toArray, List.getElem?_cons_succ, List.getElem?_cons_zero]
      · exact fun _ _ _ h => h
      · rfl
      · intro W hSw
        exact tk_cat rfl rfl rfl (by simp; omega) (by decide)
      try simp only [Act.put, List.setIfInBounds_toArray, List.set_cons_zero, List.set_cons_succ]
      refine wpAnyH_take (i := 11) (oi := ?_) (v := ?_) ?_ (by kernel_rfl) (by kernel_rfl) (by kernel_rfl) ?_ (Or.inl ⟨?_, ?_⟩) hHeld ?_
      rotate_left 2
      · conv => lhs; simp only [List.getElem?_toArray, List.getElem?_cons_succ, List.getElem?_cons_zero]
      · exact fun _ _ _ h => h
      · rfl
      · intro W hSw
        have h' := HB2.up hSw HB2.lt
        have k0 := h'.cell 0 _ rfl
        have k4 := h'.cell 4 _ rfl
        go_simp
        try with_reducible rfl
      try simp only [Act.put, List.setIfInBounds_toArray, List.set_cons_zero, List.set_cons_succ]
      refine wpAnyH_done (by kernel_rfl) ?_ _
      go_wp2_with fail
      go_meet
      exact ⟨by simp, hHeld⟩
    refine AllReadyH.cons (o := ?_) ?_ (fun K hK => ?_) AllReadyH.nil
    rotate_left 1
    · conv => lhs; simp only [List.getElem?_toArray, List.getElem?_cons_succ, List.getElem?_cons_zero]
    go_simp
    refine hK.out _ _ (hHeld) (fun hHeld => ?_)
    clear hK K
    try simp only [Act.put, List.setIfInBounds_toArray, List.set_cons_zero, List.set_cons_succ]
    refine wpAnyH_ready (rs := [2]) (by kernel_rfl) (by simp) ?_
    refine AllReadyH.cons (o := ?_) ?_ (fun K hK => ?_) AllReadyH.nil
    rotate_left 1
    · conv => lhs; simp only [List.getElem?_toArray, List.getElem?_cons_succ, List.getElem?_cons_zero]
    go_simp
    refine (Cn.out _).mono ?_; rintro e wB ⟨rfl, hbB⟩
    go_wp2_with fail
    refine hK.out _ _ (up_trans hHeld hbB) (fun hHeld => ?_)
    clear hK K
    try simp only [Act.put, List.setIfInBounds_toArray, List.set_cons_zero, List.set_cons_succ]
    refine wpAnyH_take (i := 3) (oi := ?_) (v := .string ⟨(sn ++ [58, 32]).toArray⟩) ?_ (by kernel_rfl) (by kernel_rfl) (by kernel_rfl) ?_ (Or.inl ⟨?_, ?_⟩) hHeld ?_
    rotate_left 1
    · conv => lhs; simp only [List.getElem?_toArray, List.getElem?_cons_succ, List.getElem?_cons_zero]
    · exact fun _ _ _ h => h
    · rfl
    · intro W hSw
      exact tk_cat rfl rfl rfl (by omega) (by decide)
    try simp only [Act.put, List.setIfInBounds_toArray, List.set_cons_zero, List.set_cons_succ]
    refine wpAnyH_take (i := 10) (oi := ?_) (v := .string ⟨((sn ++ [58, 32]) ++ [116, 105, 109, 101]).toArray⟩) ?_ (by kernel_rfl) (by kernel_rfl) (by kernel_rfl) ?_ (Or.inl ⟨?_, ?_⟩) hHeld ?_
    rotate_left 1
    · conv => lhs; simp only [List.getElem?_toArray, List.getElem?_cons_succ, List.getElem?_cons_zero]
    · exact fun _ _ _ h => h
    · rfl
    · intro W hSw
      exact tk_cat rfl rfl rfl (by simp; omega) (by decide)
    try simp only [Act.put, List.setIfInBounds_toArray, List.set_cons_zero, List.set_cons_succ]
    refine wpAnyH_take (i := 11) (oi := ?_) (v := ?_) ?_ (by kernel_rfl) (by kernel_rfl) (by kernel_rfl) ?_ (Or.inl ⟨?_, ?_⟩) hHeld ?_
    rotate_left 2
    · conv => lhs; simp only [List.getElem?_toArray, List.getElem?_cons_succ, List.getElem?_cons_zero]
    · exact fun _ _ _ h => h
    · rfl
    · intro W hSw
      have h' := HB2.up hSw HB2.lt
      have k0 := h'.cell 0 _ rfl
      have k4 := h'.cell 4 _ rfl
      go_simp
      try with_reducible rfl
    try simp only [Act.put, List.setIfInBounds_toArray, List.set_cons_zero, List.set_cons_succ]
    refine wpAnyH_done (by kernel_rfl) ?_ _
    go_wp2_with fail
    go_meet
    exact ⟨by simp, hHeld⟩
  case rest =>
    obtain ⟨rfl, hbc⟩ := hcut
    have HB4 := HB2.up hbc HB2.lt
    have HU4 := Lib.hid (up_trans HU2.out hbc)
    clear HB2 HU2 hbc
    have i0 := HB4.cell 0 _ rfl
    have i1 := HB4.cell 1 _ rfl
    have i2 := HB4.cell 2 _ rfl
    have i3 := HB4.cell 3 _ rfl
    have i4 := HB4.cell 4 _ rfl
    go_wp2_with fail
    refine (Cv.out _).mono ?_; rintro e w5 ⟨rfl, hb5⟩
    go_wp2
    go_ret2
    refine ⟨ret_str2 ?_ rfl, up_trans HU4.out hb5⟩
    rw [HX.out]
    apply ByteArray.ext
    simp
set_option maxRecDepth 100000 in
set_option maxHeartbeats 4000000 in
theorem c_rtext5 (o v r n : Int) (h0 : chkE 5 o v r n = 0) (w : World) :
    Calls Tryd.prog 7 #[.agg #[.int .i64 5, .int .i64 o, .int .i64 v, .int .i64 r, .int .i64 n]] w fun e w' => e = .returned (.tuple #[.string ⟨(textL 5 o v r n).toArray⟩, .int .i64 0]) ∧ Below w.heap.size w w' := by
  have HB := Blk.new w [.int .i64 5, .int .i64 o, .int .i64 v, .int .i64 r, .int .i64 n] 23
  have HU := up_alloc w (.cells #[.int .i64 5, .int .i64 o, .int .i64 v, .int .i64 r, .int .i64 n] 23)
  have CC := Lib.hid (c_rcheck 5 o v r n (w.alloc (.cells #[.int .i64 5, .int .i64 o, .int .i64 v, .int .i64 r, .int .i64 n] 23)))
  rw [h0] at CC
  have HF := Lib.hid (fit_of h0)
  clear h0
  have CD := Lib.hid (fun (x : Int) (h : -1099511627776 ≤ x ∧ x ≤ 1099511627776) (W : World) => c_rdigits x h.1 h.2 W)
  have bn : -1099511627776 ≤ n ∧ n ≤ 1099511627776 := by have := HF.out.n0; have := HF.out.n1; omega
  have ln := it_len (n := n) (by omega) (by omega)
  have Cn := Lib.hid (CD.out n bn)
  have bo : -1099511627776 ≤ o ∧ o ≤ 1099511627776 := by have := HF.out.o0; have := HF.out.o1; omega
  have lo := it_len (n := o) (by omega) (by omega)
  have Co := Lib.hid (CD.out o bo)
  have bv : -1099511627776 ≤ v ∧ v ≤ 1099511627776 := by have := HF.out.v0; have := HF.out.v1; omega
  have lv := it_len (n := v) (by omega) (by omega)
  have Cv := Lib.hid (CD.out v bv)
  have br : -1099511627776 ≤ r ∧ r ≤ 1099511627776 := by have := HF.out.r0; have := HF.out.r1; omega
  have lr := it_len (n := r) (by omega) (by omega)
  have Cr := Lib.hid (CD.out r br)
  have HX := Lib.hid (show textL 5 o v r n = Lib.itoa n ++ ([58, 32] ++ wantL 5 o v r) from rfl)
  rw [want5] at HX
  generalize Lib.itoa n = sn at ln Cn HX
  generalize Lib.itoa o = so at lo Co HX
  generalize Lib.itoa v = sv at lv Cv HX
  generalize Lib.itoa r = sr at lr Cr HX
  clear bn bo bv br CD
  go_enter Tryd.func7, Tryd.ntmps7
  go_wp2_with fail
  refine CC.out.mono ?_; rintro e w2 ⟨rfl, hb2⟩
  have HB2 := HB.up hb2 HB.lt
  have HU2 := Lib.hid (up_trans HU hb2)
  clear HB HU CC hb2
  go_upto_region 4 with fail
  go_cut [5] (fun s5 wx => s5 = .string ⟨(sn ++ ([58, 32] ++ [115, 107, 105, 112])).toArray⟩ ∧ Below w2.heap.size w2 wx)
  case first =>
    refine wp_region_held_drew (S := fun W => Below w2.heap.size w2 W) (by kernel_rfl) ((Below.refl _ _).drew) (fun hHeld => ?_)
    refine wpAnyH_take (i := 0) (oi := ?_) (v := ?_) ?_ (by kernel_rfl) (by kernel_rfl) (by kernel_rfl) ?_ (Or.inl ⟨?_, ?_⟩) hHeld ?_
    rotate_left 2
    · conv => lhs; simp only [List.getElem?_toArray, List.getElem?_cons_succ, List.getElem?_cons_zero]
    · exact fun _ _ _ h => h
    · rfl
    · intro W hSw
      have h' := HB2.up hSw HB2.lt
      have k0 := h'.cell 0 _ rfl
      have k4 := h'.cell 4 _ rfl
      go_simp
      try with_reducible rfl
    try simp only [Act.put, List.setIfInBounds_toArray, List.set_cons_zero, List.set_cons_succ]
    refine wpAnyH_take (i := 1) (oi := ?_) (v := ?_) ?_ (by kernel_rfl) (by kernel_rfl) (by kernel_rfl) ?_ (Or.inl ⟨?_, ?_⟩) hHeld ?_
    rotate_left 2
    · conv => lhs; simp only [List.getElem?_toArray, List.getElem?_cons_succ, List.getElem?_cons_zero]
    · exact fun _ _ _ h => h
    · rfl
    · intro W hSw
      have h' := HB2.up hSw HB2.lt
      have k0 := h'.cell 0 _ rfl
      have k4 := h'.cell 4 _ rfl
      go_simp
      try with_reducible rfl
    try simp only [Act.put, List.setIfInBounds_toArray, List.set_cons_zero, List.set_cons_succ]
    refine wpAnyH_take (i := 5) (oi := ?_) (v := ?_) ?_ (by kernel_rfl) (by kernel_rfl) (by kernel_rfl) ?_ (Or.inl ⟨?_, ?_⟩) hHeld ?_
    rotate_left 2
    · conv => lhs; simp only [List.getElem?_toArray, List.getElem?_cons_succ, List.getElem?_cons_zero]
    · exact fun _ _ _ h => h
    · rfl
    · intro W hSw
      have h' := HB2.up hSw HB2.lt
      have k0 := h'.cell 0 _ rfl
      have k4 := h'.cell 4 _ rfl
      go_simp
      try with_reducible rfl
    try simp only [Act.put, List.setIfInBounds_toArray, List.set_cons_zero, List.set_cons_succ]
    refine wpAnyH_take (i := 6) (oi := ?_) (v := ?_) ?_ (by kernel_rfl) (by kernel_rfl) (by kernel_rfl) ?_ (Or.inl ⟨?_, ?_⟩) hHeld ?_
    rotate_left 2
    · conv => lhs; simp only [List.getElem?_toArray, List.getElem?_cons_succ, List.getElem?_cons_zero]
    · exact fun _ _ _ h => h
    · rfl
    · intro W hSw
      have h' := HB2.up hSw HB2.lt
      have k0 := h'.cell 0 _ rfl
      have k4 := h'.cell 4 _ rfl
      go_simp
      try with_reducible rfl
    try simp only [Act.put, List.setIfInBounds_toArray, List.set_cons_zero, List.set_cons_succ]
    refine wpAnyH_take (i := 7) (oi := ?_) (v := .int .i64 4) ?_ (by kernel_rfl) (by kernel_rfl) (by kernel_rfl) ?_ (Or.inl ⟨?_, ?_⟩) hHeld ?_
    rotate_left 1
    · conv => lhs; simp only [List.getElem?_toArray, List.getElem?_cons_succ, List.getElem?_cons_zero]
    · exact fun _ _ _ h => h
    · rfl
    · intro W hSw
      go_simp
      try rfl
    try simp only [Act.put, List.setIfInBounds_toArray, List.set_cons_zero, List.set_cons_succ]
    refine wpAnyH_ready (rs := [2, 4]) (by kernel_rfl) (by simp) ?_
    refine AllReadyH.cons (o := ?_) ?_ (fun K hK => ?_) ?_
    rotate_left 1
    · conv => lhs; simp only [List.getElem?_toArray, List.getElem?_cons_succ, List.getElem?_cons_zero]
    · go_simp
      refine (Cn.out _).mono ?_; rintro e wB ⟨rfl, hbB⟩
      go_wp2_with fail
      refine hK.out _ _ (up_trans hHeld hbB) (fun hHeld => ?_)
      clear hK K
      try simp only [Act.put, List.setIfInBounds_toArray, List.set_cons_zero, List.set_cons_succ]
      refine wpAnyH_take (i := 3) (oi := ?_) (v := .string ⟨(sn ++ [58, 32]).toArray⟩) ?_ (by kernel_rfl) (by kernel_rfl) (by kernel_rfl) ?_ (Or.inl ⟨?_, ?_⟩) hHeld ?_
      rotate_left 1
      · conv => lhs; simp only [List.getElem?_toArray, List.getElem?_cons_succ, List.getElem?_cons_zero]
      · exact fun _ _ _ h => h
      · rfl
      · intro W hSw
        exact tk_cat rfl rfl rfl (by omega) (by decide)
      try simp only [Act.put, List.setIfInBounds_toArray, List.set_cons_zero, List.set_cons_succ]
      refine wpAnyH_ready (rs := [4]) (by kernel_rfl) (by simp) ?_
      refine AllReadyH.cons (o := ?_) ?_ (fun K hK => ?_) AllReadyH.nil
      rotate_left 1
      · conv => lhs; simp only [List.getElem?_toArray, List.getElem?_cons_succ, List.getElem?_cons_zero]
      go_simp
      refine hK.out _ _ (up_trans hHeld (up_alloc _ _)) (fun hHeld => ?_)
      clear hK K
      try simp only [Act.put, List.setIfInBounds_toArray, List.set_cons_zero, List.set_cons_succ]
      refine wpAnyH_take (i := 8) (oi := ?_) (v := .pointer (some ⟨wB.heap.size, 4, none⟩)) ?_ (by kernel_rfl) (by kernel_rfl) (by kernel_rfl) ?_ (Or.inl ⟨?_, ?_⟩) hHeld ?_
      rotate_left 1
      · conv => lhs; simp only [List.getElem?_toArray, List.getElem?_cons_succ, List.getElem?_cons_zero]
      · exact fun _ _ _ h => h
      · rfl
      · intro W hSw
        have h' := HB2.up hSw HB2.lt
        have k0 := h'.cell 0 _ rfl
        have k4 := h'.cell 4 _ rfl
        go_simp
        try with_reducible rfl
      try simp only [Act.put, List.setIfInBounds_toArray, List.set_cons_zero, List.set_cons_succ]
      have q4 := names_new wB 4 _ rfl
      refine wpAnyH_ready (rs := [9]) (by kernel_rfl) (by simp) ?_
      refine AllReadyH.cons (o := ?_) ?_ (fun K hK => ?_) AllReadyH.nil
      rotate_left 1
      · conv => lhs; simp only [List.getElem?_toArray, List.getElem?_cons_succ, List.getElem?_cons_zero]
      go_simp
      refine hK.out _ _ (hHeld) (fun hHeld => ?_)
      clear hK K
      try simp only [Act.put, List.setIfInBounds_toArray, List.set_cons_zero, List.set_cons_succ]
      refine wpAnyH_take (i := 10) (oi := ?_) (v := .string ⟨((sn ++ [58, 32]) ++ [115, 107, 105, 112]).toArray⟩) ?_ (by kernel_rfl) (by kernel_rfl) (by kernel_rfl) ?_ (Or.inl ⟨?_, ?_⟩) hHeld ?_
      rotate_left 1
      · conv => lhs; simp only [List.getElem?_toArray, List.getElem?_cons_succ, List.getElem?_cons_zero]
      · exact fun _ _ _ h => h
      · rfl
      · intro W hSw
        exact tk_cat rfl rfl rfl (by simp; omega) (by decide)
      try simp only [Act.put, List.setIfInBounds_toArray, List.set_cons_zero, List.set_cons_succ]
      refine wpAnyH_take (i := 11) (oi := ?_) (v := ?_) ?_ (by kernel_rfl) (by kernel_rfl) (by kernel_rfl) ?_ (Or.inl ⟨?_, ?_⟩) hHeld ?_
      rotate_left 2
      · conv => lhs; simp only [List.getElem?_toArray, List.getElem?_cons_succ, List.getElem?_cons_zero]
      · exact fun _ _ _ h => h
      · rfl
      · intro W hSw
        have h' := HB2.up hSw HB2.lt
        have k0 := h'.cell 0 _ rfl
        have k4 := h'.cell 4 _ rfl
        go_simp
        try with_reducible rfl
      try simp only [Act.put, List.setIfInBounds_toArray, List.set_cons_zero, List.set_cons_succ]
      refine wpAnyH_done (by kernel_rfl) ?_ _
      go_wp2_with fail
      go_meet
      exact ⟨by simp, hHeld⟩
    refine AllReadyH.cons (o := ?_) ?_ (fun K hK => ?_) AllReadyH.nil
    rotate_left 1
    · conv => lhs; simp only [List.getElem?_toArray, List.getElem?_cons_succ, List.getElem?_cons_zero]
    go_simp
    refine hK.out _ _ (up_trans hHeld (up_alloc _ _)) (fun hHeld => ?_)
    clear hK K
    try simp only [Act.put, List.setIfInBounds_toArray, List.set_cons_zero, List.set_cons_succ]
    refine wpAnyH_take (i := 8) (oi := ?_) (v := .pointer (some ⟨w2.drew.heap.size, 4, none⟩)) ?_ (by kernel_rfl) (by kernel_rfl) (by kernel_rfl) ?_ (Or.inl ⟨?_, ?_⟩) hHeld ?_
    rotate_left 1
    · conv => lhs; simp only [List.getElem?_toArray, List.getElem?_cons_succ, List.getElem?_cons_zero]
    · exact fun _ _ _ h => h
    · rfl
    · intro W hSw
      have h' := HB2.up hSw HB2.lt
      have k0 := h'.cell 0 _ rfl
      have k4 := h'.cell 4 _ rfl
      go_simp
      try with_reducible rfl
    try simp only [Act.put, List.setIfInBounds_toArray, List.set_cons_zero, List.set_cons_succ]
    have q4 := names_new w2 4 _ rfl
    refine wpAnyH_ready (rs := [2, 9]) (by kernel_rfl) (by simp) ?_
    refine AllReadyH.cons (o := ?_) ?_ (fun K hK => ?_) ?_
    rotate_left 1
    · conv => lhs; simp only [List.getElem?_toArray, List.getElem?_cons_succ, List.getElem?_cons_zero]
    · go_simp
      refine (Cn.out _).mono ?_; rintro e wB ⟨rfl, hbB⟩
      have q5 : wB.cell? ⟨w2.heap.size, 4, none⟩ = some (.string ⟨#[115, 107, 105, 112]⟩) := names_cell (W := w2.drew) hbB 4 _ rfl
      clear q4
      go_wp2_with fail
      refine hK.out _ _ (up_trans hHeld hbB) (fun hHeld => ?_)
      clear hK K
      try simp only [Act.put, List.setIfInBounds_toArray, List.set_cons_zero, List.set_cons_succ]
      refine wpAnyH_take (i := 3) (oi := ?_) (v := .string ⟨(sn ++ [58, 32]).toArray⟩) ?_ (by kernel_rfl) (by kernel_rfl) (by kernel_rfl) ?_ (Or.inl ⟨?_, ?_⟩) hHeld ?_
      rotate_left 1
      · conv => lhs; simp only [List.getElem?_toArray, List.getElem?_cons_succ, List.getElem?_cons_zero]
      · exact fun _ _ _ h => h
      · rfl
      · intro W hSw
        exact tk_cat rfl rfl rfl (by omega) (by decide)
      try simp only [Act.put, List.setIfInBounds_toArray, List.set_cons_zero, List.set_cons_succ]
      refine wpAnyH_ready (rs := [9]) (by kernel_rfl) (by simp) ?_
      refine AllReadyH.cons (o := ?_) ?_ (fun K hK => ?_) AllReadyH.nil
      rotate_left 1
      · conv => lhs; simp only [List.getElem?_toArray, List.getElem?_cons_succ, List.getElem?_cons_zero]
      go_simp
      refine hK.out _ _ (hHeld) (fun hHeld => ?_)
      clear hK K
      try simp only [Act.put, List.setIfInBounds_toArray, List.set_cons_zero, List.set_cons_succ]
      refine wpAnyH_take (i := 10) (oi := ?_) (v := .string ⟨((sn ++ [58, 32]) ++ [115, 107, 105, 112]).toArray⟩) ?_ (by kernel_rfl) (by kernel_rfl) (by kernel_rfl) ?_ (Or.inl ⟨?_, ?_⟩) hHeld ?_
      rotate_left 1
      · conv => lhs; simp only [List.getElem?_toArray, List.getElem?_cons_succ, List.getElem?_cons_zero]
      · exact fun _ _ _ h => h
      · rfl
      · intro W hSw
        exact tk_cat rfl rfl rfl (by simp; omega) (by decide)
      try simp only [Act.put, List.setIfInBounds_toArray, List.set_cons_zero, List.set_cons_succ]
      refine wpAnyH_take (i := 11) (oi := ?_) (v := ?_) ?_ (by kernel_rfl) (by kernel_rfl) (by kernel_rfl) ?_ (Or.inl ⟨?_, ?_⟩) hHeld ?_
      rotate_left 2
      · conv => lhs; simp only [List.getElem?_toArray, List.getElem?_cons_succ, List.getElem?_cons_zero]
      · exact fun _ _ _ h => h
      · rfl
      · intro W hSw
        have h' := HB2.up hSw HB2.lt
        have k0 := h'.cell 0 _ rfl
        have k4 := h'.cell 4 _ rfl
        go_simp
        try with_reducible rfl
      try simp only [Act.put, List.setIfInBounds_toArray, List.set_cons_zero, List.set_cons_succ]
      refine wpAnyH_done (by kernel_rfl) ?_ _
      go_wp2_with fail
      go_meet
      exact ⟨by simp, hHeld⟩
    refine AllReadyH.cons (o := ?_) ?_ (fun K hK => ?_) AllReadyH.nil
    rotate_left 1
    · conv => lhs; simp only [List.getElem?_toArray, List.getElem?_cons_succ, List.getElem?_cons_zero]
    go_simp
    refine hK.out _ _ (hHeld) (fun hHeld => ?_)
    clear hK K
    try simp only [Act.put, List.setIfInBounds_toArray, List.set_cons_zero, List.set_cons_succ]
    refine wpAnyH_ready (rs := [2]) (by kernel_rfl) (by simp) ?_
    refine AllReadyH.cons (o := ?_) ?_ (fun K hK => ?_) AllReadyH.nil
    rotate_left 1
    · conv => lhs; simp only [List.getElem?_toArray, List.getElem?_cons_succ, List.getElem?_cons_zero]
    go_simp
    refine (Cn.out _).mono ?_; rintro e wB ⟨rfl, hbB⟩
    go_wp2_with fail
    refine hK.out _ _ (up_trans hHeld hbB) (fun hHeld => ?_)
    clear hK K
    try simp only [Act.put, List.setIfInBounds_toArray, List.set_cons_zero, List.set_cons_succ]
    refine wpAnyH_take (i := 3) (oi := ?_) (v := .string ⟨(sn ++ [58, 32]).toArray⟩) ?_ (by kernel_rfl) (by kernel_rfl) (by kernel_rfl) ?_ (Or.inl ⟨?_, ?_⟩) hHeld ?_
    rotate_left 1
    · conv => lhs; simp only [List.getElem?_toArray, List.getElem?_cons_succ, List.getElem?_cons_zero]
    · exact fun _ _ _ h => h
    · rfl
    · intro W hSw
      exact tk_cat rfl rfl rfl (by omega) (by decide)
    try simp only [Act.put, List.setIfInBounds_toArray, List.set_cons_zero, List.set_cons_succ]
    refine wpAnyH_take (i := 10) (oi := ?_) (v := .string ⟨((sn ++ [58, 32]) ++ [115, 107, 105, 112]).toArray⟩) ?_ (by kernel_rfl) (by kernel_rfl) (by kernel_rfl) ?_ (Or.inl ⟨?_, ?_⟩) hHeld ?_
    rotate_left 1
    · conv => lhs; simp only [List.getElem?_toArray, List.getElem?_cons_succ, List.getElem?_cons_zero]
    · exact fun _ _ _ h => h
    · rfl
    · intro W hSw
      exact tk_cat rfl rfl rfl (by simp; omega) (by decide)
    try simp only [Act.put, List.setIfInBounds_toArray, List.set_cons_zero, List.set_cons_succ]
    refine wpAnyH_take (i := 11) (oi := ?_) (v := ?_) ?_ (by kernel_rfl) (by kernel_rfl) (by kernel_rfl) ?_ (Or.inl ⟨?_, ?_⟩) hHeld ?_
    rotate_left 2
    · conv => lhs; simp only [List.getElem?_toArray, List.getElem?_cons_succ, List.getElem?_cons_zero]
    · exact fun _ _ _ h => h
    · rfl
    · intro W hSw
      have h' := HB2.up hSw HB2.lt
      have k0 := h'.cell 0 _ rfl
      have k4 := h'.cell 4 _ rfl
      go_simp
      try with_reducible rfl
    try simp only [Act.put, List.setIfInBounds_toArray, List.set_cons_zero, List.set_cons_succ]
    refine wpAnyH_done (by kernel_rfl) ?_ _
    go_wp2_with fail
    go_meet
    exact ⟨by simp, hHeld⟩
  case rest =>
    obtain ⟨rfl, hbc⟩ := hcut
    have HB4 := HB2.up hbc HB2.lt
    have HU4 := Lib.hid (up_trans HU2.out hbc)
    clear HB2 HU2 hbc
    have i0 := HB4.cell 0 _ rfl
    go_wp2
    go_ret2
    refine ⟨ret_str2 ?_ rfl, HU4.out⟩
    rw [HX.out]
set_option maxRecDepth 100000 in
set_option maxHeartbeats 4000000 in
theorem c_rtext6 (o v r n : Int) (h0 : chkE 6 o v r n = 0) (w : World) :
    Calls Tryd.prog 7 #[.agg #[.int .i64 6, .int .i64 o, .int .i64 v, .int .i64 r, .int .i64 n]] w fun e w' => e = .returned (.tuple #[.string ⟨(textL 6 o v r n).toArray⟩, .int .i64 0]) ∧ Below w.heap.size w w' := by
  have HB := Blk.new w [.int .i64 6, .int .i64 o, .int .i64 v, .int .i64 r, .int .i64 n] 23
  have HU := up_alloc w (.cells #[.int .i64 6, .int .i64 o, .int .i64 v, .int .i64 r, .int .i64 n] 23)
  have CC := Lib.hid (c_rcheck 6 o v r n (w.alloc (.cells #[.int .i64 6, .int .i64 o, .int .i64 v, .int .i64 r, .int .i64 n] 23)))
  rw [h0] at CC
  have HF := Lib.hid (fit_of h0)
  clear h0
  have CD := Lib.hid (fun (x : Int) (h : -1099511627776 ≤ x ∧ x ≤ 1099511627776) (W : World) => c_rdigits x h.1 h.2 W)
  have bn : -1099511627776 ≤ n ∧ n ≤ 1099511627776 := by have := HF.out.n0; have := HF.out.n1; omega
  have ln := it_len (n := n) (by omega) (by omega)
  have Cn := Lib.hid (CD.out n bn)
  have bo : -1099511627776 ≤ o ∧ o ≤ 1099511627776 := by have := HF.out.o0; have := HF.out.o1; omega
  have lo := it_len (n := o) (by omega) (by omega)
  have Co := Lib.hid (CD.out o bo)
  have bv : -1099511627776 ≤ v ∧ v ≤ 1099511627776 := by have := HF.out.v0; have := HF.out.v1; omega
  have lv := it_len (n := v) (by omega) (by omega)
  have Cv := Lib.hid (CD.out v bv)
  have br : -1099511627776 ≤ r ∧ r ≤ 1099511627776 := by have := HF.out.r0; have := HF.out.r1; omega
  have lr := it_len (n := r) (by omega) (by omega)
  have Cr := Lib.hid (CD.out r br)
  have HX := Lib.hid (show textL 6 o v r n = Lib.itoa n ++ ([58, 32] ++ wantL 6 o v r) from rfl)
  rw [want6] at HX
  generalize Lib.itoa n = sn at ln Cn HX
  generalize Lib.itoa o = so at lo Co HX
  generalize Lib.itoa v = sv at lv Cv HX
  generalize Lib.itoa r = sr at lr Cr HX
  clear bn bo bv br CD
  go_enter Tryd.func7, Tryd.ntmps7
  go_wp2_with fail
  refine CC.out.mono ?_; rintro e w2 ⟨rfl, hb2⟩
  have HB2 := HB.up hb2 HB.lt
  have HU2 := Lib.hid (up_trans HU hb2)
  clear HB HU CC hb2
  go_upto_region 4 with fail
  go_cut [5] (fun s5 wx => s5 = .string ⟨(sn ++ ([58, 32] ++ [106, 111, 105, 110])).toArray⟩ ∧ Below w2.heap.size w2 wx)
  case first =>
    refine wp_region_held_drew (S := fun W => Below w2.heap.size w2 W) (by kernel_rfl) ((Below.refl _ _).drew) (fun hHeld => ?_)
    refine wpAnyH_take (i := 0) (oi := ?_) (v := ?_) ?_ (by kernel_rfl) (by kernel_rfl) (by kernel_rfl) ?_ (Or.inl ⟨?_, ?_⟩) hHeld ?_
    rotate_left 2
    · conv => lhs; simp only [List.getElem?_toArray, List.getElem?_cons_succ, List.getElem?_cons_zero]
    · exact fun _ _ _ h => h
    · rfl
    · intro W hSw
      have h' := HB2.up hSw HB2.lt
      have k0 := h'.cell 0 _ rfl
      have k4 := h'.cell 4 _ rfl
      go_simp
      try with_reducible rfl
    try simp only [Act.put, List.setIfInBounds_toArray, List.set_cons_zero, List.set_cons_succ]
    refine wpAnyH_take (i := 1) (oi := ?_) (v := ?_) ?_ (by kernel_rfl) (by kernel_rfl) (by kernel_rfl) ?_ (Or.inl ⟨?_, ?_⟩) hHeld ?_
    rotate_left 2
    · conv => lhs; simp only [List.getElem?_toArray, List.getElem?_cons_succ, List.getElem?_cons_zero]
    · exact fun _ _ _ h => h
    · rfl
    · intro W hSw
      have h' := HB2.up hSw HB2.lt
      have k0 := h'.cell 0 _ rfl
      have k4 := h'.cell 4 _ rfl
      go_simp
      try with_reducible rfl
    try simp only [Act.put, List.setIfInBounds_toArray, List.set_cons_zero, List.set_cons_succ]
    refine wpAnyH_take (i := 5) (oi := ?_) (v := ?_) ?_ (by kernel_rfl) (by kernel_rfl) (by kernel_rfl) ?_ (Or.inl ⟨?_, ?_⟩) hHeld ?_
    rotate_left 2
    · conv => lhs; simp only [List.getElem?_toArray, List.getElem?_cons_succ, List.getElem?_cons_zero]
    · exact fun _ _ _ h => h
    · rfl
    · intro W hSw
      have h' := HB2.up hSw HB2.lt
      have k0 := h'.cell 0 _ rfl
      have k4 := h'.cell 4 _ rfl
      go_simp
      try with_reducible rfl
    try simp only [Act.put, List.setIfInBounds_toArray, List.set_cons_zero, List.set_cons_succ]
    refine wpAnyH_take (i := 6) (oi := ?_) (v := ?_) ?_ (by kernel_rfl) (by kernel_rfl) (by kernel_rfl) ?_ (Or.inl ⟨?_, ?_⟩) hHeld ?_
    rotate_left 2
    · conv => lhs; simp only [List.getElem?_toArray, List.getElem?_cons_succ, List.getElem?_cons_zero]
    · exact fun _ _ _ h => h
    · rfl
    · intro W hSw
      have h' := HB2.up hSw HB2.lt
      have k0 := h'.cell 0 _ rfl
      have k4 := h'.cell 4 _ rfl
      go_simp
      try with_reducible rfl
    try simp only [Act.put, List.setIfInBounds_toArray, List.set_cons_zero, List.set_cons_succ]
    refine wpAnyH_take (i := 7) (oi := ?_) (v := .int .i64 5) ?_ (by kernel_rfl) (by kernel_rfl) (by kernel_rfl) ?_ (Or.inl ⟨?_, ?_⟩) hHeld ?_
    rotate_left 1
    · conv => lhs; simp only [List.getElem?_toArray, List.getElem?_cons_succ, List.getElem?_cons_zero]
    · exact fun _ _ _ h => h
    · rfl
    · intro W hSw
      go_simp
      try rfl
    try simp only [Act.put, List.setIfInBounds_toArray, List.set_cons_zero, List.set_cons_succ]
    refine wpAnyH_ready (rs := [2, 4]) (by kernel_rfl) (by simp) ?_
    refine AllReadyH.cons (o := ?_) ?_ (fun K hK => ?_) ?_
    rotate_left 1
    · conv => lhs; simp only [List.getElem?_toArray, List.getElem?_cons_succ, List.getElem?_cons_zero]
    · go_simp
      refine (Cn.out _).mono ?_; rintro e wB ⟨rfl, hbB⟩
      go_wp2_with fail
      refine hK.out _ _ (up_trans hHeld hbB) (fun hHeld => ?_)
      clear hK K
      try simp only [Act.put, List.setIfInBounds_toArray, List.set_cons_zero, List.set_cons_succ]
      refine wpAnyH_take (i := 3) (oi := ?_) (v := .string ⟨(sn ++ [58, 32]).toArray⟩) ?_ (by kernel_rfl) (by kernel_rfl) (by kernel_rfl) ?_ (Or.inl ⟨?_, ?_⟩) hHeld ?_
      rotate_left 1
      · conv => lhs; simp only [List.getElem?_toArray, List.getElem?_cons_succ, List.getElem?_cons_zero]
      · exact fun _ _ _ h => h
      · rfl
      · intro W hSw
        exact tk_cat rfl rfl rfl (by omega) (by decide)
      try simp only [Act.put, List.setIfInBounds_toArray, List.set_cons_zero, List.set_cons_succ]
      refine wpAnyH_ready (rs := [4]) (by kernel_rfl) (by simp) ?_
      refine AllReadyH.cons (o := ?_) ?_ (fun K hK => ?_) AllReadyH.nil
      rotate_left 1
      · conv => lhs; simp only [List.getElem?_toArray, List.getElem?_cons_succ, List.getElem?_cons_zero]
      go_simp
      refine hK.out _ _ (up_trans hHeld (up_alloc _ _)) (fun hHeld => ?_)
      clear hK K
      try simp only [Act.put, List.setIfInBounds_toArray, List.set_cons_zero, List.set_cons_succ]
      refine wpAnyH_take (i := 8) (oi := ?_) (v := .pointer (some ⟨wB.heap.size, 5, none⟩)) ?_ (by kernel_rfl) (by kernel_rfl) (by kernel_rfl) ?_ (Or.inl ⟨?_, ?_⟩) hHeld ?_
      rotate_left 1
      · conv => lhs; simp only [List.getElem?_toArray, List.getElem?_cons_succ, List.getElem?_cons_zero]
      · exact fun _ _ _ h => h
      · rfl
      · intro W hSw
        have h' := HB2.up hSw HB2.lt
        have k0 := h'.cell 0 _ rfl
        have k4 := h'.cell 4 _ rfl
        go_simp
        try with_reducible rfl
      try simp only [Act.put, List.setIfInBounds_toArray, List.set_cons_zero, List.set_cons_succ]
      have q4 := names_new wB 5 _ rfl
      refine wpAnyH_ready (rs := [9]) (by kernel_rfl) (by simp) ?_
      refine AllReadyH.cons (o := ?_) ?_ (fun K hK => ?_) AllReadyH.nil
      rotate_left 1
      · conv => lhs; simp only [List.getElem?_toArray, List.getElem?_cons_succ, List.getElem?_cons_zero]
      go_simp
      refine hK.out _ _ (hHeld) (fun hHeld => ?_)
      clear hK K
      try simp only [Act.put, List.setIfInBounds_toArray, List.set_cons_zero, List.set_cons_succ]
      refine wpAnyH_take (i := 10) (oi := ?_) (v := .string ⟨((sn ++ [58, 32]) ++ [106, 111, 105, 110]).toArray⟩) ?_ (by kernel_rfl) (by kernel_rfl) (by kernel_rfl) ?_ (Or.inl ⟨?_, ?_⟩) hHeld ?_
      rotate_left 1
      · conv => lhs; simp only [List.getElem?_toArray, List.getElem?_cons_succ, List.getElem?_cons_zero]
      · exact fun _ _ _ h => h
      · rfl
      · intro W hSw
        exact tk_cat rfl rfl rfl (by simp; omega) (by decide)
      try simp only [Act.put, List.setIfInBounds_toArray, List.set_cons_zero, List.set_cons_succ]
      refine wpAnyH_take (i := 11) (oi := ?_) (v := ?_) ?_ (by kernel_rfl) (by kernel_rfl) (by kernel_rfl) ?_ (Or.inl ⟨?_, ?_⟩) hHeld ?_
      rotate_left 2
      · conv => lhs; simp only [List.getElem?_toArray, List.getElem?_cons_succ, List.getElem?_cons_zero]
      · exact fun _ _ _ h => h
      · rfl
      · intro W hSw
        have h' := HB2.up hSw HB2.lt
        have k0 := h'.cell 0 _ rfl
        have k4 := h'.cell 4 _ rfl
        go_simp
        try with_reducible rfl
      try simp only [Act.put, List.setIfInBounds_toArray, List.set_cons_zero, List.set_cons_succ]
      refine wpAnyH_done (by kernel_rfl) ?_ _
      go_wp2_with fail
      go_meet
      exact ⟨by simp, hHeld⟩
    refine AllReadyH.cons (o := ?_) ?_ (fun K hK => ?_) AllReadyH.nil
    rotate_left 1
    · conv => lhs; simp only [List.getElem?_toArray, List.getElem?_cons_succ, List.getElem?_cons_zero]
    go_simp
    refine hK.out _ _ (up_trans hHeld (up_alloc _ _)) (fun hHeld => ?_)
    clear hK K
    try simp only [Act.put, List.setIfInBounds_toArray, List.set_cons_zero, List.set_cons_succ]
    refine wpAnyH_take (i := 8) (oi := ?_) (v := .pointer (some ⟨w2.drew.heap.size, 5, none⟩)) ?_ (by kernel_rfl) (by kernel_rfl) (by kernel_rfl) ?_ (Or.inl ⟨?_, ?_⟩) hHeld ?_
    rotate_left 1
    · conv => lhs; simp only [List.getElem?_toArray, List.getElem?_cons_succ, List.getElem?_cons_zero]
    · exact fun _ _ _ h => h
    · rfl
    · intro W hSw
      have h' := HB2.up hSw HB2.lt
      have k0 := h'.cell 0 _ rfl
      have k4 := h'.cell 4 _ rfl
      go_simp
      try with_reducible rfl
    try simp only [Act.put, List.setIfInBounds_toArray, List.set_cons_zero, List.set_cons_succ]
    have q4 := names_new w2 5 _ rfl
    refine wpAnyH_ready (rs := [2, 9]) (by kernel_rfl) (by simp) ?_
    refine AllReadyH.cons (o := ?_) ?_ (fun K hK => ?_) ?_
    rotate_left 1
    · conv => lhs; simp only [List.getElem?_toArray, List.getElem?_cons_succ, List.getElem?_cons_zero]
    · go_simp
      refine (Cn.out _).mono ?_; rintro e wB ⟨rfl, hbB⟩
      have q5 : wB.cell? ⟨w2.heap.size, 5, none⟩ = some (.string ⟨#[106, 111, 105, 110]⟩) := names_cell (W := w2.drew) hbB 5 _ rfl
      clear q4
      go_wp2_with fail
      refine hK.out _ _ (up_trans hHeld hbB) (fun hHeld => ?_)
      clear hK K
      try simp only [Act.put, List.setIfInBounds_toArray, List.set_cons_zero, List.set_cons_succ]
      refine wpAnyH_take (i := 3) (oi := ?_) (v := .string ⟨(sn ++ [58, 32]).toArray⟩) ?_ (by kernel_rfl) (by kernel_rfl) (by kernel_rfl) ?_ (Or.inl ⟨?_, ?_⟩) hHeld ?_
      rotate_left 1
      · conv => lhs; simp only [List.getElem?_toArray, List.getElem?_cons_succ, List.getElem?_cons_zero]
      · exact fun _ _ _ h => h
      · rfl
      · intro W hSw
        exact tk_cat rfl rfl rfl (by omega) (by decide)
      try simp only [Act.put, List.setIfInBounds_toArray, List.set_cons_zero, List.set_cons_succ]
      refine wpAnyH_ready (rs := [9]) (by kernel_rfl) (by simp) ?_
      refine AllReadyH.cons (o := ?_) ?_ (fun K hK => ?_) AllReadyH.nil
      rotate_left 1
      · conv => lhs; simp only [List.getElem?_toArray, List.getElem?_cons_succ, List.getElem?_cons_zero]
      go_simp
      refine hK.out _ _ (hHeld) (fun hHeld => ?_)
      clear hK K
      try simp only [Act.put, List.setIfInBounds_toArray, List.set_cons_zero, List.set_cons_succ]
      refine wpAnyH_take (i := 10) (oi := ?_) (v := .string ⟨((sn ++ [58, 32]) ++ [106, 111, 105, 110]).toArray⟩) ?_ (by kernel_rfl) (by kernel_rfl) (by kernel_rfl) ?_ (Or.inl ⟨?_, ?_⟩) hHeld ?_
      rotate_left 1
      · conv => lhs; simp only [List.getElem?_toArray, List.getElem?_cons_succ, List.getElem?_cons_zero]
      · exact fun _ _ _ h => h
      · rfl
      · intro W hSw
        exact tk_cat rfl rfl rfl (by simp; omega) (by decide)
      try simp only [Act.put, List.setIfInBounds_toArray, List.set_cons_zero, List.set_cons_succ]
      refine wpAnyH_take (i := 11) (oi := ?_) (v := ?_) ?_ (by kernel_rfl) (by kernel_rfl) (by kernel_rfl) ?_ (Or.inl ⟨?_, ?_⟩) hHeld ?_
      rotate_left 2
      · conv => lhs; simp only [List.getElem?_toArray, List.getElem?_cons_succ, List.getElem?_cons_zero]
      · exact fun _ _ _ h => h
      · rfl
      · intro W hSw
        have h' := HB2.up hSw HB2.lt
        have k0 := h'.cell 0 _ rfl
        have k4 := h'.cell 4 _ rfl
        go_simp
        try with_reducible rfl
      try simp only [Act.put, List.setIfInBounds_toArray, List.set_cons_zero, List.set_cons_succ]
      refine wpAnyH_done (by kernel_rfl) ?_ _
      go_wp2_with fail
      go_meet
      exact ⟨by simp, hHeld⟩
    refine AllReadyH.cons (o := ?_) ?_ (fun K hK => ?_) AllReadyH.nil
    rotate_left 1
    · conv => lhs; simp only [List.getElem?_toArray, List.getElem?_cons_succ, List.getElem?_cons_zero]
    go_simp
    refine hK.out _ _ (hHeld) (fun hHeld => ?_)
    clear hK K
    try simp only [Act.put, List.setIfInBounds_toArray, List.set_cons_zero, List.set_cons_succ]
    refine wpAnyH_ready (rs := [2]) (by kernel_rfl) (by simp) ?_
    refine AllReadyH.cons (o := ?_) ?_ (fun K hK => ?_) AllReadyH.nil
    rotate_left 1
    · conv => lhs; simp only [List.getElem?_toArray, List.getElem?_cons_succ, List.getElem?_cons_zero]
    go_simp
    refine (Cn.out _).mono ?_; rintro e wB ⟨rfl, hbB⟩
    go_wp2_with fail
    refine hK.out _ _ (up_trans hHeld hbB) (fun hHeld => ?_)
    clear hK K
    try simp only [Act.put, List.setIfInBounds_toArray, List.set_cons_zero, List.set_cons_succ]
    refine wpAnyH_take (i := 3) (oi := ?_) (v := .string ⟨(sn ++ [58, 32]).toArray⟩) ?_ (by kernel_rfl) (by kernel_rfl) (by kernel_rfl) ?_ (Or.inl ⟨?_, ?_⟩) hHeld ?_
    rotate_left 1
    · conv => lhs; simp only [List.getElem?_toArray, List.getElem?_cons_succ, List.getElem?_cons_zero]
    · exact fun _ _ _ h => h
    · rfl
    · intro W hSw
      exact tk_cat rfl rfl rfl (by omega) (by decide)
    try simp only [Act.put, List.setIfInBounds_toArray, List.set_cons_zero, List.set_cons_succ]
    refine wpAnyH_take (i := 10) (oi := ?_) (v := .string ⟨((sn ++ [58, 32]) ++ [106, 111, 105, 110]).toArray⟩) ?_ (by kernel_rfl) (by kernel_rfl) (by kernel_rfl) ?_ (Or.inl ⟨?_, ?_⟩) hHeld ?_
    rotate_left 1
    · conv => lhs; simp only [List.getElem?_toArray, List.getElem?_cons_succ, List.getElem?_cons_zero]
    · exact fun _ _ _ h => h
    · rfl
    · intro W hSw
      exact tk_cat rfl rfl rfl (by simp; omega) (by decide)
    try simp only [Act.put, List.setIfInBounds_toArray, List.set_cons_zero, List.set_cons_succ]
    refine wpAnyH_take (i := 11) (oi := ?_) (v := ?_) ?_ (by kernel_rfl) (by kernel_rfl) (by kernel_rfl) ?_ (Or.inl ⟨?_, ?_⟩) hHeld ?_
    rotate_left 2
    · conv => lhs; simp only [List.getElem?_toArray, List.getElem?_cons_succ, List.getElem?_cons_zero]
    · exact fun _ _ _ h => h
    · rfl
    · intro W hSw
      have h' := HB2.up hSw HB2.lt
      have k0 := h'.cell 0 _ rfl
      have k4 := h'.cell 4 _ rfl
      go_simp
      try with_reducible rfl
    try simp only [Act.put, List.setIfInBounds_toArray, List.set_cons_zero, List.set_cons_succ]
    refine wpAnyH_done (by kernel_rfl) ?_ _
    go_wp2_with fail
    go_meet
    exact ⟨by simp, hHeld⟩
  case rest =>
    obtain ⟨rfl, hbc⟩ := hcut
    have HB4 := HB2.up hbc HB2.lt
    have HU4 := Lib.hid (up_trans HU2.out hbc)
    clear HB2 HU2 hbc
    have j0 := HB4.cell 0 _ rfl
    have i1 := cell_regrown (HB4.cell 1 _ rfl)
    have i2 := cell_regrown (HB4.cell 2 _ rfl)
    have i3 := cell_regrown (HB4.cell 3 _ rfl)
    have i4 := cell_regrown (HB4.cell 4 _ rfl)
    have cA := grown_call (w := wc) fun W _ => Cv.out W
    have cB := grown_call (w := wc) fun W _ => Cr.out W
    clear HB4
    go_wp2_with fail
    refine wp_region_quiet_below (by kernel_rfl) (by kernel_rfl) ?_
    repeat (go_big_quiet_step (first | (with_reducible exact cA _ _) | (with_reducible exact cB _ _)))
    refine wpQuiet_nil ?_
    intro _ hw'
    obtain ⟨⟨dq, osq⟩, hw''⟩ := hw'
    have HQ := Lib.hid (up_trans HU4.out (hw'' ▸ below_regrown wc dq osq))
    clear hw'' j0 i1 i2 i3 i4 cA cB
    go_wp2
    go_ret2
    refine ⟨ret_str2 ?_ rfl, HQ.out⟩
    rw [HX.out]
    apply ByteArray.ext
    simp
set_option maxHeartbeats 4000000 in
theorem c_rtext (k o v r n : Int) (w : World) :
    Calls Tryd.prog 7 #[.agg #[.int .i64 k, .int .i64 o, .int .i64 v, .int .i64 r, .int .i64 n]] w fun e w' => e = .returned (.tuple #[.string ⟨(txtE k o v r n).toArray⟩, .int .i64 (chkE k o v r n)]) ∧ Below w.heap.size w w' := by
  by_cases h0 : chkE k o v r n = 0
  · have hf := fit_of h0
    rw [txtE_ok h0, h0]
    rcases kinds hf.k0 hf.k1 with rfl | rfl | rfl | rfl | rfl | rfl
    · exact c_rtext1 o v r n h0 w
    · exact c_rtext2 o v r n h0 w
    · exact c_rtext3 o v r n h0 w
    · exact c_rtext4 o v r n h0 w
    · exact c_rtext5 o v r n h0 w
    · exact c_rtext6 o v r n h0 w
  · have HU := up_alloc w (.cells #[.int .i64 k, .int .i64 o, .int .i64 v, .int .i64 r, .int .i64 n] 23)
    have CC := Lib.hid (c_rcheck k o v r n (w.alloc (.cells #[.int .i64 k, .int .i64 o, .int .i64 v, .int .i64 r, .int .i64 n] 23)))
    have HX := Lib.hid (txtE_no h0)
    have hb : (chkE k o v r n != 0) = true := by simpa [bne] using h0
    generalize chkE k o v r n = x at CC hb
    clear h0
    go_enter Tryd.func7, Tryd.ntmps7
    go_wp2_with fail
    refine CC.out.mono ?_; rintro e w2 ⟨rfl, hb2⟩
    go_wp2
    go_ret2
    exact ⟨ret_str2 (by rw [HX.out]) rfl, up_trans HU hb2⟩
end Go.Proofs.YtniijkdlphkpkaaDoor

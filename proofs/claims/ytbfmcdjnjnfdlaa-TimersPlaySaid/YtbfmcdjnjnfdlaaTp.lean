/- slices.DeleteFunc over what is not due. -/
import Derived.Test.YtbfmcdjnjnfdlaaTo
import Derived.Test.YtbfmcdjnjnfdlaaTg
namespace Go.Proofs.Ytbfmcdjnjnfdlaa
open Go.RowKit

/-- Those that are due. -/
def dueL (now : Int) (xs : List Tm) : List Tm := xs.filter fun t => dueB now t.at_
theorem dueL_snoc (now : Int) (xs : List Tm) (k : Nat) (hk : k < xs.length) : dueL now (xs.take (k + 1)) = dueL now (xs.take k) ++ if dueB now (gt xs k).at_ = true then [gt xs k] else [] := by
  unfold dueL
  rw [List.take_add_one, gt_some hk, List.filter_append]
  congr 1
  by_cases h : dueB now (gt xs k).at_ = true <;> simp [h]
theorem dueL_all (now : Int) (xs : List Tm) (n : Nat) (h : ∀ i, i < n → (!dueB now (gt xs i).at_) = false) (hn : n ≤ xs.length) : dueL now (xs.take n) = xs.take n := by
  unfold dueL
  rw [List.filter_eq_self]
  intro t ht
  obtain ⟨k, hk, e⟩ := List.getElem_of_mem ht
  rw [List.length_take] at hk
  have := h k (by omega)
  rw [List.getElem_take] at e
  rw [gt_of (List.getElem?_eq_getElem (by omega)), e] at this
  simpa using this
/-- A row of the call's own, made of one of its own, in place. -/
def InPost (w : World) (lo : Nat) (v : Value) (ys : List Tm) (e : Ending) (w' : World) : Prop :=
  ∃ v', e = .returned v' ∧ w'.ownsRow lo 42 3 v' ys.length (flatT ys) ∧ Only (fun k => v.ownBlock = some k) w w'
/-- What holds at a round's head. -/
structure FR (w wr : World) (lo g n c : Nat) (now : Int) (xs : List Tm) (i j : Nat) (zs : List Tm) : Prop where
  ij : i < j
  jn : j ≤ n
  len : zs.length = n
  row : wr.ownsRow lo 42 3 (.slice (some ⟨g, 0, none⟩) n c) n (flatT zs)
  head : zs.take i = dueL now (xs.take j)
  tail : ∀ k, j ≤ k → gt zs k = gt xs k
  only : Only (· = g) w wr
theorem FR.skip {w wr w2 : World} {lo g n c : Nat} {now : Int} {xs : List Tm} {i j : Nat} {zs : List Tm} (h : FR w wr lo g n c now xs i j zs) (hj : j < n) (hx : xs.length = n) (hd : dueB now (gt xs j).at_ = false) (hb : Below wr.heap.size wr w2) : FR w w2 lo g n c now xs i (j + 1) zs :=
  ⟨Nat.lt_succ_of_lt h.ij, hj, h.len, own_below h.row hb, by rw [dueL_snoc now xs j (by omega), hd, h.head]; simp, fun k hk => h.tail k (by omega), h.only.below_trans hb⟩
theorem FR.keep {w wr w2 : World} {lo g n c : Nat} {now : Int} {xs : List Tm} {i j : Nat} {zs : List Tm} (h : FR w wr lo g n c now xs i j zs) (hj : j < n) (hx : xs.length = n) {t : Tm} (ht : t = gt xs j) (hd : dueB now t.at_ = true) (hb : Below wr.heap.size wr w2) :
    FR w (((w2.setCell ⟨g, i * 3, none⟩ (.int .i64 t.at_)).setCell ⟨g, i * 3 + 1, none⟩ (.int .i64 t.no)).setCell ⟨g, i * 3 + 2, none⟩ (.int .i64 t.who)) lo g n c now xs (i + 1) (j + 1) (zs.set i t) := by
  subst ht
  have hij := h.ij
  have hl := h.len
  refine ⟨by omega, hj, by simp [hl], store3 (own_below h.row hb) i (by omega) _, ?_, fun k hk => ?_, (h.only.below_trans hb).trans (store3_only w2 g i _)⟩
  · rw [dueL_snoc now xs j (by omega), if_pos hd, ← h.head, List.take_add_one, List.getElem?_set_self (by omega), List.take_set_of_le (Nat.le_refl _)]
    rfl
  · rw [gt_set_ne _ (by omega)]
    exact h.tail k (by omega)

set_option maxHeartbeats 4000000 in
theorem c_delf {w : World} {lo B : Nat} {v : Value} {xs : List Tm} {now : Int} (h : w.ownsRow lo 42 3 v xs.length (flatT xs)) (hf : xs.length ≤ 2000) (hB : Blk w B [.int .i64 now] 3) :
    Calls Try.prog 30 #[v, .func (.func 31) #[] #[.pointer (some ⟨B, 0, none⟩)]] w (InPost w lo v (dueL now xs)) := by
  obtain ⟨A, c, rfl, hnc, hcm, hr⟩ := own_slice h
  have HR := Lib.hid h
  have HBB := Lib.hid hB
  have HF := Lib.hid hf
  have CX := Lib.hid (c_ixdue (c := c) (A := A) (pl := fun b => lo ≤ b) hr hf (hB.cell 0 _ rfl) hB.lt)
  have HBG : Hid (∀ g, A = some ⟨g, 0, none⟩ → B ≠ g) := Lib.hid (fun g e => by
    obtain ⟨_, ds, hd⟩ := own_blk h g (by rw [e]; rfl)
    exact hB.ne hd (by decide))
  clear h hr hB
  go_enter Try.func30, Try.ntmps30
  go_wp2_with fail
  refine Calls.mono CX.out ?_
  rintro e w1 ⟨hb1, ⟨i0, rfl, hi0, hp0, hp1⟩ | ⟨rfl, hp⟩⟩
  · obtain ⟨g, c', e1, _, _, _, _⟩ := row_form HR.out (by omega)
    have e2 : A = some ⟨g, 0, none⟩ := by injection e1
    subst e2
    clear e1
    have hne : ((i0 : Int) == -1) = false := beq_eq_false_iff_ne.2 (by omega)
    obtain ⟨n, hn⟩ : ∃ n, n = xs.length := ⟨_, rfl⟩
    have H0 : Hid (FR w w1 lo g n c now xs i0 (i0 + 1) xs) := Lib.hid ⟨by omega, by omega, hn.symm, by rw [hn]; exact own_below HR.out hb1, by
      have hd : dueB now (gt xs i0).at_ = false := by simpa using hp0
      rw [dueL_snoc now xs i0 hi0, hd, dueL_all now xs i0 hp1 (by omega)]
      simp, fun _ _ => rfl, Only.of_below hb1⟩
    have HN := Lib.hid hn
    rw [← hn] at hnc hi0 hf ⊢
    clear hp0 hp1 hb1 hn
    unfold maxLen at hcm
    go_wp2_with fail
    go_loopw [5, 6] (fun i j wr => ∃ (a b : Nat) (zs : List Tm), i = .int .i64 a ∧ j = .int .i64 b ∧ FR w wr lo g n c now xs a b zs) (fun _ j _ => n - (intOf j).toNat)
    case atStart => exact ⟨i0, i0 + 1, xs, rfl, by go_num, H0.out⟩
    case round =>
      obtain ⟨i, j, zs, rfl, rfl, hF⟩ := hrel
      have hij := hF.ij
      have hjn := hF.jn
      have HFR := Lib.hid hF
      clear hF
      by_cases hlt : j < n
      · have hcells := row_cells HFR.out.row j (by rw [HFR.out.len]; exact hlt)
        rw [HFR.out.tail j (Nat.le_refl _)] at hcells
        obtain ⟨t, ht⟩ : ∃ t, t = gt xs j := ⟨_, rfl⟩
        rw [← ht] at hcells
        obtain ⟨j0, j1, j2⟩ := hcells
        have HT := Lib.hid ht
        have HBr := Lib.hid (HBB.out.only HFR.out.only (HBG.out g rfl))
        have hba := up_alloc wr (.cells #[.int .i64 t.at_, .int .i64 t.no, .int .i64 t.who] 42)
        have hX := box_tm wr t
        generalize hw1 : wr.alloc (.cells #[.int .i64 t.at_, .int .i64 t.no, .int .i64 t.who] 42) = wx at hba hX
        have CI := Lib.hid (c_isdue (w := wx) ((HBr.out.up hba HBr.out.lt).cell 0 _ rfl) (HBr.out.up hba HBr.out.lt).lt t)
        have HW := Lib.hid hw1
        have HBA := Lib.hid hba
        have x0 := hX.cell 0 _ rfl
        have x1 := hX.cell 1 _ rfl
        have x2 := hX.cell 2 _ rfl
        have HX := Lib.hid hX
        clear ht hw1 hba hX
        cases hd : dueB now t.at_
        · rw [hd] at CI
          have HD := Lib.hid hd
          clear hd
          go_wp2_with fail
          rw [HW.out]
          refine Calls.mono CI.out ?_
          rintro e w2 ⟨rfl, hb2⟩
          have HB2 := Lib.hid hb2
          clear hb2 j0 j1 j2 x0 x1 x2
          go_wp2_with fail
          go_roundw
          case rel => exact ⟨i, j + 1, zs, rfl, by go_num, HFR.out.skip hlt HN.out.symm (by rw [← HT.out]; exact HD.out) (up_trans HBA.out HB2.out)⟩
          case measure => simp [intOf]; omega
        · rw [hd] at CI
          have HD := Lib.hid hd
          clear hd
          go_wp2_with fail
          rw [HW.out]
          refine Calls.mono CI.out ?_
          rintro e w2 ⟨rfl, hb2⟩
          have hX2 := HX.out.up hb2 HX.out.lt
          have HB2 := Lib.hid (up_trans HBA.out hb2)
          have hro := own_below HFR.out.row HB2.out
          have hri := row_cells hro i (by rw [HFR.out.len]; omega)
          have f0 := hro.frozenAt (i * 3)
          have f1 := hro.frozenAt (i * 3 + 1)
          have f2 := hro.frozenAt (i * 3 + 2)
          obtain ⟨i0, i1, i2⟩ := hri
          clear j0 j1 j2 x0 x1 x2
          have x0 := hX2.cell 0 _ rfl
          have x1 := hX2.cell 1 _ rfl
          have x2 := hX2.cell 2 _ rfl
          generalize gt zs i = z at i0 i1 i2
          clear hb2 hro hX2
          go_wp2_with fail
          go_roundw
          case rel => exact ⟨i + 1, j + 1, _, by go_num, by go_num, HFR.out.keep hlt HN.out.symm HT.out HD.out HB2.out⟩
          case measure => simp [intOf]; omega
      · obtain rfl : j = n := by omega
        have hcne : ¬ c = i := by omega
        have hic : i ≤ c := by omega
        have h01 : 0 ≤ (i : Int) := by omega
        have hto := own_take HFR.out.row i (by omega)
        have hcl := fun cc => run_clear_tm (t := 49) (ty := 0) (by kernel_rfl) (w := wr) (g := g) (o := i * 3) (n := j - i) (c := cc)
          (fun q hq => by
            have h3 := row_cells HFR.out.row (i + q / 3) (by rw [HFR.out.len]; omega)
            have e : i * 3 + q = (i + q / 3) * 3 + q % 3 := by omega
            rw [e]
            have : q % 3 < 3 := Nat.mod_lt _ (by omega)
            generalize q % 3 = r at *
            rcases (show r = 0 ∨ r = 1 ∨ r = 2 by omega) with rfl | rfl | rfl
            · exact (congrArg Option.isSome h3.1).trans rfl
            · exact (congrArg Option.isSome h3.2.1).trans rfl
            · exact (congrArg Option.isSome h3.2.2).trans rfl)
          (fun q _ => HFR.out.row.frozenAt _)
        have hlen : (zs.take i).length = i := by rw [List.length_take, HFR.out.len]; omega
        have HP : Hid (InPost w lo (.slice (some ⟨g, 0, none⟩) j c) (zs.take i) (.returned (.slice (some ⟨g, 0, none⟩) i c)) (wr.setCells g (i * 3) (List.replicate ((j - i) * 3) (.int .i64 0)))) :=
          Lib.hid ⟨_, rfl, by rw [hlen]; exact own_set _ _ _ (Nat.le_refl _) hto, (HFR.out.only.trans (only_set g _ _ _)).mono fun k _ e => by simp [Value.ownBlock, e]⟩
        have hE : zs.take i = dueL now xs := by
          rw [HFR.out.head, List.take_of_length_le (by rw [← HN.out]; exact Nat.le_refl _)]
        rw [hE] at HP
        generalize List.replicate ((j - i) * 3) (Value.int .i64 0) = zz at *
        clear hto hlen hE hlt hjn
        go_wp2_with fail
        go_ret
        exact HP.out
  · have hd : dueL now xs = xs := by
      have := dueL_all now xs xs.length hp (Nat.le_refl _)
      rwa [List.take_length] at this
    have HP : Hid (InPost w lo (.slice A xs.length c) (dueL now xs) (.returned (.slice A xs.length c)) w1) := Lib.hid (by rw [hd]; exact ⟨_, rfl, own_below HR.out hb1, Only.of_below hb1⟩)
    generalize dueL now xs = ys at *
    generalize xs.length = n at *
    clear hp hb1 hd
    go_wp2_with fail
    go_ret
    exact HP.out
end Go.Proofs.Ytbfmcdjnjnfdlaa

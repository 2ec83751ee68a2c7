/- Package claims: Join. -/
import Derived.Test.YtnmjjemkaamcfaaLb
import Derived.Test.YtnmjjemkaamcfaaSk
namespace Go.Proofs.Ytnmjjemkaamcfaa
open Go.RowKit

/-- What a call gives that answers a line and something more: the line reads as L, in blocks of pl. -/
def LnPost (w : World) (pl : Nat → Prop) (sh : Bool) (L : List Int) (k : Value) (e : Ending) (w' : World) : Prop :=
  ∃ A n c, e = .returned (.tuple #[.agg #[.bool sh, .slice A n c], k]) ∧ LnW w' pl A n c L ∧ Below w.heap.size w w'
/-- The world of a function that boxes its line, and has a cell for the line that it gives. -/
structure LnBox (w w2 : World) (sh : Bool) (u : Value) (t : TypeId) : Prop where
  up : Below w.heap.size w w2
  size : w2.heap.size = w.heap.size + 2
  box : Blk w2 w.heap.size [.bool sh, u] t
  res : Blk w2 (w.heap.size + 1) [.bool false, .slice none 0 0] t
theorem lnbox (w : World) (sh : Bool) (u : Value) (t : TypeId) : LnBox w ((w.alloc (.cells #[.bool sh, u] t)).alloc (.cells #[.bool false, .slice none 0 0] t)) sh u t := by
  refine ⟨up_trans (up_alloc _ _) (up_alloc _ _), by simp, (Blk.new w [.bool sh, u] _).alloc _, ?_⟩
  have := Blk.new (w.alloc (.cells #[.bool sh, u] t)) [.bool false, .slice none 0 0] t
  simpa using this

theorem two_up (w : World) (o o' : Obj) : Below w.heap.size w ((w.alloc o).alloc o') := up_trans (up_alloc _ _) (up_alloc _ _)
theorem below_put {B b : Nat} {w w' : World} (h : Below B w w') (hb : B ≤ b) (j : Nat) (u : Value) (hB : B ≤ w.heap.size) : Below B w (w'.setCell ⟨b, j, none⟩ u) :=
  h.trans ((Only.setCell (s := fun k => B ≤ k) (Only.refl _ w') (.inl hb) u).toBelow (by have := h.size; omega) (fun _ h => h))
/-- What the line's box and the answer's cell hold, in a world behind the boxes. -/
structure LnAt (w w2 : World) (sh : Bool) (u : Value) (t : TypeId) : Prop where
  up : Below w.heap.size w w2
  box : Blk w2 w.heap.size [.bool sh, u] t
  res : Blk w2 (w.heap.size + 1) [.bool false, .slice none 0 0] t
theorem LnBox.at_ {w w2 w3 : World} {sh : Bool} {u : Value} {t : TypeId} (h : LnBox w w2 sh u t) (hb : Below w2.heap.size w2 w3) : LnAt w w3 sh u t :=
  ⟨up_trans h.up hb, h.box.up hb h.box.lt, h.res.up hb h.res.lt⟩
theorem LnAt.next {w w2 w3 : World} {sh : Bool} {u : Value} {t : TypeId} (h : LnAt w w2 sh u t) (hb : Below w2.heap.size w2 w3) : LnAt w w3 sh u t :=
  ⟨up_trans h.up hb, h.box.up hb h.box.lt, h.res.up hb h.res.lt⟩
theorem LnAt.out {w w2 : World} {sh : Bool} {u : Value} {t : TypeId} (h : LnAt w w2 sh u t) (x y : Value) : Below w.heap.size w ((w2.setCell ⟨w.heap.size + 1, 0, none⟩ x).setCell ⟨w.heap.size + 1, 1, none⟩ y) :=
  below_put (below_put h.up (by omega) 0 x (Nat.le_refl _)) (by omega) 1 y (Nat.le_refl _)
theorem LnAt.out2 {w w2 : World} {sh : Bool} {u : Value} {t : TypeId} (h : LnAt w w2 sh u t) (x y z : Value) : Below w.heap.size w (((w2.setCell ⟨w.heap.size, 1, none⟩ z).setCell ⟨w.heap.size + 1, 0, none⟩ x).setCell ⟨w.heap.size + 1, 1, none⟩ y) :=
  below_put (below_put (below_put h.up (by omega) 1 z (Nat.le_refl _)) (by omega) 0 x (Nat.le_refl _)) (by omega) 1 y (Nat.le_refl _)
theorem LnAt.after {w w2 : World} {sh : Bool} {u : Value} {t : TypeId} (_ : LnAt w w2 sh u t) (x y z : Value) : Only (fun k => k = w.heap.size ∨ k = w.heap.size + 1) w2 (((w2.setCell ⟨w.heap.size, 1, none⟩ z).setCell ⟨w.heap.size + 1, 0, none⟩ x).setCell ⟨w.heap.size + 1, 1, none⟩ y) :=
  (((Only.refl _ w2).setCell (.inl (.inl rfl)) z).setCell (.inl (.inr rfl)) x).setCell (.inl (.inr rfl)) y

set_option maxHeartbeats 2000000 in
theorem c_lnjoin {w : World} {pl : Nat → Prop} {A : Option Addr} {n c : Nat} {L : List Int} (h : LnW w pl A n c L) (hn : n ≤ 1000) (hp : ∀ b, w.heap.size ≤ b → pl b) (sh : Bool) (p : Int) :
    Calls Try.prog 84 #[.agg #[.bool sh, .slice A n c], .int .i64 p] w (LnPost w pl sh (lnJoinL sh L p) (.int .i64 (lnJoinE sh L p))) := by
  have HX := Lib.hid (lnbox w sh (.slice A n c) 71)
  have HV := Lib.hid h
  have HP := Lib.hid hp
  have HL := Lib.hid h.len
  have CF := Lib.hid (fun W (hW : Below w.heap.size w W) => c_lnfine (h.below hW) (by omega) sh)
  have CP := Lib.hid (fun W => c_lnp p W)
  have CC := Lib.hid (fun W (hW : Below w.heap.size w W) => c_contains (c := c) (h.below hW).rd h.len (by omega) p)
  have CK := Lib.hid (fun W (hW : Below w.heap.size w W) => c_sclone (c := c) (h.below hW).rd h.len (by omega))
  have HE := Lib.hid (show lnJoinE sh L p = if lnFine sh L = false then 1 else if lnP p = false then 8 else if p ∈ L then 7 else if sh = false ∧ 0 < L.length then 15 else 0 from rfl)
  have HJ := Lib.hid (show lnJoinL sh L p = if lnJoinE sh L p = 0 then L ++ [p] else L from rfl)
  generalize lnJoinE sh L p = er at HE HJ ⊢
  generalize lnJoinL sh L p = L' at HJ ⊢
  generalize lnFine sh L = q1 at CF HE
  generalize lnP p = q2 at CP HE
  obtain ⟨q3, hq3⟩ : ∃ q, q = decide (p ∈ L) := ⟨_, rfl⟩
  rw [← hq3] at CC
  have H3 := Lib.hid hq3
  clear h hp hq3
  cases q1
  · go_enter Try.func84, Try.ntmps84
    go_wp2_with fail
    refine (CF.out _ HX.out.up).mono ?_; rintro e w2 ⟨rfl, hb2⟩
    have HA := Lib.hid (HX.out.at_ hb2)
    have b0 := HA.out.box.cell 0 _ rfl
    have b1 := HA.out.box.cell 1 _ rfl
    have r0 := HA.out.res.cell 0 _ rfl
    have r1 := HA.out.res.cell 1 _ rfl
    have f0 := HA.out.res.free 0
    have f1 := HA.out.res.free 1
    have g1 := HA.out.box.free 1
    clear hb2
    go_wp2_with fail
    refine bodyPost_ret (v := .tuple #[.agg #[.bool sh, .slice A n c], .int .i64 1]) (by simp [results, Try.results84, go_sem, r0, r1]) rfl ?_
    have e1 : er = 1 := by rw [HE.out]; rfl
    have e2 : L' = L := by rw [HJ.out, e1]; rfl
    rw [e1, e2]
    exact ⟨A, n, c, rfl, HV.out.below (HA.out.out _ _), HA.out.out _ _⟩
  cases q2
  · go_enter Try.func84, Try.ntmps84
    go_wp2_with fail
    refine (CF.out _ HX.out.up).mono ?_; rintro e w2 ⟨rfl, hb2⟩
    have HA := Lib.hid (HX.out.at_ hb2)
    have b0 := HA.out.box.cell 0 _ rfl
    have b1 := HA.out.box.cell 1 _ rfl
    have r0 := HA.out.res.cell 0 _ rfl
    have r1 := HA.out.res.cell 1 _ rfl
    have f0 := HA.out.res.free 0
    have f1 := HA.out.res.free 1
    have g1 := HA.out.box.free 1
    clear hb2
    go_wp2_with fail
    refine (CP.out _).mono ?_; rintro e w' ⟨rfl, rfl⟩
    go_wp2_with fail
    refine bodyPost_ret (v := .tuple #[.agg #[.bool sh, .slice A n c], .int .i64 8]) (by simp [results, Try.results84, go_sem, r0, r1]) rfl ?_
    have e1 : er = 8 := by rw [HE.out]; rfl
    have e2 : L' = L := by rw [HJ.out, e1]; rfl
    rw [e1, e2]
    exact ⟨A, n, c, rfl, HV.out.below (HA.out.out _ _), HA.out.out _ _⟩
  cases q3
  case true =>
    go_enter Try.func84, Try.ntmps84
    go_wp2_with fail
    refine (CF.out _ HX.out.up).mono ?_; rintro e w2 ⟨rfl, hb2⟩
    have HA := Lib.hid (HX.out.at_ hb2)
    have b0 := HA.out.box.cell 0 _ rfl
    have b1 := HA.out.box.cell 1 _ rfl
    have r0 := HA.out.res.cell 0 _ rfl
    have r1 := HA.out.res.cell 1 _ rfl
    have f0 := HA.out.res.free 0
    have f1 := HA.out.res.free 1
    have g1 := HA.out.box.free 1
    clear hb2
    go_wp2_with fail
    refine (CP.out _).mono ?_; rintro e w' ⟨rfl, rfl⟩
    go_wp2_with fail
    refine (CC.out _ HA.out.up).mono ?_; rintro e w' ⟨rfl, rfl⟩
    go_wp2_with fail
    refine bodyPost_ret (v := .tuple #[.agg #[.bool sh, .slice A n c], .int .i64 7]) (by simp [results, Try.results84, go_sem, r0, r1]) rfl ?_
    have e1 : er = 7 := by rw [HE.out]; have := H3.out; simp at this; simp [this]
    have e2 : L' = L := by rw [HJ.out, e1]; rfl
    rw [e1, e2]
    exact ⟨A, n, c, rfl, HV.out.below (HA.out.out _ _), HA.out.out _ _⟩
  have hno : ¬ p ∈ L := by have := H3.out; simpa using this
  by_cases hbusy : sh = false ∧ 0 < n
  · obtain ⟨rfl, h0⟩ := hbusy
    have h0' : (0 : Int) < n := by omega
    go_enter Try.func84, Try.ntmps84
    go_wp2_with fail
    refine (CF.out _ HX.out.up).mono ?_; rintro e w2 ⟨rfl, hb2⟩
    have HA := Lib.hid (HX.out.at_ hb2)
    have b0 := HA.out.box.cell 0 _ rfl
    have b1 := HA.out.box.cell 1 _ rfl
    have r0 := HA.out.res.cell 0 _ rfl
    have r1 := HA.out.res.cell 1 _ rfl
    have f0 := HA.out.res.free 0
    have f1 := HA.out.res.free 1
    have g1 := HA.out.box.free 1
    clear hb2
    go_wp2_with fail
    refine (CP.out _).mono ?_; rintro e w' ⟨rfl, rfl⟩
    go_wp2_with fail
    refine (CC.out _ HA.out.up).mono ?_; rintro e w' ⟨rfl, rfl⟩
    go_wp2_with fail
    refine bodyPost_ret (v := .tuple #[.agg #[.bool false, .slice A n c], .int .i64 15]) (by simp [results, Try.results84, go_sem, r0, r1]) rfl ?_
    have e1 : er = 15 := by rw [HE.out]; have := HL.out; simp [hno, this, h0]
    have e2 : L' = L := by rw [HJ.out, e1]; rfl
    rw [e1, e2]
    exact ⟨A, n, c, rfl, HV.out.below (HA.out.out _ _), HA.out.out _ _⟩
  · have HD : Hid (er = 0) := Lib.hid (by rw [HE.out]; have := HL.out; simp only [hno, this]; simp; intro h; exact Nat.eq_zero_of_not_pos fun k => hbusy ⟨h, k⟩)
    have hsh : (sh = false ∧ ¬ (0 : Int) < n) ∨ sh = true := by
      cases sh
      · exact .inl ⟨rfl, fun k => hbusy ⟨rfl, by omega⟩⟩
      · exact .inr rfl
    clear hbusy hno
    rcases hsh with ⟨rfl, h0⟩ | rfl
    · go_enter Try.func84, Try.ntmps84
      go_wp2_with fail
      refine (CF.out _ HX.out.up).mono ?_; rintro e w2 ⟨rfl, hb2⟩
      have HA := Lib.hid (HX.out.at_ hb2)
      have b0 := HA.out.box.cell 0 _ rfl
      have b1 := HA.out.box.cell 1 _ rfl
      have r0 := HA.out.res.cell 0 _ rfl
      have r1 := HA.out.res.cell 1 _ rfl
      have f0 := HA.out.res.free 0
      have f1 := HA.out.res.free 1
      have g1 := HA.out.box.free 1
      clear hb2
      go_wp2_with fail
      refine (CP.out _).mono ?_; rintro e w' ⟨rfl, rfl⟩
      go_wp2_with fail
      refine (CC.out _ HA.out.up).mono ?_; rintro e w' ⟨rfl, rfl⟩
      go_wp2_with fail
      refine (CK.out _ HA.out.up).mono ?_; rintro e w3 ⟨v, rfl, hown, hb3⟩
      clear b0 b1 r0 r1 f0 f1 g1
      have HA3 := Lib.hid (HA.out.next hb3)
      have b1 := HA3.out.box.cell 1 _ rfl
      have HO := Lib.hid hown
      have H3' := Lib.hid hb3
      clear hown hb3
      have hrow := RD.one (w := w3) (v := .int .i64 p) (t := 3) rfl
      go_wp2_with (at_builtin; refine wpList_app ei_int rfl (.tmp 35) (.tmp 37) rfl _ _ rfl (own_below HO.out (up_alloc _ _)) rfl hrow (by simp [Value.oneCell']) (by omega) (by have := H3'.out.size; simp; omega) ?_; intro v4 w4 hown4 hb4; obtain ⟨A4, c4, rfl, hnc4, hcm4, hrd4⟩ := own_slice hown4; have HB := Lib.hid (HA.out.next ((H3'.out.trans ((up_alloc w3 _).mono H3'.out.size)).trans hb4)); have HN := Lib.hid (And.intro hnc4 (And.intro hcm4 hrd4)); clear b1 hnc4 hcm4 hrd4 hown4 hb4; have b0 := HB.out.box.cell 0 _ rfl; have b1 := HB.out.box.cell 1 _ rfl; have g1 := HB.out.box.free 1; have r0 := HB.out.res.cell 0 _ rfl; have r1 := HB.out.res.cell 1 _ rfl; have f0 := HB.out.res.free 0; have f1 := HB.out.res.free 1)
      refine bodyPost_ret (v := .tuple #[.agg #[.bool false, .slice A4 (n + 1) c4], .int .i64 0]) (by simp [results, Try.results84, go_sem, r0, r1]) rfl ?_
      have e2 : L' = L ++ [p] := by rw [HJ.out, HD.out]; rfl
      rw [HD.out, e2]
      have hrd : RD w4 (w2.heap.size ≤ ·) 1 A4 (n + 1) ((L ++ [p]).map (Value.int .i64)) := by rw [List.map_append]; exact HN.out.2.2
      refine ⟨A4, n + 1, c4, rfl, ⟨?_, by rw [List.length_append, HL.out]; rfl, HN.out.1, HN.out.2.1⟩, HB.out.out2 _ _ _⟩
      have h2 := HX.out.up.size
      have h3 := HA.out.up.size
      have hs := HA.out.res.lt
      exact (hrd.only (HB.out.after _ _ _) (fun k hk hl => by have : w2.heap.size ≤ k := hl; omega)).lo fun b hb => HP.out b (by have : w2.heap.size ≤ b := hb; omega)
    · go_enter Try.func84, Try.ntmps84
      go_wp2_with fail
      refine (CF.out _ HX.out.up).mono ?_; rintro e w2 ⟨rfl, hb2⟩
      have HA := Lib.hid (HX.out.at_ hb2)
      have b0 := HA.out.box.cell 0 _ rfl
      have b1 := HA.out.box.cell 1 _ rfl
      have r0 := HA.out.res.cell 0 _ rfl
      have r1 := HA.out.res.cell 1 _ rfl
      have f0 := HA.out.res.free 0
      have f1 := HA.out.res.free 1
      have g1 := HA.out.box.free 1
      clear hb2
      go_wp2_with fail
      refine (CP.out _).mono ?_; rintro e w' ⟨rfl, rfl⟩
      go_wp2_with fail
      refine (CC.out _ HA.out.up).mono ?_; rintro e w' ⟨rfl, rfl⟩
      go_wp2_with fail
      refine (CK.out _ HA.out.up).mono ?_; rintro e w3 ⟨v, rfl, hown, hb3⟩
      clear b0 b1 r0 r1 f0 f1 g1
      have HA3 := Lib.hid (HA.out.next hb3)
      have b1 := HA3.out.box.cell 1 _ rfl
      have HO := Lib.hid hown
      have H3' := Lib.hid hb3
      clear hown hb3
      have hrow := RD.one (w := w3) (v := .int .i64 p) (t := 3) rfl
      go_wp2_with (at_builtin; refine wpList_app ei_int rfl (.tmp 35) (.tmp 37) rfl _ _ rfl (own_below HO.out (up_alloc _ _)) rfl hrow (by simp [Value.oneCell']) (by omega) (by have := H3'.out.size; simp; omega) ?_; intro v4 w4 hown4 hb4; obtain ⟨A4, c4, rfl, hnc4, hcm4, hrd4⟩ := own_slice hown4; have HB := Lib.hid (HA.out.next ((H3'.out.trans ((up_alloc w3 _).mono H3'.out.size)).trans hb4)); have HN := Lib.hid (And.intro hnc4 (And.intro hcm4 hrd4)); clear b1 hnc4 hcm4 hrd4 hown4 hb4; have b0 := HB.out.box.cell 0 _ rfl; have b1 := HB.out.box.cell 1 _ rfl; have g1 := HB.out.box.free 1; have r0 := HB.out.res.cell 0 _ rfl; have r1 := HB.out.res.cell 1 _ rfl; have f0 := HB.out.res.free 0; have f1 := HB.out.res.free 1)
      refine bodyPost_ret (v := .tuple #[.agg #[.bool true, .slice A4 (n + 1) c4], .int .i64 0]) (by simp [results, Try.results84, go_sem, r0, r1]) rfl ?_
      have e2 : L' = L ++ [p] := by rw [HJ.out, HD.out]; rfl
      rw [HD.out, e2]
      have hrd : RD w4 (w2.heap.size ≤ ·) 1 A4 (n + 1) ((L ++ [p]).map (Value.int .i64)) := by rw [List.map_append]; exact HN.out.2.2
      refine ⟨A4, n + 1, c4, rfl, ⟨?_, by rw [List.length_append, HL.out]; rfl, HN.out.1, HN.out.2.1⟩, HB.out.out2 _ _ _⟩
      have h2 := HX.out.up.size
      have h3 := HA.out.up.size
      have hs := HA.out.res.lt
      exact (hrd.only (HB.out.after _ _ _) (fun k hk hl => by have : w2.heap.size ≤ k := hl; omega)).lo fun b hb => HP.out b (by have : w2.heap.size ≤ b := hb; omega)
end Go.Proofs.Ytnmjjemkaamcfaa

/- The law's alive (layer 25). -/
import Derived.Test.YtniijkdlphkpkaaDoorGvm
import Derived.Lib.QuietBelow
import Derived.Great.BuildSlice
namespace Go.Proofs.YtniijkdlphkpkaaDoor
open Go.RowKit

def ag1 : GD := ⟨1, 0, 0, 1, 0⟩
def ag2 : GD := ⟨4, 0, 12, 0, 2⟩
def ag3 : GD := ⟨3, 0, 0, 0, 0⟩
def ag4 : GD := ⟨3, 0, 0, 0, 1⟩
theorem al_1 : allG [ag1, ag2] = (0, 0) := by kernel_rfl
theorem al_3 : allG [ag3, ag4] = (1, 7) := by kernel_rfl
theorem al_4 : earL [ag1, ag2] = (12, true) := by kernel_rfl
theorem al_5 : fndG [ag1, ag2] 2 = (ag2, true) := by kernel_rfl
theorem al_7 : chkE 4 0 1099511627776 0 0 = 0 := by kernel_rfl
theorem al_8 : chkE 0 0 0 0 0 = 12 := by kernel_rfl
theorem al_9 : chkE 5 0 1 0 0 = 3 := by kernel_rfl
theorem dg_sm {n : Nat} (h : n < 10) : Lib.decDigits n = [UInt8.ofNat (48 + n)] := by rw [Lib.decDigits, dif_pos h]
theorem dg_bg {n m d : Nat} (h : ¬ n < 10) (hm : n / 10 = m) (hd : n % 10 = d) : Lib.decDigits n = Lib.decDigits m ++ [UInt8.ofNat (48 + d)] := by rw [Lib.decDigits, dif_neg h, hm, hd]
theorem it_1 (n : Nat) (h : n < 10) : Lib.itoa (n : Int) = [UInt8.ofNat (48 + n)] := by rw [it_pos _ (by omega), Int.toNat_natCast, dg_sm h]
theorem it_12 : Lib.itoa 12 = [49, 50] := by
  rw [it_pos _ (by decide), show (12 : Int).toNat = 12 from rfl, dg_bg (m := 1) (d := 2) (by decide) rfl rfl, dg_sm (by decide)]
  rfl
theorem it_40 : Lib.itoa 1099511627776 = [49, 48, 57, 57, 53, 49, 49, 54, 50, 55, 55, 55, 54] := by
  rw [it_pos _ (by decide), show (1099511627776 : Int).toNat = 1099511627776 from rfl,
    dg_bg (n := 1099511627776) (m := 109951162777) (d := 6) (by decide) rfl rfl,
    dg_bg (n := 109951162777) (m := 10995116277) (d := 7) (by decide) rfl rfl,
    dg_bg (n := 10995116277) (m := 1099511627) (d := 7) (by decide) rfl rfl,
    dg_bg (n := 1099511627) (m := 109951162) (d := 7) (by decide) rfl rfl,
    dg_bg (n := 109951162) (m := 10995116) (d := 2) (by decide) rfl rfl,
    dg_bg (n := 10995116) (m := 1099511) (d := 6) (by decide) rfl rfl,
    dg_bg (n := 1099511) (m := 109951) (d := 1) (by decide) rfl rfl,
    dg_bg (n := 109951) (m := 10995) (d := 1) (by decide) rfl rfl,
    dg_bg (n := 10995) (m := 1099) (d := 5) (by decide) rfl rfl,
    dg_bg (n := 1099) (m := 109) (d := 9) (by decide) rfl rfl,
    dg_bg (n := 109) (m := 10) (d := 9) (by decide) rfl rfl,
    dg_bg (n := 10) (m := 1) (d := 0) (by decide) rfl rfl, dg_sm (by decide)]
  rfl
theorem al_2 : textsL [ag1, ag2] = [48, 58, 32, 105, 110, 32, 99, 48, 32, 114, 49, 44, 32, 50, 58, 32, 116, 105, 109, 101, 32, 49, 50] := by
  have h0 := it_1 0 (by decide)
  have h1 := it_1 1 (by decide)
  have h2 := it_1 2 (by decide)
  rw [texts_ok (by kernel_rfl)]
  show Lib.join [txtG ag1, txtG ag2] [44, 32] = _
  rw [Lib.join_cons]
  unfold txtG textL
  show (Lib.itoa ((0 : Nat) : Int) ++ ([58, 32] ++ wantL 1 0 0 1)) ++ Lib.joinTail [44, 32] [Lib.itoa ((2 : Nat) : Int) ++ ([58, 32] ++ wantL 4 0 12 0)] = _
  rw [want1, want4, h0, h2, show Lib.itoa 0 = [48] from h0, show Lib.itoa 1 = [49] from h1, it_12]
  rfl
theorem al_6 : txtE 4 0 1099511627776 0 0 = [48, 58, 32, 116, 105, 109, 101, 32, 49, 48, 57, 57, 53, 49, 49, 54, 50, 55, 55, 55, 54] := by
  have h0 := it_1 0 (by decide)
  rw [txtE_ok al_7]
  unfold textL
  rw [want4, it_40, show Lib.itoa 0 = [48] from h0]
  rfl
def Ans (v : Value) (w : World) (e : Ending) (w' : World) : Prop := e = .returned v ∧ Below w.heap.size w w'

/-- Two guards in new memory. -/
abbrev gs2 (a b : GD) : List Value := [.int .i64 a.k, .int .i64 a.o, .int .i64 a.v, .int .i64 a.r, .int .i64 a.n, .int .i64 b.k, .int .i64 b.o, .int .i64 b.v, .int .i64 b.r, .int .i64 b.n]
theorem rd_two {W W' : World} {B : Nat} {a b : GD} {t : TypeId} (h : Blk W B (gs2 a b) t) (hb : Below W.heap.size W W') : RD W' (fun _ => True) 5 (some ⟨B, 0, none⟩) 2 ([a, b].flatMap gdC) := (RD.of_blk (pl := fun _ => True) h rfl trivial).below hb

theorem e_1 (W : World) (B : Nat) (h : Blk W B [.int .i64 1, .int .i64 0, .int .i64 0, .int .i64 1, .int .i64 0, .int .i64 4, .int .i64 0, .int .i64 12, .int .i64 0, .int .i64 2] 23) : Calls Tryd.prog 11 #[.slice (some ⟨B, 0, none⟩) 2 2] W (Ans (.tuple #[.int .i64 0, .int .i64 0]) W) := by
  have := c_gall (c := 2) (rd_two (a := ag1) (b := ag2) h (Below.refl _ _)) rfl (by omega) (by omega) (by unfold maxLen; omega)
  rw [al_1] at this
  exact this
theorem e_2 (W : World) (B : Nat) (h : Blk W B [.int .i64 1, .int .i64 0, .int .i64 0, .int .i64 1, .int .i64 0, .int .i64 4, .int .i64 0, .int .i64 12, .int .i64 0, .int .i64 2] 23) (ht : EnvT W) : Calls Tryd.prog 13 #[.slice (some ⟨B, 0, none⟩) 2 2] W (Ans (.tuple #[.string ⟨#[48, 58, 32, 105, 110, 32, 99, 48, 32, 114, 49, 44, 32, 50, 58, 32, 116, 105, 109, 101, 32, 49, 50]⟩, .int .i64 0]) W) := by
  have := c_gtexts (c := 2) (rd_two (a := ag1) (b := ag2) h (Below.refl _ _)) rfl (by omega) ht
  rw [al_2] at this
  exact this
theorem e_3 (W : World) (B : Nat) (h : Blk W B [.int .i64 3, .int .i64 0, .int .i64 0, .int .i64 0, .int .i64 0, .int .i64 3, .int .i64 0, .int .i64 0, .int .i64 0, .int .i64 1] 23) : Calls Tryd.prog 11 #[.slice (some ⟨B, 0, none⟩) 2 2] W (Ans (.tuple #[.int .i64 1, .int .i64 7]) W) := by
  have := c_gall (c := 2) (rd_two (a := ag3) (b := ag4) h (Below.refl _ _)) rfl (by omega) (by omega) (by unfold maxLen; omega)
  rw [al_3] at this
  exact this
theorem e_4 (W : World) (B : Nat) (h : Blk W B [.int .i64 1, .int .i64 0, .int .i64 0, .int .i64 1, .int .i64 0, .int .i64 4, .int .i64 0, .int .i64 12, .int .i64 0, .int .i64 2] 23) : Calls Tryd.prog 15 #[.slice (some ⟨B, 0, none⟩) 2 2] W (Ans (.tuple #[.int .i64 12, .bool true]) W) := by
  have := c_gearliest (c := 2) (rd_two (a := ag1) (b := ag2) h (Below.refl _ _)) rfl (by omega)
  rw [al_4] at this
  exact this
theorem e_5 (W : World) (B : Nat) (h : Blk W B [.int .i64 1, .int .i64 0, .int .i64 0, .int .i64 1, .int .i64 0, .int .i64 4, .int .i64 0, .int .i64 12, .int .i64 0, .int .i64 2] 23) : Calls Tryd.prog 17 #[.slice (some ⟨B, 0, none⟩) 2 2, .int .i64 2] W (Ans (.tuple #[.agg #[.int .i64 4, .int .i64 0, .int .i64 12, .int .i64 0, .int .i64 2], .bool true]) W) := by
  have := c_gfind (c := 2) (rd_two (a := ag1) (b := ag2) h (Below.refl _ _)) rfl (by omega) 2
  rw [al_5] at this
  exact this
theorem e_6 (W : World) (ht : EnvT W) : Calls Tryd.prog 6 #[.agg #[.int .i64 4, .int .i64 0, .int .i64 1099511627776, .int .i64 0, .int .i64 0]] W (Ans (.tuple #[.string ⟨#[48, 58, 32, 116, 105, 109, 101, 32, 49, 48, 57, 57, 53, 49, 49, 54, 50, 55, 55, 55, 54]⟩, .int .i64 0]) W) := by
  have := c_gtext 4 0 1099511627776 0 0 W ht
  rw [al_6, al_7] at this
  exact this
theorem e_7 (W : World) : Calls Tryd.prog 8 #[.agg #[.int .i64 0, .int .i64 0, .int .i64 0, .int .i64 0, .int .i64 0]] W (Ans (.int .i64 12) W) := by
  have := c_gcheck 0 0 0 0 0 W
  rw [al_8] at this
  exact this
theorem e_8 (W : World) : Calls Tryd.prog 8 #[.agg #[.int .i64 5, .int .i64 0, .int .i64 1, .int .i64 0, .int .i64 0]] W (Ans (.int .i64 3) W) := by
  have := c_gcheck 5 0 1 0 0 W
  rw [al_9] at this
  exact this

set_option maxRecDepth 100000 in
set_option maxHeartbeats 4000000 in
theorem c_alive (w : World) (hT : EnvT w) : Calls Tryd.prog 10 #[] w fun e w' => e = .returned (.bool true) ∧ Below w.heap.size w w' := by
  have HT := Lib.hid (fun W (hW : Below w.heap.size w W) => hT.up hW)
  clear hT
  go_enter Tryd.func10, Tryd.ntmps10
  go_wp2_with fail
  have HB := Blk.new w [.int .i64 1, .int .i64 0, .int .i64 0, .int .i64 1, .int .i64 0, .int .i64 4, .int .i64 0, .int .i64 12, .int .i64 0, .int .i64 2] 23
  have HU := up_alloc w (.cells #[.int .i64 1, .int .i64 0, .int .i64 0, .int .i64 1, .int .i64 0, .int .i64 4, .int .i64 0, .int .i64 12, .int .i64 0, .int .i64 2] 23)
  generalize hw1 : w.alloc (.cells [.int .i64 1, .int .i64 0, .int .i64 0, .int .i64 1, .int .i64 0, .int .i64 4, .int .i64 0, .int .i64 12, .int .i64 0, .int .i64 2].toArray 23) = w1 at HB
  have HU1 : Hid (Below w.heap.size w w1) := Lib.hid (by rw [← hw1]; exact HU)
  have HW := Lib.hid hw1
  have HB1 := Lib.hid HB
  clear hw1 HU HB
  clear HW
  refine (e_1 _ _ HB1.out).mono ?_; rintro e w2 ⟨rfl, hb⟩
  have HB2 := Lib.hid (HB1.out.up hb HB1.out.lt)
  have HU2 := Lib.hid (up_trans HU1.out hb)
  clear hb HB1 HU1
  go_wp2_with fail
  refine (e_2 _ _ HB2.out (HT.out _ HU2.out)).mono ?_; rintro e w3 ⟨rfl, hb⟩
  have HB3 := Lib.hid (HB2.out.up hb HB2.out.lt)
  have HU3 := Lib.hid (up_trans HU2.out hb)
  clear hb HB2 HU2
  go_wp2_with fail
  refine (e_3 _ _ (Blk.new w3 [.int .i64 3, .int .i64 0, .int .i64 0, .int .i64 0, .int .i64 0, .int .i64 3, .int .i64 0, .int .i64 0, .int .i64 0, .int .i64 1] 23)).mono ?_; rintro e w4 ⟨rfl, hb⟩
  have hb' := up_trans (up_alloc w3 (.cells #[.int .i64 3, .int .i64 0, .int .i64 0, .int .i64 0, .int .i64 0, .int .i64 3, .int .i64 0, .int .i64 0, .int .i64 0, .int .i64 1] 23)) hb
  have HB4 := Lib.hid (HB3.out.up hb' HB3.out.lt)
  have HU4 := Lib.hid (up_trans HU3.out hb')
  clear hb hb' HB3 HU3
  go_wp2_with fail
  refine (e_4 _ _ HB4.out).mono ?_; rintro e w5 ⟨rfl, hb⟩
  have HB5 := Lib.hid (HB4.out.up hb HB4.out.lt)
  have HU5 := Lib.hid (up_trans HU4.out hb)
  clear hb HB4 HU4
  go_wp2_with fail
  refine (e_5 _ _ HB5.out).mono ?_; rintro e w6 ⟨rfl, hb⟩
  have hb' := up_trans hb (up_alloc w6 (.cells #[.int .i64 4, .int .i64 0, .int .i64 12, .int .i64 0, .int .i64 2] 23))
  have HB6 := Lib.hid (HB5.out.up hb' HB5.out.lt)
  have HU6 := Lib.hid (up_trans HU5.out hb')
  have HX6 := Lib.hid (Blk.new w6 [.int .i64 4, .int .i64 0, .int .i64 12, .int .i64 0, .int .i64 2] 23)
  clear hb hb' HB5 HU5
  go_wp2_with fail
  refine (e_6 _ (HT.out _ HU6.out)).mono ?_; rintro e w7 ⟨rfl, hb⟩
  have HB7 := HB6.out.up hb HB6.out.lt
  have HX7 := HX6.out.up hb HX6.out.lt
  have HU7 := Lib.hid (up_trans HU6.out hb)
  clear hb HB6 HX6 HU6 HT
  have b5 := cell_regrown (HB7.cell 5 _ rfl)
  have b6 := cell_regrown (HB7.cell 6 _ rfl)
  have b7 := cell_regrown (HB7.cell 7 _ rfl)
  have b8 := cell_regrown (HB7.cell 8 _ rfl)
  have b9 := cell_regrown (HB7.cell 9 _ rfl)
  have x0 := cell_regrown (HX7.cell 0 _ rfl)
  have x1 := cell_regrown (HX7.cell 1 _ rfl)
  have x2 := cell_regrown (HX7.cell 2 _ rfl)
  have x3 := cell_regrown (HX7.cell 3 _ rfl)
  have x4 := cell_regrown (HX7.cell 4 _ rfl)
  have c7 := grown_call (w := w7) fun W _ => e_7 W
  have c8 := grown_call (w := w7) fun W _ => e_8 W
  clear HB7 HX7
  generalize w6.heap.size = bx at x0 x1 x2 x3 x4
  go_wp2_with fail
  refine wp_region_quiet_below (by kernel_rfl) (by kernel_rfl) ?_
  repeat (go_big_quiet_step (first | (with_reducible exact c7 _ _) | (with_reducible exact c8 _ _)))
  refine wpQuiet_nil ?_
  intro _ hw'
  obtain ⟨⟨dq, osq⟩, hw''⟩ := hw'
  have HQ := Lib.hid (up_trans HU7.out (hw'' ▸ below_regrown w7 dq osq))
  clear hw'' b5 b6 b7 b8 b9 x0 x1 x2 x3 x4 c7 c8
  go_wp2
  go_ret
  exact ⟨rfl, HQ.out⟩
end Go.Proofs.YtniijkdlphkpkaaDoor

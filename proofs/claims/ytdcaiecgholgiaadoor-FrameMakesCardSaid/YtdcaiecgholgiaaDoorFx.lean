/- A frame with a call: alive. -/
import Derived.Test.YtdcaiecgholgiaaDoorFg
import Derived.Test.YtdcaiecgholgiaaDoorFj
import Derived.Test.YtdcaiecgholgiaaDoorFn
import Derived.Test.YtdcaiecgholgiaaDoorFt
import Derived.Deep.WholeRow
namespace Go.Proofs.YtdcaiecgholgiaaDoor
open Go.RowKit

theorem st_new {W : World} {f : FR} {ops : Array Oper} {rest : List Oper} {o : Oper} {a : Act} {Q : Exit → Act → World → Prop} (hf : f.Ok) (hgd : o.guard = none) (x y : Operand) (ho : o.op = .store 26 x y)
    (hx : a.eval x = .pointer (some ⟨W.heap.size, 0, none⟩)) (hy : a.eval y = .agg f.cells.toArray) (hk : wpList Tryd.prog ops Q rest (a.put o.dst undef) (W.alloc (.cells f.cells.toArray 26))) :
    wpList Tryd.prog ops Q (o :: rest) a (W.alloc (.cells #[.int .i64 0, .bool false, .int .i64 0, .int .i64 0, .int .i64 0, .int .i64 0, .int .i64 0, .int .i64 0, .int .i64 0, .int .i64 0, .int .i64 0, .int .i64 0, .int .i64 0, .int .i64 0, .int .i64 0, .int .i64 0, .int .i64 0, .int .i64 0, .int .i64 0, .int .i64 0, .int .i64 0, .int .i64 0, .int .i64 0, .int .i64 0, .int .i64 0, .int .i64 0, .int .i64 0, .int .i64 0, .int .i64 0, .int .i64 0, .int .i64 0, .int .i64 0, .int .i64 0, .int .i64 0, .int .i64 0] 26)) := by
  have e : wpList Tryd.prog ops Q rest (a.put o.dst undef) ((W.alloc (.cells FR.zero.cells.toArray 26)).setRow W.heap.size f.cells.toArray) := by
    rw [World.setRow_alloc_new]
    exact hk
  exact st_prog hf FR.zero_ok (Blk.new W FR.zero.cells 26) hgd x y ho hx hy e
/-- The same load under a guard that holds. -/
theorem lg_prog {w : World} {b : Nat} {f : FR} {t : TypeId} {ops : Array Oper} {rest : List Oper} {o : Oper} {a : Act} {Q : Exit → Act → World → Prop} (hf : f.Ok) (h : Blk w b f.cells t) (hw : Region.wanted o (yielded ops a.tmps) = true) (x : Operand) (ho : o.op = .load 26 x)
    (hx : a.eval x = .pointer (some ⟨b, 0, none⟩)) (hk : wpList Tryd.prog ops Q rest (a.put o.dst (.agg f.cells.toArray)) w) : wpList Tryd.prog ops Q (o :: rest) a w :=
  BigFrame.wpList_want hw fun _ hK => wp_load_row _ x ho b hx t f.cells.toArray (0, 0) _ h Tryd.underlying26 rfl (by rw [List.size_toArray, FR.cells_len hf]; exact info_prog) (hK _ _ hk)
def z8 : List Int := [0, 0, 0, 0, 0, 0, 0, 0]
def z16 : List Int := [0, 0, 0, 0, 0, 0, 0, 0, 0, 0, 0, 0, 0, 0, 0, 0]
def fr1 : FR := ⟨0, false, [7, 0, 0, 0, 0, 0, 0, 0], z16, 0, z8⟩
def fr2 : FR := ⟨9, false, [7, 0, 0, 0, 0, 0, 0, 0], z16, 1, [1, 0, 0, 0, 0, 0, 0, 0]⟩
def fr3 : FR := ⟨1, false, [7, 0, 0, 0, 0, 0, 0, 0], z16, 0, z8⟩
def fr4 : FR := ⟨1, false, [7, 0, 0, 0, 0, 0, 0, 0], [0, 0, 0, 0, 0, 0, 0, 0, 0, 0, 0, 0, 0, 0, 0, -1], 0, z8⟩
theorem fr_new : newF 7 = (fr1, 0) := rfl
theorem fr_call : callF fr1 9 = (fr2, 0) := rfl
theorem fr_ret : retF fr2 = (fr3, 0) := rfl
theorem fr_store : storeF fr3 15 (-1) = (fr4, 0) := rfl
theorem fr_load : loadF fr4 15 = (-1, 0) := rfl
theorem fr_ret0 : retF fr1 = (fr1, 19) := rfl
theorem fr_fine : fineF fr1 = true := rfl
theorem fr_text : (textF fr1).length = 58 := by
  have i0 : (Lib.itoa 0).length = 1 := by rw [itoa_pos 0 (by omega)]; exact dg_one _ (by decide)
  have i7 : (Lib.itoa 7).length = 1 := by rw [itoa_pos 7 (by omega)]; exact dg_one _ (by decide)
  unfold textF
  rw [if_neg (by rw [fr_fine]; decide)]
  simp [fr1, z8, z16, numsT, i0, i7]
theorem ok1 : fr1.Ok := ⟨rfl, rfl, rfl⟩
theorem ok2 : fr2.Ok := ⟨rfl, rfl, rfl⟩
theorem ok3 : fr3.Ok := ⟨rfl, rfl, rfl⟩
theorem ok4 : fr4.Ok := ⟨rfl, rfl, rfl⟩

set_option maxRecDepth 100000 in
set_option maxHeartbeats 4000000 in
theorem c_alive (w : World) (ht : EnvT w) : Calls Tryd.prog 13 #[] w fun e w' => e = .returned (.bool true) ∧ Below w.heap.size w w' := by
  have HT := Lib.hid ht
  have N1 := fun W => c_fnew 7 W
  rw [fr_new] at N1
  have N2 := fun W => c_fcall ok1 9 W
  rw [fr_call] at N2
  have N3 := fun W => c_fret ok2 W
  rw [fr_ret] at N3
  have N4 := fun W => c_fstore ok3 15 (-1) W
  rw [fr_store] at N4
  have N5 := fun W => c_fload ok4 15 W
  rw [fr_load] at N5
  have N6 := fun W => c_fret ok1 W
  rw [fr_ret0] at N6
  have N7 := fun W => c_ffine ok1 W
  rw [fr_fine] at N7
  have N8 := fun W => c_ftext ok1 W
  have hl : (((textF fr1).length : Int) == 58) = true := by rw [fr_text]; rfl
  have hO1 := Lib.hid ok1
  have hO2 := Lib.hid ok2
  have hO3 := Lib.hid ok3
  have hO4 := Lib.hid ok4
  have p2 := FR.c_pc fr2
  have d2 := FR.c_depth ok2
  have p3 := FR.c_pc fr3
  have d3 := FR.c_depth ok3
  rw [show fr2.pc = 9 from rfl] at p2
  rw [show fr2.depth = 1 from rfl] at d2
  rw [show fr3.pc = 1 from rfl] at p3
  rw [show fr3.depth = 0 from rfl] at d3
  have P2 := Lib.hid p2
  have D2 := Lib.hid d2
  have P3 := Lib.hid p3
  have D3 := Lib.hid d3
  have HN1 := Lib.hid N1
  have HN2 := Lib.hid N2
  have HN3 := Lib.hid N3
  have HN4 := Lib.hid N4
  have HN5 := Lib.hid N5
  have HN6 := Lib.hid N6
  have HN7 := Lib.hid N7
  have HN8 := Lib.hid N8
  clear ht N1 N2 N3 N4 N5 N6 N7 N8 p2 d2 p3 d3
  generalize fr1 = g1 at *
  generalize fr2 = g2 at *
  generalize fr3 = g3 at *
  generalize fr4 = g4 at *
  generalize textF g1 = tx at *
  go_enter Tryd.func13, Tryd.ntmps13
  go_wp2_with fail
  refine (HN1.out _).mono ?_
  rintro e w1 ⟨rfl, hb1⟩
  have HQ1 := Lib.hid hb1
  clear hb1
  go_wp2_with (first | (refine st_new hO1.out rfl (.tmp 1) (.tmp 15) rfl rfl rfl ?_) | (refine ld_prog hO1.out (Blk.new w1 g1.cells 26) rfl (.tmp 1) rfl rfl ?_))
  refine (HN2.out _).mono ?_
  rintro e w2 ⟨rfl, hb2⟩
  have HA2 := Lib.hid ((Blk.new w1 g1.cells 26).up hb2 (by simp))
  have HQ2 := Lib.hid (up_trans HQ1.out (up_trans (up_alloc w1 _) hb2))
  clear hb2
  go_wp2_with (first | (refine st_new hO2.out rfl (.tmp 3) (.tmp 20) rfl rfl rfl ?_) | (refine ld_prog hO2.out (Blk.new w2 g2.cells 26) rfl (.tmp 3) rfl rfl ?_))
  refine (HN3.out _).mono ?_
  rintro e w3 ⟨rfl, hb3⟩
  have HA3 := Lib.hid ((HA2.out.alloc _).up hb3 (Nat.lt_of_lt_of_le HA2.out.lt (up_alloc w2 _).size))
  have HB3 := Lib.hid ((Blk.new w2 g2.cells 26).up hb3 (by simp))
  have HQ3 := Lib.hid (up_trans HQ2.out (up_trans (up_alloc w2 _) hb3))
  clear hb3
  go_wp2_with (first | (refine st_new hO3.out rfl (.tmp 5) (.tmp 25) rfl rfl rfl ?_) | (refine ld_prog hO3.out (Blk.new w3 g3.cells 26) rfl (.tmp 5) rfl rfl ?_))
  refine (HN4.out _).mono ?_
  rintro e w4 ⟨rfl, hb4⟩
  have HA4 := Lib.hid ((HA3.out.alloc _).up hb4 (Nat.lt_of_lt_of_le HA3.out.lt (up_alloc w3 _).size))
  have HB4 := Lib.hid ((HB3.out.alloc _).up hb4 (Nat.lt_of_lt_of_le HB3.out.lt (up_alloc w3 _).size))
  have HC4 := Lib.hid ((Blk.new w3 g3.cells 26).up hb4 (by simp))
  have HQ4 := Lib.hid (up_trans HQ3.out (up_trans (up_alloc w3 _) hb4))
  clear hb4
  go_wp2_with (first | (refine st_new hO4.out rfl (.tmp 7) (.tmp 30) rfl rfl rfl ?_) | (refine ld_prog hO4.out (Blk.new w4 g4.cells 26) rfl (.tmp 7) rfl rfl ?_))
  refine (HN5.out _).mono ?_
  rintro e w5 ⟨rfl, hb5⟩
  have HA5 := Lib.hid ((HA4.out.alloc _).up hb5 (Nat.lt_of_lt_of_le HA4.out.lt (up_alloc w4 _).size))
  have HB5 := Lib.hid ((HB4.out.alloc _).up hb5 (Nat.lt_of_lt_of_le HB4.out.lt (up_alloc w4 _).size))
  have HC5 := Lib.hid ((HC4.out.alloc _).up hb5 (Nat.lt_of_lt_of_le HC4.out.lt (up_alloc w4 _).size))
  have HQ5 := Lib.hid (up_trans HQ4.out (up_trans (up_alloc w4 _) hb5))
  clear hb5
  go_wp2_with (refine ld_prog hO1.out HA5.out rfl (.tmp 1) rfl rfl ?_)
  refine (HN6.out _).mono ?_
  rintro e w6 ⟨rfl, hb6⟩
  have HA6 := Lib.hid (HA5.out.up hb6 HA5.out.lt)
  have HB6 := Lib.hid (HB5.out.up hb6 HB5.out.lt)
  have HC6 := Lib.hid (HC5.out.up hb6 HC5.out.lt)
  have HQ6 := Lib.hid (up_trans HQ5.out hb6)
  clear hb6
  go_wp2_with (first | (refine st_new hO1.out rfl (.tmp 11) (.tmp 40) rfl rfl rfl ?_) | (refine lg_prog hO1.out (HA6.out.alloc _) rfl (.tmp 1) rfl rfl ?_))
  refine (HN7.out _).mono ?_
  rintro e w7 ⟨rfl, hb7⟩
  have HA7 := Lib.hid ((HA6.out.alloc _).up hb7 (Nat.lt_of_lt_of_le HA6.out.lt (up_alloc w6 _).size))
  have HB7 := Lib.hid ((HB6.out.alloc _).up hb7 (Nat.lt_of_lt_of_le HB6.out.lt (up_alloc w6 _).size))
  have HC7 := Lib.hid ((HC6.out.alloc _).up hb7 (Nat.lt_of_lt_of_le HC6.out.lt (up_alloc w6 _).size))
  have HQ7 := Lib.hid (up_trans HQ6.out (up_trans (up_alloc w6 _) hb7))
  clear hb7
  have k1 := HB7.out.cell 0 _ P2.out
  have k2 := HB7.out.cell 26 _ D2.out
  have k3 := HC7.out.cell 0 _ P3.out
  have k4 := HC7.out.cell 26 _ D3.out
  go_wp2_with (refine lg_prog hO1.out HA7.out rfl (.tmp 1) rfl rfl ?_)
  refine (HN8.out _ (HT.out.up HQ7.out)).mono ?_
  rintro e w8 ⟨rfl, hb8⟩
  have HQ8 := Lib.hid (up_trans HQ7.out hb8)
  clear hb8 k1 k2 k3 k4
  go_wp2
  go_ret
  exact ⟨rfl, HQ8.out⟩
end Go.Proofs.YtdcaiecgholgiaaDoor

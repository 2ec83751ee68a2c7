/- Package ready: the ends of channels; met. -/
import Derived.Test.YtdiiilnebepfdaaGreatDoorR6
import Derived.Test.YtdiiilnebepfdaaGreatDoorD1
import Derived.Great.BuildSlice
namespace Go.Proofs.YtdiiilnebepfdaaGreatDoor
open Go.RowKit

/-- An end's cells. -/
def endC (x : Int) (sh : Bool) (A : Option Addr) (n c : Nat) (g : Nat) : List Value := [.int .i64 x, .bool sh, .slice A n c, .slice (some ⟨g, 0, none⟩) 2 2]
theorem endC_one {x : Int} {sh : Bool} {A : Option Addr} {n c g : Nat} : ∀ v ∈ endC x sh A n c g, v.oneCell' = true := by
  intro v hv
  simp only [endC, List.mem_cons, List.not_mem_nil, or_false] at hv
  rcases hv with rfl | rfl | rfl | rfl <;> rfl
def endZ : List Value := [.int .i64 0, .bool false, .slice none 0 0, .slice none 0 0]
theorem info_end : (Tryz.prog.info? 174).map (·.size) = some 4 := by kernel_rfl
def EndPost (w : World) (x : Int) (sh : Bool) (A : Option Addr) (n c : Nat) (y z : Int) (e : Ending) (w' : World) : Prop :=
  ∃ g, e = .returned (.agg (endC x sh A n c g).toArray) ∧ Blk w' g [.int .i64 y, .int .i64 z] 3 ∧ Below w.heap.size w w'

set_option maxRecDepth 100000 in
set_option maxHeartbeats 1000000 in
theorem c_rcvs (C : CP) (M : SM) (w : World) :
    Calls Tryz.prog 54 #[.agg (chC C M).toArray] w (EndPost w C.i C.is M.G.A M.G.n M.G.c 1 3) := by
  have hX := bl1 w (chC C M) 131 endZ 174
  generalize hw1 : (w.alloc (.cells (chC C M).toArray 131)).alloc (.cells endZ.toArray 174) = w1 at hX
  have HW := Lib.hid (show (w.alloc (.cells (chC C M).toArray 131)).alloc (.cells #[.int .i64 0, .bool false, .slice none 0 0, .slice none 0 0] 174) = w1 from hw1)
  have hb := up_alloc w1 (.cells #[.int .i64 1, .int .i64 3] 3)
  have hY := hX.next hb
  have c0 := (hX.ka 0 rfl).cell 2 _ rfl
  have c1 := (hX.ka 0 rfl).cell 9 _ rfl
  have c2 := (hX.ka 0 rfl).cell 10 _ rfl
  have HG := Lib.hid (Blk.new w1 [.int .i64 1, .int .i64 3] 3)
  have HBD := Lib.hid (show (Tryz.prog.built 174 [(0, Value.int .i64 (C.i)), (1, .agg #[.bool (C.is), .slice M.G.A M.G.n M.G.c]), (2, .slice (some ⟨w1.heap.size, 0, none⟩) 2 2)]) = some (endC (C.i) (C.is) M.G.A M.G.n M.G.c w1.heap.size).toArray by kernel_rfl)
  have HY := Lib.hid hY
  obtain ⟨ds, hds, hres⟩ := hY.res
  have hdl : ds.length = 4 := hds
  have HR := Lib.hid hres
  have HD := Lib.hid hdl
  clear hX hw1 hb hY hds hres hdl
  go_enter Tryz.func54, Tryz.ntmps54
  go_upto_region 1 with fail
  rw [HW.out]
  go_wp2_with (first | (refine wpList_buildTo rfl 174 _ rfl (some 9) rfl (endC (C.i) (C.is) M.G.A M.G.n M.G.c w1.heap.size).toArray (by simpa [Act.eval] using HBD.out) ?_) | (refine str (b := w.heap.size + 1) (t := 174) (cs := endC (C.i) (C.is) M.G.A M.G.n M.G.c w1.heap.size) (ds := ds) (.tmp 2) (.tmp 9) rfl rfl rfl rfl info_end HD.out endC_one ?_ ?_; (· exact HR.out)))
  refine bodyPost_ret (v := .agg (endC (C.i) (C.is) M.G.A M.G.n M.G.c w1.heap.size).toArray) (results_c (fn := Tryz.f54) (p := 2) rfl _ _ _ rfl (HR.out.row _) Tryz.underlying174 rfl info_end) rfl ?_
  exact ⟨w1.heap.size, rfl, HG.out.rowOther (by have := HR.out.lt; have := HY.out.lo; have h9 := HR.out; have := HW.out; intro e; have h8 := congrArg (fun x : World => x.heap.size) HW.out; simp at h8; omega) _, below_setRow HY.out.up (by omega) _⟩

set_option maxRecDepth 100000 in
set_option maxHeartbeats 1000000 in
theorem c_snds (C : CP) (M : SM) (w : World) :
    Calls Tryz.prog 55 #[.agg (chC C M).toArray] w (EndPost w C.o C.os M.W.A M.W.n M.W.c 1 2) := by
  have hX := bl1 w (chC C M) 131 endZ 174
  generalize hw1 : (w.alloc (.cells (chC C M).toArray 131)).alloc (.cells endZ.toArray 174) = w1 at hX
  have HW := Lib.hid (show (w.alloc (.cells (chC C M).toArray 131)).alloc (.cells #[.int .i64 0, .bool false, .slice none 0 0, .slice none 0 0] 174) = w1 from hw1)
  have hb := up_alloc w1 (.cells #[.int .i64 1, .int .i64 2] 3)
  have hY := hX.next hb
  have c0 := (hX.ka 0 rfl).cell 3 _ rfl
  have c1 := (hX.ka 0 rfl).cell 6 _ rfl
  have c2 := (hX.ka 0 rfl).cell 7 _ rfl
  have HG := Lib.hid (Blk.new w1 [.int .i64 1, .int .i64 2] 3)
  have HBD := Lib.hid (show (Tryz.prog.built 174 [(0, Value.int .i64 (C.o)), (1, .agg #[.bool (C.os), .slice M.W.A M.W.n M.W.c]), (2, .slice (some ⟨w1.heap.size, 0, none⟩) 2 2)]) = some (endC (C.o) (C.os) M.W.A M.W.n M.W.c w1.heap.size).toArray by kernel_rfl)
  have HY := Lib.hid hY
  obtain ⟨ds, hds, hres⟩ := hY.res
  have hdl : ds.length = 4 := hds
  have HR := Lib.hid hres
  have HD := Lib.hid hdl
  clear hX hw1 hb hY hds hres hdl
  go_enter Tryz.func55, Tryz.ntmps55
  go_upto_region 1 with fail
  rw [HW.out]
  go_wp2_with (first | (refine wpList_buildTo rfl 174 _ rfl (some 9) rfl (endC (C.o) (C.os) M.W.A M.W.n M.W.c w1.heap.size).toArray (by simpa [Act.eval] using HBD.out) ?_) | (refine str (b := w.heap.size + 1) (t := 174) (cs := endC (C.o) (C.os) M.W.A M.W.n M.W.c w1.heap.size) (ds := ds) (.tmp 2) (.tmp 9) rfl rfl rfl rfl info_end HD.out endC_one ?_ ?_; (· exact HR.out)))
  refine bodyPost_ret (v := .agg (endC (C.o) (C.os) M.W.A M.W.n M.W.c w1.heap.size).toArray) (results_c (fn := Tryz.f55) (p := 2) rfl _ _ _ rfl (HR.out.row _) Tryz.underlying174 rfl info_end) rfl ?_
  exact ⟨w1.heap.size, rfl, HG.out.rowOther (by have := HR.out.lt; have := HY.out.lo; have h9 := HR.out; have := HW.out; intro e; have h8 := congrArg (fun x : World => x.heap.size) HW.out; simp at h8; omega) _, below_setRow HY.out.up (by omega) _⟩

theorem part_at {w : World} {b o : Nat} {B : BR} (h : w.rangeAt b o (brC B)) : w.rangeAt b (o + 6) [.int .u64 (B.r.a.a.toNat : Int), .int .u64 (B.r.a.b.toNat : Int), .int .u64 (B.r.a.c.toNat : Int), .int .u64 (B.r.a.d.toNat : Int)] := fun j v hv => by
  rw [Nat.add_assoc]
  refine h (6 + j) v ?_
  match j, hv with
  | 0, hv => exact hv
  | 1, hv => exact hv
  | 2, hv => exact hv
  | 3, hv => exact hv
theorem info_set : (Tryz.prog.info? 135).map (·.size) = some 4 := by kernel_rfl
set_option maxRecDepth 100000 in
set_option maxHeartbeats 4000000 in
theorem c_met {V : VQ} {w : World} (h : VW w V) (hf : Few V) (hT : TabD w) (who b : Int) :
    Calls Tryz.prog 57 #[.agg (vC V).toArray, .int .i64 who, .int .i64 b] w fun e w' => e = .returned (.bool (rdMet V.Bq who b)) ∧ Below w.heap.size w w' := by
  have hX := bx1 w (vC V) 40
  generalize hw1 : w.alloc (.cells (vC V).toArray 40) = w1 at hX
  have HW := Lib.hid hw1
  have HX := Lib.hid hX
  have c2 : w1.cell? ⟨w.heap.size, 2, none⟩ = some (.slice V.BA V.Bq.length V.Bc) := hX.box.cell 2 _ rfl
  have hl10 : (V.Bq.length : Int) ≤ 10 := by have := hf.br; omega
  rcases getI_cases V.Bq b with hb | ⟨hb, hb2⟩ | ⟨k, q, rfl, hk, hq⟩
  · have HE := Lib.hid (rdMet_none (who := who) (getI_neg (L := V.Bq) hb))
    rw [HE.out]
    have g0 : decide (b ≥ 0) = false := decide_eq_false (by omega)
    clear h hf hT hX hw1 hb HE
    go_enter Tryz.func57, Tryz.ntmps57
    go_upto_region 1 with fail
    rw [HW.out]
    go_wp2_with fail
    go_ret
    exact ⟨rfl, HX.out.up⟩
  · have HE := Lib.hid (rdMet_none (who := who) (getI_over (L := V.Bq) hb2))
    rw [HE.out]
    have g0 : decide (b ≥ 0) = true := decide_eq_true (by omega)
    have g1 : decide (b < (V.Bq.length : Int)) = false := decide_eq_false (by omega)
    clear h hf hT hX hw1 hb HE hb2
    go_enter Tryz.func57, Tryz.ntmps57
    go_upto_region 1 with fail
    rw [HW.out]
    go_wp2_with fail
    go_ret
    exact ⟨rfl, HX.out.up⟩
  · have HE := Lib.hid (rdMet_some (Bs := V.Bq) (who := who) (b := (k : Int)) (B := q) (by rw [getI_at]; exact hq))
    rw [HE.out]
    clear HE
    have g0 : decide ((k : Int) ≥ 0) = true := decide_eq_true (by omega)
    have g1 : decide ((k : Int) < (V.Bq.length : Int)) = true := decide_eq_true (by omega)
    obtain ⟨B, o, q', hA, _, hBl, hq', hrg, _⟩ := (h.below hX.up).br.at_ k hk
    obtain rfl : q' = q := by
      rw [hq] at hq'
      exact (Option.some.inj hq').symm
    rw [hA] at c2
    have HRG : Hid (w1.rangeAt B (o + k * 11) (brC q')) := Lib.hid hrg
    have HBL := Lib.hid hBl
    have CR := Lib.hid (fun W (hW : Below w.heap.size w W) => c_brready q' W (hT.up hW))
    have hk3 : k ≤ 10 := by omega
    obtain ⟨x, hx⟩ : ∃ x, brReady q' = x := ⟨_, rfl⟩
    obtain ⟨y, hy⟩ : ∃ y, hasL q'.r.a.ints who = y := ⟨_, rfl⟩
    have CH := Lib.hid (fun W => c_hasB q'.r.a who W hy)
    rw [hx] at CR
    rw [hx, hy]
    clear h hf hT hX hw1 hq hq' hrg hA hBl hx hy
    cases x
    · go_enter Tryz.func57, Tryz.ntmps57
      go_upto_region 1 with fail
      rw [HW.out]
      go_wp2_with (refine lmr (b := B) (q := o + k * 11) (cs := brC q') (.tmp 20) rfl rfl Tryz.underlying139 rfl info_bar rfl ?_ ?_; (· exact HRG.out))
      refine (CR.out _ HX.out.up).mono ?_; rintro e w2 ⟨rfl, hb2⟩
      have HU := Lib.hid (up_trans HX.out.up hb2)
      clear hb2
      go_wp2_with fail
      go_ret
      exact ⟨rfl, HU.out⟩
    · go_enter Tryz.func57, Tryz.ntmps57
      go_upto_region 1 with fail
      rw [HW.out]
      go_wp2_with (refine lmr (b := B) (q := o + k * 11) (cs := brC q') (.tmp 20) rfl rfl Tryz.underlying139 rfl info_bar rfl ?_ ?_; (· exact HRG.out))
      refine (CR.out _ HX.out.up).mono ?_; rintro e w2 ⟨rfl, hb2⟩
      have HU := Lib.hid (up_trans HX.out.up hb2)
      have d2 : w2.cell? ⟨w.heap.size, 2, none⟩ = some (.slice (some ⟨B, o, none⟩) V.Bq.length V.Bc) := (Blk.up HX.out.box hb2 HX.out.box.lt).cell' 2 |>.trans (by rw [← c2, HX.out.box.cell' 2])
      have HRP : Hid (w2.rangeAt B (o + k * 11 + 6) [.int .u64 (q'.r.a.a.toNat : Int), .int .u64 (q'.r.a.b.toNat : Int), .int .u64 (q'.r.a.c.toNat : Int), .int .u64 (q'.r.a.d.toNat : Int)]) := Lib.hid (part_at (range_below HRG.out hb2 HBL.out))
      clear hb2 c2
      go_wp2_with (refine lmr (b := B) (q := o + k * 11 + 6) (cs := [.int .u64 (q'.r.a.a.toNat : Int), .int .u64 (q'.r.a.b.toNat : Int), .int .u64 (q'.r.a.c.toNat : Int), .int .u64 (q'.r.a.d.toNat : Int)]) (.tmp 30) rfl rfl Tryz.underlying135 rfl info_set rfl ?_ ?_; (· exact HRP.out))
      refine (CH.out _).mono ?_; rintro e w3 ⟨rfl, hb3⟩
      have HU3 := Lib.hid (up_trans HU.out hb3)
      clear hb3
      go_wp2_with fail
      go_ret
      exact ⟨ret_bool (by simp), HU3.out⟩
end Go.Proofs.YtdiiilnebepfdaaGreatDoor

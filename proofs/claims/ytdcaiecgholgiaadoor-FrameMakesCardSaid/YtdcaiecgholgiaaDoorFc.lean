/- A whole frame loaded and stored; the contract of package frame's fault. -/
import Derived.Test.YtdcaiecgholgiaaDoorFb
import Derived.Laws.Rows
import Derived.Laws.CopyOwn
namespace Go.Proofs.YtdcaiecgholgiaaDoor
open Go.RowKit

theorem Blk.row {w : World} {b : Nat} {cs : List Value} {t : TypeId} (h : Blk w b cs t) (ds : List Value) : Blk (w.setRow b ds.toArray) b ds t := setRow_heap w b _ _ t (0, 0) h
theorem Blk.rowOther {w : World} {b g : Nat} {cs : List Value} {t : TypeId} (h : Blk w b cs t) (hg : b ≠ g) (ds : Array Value) : Blk (w.setRow g ds) b cs t := (setRow_other w g b ds hg).trans h
theorem info_prog : (Tryd.prog.info? 26).map (·.size) = some 35 := by kernel_rfl

theorem ld_prog {w : World} {b : Nat} {f : FR} {t : TypeId} {ops : Array Oper} {rest : List Oper} {o : Oper} {a : Act} {Q : Exit → Act → World → Prop} (hf : f.Ok) (h : Blk w b f.cells t) (hgd : o.guard = none) (x : Operand) (ho : o.op = .load 26 x)
    (hx : a.eval x = .pointer (some ⟨b, 0, none⟩)) (hk : wpList Tryd.prog ops Q rest (a.put o.dst (.agg f.cells.toArray)) w) : wpList Tryd.prog ops Q (o :: rest) a w :=
  wpList_load_row hgd _ x ho b hx t f.cells.toArray (0, 0) _ h Tryd.underlying26 rfl (by rw [List.size_toArray, FR.cells_len hf]; exact info_prog) hk
theorem st_prog {w : World} {b : Nat} {f g : FR} {t : TypeId} {ops : Array Oper} {rest : List Oper} {o : Oper} {a : Act} {Q : Exit → Act → World → Prop} (hf : f.Ok) (hg : g.Ok) (h : Blk w b g.cells t) (hgd : o.guard = none) (x y : Operand) (ho : o.op = .store 26 x y)
    (hx : a.eval x = .pointer (some ⟨b, 0, none⟩)) (hy : a.eval y = .agg f.cells.toArray) (hk : wpList Tryd.prog ops Q rest (a.put o.dst undef) (w.setRow b f.cells.toArray)) : wpList Tryd.prog ops Q (o :: rest) a w :=
  wpList_store_row hgd _ x y ho b _ hx hy t g.cells.toArray h (by rw [List.size_toArray, FR.cells_len hf]; exact info_prog) (by rw [List.size_toArray, List.size_toArray, FR.cells_len hf, FR.cells_len hg]) (by
    rw [Array.all_eq_true_iff_forall_mem]
    intro v hv
    exact FR.one v (by simpa using hv)) hk

def faultE (f : FR) (b : Bool) : Int := if fineF f = false then 1 else if b = true then 0 else 8
set_option maxRecDepth 100000 in
set_option maxHeartbeats 1000000 in
theorem c_fault {f : FR} (hf : f.Ok) (b : Bool) (w : World) :
    Calls Tryd.prog 37 #[.agg f.cells.toArray, .bool b] w fun e w' => e = .returned (.int .i64 (faultE f b)) ∧ Below w.heap.size w w' := by
  have hX := boxed w f 26
  have C := Lib.hid (c_ffine hf (w.alloc (.cells f.cells.toArray 26)))
  have HX := Lib.hid hX
  clear hX
  cases hff : fineF f
  · rw [hff] at C
    rw [show faultE f b = 1 from if_pos hff]
    clear hff
    go_enter Tryd.func37, Tryd.ntmps37
    go_wp2_with (first | (refine ld_prog hf HX.out.box rfl (.tmp 2) rfl rfl ?_) | (go_at_call 9; refine C.out.mono ?_; rintro e w2 ⟨rfl, hb2⟩))
    go_ret
    exact ⟨rfl, up_trans HX.out.up hb2⟩
  · rw [hff] at C
    cases b
    · rw [show faultE f false = 8 by unfold faultE; rw [hff]; rfl]
      clear hff
      go_enter Tryd.func37, Tryd.ntmps37
      go_wp2_with (first | (refine ld_prog hf HX.out.box rfl (.tmp 2) rfl rfl ?_) | (go_at_call 9; refine C.out.mono ?_; rintro e w2 ⟨rfl, hb2⟩))
      go_ret
      exact ⟨rfl, up_trans HX.out.up hb2⟩
    · rw [show faultE f true = 0 by unfold faultE; rw [hff]; rfl]
      clear hff
      go_enter Tryd.func37, Tryd.ntmps37
      go_wp2_with (first | (refine ld_prog hf HX.out.box rfl (.tmp 2) rfl rfl ?_) | (go_at_call 9; refine C.out.mono ?_; rintro e w2 ⟨rfl, hb2⟩))
      go_ret
      exact ⟨rfl, up_trans HX.out.up hb2⟩
end Go.Proofs.YtdcaiecgholgiaaDoor

/- Arguments of layer 29: a view, a world. -/
import Derived.Test.YtdiiilnebepfdaaGreatDoorO1
import Derived.Test.YtdiiilnebepfdaaGreatDoorRpa
namespace Go.Proofs.YtdiiilnebepfdaaGreatDoor
open Go.ChangeShapes Go.WideShapes Go.Deep Go.ChangeAt Go.RowKit

instance : Inhabited WQ := ⟨⟨0, none, 0, []⟩⟩
instance : Inhabited Tm := ⟨Tm.zero⟩
section
variable {H : Type} {enc : TypeId × Value → H} {w : World} {base : Nat} {spare : Nat → Bool} {held : Bool}
set_option maxRecDepth 100000 in
theorem trod_wq {fu : Nat} {cs : List Value} {x : DataW H × List MemPlace} (h : DataW.trod enc Tryz.prog w base spare held fu 67 cs = some x) : ∃ q : WQ, cs = wqC q ∧ RD w tt 5 q.A q.gs.length (q.gs.flatMap gdC) := by
  obtain ⟨xs, m', _, _, hl, hxl, each⟩ := DataW.trod_struct Tryz.underlying67 h
  have hln : cs.length = 2 := by rw [hl]; kernel_rfl
  have hx : xs.length = 2 := by rw [hxl]; rfl
  have ci : Tryz.prog.cellsOf 3 = 1 := by kernel_rfl
  have cg : Tryz.prog.cellsOf 59 = 1 := by kernel_rfl
  obtain ⟨a, b, rfl⟩ : ∃ a b, cs = [a, b] := by
    match cs, hln with
    | [a, b], _ => exact ⟨a, b, rfl⟩
  have e0 : DataW.trod enc Tryz.prog w base spare held m' 3 [a] = some (xs[0]'(by omega)) := by
    have h := each 0 _ rfl
    rw [List.getElem?_eq_getElem (by omega)] at h
    exact (ci ▸ h : _)
  have e1 : DataW.trod enc Tryz.prog w base spare held m' 59 [b] = some (xs[1]'(by omega)) := by
    have h := each 1 _ rfl
    rw [List.getElem?_eq_getElem (by omega)] at h
    exact (cg ▸ h : _)
  obtain ⟨z0, h0, _, _⟩ := DataW.trod_int Tryz.underlying3 e0
  obtain ⟨A, n, cc, gs, h1, _, _, h4, _, h5⟩ := ct_trod_rows gdC 5 (fun _ => True) gdC_len (by omega) Tryz.underlying59 (by kernel_rfl) (fun _ _ _ h => trod_gd h) e1
  obtain rfl : a = .int .i64 z0 := by simpa using h0
  obtain rfl : b = .slice A n cc := by simpa using h1
  subst h4
  exact ⟨⟨z0, A, cc, gs⟩, rfl, h5⟩
/-- A world, with its slices. -/
structure WS where
  CA : Option Addr
  Cc : Nat
  Cl : List CF
  BA : Option Addr
  Bc : Nat
  Bl : List CB
  OA : Option Addr
  Oc : Nat
  Ol : List Int
  WA : Option Addr
  Wc : Nat
  Wq : List WQ
  PA : Option Addr
  Pc : Nat
  Pl : List Int
  now : Int
def wsC (X : WS) : List Value := [.slice X.CA X.Cl.length X.Cc, .slice X.BA X.Bl.length X.Bc, .slice X.OA X.Ol.length X.Oc, .slice X.WA X.Wq.length X.Wc, .slice X.PA X.Pl.length X.Pc, .int .i64 X.now]
structure WX (w : World) (X : WS) : Prop where
  ch : RD w tt 4 X.CA X.Cl.length (X.Cl.flatMap ctCfC)
  br : RD w tt 2 X.BA X.Bl.length (X.Bl.flatMap cbC)
  on : RD w tt 1 X.OA X.Ol.length (X.Ol.map (Value.int .u8))
  ob : ∀ z ∈ X.Ol, 0 ≤ z ∧ z ≤ 255
  wt : TW wK w tt X.WA X.Wq.length X.Wq
  po : RD w tt 1 X.PA X.Pl.length (X.Pl.map (Value.int .u8))
  pb : ∀ z ∈ X.Pl, 0 ≤ z ∧ z ≤ 255
  pm : X.Pl.length ≤ maxLen
theorem WX.below {w w' : World} {X : WS} (h : WX w X) (hb : Below w.heap.size w w') : WX w' X := ⟨h.ch.below hb, h.br.below hb, h.on.below hb, h.ob, h.wt.below hb, h.po.below hb, h.pb, h.pm⟩
theorem wf8 {z : Int} (h : (Lit.int .u8 z).wf = true) : 0 ≤ z ∧ z ≤ 255 := by
  unfold Lit.wf at h
  simp only [Bool.and_eq_true, decide_eq_true_eq] at h
  exact ⟨h.1, h.2⟩
set_option maxRecDepth 100000 in
theorem open_world {r : Reach} {b0 : Nat} {v : Value} {d : DataW H} {ps : List MemPlace} (hval : Value.okWide Tryz.prog w r b0 54 v) (hd : DataW.Trod enc Tryz.prog w base spare held 54 v d ps) :
    ∃ X : WS, v = .agg (wsC X).toArray ∧ WX w X := by
  obtain ⟨cs, rfl, hsz⟩ := okWide_struct Tryz.underlying54 hval
  obtain ⟨fuel, hf⟩ := hd
  have hf' : DataW.trod enc Tryz.prog w base spare held fuel 54 cs.toList = some (d, ps) := hf
  obtain ⟨xs, m', _, _, hl, hxl, each⟩ := DataW.trod_struct Tryz.underlying54 hf'
  obtain ⟨cs⟩ := cs
  simp only at hl each
  have hln : cs.length = 6 := by rw [hl]; kernel_rfl
  have hx : xs.length = 6 := by rw [hxl]; rfl
  have cf : Tryz.prog.cellsOf 50 = 1 := by kernel_rfl
  have cr : Tryz.prog.cellsOf 51 = 1 := by kernel_rfl
  have cu : Tryz.prog.cellsOf 52 = 1 := by kernel_rfl
  have cw : Tryz.prog.cellsOf 24 = 1 := by kernel_rfl
  have ci : Tryz.prog.cellsOf 3 = 1 := by kernel_rfl
  obtain ⟨a, b, c, u, y, z, rfl⟩ : ∃ a b c u y z, cs = [a, b, c, u, y, z] := by
    match cs, hln with
    | [a, b, c, u, y, z], _ => exact ⟨a, b, c, u, y, z, rfl⟩
  have e0 : DataW.trod enc Tryz.prog w base spare held m' 50 [a] = some (xs[0]'(by omega)) := by
    have h := each 0 _ rfl
    rw [List.getElem?_eq_getElem (by omega)] at h
    exact (cf ▸ h : _)
  have e1 : DataW.trod enc Tryz.prog w base spare held m' 51 [b] = some (xs[1]'(by omega)) := by
    have h := each 1 _ rfl
    rw [List.getElem?_eq_getElem (by omega)] at h
    exact (cr ▸ h : _)
  have e2 : DataW.trod enc Tryz.prog w base spare held m' 52 [c] = some (xs[2]'(by omega)) := by
    have h := each 2 _ rfl
    rw [List.getElem?_eq_getElem (by omega)] at h
    exact (cu ▸ h : _)
  have e3 : DataW.trod enc Tryz.prog w base spare held m' 24 [u] = some (xs[3]'(by omega)) := by
    have h := each 3 _ rfl
    rw [List.getElem?_eq_getElem (by omega)] at h
    exact (cw ▸ h : _)
  have e4 : DataW.trod enc Tryz.prog w base spare held m' 52 [y] = some (xs[4]'(by omega)) := by
    have h := each 4 _ rfl
    rw [List.getElem?_eq_getElem (by omega)] at h
    exact (cu ▸ h : _)
  have e5 : DataW.trod enc Tryz.prog w base spare held m' 3 [z] = some (xs[5]'(by omega)) := by
    have h := each 5 _ rfl
    rw [List.getElem?_eq_getElem (by omega)] at h
    exact (ci ▸ h : _)
  obtain ⟨CA, cn, Cc, Cl, g0, _, _, cl, _, c5⟩ := ct_trod_rows ctCfC 4 (fun _ => True) cfC_len (by omega) Tryz.underlying50 (by kernel_rfl) (fun _ _ _ h => trod_cf h) e0
  obtain ⟨BA, bn, Bc, Bl, g1, _, _, bl, _, b5⟩ := ct_trod_rows cbC 2 (fun _ => True) cbC_len (by omega) Tryz.underlying51 (by kernel_rfl) (fun _ cs _ h => by
    obtain ⟨xs, m', _, _, hl, hxl, each⟩ := DataW.trod_struct Tryz.underlying109 h
    have hl2 : cs.length = 2 := by rw [hl]; kernel_rfl
    obtain ⟨a, b, rfl⟩ : ∃ a b, cs = [a, b] := by
      match cs, hl2 with
      | [a, b], _ => exact ⟨a, b, rfl⟩
    obtain ⟨al, l, rfl, rfl⟩ := trod_conf22 h
    exact ⟨(al, l), rfl, trivial⟩) e1
  obtain ⟨OA, on, Oc, Ol, g2, _, _, ol, ow, o5⟩ := trod_intl .u8 Tryz.underlying52 Tryz.underlying5 (by kernel_rfl) e2
  obtain ⟨WA, wn, Wc, Wq, g3, _, _, wl, wg, w5⟩ := ct_trod_rows wqC 2 (fun q => RD w tt 5 q.A q.gs.length (q.gs.flatMap gdC)) (fun _ => rfl) (by omega) Tryz.underlying24 (by kernel_rfl) (fun _ _ _ h => trod_wq h) e3
  obtain ⟨PA, pn, Pc, Pl, g4, pm1, pm2, pl, pw, p5⟩ := trod_intl .u8 Tryz.underlying52 Tryz.underlying5 (by kernel_rfl) e4
  obtain ⟨z0, h0, _, _⟩ := DataW.trod_int Tryz.underlying3 e5
  obtain rfl : a = .slice CA cn Cc := by simpa using g0
  obtain rfl : b = .slice BA bn Bc := by simpa using g1
  obtain rfl : c = .slice OA on Oc := by simpa using g2
  obtain rfl : u = .slice WA wn Wc := by simpa using g3
  obtain rfl : y = .slice PA pn Pc := by simpa using g4
  obtain rfl : z = .int .i64 z0 := by simpa using h0
  subst cl bl ol wl pl
  exact ⟨⟨CA, Cc, Cl, BA, Bc, Bl, OA, Oc, Ol, WA, Wc, Wq, PA, Pc, Pl, z0⟩, rfl, c5, b5, o5, fun z hz => wf8 (ow z hz), ⟨w5, rfl, wg⟩, p5, fun z hz => wf8 (pw z hz), Nat.le_trans pm1 pm2⟩
end
end Go.Proofs.YtdiiilnebepfdaaGreatDoor

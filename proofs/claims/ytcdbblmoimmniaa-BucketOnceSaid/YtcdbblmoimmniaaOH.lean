/- The law's steps as an argument; the walks as the rows give their arguments. -/
import Derived.Test.YtcdbblmoimmniaaOG
import Derived.Test.YtcdbblmoimmniaaOA
import Derived.Test.YtcdbblmoimmniaaCug
import Derived.Test.YtcdbblmoimmniaaCui
namespace Go.Proofs.Ytcdbblmoimmniaa
open Go.ChangeShapes Go.WideShapes Go.Deep Go.ChangeAt Go.RowKit

section
variable {H : Type} {enc : TypeId × Value → H} {w : World} {base : Nat} {spare : Nat → Bool} {held : Bool}
set_option maxRecDepth 100000 in
theorem open_bsteps {r : Reach} {b0 : Nat} {v : Value} {d : DataW H} {ps : List MemPlace} (hval : Value.okWide Try.prog w r b0 22 v) (hd : DataW.Trod enc Try.prog w base spare held 22 v d ps) :
    ∃ (A : Option Addr) (n c : Nat) (L : List Step), v = .slice A n c ∧ L.length = n ∧ RD w (fun _ => True) 3 A n (L.flatMap stepV) := by
  obtain ⟨A, n, c, L, rfl, _, _, h3, _, h5⟩ := openG_rows stepV 3 (fun _ => True) stepV_len (by omega) Try.underlying22 (by kernel_rfl) (fun _ cs _ h => by
    obtain ⟨xs, m', _, _, hl, hxl, each⟩ := DataW.trod_struct Try.underlying32 h
    have hl3 : cs.length = 3 := by rw [hl]; kernel_rfl
    have hx3 : xs.length = 3 := by rw [hxl]; rfl
    have ci : Try.prog.cellsOf 3 = 1 := by kernel_rfl
    have cb : Try.prog.cellsOf 4 = 1 := by kernel_rfl
    obtain ⟨a, b, c, rfl⟩ : ∃ a b c, cs = [a, b, c] := by
      match cs, hl3 with
      | [a, b, c], _ => exact ⟨a, b, c, rfl⟩
    have e0 : DataW.trod enc Try.prog w base spare held m' 4 [a] = some (xs[0]'(by omega)) := by
      have h := each 0 _ rfl
      rw [List.getElem?_eq_getElem (by omega)] at h
      exact (cb ▸ h : _)
    have e1 : DataW.trod enc Try.prog w base spare held m' 3 [b] = some (xs[1]'(by omega)) := by
      have h := each 1 _ rfl
      rw [List.getElem?_eq_getElem (by omega)] at h
      exact (ci ▸ h : _)
    have e2 : DataW.trod enc Try.prog w base spare held m' 3 [c] = some (xs[2]'(by omega)) := by
      have h := each 2 _ rfl
      rw [List.getElem?_eq_getElem (by omega)] at h
      exact (ci ▸ h : _)
    obtain ⟨z0, h0, _⟩ := DataW.trod_bool Try.underlying4 e0
    obtain ⟨z1, h1, _, _⟩ := DataW.trod_int Try.underlying3 e1
    obtain ⟨z2, h2, _, _⟩ := DataW.trod_int Try.underlying3 e2
    obtain rfl : a = .bool z0 := by simpa using h0
    obtain rfl : b = .int .i64 z1 := by simpa using h1
    obtain rfl : c = .int .i64 z2 := by simpa using h2
    exact ⟨(z0, z1, z2), rfl, trivial⟩) hval hd
  exact ⟨A, n, c, L, rfl, h3, h5⟩
end

def trOf (r : List Int) : Tr := (r.getD 0 0, r.getD 1 0, r.getD 2 0)
theorem row3 {a b c : IntKind} {r : List Int} (h : RowOk [a, b, c] r) : ∃ x y z, r = [x, y, z] ∧ (Lit.int a x).wf = true ∧ (Lit.int b y).wf = true ∧ (Lit.int c z).wf = true := by
  obtain ⟨x, y, z, rfl⟩ := list_of_3 h.1
  exact ⟨x, y, z, rfl, h.2 0 a x rfl rfl, h.2 1 b y rfl rfl, h.2 2 c z rfl rfl⟩
theorem trs_of (LL : List (List Int)) (hok : ∀ r ∈ LL, RowOk [.u8, .u8, .u8] r) : LL.flatMap (rowV [.u8, .u8, .u8]) = (LL.map trOf).flatMap trV := by
  induction LL with
  | nil => rfl
  | cons r LL ih =>
    obtain ⟨x, y, z, rfl, _⟩ := row3 (hok r (by simp))
    rw [List.map_cons, List.flatMap_cons, List.flatMap_cons, ih (fun r' h => hok r' (by simp [h]))]
    rfl
theorem trs_ok (LL : List (List Int)) (hok : ∀ r ∈ LL, RowOk [.u8, .u8, .u8] r) : ∀ p ∈ LL.map trOf, TrOk p := by
  intro p hp
  obtain ⟨r, hr, rfl⟩ := List.mem_map.1 hp
  obtain ⟨x, y, z, rfl, h1, h2, h3⟩ := row3 (hok r hr)
  exact ⟨bounds_u8 h1, bounds_u8 h2, bounds_u8 h3⟩
theorem z_once (A : Option Addr) (n cp : Nat) (LL : List (List Int)) (hl : LL.length = n) (hok : ∀ r ∈ LL, RowOk (List.replicate 3 .u8) r) (w : World) (hR : RD w (fun _ => True) (List.replicate 3 IntKind.u8).length A n (LL.flatMap (rowV (List.replicate 3 .u8)))) :
    Calls Try.prog 4 #[.slice A n cp] w fun e w' => e = .returned (.bool true) ∧ Below w.heap.size w w' :=
  l_once A n cp (LL.map trOf) w (by rw [← trs_of LL hok]; exact hR) (by simpa using hl) (trs_ok LL hok)
end Go.Proofs.Ytcdbblmoimmniaa

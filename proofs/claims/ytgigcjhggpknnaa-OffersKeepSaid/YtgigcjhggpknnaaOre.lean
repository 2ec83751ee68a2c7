/- The law OffersKeep, of lists of any length; as its row gives the argument. -/
import Derived.Test.YtgigcjhggpknnaaOA
import Derived.Test.YtgigcjhggpknnaaOrd
namespace Go.Proofs.Ytgigcjhggpknnaa
open Go.RowKit

set_option maxRecDepth 100000 in
set_option maxHeartbeats 1000000 in
theorem l_keep (A : Option Addr) (n cp : Nat) (P : List Tr) (w : World) (hR : RD w (fun _ => True) 3 A n (P.flatMap trV)) (hn : P.length = n) (hP : ∀ p ∈ P, TrOk p) :
    Calls Try.prog 4 #[.slice A n cp] w fun e w' => e = .returned (.bool true) ∧ Below w.heap.size w w' := by
  by_cases hb : 60 < n
  · have hb' : (60 : Int) < n := by omega
    clear hR hn hP
    go_enter Try.func4, Try.ntmps4
    go_wp2_with fail
    refine (c_onew 60 (by omega) (by omega) w).mono ?_
    rintro e w1 ⟨t, s, a, S, b, rfl, _, _, _, up1⟩
    go_wp2_with fail
    refine (c_alive _).mono ?_
    rintro e w2 ⟨rfl, hb2⟩
    go_wp2_with fail
    go_ret
    exact ⟨rfl, up_trans up1 hb2⟩
  · exact l_keep_run A n cp P w hR hn hP (by omega)

def trOf (r : List Int) : Tr := (r.getD 0 0, r.getD 1 0, r.getD 2 0)
theorem row3 {a b c : IntKind} {r : List Int} (h : RowOk [a, b, c] r) : ∃ x y z, r = [x, y, z] ∧ (Lit.int a x).wf = true ∧ (Lit.int b y).wf = true ∧ (Lit.int c z).wf = true := by
  obtain ⟨x, y, z, rfl⟩ := list_of_3 h.1
  exact ⟨x, y, z, rfl, h.2 0 a x rfl rfl, h.2 1 b y rfl rfl, h.2 2 c z rfl rfl⟩
theorem trs_of (LL : List (List Int)) (hok : ∀ r ∈ LL, RowOk [.u8, .u8, .u8] r) : LL.flatMap (rowV [.u8, .u8, .u8]) = (LL.map trOf).flatMap trV := by
  induction LL with
  | nil => rfl
  | cons r LL ih =>
    obtain ⟨x, y, z, rfl, _⟩ := row3 (hok r (by simp))
    rw [List.map_cons, List.flatMap_cons, List.flatMap_cons, ih (fun r' h => hok r' (by simp [h]))]
    rfl
theorem trs_ok (LL : List (List Int)) (hok : ∀ r ∈ LL, RowOk [.u8, .u8, .u8] r) : ∀ p ∈ LL.map trOf, TrOk p := by
  intro p hp
  obtain ⟨r, hr, rfl⟩ := List.mem_map.1 hp
  obtain ⟨x, y, z, rfl, h1, h2, h3⟩ := row3 (hok r hr)
  exact ⟨bounds_u8 h1, bounds_u8 h2, bounds_u8 h3⟩
theorem z_keep (A : Option Addr) (n cp : Nat) (LL : List (List Int)) (hl : LL.length = n) (hok : ∀ r ∈ LL, RowOk (List.replicate 3 .u8) r) (w : World) (hR : RD w (fun _ => True) (List.replicate 3 IntKind.u8).length A n (LL.flatMap (rowV (List.replicate 3 .u8)))) :
    Calls Try.prog 4 #[.slice A n cp] w fun e w' => e = .returned (.bool true) ∧ Below w.heap.size w w' :=
  l_keep A n cp (LL.map trOf) w (by rw [← trs_of LL hok]; exact hR) (by simpa using hl) (trs_ok LL hok)
end Go.Proofs.Ytgigcjhggpknnaa

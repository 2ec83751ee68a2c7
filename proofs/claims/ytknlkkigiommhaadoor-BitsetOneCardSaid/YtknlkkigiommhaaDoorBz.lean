/- The four laws' walks, as the rows want them. -/
import Derived.Test.YtknlkkigiommhaaDoorBo
import Derived.Test.YtknlkkigiommhaaDoorBq
import Derived.Test.YtknlkkigiommhaaDoorBt
import Derived.Stop.LaidErr
import Derived.Test.YtknlkkigiommhaaDoorO
namespace Go.Proofs.YtknlkkigiommhaaDoor
open Go.RowKit

theorem tab_eq : (Rows.laid_math_bits_deBruijn64tab : DataW Unit) = Lib.tabData .u8 (Lib.deBruijn64tab.map fun n : Nat => (n : Int)) := by kernel_rfl
theorem tab_of {W : World} (h : laidMetH Tryd.prog [("math/bits.deBruijn64tab", Rows.laid_math_bits_deBruijn64tab)] W) : TabD W := by
  rw [MakeChecks.laidMetH_plain _ _ _ (by kernel_rfl)] at h
  rw [tab_eq] at h
  have := Lib.tabIs_of_head (g := 0) (by kernel_rfl) (by kernel_rfl) Tryd.underlying52 Tryd.underlying5 (by kernel_rfl) (by kernel_rfl) h
  intro j hj
  unfold Lib.TabIs World.var? at this
  rw [show Tryd.prog.globalNamed "math/bits.deBruijn64tab" = some 0 by kernel_rfl] at this
  simp only [Option.bind_some] at this
  split at this
  · next cs t r hh =>
    obtain rfl := Option.some.inj this
    have hl : Lib.deBruijn64tab.length = 64 := rfl
    have hg : (Lib.deBruijn64tab.map fun n : Nat => Value.int .u8 (n : Int))[j]? = some (.int .u8 (Lib.deBruijn64tab.getD j 0)) := by
      rw [List.getElem?_map, List.getElem?_eq_getElem (by omega)]
      simp [List.getD, hl, hj]
    simp only [World.cell?, hh, List.map_map]
    simpa [Function.comp_def] using hg
  · cases this
/-- A set of four numbers. -/
def mkS (a b c d : Int) : S4 := ⟨BitVec.ofNat 64 a.toNat, BitVec.ofNat 64 b.toNat, BitVec.ofNat 64 c.toNat, BitVec.ofNat 64 d.toNat⟩
theorem bv_int (a : Int) (h : 0 ≤ a ∧ a ≤ 18446744073709551615) : ((BitVec.ofNat 64 a.toNat).toNat : Int) = a := by
  rw [BitVec.toNat_ofNat]
  omega
theorem mkS_val (a b c d : Int) (ha : 0 ≤ a ∧ a ≤ 18446744073709551615) (hb : 0 ≤ b ∧ b ≤ 18446744073709551615) (hc : 0 ≤ c ∧ c ≤ 18446744073709551615) (hd : 0 ≤ d ∧ d ≤ 18446744073709551615) :
    (.agg ([a, b, c, d].map (Value.int .u64)).toArray : Value) = (mkS a b c d).val := by
  unfold S4.val mkS
  simp only [bv_int a ha, bv_int b hb, bv_int c hc, bv_int d hd]
  rfl
theorem z_laws (a0 a1 a2 a3 b0 b1 b2 b3 c0 c1 c2 c3 : Int) (ha0 : 0 ≤ a0 ∧ a0 ≤ 18446744073709551615) (ha1 : 0 ≤ a1 ∧ a1 ≤ 18446744073709551615) (ha2 : 0 ≤ a2 ∧ a2 ≤ 18446744073709551615) (ha3 : 0 ≤ a3 ∧ a3 ≤ 18446744073709551615)
    (hb0 : 0 ≤ b0 ∧ b0 ≤ 18446744073709551615) (hb1 : 0 ≤ b1 ∧ b1 ≤ 18446744073709551615) (hb2 : 0 ≤ b2 ∧ b2 ≤ 18446744073709551615) (hb3 : 0 ≤ b3 ∧ b3 ≤ 18446744073709551615)
    (hc0 : 0 ≤ c0 ∧ c0 ≤ 18446744073709551615) (hc1 : 0 ≤ c1 ∧ c1 ≤ 18446744073709551615) (hc2 : 0 ≤ c2 ∧ c2 ≤ 18446744073709551615) (hc3 : 0 ≤ c3 ∧ c3 ≤ 18446744073709551615) (w : World) (ht : TabD w) :
    Calls Tryd.prog 6 #[.agg ([a0, a1, a2, a3].map (Value.int .u64)).toArray, .agg ([b0, b1, b2, b3].map (Value.int .u64)).toArray, .agg ([c0, c1, c2, c3].map (Value.int .u64)).toArray] w
      fun e w' => e = .returned (.bool true) ∧ Below w.heap.size w w' := by
  rw [mkS_val _ _ _ _ ha0 ha1 ha2 ha3, mkS_val _ _ _ _ hb0 hb1 hb2 hb3, mkS_val _ _ _ _ hc0 hc1 hc2 hc3]
  exact l_laws _ _ _ w ht
theorem z_stops (a0 a1 a2 a3 x : Int) (ha0 : 0 ≤ a0 ∧ a0 ≤ 18446744073709551615) (ha1 : 0 ≤ a1 ∧ a1 ≤ 18446744073709551615) (ha2 : 0 ≤ a2 ∧ a2 ≤ 18446744073709551615) (ha3 : 0 ≤ a3 ∧ a3 ≤ 18446744073709551615)
    (hx : 0 ≤ x ∧ x ≤ 255) (w : World) (ht : TabD w) :
    Calls Tryd.prog 5 #[.agg ([a0, a1, a2, a3].map (Value.int .u64)).toArray, .int .u8 x] w fun e w' => e = .returned (.bool true) ∧ Below w.heap.size w w' := by
  rw [mkS_val _ _ _ _ ha0 ha1 ha2 ha3]
  exact l_stops _ x hx.1 hx.2 w ht
theorem z_one {A : Option Addr} {n c : Nat} {L : List Int} {w : World} (hl : L.length = n) (hrd : RD w (fun _ => True) 1 A n (L.map (Value.int .i64))) (x : Int) (ht : TabD w) :
    Calls Tryd.prog 3 #[.slice A n c, .int .i64 x] w fun e w' => e = .returned (.bool true) ∧ Below w.heap.size w w' := by
  subst hl
  exact l_one hrd x ht
theorem z_two {A B : Option Addr} {n c m d : Nat} {L M : List Int} {w : World} (hl : L.length = n) (hrd : RD w (fun _ => True) 1 A n (L.map (Value.int .i64))) (hm : M.length = m) (hrd2 : RD w (fun _ => True) 1 B m (M.map (Value.int .i64))) (ht : TabD w) :
    Calls Tryd.prog 4 #[.slice A n c, .slice B m d] w fun e w' => e = .returned (.bool true) ∧ Below w.heap.size w w' := by
  subst hl hm
  exact l_two hrd hrd2 ht
end Go.Proofs.YtknlkkigiommhaaDoor

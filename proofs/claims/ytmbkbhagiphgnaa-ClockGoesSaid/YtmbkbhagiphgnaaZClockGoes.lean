/- The law ClockGoes holds at every input, as its row and its card say: the walk, lifted. -/
import Derived.Test.YtmbkbhagiphgnaaRows
import Derived.Test.YtmbkbhagiphgnaaCc
import Derived.Test.YtmbkbhagiphgnaaO
import Derived.Test.YtmbkbhagiphgnaaO
namespace Go.Proofs.Ytmbkbhagiphgnaa
open Go.ChangeShapes Go.WideShapes Go.ChangeAt Go.RowKit

set_option maxRecDepth 100000 in
theorem clockGoes_lifted (os : Os) (started : os.Started) (H : Type) (enc : TypeId × Value → H) :
    ReturnsInHanded {} Try.checked os 4 .any (Rows.clockGoesSpec.pre6 enc Try.prog Try.f4 Rows.clockGoesRow.domain false) (Rows.clockGoesSpec.post enc Try.prog Try.f4 false true false false) := by
  refine returnsInHanded_of_change (C := Try.checked) own started (by kernel_rfl) Try.func4
    (ChangeSpec.witness6 (enc := enc) (C := Try.checked) false ⟨#[], #[.int .u32 0, .agg #[.int .u16 0, .int .u16 0], .int .u32 0], []⟩ 8 (by kernel_rfl) (by kernel_rfl) (by kernel_rfl) (by kernel_rfl)) ?_
  intro W base args ds gs before hval0 hW _ hsz
  have hval : ∀ (j : Nat) t v, Try.f4.params[j]? = some t → args[j]? = some v → Value.okWide Try.prog W .any base t v := hval0
  have hW' := hW
  obtain ⟨p, q, hA0, hV, rfl, _, _⟩ := hW
  have hA : DataW.TrodAll enc Try.prog W 0 (fun _ => true) true Try.f4.params.toList args.toList ds p := hA0
  rw [Try.params4] at hA hval
  obtain ⟨v0, vs0, d0, ds0, p0, q0, hargs, rfl, rfl, h0, r0⟩ := trodAll_cons hA
  obtain ⟨v1, vs1, d1, ds1, p1, q1, rfl, rfl, rfl, h1, r1⟩ := trodAll_cons r0
  obtain ⟨v2, vs2, d2, ds2, p2, q2, rfl, rfl, rfl, h2, r2⟩ := trodAll_cons r1
  obtain ⟨rfl, rfl, rfl⟩ := trodAll_nil r2
  obtain rfl : args = #[v0, v1, v2] := Array.toList_inj.1 hargs
  obtain ⟨rfl, rfl⟩ := trodVars_none hV
  obtain ⟨x0, rfl, rfl, rfl, wx0⟩ := open_int Try.underlying31 (hval 0 31 v0 rfl rfl) h0
  have bx0 := bounds_u32 wx0
  obtain ⟨z1, hz1, rfl, wz1, rfl, rfl⟩ := open_arr Try.underlying33 Try.underlying32 (by kernel_rfl) (by kernel_rfl) (hval 1 33 v1 rfl rfl) h1
  obtain ⟨z1_0, z1_1, rfl⟩ := list_of_2 hz1
  have b1_0 := bounds_u16 (wz1 z1_0 (by simp))
  have b1_1 := bounds_u16 (wz1 z1_1 (by simp))
  obtain ⟨x2, rfl, rfl, rfl, wx2⟩ := open_int Try.underlying31 (hval 2 31 v2 rfl rfl) h2
  have bx2 := bounds_u32 wx2
  clear hA0 hval0
  refine (z_goes x0 z1_0 z1_1 x2 bx0 b1_0 b1_1 bx2 W).mono fun e W' ⟨he, hb⟩ => ?_
  subst he
  exact ⟨_, rfl, _, _, _, [], _, [], hW', trodAll_mk1 (shut_bool Try.underlying4 _), (trodAll_cons_mk (shut_int Try.underlying31 wx0) (trodAll_cons_mk (Below.trod laidOut (by kernel_rfl) (of_decide_eq_true (by kernel_rfl)) h1 hb (by simp)) (trodAll_cons_mk (shut_int Try.underlying31 wx2) trodAll_mk0))), rfl, hb.frame _, fun h => by cases h⟩
theorem clockGoes_holds : Rows.ClockGoesSaid :=
  OpenClaim.holds_of_wide 4 Try.f4 rfl rfl rfl rfl rfl rfl rfl ⟨rfl, rfl, rfl, rfl, rfl⟩ rfl rfl rfl rfl rfl (by kernel_rfl) Try.func4 (by kernel_rfl)
    (of_decide_eq_true (by kernel_rfl)) (by unfold Func.isWrapper; first | (rw [if_pos (by decide +kernel)]; kernel_rfl) | (rw [if_neg (by decide +kernel)]; exact ⟨rfl, rfl⟩))
    (fun os started H enc _ => clockGoes_lifted os started H enc)
#print axioms clockGoes_holds
end Go.Proofs.Ytmbkbhagiphgnaa

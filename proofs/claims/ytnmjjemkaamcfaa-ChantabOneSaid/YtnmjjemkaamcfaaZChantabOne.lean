/- The law ChantabOne holds at every input, as its row and its card say: the walk, lifted. -/
import Derived.Test.YtnmjjemkaamcfaaRows
import Derived.Test.YtnmjjemkaamcfaaYq
import Derived.Test.YtnmjjemkaamcfaaOD
import Derived.Test.YtnmjjemkaamcfaaO
namespace Go.Proofs.Ytnmjjemkaamcfaa
open Go.ChangeShapes Go.WideShapes Go.ChangeAt Go.RowKit

set_option maxRecDepth 100000 in
theorem chantabOne_lifted (os : Os) (started : os.Started) (H : Type) (enc : TypeId × Value → H) :
    ReturnsInHanded {} Try.checked os 5 .any (Rows.chantabOneSpec.pre6 enc Try.prog Try.f5 Rows.chantabOneRow.domain false) (Rows.chantabOneSpec.post enc Try.prog Try.f5 false true false false) := by
  refine returnsInHanded_of_change (C := Try.checked) own started (by kernel_rfl) Try.func5
    (ChangeSpec.witness6 (enc := enc) (C := Try.checked) false ⟨#[], #[.slice none 0 0, .agg #[.int .i64 0, .slice none 0 0, .bool false], .agg #[.int .i8 0, .int .i8 0]], []⟩ 8 (by kernel_rfl) (by kernel_rfl) (by kernel_rfl) (by kernel_rfl)) ?_
  intro W base args ds gs before hval0 hW _ hsz
  have hval : ∀ (j : Nat) t v, Try.f5.params[j]? = some t → args[j]? = some v → Value.okWide Try.prog W .any base t v := hval0
  have hW' := hW
  obtain ⟨p, q, hA0, hV, rfl, _, _⟩ := hW
  have hA : DataW.TrodAll enc Try.prog W 0 (fun _ => true) true Try.f5.params.toList args.toList ds p := hA0
  rw [Try.params5] at hA hval
  obtain ⟨v0, vs0, d0, ds0, p0, q0, hargs, rfl, rfl, h0, r0⟩ := trodAll_cons hA
  obtain ⟨v1, vs1, d1, ds1, p1, q1, rfl, rfl, rfl, h1, r1⟩ := trodAll_cons r0
  obtain ⟨v2, vs2, d2, ds2, p2, q2, rfl, rfl, rfl, h2, r2⟩ := trodAll_cons r1
  obtain ⟨rfl, rfl, rfl⟩ := trodAll_nil r2
  obtain rfl : args = #[v0, v1, v2] := Array.toList_inj.1 hargs
  obtain ⟨rfl, rfl⟩ := trodVars_none hV
  obtain ⟨x0, n0, c0, L0, rfl, hx0⟩ := open_tab (hval 0 22 v0 rfl rfl) h0
  obtain ⟨x1, A1, n1, c1, L1, y1, rfl, hl1, hx1⟩ := open_offer (hval 1 64 v1 rfl rfl) h1
  obtain ⟨z2, hz2, rfl, wz2, rfl, rfl⟩ := open_arr Try.underlying66 Try.underlying65 (by kernel_rfl) (by kernel_rfl) (hval 2 66 v2 rfl rfl) h2
  obtain ⟨z2_0, z2_1, rfl⟩ := list_of_2 hz2
  have b2_0 := bounds_i8 (wz2 z2_0 (by simp))
  have b2_1 := bounds_i8 (wz2 z2_1 (by simp))
  clear hA0 hval0
  refine (l_tone W hx0 hl1 hx1 x1 z2_0 z2_1 b2_0 b2_1).mono fun e W' ⟨he, hb⟩ => ?_
  subst he
  exact ⟨_, rfl, _, _, _, [], _, [], hW', trodAll_mk1 (shut_bool Try.underlying4 _), (trodAll_cons_mk (Below.trod laidOut (by kernel_rfl) (of_decide_eq_true (by kernel_rfl)) h0 hb (fun x hx => hW'.lt x (by simp [hx]))) (trodAll_cons_mk (Below.trod laidOut (by kernel_rfl) (of_decide_eq_true (by kernel_rfl)) h1 hb (fun x hx => hW'.lt x (by simp [hx]))) (trodAll_cons_mk (Below.trod laidOut (by kernel_rfl) (of_decide_eq_true (by kernel_rfl)) h2 hb (by simp)) trodAll_mk0))), rfl, hb.frame _, fun h => by cases h⟩
theorem chantabOne_holds : Rows.ChantabOneSaid :=
  OpenClaim.holds_of_wide 5 Try.f5 rfl rfl rfl rfl rfl rfl rfl ⟨rfl, rfl, rfl, rfl, rfl⟩ rfl rfl rfl rfl rfl (by kernel_rfl) Try.func5 (by kernel_rfl)
    (of_decide_eq_true (by kernel_rfl)) (by unfold Func.isWrapper; first | (rw [if_pos (by decide +kernel)]; kernel_rfl) | (rw [if_neg (by decide +kernel)]; exact ⟨rfl, rfl⟩))
    (fun os started H enc _ => chantabOne_lifted os started H enc)
#print axioms chantabOne_holds
end Go.Proofs.Ytnmjjemkaamcfaa

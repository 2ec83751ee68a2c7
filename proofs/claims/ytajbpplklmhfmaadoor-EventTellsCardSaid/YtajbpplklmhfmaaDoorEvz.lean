/- What the rows' condition on the library's and the program's variables gives the walks. -/
import Derived.Test.YtajbpplklmhfmaaDoorEvc
import Derived.Test.YtajbpplklmhfmaaDoorO
import Derived.Stop.LaidErr
import Derived.Lib.LaidU8
namespace Go.Proofs.YtajbpplklmhfmaaDoor
open Go.RowKit
theorem pow_eq : (Rows.laid_internal_strconv_uint64pow10 : DataW Unit) = Lib.tabData .u64 Lib.pow10Tab := by kernel_rfl
theorem star : "*" ++ "errors.errorString" = "*errors.errorString" := by decide
theorem err_row (u : TypeId) (h : Tryd.prog.typeName? 3 u = some "*errors.errorString") : u = 136 :=
  typeName_ptr_named (nm := "errors.errorString") (by rw [star]; kernel_rfl) (by kernel_rfl) (by decide) u (by rw [star]; exact h)
theorem names_eq : (Rows.laid_becket_event_names : DataW Unit) = .agg (evNms.map fun l => .lit (.string l)) := by kernel_rfl
theorem cells_str : Tryd.prog.cellsOf 9 = 1 := by kernel_rfl
theorem nm_of_head {W : World} {rest : List (String × DataW Unit)} (h : laidMet Tryd.prog (("becket/event.names", Rows.laid_becket_event_names) :: rest) W) : NmT W := by
  rw [names_eq] at h
  obtain ⟨ps, ⟨g', t', cs, fuel, p, q, hg', ht', hvar, hd, _, _⟩, _⟩ := h
  have hg : Tryd.prog.globalNamed "becket/event.names" = some 0 := by kernel_rfl
  have hty : (Tryd.prog.globals[0]?).map (·.type) = some 49 := by kernel_rfl
  obtain rfl := Option.some.inj (hg.symm.trans hg')
  obtain rfl := Option.some.inj (hty.symm.trans ht')
  intro k hk
  obtain ⟨fuel', d, q', hdi, he⟩ := Lib.array_elem Tryd.underlying49 hd k hk
  have hdk : (evNms.map fun l => (DataW.lit (.string l) : DataW Unit))[k]? = some (.lit (.string (evNm k))) := by
    rw [List.getElem?_map]
    unfold evNm
    rw [List.getD_eq_getElem?_getD, List.getElem?_eq_getElem (by exact hk)]
    rfl
  rw [hdk] at hdi
  obtain rfl := Option.some.inj hdi
  rw [cells_str] at he
  obtain ⟨s, e0, hs, _⟩ := DataW.trod_string Tryd.underlying9 he
  have f0 := congrArg (·[0]?) e0
  simp only [List.getElem?_take, List.getElem?_drop, List.getElem?_cons_zero, Nat.mul_one, Nat.add_zero] at f0
  rw [World.var?_cell hg hvar k, ← Array.getElem?_toList]
  have f1 : cs.toList[k]? = some (.string s) := by simpa using f0
  rw [f1]
  simp at hs
  rw [hs.1]
theorem env_of {W : World} (h : laidMetH Tryd.prog [("math/bits.deBruijn32tab", Rows.laid_math_bits_deBruijn32tab), ("math/bits.deBruijn64tab", Rows.laid_math_bits_deBruijn64tab), ("internal/strconv.uint64pow10", Rows.laid_internal_strconv_uint64pow10), ("strconv.ErrRange", Rows.laid_strconv_ErrRange), ("strconv.ErrSyntax", Rows.laid_strconv_ErrSyntax), ("becket/event.names", Rows.laid_becket_event_names)] W) : EnvE W := by
  rw [MakeChecks.laidMetH_plain _ _ _ (by kernel_rfl)] at h
  have h3 := laidMet.tail (laidMet.tail h)
  have h4 := laidMet.tail h3
  have h6 := laidMet.tail (laidMet.tail h4)
  rw [pow_eq] at h3
  obtain ⟨a, s, hv, _, _, _⟩ := laid_sentinel (g := 3) (ti := 90) (te := 138) (ts := 9) h4 (by kernel_rfl) (by kernel_rfl) Tryd.underlying90 err_row Tryd.underlying136 Tryd.underlying138 rfl rfl Tryd.underlying9 (by kernel_rfl) (by kernel_rfl)
  exact ⟨⟨Lib.tabIs_of_head (g := 4) (by kernel_rfl) (by kernel_rfl) Tryd.underlying133 Tryd.underlying103 (by kernel_rfl) (by kernel_rfl) h3, _, _, hv⟩, nm_of_head h6⟩
end Go.Proofs.YtajbpplklmhfmaaDoor

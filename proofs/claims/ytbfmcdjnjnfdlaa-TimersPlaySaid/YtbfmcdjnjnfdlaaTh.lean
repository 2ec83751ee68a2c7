/- The pile's Pop. -/
import Derived.Test.YtbfmcdjnjnfdlaaTg
namespace Go.Proofs.Ytbfmcdjnjnfdlaa
open Go.RowKit

def tmA (t : Tm) : Value := .agg #[.int .i64 t.at_, .int .i64 t.no, .int .i64 t.who]
theorem PW.alloc {w : World} {q o : Nat} {cs : List Value} {tq : TypeId} {lo : Nat} {v : Value} {xs : List Tm} (h : PW w q o cs tq lo v xs) (ob : Obj) : PW (w.alloc ob) q o cs tq lo v xs := ⟨h.box.alloc ob, h.lt, h.row.alloc ob, h.ne, h.few⟩
theorem del_post {w w3 : World} {q o : Nat} {cs : List Value} {tq : TypeId} {lo : Nat} {g n c m : Nat} {xs : List Tm} (h : PW w q o cs tq lo (.slice (some ⟨g, 0, none⟩) n c) xs) (hm : n = m + 1) (hl : n = xs.length) {ob : Obj} (d : DelPost (w.alloc ob) lo g m c (xs.take m) (.returned (.slice (some ⟨g, 0, none⟩) m c)) w3) (r : Value) :
    PilePost w q o cs tq lo (.slice (some ⟨g, 0, none⟩) n c) (fun ys => ys = xs.take m) r (.returned r) (w3.setCell ⟨q, o, none⟩ (.slice (some ⟨g, 0, none⟩) m c)) := by
  obtain ⟨_, hr, ho⟩ := d
  have hqg : q ≠ g := h.qg g rfl
  have hB3 := (h.box.alloc ob).only ho hqg
  have hml : (xs.take m).length = m := by rw [List.length_take]; omega
  refine ⟨.slice (some ⟨g, 0, none⟩) m c, _, rfl, rfl, ⟨?_, h.lt, ?_, h.ne, by rw [hml]; have := h.few; omega⟩, ?_, fun _ e => .inl e⟩
  · have := hB3.set o (.slice (some ⟨g, 0, none⟩) m c)
    rwa [List.set_set] at this
  · rw [hml]
    exact own_keep hr ((Only.refl (· = q) w3).put o _) (fun g' e k => by
      have : g = g' := by simpa [Value.ownBlock] using e
      exact hqg (k.symm.trans this.symm))
  · exact ((((Only.refl _ w).alloc ob).trans (ho.mono (fun k _ e => .inr (by simp [Value.ownBlock, e]))))).setCell (.inl (.inl rfl)) _
set_option maxHeartbeats 2000000 in
theorem c_ppop {w : World} {q o : Nat} {cs : List Value} {tq : TypeId} {lo : Nat} {v : Value} {xs : List Tm} (h : PW w q o cs tq lo v xs) (m : Nat) (hm : xs.length = m + 1) :
    Calls Try.prog 61 #[.pointer (some ⟨q, o, none⟩)] w (PilePost w q o cs tq lo v (fun ys => ys = xs.take m) (.iface 42 (tmA (gt xs m)))) := by
  obtain ⟨g, c, rfl, hnc, hcm, hlo, hg⟩ := row_form h.row (by omega)
  have hc := h.cell
  have hfw := h.few
  have hI := row_cells h.row m (by omega)
  have H := Lib.hid h
  have hq := h.qlt
  have HL := Lib.hid hm
  have HCM := Lib.hid hcm
  have hqg : q ≠ g := h.qg g rfl
  generalize hn : xs.length = n at *
  have hfn : n ≤ 2000 := by omega
  obtain rfl : n = m + 1 := by omega
  have HX := Lib.hid hn
  unfold tmA
  generalize ht : gt xs m = t at *
  obtain ⟨i0, i1, i2⟩ := hI
  generalize hw1 : w.alloc (.cells #[.int .i64 t.at_, .int .i64 t.no, .int .i64 t.who] 42) = w1
  have hD : ∀ n, n = m + 1 → Calls Try.prog 63 #[.slice (some ⟨g, 0, none⟩) n c, .int .i64 m, .int .i64 n] w1 (DelPost w1 lo g m c (xs.take m)) := by
    rintro n rfl
    subst hw1
    exact c_delete (by have h2 := fun ob => (h.alloc ob).row; simp only [hn] at h2; exact h2 _) HCM.out hnc (by omega) m rfl
  have HD := Lib.hid (hD _ rfl)
  have hB1 : Blk w1 w.heap.size [.int .i64 t.at_, .int .i64 t.no, .int .i64 t.who] 42 := by subst hw1; exact Blk.new w _ _
  have hQ1 : Blk w1 q (cs.set o (.slice (some ⟨g, 0, none⟩) (m + 1) c)) tq := by subst hw1; exact h.box.alloc _
  have hq0 : (cs.set o (.slice (some ⟨g, 0, none⟩) (m + 1) c))[o]? = some (.slice (some ⟨g, 0, none⟩) (m + 1) c) := by simp [h.lt]
  have HW := Lib.hid hw1
  have HT := Lib.hid ht
  have HQ := Lib.hid hq0
  clear h hm hcm hD ht hw1 hn hq0
  go_enter Try.func61, Try.ntmps61
  go_wp2_with fail
  rw [HW.out]
  refine Calls.mono HD.out ?_
  rintro e w3 ⟨rfl, hr3, ho3⟩
  have hB3 := hB1.only ho3 (by omega)
  have hQ3 := hQ1.only ho3 hqg
  have b0 := hB3.cell 0 _ rfl
  have b1 := hB3.cell 1 _ rfl
  have b2 := hB3.cell 2 _ rfl
  have q0 := hQ3.cell o _ HQ.out
  have q1 := hQ3.free o
  have HR := Lib.hid hr3
  have HO := Lib.hid ho3
  clear hB1 hB3 hQ1 hQ3 hr3 ho3
  go_wp2_with fail
  go_ret
  have hp := HW.out
  subst hp
  exact del_post H.out rfl HX.out.symm ⟨rfl, HR.out, HO.out⟩ _
end Go.Proofs.Ytbfmcdjnjnfdlaa

/- Package guard's Texts and Earliest. -/
import Derived.Test.YtniijkdlphkpkaaDoorGvj
import Derived.Test.YtniijkdlphkpkaaDoorN
import Derived.Lib.Join
namespace Go.Proofs.YtniijkdlphkpkaaDoor
open Go.RowKit

theorem eiS : EI Tryd.prog 48 9 (.string ⟨#[]⟩) 1 16 := ⟨Tryd.underlying48, by kernel_rfl, rfl, by omega, by omega⟩
def strL (l : List UInt8) : Value := .string ⟨l.toArray⟩
/-- A row of n places, of which the first k are filled with texts. -/
def tRow (L : List GD) (n k : Nat) : List Value := ((L.take k).map fun g => strL (txtG g)) ++ List.replicate (n - k) (strL [])
theorem tRow_next {L : List GD} {n k : Nat} {g : GD} (hl : L.length = n) (hg : L[k]? = some g) : (tRow L n k).set k (strL (txtG g)) = tRow L n (k + 1) := by
  have hk := (List.getElem?_eq_some_iff.1 hg).1
  unfold tRow
  have h1 : ((L.take k).map fun g => strL (txtG g)).length = k := by simp; omega
  rw [List.set_append_right _ _ (by rw [h1]; exact Nat.le_refl _), h1, Nat.sub_self, List.take_add_one, hg, List.map_append, List.append_assoc]
  obtain ⟨m, hm⟩ : ∃ m, n - k = m + 1 := ⟨n - k - 1, by omega⟩
  rw [hm, List.replicate_succ, List.set_cons_zero, show n - (k + 1) = m by omega]
  rfl
theorem tRow_made (L : List GD) (n : Nat) : (madeCells (Value.string ⟨#[]⟩).cells (n * 1)).toList = tRow L n 0 := by
  rw [made_list _ 1 rfl]
  unfold tRow
  simp [Value.cells, strL]
theorem tRow_all {L : List GD} {n : Nat} (hl : L.length = n) : tRow L n n = (L.map txtG).map strL := by
  unfold tRow
  rw [Nat.sub_self, ← hl, List.take_length]
  simp
theorem texts_bad {L : List GD} (h : badE L ≠ 0) : textsL L = [] := if_neg h
theorem texts_ok {L : List GD} (h : badE L = 0) : textsL L = Lib.join (L.map txtG) [44, 32] := if_pos h
theorem join_len : ∀ ps : List (List UInt8), (∀ y ∈ ps, y.length ≤ 90) → (Lib.joinTail [44, 32] ps).length ≤ 92 * ps.length
  | [], _ => by simp [Lib.joinTail]
  | y :: r, h => by
    have h1 := h y (by simp)
    have h2 := join_len r fun z hz => h z (by simp [hz])
    unfold Lib.joinTail at h2 ⊢
    rw [List.map_cons, List.flatten_cons, List.length_append, List.length_append, List.length_cons]
    simp only [List.length_cons, List.length_nil]
    omega
theorem txtG_len {L : List GD} (h : badE L = 0) : ∀ y ∈ L.map txtG, y.length ≤ 90 := by
  intro y hy
  obtain ⟨g, hg, rfl⟩ := List.mem_map.1 hy
  have key : ∀ l : List GD, badE l = 0 → g ∈ l → chkG g = 0 := by
    intro l
    induction l with
    | nil => intro _ h; exact absurd h (by simp)
    | cons a l ih =>
      intro h1 h2
      have h3 : (if chkG a = 0 then badE l else chkG a) = 0 := h1
      have h4 : chkG a = 0 := by
        split at h3 <;> assumption
      rw [if_pos h4] at h3
      rcases List.mem_cons.1 h2 with rfl | h2
      · exact h4
      · exact ih h3 h2
  exact textL_len (fit_of (key L h hg))
theorem c_gjoin {w : World} {B n : Nat} {L : List GD} {t : TypeId} (hl : L.length = n) (hn : n ≤ 1000) (h0 : badE L = 0) (hB : Blk w B (tRow L n n) t) :
    Calls Tryd.prog 31 #[.slice (some ⟨B, 0, none⟩) n n, .string ⟨#[44, 32]⟩] w fun e w' => e = .returned (.string ⟨(textsL L).toArray⟩) ∧ Below w.heap.size w w' := by
  rw [texts_ok h0]
  rw [tRow_all hl] at hB
  cases L with
  | nil =>
    obtain rfl : n = 0 := by simpa using hl.symm
    refine (Tryd.strings_Join_none _ 0 ⟨#[44, 32]⟩ w).mono ?_
    rintro e w' ⟨rfl, rfl⟩
    exact ⟨rfl, Below.refl _ _⟩
  | cons g r =>
    have hsh := txtG_len h0
    have e1 : ((((g :: r).map txtG).map fun l => (⟨l.toArray⟩ : ByteArray)).map (·.data.toList)) = (g :: r).map txtG := by
      simp [List.map_map, Function.comp_def]
    have hlen : (Lib.join ((g :: r).map txtG) [44, 32]).length ≤ 140737488355328 := by
      rw [List.map_cons, Lib.join_cons, List.length_append]
      have h1 := hsh (txtG g) (by simp)
      have h2 := join_len (r.map txtG) fun z hz => hsh z (by simp only [List.map_cons, List.mem_cons]; exact .inr hz)
      simp only [List.length_cons, List.length_map] at hl h2
      omega
    have hn2 : (((g :: r).map txtG).map fun l => (⟨l.toArray⟩ : ByteArray)).length = n := by simpa using hl
    have H := Tryd.strings_Join B 0 n (((g :: r).map txtG).map fun l => ⟨l.toArray⟩) ⟨#[44, 32]⟩ w (fun j y hj => by
      rw [List.getElem?_map] at hj
      obtain ⟨l, hl, rfl⟩ := Option.map_eq_some_iff.1 hj
      rw [Nat.zero_add]
      exact hB.cell j _ (by rw [List.getElem?_map, hl]; rfl)) hB.lt (by rw [hn2]; omega) (by rw [hn2]; exact Nat.le_refl _) (by rw [e1]; exact hlen)
    rw [e1, hn2] at H
    exact H

set_option maxRecDepth 100000 in
set_option maxHeartbeats 4000000 in
theorem c_gtexts {w : World} {pl : Nat → Prop} {A : Option Addr} {n c : Nat} {L : List GD} (hR : RD w pl 5 A n (L.flatMap gdC)) (hl : L.length = n) (hn : n ≤ 1000) (hT : EnvT w) :
    Calls Tryd.prog 13 #[.slice A n c] w fun e w' => e = .returned (.tuple #[.string ⟨(textsL L).toArray⟩, .int .i64 (badE L)]) ∧ Below w.heap.size w w' := by
  have hmk := fun W => run_mk eiS n (by omega) W
  have hM := tRow_made L n
  generalize madeCells (Value.string ⟨#[]⟩).cells (n * 1) = cs at hmk hM
  have H0 : Hid (Blk (w.alloc (.cells cs 9)) w.heap.size (tRow L n 0) 9) := Lib.hid (by
    rw [← hM]
    have := Blk.new w cs.toList 9
    rwa [Array.toArray_toList] at this)
  have HR := Lib.hid hR
  have HL := Lib.hid hl
  have HT := Lib.hid hT
  clear hR hl hM hT
  go_enter Tryd.func13, Tryd.ntmps13
  go_wp2
  go_loopw [14] (fun i wr => ∃ k : Nat, k ≤ n ∧ i = .int .i64 k ∧ Below w.heap.size w wr ∧ Blk wr w.heap.size (tRow L n k) 9 ∧ badE (L.take k) = 0) (fun i _ => n - (intOf i).toNat)
  case atStart => exact ⟨0, Nat.zero_le _, rfl, up_alloc _ _, H0.out, rfl⟩
  case round =>
    obtain ⟨k, hk, rfl, hbw, hB, hF⟩ := hrel
    have HBL := Lib.hid hB
    have HW := Lib.hid hbw
    have HF := Lib.hid hF
    clear hF
    by_cases hlt : k < n
    · have hex : ∃ g, L[k]? = some g := ⟨_, List.getElem?_eq_getElem (by rw [HL.out]; exact hlt)⟩
      obtain ⟨g, hg⟩ := hex
      obtain ⟨b, o, rfl, _, i0, i1, i2, i3, i4⟩ := (HR.out.below hbw).guard k g hg hlt
      have HG := Lib.hid hg
      have HN := Lib.hid (tRow_next HL.out hg)
      obtain ⟨gk, go, gv, gr, gn⟩ := g
      simp only at i0 i1 i2 i3 i4
      have HX := Blk.new wr [.int .i64 gk, .int .i64 go, .int .i64 gv, .int .i64 gr, .int .i64 gn] 23
      have hu := up_alloc wr (.cells #[.int .i64 gk, .int .i64 go, .int .i64 gv, .int .i64 gr, .int .i64 gn] 23)
      generalize hws : wr.alloc (.cells [.int .i64 gk, .int .i64 go, .int .i64 gv, .int .i64 gr, .int .i64 gn].toArray 23) = ws at HX
      have HU : Hid (Below wr.heap.size wr ws) := Lib.hid (by rw [← hws]; exact hu)
      have HWS := Lib.hid hws
      have CT := Lib.hid (c_gtext gk go gv gr gn ws (HT.out.up (up_trans hbw HU.out)))
      obtain ⟨x, hx⟩ : ∃ x, chkE gk go gv gr gn = x := ⟨_, rfl⟩
      rw [hx] at CT
      have HXX := Lib.hid (show chkG ⟨gk, go, gv, gr, gn⟩ = x from hx)
      have j0 := HX.cell 0 _ rfl
      have j1 := HX.cell 1 _ rfl
      have j2 := HX.cell 2 _ rfl
      have j3 := HX.cell 3 _ rfl
      have j4 := HX.cell 4 _ rfl
      clear hg hbw hu hws HX hB
      by_cases hx0 : x = 0
      · have HTX : Hid (txtE gk go gv gr gn = txtG ⟨gk, go, gv, gr, gn⟩) := Lib.hid (txtE_ok (hx.trans hx0))
        rw [HTX.out] at CT
        have HS : Hid (badE (L.take (k + 1)) = 0) := Lib.hid (by
          rw [List.take_add_one, HG.out]
          show badE (L.take k ++ [⟨gk, go, gv, gr, gn⟩]) = 0
          rw [badE_app, if_pos HF.out, HXX.out, hx0])
        generalize txtG ⟨gk, go, gv, gr, gn⟩ = sx at CT HN
        subst hx0
        clear HTX hx
        go_wp2_with fail
        rw [HWS.out]
        go_wp2_with fail
        refine CT.out.mono ?_; rintro e w3 ⟨rfl, hb3⟩
        have HU3 := Lib.hid (up_trans HU.out hb3)
        have HB3 := HBL.out.up HU3.out HBL.out.lt
        have f0 := HB3.free k
        have hc0 : ∃ u, w3.cell? ⟨w.heap.size, k, none⟩ = some u := by
          have hlen : k < (tRow L n k).length := by have := HL.out; unfold tRow; simp; omega
          exact ⟨_, HB3.cell k _ (List.getElem?_eq_getElem hlen)⟩
        obtain ⟨u, hu⟩ := hc0
        have HB3 := Lib.hid HB3
        clear hb3
        go_wp2
        go_roundw
        case rel =>
          refine ⟨k + 1, by omega, by go_num, ?_, ?_, HS.out⟩
          · exact (Only.setCell (s := fun _ => False) (Only.of_below (up_trans HW.out HU3.out)) (.inr (Nat.le_refl _)) _).toBelow (Nat.le_refl _) (fun _ h => h.elim)
          · rw [← HN.out]; exact HB3.out.set k _
        case measure => simp [intOf]; omega
      · have tx : (x != 0) = true := by simpa [bne] using hx0
        have HE := Lib.hid (show badE L = x from (badE_stop HG.out HF.out (by rw [HXX.out]; exact hx0)).trans HXX.out)
        have HE2 := Lib.hid (texts_bad (L := L) (by rw [HE.out]; exact hx0))
        clear hx0 hx HN
        go_wp2_with fail
        rw [HWS.out]
        go_wp2_with fail
        refine CT.out.mono ?_; rintro e w3 ⟨rfl, hb3⟩
        have HU3 := Lib.hid (up_trans HW.out (up_trans HU.out hb3))
        clear hb3
        go_wp2
        go_ret2
        exact ⟨ret_str2 (by rw [HE2.out]) HE.out.symm, HU3.out⟩
    · obtain rfl : k = n := by omega
      have HZ := Lib.hid (show badE L = 0 by
        have := HF.out
        rwa [List.take_of_length_le (by rw [HL.out]; exact Nat.le_refl _)] at this)
      have CJ := Lib.hid (c_gjoin HL.out hn HZ.out hB)
      clear hB hbw
      go_wp2_with fail
      refine CJ.out.mono ?_; rintro e w3 ⟨rfl, hb3⟩
      go_wp2
      go_ret2
      exact ⟨ret_str2 rfl HZ.out.symm, up_trans HW.out hb3⟩

theorem earS_no {m : Int} {b : Bool} {g : GD} (h : ¬ g.k = 4) : earS (m, b) g = (m, b) := if_neg fun k => h k.1
theorem earS_new {m : Int} {g : GD} (h : g.k = 4) : earS (m, false) g = (g.v, true) := if_pos ⟨h, .inl rfl⟩
theorem earS_less {m : Int} {g : GD} (h : g.k = 4) (h2 : g.v < m) : earS (m, true) g = (g.v, true) := if_pos ⟨h, .inr h2⟩
theorem earS_more {m : Int} {g : GD} (h2 : ¬ g.v < m) : earS (m, true) g = (m, true) := if_neg fun k => k.2.elim (fun e => by cases e) h2
set_option maxRecDepth 100000 in
set_option maxHeartbeats 4000000 in
theorem c_gearliest {w : World} {pl : Nat → Prop} {A : Option Addr} {n c : Nat} {L : List GD} (hR : RD w pl 5 A n (L.flatMap gdC)) (hl : L.length = n) (hn : n ≤ 1000) :
    Calls Tryd.prog 15 #[.slice A n c] w fun e w' => e = .returned (.tuple #[.int .i64 (earL L).1, .bool (earL L).2]) ∧ Below w.heap.size w w' := by
  have HR := Lib.hid hR
  have HL := Lib.hid hl
  clear hR hl
  go_enter Tryd.func15, Tryd.ntmps15
  go_wp2
  go_loopw [4, 5, 10] (fun a b i wr => ∃ (k : Nat) (m : Int) (q : Bool), k ≤ n ∧ i = .int .i64 k ∧ a = .int .i64 m ∧ b = .bool q ∧ earL (L.take k) = (m, q) ∧ Below w.heap.size w wr) (fun _ _ i _ => n - (intOf i).toNat)
  case atStart => exact ⟨0, 0, false, Nat.zero_le _, rfl, rfl, rfl, rfl, Below.refl _ _⟩
  case round =>
    obtain ⟨k, m, q, hk, rfl, rfl, rfl, hE, hbw⟩ := hrel
    have HE := Lib.hid hE
    have HW := Lib.hid hbw
    clear hE
    by_cases hlt : k < n
    · have hex : ∃ g, L[k]? = some g := ⟨_, List.getElem?_eq_getElem (by rw [HL.out]; exact hlt)⟩
      obtain ⟨g, hg⟩ := hex
      obtain ⟨b, o, rfl, _, i0, i1, i2, i3, i4⟩ := (HR.out.below hbw).guard k g hg hlt
      have HN := Lib.hid (show earL (L.take (k + 1)) = earS (m, q) g by rw [earL_next hg, HE.out])
      obtain ⟨gk, go, gv, gr, gn⟩ := g
      simp only at i0 i1 i2 i3 i4
      have HU := Lib.hid (up_trans hbw (up_alloc wr (.cells #[.int .i64 gk, .int .i64 go, .int .i64 gv, .int .i64 gr, .int .i64 gn] 23)))
      clear hg hbw
      by_cases h4 : gk = 4
      · subst h4
        cases q
        · have HM := Lib.hid (HN.out.trans (earS_new rfl))
          go_wp2
          go_roundw
          case rel => exact ⟨k + 1, gv, true, by omega, by go_num, rfl, rfl, HM.out, HU.out⟩
          case measure => simp [intOf]; omega
        · by_cases hv : gv < m
          · have HM := Lib.hid (HN.out.trans (earS_less rfl hv))
            have tv : decide (gv < m) = true := decide_eq_true hv
            go_wp2
            go_roundw
            case rel => exact ⟨k + 1, gv, true, by omega, by go_num, rfl, rfl, HM.out, HU.out⟩
            case measure => simp [intOf]; omega
          · have HM := Lib.hid (HN.out.trans (earS_more hv))
            have tv : decide (gv < m) = false := decide_eq_false hv
            go_wp2
            go_roundw
            case rel => exact ⟨k + 1, m, true, by omega, by go_num, rfl, rfl, HM.out, HU.out⟩
            case measure => simp [intOf]; omega
      · have t4 : (gk == 4) = false := by simpa using h4
        have HM := Lib.hid (HN.out.trans (earS_no h4))
        clear h4
        go_wp2
        go_roundw
        case rel => exact ⟨k + 1, m, q, by omega, by go_num, rfl, rfl, HM.out, HU.out⟩
        case measure => simp [intOf]; omega
    · have HM := Lib.hid (show earL L = (m, q) by
        have := HE.out
        rwa [List.take_of_length_le (by rw [HL.out]; omega)] at this)
      clear hbw
      go_wp2
      go_ret2
      exact ⟨ret_ib (congrArg Prod.fst HM.out).symm (congrArg Prod.snd HM.out).symm, HW.out⟩
end Go.Proofs.YtniijkdlphkpkaaDoor

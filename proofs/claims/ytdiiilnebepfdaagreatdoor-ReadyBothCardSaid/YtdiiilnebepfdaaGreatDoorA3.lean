/- slices.Index and slices.Contains of ints. slices.Clone of ints: in new memory, a row of the call's own. Package claims: process, Fine. Package claims: Join. Package claims: Ahead. Package claims: Head. The contracts of package poison's functions of plain numbers: each gives the plain function's value and leaves memory as it was. The contract of package word's Fine. The contracts of clock's Fine, and of the document's: each gives the plain function's value and leaves memory as it was. The contracts of clock's Due, and of the document's. slices.Delete of one int, of a row of the call's own. Package claims: Leave. -/
import Derived.Test.YtdiiilnebepfdaaGreatDoorA1
import Derived.Test.YtdiiilnebepfdaaGreatDoorA2
import Derived.LoopTactic
import Derived.WalkKit
import Derived.WalkSpells
import Derived.WalkLawsBesides
import Derived.Lib.SliceRun
import Derived.BigQuiet
import Derived.Deep.QuietTactic
import Derived.Test.YtdiiilnebepfdaaGreatDoorRows
import Derived.Lib.Hide
import Derived.IntWalk
import Derived.Laws.IdiomCopy
import Derived.Deep.RegionLaw
namespace Go.Proofs.YtdiiilnebepfdaaGreatDoor
open Go.RowKit

set_option maxHeartbeats 1000000 in
theorem c_index {w : World} {pl : Nat → Prop} {A : Option Addr} {n c : Nat} {L : List Int} (hR : RD w pl 1 A n (L.map (Value.int .i64))) (hl : L.length = n) (hn : n ≤ 100000) (p : Int) :
    Calls Tryz.prog 101 #[.slice A n c, .int .i64 p] w fun e w' => e = .returned (.int .i64 (ixL L p)) ∧ w = w' := by
  have HR := Lib.hid hR
  have HL := Lib.hid hl
  clear hR hl
  go_enter Tryz.func101, Tryz.ntmps101
  go_wp2
  go_loop [8] (fun i => ∃ k : Nat, k ≤ n ∧ i = .int .i64 k ∧ ∀ j (hj : j < L.length), j < k → L[j] ≠ p) (fun i => n - (intOf i).toNat)
  case atStart => exact ⟨0, Nat.zero_le _, rfl, fun j _ h => absurd h (by omega)⟩
  case round =>
    obtain ⟨k, hk, rfl, hF⟩ := hrel
    have HF := Lib.hid hF
    clear hF
    by_cases hlt : k < n
    · have hkL : k < L.length := by rw [HL.out]; exact hlt
      obtain ⟨b, o, rfl, _, _, hc⟩ := HR.out.at_ (by omega)
      have h1 := hc k (.int .i64 L[k]) (by simp [hkL])
      clear hc
      obtain ⟨z, hz⟩ : ∃ z, z = L[k] := ⟨_, rfl⟩
      rw [← hz] at h1
      have HZ := Lib.hid hz
      clear hz
      cases he : (p == z)
      · have HE := Lib.hid he
        go_wp2
        go_round
        case rel => exact ⟨k + 1, by omega, by go_num, fun j hj hjk e => by
          rcases Nat.lt_succ_iff_lt_or_eq.1 hjk with h | rfl
          · exact HF.out j hj h e
          · rw [← HZ.out] at e
            rw [e] at HE
            have := HE.out
            simp at this⟩
        case measure => simp [intOf]; omega
      · have HQ := Lib.hid (show ixL L p = k by
          have e : p = z := by simpa using he
          have e1 : ixN L p = k := ixN_of k hkL (by rw [← HZ.out, e]) fun i hi => HF.out i (by omega) hi
          unfold ixL
          rw [e1, if_pos hkL])
        go_wp2
        go_ret
        exact ⟨ret_int HQ.out.symm, rfl⟩
    · have HQ := Lib.hid (show ixL L p = -1 from ixL_no fun hm => by
        obtain ⟨j, hj, e⟩ := List.getElem_of_mem hm
        exact HF.out j hj (by have := HL.out; omega) e)
      obtain rfl : k = n := by omega
      go_wp2
      go_ret
      exact ⟨ret_int HQ.out.symm, rfl⟩

set_option maxHeartbeats 400000 in
theorem c_contains {w : World} {pl : Nat → Prop} {A : Option Addr} {n c : Nat} {L : List Int} (hR : RD w pl 1 A n (L.map (Value.int .i64))) (hl : L.length = n) (hn : n ≤ 100000) (p : Int) :
    Calls Tryz.prog 60 #[.slice A n c, .int .i64 p] w fun e w' => e = .returned (.bool (decide (p ∈ L))) ∧ w = w' := by
  have C := Lib.hid (c_index (c := c) hR hl hn p)
  have HG := Lib.hid (ixL_geq (L := L) (p := p))
  clear hR hl
  go_enter Tryz.func60, Tryz.ntmps60
  go_wp2_with (go_at_call 101; refine C.out.mono ?_; rintro e w' ⟨rfl, rfl⟩)
  go_ret
  exact ⟨ret_bool HG.out, rfl⟩
end Go.Proofs.YtdiiilnebepfdaaGreatDoor

namespace Go.Proofs.YtdiiilnebepfdaaGreatDoor
open Go.RowKit

end Go.Proofs.YtdiiilnebepfdaaGreatDoor

namespace Go.Proofs.YtdiiilnebepfdaaGreatDoor
open Go.RowKit

/-- A line's list: it reads as L. -/
structure LnW (w : World) (pl : Nat → Prop) (A : Option Addr) (n c : Nat) (L : List Int) : Prop where
  rd : RD w pl 1 A n (L.map (Value.int .i64))
  len : L.length = n
  nc : n ≤ c
  cm : c ≤ maxLen
theorem LnW.below {w w' : World} {pl : Nat → Prop} {A : Option Addr} {n c : Nat} {L : List Int} (h : LnW w pl A n c L) (hb : Below w.heap.size w w') : LnW w' pl A n c L := ⟨h.rd.below hb, h.len, h.nc, h.cm⟩
theorem LnW.only {s : Nat → Prop} {w w' : World} {pl : Nat → Prop} {A : Option Addr} {n c : Nat} {L : List Int} (h : LnW w pl A n c L) (o : Only s w w') (hs : ∀ k, s k → ¬ pl k) : LnW w' pl A n c L := ⟨h.rd.only o hs, h.len, h.nc, h.cm⟩
theorem LnW.lo {w : World} {pl pl' : Nat → Prop} {A : Option Addr} {n c : Nat} {L : List Int} (h : LnW w pl A n c L) (hl : ∀ b, pl b → pl' b) : LnW w pl' A n c L := ⟨h.rd.lo hl, h.len, h.nc, h.cm⟩
theorem LnW.none (w : World) (pl : Nat → Prop) : LnW w pl none 0 0 [] := ⟨RD.nil _ _ _ _, rfl, Nat.le_refl _, by unfold maxLen; omega⟩
/-- The first k of a line. -/
theorem rd_pre {w : World} {pl : Nat → Prop} {A : Option Addr} {n : Nat} {L : List Int} (h : RD w pl 1 A n (L.map (Value.int .i64))) (k : Nat) (hk : k ≤ n) : RD w pl 1 A k ((L.take k).map (Value.int .i64)) := by
  have := h.take k hk
  rwa [Nat.mul_one, ← List.map_take] at this

set_option maxHeartbeats 400000 in
theorem c_lnp (x : Int) (w : World) :
    Calls Tryz.prog 135 #[.int .i64 x] w fun e w' => e = .returned (.bool (lnP x)) ∧ w = w' := by
  cases hf : lnP x
  · have H := Lib.hid (lnP_no x hf)
    clear hf
    go_enter Tryz.func135, Tryz.ntmps135
    go_wp2
    all_goals
      go_ret
      refine ⟨ret_bool ?_, rfl⟩
      have := H.out
      first
        | rfl
        | (rw [decide_eq_false_iff_not]; omega)
  · obtain ⟨h0, h1⟩ := (lnP_iff x).1 hf
    clear hf
    go_enter Tryz.func135, Tryz.ntmps135
    go_wp2
    go_ret
    exact ⟨ret_bool (by first | rfl | (rw [decide_eq_true_iff]; omega)), rfl⟩

theorem box_ln (w : World) (sh : Bool) (A : Option Addr) (n c : Nat) : Blk (w.alloc (.cells #[.bool sh, .slice A n c] 129)) w.heap.size [.bool sh, .slice A n c] 129 := Blk.new w _ _

set_option maxHeartbeats 2000000 in
theorem c_lnfine {w : World} {pl : Nat → Prop} {A : Option Addr} {n c : Nat} {L : List Int} (h : LnW w pl A n c L) (hn : n ≤ 100000) (sh : Bool) :
    Calls Tryz.prog 120 #[.agg #[.bool sh, .slice A n c]] w fun e w' => e = .returned (.bool (lnFine sh L)) ∧ Below w.heap.size w w' := by
  have hb0 := up_alloc w (.cells #[.bool sh, .slice A n c] 129)
  have hB := box_ln w sh A n c
  generalize hw1 : w.alloc (.cells #[.bool sh, .slice A n c] 129) = w1 at hB hb0
  have HW := Lib.hid hw1
  have HR := Lib.hid (h.rd.below hb0)
  have HL := Lib.hid h.len
  have HU := Lib.hid hb0
  have hnc := h.nc
  have c0 := hB.cell 0 _ rfl
  have c1 := hB.cell 1 _ rfl
  clear h hw1 hb0
  by_cases hbad : sh = false ∧ 1 < n
  · obtain ⟨rfl, h1⟩ := hbad
    have h1' : (1 : Int) < n := by omega
    have HF : Hid (lnFine false L = false) := Lib.hid (by
      have := HL.out
      unfold lnFine
      rw [show decide (L.length < 2) = false by rw [decide_eq_false_iff_not]; omega]
      rfl)
    go_enter Tryz.func120, Tryz.ntmps120
    go_wp2_with fail
    go_ret
    exact ⟨ret_bool HF.out.symm, up_alloc _ _⟩
  · have HS : Hid ((sh || decide (L.length < 2)) = true) := Lib.hid (by
      have := HL.out
      cases sh
      · have : L.length < 2 := by
          rcases Nat.lt_or_ge 1 n with h | h
          · exact absurd ⟨rfl, h⟩ hbad
          · omega
        simpa using this
      · rfl)
    have hdec : sh = true ∨ (sh = false ∧ ¬ (1 : Int) < n) := by
      cases sh
      · exact .inr ⟨rfl, fun h => hbad ⟨rfl, by omega⟩⟩
      · exact .inl rfl
    clear hbad
    rcases hdec with rfl | ⟨rfl, hd⟩
    all_goals
      go_enter Tryz.func120, Tryz.ntmps120
      go_wp2_with fail
      rw [HW.out]
      go_loop [17] (fun i => ∃ k : Nat, k ≤ n ∧ i = .int .i64 k ∧ lnGood (L.take k) = true) (fun i => n - (intOf i).toNat)
      case atStart => exact ⟨0, Nat.zero_le _, rfl, rfl⟩
      case round =>
        obtain ⟨k, hk, rfl, hF⟩ := hrel
        have HF := Lib.hid hF
        by_cases hlt : k < n
        · have hkL : k < L.length := by rw [HL.out]; exact hlt
          obtain ⟨b, o, rfl, _, _, hc⟩ := HR.out.at_ (by omega)
          have h1 := hc k (.int .i64 L[k]) (by simp [hkL])
          have HN := Lib.hid (lnGood_step L k hkL)
          have HA := Lib.hid (rd_pre HR.out k (by omega))
          have HT : Hid (lnGood (L.take (k + 1)) = false → lnGood L = false) := Lib.hid (lnGood_take (k + 1))
          generalize L[k] = z at h1 HN
          have CP := Lib.hid (fun W => c_lnp z W)
          have CC := Lib.hid (c_contains (c := c) HA.out (by rw [List.length_take]; omega) (by omega) z)
          have hkc : k ≤ c := by omega
          clear hc hF
          obtain ⟨q1, hq1⟩ : ∃ q, q = lnP z := ⟨_, rfl⟩
          obtain ⟨q2, hq2⟩ : ∃ q, q = decide (z ∈ L.take k) := ⟨_, rfl⟩
          rw [← hq1] at CP HN
          rw [← hq2] at CC HN
          have H1 := Lib.hid hq1
          clear hq1 hq2
          cases q1
          · go_wp2_with (first | (go_at_call 135; refine (CP.out _).mono ?_; rintro e w' ⟨rfl, rfl⟩) | (go_at_call 60; refine CC.out.mono ?_; rintro e w' ⟨rfl, rfl⟩))
            go_ret
            exact ⟨ret_bool (by unfold lnFine; rw [HT.out (by rw [HN.out, HF.out]; rfl), Bool.and_false]), HU.out⟩
          · cases q2
            · go_wp2_with (first | (go_at_call 135; refine (CP.out _).mono ?_; rintro e w' ⟨rfl, rfl⟩) | (go_at_call 60; refine CC.out.mono ?_; rintro e w' ⟨rfl, rfl⟩))
              go_round
              case rel => exact ⟨k + 1, by omega, by go_num, by rw [HN.out, HF.out]; rfl⟩
              case measure => simp [intOf]; omega
            · go_wp2_with (first | (go_at_call 135; refine (CP.out _).mono ?_; rintro e w' ⟨rfl, rfl⟩) | (go_at_call 60; refine CC.out.mono ?_; rintro e w' ⟨rfl, rfl⟩))
              go_ret
              exact ⟨ret_bool (by unfold lnFine; rw [HT.out (by rw [HN.out, HF.out]; rfl), Bool.and_false]), HU.out⟩
        · have HG : Hid (lnFine _ L = true) := Lib.hid (show lnFine _ L = true by
            unfold lnFine
            rw [HS.out, ← List.take_length (l := L), HL.out, show n = k by omega, hF]
            rfl)
          obtain rfl : k = n := by omega
          clear hF
          go_wp2
          go_ret
          exact ⟨ret_bool HG.out.symm, HU.out⟩
end Go.Proofs.YtdiiilnebepfdaaGreatDoor

namespace Go.Proofs.YtdiiilnebepfdaaGreatDoor
open Go.RowKit

/-- What a call gives that answers a line and something more: the line reads as L, in blocks of pl. -/
def LnPost (w : World) (pl : Nat → Prop) (sh : Bool) (L : List Int) (k : Value) (e : Ending) (w' : World) : Prop :=
  ∃ A n c, e = .returned (.tuple #[.agg #[.bool sh, .slice A n c], k]) ∧ LnW w' pl A n c L ∧ Below w.heap.size w w'
/-- The world of a function that boxes its line, and has a cell for the line that it gives. -/
structure LnBox (w w2 : World) (sh : Bool) (u : Value) (t : TypeId) : Prop where
  up : Below w.heap.size w w2
  size : w2.heap.size = w.heap.size + 2
  box : Blk w2 w.heap.size [.bool sh, u] t
  res : Blk w2 (w.heap.size + 1) [.bool false, .slice none 0 0] t
theorem lnbox (w : World) (sh : Bool) (u : Value) (t : TypeId) : LnBox w ((w.alloc (.cells #[.bool sh, u] t)).alloc (.cells #[.bool false, .slice none 0 0] t)) sh u t := by
  refine ⟨up_trans (up_alloc _ _) (up_alloc _ _), by simp, (Blk.new w [.bool sh, u] _).alloc _, ?_⟩
  have := Blk.new (w.alloc (.cells #[.bool sh, u] t)) [.bool false, .slice none 0 0] t
  simpa using this

theorem below_put {B b : Nat} {w w' : World} (h : Below B w w') (hb : B ≤ b) (j : Nat) (u : Value) (hB : B ≤ w.heap.size) : Below B w (w'.setCell ⟨b, j, none⟩ u) :=
  h.trans ((Only.setCell (s := fun k => B ≤ k) (Only.refl _ w') (.inl hb) u).toBelow (by have := h.size; omega) (fun _ h => h))
/-- What the line's box and the answer's cell hold, in a world behind the boxes. -/
structure LnAt (w w2 : World) (sh : Bool) (u : Value) (t : TypeId) : Prop where
  up : Below w.heap.size w w2
  box : Blk w2 w.heap.size [.bool sh, u] t
  res : Blk w2 (w.heap.size + 1) [.bool false, .slice none 0 0] t
theorem LnBox.at_ {w w2 w3 : World} {sh : Bool} {u : Value} {t : TypeId} (h : LnBox w w2 sh u t) (hb : Below w2.heap.size w2 w3) : LnAt w w3 sh u t :=
  ⟨up_trans h.up hb, h.box.up hb h.box.lt, h.res.up hb h.res.lt⟩
theorem LnAt.next {w w2 w3 : World} {sh : Bool} {u : Value} {t : TypeId} (h : LnAt w w2 sh u t) (hb : Below w2.heap.size w2 w3) : LnAt w w3 sh u t :=
  ⟨up_trans h.up hb, h.box.up hb h.box.lt, h.res.up hb h.res.lt⟩
theorem LnAt.out {w w2 : World} {sh : Bool} {u : Value} {t : TypeId} (h : LnAt w w2 sh u t) (x y : Value) : Below w.heap.size w ((w2.setCell ⟨w.heap.size + 1, 0, none⟩ x).setCell ⟨w.heap.size + 1, 1, none⟩ y) :=
  below_put (below_put h.up (by omega) 0 x (Nat.le_refl _)) (by omega) 1 y (Nat.le_refl _)
theorem LnAt.out2 {w w2 : World} {sh : Bool} {u : Value} {t : TypeId} (h : LnAt w w2 sh u t) (x y z : Value) : Below w.heap.size w (((w2.setCell ⟨w.heap.size, 1, none⟩ z).setCell ⟨w.heap.size + 1, 0, none⟩ x).setCell ⟨w.heap.size + 1, 1, none⟩ y) :=
  below_put (below_put (below_put h.up (by omega) 1 z (Nat.le_refl _)) (by omega) 0 x (Nat.le_refl _)) (by omega) 1 y (Nat.le_refl _)
theorem LnAt.after {w w2 : World} {sh : Bool} {u : Value} {t : TypeId} (_ : LnAt w w2 sh u t) (x y z : Value) : Only (fun k => k = w.heap.size ∨ k = w.heap.size + 1) w2 (((w2.setCell ⟨w.heap.size, 1, none⟩ z).setCell ⟨w.heap.size + 1, 0, none⟩ x).setCell ⟨w.heap.size + 1, 1, none⟩ y) :=
  (((Only.refl _ w2).setCell (.inl (.inl rfl)) z).setCell (.inl (.inr rfl)) x).setCell (.inl (.inr rfl)) y

end Go.Proofs.YtdiiilnebepfdaaGreatDoor

namespace Go.Proofs.YtdiiilnebepfdaaGreatDoor
open Go.RowKit

theorem ret_ib' {k : IntKind} {a b : Int} {c d : Bool} (h : b = a) (h' : d = c) : Ending.returned (.tuple #[.int k a, .bool c]) = .returned (.tuple #[.int k b, .bool d]) := by rw [h, h']

end Go.Proofs.YtdiiilnebepfdaaGreatDoor

namespace Go.Proofs.YtdiiilnebepfdaaGreatDoor
open Go.RowKit

set_option maxHeartbeats 1000000 in
theorem c_lnhead {w : World} {pl : Nat → Prop} {A : Option Addr} {n c : Nat} {L : List Int} (h : LnW w pl A n c L) (hn : n ≤ 1000) (sh : Bool) :
    Calls Tryz.prog 94 #[.agg #[.bool sh, .slice A n c]] w fun e w' => e = .returned (.tuple #[.int .i64 (lnHead sh L), .bool (lnSome sh L)]) ∧ Below w.heap.size w w' := by
  have hb0 := up_alloc w (.cells #[.bool sh, .slice A n c] 129)
  have hB := box_ln w sh A n c
  have CF := Lib.hid (c_lnfine (h.below hb0) (by omega) sh)
  have HR := Lib.hid h
  have HB := Lib.hid hB
  have HL := Lib.hid h.len
  have HS := Lib.hid (show lnSome sh L = (lnFine sh L && decide (0 < L.length)) from rfl)
  have HH := Lib.hid (show lnHead sh L = if lnSome sh L = true then L.headD 0 else 0 from rfl)
  generalize lnSome sh L = s at HS HH ⊢
  generalize lnHead sh L = v at HH ⊢
  generalize lnFine sh L = q at CF HS
  clear h hb0 hB
  cases q
  · have E := Lib.hid (show s = false by rw [HS.out]; rfl)
    have E2 := Lib.hid (show v = 0 by rw [HH.out, E.out]; rfl)
    go_enter Tryz.func94, Tryz.ntmps94
    go_wp2_with fail
    refine CF.out.mono ?_; rintro e w2 ⟨rfl, hb2⟩
    have HU := Lib.hid (up_trans (up_alloc _ _) hb2)
    clear hb2
    go_wp2_with fail
    go_ret2
    exact ⟨ret_ib' E2.out E.out, HU.out⟩
  · rcases Nat.eq_zero_or_pos n with rfl | h0
    · have E := Lib.hid (show s = false by rw [HS.out]; have := HL.out; simp [this])
      have E2 := Lib.hid (show v = 0 by rw [HH.out, E.out]; rfl)
      go_enter Tryz.func94, Tryz.ntmps94
      go_wp2_with fail
      refine CF.out.mono ?_; rintro e w2 ⟨rfl, hb2⟩
      have HU := Lib.hid (up_trans (up_alloc _ _) hb2)
      have hB2 := HB.out.up hb2 HB.out.lt
      have b1 := hB2.cell 1 _ rfl
      clear hb2 hB2
      go_wp2_with fail
      go_ret2
      exact ⟨ret_ib' E2.out E.out, HU.out⟩
    · have E := Lib.hid (show s = true by rw [HS.out]; have := HL.out; simp [this]; omega)
      have E2 := Lib.hid (show v = L.headD 0 by rw [HH.out, E.out]; rfl)
      have hz : ((n : Int) == 0) = false := beq_eq_false_iff_ne.2 (by omega)
      have h0' : (0 : Int) < n := by omega
      obtain ⟨b, o, rfl, _, hblt, hc⟩ := HR.out.rd.at_ h0
      have H1 : Hid (w.cell? ⟨b, o, none⟩ = some (.int .i64 (L.headD 0))) := Lib.hid (by
        have hL := HL.out
        rcases L with _ | ⟨x, L⟩
        · simp at hL; omega
        · simpa using hc 0 (.int .i64 x) rfl)
      clear hc
      go_enter Tryz.func94, Tryz.ntmps94
      go_wp2_with fail
      refine CF.out.mono ?_; rintro e w2 ⟨rfl, hb2⟩
      have HU := Lib.hid (up_trans (up_alloc _ _) hb2)
      have hB2 := HB.out.up hb2 HB.out.lt
      have b1 := hB2.cell 1 _ rfl
      have h1 := (HU.out.cell (p := ⟨b, o, none⟩) hblt).trans H1.out
      clear hb2 hB2
      generalize L.headD 0 = x at h1 E2
      go_wp2_with fail
      go_ret2
      exact ⟨ret_ib' E2.out E.out, HU.out⟩
end Go.Proofs.YtdiiilnebepfdaaGreatDoor

namespace Go.Proofs.YtdiiilnebepfdaaGreatDoor
open Go.RowKit

set_option maxHeartbeats 400000 in
theorem c_pzfine (x : Int) (w : World) :
    Calls Tryz.prog 119 #[.int .i64 x] w fun e w' => e = .returned (.bool (pzFine x)) ∧ w = w' := by
  cases hf : pzFine x
  · have H := Lib.hid (pzFine_no x hf)
    clear hf
    go_enter Tryz.func119, Tryz.ntmps119
    go_wp2
    all_goals
      go_ret
      refine ⟨ret_bool ?_, rfl⟩
      have := H.out
      first
        | rfl
        | (rw [decide_eq_false_iff_not]; omega)
  · obtain ⟨h0, h1⟩ := (pzFine_iff x).1 hf
    clear hf
    go_enter Tryz.func119, Tryz.ntmps119
    go_wp2
    go_ret
    exact ⟨ret_bool (by first | rfl | (rw [decide_eq_true_iff]; omega)), rfl⟩

set_option maxHeartbeats 400000 in
theorem c_pzhit (l b : Int) (w : World) :
    Calls Tryz.prog 93 #[.int .i64 l, .int .i64 b] w fun e w' => e = .returned (.bool (pzHit l b)) ∧ w = w' := by
  cases hf : pzFine l <;> cases ht : pzFine b
  all_goals
    have H := Lib.hid (show pzHit l b = (pzFine l && (pzFine b && decide (b < l))) from rfl)
    rw [hf, ht] at H
    go_enter Tryz.func93, Tryz.ntmps93
    go_wp2_with (go_at_call 119; refine (c_pzfine _ _).mono ?_; rintro e w' ⟨rfl, rfl⟩)
    go_ret
    exact ⟨ret_bool (by rw [H.out]; simp), rfl⟩
end Go.Proofs.YtdiiilnebepfdaaGreatDoor

namespace Go.Proofs.YtdiiilnebepfdaaGreatDoor
open Go.RowKit

set_option maxHeartbeats 400000 in
theorem c_wfine (a : Int) (w : World) :
    Calls Tryz.prog 148 #[.int .i64 a] w fun e w' => e = .returned (.bool (fineW a)) ∧ w = w' := by
  cases hf : fineW a
  · have H := Lib.hid (fineW_not a hf)
    clear hf
    go_enter Tryz.func148, Tryz.ntmps148
    go_wp2
    all_goals
      go_ret
      refine ⟨ret_bool ?_, rfl⟩
      have := H.out
      first
        | rfl
        | (rw [decide_eq_false_iff_not]; omega)
  · have hb := (fineW_iff a).1 hf
    obtain ⟨h0, h1⟩ := hb
    clear hf
    go_enter Tryz.func148, Tryz.ntmps148
    go_wp2
    go_ret
    exact ⟨ret_bool (by first | rfl | (rw [decide_eq_true_iff]; omega)), rfl⟩
end Go.Proofs.YtdiiilnebepfdaaGreatDoor

namespace Go.Proofs.YtdiiilnebepfdaaGreatDoor
open Go.RowKit

set_option maxHeartbeats 400000 in
theorem c_within (x : Int) (w : World) :
    Calls Tryz.prog 147 #[.int .i64 x, .int .i64 0, .int .i64 1099511627776] w fun e w' => e = .returned (.int .i64 (clampC x)) ∧ w = w' := by
  go_enter Tryz.func147, Tryz.ntmps147
  go_wp2
  all_goals
    go_ret
    exact ⟨ret_int (by unfold clampC; repeat (split at *); all_goals omega), rfl⟩

set_option maxHeartbeats 400000 in
theorem c_instant (x : Int) (w : World) :
    Calls Tryz.prog 134 #[.int .i64 x] w fun e w' => e = .returned (.int .i64 (clampC x)) ∧ w = w' := by
  go_enter Tryz.func134, Tryz.ntmps134
  go_wp2_with (go_at_call 147; refine (c_within _ _).mono ?_; rintro e w' ⟨rfl, rfl⟩)
  go_ret
  exact ⟨rfl, rfl⟩

set_option maxHeartbeats 400000 in
theorem c_fine (x : Int) (w : World) :
    Calls Tryz.prog 114 #[.int .i64 x] w fun e w' => e = .returned (.bool (fineC x)) ∧ w = w' := by
  have H := Lib.hid (clampC_eq x)
  go_enter Tryz.func114, Tryz.ntmps114
  go_wp2_with (go_at_call 134; refine (c_instant _ _).mono ?_; rintro e w' ⟨rfl, rfl⟩)
  go_ret
  exact ⟨ret_bool H.out, rfl⟩

set_option maxHeartbeats 400000 in
theorem c_rfine (x : Int) (w : World) :
    Calls Tryz.prog 74 #[.int .i64 x] w fun e w' => e = .returned (.bool (fineC x)) ∧ w = w' := by
  cases hf : fineC x
  · have H := Lib.hid (fineC_no x hf)
    clear hf
    go_enter Tryz.func74, Tryz.ntmps74
    go_wp2
    all_goals
      go_ret
      refine ⟨ret_bool ?_, rfl⟩
      have := H.out
      first
        | rfl
        | (rw [decide_eq_false_iff_not]; omega)
  · obtain ⟨h0, h1⟩ := (fineC_iff x).1 hf
    clear hf
    go_enter Tryz.func74, Tryz.ntmps74
    go_wp2
    go_ret
    exact ⟨ret_bool (by first | rfl | (rw [decide_eq_true_iff]; omega)), rfl⟩
end Go.Proofs.YtdiiilnebepfdaaGreatDoor

namespace Go.Proofs.YtdiiilnebepfdaaGreatDoor
open Go.RowKit

set_option maxHeartbeats 400000 in
theorem c_due (n t : Int) (w : World) :
    Calls Tryz.prog 88 #[.int .i64 n, .int .i64 t] w fun e w' => e = .returned (.bool (dueB n t)) ∧ w = w' := by
  cases hf : fineC n <;> cases ht : fineC t
  all_goals
    have H := Lib.hid (show dueB n t = (fineC n && (fineC t && decide (t ≤ n))) from rfl)
    rw [hf, ht] at H
    go_enter Tryz.func88, Tryz.ntmps88
    go_wp2_with (go_at_call 114; refine (c_fine _ _).mono ?_; rintro e w' ⟨rfl, rfl⟩)
    go_ret
    exact ⟨ret_bool (by rw [H.out]; simp), rfl⟩

end Go.Proofs.YtdiiilnebepfdaaGreatDoor

namespace Go.Proofs.YtdiiilnebepfdaaGreatDoor
open Go.RowKit
section
variable {P : Program}
end

end Go.Proofs.YtdiiilnebepfdaaGreatDoor

namespace Go.Proofs.YtdiiilnebepfdaaGreatDoor
open Go.RowKit

end Go.Proofs.YtdiiilnebepfdaaGreatDoor

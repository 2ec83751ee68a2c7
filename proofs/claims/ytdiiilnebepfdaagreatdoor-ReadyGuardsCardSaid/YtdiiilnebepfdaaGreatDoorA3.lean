/- slices.Index and slices.Contains of ints. slices.Clone of ints: in new memory, a row of the call's own. Package claims: process, Fine. Package claims: Join. Package claims: Ahead. Package claims: Head. The contracts of package poison's functions of plain numbers: each gives the plain function's value and leaves memory as it was. The contract of package word's Fine. The contracts of clock's Fine, and of the document's: each gives the plain function's value and leaves memory as it was. The contracts of clock's Due, and of the document's. slices.Delete of one int, of a row of the call's own. Package claims: Leave. -/
import Derived.Test.YtdiiilnebepfdaaGreatDoorA1
import Derived.Test.YtdiiilnebepfdaaGreatDoorA2
import Derived.LoopTactic
import Derived.WalkKit
import Derived.WalkSpells
import Derived.WalkLawsBesides
import Derived.Lib.SliceRun
import Derived.BigQuiet
import Derived.Deep.QuietTactic
import Derived.Test.YtdiiilnebepfdaaGreatDoorRows
import Derived.Lib.Hide
import Derived.IntWalk
import Derived.Laws.IdiomCopy
import Derived.Deep.RegionLaw
namespace Go.Proofs.YtdiiilnebepfdaaGreatDoor
open Go.RowKit

set_option maxHeartbeats 1000000 in
theorem c_index {w : World} {pl : Nat → Prop} {A : Option Addr} {n c : Nat} {L : List Int} (hR : RD w pl 1 A n (L.map (Value.int .i64))) (hl : L.length = n) (hn : n ≤ 100000) (p : Int) :
    Calls Tryz.prog 101 #[.slice A n c, .int .i64 p] w fun e w' => e = .returned (.int .i64 (ixL L p)) ∧ w = w' := by
  have HR := Lib.hid hR
  have HL := Lib.hid hl
  clear hR hl
  go_enter Tryz.func101, Tryz.ntmps101
  go_wp2
  go_loop [8] (fun i => ∃ k : Nat, k ≤ n ∧ i = .int .i64 k ∧ ∀ j (hj : j < L.length), j < k → L[j] ≠ p) (fun i => n - (intOf i).toNat)
  case atStart => exact ⟨0, Nat.zero_le _, rfl, fun j _ h => absurd h (by omega)⟩
  case round =>
    obtain ⟨k, hk, rfl, hF⟩ := hrel
    have HF := Lib.hid hF
    clear hF
    by_cases hlt : k < n
    · have hkL : k < L.length := by rw [HL.out]; exact hlt
      obtain ⟨b, o, rfl, _, _, hc⟩ := HR.out.at_ (by omega)
      have h1 := hc k (.int .i64 L[k]) (by simp [hkL])
      clear hc
      obtain ⟨z, hz⟩ : ∃ z, z = L[k] := ⟨_, rfl⟩
      rw [← hz] at h1
      have HZ := Lib.hid hz
      clear hz
      cases he : (p == z)
      · have HE := Lib.hid he
        go_wp2
        go_round
        case rel => exact ⟨k + 1, by omega, by go_num, fun j hj hjk e => by
          rcases Nat.lt_succ_iff_lt_or_eq.1 hjk with h | rfl
          · exact HF.out j hj h e
          · rw [← HZ.out] at e
            rw [e] at HE
            have := HE.out
            simp at this⟩
        case measure => simp [intOf]; omega
      · have HQ := Lib.hid (show ixL L p = k by
          have e : p = z := by simpa using he
          have e1 : ixN L p = k := ixN_of k hkL (by rw [← HZ.out, e]) fun i hi => HF.out i (by omega) hi
          unfold ixL
          rw [e1, if_pos hkL])
        go_wp2
        go_ret
        exact ⟨ret_int HQ.out.symm, rfl⟩
    · have HQ := Lib.hid (show ixL L p = -1 from ixL_no fun hm => by
        obtain ⟨j, hj, e⟩ := List.getElem_of_mem hm
        exact HF.out j hj (by have := HL.out; omega) e)
      obtain rfl : k = n := by omega
      go_wp2
      go_ret
      exact ⟨ret_int HQ.out.symm, rfl⟩

set_option maxHeartbeats 400000 in
theorem c_contains {w : World} {pl : Nat → Prop} {A : Option Addr} {n c : Nat} {L : List Int} (hR : RD w pl 1 A n (L.map (Value.int .i64))) (hl : L.length = n) (hn : n ≤ 100000) (p : Int) :
    Calls Tryz.prog 60 #[.slice A n c, .int .i64 p] w fun e w' => e = .returned (.bool (decide (p ∈ L))) ∧ w = w' := by
  have C := Lib.hid (c_index (c := c) hR hl hn p)
  have HG := Lib.hid (ixL_geq (L := L) (p := p))
  clear hR hl
  go_enter Tryz.func60, Tryz.ntmps60
  go_wp2_with (go_at_call 101; refine C.out.mono ?_; rintro e w' ⟨rfl, rfl⟩)
  go_ret
  exact ⟨ret_bool HG.out, rfl⟩
end Go.Proofs.YtdiiilnebepfdaaGreatDoor

namespace Go.Proofs.YtdiiilnebepfdaaGreatDoor
open Go.RowKit

theorem eq_nil_ints (w : World) (a : Option Addr) (n c n' c' : Nat) : (binOp .eql 26 (.slice a n c) (.slice none n' c')).run Tryz.prog w = .ok (.bool a.isNone) w := Lib.run_eql_slice_nil w _ 3 a n c n' c' (by kernel_rfl)
/-- A row of the call's own that reads as these ints. -/
def OwnPost (w : World) (n : Nat) (zs : List Int) (e : Ending) (w' : World) : Prop := ∃ v, e = .returned v ∧ w'.ownsRow w.heap.size 3 1 v n (zs.map (Value.int .i64)) ∧ Below w.heap.size w w'

end Go.Proofs.YtdiiilnebepfdaaGreatDoor

namespace Go.Proofs.YtdiiilnebepfdaaGreatDoor
open Go.RowKit

/-- A line's list: it reads as L. -/
structure LnW (w : World) (pl : Nat → Prop) (A : Option Addr) (n c : Nat) (L : List Int) : Prop where
  rd : RD w pl 1 A n (L.map (Value.int .i64))
  len : L.length = n
  nc : n ≤ c
  cm : c ≤ maxLen
theorem LnW.below {w w' : World} {pl : Nat → Prop} {A : Option Addr} {n c : Nat} {L : List Int} (h : LnW w pl A n c L) (hb : Below w.heap.size w w') : LnW w' pl A n c L := ⟨h.rd.below hb, h.len, h.nc, h.cm⟩
theorem LnW.only {s : Nat → Prop} {w w' : World} {pl : Nat → Prop} {A : Option Addr} {n c : Nat} {L : List Int} (h : LnW w pl A n c L) (o : Only s w w') (hs : ∀ k, s k → ¬ pl k) : LnW w' pl A n c L := ⟨h.rd.only o hs, h.len, h.nc, h.cm⟩
theorem LnW.lo {w : World} {pl pl' : Nat → Prop} {A : Option Addr} {n c : Nat} {L : List Int} (h : LnW w pl A n c L) (hl : ∀ b, pl b → pl' b) : LnW w pl' A n c L := ⟨h.rd.lo hl, h.len, h.nc, h.cm⟩
theorem LnW.none (w : World) (pl : Nat → Prop) : LnW w pl none 0 0 [] := ⟨RD.nil _ _ _ _, rfl, Nat.le_refl _, by unfold maxLen; omega⟩
/-- The first k of a line. -/
theorem rd_pre {w : World} {pl : Nat → Prop} {A : Option Addr} {n : Nat} {L : List Int} (h : RD w pl 1 A n (L.map (Value.int .i64))) (k : Nat) (hk : k ≤ n) : RD w pl 1 A k ((L.take k).map (Value.int .i64)) := by
  have := h.take k hk
  rwa [Nat.mul_one, ← List.map_take] at this

set_option maxHeartbeats 400000 in
theorem c_lnp (x : Int) (w : World) :
    Calls Tryz.prog 135 #[.int .i64 x] w fun e w' => e = .returned (.bool (lnP x)) ∧ w = w' := by
  cases hf : lnP x
  · have H := Lib.hid (lnP_no x hf)
    clear hf
    go_enter Tryz.func135, Tryz.ntmps135
    go_wp2
    all_goals
      go_ret
      refine ⟨ret_bool ?_, rfl⟩
      have := H.out
      first
        | rfl
        | (rw [decide_eq_false_iff_not]; omega)
  · obtain ⟨h0, h1⟩ := (lnP_iff x).1 hf
    clear hf
    go_enter Tryz.func135, Tryz.ntmps135
    go_wp2
    go_ret
    exact ⟨ret_bool (by first | rfl | (rw [decide_eq_true_iff]; omega)), rfl⟩

theorem box_ln (w : World) (sh : Bool) (A : Option Addr) (n c : Nat) : Blk (w.alloc (.cells #[.bool sh, .slice A n c] 129)) w.heap.size [.bool sh, .slice A n c] 129 := Blk.new w _ _

set_option maxHeartbeats 2000000 in
theorem c_lnfine {w : World} {pl : Nat → Prop} {A : Option Addr} {n c : Nat} {L : List Int} (h : LnW w pl A n c L) (hn : n ≤ 100000) (sh : Bool) :
    Calls Tryz.prog 120 #[.agg #[.bool sh, .slice A n c]] w fun e w' => e = .returned (.bool (lnFine sh L)) ∧ Below w.heap.size w w' := by
  have hb0 := up_alloc w (.cells #[.bool sh, .slice A n c] 129)
  have hB := box_ln w sh A n c
  generalize hw1 : w.alloc (.cells #[.bool sh, .slice A n c] 129) = w1 at hB hb0
  have HW := Lib.hid hw1
  have HR := Lib.hid (h.rd.below hb0)
  have HL := Lib.hid h.len
  have HU := Lib.hid hb0
  have hnc := h.nc
  have c0 := hB.cell 0 _ rfl
  have c1 := hB.cell 1 _ rfl
  clear h hw1 hb0
  by_cases hbad : sh = false ∧ 1 < n
  · obtain ⟨rfl, h1⟩ := hbad
    have h1' : (1 : Int) < n := by omega
    have HF : Hid (lnFine false L = false) := Lib.hid (by
      have := HL.out
      unfold lnFine
      rw [show decide (L.length < 2) = false by rw [decide_eq_false_iff_not]; omega]
      rfl)
    go_enter Tryz.func120, Tryz.ntmps120
    go_wp2_with fail
    go_ret
    exact ⟨ret_bool HF.out.symm, up_alloc _ _⟩
  · have HS : Hid ((sh || decide (L.length < 2)) = true) := Lib.hid (by
      have := HL.out
      cases sh
      · have : L.length < 2 := by
          rcases Nat.lt_or_ge 1 n with h | h
          · exact absurd ⟨rfl, h⟩ hbad
          · omega
        simpa using this
      · rfl)
    have hdec : sh = true ∨ (sh = false ∧ ¬ (1 : Int) < n) := by
      cases sh
      · exact .inr ⟨rfl, fun h => hbad ⟨rfl, by omega⟩⟩
      · exact .inl rfl
    clear hbad
    rcases hdec with rfl | ⟨rfl, hd⟩
    all_goals
      go_enter Tryz.func120, Tryz.ntmps120
      go_wp2_with fail
      rw [HW.out]
      go_loop [17] (fun i => ∃ k : Nat, k ≤ n ∧ i = .int .i64 k ∧ lnGood (L.take k) = true) (fun i => n - (intOf i).toNat)
      case atStart => exact ⟨0, Nat.zero_le _, rfl, rfl⟩
      case round =>
        obtain ⟨k, hk, rfl, hF⟩ := hrel
        have HF := Lib.hid hF
        by_cases hlt : k < n
        · have hkL : k < L.length := by rw [HL.out]; exact hlt
          obtain ⟨b, o, rfl, _, _, hc⟩ := HR.out.at_ (by omega)
          have h1 := hc k (.int .i64 L[k]) (by simp [hkL])
          have HN := Lib.hid (lnGood_step L k hkL)
          have HA := Lib.hid (rd_pre HR.out k (by omega))
          have HT : Hid (lnGood (L.take (k + 1)) = false → lnGood L = false) := Lib.hid (lnGood_take (k + 1))
          generalize L[k] = z at h1 HN
          have CP := Lib.hid (fun W => c_lnp z W)
          have CC := Lib.hid (c_contains (c := c) HA.out (by rw [List.length_take]; omega) (by omega) z)
          have hkc : k ≤ c := by omega
          clear hc hF
          obtain ⟨q1, hq1⟩ : ∃ q, q = lnP z := ⟨_, rfl⟩
          obtain ⟨q2, hq2⟩ : ∃ q, q = decide (z ∈ L.take k) := ⟨_, rfl⟩
          rw [← hq1] at CP HN
          rw [← hq2] at CC HN
          have H1 := Lib.hid hq1
          clear hq1 hq2
          cases q1
          · go_wp2_with (first | (go_at_call 135; refine (CP.out _).mono ?_; rintro e w' ⟨rfl, rfl⟩) | (go_at_call 60; refine CC.out.mono ?_; rintro e w' ⟨rfl, rfl⟩))
            go_ret
            exact ⟨ret_bool (by unfold lnFine; rw [HT.out (by rw [HN.out, HF.out]; rfl), Bool.and_false]), HU.out⟩
          · cases q2
            · go_wp2_with (first | (go_at_call 135; refine (CP.out _).mono ?_; rintro e w' ⟨rfl, rfl⟩) | (go_at_call 60; refine CC.out.mono ?_; rintro e w' ⟨rfl, rfl⟩))
              go_round
              case rel => exact ⟨k + 1, by omega, by go_num, by rw [HN.out, HF.out]; rfl⟩
              case measure => simp [intOf]; omega
            · go_wp2_with (first | (go_at_call 135; refine (CP.out _).mono ?_; rintro e w' ⟨rfl, rfl⟩) | (go_at_call 60; refine CC.out.mono ?_; rintro e w' ⟨rfl, rfl⟩))
              go_ret
              exact ⟨ret_bool (by unfold lnFine; rw [HT.out (by rw [HN.out, HF.out]; rfl), Bool.and_false]), HU.out⟩
        · have HG : Hid (lnFine _ L = true) := Lib.hid (show lnFine _ L = true by
            unfold lnFine
            rw [HS.out, ← List.take_length (l := L), HL.out, show n = k by omega, hF]
            rfl)
          obtain rfl : k = n := by omega
          clear hF
          go_wp2
          go_ret
          exact ⟨ret_bool HG.out.symm, HU.out⟩
end Go.Proofs.YtdiiilnebepfdaaGreatDoor

namespace Go.Proofs.YtdiiilnebepfdaaGreatDoor
open Go.RowKit

/-- What a call gives that answers a line and something more: the line reads as L, in blocks of pl. -/
def LnPost (w : World) (pl : Nat → Prop) (sh : Bool) (L : List Int) (k : Value) (e : Ending) (w' : World) : Prop :=
  ∃ A n c, e = .returned (.tuple #[.agg #[.bool sh, .slice A n c], k]) ∧ LnW w' pl A n c L ∧ Below w.heap.size w w'
/-- The world of a function that boxes its line, and has a cell for the line that it gives. -/
structure LnBox (w w2 : World) (sh : Bool) (u : Value) (t : TypeId) : Prop where
  up : Below w.heap.size w w2
  size : w2.heap.size = w.heap.size + 2
  box : Blk w2 w.heap.size [.bool sh, u] t
  res : Blk w2 (w.heap.size + 1) [.bool false, .slice none 0 0] t
theorem lnbox (w : World) (sh : Bool) (u : Value) (t : TypeId) : LnBox w ((w.alloc (.cells #[.bool sh, u] t)).alloc (.cells #[.bool false, .slice none 0 0] t)) sh u t := by
  refine ⟨up_trans (up_alloc _ _) (up_alloc _ _), by simp, (Blk.new w [.bool sh, u] _).alloc _, ?_⟩
  have := Blk.new (w.alloc (.cells #[.bool sh, u] t)) [.bool false, .slice none 0 0] t
  simpa using this

theorem two_up (w : World) (o o' : Obj) : Below w.heap.size w ((w.alloc o).alloc o') := up_trans (up_alloc _ _) (up_alloc _ _)
theorem below_put {B b : Nat} {w w' : World} (h : Below B w w') (hb : B ≤ b) (j : Nat) (u : Value) (hB : B ≤ w.heap.size) : Below B w (w'.setCell ⟨b, j, none⟩ u) :=
  h.trans ((Only.setCell (s := fun k => B ≤ k) (Only.refl _ w') (.inl hb) u).toBelow (by have := h.size; omega) (fun _ h => h))
/-- What the line's box and the answer's cell hold, in a world behind the boxes. -/
structure LnAt (w w2 : World) (sh : Bool) (u : Value) (t : TypeId) : Prop where
  up : Below w.heap.size w w2
  box : Blk w2 w.heap.size [.bool sh, u] t
  res : Blk w2 (w.heap.size + 1) [.bool false, .slice none 0 0] t
theorem LnBox.at_ {w w2 w3 : World} {sh : Bool} {u : Value} {t : TypeId} (h : LnBox w w2 sh u t) (hb : Below w2.heap.size w2 w3) : LnAt w w3 sh u t :=
  ⟨up_trans h.up hb, h.box.up hb h.box.lt, h.res.up hb h.res.lt⟩
theorem LnAt.next {w w2 w3 : World} {sh : Bool} {u : Value} {t : TypeId} (h : LnAt w w2 sh u t) (hb : Below w2.heap.size w2 w3) : LnAt w w3 sh u t :=
  ⟨up_trans h.up hb, h.box.up hb h.box.lt, h.res.up hb h.res.lt⟩
theorem LnAt.out {w w2 : World} {sh : Bool} {u : Value} {t : TypeId} (h : LnAt w w2 sh u t) (x y : Value) : Below w.heap.size w ((w2.setCell ⟨w.heap.size + 1, 0, none⟩ x).setCell ⟨w.heap.size + 1, 1, none⟩ y) :=
  below_put (below_put h.up (by omega) 0 x (Nat.le_refl _)) (by omega) 1 y (Nat.le_refl _)
theorem LnAt.out2 {w w2 : World} {sh : Bool} {u : Value} {t : TypeId} (h : LnAt w w2 sh u t) (x y z : Value) : Below w.heap.size w (((w2.setCell ⟨w.heap.size, 1, none⟩ z).setCell ⟨w.heap.size + 1, 0, none⟩ x).setCell ⟨w.heap.size + 1, 1, none⟩ y) :=
  below_put (below_put (below_put h.up (by omega) 1 z (Nat.le_refl _)) (by omega) 0 x (Nat.le_refl _)) (by omega) 1 y (Nat.le_refl _)
theorem LnAt.after {w w2 : World} {sh : Bool} {u : Value} {t : TypeId} (_ : LnAt w w2 sh u t) (x y z : Value) : Only (fun k => k = w.heap.size ∨ k = w.heap.size + 1) w2 (((w2.setCell ⟨w.heap.size, 1, none⟩ z).setCell ⟨w.heap.size + 1, 0, none⟩ x).setCell ⟨w.heap.size + 1, 1, none⟩ y) :=
  (((Only.refl _ w2).setCell (.inl (.inl rfl)) z).setCell (.inl (.inr rfl)) x).setCell (.inl (.inr rfl)) y

end Go.Proofs.YtdiiilnebepfdaaGreatDoor

namespace Go.Proofs.YtdiiilnebepfdaaGreatDoor
open Go.RowKit

theorem ret_ib' {k : IntKind} {a b : Int} {c d : Bool} (h : b = a) (h' : d = c) : Ending.returned (.tuple #[.int k a, .bool c]) = .returned (.tuple #[.int k b, .bool d]) := by rw [h, h']

end Go.Proofs.YtdiiilnebepfdaaGreatDoor

namespace Go.Proofs.YtdiiilnebepfdaaGreatDoor
open Go.RowKit

set_option maxHeartbeats 1000000 in
theorem c_lnhead {w : World} {pl : Nat → Prop} {A : Option Addr} {n c : Nat} {L : List Int} (h : LnW w pl A n c L) (hn : n ≤ 1000) (sh : Bool) :
    Calls Tryz.prog 94 #[.agg #[.bool sh, .slice A n c]] w fun e w' => e = .returned (.tuple #[.int .i64 (lnHead sh L), .bool (lnSome sh L)]) ∧ Below w.heap.size w w' := by
  have hb0 := up_alloc w (.cells #[.bool sh, .slice A n c] 129)
  have hB := box_ln w sh A n c
  have CF := Lib.hid (c_lnfine (h.below hb0) (by omega) sh)
  have HR := Lib.hid h
  have HB := Lib.hid hB
  have HL := Lib.hid h.len
  have HS := Lib.hid (show lnSome sh L = (lnFine sh L && decide (0 < L.length)) from rfl)
  have HH := Lib.hid (show lnHead sh L = if lnSome sh L = true then L.headD 0 else 0 from rfl)
  generalize lnSome sh L = s at HS HH ⊢
  generalize lnHead sh L = v at HH ⊢
  generalize lnFine sh L = q at CF HS
  clear h hb0 hB
  cases q
  · have E := Lib.hid (show s = false by rw [HS.out]; rfl)
    have E2 := Lib.hid (show v = 0 by rw [HH.out, E.out]; rfl)
    go_enter Tryz.func94, Tryz.ntmps94
    go_wp2_with fail
    refine CF.out.mono ?_; rintro e w2 ⟨rfl, hb2⟩
    have HU := Lib.hid (up_trans (up_alloc _ _) hb2)
    clear hb2
    go_wp2_with fail
    go_ret2
    exact ⟨ret_ib' E2.out E.out, HU.out⟩
  · rcases Nat.eq_zero_or_pos n with rfl | h0
    · have E := Lib.hid (show s = false by rw [HS.out]; have := HL.out; simp [this])
      have E2 := Lib.hid (show v = 0 by rw [HH.out, E.out]; rfl)
      go_enter Tryz.func94, Tryz.ntmps94
      go_wp2_with fail
      refine CF.out.mono ?_; rintro e w2 ⟨rfl, hb2⟩
      have HU := Lib.hid (up_trans (up_alloc _ _) hb2)
      have hB2 := HB.out.up hb2 HB.out.lt
      have b1 := hB2.cell 1 _ rfl
      clear hb2 hB2
      go_wp2_with fail
      go_ret2
      exact ⟨ret_ib' E2.out E.out, HU.out⟩
    · have E := Lib.hid (show s = true by rw [HS.out]; have := HL.out; simp [this]; omega)
      have E2 := Lib.hid (show v = L.headD 0 by rw [HH.out, E.out]; rfl)
      have hz : ((n : Int) == 0) = false := beq_eq_false_iff_ne.2 (by omega)
      have h0' : (0 : Int) < n := by omega
      obtain ⟨b, o, rfl, _, hblt, hc⟩ := HR.out.rd.at_ h0
      have H1 : Hid (w.cell? ⟨b, o, none⟩ = some (.int .i64 (L.headD 0))) := Lib.hid (by
        have hL := HL.out
        rcases L with _ | ⟨x, L⟩
        · simp at hL; omega
        · simpa using hc 0 (.int .i64 x) rfl)
      clear hc
      go_enter Tryz.func94, Tryz.ntmps94
      go_wp2_with fail
      refine CF.out.mono ?_; rintro e w2 ⟨rfl, hb2⟩
      have HU := Lib.hid (up_trans (up_alloc _ _) hb2)
      have hB2 := HB.out.up hb2 HB.out.lt
      have b1 := hB2.cell 1 _ rfl
      have h1 := (HU.out.cell (p := ⟨b, o, none⟩) hblt).trans H1.out
      clear hb2 hB2
      generalize L.headD 0 = x at h1 E2
      go_wp2_with fail
      go_ret2
      exact ⟨ret_ib' E2.out E.out, HU.out⟩
end Go.Proofs.YtdiiilnebepfdaaGreatDoor

namespace Go.Proofs.YtdiiilnebepfdaaGreatDoor
open Go.RowKit

set_option maxHeartbeats 400000 in
theorem c_pzfine (x : Int) (w : World) :
    Calls Tryz.prog 119 #[.int .i64 x] w fun e w' => e = .returned (.bool (pzFine x)) ∧ w = w' := by
  cases hf : pzFine x
  · have H := Lib.hid (pzFine_no x hf)
    clear hf
    go_enter Tryz.func119, Tryz.ntmps119
    go_wp2
    all_goals
      go_ret
      refine ⟨ret_bool ?_, rfl⟩
      have := H.out
      first
        | rfl
        | (rw [decide_eq_false_iff_not]; omega)
  · obtain ⟨h0, h1⟩ := (pzFine_iff x).1 hf
    clear hf
    go_enter Tryz.func119, Tryz.ntmps119
    go_wp2
    go_ret
    exact ⟨ret_bool (by first | rfl | (rw [decide_eq_true_iff]; omega)), rfl⟩



set_option maxHeartbeats 400000 in
theorem c_pzhit (l b : Int) (w : World) :
    Calls Tryz.prog 93 #[.int .i64 l, .int .i64 b] w fun e w' => e = .returned (.bool (pzHit l b)) ∧ w = w' := by
  cases hf : pzFine l <;> cases ht : pzFine b
  all_goals
    have H := Lib.hid (show pzHit l b = (pzFine l && (pzFine b && decide (b < l))) from rfl)
    rw [hf, ht] at H
    go_enter Tryz.func93, Tryz.ntmps93
    go_wp2_with (go_at_call 119; refine (c_pzfine _ _).mono ?_; rintro e w' ⟨rfl, rfl⟩)
    go_ret
    exact ⟨ret_bool (by rw [H.out]; simp), rfl⟩
end Go.Proofs.YtdiiilnebepfdaaGreatDoor

namespace Go.Proofs.YtdiiilnebepfdaaGreatDoor
open Go.RowKit

set_option maxHeartbeats 400000 in
theorem c_wfine (a : Int) (w : World) :
    Calls Tryz.prog 148 #[.int .i64 a] w fun e w' => e = .returned (.bool (fineW a)) ∧ w = w' := by
  cases hf : fineW a
  · have H := Lib.hid (fineW_not a hf)
    clear hf
    go_enter Tryz.func148, Tryz.ntmps148
    go_wp2
    all_goals
      go_ret
      refine ⟨ret_bool ?_, rfl⟩
      have := H.out
      first
        | rfl
        | (rw [decide_eq_false_iff_not]; omega)
  · have hb := (fineW_iff a).1 hf
    obtain ⟨h0, h1⟩ := hb
    clear hf
    go_enter Tryz.func148, Tryz.ntmps148
    go_wp2
    go_ret
    exact ⟨ret_bool (by first | rfl | (rw [decide_eq_true_iff]; omega)), rfl⟩
end Go.Proofs.YtdiiilnebepfdaaGreatDoor

namespace Go.Proofs.YtdiiilnebepfdaaGreatDoor
open Go.RowKit

set_option maxHeartbeats 400000 in
theorem c_within (x : Int) (w : World) :
    Calls Tryz.prog 147 #[.int .i64 x, .int .i64 0, .int .i64 1099511627776] w fun e w' => e = .returned (.int .i64 (clampC x)) ∧ w = w' := by
  go_enter Tryz.func147, Tryz.ntmps147
  go_wp2
  all_goals
    go_ret
    exact ⟨ret_int (by unfold clampC; repeat (split at *); all_goals omega), rfl⟩

set_option maxHeartbeats 400000 in
theorem c_instant (x : Int) (w : World) :
    Calls Tryz.prog 134 #[.int .i64 x] w fun e w' => e = .returned (.int .i64 (clampC x)) ∧ w = w' := by
  go_enter Tryz.func134, Tryz.ntmps134
  go_wp2_with (go_at_call 147; refine (c_within _ _).mono ?_; rintro e w' ⟨rfl, rfl⟩)
  go_ret
  exact ⟨rfl, rfl⟩

set_option maxHeartbeats 400000 in
theorem c_fine (x : Int) (w : World) :
    Calls Tryz.prog 114 #[.int .i64 x] w fun e w' => e = .returned (.bool (fineC x)) ∧ w = w' := by
  have H := Lib.hid (clampC_eq x)
  go_enter Tryz.func114, Tryz.ntmps114
  go_wp2_with (go_at_call 134; refine (c_instant _ _).mono ?_; rintro e w' ⟨rfl, rfl⟩)
  go_ret
  exact ⟨ret_bool H.out, rfl⟩

set_option maxHeartbeats 400000 in
theorem c_rfine (x : Int) (w : World) :
    Calls Tryz.prog 74 #[.int .i64 x] w fun e w' => e = .returned (.bool (fineC x)) ∧ w = w' := by
  cases hf : fineC x
  · have H := Lib.hid (fineC_no x hf)
    clear hf
    go_enter Tryz.func74, Tryz.ntmps74
    go_wp2
    all_goals
      go_ret
      refine ⟨ret_bool ?_, rfl⟩
      have := H.out
      first
        | rfl
        | (rw [decide_eq_false_iff_not]; omega)
  · obtain ⟨h0, h1⟩ := (fineC_iff x).1 hf
    clear hf
    go_enter Tryz.func74, Tryz.ntmps74
    go_wp2
    go_ret
    exact ⟨ret_bool (by first | rfl | (rw [decide_eq_true_iff]; omega)), rfl⟩
end Go.Proofs.YtdiiilnebepfdaaGreatDoor

namespace Go.Proofs.YtdiiilnebepfdaaGreatDoor
open Go.RowKit

set_option maxHeartbeats 400000 in
theorem c_due (n t : Int) (w : World) :
    Calls Tryz.prog 88 #[.int .i64 n, .int .i64 t] w fun e w' => e = .returned (.bool (dueB n t)) ∧ w = w' := by
  cases hf : fineC n <;> cases ht : fineC t
  all_goals
    have H := Lib.hid (show dueB n t = (fineC n && (fineC t && decide (t ≤ n))) from rfl)
    rw [hf, ht] at H
    go_enter Tryz.func88, Tryz.ntmps88
    go_wp2_with (go_at_call 114; refine (c_fine _ _).mono ?_; rintro e w' ⟨rfl, rfl⟩)
    go_ret
    exact ⟨ret_bool (by rw [H.out]; simp), rfl⟩

set_option maxHeartbeats 400000 in
theorem c_rdue (n t : Int) (w : World) :
    Calls Tryz.prog 109 #[.int .i64 n, .int .i64 t] w fun e w' => e = .returned (.bool (dueB n t)) ∧ w = w' := by
  cases hf : fineC n <;> cases ht : fineC t
  all_goals
    have H := Lib.hid (show dueB n t = (fineC n && (fineC t && decide (t ≤ n))) from rfl)
    rw [hf, ht] at H
    go_enter Tryz.func109, Tryz.ntmps109
    go_wp2_with (go_at_call 74; refine (c_rfine _ _).mono ?_; rintro e w' ⟨rfl, rfl⟩)
    go_ret
    exact ⟨ret_bool (by rw [H.out]; simp), rfl⟩

end Go.Proofs.YtdiiilnebepfdaaGreatDoor

namespace Go.Proofs.YtdiiilnebepfdaaGreatDoor
open Go.RowKit
section
variable {P : Program}
/-- append within the room at a step of a drawn region: the row keeps its block. -/
theorem step_appfits {w : World} {ops : Array Oper} {o : Oper} {a : Act} {K : Act → World → Prop} {Q : Exit → Act → World → Prop} {F : Prop} {t e : TypeId} {z : Value} {size bytes lo n g cap : Nat} (E : EI P t e z size bytes) (hgd : o.guard = none) (s x : Operand)
    (ho : o.op = .call { callee := .builtin .append, args := #[s, x], argTypes := #[t, t] })
    (xs : List Value) (hs : a.eval s = .slice (some ⟨g, 0, none⟩) n cap) (hown : w.ownsRow lo e size (.slice (some ⟨g, 0, none⟩) n cap) n xs)
    {pl : Nat → Prop} {m c : Nat} {A : Option Addr} {news : List Value} (hx : a.eval x = .slice A m c) (hr : RD w pl size A m news) (h1 : ∀ u ∈ news, u.oneCell' = true) (q : Nat) (hq : n + m = q) (hroom : q ≤ cap)
    (h : ∀ w', w'.ownsRow lo e size (.slice (some ⟨g, 0, none⟩) q cap) q (xs ++ news) → w.grownBy w' (some g) → K (a.put o.dst (.slice (some ⟨g, 0, none⟩) q cap)) w') :
    if Region.wanted o (yielded ops a.tmps) = true then Oper.wp P o a w K Q else F := by
  subst hq
  have hw : Region.wanted o (yielded ops a.tmps) = true := by simp [Region.wanted, hgd]
  rw [if_pos hw]
  obtain ⟨i, hi, hz, hsz, hb⟩ := info_parts E.info
  have hrun : ∃ w', (Builtin.append_ #[t, t] o.type #[.slice (some ⟨g, 0, none⟩) n cap, .slice A m c]).run P w = .ok (.slice (some ⟨g, 0, none⟩) (n + m) cap) w' ∧
      w'.ownsRow lo e size (.slice (some ⟨g, 0, none⟩) (n + m) cap) (n + m) (xs ++ news) ∧ w.grownBy w' (some g) := by
    rcases Nat.eq_zero_or_pos m with h0 | h0
    · subst h0
      have hn : news = [] := List.eq_nil_of_length_eq_zero (by have := hr.1; omega)
      subst hn
      exact ⟨w, run_append_nil_src E o.type hown A c, by simpa using hown, World.grownBy.refl w _⟩
    · obtain ⟨b, of, rfl, _, _, hc⟩ := hr.2 h0
      exact run_append_fits (P := P) w lo t o.type e i size E.under hi hsz g n cap xs hown ⟨b, of, none⟩ m c news hr.1 (fun j u hu => by rw [add_off]; exact hc j u hu) h1 hroom
  obtain ⟨w', hrun, h2, h3⟩ := hrun
  unfold Oper.wp execOp
  simp only [ho, resolve, invoke, builtin, Sem.run_bind, Sem.run_pure, Result.andThen_ok, List.map_toArray, List.map_cons, List.map_nil, hs, hx, hrun]
  exact h w' h2 h3
end
/-- The first ones of a row of the call's own. -/
theorem own_pre {w : World} {lo n g c : Nat} {e : TypeId} {xs : List Value} (h : w.ownsRow lo e 1 (.slice (some ⟨g, 0, none⟩) n c) n xs) (m : Nat) (hm : m ≤ n) : w.ownsRow lo e 1 (.slice (some ⟨g, 0, none⟩) m c) m (xs.take m) := by
  have hn := h.1
  rcases h.2 with ⟨h', _⟩ | ⟨g', cap, cur, h', hb, hg, hnc, hcm, hcs, htake⟩
  · simp at h'
  · simp only [Value.slice.injEq, Option.some.injEq, Addr.mk.injEq, and_true, true_and] at h'
    obtain ⟨rfl, rfl⟩ := h'
    refine ⟨by rw [List.length_take]; omega, .inr ⟨g, c, cur, rfl, hb, hg, by omega, hcm, hcs, ?_⟩⟩
    rw [← htake, List.take_take]
    congr 1
    omega
/-- A cell behind what a row reads as may be written. -/
theorem own_past {w : World} {lo n g c : Nat} {e : TypeId} {xs : List Value} (h : w.ownsRow lo e 1 (.slice (some ⟨g, 0, none⟩) n c) n xs) (j : Nat) (hj : n ≤ j) (hjc : j < c) :
    (∃ u, w.cell? ⟨g, j, none⟩ = some u) ∧ w.frozen? ⟨g, j, none⟩ = false ∧ ∀ u, (w.setCell ⟨g, j, none⟩ u).ownsRow lo e 1 (.slice (some ⟨g, 0, none⟩) n c) n xs := by
  rcases h.2 with ⟨h', _⟩ | ⟨g', cap, cur, h', hb, hg, hnc, hcm, hcs, htake⟩
  · simp at h'
  · simp only [Value.slice.injEq, Option.some.injEq, Addr.mk.injEq, and_true, true_and] at h'
    obtain ⟨rfl, rfl⟩ := h'
    have hB : Blk w g cur.toList e := by unfold Blk; rw [Array.toArray_toList]; exact hg
    have hjl : j < cur.toList.length := by rw [Array.length_toList, hcs]; omega
    refine ⟨⟨_, hB.cell j _ (List.getElem?_eq_getElem hjl)⟩, hB.free j, fun u => ?_⟩
    refine ⟨h.1, .inr ⟨g, c, (cur.toList.set j u).toArray, rfl, hb, hB.set j u, hnc, hcm, by simp [hcs], ?_⟩⟩
    rw [← htake]
    simp only [List.take_set_of_le (show n * 1 ≤ j by omega)]
theorem run_clear_int {t ty : TypeId} (ht : Tryz.prog.underlying t = some (.slice 3)) {w : World} {g o c : Nat} {u : Value} (hc : w.cell? ⟨g, o, none⟩ = some u) (hf : w.frozen? ⟨g, o, none⟩ = false) :
    (Builtin.clear_ #[t] ty #[.slice (some ⟨g, o, none⟩) 1 c]).run Tryz.prog w = .ok (.tuple #[]) (w.setCell ⟨g, o, none⟩ (.int .i64 0)) := by
  have hv : ∀ w, (zeroValue 3).run Tryz.prog w = .ok (.int .i64 0) w := fun w => by kernel_rfl
  have hst := run_storeCells_cells (P := Tryz.prog) g o [.int .i64 0] 0 w
    (by
      intro j hj
      obtain rfl : j = 0 := by simpa using hj
      simp [hc])
    (by
      intro j hj
      simp at hj
      subst hj
      simpa using hf)
    (by
      intro v hv'
      rw [List.mem_singleton.1 hv']
      rfl)
  simp only [Nat.add_zero] at hst
  have hz : (Builtin.zeroCells #[Value.int .i64 0] 1).toList = [.int .i64 0] := by kernel_rfl
  simp [Builtin.clear_, run_underlying ht, hv, Value.cells, hz, hst, World.setCells]

/-- What a Delete leaves. -/
def SDelPost (w : World) (lo g m c : Nat) (zs : List Int) (e : Ending) (w' : World) : Prop :=
  e = .returned (.slice (some ⟨g, 0, none⟩) m c) ∧ w'.ownsRow lo 3 1 (.slice (some ⟨g, 0, none⟩) m c) m (zs.map (Value.int .i64)) ∧ Only (· = g) w w'
/-- Behind the append: the last cell is cleared. -/
theorem sdel_end {w w1 : World} {lo g m c : Nat} {zs : List Int} (hown : w1.ownsRow lo 3 1 (.slice (some ⟨g, 0, none⟩) m c) m (zs.map (Value.int .i64))) (hg : w.grownBy w1 (some g)) (hm : m < c) :
    (∀ cc, (Builtin.clear_ #[26] 0 #[.slice (some ⟨g, m, none⟩) 1 cc]).run Tryz.prog w1 = .ok (.tuple #[]) (w1.setCell ⟨g, m, none⟩ (.int .i64 0))) ∧
    SDelPost w lo g m c zs (.returned (.slice (some ⟨g, 0, none⟩) m c)) (w1.setCell ⟨g, m, none⟩ (.int .i64 0)) := by
  obtain ⟨⟨u, h1⟩, h2, h3⟩ := own_past hown m (Nat.le_refl _) hm
  refine ⟨fun cc => run_clear_int (by kernel_rfl) h1 h2, rfl, h3 _, ?_⟩
  exact ((Only.refl (· = g) w).grown hg (fun k e => .inl (by injection e with e; exact e.symm))).put m _

end Go.Proofs.YtdiiilnebepfdaaGreatDoor

namespace Go.Proofs.YtdiiilnebepfdaaGreatDoor
open Go.RowKit

end Go.Proofs.YtdiiilnebepfdaaGreatDoor

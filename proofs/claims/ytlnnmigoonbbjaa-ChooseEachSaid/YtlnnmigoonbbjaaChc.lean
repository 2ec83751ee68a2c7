/- Package choose's place (with slices.IndexFunc and its closure) and Choose. -/
import Derived.Test.YtlnnmigoonbbjaaChb
import Derived.Lib.QuietBelow
import Derived.BigRegion
namespace Go.Proofs.Ytlnnmigoonbbjaa
open Go.RowKit

set_option maxHeartbeats 400000 in
theorem c_chsays {w : World} {B : Nat} {d m t : Int} {x : Value} {T : TypeId} (hB : Blk w B [.int .i64 d, .int .i64 m, .int .i64 t, x] T) (z : Int) :
    Calls Try.prog 18 #[.int .i64 z, .pointer (some ⟨B, 0, none⟩)] w fun e w' => e = .returned (.bool (decide (t ≤ z))) ∧ w = w' := by
  have i2 := hB.cell 2 _ rfl
  clear hB
  go_enter Try.func18, Try.ntmps18
  go_wp2
  go_ret
  exact ⟨rfl, rfl⟩

set_option maxHeartbeats 1000000 in
theorem c_chixf {w : World} {pl : Nat → Prop} {A : Option Addr} {n c : Nat} {L : List Int} (hR : RD w pl 1 A n (L.map (Value.int .i64))) (hl : L.length = n) (hn : n ≤ 1000) {B : Nat} {d m t : Int} {x : Value} {T : TypeId} (hB : Blk w B [.int .i64 d, .int .i64 m, .int .i64 t, x] T) :
    Calls Try.prog 17 #[.slice A n c, .func (.func 18) #[] #[.pointer (some ⟨B, 0, none⟩)]] w fun e w' => e = .returned (.int .i64 (chAt t L)) ∧ w = w' := by
  have HR := Lib.hid hR
  have HL := Lib.hid hl
  have CS := Lib.hid (c_chsays hB)
  clear hR hl hB
  go_enter Try.func17, Try.ntmps17
  go_wp2
  go_loop [8] (fun i => ∃ k : Nat, k ≤ n ∧ i = .int .i64 k ∧ (L.take k).any (fun z => decide (t ≤ z)) = false) (fun i => n - (intOf i).toNat)
  case atStart => exact ⟨0, Nat.zero_le _, rfl, rfl⟩
  case round =>
    obtain ⟨k, hk, rfl, hF⟩ := hrel
    have HF := Lib.hid hF
    clear hF
    by_cases hlt : k < n
    · have hex : ∃ z, L[k]? = some z := ⟨_, List.getElem?_eq_getElem (by rw [HL.out]; exact hlt)⟩
      obtain ⟨z, hz⟩ := hex
      obtain ⟨b, o, rfl, _, _, hc⟩ := HR.out.at_ (by omega)
      have h1 := hc k (.int .i64 z) (by rw [List.getElem?_map, hz]; rfl)
      have HZ := Lib.hid hz
      have C := CS.out z
      obtain ⟨q, hq⟩ : ∃ q, decide (t ≤ z) = q := ⟨_, rfl⟩
      have HQ := Lib.hid hq
      rw [hq] at C
      have CC := Lib.hid C
      clear hc hz hq C
      cases q
      · have HN := Lib.hid (ch_any_next HZ.out HF.out HQ.out)
        go_wp2_with fail
        refine CC.out.mono ?_; rintro e w2 ⟨rfl, rfl⟩
        go_wp2
        go_round
        case rel => exact ⟨k + 1, by omega, by go_num, HN.out⟩
        case measure => simp [intOf]; omega
      · have HN := Lib.hid (chAt_of HZ.out (of_decide_eq_true HQ.out) HF.out)
        go_wp2_with fail
        refine CC.out.mono ?_; rintro e w2 ⟨rfl, rfl⟩
        go_wp2
        go_ret
        exact ⟨ret_int HN.out.symm, rfl⟩
    · have HN : Hid (chAt t L = -1) := Lib.hid (chAt_none (by
        have := HF.out
        rwa [show k = n by omega, ← HL.out, List.take_length] at this))
      obtain rfl : k = n := by omega
      go_wp2
      go_ret
      exact ⟨ret_int HN.out.symm, rfl⟩

set_option maxHeartbeats 2000000 in
theorem c_chplace {w : World} {pl : Nat → Prop} {A : Option Addr} {n c : Nat} {L : List Int} (hR : RD w pl 1 A n (L.map (Value.int .i64))) (hl : L.length = n) (hn : n ≤ 1000) (h0 : 0 < n) (d m t v : Int) :
    Calls Try.prog 14 #[.agg #[.int .i64 d, .int .i64 m, .int .i64 t, .slice A n c], .int .i64 v] w fun e w' => e = .returned (.int .i64 (chPl d t L v : Nat)) ∧ Below w.heap.size w w' := by
  have hU := up_alloc w (.cells #[.int .i64 d, .int .i64 m, .int .i64 t, .slice A n c] 26)
  have HU := Lib.hid hU
  have HB := Lib.hid (Blk.new w [.int .i64 d, .int .i64 m, .int .i64 t, .slice A n c] 26)
  by_cases h1 : d = 1
  · subst h1
    have C := Lib.hid (c_chixf (c := c) (hR.below hU) hl hn HB.out)
    have HP : Hid (chPl 1 t L v = chFair t L) := Lib.hid rfl
    have hm := chAt_max t L
    generalize chAt t L = a at C hm
    have HM := Lib.hid hm
    clear hR hl hU hm
    go_enter Try.func14, Try.ntmps14
    go_wp2_with fail
    refine C.out.mono ?_; rintro e w2 ⟨rfl, rfl⟩
    go_wp2
    all_goals
      go_ret
      exact ⟨ret_int (by rw [HP.out]; have := HM.out; omega), HU.out⟩
  · have t1 : (d == 1) = false := beq_eq_false_iff_ne.2 h1
    by_cases h2 : d = 2
    · subst h2
      obtain ⟨a0, a1, a2, _⟩ := any_place v n h0
      have HP : Hid (((chPl 2 t L v : Nat) : Int) = (v.tmod n + n).tmod n) := Lib.hid (by rw [a2]; unfold chPl; rw [hl]; rfl)
      have hb : 0 ≤ (v.tmod n + n).tmod n ∧ (v.tmod n + n).tmod n < n := by rw [a2]; have := Int.emod_lt_of_pos v (show (0 : Int) < n by omega); omega
      have hn0 : ((n : Int) == 0) = false := by simp; omega
      have hnm : (n : Int) ≠ 0 := by omega
      clear hR hl hU a2 h1
      go_enter Try.func14, Try.ntmps14
      go_wp2
      go_ret
      exact ⟨ret_int (by rw [HP.out]; exact (Int.tmod_eq_emod_of_nonneg (by omega)).symm), HU.out⟩
    · have t2 : (d == 2) = false := beq_eq_false_iff_ne.2 h2
      have HP : Hid (chPl d t L v = 0) := Lib.hid (by unfold chPl; rw [if_neg h1, if_neg h2])
      clear hR hl hU h1 h2
      go_enter Try.func14, Try.ntmps14
      go_wp2
      go_ret
      exact ⟨ret_int (by rw [HP.out]; rfl), HU.out⟩

set_option maxHeartbeats 2000000 in
theorem c_choose {w : World} {pl : Nat → Prop} {A : Option Addr} {n c : Nat} {L : List Int} (hR : RD w pl 1 A n (L.map (Value.int .i64))) (hl : L.length = n) (hn : n ≤ 1000) (d m t v : Int) :
    Calls Try.prog 7 #[.agg #[.int .i64 d, .int .i64 m, .int .i64 t, .slice A n c], .int .i64 v] w fun e w' => e = .returned (.tuple #[.int .i64 (chV d m t L v), .int .i64 (chE d m t L)]) ∧ Below w.heap.size w w' := by
  have hU := up_alloc w (.cells #[.int .i64 d, .int .i64 m, .int .i64 t, .slice A n c] 26)
  have hB := Blk.new w [.int .i64 d, .int .i64 m, .int .i64 t, .slice A n c] 26
  have CF := Lib.hid (c_chfine (c := c) (hR.below hU) hl hn d m t)
  obtain ⟨q, hq⟩ : ∃ q, chFine d m t L = q := ⟨_, rfl⟩
  rw [hq] at CF
  have HV : Hid (chV d m t L v = if q = true then L.getD (chPl d t L v) 0 else 0) := Lib.hid (by unfold chV; rw [hq])
  have HE : Hid (chE d m t L = if q = true then (if L = [] then 6 else 0) else 1) := Lib.hid (by unfold chE; rw [hq])
  have HR := Lib.hid (hR.below hU)
  have HL := Lib.hid hl
  have HU := Lib.hid hU
  have HB := Lib.hid hB
  clear hR hl hq hU hB
  cases q
  · go_enter Try.func7, Try.ntmps7
    go_wp2_with fail
    refine CF.out.mono ?_; rintro e w2 ⟨rfl, hb2⟩
    have HU2 := Lib.hid (up_trans HU.out hb2)
    clear hb2
    go_wp2
    go_ret2
    exact ⟨ret_int2 (by rw [HV.out]; rfl) (by rw [HE.out]; rfl), HU2.out⟩
  · rcases Nat.eq_zero_or_pos n with rfl | h0
    · have HLn : Hid (L = []) := Lib.hid (List.eq_nil_of_length_eq_zero HL.out)
      go_enter Try.func7, Try.ntmps7
      go_wp2_with fail
      refine CF.out.mono ?_; rintro e w2 ⟨rfl, hb2⟩
      have HU2 := Lib.hid (up_trans HU.out hb2)
      have HB2 := HB.out.up hb2 HB.out.lt
      have i3 := HB2.cell 3 _ rfl
      clear hb2 HB2
      go_wp2
      go_ret2
      exact ⟨ret_int2 (by rw [HV.out, HLn.out]; rfl) (by rw [HE.out, HLn.out]; rfl), HU2.out⟩
    · have hpl := chPl_lt d t L v (by rw [HL.out]; exact h0)
      have hex : ∃ k : Nat, k = chPl d t L v := ⟨_, rfl⟩
      obtain ⟨k, hk⟩ := hex
      rw [← hk] at hpl
      have hz : L[k]? = some (L.getD k 0) := by rw [List.getD_eq_getElem?_getD, List.getElem?_eq_getElem hpl]; rfl
      have HVV : Hid (chV d m t L v = L.getD k 0) := Lib.hid (by rw [HV.out, ← hk]; rfl)
      have HEE : Hid (chE d m t L = 0) := Lib.hid (by
        rw [HE.out, if_pos rfl, if_neg (fun e => by rw [e] at hpl; simp at hpl)])
      generalize L.getD k 0 = z at hz HVV
      have hn0 : ((n : Int) == 0) = false := by simp; omega
      obtain ⟨b, o, rfl, _, hlb, hc⟩ := HR.out.at_ h0
      have hlk : k < n := by rw [← HL.out]; exact hpl
      have HZ := Lib.hid (hc k (.int .i64 z) (by rw [List.getElem?_map, hz]; rfl))
      have hcP : Hid (∀ W, Below (w.alloc (.cells #[.int .i64 d, .int .i64 m, .int .i64 t, .slice (some ⟨b, o, none⟩) n c] 26)).heap.size (w.alloc (.cells #[.int .i64 d, .int .i64 m, .int .i64 t, .slice (some ⟨b, o, none⟩) n c] 26)) W → Calls Try.prog 14 #[.agg #[.int .i64 d, .int .i64 m, .int .i64 t, .slice (some ⟨b, o, none⟩) n c], .int .i64 v] W fun e w' => e = .returned (.int .i64 (k : Nat)) ∧ Below W.heap.size W w') := Lib.hid (fun W hW => by
        have := c_chplace (c := c) (HR.out.below hW) HL.out hn h0 d m t v
        rwa [← hk] at this)
      clear hc hpl hz HV HE hk
      go_enter Try.func7, Try.ntmps7
      go_wp2_with fail
      refine CF.out.mono ?_; rintro e w2 ⟨rfl, hb2⟩
      have HU2 := Lib.hid (up_trans HU.out hb2)
      have HB2 := HB.out.up hb2 HB.out.lt
      have i0 := cell_regrown (HB2.cell 0 _ rfl)
      have i1 := cell_regrown (HB2.cell 1 _ rfl)
      have i2 := cell_regrown (HB2.cell 2 _ rfl)
      have i3 := cell_regrown (HB2.cell 3 _ rfl)
      have j3 := HB2.cell 3 _ rfl
      have iz := cell_regrown ((World.cell?_of_block (a := ⟨b, o + k, none⟩) (hb2.block b hlb)).trans HZ.out)
      have cP := grown_call (w := w2) fun W hW => hcP.out W (hb2.trans (hW.mono hb2.size))
      clear hb2 HB2
      go_wp2_with fail
      refine wp_region_quiet_below (by kernel_rfl) (by kernel_rfl) ?_
      repeat (go_big_quiet_step (exact cP _ _))
      refine wpQuiet_nil ?_
      intro _ hw'
      obtain ⟨⟨dq, osq⟩, hw''⟩ := hw'
      have HQ := Lib.hid (up_trans HU2.out (hw'' ▸ below_regrown w2 dq osq))
      clear hw'' i0 i1 i2 i3 iz j3 cP
      go_wp2
      go_ret2
      exact ⟨ret_int2 HVV.out.symm HEE.out.symm, HQ.out⟩
end Go.Proofs.Ytlnnmigoonbbjaa

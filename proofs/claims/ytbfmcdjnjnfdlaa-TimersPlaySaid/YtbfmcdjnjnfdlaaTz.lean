/- The law TimersOrder. -/
import Derived.Test.YtbfmcdjnjnfdlaaTy
import Derived.IntWalk
import Derived.Lib.SliceRun
namespace Go.Proofs.Ytbfmcdjnjnfdlaa
open Go.RowKit

/-- The list behind k adds. -/
def ordL (zs : List Int) : Nat → List Tm
  | 0 => []
  | k + 1 => insT (ordL zs k) ⟨zs.getD k 0, (k : Int) + 1, (k : Int)⟩
theorem ordL_len (zs : List Int) : ∀ k, (ordL zs k).length = k
  | 0 => rfl
  | k + 1 => by unfold ordL; rw [insT_len, ordL_len zs k]
theorem ordL_mem (zs : List Int) : ∀ k t, t ∈ ordL zs k → ∃ u : Nat, u < k ∧ t = ⟨zs.getD u 0, (u : Int) + 1, (u : Int)⟩
  | 0, t, h => by cases h
  | k + 1, t, h => by
    unfold ordL at h
    rcases List.mem_cons.1 ((insT_perm _ _).mem_iff.1 h) with rfl | h
    · exact ⟨k, by omega, rfl⟩
    · obtain ⟨u, hu, e⟩ := ordL_mem zs k t h
      exact ⟨u, by omega, e⟩
theorem gt_mem {L : List Tm} {k : Nat} (h : k < L.length) : gt L k ∈ L := by
  rw [gt_of (List.getElem?_eq_getElem h)]
  exact List.getElem_mem h
theorem sort_gt {L : List Tm} (h : SortT L) {k : Nat} (hk : k + 1 < L.length) : ltT (gt L k) (gt L (k + 1)) := by
  rw [gt_of (List.getElem?_eq_getElem (show k < L.length by omega)), gt_of (List.getElem?_eq_getElem hk)]
  exact List.pairwise_iff_getElem.1 h k (k + 1) (by omega) hk (by omega)
theorem LV.sort {w0 w : World} {t S rm n : Nat} {L : List Tm} (h : LV w0 w t S rm n L) : SortT L := by
  obtain ⟨v, xs, _, h2, _⟩ := h
  exact h2.sort
theorem fine_u8 {z : Int} (h : 0 ≤ z ∧ z ≤ 255) : fineC z = true := (fineC_iff z).2 (by omega)
theorem due_all {L : List Tm} (h : ∀ t ∈ L, 0 ≤ t.at_ ∧ t.at_ ≤ 255) : dueL 1099511627776 L = L := by
  unfold dueL
  rw [List.filter_eq_self]
  intro t ht
  have hb := h t ht
  unfold dueB
  rw [fine_u8 hb, (fineC_iff 1099511627776).2 (by omega)]
  simp
  omega
theorem u8_cell {w : World} {pl : Nat → Prop} {b o n : Nat} {zs : List Int} (h : RD w pl 1 (some ⟨b, o, none⟩) n (zs.map (Value.int .u8))) {k : Nat} (hk : k < zs.length) (hn : 0 < n) : w.cell? ⟨b, o + k, none⟩ = some (.int .u8 (zs.getD k 0)) := by
  obtain ⟨b', o', e, _, _, h3⟩ := h.at_ hn
  cases e
  refine h3 k _ ?_
  simp [List.getD, hk]
theorem getD_mem {zs : List Int} {k : Nat} (hk : k < zs.length) : zs.getD k 0 ∈ zs := by
  have : zs.getD k 0 = zs[k] := by simp [List.getD, hk]
  rw [this]
  exact List.getElem_mem hk

set_option maxHeartbeats 1000000 in
theorem l_order_many (A : Option Addr) (n cp : Nat) (w : World) (hn : 60 < n) :
    Calls Try.prog 4 #[.slice A n cp] w (Alive w) := by
  have C1 := Lib.hid (lv_new 60 w (by omega))
  go_enter Try.func4, Try.ntmps4
  go_wp2_with fail
  refine Calls.mono C1.out ?_
  rintro e w1 ⟨rfl, h1, _, _⟩
  have C2 := Lib.hid (c_alive w1)
  have HU := Lib.hid h1.up
  clear h1
  go_wp2_with fail
  refine Calls.mono C2.out ?_
  rintro e w2 ⟨rfl, hb2⟩
  have HU2 := Lib.hid (up_trans HU.out hb2)
  clear hb2
  go_wp2_with fail
  go_ret
  exact ⟨rfl, HU2.out⟩

set_option maxHeartbeats 4000000 in
set_option maxRecDepth 100000 in
theorem l_order_few (A : Option Addr) (n cp : Nat) (zs : List Int) (w : World) (hR : RD w (fun _ => True) 1 A n (zs.map (Value.int .u8))) (hl : zs.length = n) (hz : ∀ z ∈ zs, 0 ≤ z ∧ z ≤ 255) (hn : n ≤ 60) :
    Calls Try.prog 4 #[.slice A n cp] w (Alive w) := by
  have C1 := Lib.hid (lv_new 60 w (by omega))
  have HR := Lib.hid hR
  have HL := Lib.hid hl
  have HZ := Lib.hid hz
  clear hR hl hz
  go_enter Try.func4, Try.ntmps4
  go_wp2_with fail
  refine Calls.mono C1.out ?_
  rintro e w1 ⟨rfl, h1, _, _⟩
  have H1 := Lib.hid h1
  clear h1
  go_wp2_with fail
  go_loopw [34] (fun i wr => ∃ k : Nat, k ≤ n ∧ i = .int .i64 k ∧ LV w wr (w.heap.size + 1) w.heap.size 60 k (ordL zs k)) (fun i _ => n - (intOf i).toNat)
  case atStart => exact ⟨0, Nat.zero_le _, rfl, H1.out⟩
  case round =>
    obtain ⟨k, hk, rfl, hv⟩ := hrel
    have HV := Lib.hid hv
    clear hv
    by_cases hlt : k < n
    · obtain ⟨b, o, rfl, _⟩ := HR.out.at_ (by omega)
      have hc := u8_cell (HR.out.below HV.out.up) (k := k) (by rw [HL.out]; exact hlt) (by omega)
      have hzb := HZ.out _ (getD_mem (k := k) (by rw [HL.out]; exact hlt))
      obtain ⟨z, hzz⟩ : ∃ z, z = zs.getD k 0 := ⟨_, rfl⟩
      rw [← hzz] at hc hzb
      obtain ⟨hz0, hz1⟩ := hzb
      have CA := Lib.hid (lv_add HV.out (by rw [ordL_len]; omega) (by omega) (by omega) z k (fine_u8 ⟨hz0, hz1⟩) rfl rfl rfl)
      have HZZ := Lib.hid hzz
      clear hzz
      have hne : ((k : Int) + 1 != (k : Int) + 1) = false := by simp
      go_wp2_with fail
      refine Calls.mono CA.out ?_
      rintro e w2 ⟨rfl, h2, _, _⟩
      have H2 := Lib.hid h2
      clear h2 hc
      go_wp2_with fail
      go_roundw
      case rel => exact ⟨k + 1, by omega, by go_num, by have := H2.out; rw [HZZ.out] at this; exact this⟩
      case measure => simp [intOf]; omega
    · have hkn : k = n := by omega
      subst hkn
      clear hlt hk
      have CL := Lib.hid (lv_all HV.out)
      go_wp2_with fail
      refine Calls.mono CL.out ?_
      rintro e w2 hd
      obtain ⟨A2, c2, rfl, hr2, hb2⟩ := hd.len (ordL_len zs k)
      obtain ⟨L, hL⟩ : ∃ L, L = ordL zs k := ⟨_, rfl⟩
      rw [← hL] at hr2 HV
      have hLl : L.length = k := by rw [hL, ordL_len]
      have hmem : ∀ t ∈ L, ∃ u : Nat, u < k ∧ t = ⟨zs.getD u 0, (u : Int) + 1, (u : Int)⟩ := by rw [hL]; exact ordL_mem zs k
      have HS := Lib.hid HV.out.sort
      have HLL := Lib.hid hLl
      have HM := Lib.hid hmem
      have HR2 := Lib.hid hr2
      have HB2 := Lib.hid hb2
      have HV2 := Lib.hid (HV.out.below hb2)
      clear hd hr2 hb2 hL hLl hmem
      go_wp2_with fail
      go_loopw [60] (fun i wr => ∃ q : Nat, q ≤ k ∧ i = .int .i64 q ∧ Below w2.heap.size w2 wr) (fun i _ => k - (intOf i).toNat)
      case atStart => exact ⟨0, Nat.zero_le _, rfl, Below.refl _ _⟩
      case round =>
        obtain ⟨q, hq, rfl, hb⟩ := hrel
        by_cases hlt : q < k
        · obtain ⟨b, o, rfl, _⟩ := HR.out.at_ (by omega)
          have hrw := own_below HR2.out hb
          obtain ⟨g, c', e2, _, _, _, _⟩ := row_form hrw (by omega)
          have eA : A2 = some ⟨g, 0, none⟩ := by injection e2
          subst eA
          clear e2
          obtain ⟨j0, j1, j2⟩ := row_cells hrw q (by rw [HLL.out]; exact hlt)
          obtain ⟨u, hu, ht⟩ := HM.out _ (gt_mem (k := q) (by rw [HLL.out]; exact hlt))
          have hc := u8_cell (HR.out.below (up_trans HV2.out.up hb)) (k := u) (by rw [HL.out]; exact hu) (by omega)
          have hzb := HZ.out _ (getD_mem (k := u) (by rw [HL.out]; exact hu))
          obtain ⟨z, hzz⟩ : ∃ z, z = zs.getD u 0 := ⟨_, rfl⟩
          rw [← hzz] at hc hzb ht
          obtain ⟨hz0, hz1⟩ := hzb
          have f1 : ((u : Int) != (u : Int)) = false := by simp
          have f2 : (z != z) = false := by simp
          rw [ht] at j0 j1 j2
          have HBB := Lib.hid hb
          have HT := Lib.hid ht
          have HRW := Lib.hid hrw
          clear hb ht hrw hzz
          have hu0 : (0 : Int) ≤ (u : Int) := by omega
          have hu1 : (u : Int) < (k : Int) := by omega
          have hcA : (wr.alloc (.cells #[.int .i64 z, .int .i64 ((u : Int) + 1), .int .i64 (u : Int)] 42)).cell? ⟨b, o + u, none⟩ = some (.int .u8 z) := Lib.cell?_alloc_some _ hc
          have w1 : IntKind.i64.wrap (u : Int) = (u : Int) := IntWalk.i64_in _ (by omega)
          have t0 : decide ((u : Int) < 0) = false := decide_eq_false (by omega)
          have t3 : decide ((k : Int) ≤ (u : Int)) = false := decide_eq_false (by omega)
          have t4 : decide (k ≤ u) = false := decide_eq_false (by omega)
          rcases Nat.eq_zero_or_pos q with hq0 | hq0
          · have t5 : decide (0 < (q : Int)) = false := decide_eq_false (by omega)
            have t6 : decide (0 < q) = false := decide_eq_false (by omega)
            clear hq0
            go_wp2_with fail
            go_quiet (fail)
            go_wp2_with fail
            go_roundw
            case rel => exact ⟨q + 1, by omega, by go_num, up_trans HBB.out (up_trans (up_alloc _ _) (up_drewN _ _))⟩
            case measure => simp [intOf]; omega
          · obtain ⟨p, hp⟩ : ∃ p, q = p + 1 := ⟨q - 1, by omega⟩
            have e1 : (q : Int) - 1 = (p : Int) := by omega
            have w2 : IntKind.i64.wrap ((q : Int) - 1) = (p : Int) := (IntWalk.i64_in _ (by omega)).trans e1
            have hp0 : (0 : Int) ≤ (p : Int) := by omega
            have hp2 : (p : Int) < (k : Int) := by omega
            have t5 : decide (0 < (q : Int)) = true := decide_eq_true (by omega)
            have t6 : decide (0 < q) = true := decide_eq_true hq0
            have hp1 : p < k := by omega
            obtain ⟨p0, p1, _⟩ := row_cells HRW.out p (by rw [HLL.out]; exact hp1)
            have hlt2 := sort_gt HS.out (k := p) (by rw [HLL.out]; omega)
            rw [← hp, HT.out] at hlt2
            generalize gt L p = y at p0 p1 hlt2
            have HP := Lib.hid hp
            clear hp
            rcases hlt2 with h2 | ⟨h2, h3⟩
            · have pA0 : (wr.alloc (.cells #[.int .i64 z, .int .i64 ((u : Int) + 1), .int .i64 (u : Int)] 42)).cell? ⟨g, p * 3, none⟩ = some (.int .i64 y.at_) := Lib.cell?_alloc_some _ p0
              have t1 : decide (z < y.at_) = false := decide_eq_false (by simp at h2; omega)
              have t2 : (z == y.at_) = false := beq_eq_false_iff_ne.2 (by simp at h2; omega)
              clear h2
              generalize y.at_ = ya at p0 pA0 t1 t2
              generalize y.no = yn at p1
              go_wp2_with fail
              go_quiet (fail)
              go_wp2_with fail
              go_roundw
              case rel => exact ⟨q + 1, by omega, by go_num, up_trans HBB.out (up_trans (up_alloc _ _) (up_drewN _ _))⟩
              case measure => simp [intOf]; omega
            · have h2' : y.at_ = z := h2
              have h3' : y.no < (u : Int) + 1 := h3
              rw [h2'] at p0
              have pA0 : (wr.alloc (.cells #[.int .i64 z, .int .i64 ((u : Int) + 1), .int .i64 (u : Int)] 42)).cell? ⟨g, p * 3, none⟩ = some (.int .i64 z) := Lib.cell?_alloc_some _ p0
              have pA1 : (wr.alloc (.cells #[.int .i64 z, .int .i64 ((u : Int) + 1), .int .i64 (u : Int)] 42)).cell? ⟨g, p * 3 + 1, none⟩ = some (.int .i64 y.no) := Lib.cell?_alloc_some _ p1
              clear h2 h3 h2'
              generalize y.no = yn at p1 pA1 h3'
              have t1 : (z == z) = true := by simp
              have t2 : decide ((u : Int) + 1 ≤ yn) = false := decide_eq_false (by omega)
              go_wp2_with fail
              go_quiet (fail)
              go_wp2_with fail
              go_roundw
              case rel => exact ⟨q + 1, by omega, by go_num, up_trans HBB.out (up_trans (up_alloc _ _) (up_drewN _ _))⟩
              case measure => simp [intOf]; omega
        · have hq' : q = k := by omega
          subst hq'
          clear hlt hq
          have HBB := Lib.hid hb
          have HV3 := Lib.hid (HV2.out.below hb)
          have CD := Lib.hid (lv_due HV3.out 1099511627776)
          have hall : dueL 1099511627776 L = L := due_all fun t ht => by
            obtain ⟨u, hu, e⟩ := HM.out t ht
            rw [e]
            exact HZ.out _ (getD_mem (by rw [HL.out]; exact hu))
          rw [hall] at CD
          have hqq : ((q : Int) == (q : Int)) = true := by simp
          clear hb hall
          go_wp2_with fail
          refine Calls.mono CD.out ?_
          rintro e w4 hd
          obtain ⟨A4, c4, rfl, _, hb4⟩ := hd.len HLL.out
          have HU4 := Lib.hid (up_trans HV3.out.up hb4)
          have CA := Lib.hid (c_alive w4)
          clear hd hb4
          go_wp2_with fail
          refine Calls.mono CA.out ?_
          rintro e w5 ⟨rfl, hb5⟩
          have HU5 := Lib.hid (up_trans HU4.out hb5)
          clear hb5
          go_wp2_with fail
          go_ret
          exact ⟨rfl, HU5.out⟩
theorem l_order (A : Option Addr) (n cp : Nat) (zs : List Int) (w : World) (hR : RD w (fun _ => True) 1 A n (zs.map (Value.int .u8))) (hl : zs.length = n) (hz : ∀ z ∈ zs, 0 ≤ z ∧ z ≤ 255) :
    Calls Try.prog 4 #[.slice A n cp] w (Alive w) := by
  by_cases hn : 60 < n
  · exact l_order_many A n cp w hn
  · exact l_order_few A n cp zs w hR hl hz (by omega)
end Go.Proofs.Ytbfmcdjnjnfdlaa

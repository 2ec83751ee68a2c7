/- The law's lists of guards (some), walked; ChooseEach. -/
import Derived.Test.YtlnnmigoonbbjaaChf
import Derived.Test.YtlnnmigoonbbjaaChg
import Derived.Test.YtlnnmigoonbbjaaNb
namespace Go.Proofs.Ytlnnmigoonbbjaa
open Go.RowKit

set_option maxHeartbeats 1000000 in
theorem c_some (b : Int) (n : Nat) (hn : n ≤ 6) (g : Int) (w : World) :
    Calls Try.prog 13 #[.int .u8 b, .int .i64 n, .int .i64 g] w (IntsPost w (chSome b g n)) := by
  go_enter Try.func13, Try.ntmps13
  go_wp2
  go_loopw [7, 10] (fun v i wr => ∃ k : Nat, k ≤ n ∧ i = .int .i64 k ∧ Below w.heap.size w wr ∧ wr.ownsRow w.heap.size 3 1 v (chSome b g k).length ((chSome b g k).map (Value.int .i64))) (fun _ i _ => n - (intOf i).toNat)
  case atStart => exact ⟨0, Nat.zero_le _, rfl, Below.refl _ _, World.ownsRow_nil _ _ _ _⟩
  case round =>
    obtain ⟨k, hk, rfl, hb, hB⟩ := hrel
    have HB := Lib.hid hB
    have HU := Lib.hid hb
    by_cases hlt : k < n
    · have hll := some_len b g k
      obtain ⟨q, hq⟩ : ∃ q, (bits BinOp.and IntKind.u8 (b / 2 ^ k) 1 == 1) = q := ⟨_, rfl⟩
      obtain ⟨p, hp⟩ : ∃ p, ((k : Int) == g) = p := ⟨_, rfl⟩
      have HQ : Hid (chBit b k = q) := Lib.hid hq
      have HP := Lib.hid hp
      clear hB hb
      cases q
      · cases p
        · have HN := Lib.hid (some_no (b := b) (g := g) (k := k) (by rw [HQ.out, HP.out]; rfl))
          go_wp2
          go_roundw
          case rel => exact ⟨k + 1, by omega, by go_num, HU.out, by rw [HN.out]; exact HB.out⟩
          case measure => simp [intOf]; omega
        · have HN := Lib.hid (some_yes (b := b) (g := g) (k := k) (by rw [HQ.out, HP.out]; rfl))
          go_wp2_with ((at_builtin; refine wpList_app ei_int rfl (.tmp 23) (.tmp 25) rfl _ _ rfl (own_below HB.out (up_alloc _ _)) rfl (RD.one rfl) (by simp [Value.oneCell']) (by omega) (by have := HU.out.size; simp; omega) ?_; intro v5 w5 hown5 hb5; have HO5 := Lib.hid hown5; have HB5 := Lib.hid hb5; clear hown5 hb5))
          go_roundw
          case rel =>
            refine ⟨k + 1, by omega, by go_num, ?_, ?_⟩
            · exact (HU.out.alloc HU.out.size _).trans HB5.out
            · have := HO5.out
              rw [HN.out, List.map_append, List.length_append]
              exact this
          case measure => simp [intOf]; omega
      · have HN := Lib.hid (some_yes (b := b) (g := g) (k := k) (by rw [HQ.out]; rfl))
        go_wp2_with ((at_builtin; refine wpList_app ei_int rfl (.tmp 23) (.tmp 25) rfl _ _ rfl (own_below HB.out (up_alloc _ _)) rfl (RD.one rfl) (by simp [Value.oneCell']) (by omega) (by have := HU.out.size; simp; omega) ?_; intro v5 w5 hown5 hb5; have HO5 := Lib.hid hown5; have HB5 := Lib.hid hb5; clear hown5 hb5))
        go_roundw
        case rel =>
          refine ⟨k + 1, by omega, by go_num, ?_, ?_⟩
          · exact (HU.out.alloc HU.out.size _).trans HB5.out
          · have := HO5.out
            rw [HN.out, List.map_append, List.length_append]
            exact this
        case measure => simp [intOf]; omega
    · obtain rfl : k = n := by omega
      have HI := Lib.hid (IntsPost.of hB hb)
      clear hB hb
      go_wp2
      go_ret
      exact HI.out

set_option maxRecDepth 100000 in
set_option maxHeartbeats 4000000 in
theorem l_each (x y z v : Int) (x0 : 0 ≤ x) (x1 : x ≤ 255) (y0 : 0 ≤ y) (y1 : y ≤ 255) (w : World) :
    Calls Try.prog 5 #[.agg #[.int .u8 x, .int .u8 y, .int .u8 z], .int .i64 v] w fun e w' => e = .returned (.bool true) ∧ Below w.heap.size w w' := by
  have HU := Lib.hid (up_alloc w (.cells #[.int .u8 x, .int .u8 y, .int .u8 z] 36))
  have hr0 := Int.emod_nonneg x (show (6 : Int) ≠ 0 by omega)
  have hr1 := Int.emod_lt_of_pos x (show (0 : Int) < 6 by omega)
  go_enter Try.func5, Try.ntmps5
  go_wp2_with fail
  generalize x % 6 = r at hr0 hr1 ⊢
  obtain ⟨n, hn⟩ : ∃ n : Nat, 1 + r = (n : Int) := ⟨(1 + r).toNat, by omega⟩
  rw [hn]
  have hn0 : 0 < n := by omega
  have hn1 : n ≤ 6 := by omega
  have hg0 := Int.emod_nonneg y (show (n : Int) ≠ 0 by omega)
  have hg1 := Int.emod_lt_of_pos y (show (0 : Int) < (n : Int) by omega)
  generalize y % (n : Int) = g at hg0 hg1 ⊢
  clear hn hr0 hr1
  have hL0 := some_fine (b := z) (g := g) (m := n) (t := 0) (d := 0) (n := n) rfl (by omega) (by omega) (by omega) (by omega) (by omega)
  have hL2 := some_fine (b := z) (g := g) (m := n) (t := 0) (d := 2) (n := n) rfl (by omega) (by omega) (by omega) (by omega) (by omega)
  have hLg := some_mem z g hg0 n hg1
  have hLl := some_len z g n
  refine (c_some z n hn1 g _).mono ?_
  rintro e w1 ⟨A, c, rfl, hlc, hcm, hR1, hb1⟩
  generalize chSome z g n = L at *
  have hl0 : 0 < L.length := List.length_pos_of_mem hLg
  have HE0 := Lib.hid (fine_e hL0 hl0)
  have HE2 := Lib.hid (fine_e hL2 hl0)
  have hp := pri_v (v := v) hL0 hl0
  have HAm := Lib.hid (any_v (v := v) hL2 hl0)
  have HL2 := Lib.hid hL2
  have HG := Lib.hid hLg
  have HU1 := Lib.hid (up_trans HU.out hb1)
  obtain ⟨m, hm⟩ : ∃ m, L.length = m := ⟨_, rfl⟩
  rw [hm] at hl0 hLl hlc hR1 ⊢
  have HL := Lib.hid hm
  have C0 := Lib.hid (fun W h => c_choose (w := W) (A := A) (c := c) (n := m) (L := L) (pl := fun _ => True) h HL.out (by omega) 0 n 0 v)
  have C2 := Lib.hid (fun W h => c_choose (w := W) (A := A) (c := c) (n := m) (L := L) (pl := fun _ => True) h HL.out (by omega) 2 n 0 v)
  rw [HE0.out] at C0
  rw [HE2.out] at C2
  generalize chV 0 n 0 L v = V0 at hp C0
  generalize chV 2 n 0 L v = V2 at HAm C2
  have HR1 := Lib.hid (hR1.lo (pl' := fun _ => True) fun _ _ => trivial)
  have HP := Lib.hid hp
  clear hL0 hL2 hLg hb1 hR1 hm hp
  go_wp2_with fail
  refine (C0.out _ HR1.out).mono ?_; rintro e w2 ⟨rfl, hb2⟩
  have HU2 := Lib.hid (up_trans HU1.out hb2)
  have HR2 := Lib.hid (HR1.out.below hb2)
  clear hb2
  go_wp2_with fail
  refine (C2.out _ HR2.out).mono ?_; rintro e w3 ⟨rfl, hb3⟩
  have HU3 := Lib.hid (up_trans HU2.out hb3)
  have HR3 := Lib.hid (HR2.out.below hb3)
  obtain ⟨b, o, rfl, _, _, hc⟩ := HR3.out.at_ hl0
  have i0 := hc 0 (.int .i64 V0) (by rw [List.getElem?_map, HP.out]; rfl)
  have i0' : w3.cell? ⟨b, o, none⟩ = some (.int .i64 V0) := i0
  have t1 : (V0 != V0) = false := by simp
  clear hb3 hc
  go_wp2_with fail
  go_loopw [12, 13, 64] (fun p q i wr => ∃ k : Nat, k ≤ m ∧ i = .int .i64 k ∧ p = .bool ((L.take k).any (· == V2)) ∧ q = .bool ((L.take k).any (· == g)) ∧ Below w3.heap.size w3 wr) (fun _ _ i _ => m - (intOf i).toNat)
  case atStart => exact ⟨0, Nat.zero_le _, rfl, rfl, rfl, Below.refl _ _⟩
  case round =>
    obtain ⟨k, hk, rfl, rfl, rfl, hb4⟩ := hrel
    have HU4 := Lib.hid (up_trans HU3.out hb4)
    have HB4 := Lib.hid hb4
    have HR4 := Lib.hid (HR3.out.below hb4)
    by_cases hlt : k < m
    · have hex : ∃ u, L[k]? = some u := ⟨_, List.getElem?_eq_getElem (by rw [HL.out]; exact hlt)⟩
      obtain ⟨u, hu⟩ := hex
      obtain ⟨b', o', e', _, _, hc⟩ := HR4.out.at_ hl0
      cases e'
      have h1 := hc k (.int .i64 u) (by rw [List.getElem?_map, hu]; rfl)
      have hA := any_at (m := n) (t := 0) HL2.out hu
      have C5 := Lib.hid (fun W h => c_choose (w := W) (A := some ⟨b, o, none⟩) (c := c) (n := m) (L := L) (pl := fun _ => True) h HL.out (by omega) 2 n 0 k)
      rw [HE2.out, hA] at C5
      have t2 : (u != u) = false := by simp
      have HX2 : Hid ((L.take (k + 1)).any (· == V2) = ((L.take k).any (· == V2) || (u == V2))) := Lib.hid (by rw [ch_take hu, List.any_append]; simp)
      have HXg : Hid ((L.take (k + 1)).any (· == g) = ((L.take k).any (· == g) || (u == g))) := Lib.hid (by rw [ch_take hu, List.any_append]; simp)
      obtain ⟨P, hP⟩ : ∃ P, (L.take k).any (· == V2) = P := ⟨_, rfl⟩
      obtain ⟨Q, hQ⟩ : ∃ Q, (L.take k).any (· == g) = Q := ⟨_, rfl⟩
      rw [hP] at HX2 ⊢
      rw [hQ] at HXg ⊢
      obtain ⟨p2, hp2⟩ : ∃ p2, (u == V2) = p2 := ⟨_, rfl⟩
      obtain ⟨q2, hq2⟩ : ∃ q2, (u == g) = q2 := ⟨_, rfl⟩
      rw [hp2] at HX2
      rw [hq2] at HXg
      clear hb4 hc hu hA hP hQ
      go_wp2_with fail
      refine (C5.out _ HR4.out).mono ?_; rintro e w5 ⟨rfl, hb5⟩
      have HB5 := Lib.hid (HB4.out.trans (hb5.mono HB4.out.size))
      clear hb5
      cases P <;> cases Q
      all_goals
        go_wp2_with fail
        go_roundw
        case rel => exact ⟨k + 1, by omega, by go_num, by rw [HX2.out]; simp, by rw [HXg.out]; simp, HB5.out⟩
        case measure => simp [intOf]; omega
    · have e1 : (L.take k).any (· == V2) = true := by
        rw [show k = m by omega, ← HL.out, List.take_length, List.any_eq_true]
        exact ⟨V2, HAm.out, by simp⟩
      have e2 : (L.take k).any (· == g) = true := by
        rw [show k = m by omega, ← HL.out, List.take_length, List.any_eq_true]
        exact ⟨g, HG.out, by simp⟩
      rw [e1, e2]
      obtain rfl : k = m := by omega
      clear hb4 e1 e2
      go_wp2_with fail
      refine (c_alive _).mono ?_; rintro e w6 ⟨rfl, hb6⟩
      have HU6 := Lib.hid (up_trans HU4.out hb6)
      clear hb6
      go_wp2
      go_ret
      exact ⟨rfl, HU6.out⟩
end Go.Proofs.Ytlnnmigoonbbjaa

/- Package chantab: New. -/
import Derived.Test.YtnmjjemkaamcfaaYe
import Derived.LoopTactic
namespace Go.Proofs.Ytnmjjemkaamcfaa
open Go.RowKit

/-- One element of a slice of structs: where it lies, as a range. -/
theorem RD.row {α : Type} {f : α → List Value} {m : Nat} (hf : ∀ a, (f a).length = m) {w : World} {pl : Nat → Prop} {A : Option Addr} {n : Nat} {l : List α} (h : RD w pl m A n (l.flatMap f)) {k : Nat} {a : α} (ha : l[k]? = some a) (hk : k < n) :
    ∃ b o, A = some ⟨b, o, none⟩ ∧ pl b ∧ b < w.heap.size ∧ w.rangeAt b (o + k * m) (f a) := by
  obtain ⟨b, o, rfl, h1, h2, h3⟩ := h.at_ (by omega)
  refine ⟨b, o, rfl, h1, h2, fun j v hv => ?_⟩
  have hj : j < m := by
    have := (List.getElem?_eq_some_iff.1 hv).1
    rwa [hf] at this
  rw [Nat.add_assoc]
  exact h3 (k * m + j) v (by rw [flat_get f m hf l k j a ha hj]; exact hv)
theorem cfC_one (c : CF) : ∀ v ∈ cfC c, v.oneCell' = true := by
  intro v hv
  simp only [cfC, List.mem_cons, List.not_mem_nil, or_false] at hv
  rcases hv with rfl | rfl | rfl | rfl <;> rfl
set_option maxRecDepth 100000 in
theorem info_cf : (Try.prog.info? 69).map (·.size) = some 4 := by kernel_rfl
theorem few_new {l : List CF} {L : List CQ} (h : L.map Prod.fst = newL l) : fewL 0 L := fun q hq => by
  have h1 : q.1 ∈ L.map Prod.fst := List.mem_map_of_mem hq
  rw [h] at h1
  unfold newL at h1
  split at h1
  · obtain ⟨c, _, hc⟩ := List.mem_map.1 h1
    rw [← hc]
    exact fewC.new 0 c
  · cases h1
/-- What New answers. -/
def NwPost (w : World) (l : List CF) (e : Ending) (w' : World) : Prop :=
  ∃ A' n' c' L', e = .returned (.tuple #[.slice A' n' c', .int .i64 ((newR l).1 : Nat), .int .i64 (newR l).2]) ∧ TbW w' tt A' n' c' L' ∧ L'.map Prod.fst = newL l ∧ Below w.heap.size w w'
theorem tab_made (n : Nat) : (madeCells (Value.agg chZ.toArray).cells (n * 11)).toList = (List.replicate n zeroQ).flatMap cellsQ := by
  rw [made_list _ 11 rfl, List.flatMap_def, List.map_replicate]
  rfl

set_option maxRecDepth 100000 in
set_option maxHeartbeats 4000000 in
theorem c_tnew {w : World} {pl : Nat → Prop} {A : Option Addr} {n c : Nat} {l : List CF} (hR : RD w pl 4 A n (l.flatMap cfC)) (hl : l.length = n) :
    Calls Try.prog 17 #[.slice A n c] w (NwPost w l) := by
  have HR := Lib.hid hR
  have HL := Lib.hid hl
  obtain ⟨r, hr⟩ : ∃ r, newR l = r := ⟨_, rfl⟩
  have HNR := Lib.hid hr
  by_cases h8 : (8 : Int) < n
  · have e1 : Hid (newR l = (8, 5)) := Lib.hid (by unfold newR; rw [if_pos (by omega)])
    have e2 : Hid (newL l = []) := Lib.hid (by unfold newL; rw [e1.out]; rfl)
    clear hR hl hr HNR
    go_enter Try.func17, Try.ntmps17
    go_wp2
    go_ret3
    refine ⟨none, 0, 0, [], by rw [e1.out]; rfl, TbW.none _ _, by rw [e2.out]; rfl, Below.refl _ _⟩
  · have HE : Hid (newR l = newRun 0 l) := Lib.hid (by unfold newR; rw [if_neg (by omega)])
    have hmk := fun W => run_mk ei_ct n (by omega) W
    have hM := tab_made n
    generalize madeCells (Value.agg chZ.toArray).cells (n * 11) = cs at hmk hM
    have H0 : Hid (OwT (w.alloc (.cells cs 73)) 73 w.heap.size (.slice (some ⟨w.heap.size, 0, none⟩) n n) n (newQ l 0)) := Lib.hid (by
      have hq : newQ l 0 = List.replicate n zeroQ := by unfold newQ; rw [hl]; simp
      have hlen : cs.size = n * 11 := by
        have := congrArg List.length hM
        rw [flat_len cellsQ 11 cellsQ_len, List.length_replicate] at this
        simpa using this
      refine ⟨⟨by rw [hq, flat_len cellsQ 11 cellsQ_len, List.length_replicate], .inr ⟨w.heap.size, n, cs, rfl, Nat.le_refl _, by have := Blk.new w cs.toList 73; unfold Blk at this; rwa [Array.toArray_toList] at this, Nat.le_refl _, by unfold maxLen; omega, hlen, ?_⟩⟩, fun q hqm => ?_⟩
      · rw [hM, hq, List.take_of_length_le]
        rw [flat_len cellsQ 11 cellsQ_len, List.length_replicate]
        exact Nat.le_refl _
      · rw [hq] at hqm
        obtain rfl := (List.mem_replicate.1 hqm).2
        exact ChW.nil _ _ ⟨rfl, rfl, rfl, rfl⟩)
    clear hR hl hr hM HNR
    go_enter Try.func17, Try.ntmps17
    go_wp2_with fail
    go_loopw [18] (fun i wr => ∃ k : Nat, k ≤ n ∧ i = .int .i64 k ∧ newRun 0 l = newRun k (l.drop k) ∧ OwT wr 73 w.heap.size (.slice (some ⟨w.heap.size, 0, none⟩) n n) n (newQ l k) ∧ Below w.heap.size w wr) (fun i _ => n - (intOf i).toNat)
    case atStart => exact ⟨0, Nat.zero_le _, rfl, rfl, H0.out, up_alloc _ _⟩
    case round =>
      obtain ⟨k, hk, rfl, hrun, ho, hbw⟩ := hrel
      by_cases hlt : k < n
      · have hkl : k < l.length := by rw [HL.out]; exact hlt
        obtain ⟨b, o, rfl, _, hbl, hrg⟩ := RD.row cfC_len (HR.out.below hbw) (List.getElem?_eq_getElem hkl) hlt
        have hdr : l.drop k = l[k] :: l.drop (k + 1) := List.drop_eq_getElem_cons hkl
        have hnx := newQ_next l k hkl
        generalize l[k] = cf at hrg hdr hnx
        have HRG := Lib.hid hrg
        have HDR := Lib.hid hdr
        have HNX := Lib.hid hnx
        have HRN := Lib.hid hrun
        have HO := Lib.hid ho
        have HB := Lib.hid hbw
        have HBX := Lib.hid (Blk.new wr (cfC cf) 69)
        have CN := Lib.hid (fun W => c_chnew cf.k cf.r cf.i cf.o W)
        obtain ⟨x, hx⟩ : ∃ x, cfE cf = x := ⟨_, rfl⟩
        obtain ⟨N, hN⟩ : ∃ N, cfN cf = N := ⟨_, rfl⟩
        have hx' : ccE cf.k cf.r cf.i cf.o = x := hx
        have hN' : chNew cf.k cf.r cf.i cf.o = N := hN
        rw [hx', hN'] at CN
        have HX := Lib.hid hx
        have HN := Lib.hid hN
        clear hrg hdr hnx hrun ho hbw hbl hkl hx hN hx' hN'
        go_wp2_with (first | (refine lm_row' (cs := cfC cf) (.tmp 21) rfl rfl Try.underlying69 rfl info_cf rfl ?_ ?_; (· exact HRG.out)) | (refine sn_row' (t := 69) (W := wr) (cs := cfC cf) (zs := [.int .i64 0, .int .i64 0, .int .i64 0, .int .i64 0]) (.tmp 7) (.tmp 22) rfl rfl rfl rfl info_cf rfl (cfC_one cf) ?_ ?_ ?_; (· rfl); (· rfl)) | (refine ld_row' (cs := cfC cf) (t := 69) (.tmp 7) rfl rfl Try.underlying69 rfl info_cf rfl ?_ ?_; (· exact HBX.out)))
        refine (CN.out _).mono ?_; rintro e w2 ⟨rfl, hb2⟩
        have hb3 := up_trans (up_trans (up_alloc wr (.cells (cfC cf).toArray 69)) hb2) (up_alloc w2 (.cells (chC N SM.nil).toArray 73))
        have HB3 := Lib.hid hb3
        have HBY := Lib.hid (Blk.new w2 (chC N SM.nil) 73)
        have HO3 := Lib.hid (HO.out.below hb3)
        have HTH : Hid ((w2.alloc (.cells (chC N SM.nil).toArray 73)).there w.heap.size (k * 11) (chC N SM.nil).length) := Lib.hid (HO3.out.th k hlt)
        clear hb2 hb3
        by_cases h0 : x = 0
        · subst h0
          have HN0 : Hid (newRun 0 l = newRun (k + 1) (l.drop (k + 1))) := Lib.hid (by rw [HRN.out, HDR.out, newRun_step HX.out])
          have HV : Hid (ChW (w2.alloc (.cells (chC N SM.nil).toArray 73)) (notOwn (.slice (some ⟨w.heap.size, 0, none⟩) n n)) N SM.nil) := Lib.hid (ChW.nil _ _ (by
            rw [← HN.out]
            unfold cfN chNew
            cases ccE cf.k cf.r cf.i cf.o == 0 <;> exact ⟨rfl, rfl, rfl, rfl⟩))
          go_wp2_with (first | (refine sn_row' (t := 73) (W := w2) (cs := chC N SM.nil) (zs := chZ) (.tmp 8) (.tmp 26) rfl rfl rfl rfl info_ch rfl chC_one ?_ ?_ ?_; (· rfl); (· rfl)) | (refine ld_row' (cs := chC N SM.nil) (t := 73) (.tmp 8) rfl rfl Try.underlying73 rfl info_ch rfl ?_ ?_; (· exact HBY.out)) | (refine sm_row (b := w.heap.size) (q := k * 11) (cs := chC N SM.nil) (.tmp 35) (.tmp 34) rfl rfl rfl rfl info_ch chC_one ?_ ?_; · exact HTH.out))
          go_roundw
          case rel =>
            refine ⟨k + 1, by omega, by go_num, HN0.out, ?_, ?_⟩
            · rw [← HNX.out, HN.out]
              exact HO3.out.put k hlt (N, SM.nil) HV.out
            · exact Only.later (up_trans HB.out HB3.out) (only_cells _ _ _) (by rintro i rfl; exact Nat.le_refl _)
          case measure => simp [intOf]; omega
        · have hx1 : (x != 0) = true := by simp [bne, h0]
          have HRR : Hid (newR l = (k, x)) := Lib.hid (by
            rw [HE.out, HRN.out, HDR.out, newRun_stop (by rw [HX.out]; exact h0), HX.out])
          have HLL : Hid (newL l = []) := Lib.hid (by unfold newL; rw [HRR.out, if_neg h0])
          clear h0
          go_wp2_with (refine sn_row' (t := 73) (W := w2) (cs := chC N SM.nil) (zs := chZ) (.tmp 8) (.tmp 26) rfl rfl rfl rfl info_ch rfl chC_one ?_ ?_ ?_; (· rfl); (· rfl))
          go_ret3
          exact ⟨none, 0, 0, [], by rw [HRR.out]; rfl, TbW.none _ _, by rw [HLL.out]; rfl, up_trans HB.out HB3.out⟩
      · obtain rfl : k = n := by omega
        have HRR : Hid (newR l = (0, 0)) := Lib.hid (by rw [HE.out, hrun, List.drop_of_length_le (by rw [HL.out]; exact Nat.le_refl _)]; rfl)
        have HLL : Hid ((newQ l k).map Prod.fst = newL l) := Lib.hid (by
          unfold newL newQ
          rw [HRR.out, if_pos rfl, List.take_of_length_le (by rw [HL.out]; exact Nat.le_refl _), HL.out, Nat.sub_self, List.replicate_zero, List.append_nil, List.map_map]
          rfl)
        have HO := Lib.hid ho
        have HB := Lib.hid hbw
        clear hrun ho hbw
        go_wp2
        go_ret3
        obtain ⟨A', c', e', htb⟩ := HO.out.tb
        injection e' with e1 e2 e3
        subst e1 e3
        exact ⟨_, _, _, _, by rw [HRR.out]; rfl, htb.lo (fun _ _ => trivial), HLL.out, HB.out⟩
end Go.Proofs.Ytnmjjemkaamcfaa

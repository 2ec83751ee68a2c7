/- Package chantab: Leave. -/
import Derived.Test.YtnmjjemkaamcfaaYc
import Derived.Test.YtnmjjemkaamcfaaJh
import Derived.LoopTactic
namespace Go.Proofs.Ytnmjjemkaamcfaa
open Go.RowKit

theorem mapto_next {α : Type} (f : α → α) (Cs : List α) (k : Nat) (hk : k < Cs.length) : ((Cs.take k).map f ++ Cs.drop k).set k (f Cs[k]) = (Cs.take (k + 1)).map f ++ Cs.drop (k + 1) := by
  have h0 : k - ((Cs.take k).map f).length = 0 := by simp; omega
  rw [List.drop_eq_getElem_cons hk, List.set_append_right _ _ (by simp; omega), h0, List.set_cons_zero, ln_take_snoc Cs k hk, List.map_append, List.append_assoc]
  rfl
theorem mapto_at {α : Type} (f : α → α) (Cs : List α) (k : Nat) (hk : k < Cs.length) : ((Cs.take k).map f ++ Cs.drop k)[k]? = some Cs[k] := by
  have h0 : k - ((Cs.take k).map f).length = 0 := by simp; omega
  rw [List.getElem?_append_right (by simp; omega), h0, List.drop_eq_getElem_cons hk]
  rfl
theorem map_fst_at {L : List CQ} {k : Nat} {q : CQ} (h : L[k]? = some q) : (L.map Prod.fst)[k]? = some q.1 := by rw [List.getElem?_map, h]; rfl
theorem fewL.set {b : Nat} {L : List CQ} (h : fewL b L) (k : Nat) {q : CQ} (hq : fewC b q.1) : fewL b (L.set k q) := fun x hx => by
  rcases List.mem_or_eq_of_mem_set hx with hx | rfl
  · exact h x hx
  · exact hq
/-- The table that Leave answers. -/
def LvPost (w : World) (n : Nat) (Cs : List CP) (b : Nat) (p : Int) (e : Ending) (w' : World) : Prop :=
  ∃ v L', e = .returned v ∧ OwT w' 73 w.heap.size v n L' ∧ L'.map Prod.fst = Cs.map (chLeave · p) ∧ fewL b L' ∧ Below w.heap.size w w'

set_option maxRecDepth 100000 in
set_option maxHeartbeats 4000000 in
theorem c_tleave {w : World} {pl : Nat → Prop} {A : Option Addr} {n c : Nat} {L : List CQ} (h : TbW w pl A n c L) {b : Nat} (hf : fewL b L) (hb : b ≤ 1000) (hn : n ≤ 1000) (p : Int) :
    Calls Try.prog 15 #[.slice A n c, .int .i64 p] w (LvPost w n (L.map Prod.fst) b p) := by
  have CC := Lib.hid (c_tclone h (by omega))
  obtain ⟨Cs, hCs⟩ : ∃ Cs, L.map Prod.fst = Cs := ⟨_, rfl⟩
  have hlen : Cs.length = n := by rw [← hCs, List.length_map, h.len]
  have HL := Lib.hid hlen
  have HF := Lib.hid hf
  have HC := Lib.hid hCs
  rw [hCs]
  clear h hf hCs hlen
  go_enter Try.func15, Try.ntmps15
  go_wp2_with fail
  refine CC.out.mono ?_; rintro e w1 ⟨v1, rfl, ho1, hb1⟩
  obtain ⟨A1, c1, hv1, _⟩ := own_slice ho1.own
  subst hv1
  have HO := Lib.hid ho1
  have HB := Lib.hid hb1
  clear ho1 hb1
  go_wp2_with fail
  go_loopw [12] (fun i wr => ∃ k : Nat, k ≤ n ∧ i = .int .i64 k ∧ ∃ L1, OwT wr 73 w.heap.size (.slice A1 n c1) n L1 ∧ L1.map Prod.fst = (Cs.take k).map (chLeave · p) ++ Cs.drop k ∧ fewL b L1 ∧ Below w.heap.size w wr) (fun i _ => n - (intOf i).toNat)
  case atStart => exact ⟨0, Nat.zero_le _, rfl, L, HO.out, by simpa using HC.out, HF.out, HB.out⟩
  case round =>
    obtain ⟨k, hk, rfl, L1, ho, hm, hfew, hbw⟩ := hrel
    by_cases hlt : k < n
    · have hkC : k < Cs.length := by rw [HL.out]; exact hlt
      obtain ⟨g, c2, q, hv, hlo, hgt, hq, hrg, hth, hch⟩ := ho.at_ k hlt
      injection hv with hv1 hv2 hv3
      subst hv1
      subst hv3
      clear hv2
      have hqe : q.1 = Cs[k] := by
        have h1 := map_fst_at hq
        rw [hm, mapto_at _ Cs k hkC] at h1
        injection h1 with h1
        exact h1.symm
      have HQ := Lib.hid hqe
      have HM := Lib.hid hm
      have HO1 := Lib.hid ho
      have HFW := Lib.hid hfew
      have HB1 := Lib.hid hbw
      have HRG := Lib.hid hrg
      have HLO := Lib.hid hlo
      have HBX := Lib.hid (Blk.new wr (cellsQ q) 73)
      have hoA := ho.below (up_alloc wr (.cells (cellsQ q).toArray 73))
      have hfq := hfew q (List.mem_of_getElem? hq)
      have HFQ := Lib.hid hfq
      have CL := Lib.hid (c_chleave (hch.below (up_alloc wr (.cells (cellsQ q).toArray 73))) (hfq.few hb hch) hoA.new p)
      have HOA := Lib.hid hoA
      obtain ⟨C2, hC2⟩ : ∃ C2, chLeave q.1 p = C2 := ⟨_, rfl⟩
      rw [hC2] at CL
      have HC2 := Lib.hid hC2
      clear hqe hm ho hfew hbw hq hrg hth hch hgt hlo hoA hfq hC2
      go_wp2_with (first | (refine lm_row HRG.out (.tmp 15) rfl rfl Try.underlying73 rfl info_ch rfl ?_) | (refine sn_row (W := wr) (cs := cellsQ q) (zs := chZ) (.tmp 7) (.tmp 16) rfl rfl rfl rfl rfl rfl info_ch rfl chC_one ?_) | (refine ld_row HBX.out rfl (.tmp 7) rfl rfl Try.underlying73 rfl info_ch ?_))
      refine CL.out.mono ?_; rintro e w2 ⟨M2, rfl, h2, hb2⟩
      have ho2 := HOA.out.below hb2
      have HTH : Hid (w2.there g (k * 11) (chC C2 M2).length) := Lib.hid (ho2.th k hlt)
      have HO2 := Lib.hid ho2
      have H2 := Lib.hid h2
      have HB2 := Lib.hid hb2
      clear ho2 h2 hb2
      go_wp2_with (refine sm_row (b := g) (q := k * 11) (cs := chC C2 M2) (.tmp 22) (.tmp 21) rfl rfl rfl rfl info_ch chC_one ?_ ?_; · exact HTH.out)
      go_roundw
      case rel =>
        refine ⟨k + 1, by omega, by go_num, L1.set k (C2, M2), HO2.out.put k hlt (C2, M2) H2.out, ?_, HFW.out.set k (by rw [← HC2.out]; exact HFQ.out.leave p), ?_⟩
        · rw [List.map_set, HM.out, ← mapto_next _ Cs k (by rw [HL.out]; exact hlt), ← HQ.out, HC2.out]
        · exact Only.later (up_trans HB1.out (up_trans (up_alloc _ _) HB2.out)) (only_cells _ _ _) (by rintro i rfl; exact HLO.out)
      case measure => simp [intOf]; omega
    · obtain rfl : k = n := by omega
      have HO1 := Lib.hid ho
      have HM : Hid (L1.map Prod.fst = Cs.map (chLeave · p)) := Lib.hid (by rw [hm, ← HL.out, List.take_length, List.drop_length, List.append_nil])
      have HFW := Lib.hid hfew
      have HB1 := Lib.hid hbw
      clear ho hm hfew hbw
      go_wp2
      go_ret
      exact ⟨_, L1, rfl, HO1.out, HM.out, HFW.out, HB1.out⟩
end Go.Proofs.Ytnmjjemkaamcfaa

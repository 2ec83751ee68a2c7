/- Package proc: Handles. -/
import Derived.Test.YtflpjpdgacjlcaaPrl
import Derived.Test.YtflpjpdgacjlcaaPrf
import Derived.Laws.OwnMore
import Derived.LoopTactic
namespace Go.Proofs.Ytflpjpdgacjlcaa
open Go.RowKit

/-- The numbers, the first k of them turned. -/
def turnF (f : Int → Int) (zs : List Int) (k : Nat) : List Int := (zs.take k).map f ++ zs.drop k
theorem turnF_len (f : Int → Int) (zs : List Int) (k : Nat) : (turnF f zs k).length = zs.length := by
  unfold turnF
  simp
  omega
theorem turnF_zero (f : Int → Int) (zs : List Int) : turnF f zs 0 = zs := rfl
theorem turnF_all (f : Int → Int) (zs : List Int) : turnF f zs zs.length = zs.map f := by
  unfold turnF
  rw [List.take_length, List.drop_length, List.append_nil]
theorem turnF_at (f : Int → Int) (zs : List Int) (k : Nat) (z : Int) (h : zs[k]? = some z) : (turnF f zs k)[k]? = some z := by
  have hk := (List.getElem?_eq_some_iff.1 h).1
  unfold turnF
  rw [List.getElem?_append_right (by simp; omega)]
  simp only [List.length_map, List.length_take, List.getElem?_drop]
  rw [← h]
  congr 1
  omega
theorem turnF_next (f : Int → Int) (zs : List Int) (k : Nat) (z : Int) (h : zs[k]? = some z) : (turnF f zs k).set k (f z) = turnF f zs (k + 1) := by
  have hk := (List.getElem?_eq_some_iff.1 h).1
  have hz : zs[k] = z := (List.getElem?_eq_some_iff.1 h).2
  unfold turnF
  rw [List.set_append_right _ _ (by simp; omega), List.length_map, List.length_take, Nat.min_eq_left (by omega), Nat.sub_self, List.drop_eq_getElem_cons hk, List.set_cons_zero, List.take_add_one, h, List.map_append, List.append_assoc]
  rfl
theorem handles_is (L : List PR) : handlesT L = (plsF (fun q => q.mode != 3) L).map fun p => makeH p (getP L p).gen := by
  unfold handlesT plsF
  split <;> rfl
theorem plsF_mem {p : PR → Bool} {L : List PR} {x : Int} (h : x ∈ plsF p L) : 0 ≤ x ∧ x < L.length := by
  unfold plsF at h
  split at h
  · next hf =>
    have := plsT_mem h
    have := fineT_len hf
    omega
  · cases h
theorem plsF_len (p : PR → Bool) (L : List PR) : (plsF p L).length ≤ 16 := by
  unfold plsF
  split
  · exact plsT_len _ _ _
  · simp
set_option maxRecDepth 100000 in
set_option maxHeartbeats 4000000 in
theorem c_prhandles {w : World} {pl : Nat → Prop} {A : Option Addr} {n c : Nat} {L : List PR} (hR : TW prK w pl A n L) :
    Calls Try.prog 18 #[.slice A n c] w (IntsPost w (handlesT L)) := by
  have C := Lib.hid (c_prplaces (c := c) hR (.inr ⟨rfl, rfl⟩) (ps_over w))
  rw [handles_is]
  obtain ⟨zs, hz⟩ : ∃ zs, plsF (fun q => q.mode != 3) L = zs := ⟨_, rfl⟩
  have hmem := fun x (h : x ∈ plsF (fun q => q.mode != 3) L) => plsF_mem h
  have hlen := plsF_len (fun q => q.mode != 3) L
  rw [hz] at C hmem hlen ⊢
  have HR := Lib.hid hR
  have HM := Lib.hid hmem
  have HL := Lib.hid hlen
  clear hz hmem hR
  go_enter Try.func18, Try.ntmps18
  go_wp2_with fail
  refine C.out.mono ?_
  rintro e w2 ⟨v, rfl, hown, hb⟩
  have HB2 := Lib.hid hb
  clear hb C
  by_cases h0 : zs.length = 0
  · have HZ : Hid (zs = []) := Lib.hid (List.eq_nil_of_length_eq_zero h0)
    obtain ⟨A', c', rfl, _, _, _⟩ := own_slice hown
    have HO := Lib.hid hown
    rw [h0] at HO ⊢
    clear hown hlen
    have hlt0 : decide ((0 : Int) < ((0 : Nat) : Int)) = false := by simp
    go_wp2_with fail
    go_loopw [10] (fun i wr => i = .int .i64 0 ∧ wr = w2) (fun _ _ => 0)
    case atStart => exact ⟨rfl, rfl⟩
    case round =>
      obtain ⟨rfl, rfl⟩ := hrel
      go_wp2
      go_ret
      have hO := HO.out
      rw [HZ.out] at hO ⊢
      exact IntsPost.of hO HB2.out
  · obtain ⟨m, hm⟩ : ∃ m, zs.length = m := ⟨_, rfl⟩
    rw [hm] at hown h0 hlen
    obtain ⟨g, cap, rfl, hg⟩ : ∃ g cap, v = .slice (some ⟨g, 0, none⟩) m cap ∧ w.heap.size ≤ g := by
      rcases hown.2 with ⟨_, h⟩ | ⟨g, cap, cur, h, hlo, _⟩
      · exact absurd h h0
      · exact ⟨g, cap, h, hlo⟩
    have HO0 := Lib.hid hown
    have HG := Lib.hid hg
    have HZL := Lib.hid hm
    clear hown hg hm
    go_wp2_with fail
    go_loopw [10] (fun i wr => ∃ k : Nat, k ≤ m ∧ i = .int .i64 k ∧ wr.ownsRow w.heap.size 3 1 (.slice (some ⟨g, 0, none⟩) m cap) m ((turnF (fun p => makeH p (getP L p).gen) zs k).map (Value.int .i64)) ∧ Below w.heap.size w wr) (fun i _ => m - (intOf i).toNat)
    case atStart => exact ⟨0, Nat.zero_le _, rfl, by rw [turnF_zero]; exact HO0.out, HB2.out⟩
    case round =>
      obtain ⟨k, hk, rfl, hown, hbw⟩ := hrel
      have HB := Lib.hid hbw
      have HO := Lib.hid hown
      by_cases hlt : k < m
      · have hz : ∃ z, zs[k]? = some z := ⟨_, List.getElem?_eq_getElem (by rw [HZL.out]; exact hlt)⟩
        obtain ⟨z, hz⟩ := hz
        have hzm := HM.out z (List.mem_of_getElem? hz)
        obtain ⟨j, rfl⟩ : ∃ j : Nat, z = j := ⟨z.toNat, by omega⟩
        have HT := Lib.hid (c_prtold (c := c) (HR.out.below hbw) j (by have := HR.out.len; omega))
        have c1 : wr.cell? ⟨g, k, none⟩ = some (.int .i64 j) := by
          rw [hown.cellAt k (by omega), List.getElem?_map, turnF_at _ _ _ _ hz]
          rfl
        have f1 := hown.frozenAt k
        have HS : Hid ((wr.setCell ⟨g, k, none⟩ (.int .i64 (makeH j (getP L j).gen))).ownsRow w.heap.size 3 1 (.slice (some ⟨g, 0, none⟩) m cap) m ((turnF (fun p => makeH p (getP L p).gen) zs (k + 1)).map (Value.int .i64))) := Lib.hid (by
          have := (hown.stored k (.int .i64 (makeH j (getP L j).gen))).1
          rw [← List.map_set] at this
          rw [← turnF_next (fun p => makeH p (getP L p).gen) zs k j hz]
          exact this)
        have HU : Hid (Below w.heap.size w (wr.setCell ⟨g, k, none⟩ (.int .i64 (makeH j (getP L j).gen)))) := Lib.hid (hbw.setCell (p := ⟨g, k, none⟩) HG.out _)
        generalize makeH (j : Int) (getP L (j : Int)).gen = x at HT HS HU
        clear hown hbw hz hzm
        go_wp2_with fail
        refine HT.out.mono ?_; rintro e w4 ⟨rfl, rfl⟩
        go_wp2
        go_roundw
        case rel => exact ⟨k + 1, by omega, by go_num, HS.out, HU.out⟩
        case measure => simp [intOf]; omega
      · obtain rfl : k = m := by omega
        clear hown hbw
        go_wp2
        go_ret
        have hO := HO.out
        rw [show turnF (fun p => makeH p (getP L p).gen) zs k = zs.map (fun p => makeH p (getP L p).gen) by rw [← HZL.out]; exact turnF_all _ _] at hO
        exact IntsPost.of hO HB.out
end Go.Proofs.Ytflpjpdgacjlcaa

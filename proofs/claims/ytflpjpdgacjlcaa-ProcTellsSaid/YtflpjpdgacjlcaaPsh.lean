/- The document's In and Handles of layer 31. -/
import Derived.Test.YtflpjpdgacjlcaaPsd
import Derived.Test.YtflpjpdgacjlcaaPrm
namespace Go.Proofs.Ytflpjpdgacjlcaa
open Go.RowKit

theorem in_no {L : List PR} (p : PR → Bool) (h : fineT L = false) : plsF p L = [] := if_neg (by rw [h]; decide)
set_option maxRecDepth 100000 in
set_option maxHeartbeats 4000000 in
theorem c_rprin {w : World} {pl : Nat → Prop} {A : Option Addr} {n c : Nat} {L : List PR} (hR : TW prK w pl A n L) (m : Int) :
    Calls Try.prog 17 #[.slice A n c, .int .i64 m] w (IntsPost w (inT L m)) := by
  have CF := fun W (hb : Below w.heap.size w W) => c_rprfine (c := c) (hR.below hb)
  have HR := Lib.hid hR
  have hl := hR.len
  cases hf : fineT L
  · have HE : Hid (inT L m = []) := Lib.hid (if_neg (by rw [hf]; decide))
    rw [hf] at CF
    have CF := Lib.hid CF
    rw [HE.out]
    clear hR hl hf
    go_enter Try.func17, Try.ntmps17
    go_wp2_with fail
    go_loopw [5, 6] (fun v i wr => v = .slice none 0 0 ∧ i = .int .i64 0 ∧ Below w.heap.size w wr) (fun _ _ _ => 0)
    case atStart => exact ⟨rfl, rfl, Below.refl _ _⟩
    case round =>
      obtain ⟨rfl, rfl, hb⟩ := hrel
      have HB := Lib.hid hb
      clear hb
      go_wp2_with fail
      refine (CF.out _ HB.out).mono ?_; rintro e w2 ⟨rfl, hb2⟩
      have HB2 := Lib.hid (up_trans HB.out hb2)
      clear hb2
      go_wp2
      go_ret
      exact ⟨none, 0, rfl, Nat.le_refl _, by unfold maxLen; omega, RD.nil _ _ _ _, HB2.out⟩
  rw [hf] at CF
  have CF := Lib.hid CF
  have HE : Hid (inT L m = plsT (fun q => q.mode == m) L 16) := Lib.hid (if_pos hf)
  have H16 := Lib.hid (show n = 16 by have := fineT_len hf; omega)
  clear hR hl hf
  go_enter Try.func17, Try.ntmps17
  go_wp2_with fail
  go_loopw [5, 6] (fun v i wr => ∃ k : Nat, k ≤ 16 ∧ i = .int .i64 k ∧ wr.ownsRow w.heap.size 3 1 v (plsT (fun q => q.mode == m) L k).length ((plsT (fun q => q.mode == m) L k).map (Value.int .i64)) ∧ Below w.heap.size w wr) (fun _ i _ => 16 - (intOf i).toNat)
  case atStart => exact ⟨0, Nat.zero_le _, rfl, World.ownsRow_nil _ _ _ _, Below.refl _ _⟩
  case round =>
    obtain ⟨k, hk, rfl, hown, hbw⟩ := hrel
    have HB := Lib.hid hbw
    have HO := Lib.hid hown
    have HLN := Lib.hid (plsT_len (fun q => q.mode == m) L k)
    by_cases hlt : k < 16
    · have hkn : k < n := by have := H16.out; omega
      have HKN := Lib.hid hkn
      have hk0 : (0 : Int) ≤ k := by omega
      have hk1 : (k : Int) < (n : Int) := by omega
      clear hown hbw hkn
      go_wp2_with fail
      refine (CF.out _ HB.out).mono ?_; rintro e w2 ⟨rfl, hb2⟩
      have HB2 := Lib.hid (up_trans HB.out hb2)
      have HO2 := Lib.hid (own_below HO.out hb2)
      obtain ⟨b, o, q, rfl, _, hq, _, _, c1, c38, _⟩ := pr_at (HR.out.below HB2.out) k HKN.out
      have HG := Lib.hid (getP_of hq)
      obtain ⟨lv, hlv⟩ : ∃ r, q.live = r := ⟨_, rfl⟩
      obtain ⟨x, hx⟩ : ∃ r, (q.mode == m) = r := ⟨_, rfl⟩
      rw [hlv] at c1
      have HLV := Lib.hid hlv
      have HXV := Lib.hid hx
      have hsz := HB2.out.size
      have hlk := HLN.out
      clear hb2 hq hlv
      cases lv
      · have HNX : Hid (plsT (fun q => q.mode == m) L (k + 1) = plsT (fun q => q.mode == m) L k) := Lib.hid (plsT_no (by rw [HG.out, HLV.out]; rfl))
        go_wp2
        go_roundw
        case rel => exact ⟨k + 1, by omega, by go_num, by rw [HNX.out]; exact HO2.out, HB2.out⟩
        case measure => simp [intOf]; omega
      · cases x
        · have HNX : Hid (plsT (fun q => q.mode == m) L (k + 1) = plsT (fun q => q.mode == m) L k) := Lib.hid (plsT_no (by rw [HG.out, HLV.out, HXV.out]; rfl))
          go_wp2
          go_roundw
          case rel => exact ⟨k + 1, by omega, by go_num, by rw [HNX.out]; exact HO2.out, HB2.out⟩
          case measure => simp [intOf]; omega
        · have HNX : Hid (plsT (fun q => q.mode == m) L (k + 1) = plsT (fun q => q.mode == m) L k ++ [(k : Int)]) := Lib.hid (plsT_yes (by rw [HG.out, HLV.out, HXV.out]; rfl))
          go_wp2_with (at_builtin; refine wpList_app ei_int rfl (.tmp 29) (.tmp 31) rfl _ _ rfl (HO2.out.alloc _) rfl (RD.one (by simp)) (by simp [Value.oneCell']) (by omega) (by simp; omega) ?_; intro v' w5 hown1 hb1)
          go_roundw
          case rel => exact ⟨k + 1, by omega, by go_num, by rw [HNX.out, List.map_append, List.length_append]; exact hown1, (up_trans HB2.out (up_alloc _ _)).trans hb1⟩
          case measure => simp [intOf]; omega
    · obtain rfl : k = 16 := by omega
      rw [show ((16 : Nat) : Int) = 16 from rfl]
      clear hown hbw
      go_wp2
      go_ret
      rw [HE.out]
      exact IntsPost.of HO.out HB.out

set_option maxRecDepth 100000 in
set_option maxHeartbeats 4000000 in
theorem c_rprhandles {w : World} {pl : Nat → Prop} {A : Option Addr} {n c : Nat} {L : List PR} (hR : TW prK w pl A n L) :
    Calls Try.prog 19 #[.slice A n c] w (IntsPost w (handlesT L)) := by
  have CF := fun W (hb : Below w.heap.size w W) => c_rprfine (c := c) (hR.below hb)
  have CH := fun (k : Nat) W (hb : Below w.heap.size w W) => c_rprhandle (c := c) (hR.below hb) (k : Int)
  have HR := Lib.hid hR
  have hl := hR.len
  cases hf : fineT L
  · have HE : Hid (handlesT L = []) := Lib.hid (if_neg (by rw [hf]; decide))
    rw [hf] at CF
    have CF := Lib.hid CF
    rw [HE.out]
    clear hR hl hf CH
    go_enter Try.func19, Try.ntmps19
    go_wp2_with fail
    go_loopw [3, 4] (fun v i wr => v = .slice none 0 0 ∧ i = .int .i64 0 ∧ Below w.heap.size w wr) (fun _ _ _ => 0)
    case atStart => exact ⟨rfl, rfl, Below.refl _ _⟩
    case round =>
      obtain ⟨rfl, rfl, hb⟩ := hrel
      have HB := Lib.hid hb
      clear hb
      go_wp2_with fail
      refine (CF.out _ HB.out).mono ?_; rintro e w2 ⟨rfl, hb2⟩
      have HB2 := Lib.hid (up_trans HB.out hb2)
      clear hb2
      go_wp2
      go_ret
      exact ⟨none, 0, rfl, Nat.le_refl _, by unfold maxLen; omega, RD.nil _ _ _ _, HB2.out⟩
  rw [hf] at CF
  have CF := Lib.hid CF
  have CH := Lib.hid CH
  have HHA : Hid (∀ k : Nat, k < 16 → (getP L (k : Nat)).live = true → handleT L k = makeH k (getP L k).gen) := Lib.hid (fun k hk hlv => by
    unfold handleT
    rw [if_pos ⟨hf, by rw [there_at (by rw [fineT_len hf]; exact hk)]; exact hlv⟩])
  have HE : Hid (handlesT L = (plsT (fun q => q.mode != 3) L 16).map fun p => makeH p (getP L p).gen) := Lib.hid (if_pos hf)
  have H16 := Lib.hid (show n = 16 by have := fineT_len hf; omega)
  clear hR hl hf
  go_enter Try.func19, Try.ntmps19
  go_wp2_with fail
  go_loopw [3, 4] (fun v i wr => ∃ k : Nat, k ≤ 16 ∧ i = .int .i64 k ∧ wr.ownsRow w.heap.size 3 1 v (plsT (fun q => q.mode != 3) L k).length (((plsT (fun q => q.mode != 3) L k).map fun p => makeH p (getP L p).gen).map (Value.int .i64)) ∧ Below w.heap.size w wr) (fun _ i _ => 16 - (intOf i).toNat)
  case atStart => exact ⟨0, Nat.zero_le _, rfl, World.ownsRow_nil _ _ _ _, Below.refl _ _⟩
  case round =>
    obtain ⟨k, hk, rfl, hown, hbw⟩ := hrel
    have HB := Lib.hid hbw
    have HO := Lib.hid hown
    have HLN := Lib.hid (plsT_len (fun q => q.mode != 3) L k)
    by_cases hlt : k < 16
    · have hkn : k < n := by have := H16.out; omega
      have HKN := Lib.hid hkn
      have hk0 : (0 : Int) ≤ k := by omega
      have hk1 : (k : Int) < (n : Int) := by omega
      clear hown hbw hkn
      go_wp2_with fail
      refine (CF.out _ HB.out).mono ?_; rintro e w2 ⟨rfl, hb2⟩
      have HB2 := Lib.hid (up_trans HB.out hb2)
      have HO2 := Lib.hid (own_below HO.out hb2)
      obtain ⟨b, o, q, rfl, _, hq, _, _, c1, c38, _⟩ := pr_at (HR.out.below HB2.out) k HKN.out
      have HG := Lib.hid (getP_of hq)
      obtain ⟨lv, hlv⟩ : ∃ r, q.live = r := ⟨_, rfl⟩
      obtain ⟨x, hx⟩ : ∃ r, (q.mode != 3) = r := ⟨_, rfl⟩
      rw [hlv] at c1
      have HLV := Lib.hid hlv
      have HXV := Lib.hid hx
      clear hb2 hq hlv
      cases lv
      · have HNX : Hid (plsT (fun q => q.mode != 3) L (k + 1) = plsT (fun q => q.mode != 3) L k) := Lib.hid (plsT_no (by rw [HG.out, HLV.out]; rfl))
        go_wp2
        go_roundw
        case rel => exact ⟨k + 1, by omega, by go_num, by rw [HNX.out]; exact HO2.out, HB2.out⟩
        case measure => simp [intOf]; omega
      · cases x
        · have HNX : Hid (plsT (fun q => q.mode != 3) L (k + 1) = plsT (fun q => q.mode != 3) L k) := Lib.hid (plsT_no (by rw [HG.out, HLV.out, HXV.out]; rfl))
          go_wp2
          go_roundw
          case rel => exact ⟨k + 1, by omega, by go_num, by rw [HNX.out]; exact HO2.out, HB2.out⟩
          case measure => simp [intOf]; omega
        · have HNX : Hid (plsT (fun q => q.mode != 3) L (k + 1) = plsT (fun q => q.mode != 3) L k ++ [(k : Int)]) := Lib.hid (plsT_yes (by rw [HG.out, HLV.out, HXV.out]; rfl))
          have C2 := CH.out k
          rw [HHA.out k hlt (by rw [HG.out]; exact HLV.out)] at C2
          obtain ⟨hh, hhh⟩ : ∃ hh, makeH (k : Int) (getP L (k : Int)).gen = hh := ⟨_, rfl⟩
          rw [hhh] at C2
          have HHH := Lib.hid hhh
          have C2 := Lib.hid C2
          clear hhh
          go_wp2_with fail
          refine (C2.out _ HB2.out).mono ?_; rintro e w4 ⟨rfl, hb4⟩
          have HB4 := Lib.hid (up_trans HB2.out hb4)
          have HO4 := Lib.hid (own_below HO2.out hb4)
          have hsz := HB4.out.size
          have hlk := HLN.out
          clear hb4
          go_wp2_with (at_builtin; refine wpList_app ei_int rfl (.tmp 26) (.tmp 30) rfl _ _ rfl (HO4.out.alloc _) rfl (RD.one (by simp)) (by simp [Value.oneCell']) (by omega) (by simp; omega) ?_; intro v' w5 hown1 hb1)
          go_roundw
          case rel => exact ⟨k + 1, by omega, by go_num, by rw [HNX.out, List.map_append, List.map_append, List.length_append]; simp only [List.map_cons, List.map_nil, HHH.out]; exact hown1, (up_trans HB4.out (up_alloc _ _)).trans hb1⟩
          case measure => simp [intOf]; omega
    · obtain rfl : k = 16 := by omega
      rw [show ((16 : Nat) : Int) = 16 from rfl]
      clear hown hbw
      go_wp2
      go_ret
      rw [HE.out]
      exact IntsPost.of HO.out HB.out
end Go.Proofs.Ytflpjpdgacjlcaa

/- The document's Where, Fall and Flush of buckets. -/
import Derived.Test.YtcdbblmoimmniaaCud
namespace Go.Proofs.Ytcdbblmoimmniaa
open Go.RowKit

set_option maxHeartbeats 1000000 in
theorem c_dwhere {w : World} {pl : Nat → Prop} {D : List DQ} {A : Option Addr} {c : Nat} (h : RL w pl D A c) (p : Int) :
    Calls Try.prog 15 #[.slice A D.length c, .int .i64 p] w fun e w' => e = .returned (.tuple #[.int .i64 (whK (numsD D) p), .bool (whB (numsD D) p)]) ∧ w = w' := by
  have HH := Lib.hid h
  have hfew := h.few
  have HLN := Lib.hid (nums_len D)
  clear h
  go_enter Try.func15, Try.ntmps15
  go_wp2
  go_loop [6, 7] (fun i _ => ∃ k : Nat, k ≤ D.length ∧ i = .int .i64 k ∧ (∀ (j : Nat) (m : List Int), j < k → (numsD D)[j]? = some m → p ∉ m)) (fun i _ => D.length - (intOf i).toNat)
  case atStart => exact ⟨0, Nat.zero_le _, rfl, fun j m h => absurd h (by omega)⟩
  case round =>
    obtain ⟨k, hk, rfl, hno⟩ := hrel
    have HNO := Lib.hid hno
    clear hno
    by_cases hlt : k < D.length
    · have hex : ∃ d, D[k]? = some d := ⟨_, List.getElem?_eq_getElem hlt⟩
      obtain ⟨d, hd⟩ := hex
      obtain ⟨b, o, rfl, _, hlb, hA⟩ := HH.out.at_ (by omega)
      replace hA := hA k d hd
      have hok := HH.out.inn d (List.mem_of_getElem? hd)
      have hln := hok.few
      have HR := Lib.hid hok.rd
      have HL := Lib.hid (nums_get hd)
      simp only [sliceV] at hA
      have hq4 : decide ((k : Int) < D.length) = true := decide_eq_true (by omega)
      have hk0 : (0 : Int) ≤ k := by omega
      have hk1 : (k : Int) < D.length := by omega
      obtain ⟨dA, dc, l⟩ := d
      simp only at hA hln HR HL
      clear hd hok
      go_wp2
      go_loop [7] (fun i => ∃ j : Nat, j ≤ l.length ∧ i = .int .i64 j ∧ ∀ i' z, i' < j → l[i']? = some z → z ≠ p) (fun i => l.length - (intOf i).toNat)
      case atStart => exact ⟨0, Nat.zero_le _, rfl, fun i' z h => absurd h (by omega)⟩
      case round =>
        obtain ⟨j, hj, rfl, hni⟩ := hrel
        have HNI := Lib.hid hni
        clear hni
        by_cases hjl : j < l.length
        · obtain ⟨b2, o2, rfl, _, _, hc2⟩ := HR.out.at_ (by omega)
          have hex : ∃ z, l[j]? = some z := ⟨_, List.getElem?_eq_getElem hjl⟩
          obtain ⟨z, hz⟩ := hex
          replace hc2 := hc2 j (.int .i64 z) (by simp [hz])
          have HZ := Lib.hid hz
          have hj0 : (0 : Int) ≤ j := by omega
          have hj1 : (j : Int) < l.length := by omega
          clear hz
          cases he : (z == p)
          · have HE := Lib.hid he
            go_wp2
            go_round
            case rel =>
              refine ⟨j + 1, by omega, by go_num, fun i' z' hi hz' => ?_⟩
              rcases Nat.lt_succ_iff_lt_or_eq.1 hi with h | rfl
              · exact HNI.out i' z' h hz'
              · obtain rfl : z = z' := Option.some.inj (HZ.out.symm.trans hz')
                exact fun e => by have := HE.out; simp [e] at this
            case measure => simp [intOf]; omega
          · have hzp : z = p := by simpa using he
            have HQ := Lib.hid (whN_of (numsD D) p k l HL.out (by rw [← hzp]; exact List.mem_of_getElem? HZ.out) HNO.out)
            clear hzp
            go_wp2
            go_ret2
            refine ⟨ret_ib ?_ ?_, rfl⟩
            · unfold whK
              rw [HQ.out, if_pos (by rw [HLN.out]; exact hlt)]
            · unfold whB
              rw [HQ.out]
              exact (decide_eq_true (by rw [HLN.out]; exact hlt)).symm
        · have hnj : ¬ (j : Int) < l.length := by omega
          go_wp2
          go_round
          case rel =>
            refine ⟨k + 1, by omega, by go_num, fun i' m hi hm => ?_⟩
            rcases Nat.lt_succ_iff_lt_or_eq.1 hi with h | rfl
            · exact HNO.out i' m h hm
            · obtain rfl : l = m := Option.some.inj (HL.out.symm.trans hm)
              intro hp
              obtain ⟨i2, hi2, e⟩ := List.getElem_of_mem hp
              exact HNI.out i2 p (by omega) (by rw [List.getElem?_eq_getElem hi2, e]) rfl
          case measure => simp [intOf]; omega
    · obtain rfl : k = D.length := by omega
      have HQ := Lib.hid (whN_no (numsD D) p (fun j m hj hm => HNO.out j m (by rw [← HLN.out]; exact hj) hm))
      go_wp2
      go_ret2
      refine ⟨ret_ib ?_ ?_, rfl⟩
      · unfold whK
        rw [HQ.out, if_neg (by omega)]
      · unfold whB
        rw [HQ.out]
        exact (decide_eq_false (by omega)).symm

set_option maxHeartbeats 1000000 in
theorem c_dfall {w : World} {pl : Nat → Prop} {D : List DQ} {A : Option Addr} {c : Nat} (h : RL w pl D A c) (hq : ∀ b, w.heap.size ≤ b → pl b) (hB : BG (numsD D)) (k p : Int) :
    Calls Try.prog 13 #[.slice A D.length c, .int .i64 k, .int .i64 p] w (RLPost w pl (flL (numsD D) k p) fun v => .tuple #[v, .int .i64 (flE (numsD D) k p)]) := by
  have HH := Lib.hid h
  have hfew := h.few
  have HLN := Lib.hid (nums_len D)
  have CW := Lib.hid (c_dwhere h p)
  clear h
  by_cases hr : k < 0 ∨ (D.length : Int) ≤ k ∨ p < 0 ∨ 15 < p
  · obtain ⟨h1, h2⟩ := fall_range (L := numsD D) (k := k) (p := p) (by rw [HLN.out]; omega)
    rw [h1, h2]
    clear h1 h2 CW
    by_cases k0 : k < 0
    · clear hr
      go_enter Try.func13, Try.ntmps13
      go_wp2
      go_ret2
      exact ⟨D, A, c, rfl, rfl, HH.out, Below.refl _ _⟩
    · by_cases k1 : (D.length : Int) ≤ k
      · clear hr
        go_enter Try.func13, Try.ntmps13
        go_wp2
        go_ret2
        exact ⟨D, A, c, rfl, rfl, HH.out, Below.refl _ _⟩
      · by_cases p0 : p < 0
        · clear hr
          go_enter Try.func13, Try.ntmps13
          go_wp2
          go_ret2
          exact ⟨D, A, c, rfl, rfl, HH.out, Below.refl _ _⟩
        · have p1 : 15 < p := by omega
          clear hr
          go_enter Try.func13, Try.ntmps13
          go_wp2
          go_ret2
          exact ⟨D, A, c, rfl, rfl, HH.out, Below.refl _ _⟩
  · obtain ⟨j, rfl⟩ : ∃ j : Nat, k = j := ⟨k.toNat, by omega⟩
    have k0 : ¬ (j : Int) < 0 := by omega
    have k1 : ¬ (D.length : Int) ≤ j := by omega
    have p0 : ¬ p < 0 := by omega
    have p1 : ¬ 15 < p := by omega
    have hr' : ¬ ((j : Int) < 0 ∨ ((numsD D).length : Int) ≤ j ∨ p < 0 ∨ 16 ≤ p) := by rw [HLN.out]; omega
    clear hr
    cases hw : whB (numsD D) p
    · have hj : j < D.length := by omega
      have hex : ∃ d, D[j]? = some d := ⟨_, List.getElem?_eq_getElem hj⟩
      obtain ⟨d, hd⟩ := hex
      obtain ⟨h1, h2⟩ := fall_ok hr' hw (nums_get hd)
      have hln := hB.lens (nums_get hd)
      rw [h1, h2]
      rw [hw] at CW
      obtain ⟨b, o, rfl, _, hlb, hA⟩ := HH.out.at_ (by omega)
      replace hA := hA j d hd
      have hok := HH.out.inn d (List.mem_of_getElem? hd)
      have HR := Lib.hid hok.rd
      have HNS := Lib.hid (fun A' c' => nums_set D j (A', c', d.2.2 ++ [p]))
      simp only [sliceV] at hA
      obtain ⟨dA, dc, l⟩ := d
      simp only at hA hln HR HNS
      have hj0 : (0 : Int) ≤ j := by omega
      have hj1 : (j : Int) < D.length := by omega
      clear hd hok h1 h2 hr' hw hB
      go_enter Try.func13, Try.ntmps13
      go_wp2_with (first
        | (go_at_call 15; refine Calls.mono CW.out ?_; rintro e w' ⟨rfl, rfl⟩)
        | (at_builtin; refine wpList_app ei_int rfl (.const (.slice none 0 0)) (.tmp 40) rfl (.slice none 0 0) [] rfl (World.ownsRow_nil _ w.heap.size _ _) rfl HR.out (int_cells _ _) (by omega) (Nat.le_refl _) ?_; intro v1 w1 hown1 hb1; simp only [Nat.zero_add, List.nil_append] at hown1; have hs1 := hb1.size)
        | (at_builtin; refine wpList_app ei_int rfl (.tmp 41) (.tmp 43) rfl _ _ rfl (hown1.alloc _) rfl (RD.one (by simp)) (by simp [Value.oneCell']) (by omega) (by simp; omega) ?_; intro v2 w2 hown2 hb2; have hb3 := (up_trans hb1 (up_alloc _ _)).trans hb2; have hown2 := own_snoc hown2)
        | (go_at_call 22; obtain ⟨A2, c2, rfl, dok2⟩ := dok_of (pl := pl) hown2 hq (by rw [List.length_append, List.length_singleton]; omega); have cP := c_dput (HH.out.below hb3) (fun b hb => hq b (Nat.le_trans hb3.size hb)) j hj _ dok2; simp only [List.length_append, List.length_singleton] at cP; refine cP.mono ?_; rintro e w5 ⟨A4, c4, rfl, R4, hb5⟩))
      go_ret2
      exact ⟨_, A4, c4, by rw [List.length_set]; rfl, HNS.out _ _, R4, up_trans hb3 hb5⟩
    · obtain ⟨h1, h2⟩ := fall_there hr' hw
      rw [h1, h2]
      rw [hw] at CW
      clear h1 h2 hr' hw
      go_enter Try.func13, Try.ntmps13
      go_wp2_with (go_at_call 15; refine Calls.mono CW.out ?_; rintro e w' ⟨rfl, rfl⟩)
      go_ret2
      exact ⟨D, A, c, rfl, rfl, HH.out, Below.refl _ _⟩

/-- The buckets, who was in one, an error. -/
def DFuPost (w : World) (pl : Nat → Prop) (M : List (List Int)) (l : List Int) (er : Int) (e : Ending) (w' : World) : Prop :=
  ∃ D A c B d, e = .returned (.tuple #[.slice A D.length c, .slice B l.length d, .int .i64 er]) ∧ numsD D = M ∧ RL w' pl D A c ∧ RD w' pl 1 B l.length (l.map (Value.int .i64)) ∧ Below w.heap.size w w'
set_option maxHeartbeats 1000000 in
theorem c_dflush {w : World} {pl : Nat → Prop} {D : List DQ} {A : Option Addr} {c : Nat} (h : RL w pl D A c) (hq : ∀ b, w.heap.size ≤ b → pl b) (k : Int) :
    Calls Try.prog 10 #[.slice A D.length c, .int .i64 k] w (DFuPost w pl (fuL (numsD D) k) (liL (numsD D) k) (lkE (numsD D).length k)) := by
  have HH := Lib.hid h
  have hfew := h.few
  have HLN := Lib.hid (nums_len D)
  clear h
  by_cases k0 : k < 0
  · rw [flush_no (.inl k0), li_no (.inl k0), lk_off (.inl k0)]
    go_enter Try.func10, Try.ntmps10
    go_wp2
    refine bodyPost_ret (v := .tuple #[.slice A D.length c, .slice none 0 0, .int .i64 8]) (by simp [results, Try.results10, go_sem]) rfl ?_
    exact ⟨D, A, c, none, 0, rfl, rfl, HH.out, RD.nil _ _ _ _, Below.refl _ _⟩
  · by_cases k1 : (D.length : Int) ≤ k
    · have hr : k < 0 ∨ ((numsD D).length : Int) ≤ k := .inr (by rw [HLN.out]; exact k1)
      rw [flush_no hr, li_no hr, lk_off hr]
      clear hr
      go_enter Try.func10, Try.ntmps10
      go_wp2
      refine bodyPost_ret (v := .tuple #[.slice A D.length c, .slice none 0 0, .int .i64 8]) (by simp [results, Try.results10, go_sem]) rfl ?_
      exact ⟨D, A, c, none, 0, rfl, rfl, HH.out, RD.nil _ _ _ _, Below.refl _ _⟩
    · obtain ⟨j, rfl⟩ : ∃ j : Nat, k = j := ⟨k.toNat, by omega⟩
      have hj : j < D.length := by omega
      have hex : ∃ d, D[j]? = some d := ⟨_, List.getElem?_eq_getElem hj⟩
      obtain ⟨d, hd⟩ := hex
      rw [flush_ok (by rw [HLN.out]; exact hj), li_at (nums_get hd), lk_at (by rw [HLN.out]; exact hj)]
      obtain ⟨b, o, rfl, _, hlb, hA⟩ := HH.out.at_ (by omega)
      replace hA := hA j d hd
      have hok := HH.out.inn d (List.mem_of_getElem? hd)
      have HR := Lib.hid hok.rd
      have HNS := Lib.hid (nums_set D j (none, 0, []))
      simp only [sliceV] at hA
      obtain ⟨dA, dc, l⟩ := d
      simp only at hA HR HNS
      have hj0 : (0 : Int) ≤ j := by omega
      have hj1 : (j : Int) < D.length := by omega
      have CP := Lib.hid (fun W (hW : Below w.heap.size w W) => c_dput (HH.out.below hW) (fun b hb => hq b (Nat.le_trans hW.size hb)) j hj (none, 0, []) ⟨RD.nil _ _ _ _, Nat.le_refl _, by show 0 ≤ maxLen; unfold maxLen; omega, by simp⟩)
      simp only [List.length_nil] at CP
      clear hd hok
      go_enter Try.func10, Try.ntmps10
      go_wp2_with fail
      have hS : ∀ W, Below w.heap.size w W → Below w.heap.size w W ∧ W.cell? ⟨b, o + j, none⟩ = some (.slice dA l.length dc) := fun W hW => ⟨hW, (hW.cell (p := ⟨b, o + j, none⟩) hlb).trans hA⟩
      have HS := Lib.hid hS
      clear hS hA
      go_region_held3 (fun W => Below w.heap.size w W ∧ W.cell? ⟨b, o + j, none⟩ = some (.slice dA l.length dc))
        (first | exact HS.out _ ((Below.refl _ _).drew) | exact HS.out _ (up_trans (And.left (by assumption)) (by assumption)))
        (first | (go_at_call 22; refine Calls.mono (CP.out _ (And.left (by assumption))) ?_; rintro e w5 ⟨A4, c4, rfl, R4, hb5⟩))
      all_goals
        go_wp2
        refine bodyPost_ret (v := .tuple #[.slice A4 D.length c4, .slice dA l.length dc, .int .i64 0]) (by simp [results, Try.results10, go_sem]) rfl ?_
        have hup : Below w.heap.size w w5 := And.left (by assumption)
        exact ⟨_, A4, c4, dA, dc, by rw [List.length_set], HNS.out, R4, HR.out.below hup, hup⟩
end Go.Proofs.Ytcdbblmoimmniaa

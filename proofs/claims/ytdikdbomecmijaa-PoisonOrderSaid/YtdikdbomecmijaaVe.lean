/- The contracts of the document's All and Least. -/
import Derived.Test.YtdikdbomecmijaaVc
import Derived.Test.YtdikdbomecmijaaVd
namespace Go.Proofs.Ytdikdbomecmijaa
open Go.RowKit

def pzUp (L : List Int) (by_ : Int) : List Int := L.map fun l => max l by_
theorem pzUp_next (L : List Int) (by_ : Int) (k : Nat) (h : k < L.length) : (pzUp (L.take k) by_).map (Value.int .i64) ++ [.int .i64 (max L[k] by_)] = (pzUp (L.take (k + 1)) by_).map (Value.int .i64) := by
  unfold pzUp
  rw [pz_snoc L k h, List.map_append, List.map_append]
  rfl
theorem qz_by (b : Int) (h : pzStr b = false) : b < 1 ∨ (¬ b < 1 ∧ 255 < b) := by have := pzStr_no b h; omega
set_option maxHeartbeats 1000000 in
theorem c_qzall {w : World} {pl : Nat → Prop} {A : Option Addr} {n c : Nat} {L : List Int} (hR : RD w pl 1 A n (L.map (Value.int .i64))) (hl : L.length = n) (hn : n ≤ 1000) (by_ : Int) :
    Calls Try.prog 14 #[.slice A n c, .int .i64 by_] w (AllPost w (pzAll L by_) (pzAllE L by_)) := by
  cases ht : pzStr by_
  · have HP := Lib.hid (AllPost.bad (L := L) (pzGood_by ht) (Below.refl w.heap.size w))
    rcases qz_by by_ ht with hb | ⟨hb, hb'⟩
    all_goals
      clear hR hl ht
      go_enter Try.func14, Try.ntmps14
      go_wp2
      go_ret2
      exact HP.out
  · obtain ⟨hb1, hb2⟩ := (pzStr_iff by_).1 ht
    have hb3 : ¬ by_ < 1 := by omega
    have hb4 : ¬ 255 < by_ := by omega
    have HR := Lib.hid hR
    have HL := Lib.hid hl
    have HT := Lib.hid ht
    clear hR hl ht hb1 hb2
    go_enter Try.func14, Try.ntmps14
    go_wp2
    go_loopw [6, 7] (fun v i wr => ∃ k : Nat, k ≤ n ∧ i = .int .i64 k ∧ Below w.heap.size w wr ∧ wr.ownsRow w.heap.size 3 1 v k ((pzUp (L.take k) by_).map (Value.int .i64)) ∧ pzAllFine (L.take k) = true) (fun _ i _ => n - (intOf i).toNat)
    case atStart => exact ⟨0, Nat.zero_le _, rfl, Below.refl _ _, World.ownsRow_nil _ _ _ _, rfl⟩
    case round =>
      obtain ⟨k, hk, rfl, hb, hB, hF⟩ := hrel
      have HB := Lib.hid hB
      have HU := Lib.hid hb
      have HF := Lib.hid hF
      by_cases hlt : k < n
      · have hkL : k < L.length := by rw [HL.out]; exact hlt
        obtain ⟨b, o, rfl, _, _, hc⟩ := (HR.out.below hb).at_ (by omega)
        have h1 := hc k (.int .i64 L[k]) (by simp [hkL])
        have hN := pzUp_next L by_ k hkL
        have hS := pz_snoc L k hkL
        have hmem : L[k] ∈ L := List.getElem_mem hkL
        generalize L[k] = z at h1 hN hS hmem
        clear hc hF
        cases hz : pzFine z
        · have HP := Lib.hid (AllPost.bad (by_ := by_) (pzGood_no hmem hz) hb)
          have C := Lib.hid (fun W => c_qzraise z by_ W)
          rw [pzRaise_no z by_ (.inl hz), pzErr_no z by_ (.inl hz)] at C
          clear hB hb hN hS hmem hz
          go_wp2_with (go_at_call 7; refine (C.out _).mono ?_; rintro e w' ⟨rfl, rfl⟩)
          go_ret2
          exact HP.out
        · have C := Lib.hid (fun W => c_qzraise z by_ W)
          rw [pzRaise_ok z by_ hz HT.out, pzErr_ok z by_ hz HT.out] at C
          have HZ := Lib.hid hz
          have HN := Lib.hid hN
          have HS := Lib.hid hS
          generalize max z by_ = m at C HN
          clear hB hb hN hS hmem hz
          go_wp2_with (first
            | (go_at_call 7; refine (C.out _).mono ?_; rintro e w' ⟨rfl, rfl⟩)
            | (at_builtin; refine wpList_app ei_int rfl (.tmp 34) (.tmp 36) rfl _ _ rfl (own_below HB.out (up_alloc _ _)) rfl (RD.one rfl) (by simp [Value.oneCell']) (by omega) (by have := HU.out.size; simp; omega) ?_; intro v5 w5 hown5 hb5; have HO5 := Lib.hid hown5; have HB5 := Lib.hid hb5; clear hown5 hb5))
          go_roundw
          case rel =>
            refine ⟨k + 1, by omega, by go_num, ?_, ?_, ?_⟩
            · exact (HU.out.alloc HU.out.size _).trans HB5.out
            · have := HO5.out
              rwa [HN.out] at this
            · rw [HS.out]; exact pzFine_snoc HF.out HZ.out
          case measure => simp [intOf]; omega
      · obtain rfl : k = n := by omega
        have hg : pzGood L by_ = true := by
          unfold pzGood
          rw [HT.out, ← List.take_length (l := L), HL.out, hF]; rfl
        obtain ⟨A', c', rfl, h1, h2, h3⟩ := own_slice hB
        have HP : Hid (AllPost w (pzAll L by_) (pzAllE L by_) (.returned (.tuple #[.slice A' k c', .int .i64 0])) wr) := Lib.hid (by
          rw [pzAll_ok hg, pzAllE_ok hg]
          have hln : (L.map fun l => max l by_).length = k := by simpa using HL.out
          have h4 : RD wr (w.heap.size ≤ ·) 1 A' k ((L.map fun l => max l by_).map (Value.int .i64)) := by
            have e : L.take k = L := by rw [← HL.out, List.take_length]
            rw [e] at h3
            exact h3
          exact ⟨A', c', by rw [hln], by omega, h2, by rw [hln]; exact h4, hb⟩)
        clear hB hb hF h3 hg
        go_wp2
        go_ret2
        exact HP.out

/-- Where one strength after the other has been tried: none of the ends is hit by a strength below s. -/
theorem qz_hit {L : List Int} {s z : Int} (hF : pzAllFine L = true) (hs : 1 ≤ s ∧ s ≤ 255) (hge : ∀ b ∈ L, s - 1 ≤ b) (hz : z ∈ L) (hh : z < s) : pzIs L = true ∧ pzLeast L = s := by
  have h1 := hge z hz
  have h2 := pzMin_mem L hz
  have h3 : s - 1 ≤ pzMin L := by
    rcases pzMin_is L with h | h
    · omega
    · exact hge _ h
  have h4 := pzIs_ok hF (by omega)
  exact ⟨h4, by rw [pzLeast_ok h4]; omega⟩
theorem qz_none {L : List Int} (hge : ∀ b ∈ L, 255 ≤ b) : pzIs L = false ∧ pzLeast L = 0 := by
  have h3 : pzMin L = 255 := by
    have := pzMin_le L
    rcases pzMin_is L with h | h
    · exact h
    · have := hge _ h; omega
  have h4 := pzIs_top h3
  exact ⟨h4, pzLeast_no h4⟩
set_option maxHeartbeats 1000000 in
theorem c_qzleast {w : World} {pl : Nat → Prop} {A : Option Addr} {n c : Nat} {L : List Int} (hR : RD w pl 1 A n (L.map (Value.int .i64))) (hl : L.length = n) (hn : n ≤ 1000) :
    Calls Try.prog 16 #[.slice A n c] w fun e w' => e = .returned (.tuple #[.int .i64 (pzLeast L), .bool (pzIs L)]) ∧ w = w' := by
  have HR := Lib.hid hR
  have HL := Lib.hid hl
  clear hR hl
  go_enter Try.func16, Try.ntmps16
  go_wp2
  go_loop [4] (fun i => ∃ k : Nat, k ≤ n ∧ i = .int .i64 k ∧ pzAllFine (L.take k) = true) (fun i => n - (intOf i).toNat)
  case atStart => exact ⟨0, Nat.zero_le _, rfl, rfl⟩
  case round =>
    obtain ⟨k, hk, rfl, hF⟩ := hrel
    have HF := Lib.hid hF
    by_cases hlt : k < n
    · have hkL : k < L.length := by rw [HL.out]; exact hlt
      obtain ⟨b, o, rfl, _, _, hc⟩ := HR.out.at_ (by omega)
      have h1 := hc k (.int .i64 L[k]) (by simp [hkL])
      have hS := pz_snoc L k hkL
      have hmem : L[k] ∈ L := List.getElem_mem hkL
      generalize L[k] = z at h1 hS hmem
      have HS := Lib.hid hS
      clear hc hF hS
      cases hz : pzFine z
      · have HP := Lib.hid (pzIs_no hmem hz)
        have HQ := Lib.hid (pzLeast_no HP.out)
        clear hmem
        have HZ := Lib.hid hz
        go_wp2_with (go_at_call 11; refine (c_qzfine _ _).mono ?_; rintro e w' ⟨rfl, rfl⟩; rw [HZ.out])
        go_ret2
        exact ⟨ret_ib HQ.out.symm HP.out.symm, rfl⟩
      · have HZ := Lib.hid hz
        clear hmem hz
        go_wp2_with (go_at_call 11; refine (c_qzfine _ _).mono ?_; rintro e w' ⟨rfl, rfl⟩; rw [HZ.out])
        go_round
        case rel => exact ⟨k + 1, by omega, by go_num, by rw [HS.out]; exact pzFine_snoc HF.out HZ.out⟩
        case measure => simp [intOf]; omega
    · have hF' : pzAllFine L = true := by
        rw [← List.take_length (l := L), HL.out, show n = k by omega]; exact hF
      have HA := Lib.hid hF'
      clear hF hF' HF
      have hkn : k = n := by omega
      go_wp2
      go_loop [5] (fun s => ∃ q : Nat, 1 ≤ q ∧ q ≤ 256 ∧ s = .int .i64 q ∧ ∀ b ∈ L, (q : Int) - 1 ≤ b) (fun s => 256 - (intOf s).toNat)
      case atStart => exact ⟨1, by omega, by omega, rfl, fun b hb => by have := (pzFine_iff b).1 ((pzAllFine_iff L).1 HA.out b hb); omega⟩
      case round =>
        obtain ⟨q, hq1, hq2, rfl, hge⟩ := hrel
        have HG := Lib.hid hge
        clear hge
        by_cases hq : q ≤ 255
        · have hq4 : decide ((q : Int) ≤ 255) = true := by rw [decide_eq_true_iff]; omega
          go_wp2
          go_loop [6] (fun i => ∃ j : Nat, j ≤ n ∧ i = .int .i64 j ∧ ∀ b ∈ L.take j, (q : Int) ≤ b) (fun i => n - (intOf i).toNat)
          case atStart => exact ⟨0, Nat.zero_le _, rfl, fun b hb => by simp at hb⟩
          case round =>
            obtain ⟨j, hj, rfl, hJ⟩ := hrel
            have HJ := Lib.hid hJ
            clear hJ
            by_cases hjn : j < n
            · have hkL : j < L.length := by rw [HL.out]; exact hjn
              obtain ⟨b, o, rfl, _, _, hc⟩ := HR.out.at_ (by omega)
              have h1 := hc j (.int .i64 L[j]) (by simp [hkL])
              have hS := pz_snoc L j hkL
              have hmem : L[j] ∈ L := List.getElem_mem hkL
              generalize L[j] = z at h1 hS hmem
              have HS := Lib.hid hS
              have hzf := (pzFine_iff z).1 ((pzAllFine_iff L).1 HA.out z hmem)
              have C := Lib.hid (fun W => c_qzhit (q : Int) z W)
              rw [pzHit_of (q : Int) z (by omega) hzf] at C
              clear hc hS
              by_cases hh : z < (q : Int)
              · have HP := Lib.hid (qz_hit HA.out (by omega) HG.out hmem hh)
                rw [show decide (z < (q : Int)) = true by rw [decide_eq_true_iff]; exact hh] at C
                clear hmem hzf hh
                go_wp2_with (go_at_call 9; refine (C.out _).mono ?_; rintro e w' ⟨rfl, rfl⟩)
                go_ret2
                exact ⟨ret_ib HP.out.2.symm HP.out.1.symm, rfl⟩
              · rw [show decide (z < (q : Int)) = false by rw [decide_eq_false_iff_not]; exact hh] at C
                have HZ := Lib.hid (show (q : Int) ≤ z by omega)
                clear hmem hzf hh
                go_wp2_with (go_at_call 9; refine (C.out _).mono ?_; rintro e w' ⟨rfl, rfl⟩)
                go_round
                case rel =>
                  refine ⟨j + 1, by omega, by go_num, fun b hb => ?_⟩
                  rw [HS.out, List.mem_append] at hb
                  rcases hb with hb | hb
                  · exact HJ.out b hb
                  · rw [List.mem_singleton.1 hb]; exact HZ.out
                case measure => simp [intOf]; omega
            · have hjn' : j = n := by omega
              go_wp2
              go_round
              case rel =>
                refine ⟨q + 1, by omega, by omega, by go_num, fun b hb => ?_⟩
                have := HJ.out b (by rw [hjn', ← HL.out, List.take_length]; exact hb)
                omega
              case measure => simp [intOf]; omega
        · have hq256 : q = 256 := by omega
          have HP := Lib.hid (qz_none (L := L) (fun b hb => by have := HG.out b hb; omega))
          have hq4 : decide ((q : Int) ≤ 255) = false := by rw [decide_eq_false_iff_not]; omega
          go_wp2
          go_ret2
          exact ⟨ret_ib HP.out.2.symm HP.out.1.symm, rfl⟩
end Go.Proofs.Ytdikdbomecmijaa

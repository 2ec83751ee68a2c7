/- Package bucket: a table in memory; nobodys, Many, look, List, Where, New. -/
import Derived.Test.YtcdbblmoimmniaaCua
import Derived.Test.YtcdbblmoimmniaaQg
import Derived.Test.YtcdbblmoimmniaaSi
namespace Go.Proofs.Ytcdbblmoimmniaa
open Go.RowKit

/-- The pool's queues: it has one at least. -/
def padL (L : List (List Int)) : List (List Int) := if L = [] then [[]] else L
theorem padL_len (L : List (List Int)) : (padL L).length = max L.length 1 := by
  unfold padL
  split
  · next h => subst h; rfl
  · next h =>
    have := List.length_pos_iff.2 h
    omega
theorem padL_at {L : List (List Int)} {j : Nat} (h : j < L.length) : padL L = L := by
  unfold padL
  rw [if_neg (by rintro rfl; simp at h)]
theorem padL_sum (L : List (List Int)) : sumlen (padL L) = sumlen L := by
  unfold padL
  split
  · next h => subst h; rfl
  · rfl

/-- A table at block t: its store, the pool. -/
structure TB (w : World) (t s b : Nat) (L : List (List Int)) : Prop where
  tb : Blk w t [.pointer (some ⟨s, 0, none⟩)] 54
  sb : Blk w s [.pointer (some ⟨b, 0, none⟩), .int .i64 L.length] 61
  pa : ∃ fr, PA w b (padL L) fr ∧ fr + sumlen L = 16
  gd : BG L
section
variable {w w' : World} {t s b : Nat} {L : List (List Int)}
theorem TB.lt (h : TB w t s b L) : b < w.heap.size := by
  obtain ⟨fr, h1, _⟩ := h.pa
  exact h1.lt
theorem TB.ne1 (h : TB w t s b L) : t ≠ b := by
  obtain ⟨fr, ⟨_, _, _, _, h1⟩, _⟩ := h.pa
  exact h.tb.ne h1.H.blk (by decide)
theorem TB.ne2 (h : TB w t s b L) : s ≠ b := by
  obtain ⟨fr, ⟨_, _, _, _, h1⟩, _⟩ := h.pa
  exact h.sb.ne h1.H.blk (by decide)
theorem TB.below (h : TB w t s b L) (o : Below w.heap.size w w') : TB w' t s b L := by
  obtain ⟨fr, h1, h2⟩ := h.pa
  exact ⟨h.tb.up o h.tb.lt, h.sb.up o h.sb.lt, ⟨fr, h1.below o, h2⟩, h.gd⟩
theorem TB.only {S : Nat → Prop} (h : TB w t s b L) (o : Only S w w') (h1 : ¬ S t) (h2 : ¬ S s) (h3 : ¬ S b) : TB w' t s b L := by
  obtain ⟨fr, h4, h5⟩ := h.pa
  exact ⟨h.tb.only o h1, h.sb.only o h2, ⟨fr, h4.only o h3, h5⟩, h.gd⟩
/-- The pool has turned alone. -/
theorem TB.turn (h : TB w t s b L) {M : List (List Int)} (o : Only (· = b) w w') {fr : Nat} (h1 : PA w' b (padL M) fr) (h2 : fr + sumlen M = 16) (h3 : M.length = L.length) (h4 : BG M) : TB w' t s b M :=
  ⟨h.tb.only o h.ne1, by rw [h3]; exact h.sb.only o h.ne2, ⟨fr, h1, h2⟩, h4⟩
theorem TB.ct (h : TB w t s b L) : w.cell? ⟨t, 0, none⟩ = some (.pointer (some ⟨s, 0, none⟩)) := h.tb.cell 0 _ rfl
theorem TB.cs0 (h : TB w t s b L) : w.cell? ⟨s, 0, none⟩ = some (.pointer (some ⟨b, 0, none⟩)) := h.sb.cell 0 _ rfl
theorem TB.cs1 (h : TB w t s b L) : w.cell? ⟨s, 1, none⟩ = some (.int .i64 L.length) := h.sb.cell 1 _ rfl
end

set_option maxHeartbeats 400000 in
theorem c_bnobodys {w : World} {t s b : Nat} {L : List (List Int)} (H : TB w t s b L) :
    Calls Try.prog 26 #[.pointer (some ⟨t, 0, none⟩)] w fun e w' => e = .returned (.bool false) ∧ w = w' := by
  have c0 := H.ct
  clear H
  go_enter Try.func26, Try.ntmps26
  go_wp2
  go_ret
  exact ⟨rfl, rfl⟩
set_option maxHeartbeats 400000 in
theorem c_bmany {w : World} {t s b : Nat} {L : List (List Int)} (H : TB w t s b L) :
    Calls Try.prog 18 #[.pointer (some ⟨t, 0, none⟩)] w fun e w' => e = .returned (.int .i64 L.length) ∧ w = w' := by
  have c0 := H.ct
  have c1 := H.cs1
  have CN := Lib.hid (c_bnobodys H)
  clear H
  go_enter Try.func18, Try.ntmps18
  go_wp2_with (go_at_call 26; refine Calls.mono CN.out ?_; rintro e w' ⟨rfl, rfl⟩)
  go_ret
  exact ⟨rfl, rfl⟩
set_option maxHeartbeats 400000 in
theorem c_blook {w : World} {t s b : Nat} {L : List (List Int)} (H : TB w t s b L) (k : Int) :
    Calls Try.prog 20 #[.pointer (some ⟨t, 0, none⟩), .int .i64 k] w fun e w' => e = .returned (.int .i64 (lkE L.length k)) ∧ w = w' := by
  have c0 := H.ct
  have c1 := H.cs1
  have CN := Lib.hid (c_bnobodys H)
  have HK := Lib.hid (show ∀ x, x = lkE L.length k → x = lkE L.length k from fun _ h => h)
  clear H
  by_cases h0 : k < 0
  · have HE := Lib.hid (lk_off (n := L.length) (.inl h0))
    go_enter Try.func20, Try.ntmps20
    go_wp2_with (go_at_call 26; refine Calls.mono CN.out ?_; rintro e w' ⟨rfl, rfl⟩)
    go_ret
    exact ⟨ret_int HE.out.symm, rfl⟩
  · by_cases h1 : (L.length : Int) ≤ k
    · have HE := Lib.hid (lk_off (n := L.length) (.inr h1))
      go_enter Try.func20, Try.ntmps20
      go_wp2_with (go_at_call 26; refine Calls.mono CN.out ?_; rintro e w' ⟨rfl, rfl⟩)
      go_ret
      exact ⟨ret_int HE.out.symm, rfl⟩
    · have HE := Lib.hid (show lkE L.length k = 0 from if_neg (by omega))
      go_enter Try.func20, Try.ntmps20
      go_wp2_with (go_at_call 26; refine Calls.mono CN.out ?_; rintro e w' ⟨rfl, rfl⟩)
      go_ret
      exact ⟨ret_int HE.out.symm, rfl⟩

set_option maxHeartbeats 400000 in
theorem c_blist {w : World} {t s b : Nat} {L : List (List Int)} (H : TB w t s b L) (k : Int) :
    Calls Try.prog 16 #[.pointer (some ⟨t, 0, none⟩), .int .i64 k] w (IntsPost w (liL L k)) := by
  have c0 := H.ct
  have c1 := H.cs0
  have CL := Lib.hid (c_blook H k)
  by_cases he : lkE L.length k = 0
  · obtain ⟨j, rfl, hj⟩ := lk_ok he
    obtain ⟨l, hl⟩ : ∃ l, L[j]? = some l := ⟨_, List.getElem?_eq_getElem hj⟩
    obtain ⟨fr, hp, _⟩ := H.pa
    rw [padL_at hj] at hp
    have CQ := c_list hp j l hl
    rw [li_at hl]
    rw [he] at CL
    have CQ := Lib.hid CQ
    clear H he hp
    go_enter Try.func16, Try.ntmps16
    go_wp2_with (first | (go_at_call 20; refine Calls.mono CL.out ?_; rintro e w' ⟨rfl, rfl⟩) | (go_at_call 25; refine Calls.mono CQ.out ?_; rintro e w' ⟨A, c, rfl, h1, h2, h3, h4⟩))
    go_ret
    exact ⟨A, c, rfl, h1, h2, h3, h4⟩
  · obtain ⟨h8, hr⟩ := lk_no he
    rw [li_no hr]
    rw [h8] at CL
    clear H he h8
    go_enter Try.func16, Try.ntmps16
    go_wp2_with (go_at_call 20; refine Calls.mono CL.out ?_; rintro e w' ⟨rfl, rfl⟩)
    go_ret
    exact IntsPost.empty _

set_option maxHeartbeats 1000000 in
theorem c_bwhere {w : World} {t s b : Nat} {L : List (List Int)} (H : TB w t s b L) (p : Int) :
    Calls Try.prog 14 #[.pointer (some ⟨t, 0, none⟩), .int .i64 p] w fun e w' => e = .returned (.tuple #[.int .i64 (whK L p), .bool (whB L p)]) ∧ Below w.heap.size w w' := by
  have CM := Lib.hid (c_bmany H)
  have HH := Lib.hid H
  have hfew := H.gd.few
  clear H
  go_enter Try.func14, Try.ntmps14
  go_wp2_with (go_at_call 18; refine Calls.mono CM.out ?_; rintro e w' ⟨rfl, rfl⟩)
  go_loopw [6, 9, 14, 16] (fun _ i _ _ wr => ∃ k : Nat, k ≤ L.length ∧ i = .int .i64 k ∧ (∀ (j : Nat) (m : List Int), j < k → L[j]? = some m → p ∉ m) ∧ Below w.heap.size w wr) (fun _ i _ _ _ => L.length - (intOf i).toNat)
  case atStart => exact ⟨0, Nat.zero_le _, rfl, fun j m h => absurd h (by omega), Below.refl _ _⟩
  case round =>
    obtain ⟨k, hk, rfl, hno, hb⟩ := hrel
    have HNO := Lib.hid hno
    clear hno
    by_cases hlt : k < L.length
    · have HL := Lib.hid (List.getElem?_eq_getElem hlt)
      have CL := c_blist (HH.out.below hb) k
      rw [li_at HL.out] at CL
      have hln := HH.out.gd.lens HL.out
      generalize L[k] = l at HL CL hln
      have CL := Lib.hid CL
      cases hp : decide (p ∈ l)
      · have hpn : p ∉ l := of_decide_eq_false hp
        have HP := Lib.hid hpn
        have HD := Lib.hid hp
        clear hpn hp
        go_wp2_with (first | (go_at_call 16; refine Calls.mono CL.out ?_; rintro e w2 ⟨A, c, rfl, h1, h2, h3, h4⟩) | (go_at_call 24; refine (c_contains h3 rfl (by omega) p).mono ?_; rw [HD.out]; rintro e w3 ⟨rfl, rfl⟩))
        go_roundw
        case rel =>
          refine ⟨k + 1, by omega, by go_num, fun j m hj hm => ?_, up_trans hb h4⟩
          rcases Nat.lt_succ_iff_lt_or_eq.1 hj with h | rfl
          · exact HNO.out j m h hm
          · obtain rfl : l = m := Option.some.inj (HL.out.symm.trans hm)
            exact HP.out
        case measure => simp [intOf]; omega
      · have HQ := Lib.hid (whN_of L p k l HL.out (of_decide_eq_true hp) HNO.out)
        have HD := Lib.hid hp
        clear hp
        go_wp2_with (first | (go_at_call 16; refine Calls.mono CL.out ?_; rintro e w2 ⟨A, c, rfl, h1, h2, h3, h4⟩) | (go_at_call 24; refine (c_contains h3 rfl (by omega) p).mono ?_; rw [HD.out]; rintro e w3 ⟨rfl, rfl⟩))
        go_ret2
        refine ⟨ret_ib ?_ ?_, up_trans hb h4⟩
        · unfold whK
          rw [HQ.out, if_pos hlt]
        · unfold whB
          rw [HQ.out]
          exact (decide_eq_true hlt).symm
    · obtain rfl : k = L.length := by omega
      have HQ := Lib.hid (whN_no L p HNO.out)
      go_wp2
      go_ret2
      refine ⟨ret_ib ?_ ?_, hb⟩
      · unfold whK
        rw [HQ.out, if_neg (by omega)]
      · unfold whB
        rw [HQ.out]
        exact (decide_eq_false (by omega)).symm
end Go.Proofs.Ytcdbblmoimmniaa

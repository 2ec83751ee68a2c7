/- The contracts of package poison's All and Least. -/
import Derived.Test.YtdikdbomecmijaaVb
import Derived.Test.YtdikdbomecmijaaI
import Derived.LoopTactic
namespace Go.Proofs.Ytdikdbomecmijaa
open Go.RowKit

/-- Ints in new memory, and an error's number. -/
def AllPost (w : World) (zs : List Int) (er : Int) (e : Ending) (w' : World) : Prop :=
  ∃ A c, e = .returned (.tuple #[.slice A zs.length c, .int .i64 er]) ∧ zs.length ≤ c ∧ c ≤ maxLen ∧ RD w' (w.heap.size ≤ ·) 1 A zs.length (zs.map (Value.int .i64)) ∧ Below w.heap.size w w'
theorem AllPost.bad {w w' : World} {L : List Int} {by_ : Int} (h : pzGood L by_ = false) (hb : Below w.heap.size w w') : AllPost w (pzAll L by_) (pzAllE L by_) (.returned (.tuple #[.slice none 0 0, .int .i64 8])) w' := by
  rw [pzAll_no h, pzAllE_no h]
  exact ⟨none, 0, rfl, Nat.le_refl _, by unfold maxLen; omega, RD.nil _ _ _ _, hb⟩
/-- A row of n places, of which the first k are filled. -/
def pzRow (L : List Int) (by_ : Int) (n k : Nat) : List Value := ((L.take k).map fun l => Value.int .i64 (max l by_)) ++ List.replicate (n - k) (.int .i64 0)
theorem pzRow_none (L : List Int) (by_ : Int) (n : Nat) : pzRow L by_ n 0 = List.replicate n (.int .i64 0) := by unfold pzRow; simp
theorem pzRow_next (L : List Int) (by_ : Int) (n k : Nat) (hl : L.length = n) (h : k < L.length) : (pzRow L by_ n k).set k (.int .i64 (max L[k] by_)) = pzRow L by_ n (k + 1) := by
  unfold pzRow
  have h1 : ((L.take k).map fun l => Value.int .i64 (max l by_)).length = k := by simp; omega
  rw [List.set_append_right _ _ (by rw [h1]; exact Nat.le_refl _), h1, Nat.sub_self, pz_snoc L k h, List.map_append, List.append_assoc]
  obtain ⟨m, hm⟩ : ∃ m, n - k = m + 1 := ⟨n - k - 1, by omega⟩
  rw [hm, List.replicate_succ, List.set_cons_zero, show n - (k + 1) = m by omega]
  rfl
theorem pzRow_all (L : List Int) (by_ : Int) (n : Nat) (hl : L.length = n) : pzRow L by_ n n = (L.map fun l => max l by_).map (Value.int .i64) := by
  unfold pzRow
  rw [Nat.sub_self, ← hl, List.take_length]
  simp
theorem pzRow_made (L : List Int) (by_ : Int) (n : Nat) : (madeCells (Value.int .i64 0).cells (n * 1)).toList = pzRow L by_ n 0 := by
  rw [made_list _ 1 rfl, pzRow_none]
  simp [Value.cells]

set_option maxHeartbeats 1000000 in
theorem c_pzall {w : World} {pl : Nat → Prop} {A : Option Addr} {n c : Nat} {L : List Int} (hR : RD w pl 1 A n (L.map (Value.int .i64))) (hl : L.length = n) (hn : n ≤ 1000) (by_ : Int) :
    Calls Try.prog 13 #[.slice A n c, .int .i64 by_] w (AllPost w (pzAll L by_) (pzAllE L by_)) := by
  cases ht : pzStr by_
  · have HP := Lib.hid (AllPost.bad (L := L) (pzGood_by ht) (Below.refl w.heap.size w))
    clear hR hl
    go_enter Try.func13, Try.ntmps13
    go_wp2_with (go_at_call 18; refine (c_pzstr _ _).mono ?_; rintro e w' ⟨rfl, rfl⟩)
    go_ret2
    exact HP.out
  · have hmk := fun W => run_mk ei_int n (by omega) W
    have hM := pzRow_made L by_ n
    generalize madeCells (Value.int .i64 0).cells (n * 1) = cs at hmk hM
    have H0 : Hid (Blk (w.alloc (.cells cs 3)) w.heap.size (pzRow L by_ n 0) 3) := Lib.hid (by
      rw [← hM]
      have := Blk.new w cs.toList 3
      rwa [Array.toArray_toList] at this)
    have HR := Lib.hid hR
    have HL := Lib.hid hl
    have HT := Lib.hid ht
    clear hR hl hM ht
    go_enter Try.func13, Try.ntmps13
    go_wp2_with (go_at_call 18; refine (c_pzstr _ _).mono ?_; rintro e w' ⟨rfl, rfl⟩; rw [HT.out])
    go_loopw [19] (fun i wr => ∃ k : Nat, k ≤ n ∧ i = .int .i64 k ∧ Below w.heap.size w wr ∧ Blk wr w.heap.size (pzRow L by_ n k) 3 ∧ pzAllFine (L.take k) = true) (fun i _ => n - (intOf i).toNat)
    case atStart => exact ⟨0, Nat.zero_le _, rfl, up_alloc _ _, H0.out, rfl⟩
    case round =>
      obtain ⟨k, hk, rfl, hb, hB, hF⟩ := hrel
      have HB := Lib.hid hB
      have HU := Lib.hid hb
      have HF := Lib.hid hF
      by_cases hlt : k < n
      · have hkL : k < L.length := by rw [HL.out]; exact hlt
        obtain ⟨b, o, rfl, _, _, hc⟩ := (HR.out.below hb).at_ (by omega)
        have h1 := hc k (.int .i64 L[k]) (by simp [hkL])
        have hN := pzRow_next L by_ n k HL.out hkL
        have hS := pz_snoc L k hkL
        have hmem : L[k] ∈ L := List.getElem_mem hkL
        generalize L[k] = z at h1 hN hS hmem
        clear hc hF
        cases hz : pzFine z
        · have HP := Lib.hid (AllPost.bad (by_ := by_) (pzGood_no hmem hz) hb)
          have C := Lib.hid (fun W => c_pzraise z by_ W)
          rw [pzRaise_no z by_ (.inl hz), pzErr_no z by_ (.inl hz)] at C
          clear hB hb hN hS hmem hz
          go_wp2_with (go_at_call 6; refine (C.out _).mono ?_; rintro e w' ⟨rfl, rfl⟩)
          go_ret2
          exact HP.out
        · have C := Lib.hid (fun W => c_pzraise z by_ W)
          rw [pzRaise_ok z by_ hz HT.out, pzErr_ok z by_ hz HT.out] at C
          have HZ := Lib.hid hz
          have HN := Lib.hid hN
          have HS := Lib.hid hS
          have hb0 := hB.free k
          have hc0 : ∃ u, wr.cell? ⟨w.heap.size, k, none⟩ = some u := by
            have hlen : k < (pzRow L by_ n k).length := by unfold pzRow; simp; omega
            exact ⟨_, hB.cell k _ (List.getElem?_eq_getElem hlen)⟩
          obtain ⟨u, hu⟩ := hc0
          generalize max z by_ = m at C HN
          clear hB hb hN hS hmem hz
          go_wp2_with (go_at_call 6; refine (C.out _).mono ?_; rintro e w' ⟨rfl, rfl⟩)
          go_roundw
          case rel =>
            refine ⟨k + 1, by omega, by go_num, ?_, ?_, ?_⟩
            · exact (Only.setCell (s := fun _ => False) (Only.of_below HU.out) (.inr (Nat.le_refl _)) _).toBelow (Nat.le_refl _) (fun _ h => h.elim)
            · rw [← HN.out]; exact HB.out.set k _
            · rw [HS.out]; exact pzFine_snoc HF.out HZ.out
          case measure => simp [intOf]; omega
      · obtain rfl : k = n := by omega
        have HP : Hid (AllPost w (pzAll L by_) (pzAllE L by_) (.returned (.tuple #[.slice (some ⟨w.heap.size, 0, none⟩) k k, .int .i64 0])) wr) := Lib.hid (by
          have hg : pzGood L by_ = true := by
            unfold pzGood
            rw [HT.out, ← List.take_length (l := L), HL.out, hF]; rfl
          rw [pzAll_ok hg, pzAllE_ok hg]
          have hln : (L.map fun l => max l by_).length = k := by simpa using HL.out
          rw [pzRow_all L by_ k HL.out] at hB
          refine ⟨some ⟨w.heap.size, 0, none⟩, k, by rw [hln], by omega, by unfold maxLen; omega, ?_, hb⟩
          exact RD.of_blk hB (by simp) (Nat.le_refl _))
        clear hB hb hF
        go_wp2
        go_ret2
        exact HP.out

set_option maxHeartbeats 1000000 in
theorem c_pzleast {w : World} {pl : Nat → Prop} {A : Option Addr} {n c : Nat} {L : List Int} (hR : RD w pl 1 A n (L.map (Value.int .i64))) (hl : L.length = n) (hn : n ≤ 1000) :
    Calls Try.prog 15 #[.slice A n c] w fun e w' => e = .returned (.tuple #[.int .i64 (pzLeast L), .bool (pzIs L)]) ∧ w = w' := by
  have HR := Lib.hid hR
  have HL := Lib.hid hl
  clear hR hl
  go_enter Try.func15, Try.ntmps15
  go_wp2
  go_loop [4, 9] (fun m i => ∃ k : Nat, k ≤ n ∧ i = .int .i64 k ∧ m = .int .i64 (pzMin (L.take k)) ∧ pzAllFine (L.take k) = true) (fun _ i => n - (intOf i).toNat)
  case atStart => exact ⟨0, Nat.zero_le _, rfl, rfl, rfl⟩
  case round =>
    obtain ⟨k, hk, rfl, rfl, hF⟩ := hrel
    have HF := Lib.hid hF
    by_cases hlt : k < n
    · have hkL : k < L.length := by rw [HL.out]; exact hlt
      obtain ⟨b, o, rfl, _, _, hc⟩ := HR.out.at_ (by omega)
      have h1 := hc k (.int .i64 L[k]) (by simp [hkL])
      have hS := pz_snoc L k hkL
      have hmem : L[k] ∈ L := List.getElem_mem hkL
      have hM : pzMin (L.take (k + 1)) = min (pzMin (L.take k)) L[k] := by rw [hS, pzMin_snoc]
      generalize L[k] = z at h1 hS hmem hM
      obtain ⟨m, hm⟩ : ∃ m, m = pzMin (L.take k) := ⟨_, rfl⟩
      rw [← hm] at hM ⊢
      have HM := Lib.hid hM
      have HS := Lib.hid hS
      clear hc hF hm hM hS
      cases hz : pzFine z
      · have HP := Lib.hid (pzIs_no hmem hz)
        have HQ := Lib.hid (pzLeast_no HP.out)
        clear hmem
        have HZ := Lib.hid hz
        go_wp2_with (go_at_call 10; refine (c_pzfine _ _).mono ?_; rintro e w' ⟨rfl, rfl⟩; rw [HZ.out])
        go_ret2
        exact ⟨ret_ib HQ.out.symm HP.out.symm, rfl⟩
      · have HZ := Lib.hid hz
        clear hmem hz
        go_wp2_with (go_at_call 10; refine (c_pzfine _ _).mono ?_; rintro e w' ⟨rfl, rfl⟩; rw [HZ.out])
        all_goals
          go_round
          case rel => exact ⟨k + 1, by omega, by go_num, by rw [HM.out]; congr 1; omega, by rw [HS.out]; exact pzFine_snoc HF.out HZ.out⟩
          case measure => simp [intOf]; omega
    · obtain rfl : k = n := by omega
      have hF' : pzAllFine L = true := by rw [← List.take_length (l := L), HL.out]; exact hF
      rw [show L.take k = L by rw [← HL.out, List.take_length]]
      by_cases h255 : pzMin L = 255
      · have HP := Lib.hid (pzIs_top h255)
        have HQ := Lib.hid (pzLeast_no HP.out)
        rw [h255]
        clear hF hF' h255
        go_wp2
        go_ret2
        exact ⟨ret_ib HQ.out.symm HP.out.symm, rfl⟩
      · have hle := pzMin_le L
        have HP := Lib.hid (pzIs_ok hF' (by omega))
        have HQ := Lib.hid (pzLeast_ok HP.out)
        have hge : 0 ≤ pzMin L := by
          rcases pzMin_is L with h | h
          · omega
          · exact ((pzFine_iff _).1 ((pzAllFine_iff L).1 hF' _ h)).1
        have hne : (pzMin L == 255) = false := beq_eq_false_iff_ne.2 h255
        obtain ⟨m, hm⟩ : ∃ m, m = pzMin L := ⟨_, rfl⟩
        rw [← hm] at hne hge hle ⊢
        have HM := Lib.hid hm
        clear hF hF' h255 hm
        go_wp2
        go_ret2
        exact ⟨ret_ib (by rw [HQ.out, HM.out]) HP.out.symm, rfl⟩
end Go.Proofs.Ytdikdbomecmijaa

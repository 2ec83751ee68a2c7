/- Package chantab: Hits, Moves. -/
import Derived.Test.YtnmjjemkaamcfaaYe
import Derived.Test.YtnmjjemkaamcfaaJf
import Derived.Test.YtnmjjemkaamcfaaNe
import Derived.LoopTactic
namespace Go.Proofs.Ytnmjjemkaamcfaa
open Go.RowKit

theorem map_take_snoc {L : List CQ} {k : Nat} {q : CQ} (h : L[k]? = some q) : (L.map Prod.fst).take (k + 1) = (L.map Prod.fst).take k ++ [q.1] := by
  rw [List.take_add_one, map_fst_at h]
  rfl

set_option maxRecDepth 100000 in
set_option maxHeartbeats 4000000 in
theorem c_hits {w : World} {pl : Nat → Prop} {A : Option Addr} {n c : Nat} {L : List CQ} (h : TbW w pl A n c L) (hf : fewL 1000 L) (hn : n ≤ 1000) (p : Int) :
    Calls Try.prog 22 #[.slice A n c, .int .i64 p] w (IntsPost w (hitL p 0 (L.map Prod.fst))) := by
  have HF := Lib.hid hf
  have HT := Lib.hid h
  have hlen : (L.map Prod.fst).length = n := by rw [List.length_map, h.len]
  have HL := Lib.hid hlen
  clear h hf hlen
  go_enter Try.func22, Try.ntmps22
  go_wp2_with fail
  go_loopw [5, 10] (fun s i wr => ∃ k : Nat, k ≤ n ∧ i = .int .i64 k ∧ wr.ownsRow w.heap.size 3 1 s (hitL p 0 ((L.map Prod.fst).take k)).length ((hitL p 0 ((L.map Prod.fst).take k)).map (Value.int .i64)) ∧ Below w.heap.size w wr) (fun _ i _ => n - (intOf i).toNat)
  case atStart => exact ⟨0, Nat.zero_le _, rfl, World.ownsRow_nil _ _ _ _, Below.refl _ _⟩
  case round =>
    obtain ⟨k, hk, rfl, hown, hbw⟩ := hrel
    by_cases hlt : k < n
    · obtain ⟨b, o, q, rfl, _, hbl, hq, hrg, hch⟩ := (HT.out.below hbw).at_ k hlt
      have HRG := Lib.hid hrg
      have HO := Lib.hid hown
      have HB := Lib.hid hbw
      have HBX := Lib.hid (Blk.new wr (cellsQ q) 73)
      have hfq := HF.out q (List.mem_of_getElem? hq)
      have CH := Lib.hid (c_chhit (hch.below (up_alloc wr (.cells (cellsQ q).toArray 73))) (hfq.few (by omega) hch) p)
      have HS : Hid (hitL p 0 ((L.map Prod.fst).take (k + 1)) = hitL p 0 ((L.map Prod.fst).take k) ++ (if chHit q.1 p = true then [(k : Int)] else [])) := Lib.hid (by
        have e : 0 + ((L.map Prod.fst).take k).length = k := by rw [List.length_take, HL.out]; omega
        rw [map_take_snoc hq, hitL_snoc, e])
      have HZ := Lib.hid (hitL_len p ((L.map Prod.fst).take k) 0)
      have HZ2 : Hid (((L.map Prod.fst).take k).length ≤ k) := Lib.hid (by rw [List.length_take]; omega)
      clear hrg hown hbw hbl hq hch hfq
      cases hh : chHit q.1 p
      · rw [hh] at CH
        have HS2 : Hid (hitL p 0 ((L.map Prod.fst).take (k + 1)) = hitL p 0 ((L.map Prod.fst).take k)) := Lib.hid (by rw [HS.out, if_neg (by rw [hh]; decide), List.append_nil])
        clear hh HS
        go_wp2_with (first | (refine lm_row HRG.out (.tmp 13) rfl rfl Try.underlying73 rfl info_ch rfl ?_) | (refine sn_row (W := wr) (cs := cellsQ q) (zs := chZ) (.tmp 7) (.tmp 14) rfl rfl rfl rfl rfl rfl info_ch rfl chC_one ?_) | (refine ld_row HBX.out rfl (.tmp 7) rfl rfl Try.underlying73 rfl info_ch ?_))
        refine CH.out.mono ?_; rintro e w2 ⟨rfl, hb2⟩
        have HB2 := Lib.hid (up_trans (up_alloc wr (.cells (cellsQ q).toArray 73)) hb2)
        clear hb2
        go_wp2_with fail
        go_roundw
        case rel => exact ⟨k + 1, by omega, by go_num, by rw [HS2.out]; exact own_below HO.out HB2.out, up_trans HB.out HB2.out⟩
        case measure => simp [intOf]; omega
      · rw [hh] at CH
        have HS2 : Hid (hitL p 0 ((L.map Prod.fst).take (k + 1)) = hitL p 0 ((L.map Prod.fst).take k) ++ [(k : Int)]) := Lib.hid (by rw [HS.out, if_pos hh])
        clear hh HS
        go_wp2_with (first | (refine lm_row HRG.out (.tmp 13) rfl rfl Try.underlying73 rfl info_ch rfl ?_) | (refine sn_row (W := wr) (cs := cellsQ q) (zs := chZ) (.tmp 7) (.tmp 14) rfl rfl rfl rfl rfl rfl info_ch rfl chC_one ?_) | (refine ld_row HBX.out rfl (.tmp 7) rfl rfl Try.underlying73 rfl info_ch ?_))
        refine CH.out.mono ?_; rintro e w2 ⟨rfl, hb2⟩
        have hb3 := up_trans (up_alloc wr (.cells (cellsQ q).toArray 73)) hb2
        have HB3 := Lib.hid hb3
        have HO3 := Lib.hid (own_below (own_below HO.out hb3) (up_alloc w2 (.cells #[.int .i64 (k : Int)] 3)))
        have HY : Hid (w.heap.size ≤ (w2.alloc (.cells #[.int .i64 (k : Int)] 3)).heap.size) := Lib.hid (by have h1 := HB.out.size; have h2 := hb3.size; simp; omega)
        clear hb2 hb3
        go_wp2_with (at_builtin; refine wpList_app ei_int rfl (.tmp 18) (.tmp 20) rfl _ _ rfl HO3.out rfl (RD.one rfl) (by simp [Value.oneCell']) (by have := HZ.out; have := HZ2.out; omega) HY.out ?_; intro v4 w4 hown4 hb4; have HO4 := Lib.hid hown4; have HB4 := Lib.hid hb4; clear hown4 hb4)
        go_roundw
        case rel => exact ⟨k + 1, by omega, by go_num, by rw [HS2.out, List.map_append, List.length_append]; exact HO4.out, (up_trans HB.out (up_trans HB3.out (up_alloc _ _))).trans HB4.out⟩
        case measure => simp [intOf]; omega
    · obtain rfl : k = n := by omega
      have HO := Lib.hid hown
      have HB := Lib.hid hbw
      have HS : Hid ((L.map Prod.fst).take k = L.map Prod.fst) := Lib.hid (List.take_of_length_le (by rw [HL.out]; exact Nat.le_refl _))
      clear hown hbw
      go_wp2
      go_ret
      have h1 := HO.out
      rw [HS.out] at h1
      exact IntsPost.of h1 HB.out

/-- Moves that read so, in new memory. -/
def MvPost (w : World) (zs : List (Nat × Int)) (e : Ending) (w' : World) : Prop := ∃ A c, e = .returned (.slice A zs.length c) ∧ zs.length ≤ c ∧ c ≤ maxLen ∧ RD w' (w.heap.size ≤ ·) 2 A zs.length (zs.flatMap mvC) ∧ Below w.heap.size w w'
theorem MvPost.of {w w' : World} {T : TypeId} {v : Value} {zs : List (Nat × Int)} {n : Nat} (h : w'.ownsRow w.heap.size T 2 v n (zs.flatMap mvC)) (hb : Below w.heap.size w w') : MvPost w zs (.returned v) w' := by
  obtain ⟨A, c, rfl, h1, h2, h3⟩ := own_slice h
  obtain rfl : n = zs.length := by
    have := h.1
    rw [flat_len mvC 2 mvC_len] at this
    omega
  exact ⟨A, c, rfl, h1, h2, h3, hb⟩
theorem mvC_one (L : List (Nat × Int)) : ∀ u ∈ L.flatMap mvC, u.oneCell' = true := by
  intro u hu
  obtain ⟨q, _, hq⟩ := List.mem_flatMap.1 hu
  simp only [mvC, List.mem_cons, List.not_mem_nil, or_false] at hq
  rcases hq with rfl | rfl <;> rfl
theorem ei_at : EI Try.prog 53 38 (.agg #[.int .i64 0, .int .i64 0]) 2 16 := ⟨Try.underlying53, by kernel_rfl, rfl, by omega, by omega⟩

set_option maxRecDepth 100000 in
set_option maxHeartbeats 4000000 in
theorem c_moves {w : World} {pl : Nat → Prop} {A : Option Addr} {n c : Nat} {L : List CQ} (h : TbW w pl A n c L) (hf : fewL 1000 L) (hn : n ≤ 1000) :
    Calls Try.prog 19 #[.slice A n c] w (MvPost w (mvL 0 (L.map Prod.fst))) := by
  have HF := Lib.hid hf
  have HT := Lib.hid h
  have hlen : (L.map Prod.fst).length = n := by rw [List.length_map, h.len]
  have HL := Lib.hid hlen
  clear h hf hlen
  go_enter Try.func19, Try.ntmps19
  go_wp2_with fail
  go_loopw [3, 10] (fun s i wr => ∃ k : Nat, k ≤ n ∧ i = .int .i64 k ∧ wr.ownsRow w.heap.size 38 2 s (mvL 0 ((L.map Prod.fst).take k)).length ((mvL 0 ((L.map Prod.fst).take k)).flatMap mvC) ∧ Below w.heap.size w wr) (fun _ i _ => n - (intOf i).toNat)
  case atStart => exact ⟨0, Nat.zero_le _, rfl, World.ownsRow_nil _ _ _ _, Below.refl _ _⟩
  case round =>
    rename World => wr0
    obtain ⟨k, hk, rfl, hown, hbw⟩ := hrel
    by_cases hlt : k < n
    · obtain ⟨b, o, q, rfl, _, hbl, hq, hrg, hch⟩ := (HT.out.below hbw).at_ k hlt
      have HRG := Lib.hid hrg
      have HB := Lib.hid hbw
      have HBX := Lib.hid (Blk.new wr0 (cellsQ q) 73)
      have hfq := HF.out q (List.mem_of_getElem? hq)
      have CH := Lib.hid (c_chwhat (hch.below (up_alloc wr0 (.cells (cellsQ q).toArray 73))) (hfq.few (by omega) hch))
      have HS : Hid (mvL 0 ((L.map Prod.fst).take (k + 1)) = mvL 0 ((L.map Prod.fst).take k) ++ (chWhat q.1).map (fun m => (k, m))) := Lib.hid (by
        have e : 0 + ((L.map Prod.fst).take k).length = k := by rw [List.length_take, HL.out]; omega
        rw [map_take_snoc hq, mvL_snoc, e])
      have HQL := Lib.hid (chWhat_len q.1)
      have HZ : Hid ((mvL 0 ((L.map Prod.fst).take k)).length ≤ 3 * k) := Lib.hid (by
        have h1 := mvL_len ((L.map Prod.fst).take k) 0
        rw [List.length_take] at h1
        omega)
      generalize mvL 0 ((L.map Prod.fst).take k) = Z at hown HS HZ
      generalize chWhat q.1 = Q at CH HS HQL
      have HO := Lib.hid hown
      clear hrg hown hbw hbl hq hch hfq
      go_wp2_with (first | (refine lm_row HRG.out (.tmp 13) rfl rfl Try.underlying73 rfl info_ch rfl ?_) | (refine sn_row (W := wr0) (cs := cellsQ q) (zs := chZ) (.tmp 5) (.tmp 14) rfl rfl rfl rfl rfl rfl info_ch rfl chC_one ?_) | (refine ld_row HBX.out rfl (.tmp 5) rfl rfl Try.underlying73 rfl info_ch ?_))
      refine CH.out.mono ?_; rintro e w2 ⟨A5, c5, rfl, -, -, hr5, hb5⟩
      have HB5 := Lib.hid (up_trans (up_alloc wr0 (.cells (cellsQ q).toArray 73)) hb5)
      have HR5 := Lib.hid hr5
      have HO5 := Lib.hid (own_below HO.out HB5.out)
      clear hb5 hr5
      go_wp2_with fail
      go_loopw [3, 18] (fun s i wr => ∃ m : Nat, m ≤ Q.length ∧ i = .int .i64 m ∧ wr.ownsRow w.heap.size 38 2 s (Z ++ (Q.take m).map (fun m => (k, m))).length ((Z ++ (Q.take m).map (fun m => (k, m))).flatMap mvC) ∧ Only (fun b => w.heap.size ≤ b ∧ b < wr0.heap.size) w2 wr ∧ (∀ g, s.ownBlock = some g → g < wr0.heap.size ∨ w2.heap.size ≤ g)) (fun _ i _ => Q.length - (intOf i).toNat)
      case atStart => exact ⟨0, Nat.zero_le _, rfl, by simpa using HO5.out, Only.refl _ _, fun g hg => .inl (by obtain ⟨_, cs, hcs⟩ := own_blk HO.out g hg; exact hcs.lt)⟩
      case round =>
        rename World => wr1
        obtain ⟨m, hm, rfl, hown1, hon, hbl⟩ := hrel
        have hq3 : Q.length ≤ 3 := HQL.out
        by_cases hltm : m < Q.length
        · obtain ⟨b5, o5, rfl, _, _, hc5⟩ := (HR5.out.only hon (by intro k hk hk'; have := hk.2; simp at hk'; omega)).at_ (by omega)
          have h5 := hc5 m (.int .i64 Q[m]) (by simp [hltm])
          have HQ : Hid (Z ++ (Q.take (m + 1)).map (fun m => (k, m)) = (Z ++ (Q.take m).map (fun m => (k, m))) ++ [(k, Q[m])]) := Lib.hid (by
            rw [ln_take_snoc Q m hltm, List.map_append, List.append_assoc]
            rfl)
          have HZ2 : Hid ((Z ++ (Q.take m).map (fun m => (k, m))).length ≤ 4 * 1000) := Lib.hid (by
            have := HZ.out
            have := HQL.out
            rw [List.length_append, List.length_map, List.length_take]
            omega)
          generalize Z ++ (Q.take m).map (fun m => (k, m)) = Y at hown1 HQ HZ2
          generalize Q[m] = z at h5 HQ
          have HO1 := Lib.hid hown1
          have HON := Lib.hid hon
          have HBL := Lib.hid hbl
          have HO3 := Lib.hid (own_below hown1 (up_alloc wr1 (.cells #[.int .i64 (k : Int), .int .i64 z] 38)))
          have HY : Hid (w.heap.size ≤ (wr1.alloc (.cells #[.int .i64 (k : Int), .int .i64 z] 38)).heap.size) := Lib.hid (by have h1 := HB.out.size; have h2 := HB5.out.size; have h3 := hon.size; simp; omega)
          clear hown1 hon hbl hc5
          go_wp2_with (at_builtin; refine wpList_app3 ei_at rfl (.tmp 22) (.tmp 26) rfl u3 _ rfl HO3.out rfl (RD.one2 rfl) (by simp [Value.oneCell']) (by have := HZ2.out; omega) HY.out ?_; intro v4 w4 hown4 hg4 hn4; have HO4 := Lib.hid hown4; have HG4 := Lib.hid hg4; have HN4 := Lib.hid hn4; clear hown4 hg4 hn4)
          go_roundw
          case rel =>
            refine ⟨m + 1, by omega, by go_num, by rw [HQ.out, List.flatMap_append, List.length_append]; exact HO4.out, (HON.out.alloc _).grown HG4.out (fun k' e => ?_), fun g hg => ?_⟩
            · rcases HBL.out k' e with h | h
              · exact .inl ⟨(HO1.out.lt k' e).1, h⟩
              · exact .inr h
            · rcases HN4.out g hg with h | h
              · exact HBL.out g h
              · have := HON.out.size
                simp at h
                exact .inr (by omega)
          case measure => simp [intOf]; omega
        · obtain rfl : m = Q.length := by omega
          have HO1 := Lib.hid hown1
          have HON := Lib.hid hon
          have HS2 : Hid (Z ++ (Q.take Q.length).map (fun m => (k, m)) = mvL 0 ((L.map Prod.fst).take (k + 1))) := Lib.hid (by rw [HS.out, List.take_length])
          clear hown1 hon hbl
          go_wp2_with fail
          go_roundw
          case rel => exact ⟨k + 1, by omega, by go_num, by rw [← HS2.out]; exact HO1.out, Only.later (up_trans HB.out HB5.out) HON.out (fun i hi => hi.1)⟩
          case measure => simp [intOf]; omega
    · obtain rfl : k = n := by omega
      have HO := Lib.hid hown
      have HB := Lib.hid hbw
      have HS : Hid ((L.map Prod.fst).take k = L.map Prod.fst) := Lib.hid (List.take_of_length_le (by rw [HL.out]; exact Nat.le_refl _))
      clear hown hbw
      go_wp2
      go_ret
      have h1 := HO.out
      rw [HS.out] at h1
      exact MvPost.of h1 HB.out
end Go.Proofs.Ytnmjjemkaamcfaa

/- The document's New, Hits, Moves of layer 19. -/
import Derived.Test.YtnmjjemkaamcfaaYl
import Derived.Test.YtnmjjemkaamcfaaYf
import Derived.Test.YtnmjjemkaamcfaaYg
import Derived.Test.YtnmjjemkaamcfaaEc
namespace Go.Proofs.Ytnmjjemkaamcfaa
open Go.RowKit

set_option maxRecDepth 100000 in
set_option maxHeartbeats 4000000 in
theorem c_rtnew {w : World} {pl : Nat → Prop} {A : Option Addr} {n c : Nat} {l : List CF} (hR : RD w pl 4 A n (l.flatMap cfC)) (hl : l.length = n) :
    Calls Try.prog 18 #[.slice A n c] w (NwPost w l) := by
  have HR := Lib.hid hR
  have HL := Lib.hid hl
  by_cases h8 : (8 : Int) < n
  · have e1 : Hid (newR l = (8, 5)) := Lib.hid (by unfold newR; rw [if_pos (by omega)])
    have e2 : Hid (newL l = []) := Lib.hid (by unfold newL; rw [e1.out]; rfl)
    clear hR hl
    go_enter Try.func18, Try.ntmps18
    go_wp2
    go_ret3
    refine ⟨none, 0, 0, [], by rw [e1.out]; rfl, TbW.none _ _, by rw [e2.out]; rfl, Below.refl _ _⟩
  · have HE : Hid (newR l = newRun 0 l) := Lib.hid (by unfold newR; rw [if_neg (by omega)])
    clear hR hl
    go_enter Try.func18, Try.ntmps18
    go_wp2_with fail
    go_loopw [5, 6] (fun s i wr => ∃ k : Nat, k ≤ n ∧ i = .int .i64 k ∧ newRun 0 l = newRun k (l.drop k) ∧ wr.ownsRow w.heap.size 78 11 s k (((l.take k).map (fun c => (cfN c, SM.nil))).flatMap cellsQ) ∧ Below w.heap.size w wr) (fun _ i _ => n - (intOf i).toNat)
    case atStart => exact ⟨0, Nat.zero_le _, rfl, rfl, World.ownsRow_nil _ _ _ _, Below.refl _ _⟩
    case round =>
      obtain ⟨k, hk, rfl, hrun, hown, hbw⟩ := hrel
      by_cases hlt : k < n
      · have hkl : k < l.length := by rw [HL.out]; exact hlt
        have hkn : (k : Int) < (n : Int) := by omega
        obtain ⟨b, o, rfl, _, hbl, hrg⟩ := RD.row cfC_len (HR.out.below hbw) (List.getElem?_eq_getElem hkl) hlt
        have hdr : l.drop k = l[k] :: l.drop (k + 1) := List.drop_eq_getElem_cons hkl
        have hnx : (l.take (k + 1)).map (fun c => (cfN c, SM.nil)) = (l.take k).map (fun c => (cfN c, SM.nil)) ++ [(cfN l[k], SM.nil)] := by
          rw [ln_take_snoc l k hkl, List.map_append]
          rfl
        generalize l[k] = cf at hrg hdr hnx
        have HRG := Lib.hid hrg
        have HDR := Lib.hid hdr
        have HRN := Lib.hid hrun
        have HO := Lib.hid hown
        have HB := Lib.hid hbw
        have CN := Lib.hid (fun W => c_rnew cf.k cf.r cf.i cf.o W)
        obtain ⟨x, hx⟩ : ∃ x, cfE cf = x := ⟨_, rfl⟩
        obtain ⟨N, hN⟩ : ∃ N, cfN cf = N := ⟨_, rfl⟩
        rw [hN] at hnx
        have HNX := Lib.hid hnx
        have hx' : ccE cf.k cf.r cf.i cf.o = x := hx
        have hN' : chNew cf.k cf.r cf.i cf.o = N := hN
        rw [hx', hN'] at CN
        have HX := Lib.hid hx
        clear hrg hdr hnx hrun hown hbw hbl hkl hx hN hx' hN'
        go_wp2_with (refine lm_row' (cs := cfC cf) (.tmp 21) rfl rfl Try.underlying69 rfl info_cf rfl ?_ ?_; (· exact HRG.out))
        refine (CN.out _).mono ?_; rintro e w2 ⟨rfl, hb2⟩
        have hb3 := up_trans hb2 (up_alloc w2 (.cells (chC N SM.nil).toArray 78))
        have HB3 := Lib.hid hb3
        have HBY := Lib.hid (Blk.new w2 (chC N SM.nil) 78)
        have HO3 := Lib.hid (own_below (own_below HO.out hb3) (up_alloc (w2.alloc (.cells (chC N SM.nil).toArray 78)) (.cells (chC N SM.nil).toArray 78)))
        have HY : Hid (w.heap.size ≤ ((w2.alloc (.cells (chC N SM.nil).toArray 78)).alloc (.cells (chC N SM.nil).toArray 78)).heap.size) := Lib.hid (by have h1 := HB.out.size; have h2 := hb2.size; simp; omega)
        clear hb2 hb3
        by_cases h0 : x = 0
        · subst h0
          have HN0 : Hid (newRun 0 l = newRun (k + 1) (l.drop (k + 1))) := Lib.hid (by rw [HRN.out, HDR.out, newRun_step HX.out])
          go_wp2_with (first | (refine sn_row' (t := 78) (W := w2) (cs := chC N SM.nil) (zs := chZ) (.tmp 7) (.tmp 24) rfl rfl rfl rfl info_rch rfl chC_one ?_ ?_ ?_; (· rfl); (· rfl)) | (refine ld_row' (cs := chC N SM.nil) (t := 78) (.tmp 7) rfl rfl Try.underlying78 rfl info_rch rfl ?_ ?_; (· exact HBY.out)) | (refine wpList_oneQ ei_rt rfl (.tmp 31) rfl N SM.nil rfl ?_) | (at_builtin; refine wpList_app ei_rt rfl (.tmp 30) (.tmp 32) rfl _ _ rfl HO3.out rfl (RD.oneQ (q := (N, SM.nil)) (by simp)) (cellsQ_one [(N, SM.nil)]) (by omega) HY.out ?_; intro v4 w4 hown4 hb4; have HO4 := Lib.hid hown4; have HB4 := Lib.hid hb4; clear hown4 hb4))
          go_roundw
          case rel => exact ⟨k + 1, by omega, by go_num, HN0.out, by rw [HNX.out, List.flatMap_append]; exact HO4.out, (up_trans HB.out (up_trans HB3.out (up_alloc _ _))).trans HB4.out⟩
          case measure => simp [intOf]; omega
        · have hx1 : (x != 0) = true := by simp [bne, h0]
          have HRR : Hid (newR l = (k, x)) := Lib.hid (by
            rw [HE.out, HRN.out, HDR.out, newRun_stop (by rw [HX.out]; exact h0), HX.out])
          have HLL : Hid (newL l = []) := Lib.hid (by unfold newL; rw [HRR.out, if_neg h0])
          clear h0
          go_wp2_with (refine sn_row' (t := 78) (W := w2) (cs := chC N SM.nil) (zs := chZ) (.tmp 7) (.tmp 24) rfl rfl rfl rfl info_rch rfl chC_one ?_ ?_ ?_; (· rfl); (· rfl))
          go_ret3
          exact ⟨none, 0, 0, [], by rw [HRR.out]; rfl, TbW.none _ _, by rw [HLL.out]; rfl, up_trans HB.out HB3.out⟩
      · obtain rfl : k = n := by omega
        have HRR : Hid (newR l = (0, 0)) := Lib.hid (by rw [HE.out, hrun, List.drop_of_length_le (by rw [HL.out]; exact Nat.le_refl _)]; rfl)
        have HTK : Hid (l.take k = l) := Lib.hid (List.take_of_length_le (by rw [HL.out]; exact Nat.le_refl _))
        have HLL : Hid ((l.map (fun c => (cfN c, SM.nil))).map Prod.fst = newL l) := Lib.hid (by
          unfold newL
          rw [HRR.out, if_pos rfl, List.map_map]
          rfl)
        have HO := Lib.hid hown
        have HB := Lib.hid hbw
        clear hrun hown hbw
        go_wp2
        go_ret3
        have h1 := HO.out
        rw [HTK.out] at h1
        obtain ⟨A', c', rfl, h2, h3, h4⟩ := own_slice h1
        exact ⟨_, _, _, l.map (fun c => (cfN c, SM.nil)), by rw [HRR.out]; rfl, ⟨h4.lo (fun _ _ => trivial), by rw [List.length_map, HL.out], h2, h3, fun q hq => by
          obtain ⟨x, _, rfl⟩ := List.mem_map.1 hq
          refine ChW.nil _ _ ?_
          show (chNew x.k x.r x.i x.o).V = [] ∧ (chNew x.k x.r x.i x.o).W = [] ∧ (chNew x.k x.r x.i x.o).S = [] ∧ (chNew x.k x.r x.i x.o).G = []
          unfold chNew
          cases ccE x.k x.r x.i x.o == 0 <;> exact ⟨rfl, rfl, rfl, rfl⟩⟩, HLL.out, HB.out⟩

set_option maxRecDepth 100000 in
set_option maxHeartbeats 4000000 in
theorem c_rthits {w : World} {pl : Nat → Prop} {A : Option Addr} {n c : Nat} {L : List CQ} (h : TbW w pl A n c L) (hf : fewL 1000 L) (hn : n ≤ 1000) (p : Int) :
    Calls Try.prog 23 #[.slice A n c, .int .i64 p] w (IntsPost w (hitL p 0 (L.map Prod.fst))) := by
  have HF := Lib.hid hf
  have HT := Lib.hid h
  have hlen : (L.map Prod.fst).length = n := by rw [List.length_map, h.len]
  have HL := Lib.hid hlen
  clear h hf hlen
  go_enter Try.func23, Try.ntmps23
  go_wp2_with fail
  go_loopw [5, 6] (fun s i wr => ∃ k : Nat, k ≤ n ∧ i = .int .i64 k ∧ wr.ownsRow w.heap.size 3 1 s (hitL p 0 ((L.map Prod.fst).take k)).length ((hitL p 0 ((L.map Prod.fst).take k)).map (Value.int .i64)) ∧ Below w.heap.size w wr) (fun _ i _ => n - (intOf i).toNat)
  case atStart => exact ⟨0, Nat.zero_le _, rfl, World.ownsRow_nil _ _ _ _, Below.refl _ _⟩
  case round =>
    obtain ⟨k, hk, rfl, hown, hbw⟩ := hrel
    by_cases hlt : k < n
    · have hkn : (k : Int) < (n : Int) := by omega
      obtain ⟨b, o, q, rfl, _, hbl, hq, hrg, hch⟩ := (HT.out.below hbw).at_ k hlt
      have HRG := Lib.hid hrg
      have HO := Lib.hid hown
      have HB := Lib.hid hbw
      have hfq := HF.out q (List.mem_of_getElem? hq)
      have CH := Lib.hid (c_rchit hch (hfq.few (by omega) hch) p)
      have HS : Hid (hitL p 0 ((L.map Prod.fst).take (k + 1)) = hitL p 0 ((L.map Prod.fst).take k) ++ (if chHit q.1 p = true then [(k : Int)] else [])) := Lib.hid (by
        have e : 0 + ((L.map Prod.fst).take k).length = k := by rw [List.length_take, HL.out]; omega
        rw [map_take_snoc hq, hitL_snoc, e])
      have HZ := Lib.hid (hitL_len p ((L.map Prod.fst).take k) 0)
      have HZ2 : Hid (((L.map Prod.fst).take k).length ≤ k) := Lib.hid (by rw [List.length_take]; omega)
      clear hrg hown hbw hbl hq hch hfq
      cases hh : chHit q.1 p
      · rw [hh] at CH
        have HS2 : Hid (hitL p 0 ((L.map Prod.fst).take (k + 1)) = hitL p 0 ((L.map Prod.fst).take k)) := Lib.hid (by rw [HS.out, if_neg (by rw [hh]; decide), List.append_nil])
        clear hh HS
        go_wp2_with (refine lm_row' (cs := cellsQ q) (.tmp 15) rfl rfl Try.underlying78 rfl info_rch rfl ?_ ?_; (· exact HRG.out))
        refine CH.out.mono ?_; rintro e w2 ⟨rfl, hb2⟩
        have HB2 := Lib.hid hb2
        clear hb2
        go_wp2_with fail
        go_roundw
        case rel => exact ⟨k + 1, by omega, by go_num, by rw [HS2.out]; exact own_below HO.out HB2.out, up_trans HB.out HB2.out⟩
        case measure => simp [intOf]; omega
      · rw [hh] at CH
        have HS2 : Hid (hitL p 0 ((L.map Prod.fst).take (k + 1)) = hitL p 0 ((L.map Prod.fst).take k) ++ [(k : Int)]) := Lib.hid (by rw [HS.out, if_pos hh])
        clear hh HS
        go_wp2_with (refine lm_row' (cs := cellsQ q) (.tmp 15) rfl rfl Try.underlying78 rfl info_rch rfl ?_ ?_; (· exact HRG.out))
        refine CH.out.mono ?_; rintro e w2 ⟨rfl, hb3⟩
        have HB3 := Lib.hid hb3
        have HO3 := Lib.hid (own_below (own_below HO.out hb3) (up_alloc w2 (.cells #[.int .i64 (k : Int)] 3)))
        have HY : Hid (w.heap.size ≤ (w2.alloc (.cells #[.int .i64 (k : Int)] 3)).heap.size) := Lib.hid (by have h1 := HB.out.size; have h2 := hb3.size; simp; omega)
        clear hb3
        go_wp2_with (at_builtin; refine wpList_app ei_int rfl (.tmp 19) (.tmp 21) rfl _ _ rfl HO3.out rfl (RD.one rfl) (by simp [Value.oneCell']) (by have := HZ.out; have := HZ2.out; omega) HY.out ?_; intro v4 w4 hown4 hb4; have HO4 := Lib.hid hown4; have HB4 := Lib.hid hb4; clear hown4 hb4)
        go_roundw
        case rel => exact ⟨k + 1, by omega, by go_num, by rw [HS2.out, List.map_append, List.length_append]; exact HO4.out, (up_trans HB.out (up_trans HB3.out (up_alloc _ _))).trans HB4.out⟩
        case measure => simp [intOf]; omega
    · obtain rfl : k = n := by omega
      have HO := Lib.hid hown
      have HB := Lib.hid hbw
      have HS : Hid ((L.map Prod.fst).take k = L.map Prod.fst) := Lib.hid (List.take_of_length_le (by rw [HL.out]; exact Nat.le_refl _))
      clear hown hbw
      go_wp2
      go_ret
      have h1 := HO.out
      rw [HS.out] at h1
      exact IntsPost.of h1 HB.out

theorem ei_rat : EI Try.prog 55 42 (.agg #[.int .i64 0, .int .i64 0]) 2 16 := ⟨Try.underlying55, by kernel_rfl, rfl, by omega, by omega⟩
set_option maxRecDepth 100000 in
set_option maxHeartbeats 4000000 in
theorem c_rtmoves {w : World} {pl : Nat → Prop} {A : Option Addr} {n c : Nat} {L : List CQ} (h : TbW w pl A n c L) (hf : fewL 1000 L) (hn : n ≤ 1000) :
    Calls Try.prog 20 #[.slice A n c] w (MvPost w (mvL 0 (L.map Prod.fst))) := by
  have HF := Lib.hid hf
  have HT := Lib.hid h
  have hlen : (L.map Prod.fst).length = n := by rw [List.length_map, h.len]
  have HL := Lib.hid hlen
  clear h hf hlen
  go_enter Try.func20, Try.ntmps20
  go_wp2_with fail
  go_loopw [3, 4] (fun s i wr => ∃ k : Nat, k ≤ n ∧ i = .int .i64 k ∧ wr.ownsRow w.heap.size 42 2 s (mvL 0 ((L.map Prod.fst).take k)).length ((mvL 0 ((L.map Prod.fst).take k)).flatMap mvC) ∧ Below w.heap.size w wr) (fun _ i _ => n - (intOf i).toNat)
  case atStart => exact ⟨0, Nat.zero_le _, rfl, World.ownsRow_nil _ _ _ _, Below.refl _ _⟩
  case round =>
    rename World => wr0
    obtain ⟨k, hk, rfl, hown, hbw⟩ := hrel
    by_cases hlt : k < n
    · have hkn : (k : Int) < (n : Int) := by omega
      obtain ⟨b, o, q, rfl, _, hbl, hq, hrg, hch⟩ := (HT.out.below hbw).at_ k hlt
      have HRG := Lib.hid hrg
      have HB := Lib.hid hbw
      have hfq := HF.out q (List.mem_of_getElem? hq)
      have CH := Lib.hid (c_rcwhat hch (hfq.few (by omega) hch))
      have HS : Hid (mvL 0 ((L.map Prod.fst).take (k + 1)) = mvL 0 ((L.map Prod.fst).take k) ++ (chWhat q.1).map (fun m => (k, m))) := Lib.hid (by
        have e : 0 + ((L.map Prod.fst).take k).length = k := by rw [List.length_take, HL.out]; omega
        rw [map_take_snoc hq, mvL_snoc, e])
      have HQL := Lib.hid (chWhat_len q.1)
      have HZ : Hid ((mvL 0 ((L.map Prod.fst).take k)).length ≤ 3 * k) := Lib.hid (by
        have h1 := mvL_len ((L.map Prod.fst).take k) 0
        rw [List.length_take] at h1
        omega)
      generalize mvL 0 ((L.map Prod.fst).take k) = Z at hown HS HZ
      generalize chWhat q.1 = Q at CH HS HQL
      have HO := Lib.hid hown
      clear hrg hown hbw hbl hq hch hfq
      go_wp2_with (refine lm_row' (cs := cellsQ q) (.tmp 15) rfl rfl Try.underlying78 rfl info_rch rfl ?_ ?_; (· exact HRG.out))
      refine CH.out.mono ?_; rintro e w2 ⟨A5, c5, rfl, -, -, hr5, hb5⟩
      have HB5 := Lib.hid hb5
      have HR5 := Lib.hid hr5
      have HO5 := Lib.hid (own_below HO.out HB5.out)
      clear hb5 hr5
      go_wp2_with fail
      go_loopw [3, 6] (fun s i wr => ∃ m : Nat, m ≤ Q.length ∧ i = .int .i64 m ∧ wr.ownsRow w.heap.size 42 2 s (Z ++ (Q.take m).map (fun m => (k, m))).length ((Z ++ (Q.take m).map (fun m => (k, m))).flatMap mvC) ∧ Only (fun b => w.heap.size ≤ b ∧ b < wr0.heap.size) w2 wr ∧ (∀ g, s.ownBlock = some g → g < wr0.heap.size ∨ w2.heap.size ≤ g)) (fun _ i _ => Q.length - (intOf i).toNat)
      case atStart => exact ⟨0, Nat.zero_le _, rfl, by simpa using HO5.out, Only.refl _ _, fun g hg => .inl (by obtain ⟨_, cs, hcs⟩ := own_blk HO.out g hg; exact hcs.lt)⟩
      case round =>
        rename World => wr1
        obtain ⟨m, hm, rfl, hown1, hon, hbl⟩ := hrel
        have hq3 : Q.length ≤ 3 := HQL.out
        by_cases hltm : m < Q.length
        · have hmn : (m : Int) < (Q.length : Int) := by omega
          obtain ⟨b5, o5, rfl, _, _, hc5⟩ := (HR5.out.only hon (by intro k hk hk'; have := hk.2; omega)).at_ (by omega)
          have h5 := hc5 m (.int .i64 Q[m]) (by simp [hltm])
          have HQ : Hid (Z ++ (Q.take (m + 1)).map (fun m => (k, m)) = (Z ++ (Q.take m).map (fun m => (k, m))) ++ [(k, Q[m])]) := Lib.hid (by
            rw [ln_take_snoc Q m hltm, List.map_append, List.append_assoc]
            rfl)
          have HZ2 : Hid ((Z ++ (Q.take m).map (fun m => (k, m))).length ≤ 4 * 1000) := Lib.hid (by
            have := HZ.out
            have := HQL.out
            rw [List.length_append, List.length_map, List.length_take]
            omega)
          generalize Z ++ (Q.take m).map (fun m => (k, m)) = Y at hown1 HQ HZ2
          generalize Q[m] = z at h5 HQ
          have HO1 := Lib.hid hown1
          have HON := Lib.hid hon
          have HBL := Lib.hid hbl
          have HO3 := Lib.hid (own_below hown1 (up_alloc wr1 (.cells #[.int .i64 (k : Int), .int .i64 z] 42)))
          have HY : Hid (w.heap.size ≤ (wr1.alloc (.cells #[.int .i64 (k : Int), .int .i64 z] 42)).heap.size) := Lib.hid (by have h1 := HB.out.size; have h2 := HB5.out.size; have h3 := hon.size; simp; omega)
          clear hown1 hon hbl hc5
          go_wp2_with (at_builtin; refine wpList_app3 ei_rat rfl (.tmp 24) (.tmp 31) rfl u3 _ rfl HO3.out rfl (RD.one2 rfl) (by simp [Value.oneCell']) (by have := HZ2.out; omega) HY.out ?_; intro v4 w4 hown4 hg4 hn4; have HO4 := Lib.hid hown4; have HG4 := Lib.hid hg4; have HN4 := Lib.hid hn4; clear hown4 hg4 hn4)
          go_roundw
          case rel =>
            refine ⟨m + 1, by omega, by go_num, by rw [HQ.out, List.flatMap_append, List.length_append]; exact HO4.out, (HON.out.alloc _).grown HG4.out (fun k' e => ?_), fun g hg => ?_⟩
            · rcases HBL.out k' e with h | h
              · exact .inl ⟨(HO1.out.lt k' e).1, h⟩
              · exact .inr h
            · rcases HN4.out g hg with h | h
              · exact HBL.out g h
              · have := HON.out.size
                simp at h
                exact .inr (by omega)
          case measure => simp [intOf]; omega
        · obtain rfl : m = Q.length := by omega
          have HO1 := Lib.hid hown1
          have HON := Lib.hid hon
          have HS2 : Hid (Z ++ (Q.take Q.length).map (fun m => (k, m)) = mvL 0 ((L.map Prod.fst).take (k + 1))) := Lib.hid (by rw [HS.out, List.take_length])
          clear hown1 hon hbl
          go_wp2_with fail
          go_roundw
          case rel => exact ⟨k + 1, by omega, by go_num, by rw [← HS2.out]; exact HO1.out, Only.later (up_trans HB.out HB5.out) HON.out (fun i hi => hi.1)⟩
          case measure => simp [intOf]; omega
    · obtain rfl : k = n := by omega
      have HO := Lib.hid hown
      have HB := Lib.hid hbw
      have HS : Hid ((L.map Prod.fst).take k = L.map Prod.fst) := Lib.hid (List.take_of_length_le (by rw [HL.out]; exact Nat.le_refl _))
      clear hown hbw
      go_wp2
      go_ret
      have h1 := HO.out
      rw [HS.out] at h1
      exact MvPost.of h1 HB.out
end Go.Proofs.Ytnmjjemkaamcfaa

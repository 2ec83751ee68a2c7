/- The law's To, From and Same. The law's To, From, Same and Small. The document's New, Hits, Moves of layer 19. -/
import Derived.Test.YtdiiilnebepfdaaGreatDoorC3
import Derived.Test.YtdiiilnebepfdaaGreatDoorA1
import Derived.Test.YtdiiilnebepfdaaGreatDoorC2
import Derived.Great.BuildSlice
import Derived.Test.YtdiiilnebepfdaaGreatDoorC4
namespace Go.Proofs.YtdiiilnebepfdaaGreatDoor
open Go.RowKit

set_option maxRecDepth 100000 in
set_option maxHeartbeats 4000000 in
theorem c_to (w : World) (C : CP) (M : SM) : Calls Tryz.prog 61 #[.agg (chC C M).toArray] w fun e w' => e = .returned (.agg (chC C M).toArray) ∧ Below w.heap.size w w' := by
  have hX : Bx2 w ((w.alloc (.cells (chC C M).toArray 107)).alloc (.cells #[.int .i64 0, .int .i64 0, .int .i64 0, .int .i64 0, .int .i64 0, .slice none 0 0, .bool false, .slice none 0 0, .slice none 0 0, .bool false, .slice none 0 0] 131)) (chC C M) 107 chZ 131 := bx2 w _ _ chZ _
  generalize hw1 : (w.alloc (.cells (chC C M).toArray 107)).alloc (.cells #[.int .i64 0, .int .i64 0, .int .i64 0, .int .i64 0, .int .i64 0, .slice none 0 0, .bool false, .slice none 0 0, .slice none 0 0, .bool false, .slice none 0 0] 131) = w1 at hX
  have HW := Lib.hid hw1
  have HX := Lib.hid hX
  have c0 := hX.box.ck
  have c1 := hX.box.cr
  have c2 := hX.box.ci
  have c3 := hX.box.co
  have c4 := hX.box.clv
  have c5 := hX.box.cV
  have c6 := hX.box.cos
  have c7 := hX.box.cW
  have c8 := hX.box.cS
  have c9 := hX.box.cis
  have c10 := hX.box.cG
  clear hw1 hX
  go_enter Tryz.func61, Tryz.ntmps61
  go_upto_region 1 with fail
  rw [HW.out]
  go_wp2_with (refine st_row (cs := chC C M) HX.out.res rfl (.tmp 2) (.tmp 15) rfl rfl rfl info_ch rfl chC_one ?_)
  refine bodyPost_ret (v := .agg (chC C M).toArray) (results_c (fn := Tryz.f61) (p := 2) rfl _ _ _ rfl (HX.out.res.row _) Tryz.underlying131 rfl info_ch) rfl ?_
  exact ⟨rfl, below_setRow HX.out.up (by omega) _⟩

end Go.Proofs.YtdiiilnebepfdaaGreatDoor

namespace Go.Proofs.YtdiiilnebepfdaaGreatDoor
open Go.RowKit

/-- A slice literal of one channel. -/
theorem wpList_oneQ {P : Program} {w : World} {ops : Array Oper} {rest : List Oper} {o : Oper} {a : Act} {Q : Exit → Act → World → Prop} {t e : TypeId} {bytes : Nat} (E : EI P t e (.agg chZ.toArray) 11 bytes) (hg : o.guard = none) (x : Operand)
    (ho : o.op = .buildSlice t 1 #[(0, x)]) (C : CP) (M : SM) (hx : a.eval x = .agg (chC C M).toArray)
    (h : wpList P ops Q rest (a.put o.dst (.slice (some ⟨w.heap.size, 0, none⟩) 1 1)) (w.alloc (.cells (chC C M).toArray e))) : wpList P ops Q (o :: rest) a w := by
  obtain ⟨i, hi, hz, hs, hb⟩ := info_parts E.info
  refine wpList_buildSlice hg t e 1 _ ho (chC C M).toArray i _ E.under hi hz (by rw [hs]; decide) (by rw [hs]; decide) ?_ h
  rw [hs]
  have e1 : ((#[(0, x)] : Array (Nat × Operand)).map fun (i, x) => (i, a.eval x)).toList = [(0, .agg (chC C M).toArray)] := by simp [hx]
  rw [e1]
  have e2 : Instr.fill (fun i => some (i * 11, 11)) ((Array.range (1 * 11)).map ((Value.agg chZ.toArray).cells[· % (Value.agg chZ.toArray).cells.size]!)) [(0, .agg (chC C M).toArray)] = some (chC C M).toArray := by kernel_rfl
  exact e2
theorem ei_rt : EI Tryz.prog 22 107 (.agg chZ.toArray) 11 152 := ⟨Tryz.underlying22, by kernel_rfl, rfl, by omega, by omega⟩
/-- A table that reads so, in new memory. -/
def TbPost (w : World) (n : Nat) (L : List CQ) (e : Ending) (w' : World) : Prop := ∃ A c, e = .returned (.slice A n c) ∧ TbW w' (w.heap.size ≤ ·) A n c L ∧ Below w.heap.size w w'
theorem TbPost.of {w w' : World} {T : TypeId} {v : Value} {n : Nat} {L : List CQ} (h : w'.ownsRow w.heap.size T 11 v n (L.flatMap cellsQ)) (hl : L.length = n) (k : ∀ q ∈ L, ChW w ctAny q.1 q.2) (hb : Below w.heap.size w w') : TbPost w n L (.returned v) w' := by
  obtain ⟨A, c, rfl, h1, h2, h3⟩ := own_slice h
  exact ⟨A, c, rfl, ⟨h3, hl, h1, h2, fun q hq => (k q hq).below hb⟩, hb⟩

set_option maxRecDepth 100000 in
set_option maxHeartbeats 4000000 in
theorem c_tto {w : World} {pl : Nat → Prop} {A : Option Addr} {n c : Nat} {L : List CQ} (h : TbW w pl A n c L) (hn : n ≤ 1000) :
    Calls Tryz.prog 24 #[.slice A n c] w (TbPost w n L) := by
  have HT := Lib.hid h
  have HL := Lib.hid h.len
  clear h
  go_enter Tryz.func24, Tryz.ntmps24
  go_wp2_with fail
  go_loopw [3, 8] (fun s i wr => ∃ k : Nat, k ≤ n ∧ i = .int .i64 k ∧ wr.ownsRow w.heap.size 131 11 s k ((L.take k).flatMap cellsQ) ∧ Below w.heap.size w wr) (fun _ i _ => n - (intOf i).toNat)
  case atStart => exact ⟨0, Nat.zero_le _, rfl, World.ownsRow_nil _ _ _ _, Below.refl _ _⟩
  case round =>
    obtain ⟨k, hk, rfl, hown, hbw⟩ := hrel
    by_cases hlt : k < n
    · obtain ⟨b, o, q, rfl, _, _, hq, hrg, _⟩ := (HT.out.below hbw).at_ k hlt
      have HS : Hid (L.take (k + 1) = L.take k ++ [q]) := Lib.hid (by rw [List.take_add_one, hq]; rfl)
      have HRG := Lib.hid hrg
      have HB := Lib.hid hbw
      have HO := Lib.hid hown
      have HBX := Lib.hid (Blk.new wr (cellsQ q) 107)
      clear hq hrg hown hbw
      go_wp2_with (first | (refine lm_row' (cs := cellsQ q) (.tmp 10) rfl rfl Tryz.underlying107 rfl info_rch rfl ?_ ?_; (· exact HRG.out)) | (refine sn_row' (t := 107) (W := wr) (cs := cellsQ q) (zs := chZ) (.tmp 5) (.tmp 11) rfl rfl rfl rfl info_rch rfl chC_one ?_ ?_ ?_; (· rfl); (· rfl)) | (refine ld_row' (cs := cellsQ q) (t := 107) (.tmp 5) rfl rfl Tryz.underlying107 rfl info_rch rfl ?_ ?_; (· exact HBX.out)))
      refine (c_to _ q.1 q.2).mono ?_; rintro e w2 ⟨rfl, hb2⟩
      have hb3 := up_trans (up_alloc wr (.cells (cellsQ q).toArray 107)) hb2
      have HB3 := Lib.hid hb3
      have HO3 := Lib.hid (own_below (own_below HO.out hb3) (up_alloc w2 (.cells (chC q.1 q.2).toArray 131)))
      have HY : Hid (w.heap.size ≤ (w2.alloc (.cells (chC q.1 q.2).toArray 131)).heap.size) := Lib.hid (by have h1 := HB.out.size; have h2 := hb3.size; simp; omega)
      clear hb2 hb3
      go_wp2_with (first | (refine wpList_oneQ ei_ct rfl (.tmp 14) rfl q.1 q.2 rfl ?_) | (at_builtin; refine wpList_app ei_ct rfl (.tmp 12) (.tmp 15) rfl _ _ rfl HO3.out rfl (RD.oneQ (q := q) rfl) (cellsQ_one [q]) (by omega) HY.out ?_; intro v4 w4 hown4 hb4; have HO4 := Lib.hid hown4; have HB4 := Lib.hid hb4; clear hown4 hb4))
      go_roundw
      case rel => exact ⟨k + 1, by omega, by go_num, by rw [HS.out, List.flatMap_append]; exact HO4.out, (up_trans HB.out (up_trans HB3.out (up_alloc _ _))).trans HB4.out⟩
      case measure => simp [intOf]; omega
    · obtain rfl : k = n := by omega
      have HO := Lib.hid hown
      have HB := Lib.hid hbw
      clear hown hbw
      go_wp2
      go_ret
      have h1 := HO.out
      rw [List.take_of_length_le (by rw [HL.out]; exact Nat.le_refl _)] at h1
      exact TbPost.of h1 HL.out HT.out.each HB.out

/-- The channel's lists are longer than the law takes. -/
def bigB (M : SM) : Bool := decide (20 < (M.V.n : Int)) || (decide (20 < (M.W.n : Int)) || (decide (20 < (M.S.n : Int)) || decide (20 < (M.G.n : Int))))
def ctSmallT (L : List CQ) : Bool := decide (L.length ≤ 10) && L.all fun q => !bigB q.2
theorem smallT_few {w : World} {pl : Nat → Prop} {A : Option Addr} {n c : Nat} {L : List CQ} (h : TbW w pl A n c L) (hs : ctSmallT L = true) : n ≤ 10 ∧ fewL 20 L := by
  unfold ctSmallT at hs
  rw [Bool.and_eq_true, decide_eq_true_eq, List.all_eq_true] at hs
  refine ⟨by rw [← h.len]; exact hs.1, fun q hq => ?_⟩
  have h1 := hs.2 q hq
  have k := h.each q hq
  have k1 := k.v.len
  have k2 := k.w_.len
  have k3 := k.s.len
  have k4 := k.g.len
  unfold bigB at h1
  simp only [Bool.not_eq_true', Bool.or_eq_false_iff, decide_eq_false_iff_not] at h1
  unfold fewC
  omega
set_option maxRecDepth 100000 in
set_option maxHeartbeats 4000000 in
theorem c_ctsmall {w : World} {pl : Nat → Prop} {A : Option Addr} {n c : Nat} {L : List CQ} (h : TbW w pl A n c L) :
    Calls Tryz.prog 16 #[.slice A n c] w fun e w' => e = .returned (.bool (ctSmallT L)) ∧ Below w.heap.size w w' := by
  have HT := Lib.hid h
  have HL := Lib.hid h.len
  clear h
  by_cases h10 : (10 : Int) < n
  · have HE : Hid (ctSmallT L = false) := Lib.hid (by unfold ctSmallT; rw [decide_eq_false (by rw [HL.out]; omega)]; rfl)
    rw [HE.out]
    go_enter Tryz.func16, Tryz.ntmps16
    go_wp2
    go_ret
    exact ⟨rfl, Below.refl _ _⟩
  have hn : n ≤ 1000 := by omega
  go_enter Tryz.func16, Tryz.ntmps16
  go_wp2_with fail
  go_loopw [10] (fun i wr => ∃ k : Nat, k ≤ n ∧ i = .int .i64 k ∧ ((L.take k).all fun q => !bigB q.2) = true ∧ Below w.heap.size w wr) (fun i _ => n - (intOf i).toNat)
  case atStart => exact ⟨0, Nat.zero_le _, rfl, rfl, Below.refl _ _⟩
  case round =>
    obtain ⟨k, hk, rfl, hall, hbw⟩ := hrel
    by_cases hlt : k < n
    · obtain ⟨b, o, q, rfl, _, _, hq, hrg, _⟩ := (HT.out.below hbw).at_ k hlt
      have HS : Hid (((L.take (k + 1)).all fun q => !bigB q.2) = !bigB q.2) := Lib.hid (by rw [List.take_add_one, hq, List.all_append, hall]; simp)
      have HN : Hid (bigB q.2 = true → ctSmallT L = false) := Lib.hid (fun e => by
        unfold ctSmallT
        have h1 : (L.all fun q => !bigB q.2) = false := by
          rw [List.all_eq_false]
          exact ⟨q, List.mem_of_getElem? hq, by simp [e]⟩
        rw [h1, Bool.and_false])
      have HRG := Lib.hid hrg
      have HB := Lib.hid hbw
      have hbx : Blk (wr.alloc (.cells (cellsQ q).toArray 107)) wr.heap.size (chC q.1 q.2) 107 := Blk.new wr (cellsQ q) 107
      have c5 := hbx.cV
      have c7 := hbx.cW
      have c8 := hbx.cS
      have c10 := hbx.cG
      have HEB : Hid (bigB q.2 = (decide (20 < (q.2.V.n : Int)) || (decide (20 < (q.2.W.n : Int)) || (decide (20 < (q.2.S.n : Int)) || decide (20 < (q.2.G.n : Int)))))) := Lib.hid rfl
      clear hq hrg hbw hbx hall
      by_cases hV : (20 : Int) < q.2.V.n
      · rw [decide_eq_true hV] at HEB
        have HE : Hid (ctSmallT L = false) := Lib.hid (HN.out (by rw [HEB.out]; simp))
        go_wp2_with (first | (refine lm_row' (cs := cellsQ q) (.tmp 12) rfl rfl Tryz.underlying107 rfl info_rch rfl ?_ ?_; (· exact HRG.out)) | (refine sn_row' (t := 107) (W := wr) (cs := cellsQ q) (zs := chZ) (.tmp 4) (.tmp 13) rfl rfl rfl rfl info_rch rfl chC_one ?_ ?_ ?_; (· rfl); (· rfl)))
        go_ret
        exact ⟨ret_bool HE.out.symm, up_trans HB.out (up_alloc _ _)⟩
      · rw [decide_eq_false hV] at HEB
        by_cases hW : (20 : Int) < q.2.W.n
        · rw [decide_eq_true hW] at HEB
          have HE : Hid (ctSmallT L = false) := Lib.hid (HN.out (by rw [HEB.out]; simp))
          go_wp2_with (first | (refine lm_row' (cs := cellsQ q) (.tmp 12) rfl rfl Tryz.underlying107 rfl info_rch rfl ?_ ?_; (· exact HRG.out)) | (refine sn_row' (t := 107) (W := wr) (cs := cellsQ q) (zs := chZ) (.tmp 4) (.tmp 13) rfl rfl rfl rfl info_rch rfl chC_one ?_ ?_ ?_; (· rfl); (· rfl)))
          go_ret
          exact ⟨ret_bool HE.out.symm, up_trans HB.out (up_alloc _ _)⟩
        · rw [decide_eq_false hW] at HEB
          by_cases hS : (20 : Int) < q.2.S.n
          · rw [decide_eq_true hS] at HEB
            have HE : Hid (ctSmallT L = false) := Lib.hid (HN.out (by rw [HEB.out]; simp))
            go_wp2_with (first | (refine lm_row' (cs := cellsQ q) (.tmp 12) rfl rfl Tryz.underlying107 rfl info_rch rfl ?_ ?_; (· exact HRG.out)) | (refine sn_row' (t := 107) (W := wr) (cs := cellsQ q) (zs := chZ) (.tmp 4) (.tmp 13) rfl rfl rfl rfl info_rch rfl chC_one ?_ ?_ ?_; (· rfl); (· rfl)))
            go_ret
            exact ⟨ret_bool HE.out.symm, up_trans HB.out (up_alloc _ _)⟩
          · rw [decide_eq_false hS] at HEB
            by_cases hG : (20 : Int) < q.2.G.n
            · rw [decide_eq_true hG] at HEB
              have HE : Hid (ctSmallT L = false) := Lib.hid (HN.out (by rw [HEB.out]; simp))
              go_wp2_with (first | (refine lm_row' (cs := cellsQ q) (.tmp 12) rfl rfl Tryz.underlying107 rfl info_rch rfl ?_ ?_; (· exact HRG.out)) | (refine sn_row' (t := 107) (W := wr) (cs := cellsQ q) (zs := chZ) (.tmp 4) (.tmp 13) rfl rfl rfl rfl info_rch rfl chC_one ?_ ?_ ?_; (· rfl); (· rfl)))
              go_ret
              exact ⟨ret_bool HE.out.symm, up_trans HB.out (up_alloc _ _)⟩
            · rw [decide_eq_false hG] at HEB
              have HS2 : Hid (((L.take (k + 1)).all fun q => !bigB q.2) = true) := Lib.hid (by rw [HS.out, HEB.out]; rfl)
              go_wp2_with (first | (refine lm_row' (cs := cellsQ q) (.tmp 12) rfl rfl Tryz.underlying107 rfl info_rch rfl ?_ ?_; (· exact HRG.out)) | (refine sn_row' (t := 107) (W := wr) (cs := cellsQ q) (zs := chZ) (.tmp 4) (.tmp 13) rfl rfl rfl rfl info_rch rfl chC_one ?_ ?_ ?_; (· rfl); (· rfl)))
              go_roundw
              case rel => exact ⟨k + 1, by omega, by go_num, HS2.out, up_trans HB.out (up_alloc _ _)⟩
              case measure => simp [intOf]; omega
    · obtain rfl : k = n := by omega
      have HB := Lib.hid hbw
      have HE : Hid (ctSmallT L = true) := Lib.hid (by
        unfold ctSmallT
        rw [List.take_of_length_le (by rw [HL.out]; exact Nat.le_refl _)] at hall
        rw [hall, decide_eq_true (by rw [HL.out]; omega)]
        rfl)
      clear hbw hall
      go_wp2
      go_ret
      exact ⟨ret_bool HE.out.symm, HB.out⟩
end Go.Proofs.YtdiiilnebepfdaaGreatDoor

namespace Go.Proofs.YtdiiilnebepfdaaGreatDoor
open Go.RowKit

set_option maxRecDepth 100000 in
set_option maxHeartbeats 4000000 in
theorem c_rtnew {w : World} {pl : Nat → Prop} {A : Option Addr} {n c : Nat} {l : List CF} (hR : RD w pl 4 A n (l.flatMap ctCfC)) (hl : l.length = n) :
    Calls Tryz.prog 18 #[.slice A n c] w (CtNwPost w l) := by
  have HR := Lib.hid hR
  have HL := Lib.hid hl
  by_cases h8 : (8 : Int) < n
  · have e1 : Hid (newR l = (8, 5)) := Lib.hid (by unfold newR; rw [if_pos (by omega)])
    have e2 : Hid (newL l = []) := Lib.hid (by unfold newL; rw [e1.out]; rfl)
    clear hR hl
    go_enter Tryz.func18, Tryz.ntmps18
    go_wp2
    go_ret3
    refine ⟨none, 0, 0, [], by rw [e1.out]; rfl, TbW.none _ _, by rw [e2.out]; rfl, Below.refl _ _⟩
  · have HE : Hid (newR l = newRun 0 l) := Lib.hid (by unfold newR; rw [if_neg (by omega)])
    clear hR hl
    go_enter Tryz.func18, Tryz.ntmps18
    go_wp2_with fail
    go_loopw [5, 6] (fun s i wr => ∃ k : Nat, k ≤ n ∧ i = .int .i64 k ∧ newRun 0 l = newRun k (l.drop k) ∧ wr.ownsRow w.heap.size 107 11 s k (((l.take k).map (fun c => (cfN c, SM.nil))).flatMap cellsQ) ∧ Below w.heap.size w wr) (fun _ i _ => n - (intOf i).toNat)
    case atStart => exact ⟨0, Nat.zero_le _, rfl, rfl, World.ownsRow_nil _ _ _ _, Below.refl _ _⟩
    case round =>
      obtain ⟨k, hk, rfl, hrun, hown, hbw⟩ := hrel
      by_cases hlt : k < n
      · have hkl : k < l.length := by rw [HL.out]; exact hlt
        have hkn : (k : Int) < (n : Int) := by omega
        obtain ⟨b, o, rfl, _, hbl, hrg⟩ := RD.row cfC_len (HR.out.below hbw) (List.getElem?_eq_getElem hkl) hlt
        have hdr : l.drop k = l[k] :: l.drop (k + 1) := List.drop_eq_getElem_cons hkl
        have hnx : (l.take (k + 1)).map (fun c => (cfN c, SM.nil)) = (l.take k).map (fun c => (cfN c, SM.nil)) ++ [(cfN l[k], SM.nil)] := by
          rw [ln_take_snoc l k hkl, List.map_append]
          rfl
        generalize l[k] = cf at hrg hdr hnx
        have HRG := Lib.hid hrg
        have HDR := Lib.hid hdr
        have HRN := Lib.hid hrun
        have HO := Lib.hid hown
        have HB := Lib.hid hbw
        have CN := Lib.hid (fun W => c_rnew cf.k cf.r cf.i cf.o W)
        obtain ⟨x, hx⟩ : ∃ x, cfE cf = x := ⟨_, rfl⟩
        obtain ⟨N, hN⟩ : ∃ N, cfN cf = N := ⟨_, rfl⟩
        rw [hN] at hnx
        have HNX := Lib.hid hnx
        have hx' : ccE cf.k cf.r cf.i cf.o = x := hx
        have hN' : chNew cf.k cf.r cf.i cf.o = N := hN
        rw [hx', hN'] at CN
        have HX := Lib.hid hx
        clear hrg hdr hnx hrun hown hbw hbl hkl hx hN hx' hN'
        go_wp2_with (refine lm_row' (cs := ctCfC cf) (.tmp 21) rfl rfl Tryz.underlying73 rfl info_cf rfl ?_ ?_; (· exact HRG.out))
        refine (CN.out _).mono ?_; rintro e w2 ⟨rfl, hb2⟩
        have hb3 := up_trans hb2 (up_alloc w2 (.cells (chC N SM.nil).toArray 107))
        have HB3 := Lib.hid hb3
        have HBY := Lib.hid (Blk.new w2 (chC N SM.nil) 107)
        have HO3 := Lib.hid (own_below (own_below HO.out hb3) (up_alloc (w2.alloc (.cells (chC N SM.nil).toArray 107)) (.cells (chC N SM.nil).toArray 107)))
        have HY : Hid (w.heap.size ≤ ((w2.alloc (.cells (chC N SM.nil).toArray 107)).alloc (.cells (chC N SM.nil).toArray 107)).heap.size) := Lib.hid (by have h1 := HB.out.size; have h2 := hb2.size; simp; omega)
        clear hb2 hb3
        by_cases h0 : x = 0
        · subst h0
          have HN0 : Hid (newRun 0 l = newRun (k + 1) (l.drop (k + 1))) := Lib.hid (by rw [HRN.out, HDR.out, newRun_step HX.out])
          go_wp2_with (first | (refine sn_row' (t := 107) (W := w2) (cs := chC N SM.nil) (zs := chZ) (.tmp 7) (.tmp 24) rfl rfl rfl rfl info_rch rfl chC_one ?_ ?_ ?_; (· rfl); (· rfl)) | (refine ld_row' (cs := chC N SM.nil) (t := 107) (.tmp 7) rfl rfl Tryz.underlying107 rfl info_rch rfl ?_ ?_; (· exact HBY.out)) | (refine wpList_oneQ ei_rt rfl (.tmp 31) rfl N SM.nil rfl ?_) | (at_builtin; refine wpList_app ei_rt rfl (.tmp 30) (.tmp 32) rfl _ _ rfl HO3.out rfl (RD.oneQ (q := (N, SM.nil)) (by simp)) (cellsQ_one [(N, SM.nil)]) (by omega) HY.out ?_; intro v4 w4 hown4 hb4; have HO4 := Lib.hid hown4; have HB4 := Lib.hid hb4; clear hown4 hb4))
          go_roundw
          case rel => exact ⟨k + 1, by omega, by go_num, HN0.out, by rw [HNX.out, List.flatMap_append]; exact HO4.out, (up_trans HB.out (up_trans HB3.out (up_alloc _ _))).trans HB4.out⟩
          case measure => simp [intOf]; omega
        · have hx1 : (x != 0) = true := by simp [bne, h0]
          have HRR : Hid (newR l = (k, x)) := Lib.hid (by
            rw [HE.out, HRN.out, HDR.out, newRun_stop (by rw [HX.out]; exact h0), HX.out])
          have HLL : Hid (newL l = []) := Lib.hid (by unfold newL; rw [HRR.out, if_neg h0])
          clear h0
          go_wp2_with (refine sn_row' (t := 107) (W := w2) (cs := chC N SM.nil) (zs := chZ) (.tmp 7) (.tmp 24) rfl rfl rfl rfl info_rch rfl chC_one ?_ ?_ ?_; (· rfl); (· rfl))
          go_ret3
          exact ⟨none, 0, 0, [], by rw [HRR.out]; rfl, TbW.none _ _, by rw [HLL.out]; rfl, up_trans HB.out HB3.out⟩
      · obtain rfl : k = n := by omega
        have HRR : Hid (newR l = (0, 0)) := Lib.hid (by rw [HE.out, hrun, List.drop_of_length_le (by rw [HL.out]; exact Nat.le_refl _)]; rfl)
        have HTK : Hid (l.take k = l) := Lib.hid (List.take_of_length_le (by rw [HL.out]; exact Nat.le_refl _))
        have HLL : Hid ((l.map (fun c => (cfN c, SM.nil))).map Prod.fst = newL l) := Lib.hid (by
          unfold newL
          rw [HRR.out, if_pos rfl, List.map_map]
          rfl)
        have HO := Lib.hid hown
        have HB := Lib.hid hbw
        clear hrun hown hbw
        go_wp2
        go_ret3
        have h1 := HO.out
        rw [HTK.out] at h1
        obtain ⟨A', c', rfl, h2, h3, h4⟩ := own_slice h1
        exact ⟨_, _, _, l.map (fun c => (cfN c, SM.nil)), by rw [HRR.out]; rfl, ⟨h4.lo (fun _ _ => trivial), by rw [List.length_map, HL.out], h2, h3, fun q hq => by
          obtain ⟨x, _, rfl⟩ := List.mem_map.1 hq
          refine ChW.nil _ _ ?_
          show (chNew x.k x.r x.i x.o).V = [] ∧ (chNew x.k x.r x.i x.o).W = [] ∧ (chNew x.k x.r x.i x.o).S = [] ∧ (chNew x.k x.r x.i x.o).G = []
          unfold chNew
          cases ccE x.k x.r x.i x.o == 0 <;> exact ⟨rfl, rfl, rfl, rfl⟩⟩, HLL.out, HB.out⟩

end Go.Proofs.YtdiiilnebepfdaaGreatDoor

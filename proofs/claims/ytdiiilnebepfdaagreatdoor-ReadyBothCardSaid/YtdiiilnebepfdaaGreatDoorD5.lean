/- Tables of the document's barriers (layer 23); its is, put, Enrol, Resign, Fire. The document's Enrol, Resign, Fire of layer 23. The document's Leave, Quit, Ready, New of layer 23. The document's Offer of layer 23. -/
import Derived.Test.YtdiiilnebepfdaaGreatDoorD3
import Derived.Test.YtdiiilnebepfdaaGreatDoorD4
import Derived.LoopTactic
import Derived.Great.BuildSlice
import Derived.Test.YtdiiilnebepfdaaGreatDoorA1
namespace Go.Proofs.YtdiiilnebepfdaaGreatDoor
open Go.RowKit

theorem DW.lt {w : World} {pl : Nat → Prop} {r : RL} {M : DM} (h : DW w pl r M) : DW w (fun b => pl b ∧ b < w.heap.size) r M := ⟨h.m.lt, h.a.lt⟩
/-- Barriers of the document, with where their lists lie. -/
def dB : Mk (BR × DM) := ⟨fun q => dbC q.1 q.2, 5, fun _ => rfl, by omega, fun _ => dbC_one, fun pl q w => DW w pl q.1.r q.2, fun h o hs => h.only o hs, fun h hl => h.lo hl, fun h => h.lt⟩
theorem ei_dt : EI Tryz.prog 23 113 (.agg dbZ.toArray) 5 72 := ⟨Tryz.underlying23, by kernel_rfl, rfl, by omega, by omega⟩
/-- A slice that reads as a table of these. -/
def DT (w : World) (A : Option Addr) (n : Nat) (L : List BR) : Prop := ∃ Q : List (BR × DM), TW dB w tt A n Q ∧ Q.map Prod.fst = L
theorem DT.below {w w' : World} {A : Option Addr} {n : Nat} {L : List BR} (h : DT w A n L) (hb : Below w.heap.size w w') : DT w' A n L := by
  obtain ⟨Q, h1, h2⟩ := h
  exact ⟨Q, h1.below hb, h2⟩
theorem DT.len {w : World} {A : Option Addr} {n : Nat} {L : List BR} (h : DT w A n L) : L.length = n := by
  obtain ⟨Q, h1, rfl⟩ := h
  rw [List.length_map]
  exact h1.len
theorem DT.none (w : World) : DT w none 0 [] := ⟨[], TW.none _ _ _, rfl⟩
theorem DT.at_ {w : World} {A : Option Addr} {n : Nat} {L : List BR} (h : DT w A n L) (k : Nat) (hk : k < n) :
    ∃ b o q M, A = some ⟨b, o, Option.none⟩ ∧ b < w.heap.size ∧ L[k]? = some q ∧ w.rangeAt b (o + k * 5) (dbC q M) ∧ DW w tt q.r M := by
  obtain ⟨Q, h1, rfl⟩ := h
  obtain ⟨b, o, q, e, _, h3, h4, h5, h6⟩ := h1.at_ k hk
  exact ⟨b, o, q.1, q.2, e, h3, by rw [List.getElem?_map, h4]; rfl, h5, h6⟩
def EPT1 (w : World) (n : Nat) (L : List BR) (e : Ending) (w' : World) : Prop :=
  ∃ A' c', e = .returned (.slice A' n c') ∧ DT w' A' n L ∧ Below w.heap.size w w'

set_option maxHeartbeats 400000 in
theorem c_uis (A : Option Addr) (n c : Nat) (o : Int) (w : World) :
    Calls Tryz.prog 70 #[.slice A n c, .int .i64 o] w fun e w' => e = .returned (.bool (tIn n o)) ∧ w = w' := by
  by_cases h0 : 0 ≤ o
  · by_cases h1 : o < (n : Int)
    · have hi : Hid (tIn n o = true) := Lib.hid (by unfold tIn; rw [decide_eq_true h0, decide_eq_true h1]; rfl)
      have g0 : decide (0 ≤ o) = true := decide_eq_true h0
      have g1 : decide (o < (n : Int)) = true := decide_eq_true h1
      rw [hi.out]
      go_enter Tryz.func70, Tryz.ntmps70
      go_wp2
      go_ret
      exact ⟨rfl, rfl⟩
    · have hi : Hid (tIn n o = false) := Lib.hid (tIn_over (by omega))
      have g0 : decide (0 ≤ o) = true := decide_eq_true h0
      have g1 : decide (o < (n : Int)) = false := decide_eq_false h1
      rw [hi.out]
      go_enter Tryz.func70, Tryz.ntmps70
      go_wp2
      go_ret
      exact ⟨rfl, rfl⟩
  · have hi : Hid (tIn n o = false) := Lib.hid (tIn_neg (by omega))
    have g0 : decide (0 ≤ o) = false := decide_eq_false h0
    rw [hi.out]
    go_enter Tryz.func70, Tryz.ntmps70
    go_wp2
    go_ret
    exact ⟨rfl, rfl⟩

end Go.Proofs.YtdiiilnebepfdaaGreatDoor

namespace Go.Proofs.YtdiiilnebepfdaaGreatDoor
open Go.RowKit

end Go.Proofs.YtdiiilnebepfdaaGreatDoor

namespace Go.Proofs.YtdiiilnebepfdaaGreatDoor
open Go.RowKit

/-- A slice literal of one of the document's barriers. -/
theorem wpList_oneD {P : Program} {w : World} {ops : Array Oper} {rest : List Oper} {o : Oper} {a : Act} {Q : Exit → Act → World → Prop} {t e : TypeId} {bytes : Nat} (E : EI P t e (.agg dbZ.toArray) 5 bytes) (hg : o.guard = none) (x : Operand)
    (ho : o.op = .buildSlice t 1 #[(0, x)]) (b : BR) (M : DM) (hx : a.eval x = .agg (dbC b M).toArray)
    (h : wpList P ops Q rest (a.put o.dst (.slice (some ⟨w.heap.size, 0, none⟩) 1 1)) (w.alloc (.cells (dbC b M).toArray e))) : wpList P ops Q (o :: rest) a w := by
  obtain ⟨i, hi, hz, hs, hb⟩ := info_parts E.info
  refine wpList_buildSlice hg t e 1 _ ho (dbC b M).toArray i _ E.under hi hz (by rw [hs]; decide) (by rw [hs]; decide) ?_ h
  rw [hs]
  have e1 : ((#[(0, x)] : Array (Nat × Operand)).map fun (i, x) => (i, a.eval x)).toList = [(0, .agg (dbC b M).toArray)] := by simp [hx]
  rw [e1]
  have e2 : Instr.fill (fun i => some (i * 5, 5)) ((Array.range (1 * 5)).map ((Value.agg dbZ.toArray).cells[· % (Value.agg dbZ.toArray).cells.size]!)) [(0, .agg (dbC b M).toArray)] = some (dbC b M).toArray := by kernel_rfl
  exact e2
theorem cbN_r (c : CB) : (cbN c).r = RL.zero := by
  unfold cbN brNew
  split
  · rfl
  · rfl
def UNw (w : World) (l : List CB) (e : Ending) (w' : World) : Prop :=
  ∃ A' n' c', e = .returned (.tuple #[.slice A' n' c', .int .i64 ((nwR l).1 : Nat), .int .i64 (nwR l).2]) ∧ DT w' A' n' (nwL l) ∧ Below w.heap.size w w'
set_option maxRecDepth 100000 in
set_option maxHeartbeats 4000000 in
theorem c_unew {w : World} {pl : Nat → Prop} {A : Option Addr} {n c : Nat} {l : List CB} (hR : RD w pl 2 A n (l.flatMap cbC)) (hl : l.length = n) :
    Calls Tryz.prog 31 #[.slice A n c] w (UNw w l) := by
  have HR := Lib.hid hR
  have HL := Lib.hid hl
  by_cases h8 : (8 : Int) < n
  · have e1 : Hid (nwR l = (8, 5)) := Lib.hid (by unfold nwR; rw [if_pos (by omega)])
    have e2 : Hid (nwL l = []) := Lib.hid (by unfold nwL; rw [e1.out]; rfl)
    clear hR hl
    go_enter Tryz.func31, Tryz.ntmps31
    go_wp2
    go_ret3
    refine ⟨none, 0, 0, by rw [e1.out]; rfl, by rw [e2.out]; exact DT.none _, Below.refl _ _⟩
  · have HE : Hid (nwR l = nwRun 0 l) := Lib.hid (by unfold nwR; rw [if_neg (by omega)])
    clear hR hl
    go_enter Tryz.func31, Tryz.ntmps31
    go_wp2_with fail
    go_loopw [5, 6] (fun s i wr => ∃ k : Nat, k ≤ n ∧ i = .int .i64 k ∧ nwRun 0 l = nwRun k (l.drop k) ∧ wr.ownsRow w.heap.size 113 5 s k (((l.take k).map (fun c => (cbN c, DM.nil))).flatMap dB.f) ∧ Below w.heap.size w wr) (fun _ i _ => n - (intOf i).toNat)
    case atStart => exact ⟨0, Nat.zero_le _, rfl, rfl, World.ownsRow_nil _ _ _ _, Below.refl _ _⟩
    case round =>
      obtain ⟨k, hk, rfl, hrun, hown, hbw⟩ := hrel
      by_cases hlt : k < n
      · have hkl : k < l.length := by rw [HL.out]; exact hlt
        have hkn : (k : Int) < (n : Int) := by omega
        obtain ⟨b, o, rfl, _, hbl, hrg⟩ := RD.row' cbC_len (HR.out.below hbw) (List.getElem?_eq_getElem hkl) hlt
        have hdr : l.drop k = l[k] :: l.drop (k + 1) := List.drop_eq_getElem_cons hkl
        have hnx : (l.take (k + 1)).map (fun c => (cbN c, DM.nil)) = (l.take k).map (fun c => (cbN c, DM.nil)) ++ [(cbN l[k], DM.nil)] := by
          rw [take_snoc' l k hkl, List.map_append]
          rfl
        generalize l[k] = cf at hrg hdr hnx
        have HRG := Lib.hid hrg
        have HDR := Lib.hid hdr
        have HRN := Lib.hid hrun
        have HO := Lib.hid hown
        have HB := Lib.hid hbw
        have CN := Lib.hid (fun W => c_vnew cf.1 cf.2 W)
        obtain ⟨x, hx⟩ : ∃ x, brChk cf.2 = x := ⟨_, rfl⟩
        obtain ⟨N, hN⟩ : ∃ N, brNew cf.1 cf.2 = N := ⟨_, rfl⟩
        rw [hx, hN] at CN
        have hnx' : (l.take (k + 1)).map (fun c => (cbN c, DM.nil)) = (l.take k).map (fun c => (cbN c, DM.nil)) ++ [(N, DM.nil)] := by rw [← hN]; exact hnx
        have HNX := Lib.hid hnx'
        have HX := Lib.hid hx
        clear hrg hdr hnx hnx' hrun hown hbw hbl hkl hx hN
        go_wp2_with (refine lmr (b := b) (q := o + k * 2) (cs := cbC cf) (.tmp 21) rfl rfl Tryz.underlying109 rfl info_cb rfl ?_ ?_; (· exact HRG.out))
        refine (CN.out _).mono ?_; rintro e w2 ⟨rfl, hb2⟩
        have hb3 := up_trans hb2 (up_alloc w2 (.cells (dbC N DM.nil).toArray 113))
        have HB3 := Lib.hid hb3
        have HBY := Lib.hid (Blk.new w2 (dbC N DM.nil) 113)
        have HO3 := Lib.hid (own_below (own_below HO.out hb3) (up_alloc (w2.alloc (.cells (dbC N DM.nil).toArray 113)) (.cells (dbC N DM.nil).toArray 113)))
        have HY : Hid (w.heap.size ≤ ((w2.alloc (.cells (dbC N DM.nil).toArray 113)).alloc (.cells (dbC N DM.nil).toArray 113)).heap.size) := Lib.hid (by have h1 := HB.out.size; have h2 := hb2.size; simp; omega)
        clear hb2 hb3
        by_cases h0 : x = 0
        · subst h0
          have HN0 : Hid (nwRun 0 l = nwRun (k + 1) (l.drop (k + 1))) := Lib.hid (by rw [HRN.out, HDR.out, nwRun_step HX.out])
          go_wp2_with (first | (refine snr (W := w2) (cs := dbC N DM.nil) (zs := dbZ) (t := 113) (.tmp 7) (.tmp 24) rfl rfl rfl rfl info_db rfl dbC_one ?_ ?_ ?_; (· rfl); (· rfl)) | (refine ldr (b := w2.heap.size) (t := 113) (cs := dbC N DM.nil) (.tmp 7) rfl rfl Tryz.underlying113 rfl info_db rfl ?_ ?_; (· exact HBY.out)) | (refine wpList_oneD ei_dt rfl (.tmp 31) rfl N DM.nil rfl ?_) | (at_builtin; refine wpList_app ei_dt rfl (.tmp 30) (.tmp 32) rfl _ _ rfl HO3.out rfl (RD.oneK dB (q := (N, DM.nil)) (by simp)) (dB.oneL [(N, DM.nil)]) (by omega) HY.out ?_; intro v4 w4 hown4 hb4; have HO4 := Lib.hid hown4; have HB4 := Lib.hid hb4; clear hown4 hb4))
          go_roundw
          case rel => exact ⟨k + 1, by omega, by go_num, HN0.out, by rw [HNX.out, List.flatMap_append]; exact HO4.out, (up_trans HB.out (up_trans HB3.out (up_alloc _ _))).trans HB4.out⟩
          case measure => simp [intOf]; omega
        · have hx1 : (x != 0) = true := by simp [bne, h0]
          have HRR : Hid (nwR l = (k, x)) := Lib.hid (by
            rw [HE.out, HRN.out, HDR.out, nwRun_stop (by rw [HX.out]; exact h0), HX.out])
          have HLL : Hid (nwL l = []) := Lib.hid (by unfold nwL; rw [HRR.out, if_neg h0])
          clear h0
          go_wp2_with (refine snr (W := w2) (cs := dbC N DM.nil) (zs := dbZ) (t := 113) (.tmp 7) (.tmp 24) rfl rfl rfl rfl info_db rfl dbC_one ?_ ?_ ?_; (· rfl); (· rfl))
          go_ret3
          exact ⟨none, 0, 0, by rw [HRR.out]; rfl, by rw [HLL.out]; exact DT.none _, up_trans HB.out HB3.out⟩
      · obtain rfl : k = n := by omega
        have HRR : Hid (nwR l = (0, 0)) := Lib.hid (by rw [HE.out, hrun, List.drop_of_length_le (by rw [HL.out]; exact Nat.le_refl _)]; rfl)
        have HTK : Hid (l.take k = l) := Lib.hid (List.take_of_length_le (by rw [HL.out]; exact Nat.le_refl _))
        have HLL : Hid ((l.map (fun c => (cbN c, DM.nil))).map Prod.fst = nwL l) := Lib.hid (by
          unfold nwL
          rw [HRR.out, if_pos rfl, List.map_map]
          rfl)
        have HO := Lib.hid hown
        have HB := Lib.hid hbw
        clear hrun hown hbw
        go_wp2
        go_ret3
        have h1 := HO.out
        rw [HTK.out] at h1
        obtain ⟨A', c', rfl, h2, h3, h4⟩ := own_slice h1
        refine ⟨_, _, _, by rw [HRR.out]; rfl, ⟨_, ⟨h4.lo (fun _ _ => trivial), by rw [List.length_map, HL.out], fun q hq => ?_⟩, HLL.out⟩, HB.out⟩
        obtain ⟨x, _, rfl⟩ := List.mem_map.1 hq
        show DW wr tt (cbN x).r DM.nil
        rw [cbN_r]
        exact DW.nil _ _
end Go.Proofs.YtdiiilnebepfdaaGreatDoor

namespace Go.Proofs.YtdiiilnebepfdaaGreatDoor
open Go.RowKit

end Go.Proofs.YtdiiilnebepfdaaGreatDoor

/- Tables of the document's barriers (layer 23); its is, put, Enrol, Resign, Fire. The document's Enrol, Resign, Fire of layer 23. The document's Leave, Quit, Ready, New of layer 23. The document's Offer of layer 23. -/
import Derived.Test.YtdiiilnebepfdaaGreatDoorD3
import Derived.Test.YtdiiilnebepfdaaGreatDoorD4
import Derived.LoopTactic
import Derived.Great.BuildSlice
import Derived.Test.YtdiiilnebepfdaaGreatDoorA1
namespace Go.Proofs.YtdiiilnebepfdaaGreatDoor
open Go.RowKit

theorem RD.lt' {w : World} {pl : Nat → Prop} {size n : Nat} {A : Option Addr} {xs : List Value} (h : RD w pl size A n xs) : RD w (fun b => pl b ∧ b < w.heap.size) size A n xs := h.lt
theorem DW.lt {w : World} {pl : Nat → Prop} {r : RL} {M : DM} (h : DW w pl r M) : DW w (fun b => pl b ∧ b < w.heap.size) r M := ⟨h.m.lt, h.a.lt⟩
/-- Barriers of the document, with where their lists lie. -/
def dB : Mk (BR × DM) := ⟨fun q => dbC q.1 q.2, 5, fun _ => rfl, by omega, fun _ => dbC_one, fun pl q w => DW w pl q.1.r q.2, fun h o hs => h.only o hs, fun h hl => h.lo hl, fun h => h.lt⟩
theorem ei_dt : EI Tryz.prog 23 113 (.agg dbZ.toArray) 5 72 := ⟨Tryz.underlying23, by kernel_rfl, rfl, by omega, by omega⟩
/-- A slice that reads as a table of these. -/
def DT (w : World) (A : Option Addr) (n : Nat) (L : List BR) : Prop := ∃ Q : List (BR × DM), TW dB w tt A n Q ∧ Q.map Prod.fst = L
theorem DT.below {w w' : World} {A : Option Addr} {n : Nat} {L : List BR} (h : DT w A n L) (hb : Below w.heap.size w w') : DT w' A n L := by
  obtain ⟨Q, h1, h2⟩ := h
  exact ⟨Q, h1.below hb, h2⟩
theorem DT.len {w : World} {A : Option Addr} {n : Nat} {L : List BR} (h : DT w A n L) : L.length = n := by
  obtain ⟨Q, h1, rfl⟩ := h
  rw [List.length_map]
  exact h1.len
theorem DT.none (w : World) : DT w none 0 [] := ⟨[], TW.none _ _ _, rfl⟩
theorem DT.at_ {w : World} {A : Option Addr} {n : Nat} {L : List BR} (h : DT w A n L) (k : Nat) (hk : k < n) :
    ∃ b o q M, A = some ⟨b, o, Option.none⟩ ∧ b < w.heap.size ∧ L[k]? = some q ∧ w.rangeAt b (o + k * 5) (dbC q M) ∧ DW w tt q.r M := by
  obtain ⟨Q, h1, rfl⟩ := h
  obtain ⟨b, o, q, e, _, h3, h4, h5, h6⟩ := h1.at_ k hk
  exact ⟨b, o, q.1, q.2, e, h3, by rw [List.getElem?_map, h4]; rfl, h5, h6⟩
/-- What a call gives that answers a table of the document's and an error. -/
def EPT (w : World) (n : Nat) (x : List BR × Int) (e : Ending) (w' : World) : Prop :=
  ∃ A' c', e = .returned (.tuple #[.slice A' n c', .int .i64 x.2]) ∧ DT w' A' n x.1 ∧ Below w.heap.size w w'
def EPT1 (w : World) (n : Nat) (L : List BR) (e : Ending) (w' : World) : Prop :=
  ∃ A' c', e = .returned (.slice A' n c') ∧ DT w' A' n L ∧ Below w.heap.size w w'

set_option maxHeartbeats 400000 in
theorem c_uis (A : Option Addr) (n c : Nat) (o : Int) (w : World) :
    Calls Tryz.prog 70 #[.slice A n c, .int .i64 o] w fun e w' => e = .returned (.bool (tIn n o)) ∧ w = w' := by
  by_cases h0 : 0 ≤ o
  · by_cases h1 : o < (n : Int)
    · have hi : Hid (tIn n o = true) := Lib.hid (by unfold tIn; rw [decide_eq_true h0, decide_eq_true h1]; rfl)
      have g0 : decide (0 ≤ o) = true := decide_eq_true h0
      have g1 : decide (o < (n : Int)) = true := decide_eq_true h1
      rw [hi.out]
      go_enter Tryz.func70, Tryz.ntmps70
      go_wp2
      go_ret
      exact ⟨rfl, rfl⟩
    · have hi : Hid (tIn n o = false) := Lib.hid (tIn_over (by omega))
      have g0 : decide (0 ≤ o) = true := decide_eq_true h0
      have g1 : decide (o < (n : Int)) = false := decide_eq_false h1
      rw [hi.out]
      go_enter Tryz.func70, Tryz.ntmps70
      go_wp2
      go_ret
      exact ⟨rfl, rfl⟩
  · have hi : Hid (tIn n o = false) := Lib.hid (tIn_neg (by omega))
    have g0 : decide (0 ≤ o) = false := decide_eq_false h0
    rw [hi.out]
    go_enter Tryz.func70, Tryz.ntmps70
    go_wp2
    go_ret
    exact ⟨rfl, rfl⟩

set_option maxRecDepth 100000 in
set_option maxHeartbeats 4000000 in
theorem c_uput {w : World} {A : Option Addr} {n c : Nat} {L : List BR} (h : DT w A n L) (hn : n ≤ 100000) (k : Nat) (hk : k < n) {b : BR} {M : DM} (hd : DW w tt b.r M) (x : Int) :
    Calls Tryz.prog 72 #[.slice A n c, .int .i64 (k : Int), .agg (dbC b M).toArray, .int .i64 x] w (EPT w n (if x = 0 then L.set k b else L, x)) := by
  have up := up_alloc w (.cells (dbC b M).toArray 113)
  have K := Blk.new w (dbC b M) 113
  generalize hw1 : w.alloc (.cells (dbC b M).toArray 113) = w1 at up K
  have HW := Lib.hid hw1
  have UP := Lib.hid up
  have KB := Lib.hid K
  have HD := Lib.hid (hd.below up)
  obtain ⟨Q, h1, hQ⟩ := h.below up
  have HT := Lib.hid h1
  have HQ := Lib.hid hQ
  have HH := Lib.hid (h.below up)
  have hown := World.ownsRow_nil w1 w1.heap.size 113 5
  have HRD : Hid (RD w1 tt 5 A n (Q.flatMap dB.f)) := Lib.hid h1.rd
  have HON := Lib.hid (dB.oneL Q)
  have hkn : (k : Int) < (n : Int) := by omega
  clear h hd up K hw1 h1 hQ
  by_cases h0 : x = 0
  · subst h0
    rw [if_pos rfl]
    go_enter Tryz.func72, Tryz.ntmps72
    go_upto_region 1 with fail
    rw [HW.out]
    go_upto_region 4 with (at_builtin; refine wpList_app ei_dt rfl (.const (.slice none 0 0)) (.tmp 15) rfl _ [] rfl hown rfl HRD.out HON.out (by omega) (Nat.le_refl _) ?_; intro v2 w2 hown2 hb2; simp only [Nat.zero_add, List.nil_append] at hown2)
    have ho : OT dB w2 113 w1.heap.size v2 n Q := OT.of (K := dB) hown2 HT.out.each hb2
    obtain ⟨g, c2, q, rfl, hlo, hgl, _, _, hth, _⟩ := ho.at_ k hk
    have KB2 := Lib.hid (KB.out.up hb2 KB.out.lt)
    have HTH : Hid (w2.there g (k * 5) (dbC b M).length) := Lib.hid hth
    have HDN : DW w2 (nOwn (.slice (some ⟨g, 0, none⟩) n c2)) b.r M := (HD.out.lt.below hb2).lo (fun j hj e => by
      have := (ho.own.lt j e).1
      omega)
    have HP := Lib.hid (ho.put k hk (b, M) HDN)
    have HB := Lib.hid (up_trans UP.out (Only.later hb2 (only_cells (dbC b M) (k * 5) w2) (by rintro i rfl; exact hlo)))
    clear hown hown2 hb2 ho hlo hgl hth HDN
    go_wp2_with (first | (refine ldr (b := w.heap.size) (t := 113) (cs := dbC b M) (.tmp 6) rfl rfl Tryz.underlying113 rfl info_db rfl ?_ ?_; (· exact KB2.out)) | (refine smr (b := g) (q := k * 5) (cs := dbC b M) (.tmp 20) (.tmp 19) rfl rfl rfl rfl info_db dbC_one ?_ ?_; (· exact HTH.out)))
    go_ret2
    obtain ⟨A', c', e', ht⟩ := HP.out.tw
    injection e' with e1 e2 e3
    subst e1 e3
    exact ⟨_, _, rfl, ⟨_, ht, by rw [List.map_set, HQ.out]⟩, HB.out⟩
  · rw [if_neg h0]
    have hx1 : (x != 0) = true := by simp [bne, h0]
    clear h0 hown
    go_enter Tryz.func72, Tryz.ntmps72
    go_upto_region 1 with fail
    rw [HW.out]
    go_wp2_with fail
    go_ret2
    exact ⟨A, c, rfl, HH.out, UP.out⟩

end Go.Proofs.YtdiiilnebepfdaaGreatDoor

namespace Go.Proofs.YtdiiilnebepfdaaGreatDoor
open Go.RowKit

set_option maxRecDepth 100000 in
set_option maxHeartbeats 4000000 in
theorem c_uenrol {w : World} {A : Option Addr} {n c : Nat} {L : List BR} (h : DT w A n L) (hn : n ≤ 100000) (b p : Int) :
    Calls Tryz.prog 32 #[.slice A n c, .int .i64 b, .int .i64 p] w (EPT w n (tOne (brEnrol · p) L b)) := by
  have hlen := h.len
  have CI := Lib.hid (c_uis A n c b w)
  rcases tIn_cases n b with hb | ⟨hb, hb2⟩ | ⟨k, rfl, hk⟩
  · rw [tIn_neg hb] at CI
    rw [tOne_no (by rw [hlen]; exact tIn_neg hb)]
    have HT := Lib.hid h
    clear h hlen
    go_enter Tryz.func32, Tryz.ntmps32
    go_wp2_with fail
    refine CI.out.mono ?_; rintro e w2 ⟨rfl, rfl⟩
    go_wp2
    go_ret2
    exact ⟨A, c, rfl, HT.out, Below.refl _ _⟩
  · rw [tIn_over hb2] at CI
    rw [tOne_no (by rw [hlen]; exact tIn_over hb2)]
    have HT := Lib.hid h
    clear h hlen
    go_enter Tryz.func32, Tryz.ntmps32
    go_wp2_with fail
    refine CI.out.mono ?_; rintro e w2 ⟨rfl, rfl⟩
    go_wp2
    go_ret2
    exact ⟨A, c, rfl, HT.out, Below.refl _ _⟩
  · rw [tIn_at hk] at CI
    obtain ⟨g, o, q, M, rfl, hgl, hq, hrg, hd⟩ := h.at_ k hk
    have HT := Lib.hid h
    have HRG := Lib.hid hrg
    have CE := Lib.hid (c_venrol hd p)
    obtain ⟨R, x, hR⟩ : ∃ R x, brEnrol q p = (R, x) := ⟨_, _, rfl⟩
    rw [hR] at CE
    have HE : Hid (tOne (brEnrol · p) L (k : Int) = (if x = 0 then L.set k R else L, x)) := Lib.hid (by
      by_cases h0 : x = 0
      · subst h0
        rw [tOne_ok hq hR, if_pos rfl]
      · rw [tOne_err hq hR h0, if_neg h0])
    obtain ⟨Y, hY⟩ : ∃ Y, (if x = 0 then L.set k R else L) = Y := ⟨_, rfl⟩
    rw [HE.out, hY]
    have HYY := Lib.hid hY
    have hkn : (k : Int) < (n : Int) := by omega
    clear h hlen hgl hq hrg hd hR HE hY
    go_enter Tryz.func32, Tryz.ntmps32
    go_wp2_with fail
    refine CI.out.mono ?_; rintro e w2 ⟨rfl, rfl⟩
    go_wp2_with (refine lmr (b := g) (q := o + k * 5) (cs := dbC q M) (.tmp 18) rfl rfl Tryz.underlying113 rfl info_db rfl ?_ ?_; (· exact HRG.out))
    refine CE.out.mono ?_; rintro e w3 ⟨N, rfl, hd, hb⟩
    have hq := up_alloc w3 (.cells (dbC R N).toArray 113)
    have K := Lib.hid (Blk.new w3 (dbC R N) 113)
    have HB := Lib.hid (up_trans hb hq)
    have CP := Lib.hid (c_uput (c := c) (HT.out.below (up_trans hb hq)) hn k hk ((hd.lo (fun _ _ => trivial)).below hq) x)
    rw [HYY.out] at CP
    clear hd hb hq
    go_wp2_with (first | (refine snr (W := w3) (cs := dbC R N) (zs := dbZ) (t := 113) (.tmp 8) (.tmp 22) rfl rfl rfl rfl info_db rfl dbC_one ?_ ?_ ?_; (· rfl); (· rfl)) | (refine ldr (b := w3.heap.size) (t := 113) (cs := dbC R N) (.tmp 8) rfl rfl Tryz.underlying113 rfl info_db rfl ?_ ?_; (· exact K.out)))
    refine CP.out.mono ?_; rintro e w4 ⟨A', c', rfl, ht, hb⟩
    have HT2 := Lib.hid ht
    have HB2 := Lib.hid hb
    clear ht hb
    go_wp2
    go_ret2
    exact ⟨A', c', rfl, HT2.out, up_trans HB.out HB2.out⟩


def UFi (w : World) (n : Nat) (x : List BR × Int) (Z : List Int) (e : Ending) (w' : World) : Prop :=
  ∃ A' c' B d, e = .returned (.tuple #[.slice A' n c', .slice B Z.length d, .int .i64 x.2]) ∧ DT w' A' n x.1 ∧ RD w' tt 1 B Z.length (Z.map (Value.int .i64)) ∧ Below w.heap.size w w'
end Go.Proofs.YtdiiilnebepfdaaGreatDoor

namespace Go.Proofs.YtdiiilnebepfdaaGreatDoor
open Go.RowKit


theorem quit_put (Lk : List BR) (k : Nat) (q : BR) (p : Int) (h : Lk[k]? = some q) : (if (brResign q p).2 = 0 then Lk.set k (brResign q p).1 else Lk) = Lk.set k (brResign q p).1 := by
  by_cases hx : (brResign q p).2 = 0
  · rw [if_pos hx]
  · rw [if_neg hx, resign_same hx]
    refine List.ext_getElem? fun j => ?_
    rw [List.getElem?_set]
    split
    · next e =>
      subst e
      rw [if_pos (lt_at h), h]
    · rfl


/-- A slice literal of one of the document's barriers. -/
theorem wpList_oneD {P : Program} {w : World} {ops : Array Oper} {rest : List Oper} {o : Oper} {a : Act} {Q : Exit → Act → World → Prop} {t e : TypeId} {bytes : Nat} (E : EI P t e (.agg dbZ.toArray) 5 bytes) (hg : o.guard = none) (x : Operand)
    (ho : o.op = .buildSlice t 1 #[(0, x)]) (b : BR) (M : DM) (hx : a.eval x = .agg (dbC b M).toArray)
    (h : wpList P ops Q rest (a.put o.dst (.slice (some ⟨w.heap.size, 0, none⟩) 1 1)) (w.alloc (.cells (dbC b M).toArray e))) : wpList P ops Q (o :: rest) a w := by
  obtain ⟨i, hi, hz, hs, hb⟩ := info_parts E.info
  refine wpList_buildSlice hg t e 1 _ ho (dbC b M).toArray i _ E.under hi hz (by rw [hs]; decide) (by rw [hs]; decide) ?_ h
  rw [hs]
  have e1 : ((#[(0, x)] : Array (Nat × Operand)).map fun (i, x) => (i, a.eval x)).toList = [(0, .agg (dbC b M).toArray)] := by simp [hx]
  rw [e1]
  have e2 : Instr.fill (fun i => some (i * 5, 5)) ((Array.range (1 * 5)).map ((Value.agg dbZ.toArray).cells[· % (Value.agg dbZ.toArray).cells.size]!)) [(0, .agg (dbC b M).toArray)] = some (dbC b M).toArray := by kernel_rfl
  exact e2
theorem cbN_r (c : CB) : (cbN c).r = RL.zero := by
  unfold cbN brNew
  split
  · rfl
  · rfl
def UNw (w : World) (l : List CB) (e : Ending) (w' : World) : Prop :=
  ∃ A' n' c', e = .returned (.tuple #[.slice A' n' c', .int .i64 ((nwR l).1 : Nat), .int .i64 (nwR l).2]) ∧ DT w' A' n' (nwL l) ∧ Below w.heap.size w w'
set_option maxRecDepth 100000 in
set_option maxHeartbeats 4000000 in
theorem c_unew {w : World} {pl : Nat → Prop} {A : Option Addr} {n c : Nat} {l : List CB} (hR : RD w pl 2 A n (l.flatMap cbC)) (hl : l.length = n) :
    Calls Tryz.prog 31 #[.slice A n c] w (UNw w l) := by
  have HR := Lib.hid hR
  have HL := Lib.hid hl
  by_cases h8 : (8 : Int) < n
  · have e1 : Hid (nwR l = (8, 5)) := Lib.hid (by unfold nwR; rw [if_pos (by omega)])
    have e2 : Hid (nwL l = []) := Lib.hid (by unfold nwL; rw [e1.out]; rfl)
    clear hR hl
    go_enter Tryz.func31, Tryz.ntmps31
    go_wp2
    go_ret3
    refine ⟨none, 0, 0, by rw [e1.out]; rfl, by rw [e2.out]; exact DT.none _, Below.refl _ _⟩
  · have HE : Hid (nwR l = nwRun 0 l) := Lib.hid (by unfold nwR; rw [if_neg (by omega)])
    clear hR hl
    go_enter Tryz.func31, Tryz.ntmps31
    go_wp2_with fail
    go_loopw [5, 6] (fun s i wr => ∃ k : Nat, k ≤ n ∧ i = .int .i64 k ∧ nwRun 0 l = nwRun k (l.drop k) ∧ wr.ownsRow w.heap.size 113 5 s k (((l.take k).map (fun c => (cbN c, DM.nil))).flatMap dB.f) ∧ Below w.heap.size w wr) (fun _ i _ => n - (intOf i).toNat)
    case atStart => exact ⟨0, Nat.zero_le _, rfl, rfl, World.ownsRow_nil _ _ _ _, Below.refl _ _⟩
    case round =>
      obtain ⟨k, hk, rfl, hrun, hown, hbw⟩ := hrel
      by_cases hlt : k < n
      · have hkl : k < l.length := by rw [HL.out]; exact hlt
        have hkn : (k : Int) < (n : Int) := by omega
        obtain ⟨b, o, rfl, _, hbl, hrg⟩ := RD.row' cbC_len (HR.out.below hbw) (List.getElem?_eq_getElem hkl) hlt
        have hdr : l.drop k = l[k] :: l.drop (k + 1) := List.drop_eq_getElem_cons hkl
        have hnx : (l.take (k + 1)).map (fun c => (cbN c, DM.nil)) = (l.take k).map (fun c => (cbN c, DM.nil)) ++ [(cbN l[k], DM.nil)] := by
          rw [take_snoc' l k hkl, List.map_append]
          rfl
        generalize l[k] = cf at hrg hdr hnx
        have HRG := Lib.hid hrg
        have HDR := Lib.hid hdr
        have HRN := Lib.hid hrun
        have HO := Lib.hid hown
        have HB := Lib.hid hbw
        have CN := Lib.hid (fun W => c_vnew cf.1 cf.2 W)
        obtain ⟨x, hx⟩ : ∃ x, brChk cf.2 = x := ⟨_, rfl⟩
        obtain ⟨N, hN⟩ : ∃ N, brNew cf.1 cf.2 = N := ⟨_, rfl⟩
        rw [hx, hN] at CN
        have hnx' : (l.take (k + 1)).map (fun c => (cbN c, DM.nil)) = (l.take k).map (fun c => (cbN c, DM.nil)) ++ [(N, DM.nil)] := by rw [← hN]; exact hnx
        have HNX := Lib.hid hnx'
        have HX := Lib.hid hx
        clear hrg hdr hnx hnx' hrun hown hbw hbl hkl hx hN
        go_wp2_with (refine lmr (b := b) (q := o + k * 2) (cs := cbC cf) (.tmp 21) rfl rfl Tryz.underlying109 rfl info_cb rfl ?_ ?_; (· exact HRG.out))
        refine (CN.out _).mono ?_; rintro e w2 ⟨rfl, hb2⟩
        have hb3 := up_trans hb2 (up_alloc w2 (.cells (dbC N DM.nil).toArray 113))
        have HB3 := Lib.hid hb3
        have HBY := Lib.hid (Blk.new w2 (dbC N DM.nil) 113)
        have HO3 := Lib.hid (own_below (own_below HO.out hb3) (up_alloc (w2.alloc (.cells (dbC N DM.nil).toArray 113)) (.cells (dbC N DM.nil).toArray 113)))
        have HY : Hid (w.heap.size ≤ ((w2.alloc (.cells (dbC N DM.nil).toArray 113)).alloc (.cells (dbC N DM.nil).toArray 113)).heap.size) := Lib.hid (by have h1 := HB.out.size; have h2 := hb2.size; simp; omega)
        clear hb2 hb3
        by_cases h0 : x = 0
        · subst h0
          have HN0 : Hid (nwRun 0 l = nwRun (k + 1) (l.drop (k + 1))) := Lib.hid (by rw [HRN.out, HDR.out, nwRun_step HX.out])
          go_wp2_with (first | (refine snr (W := w2) (cs := dbC N DM.nil) (zs := dbZ) (t := 113) (.tmp 7) (.tmp 24) rfl rfl rfl rfl info_db rfl dbC_one ?_ ?_ ?_; (· rfl); (· rfl)) | (refine ldr (b := w2.heap.size) (t := 113) (cs := dbC N DM.nil) (.tmp 7) rfl rfl Tryz.underlying113 rfl info_db rfl ?_ ?_; (· exact HBY.out)) | (refine wpList_oneD ei_dt rfl (.tmp 31) rfl N DM.nil rfl ?_) | (at_builtin; refine wpList_app ei_dt rfl (.tmp 30) (.tmp 32) rfl _ _ rfl HO3.out rfl (RD.oneK dB (q := (N, DM.nil)) (by simp)) (dB.oneL [(N, DM.nil)]) (by omega) HY.out ?_; intro v4 w4 hown4 hb4; have HO4 := Lib.hid hown4; have HB4 := Lib.hid hb4; clear hown4 hb4))
          go_roundw
          case rel => exact ⟨k + 1, by omega, by go_num, HN0.out, by rw [HNX.out, List.flatMap_append]; exact HO4.out, (up_trans HB.out (up_trans HB3.out (up_alloc _ _))).trans HB4.out⟩
          case measure => simp [intOf]; omega
        · have hx1 : (x != 0) = true := by simp [bne, h0]
          have HRR : Hid (nwR l = (k, x)) := Lib.hid (by
            rw [HE.out, HRN.out, HDR.out, nwRun_stop (by rw [HX.out]; exact h0), HX.out])
          have HLL : Hid (nwL l = []) := Lib.hid (by unfold nwL; rw [HRR.out, if_neg h0])
          clear h0
          go_wp2_with (refine snr (W := w2) (cs := dbC N DM.nil) (zs := dbZ) (t := 113) (.tmp 7) (.tmp 24) rfl rfl rfl rfl info_db rfl dbC_one ?_ ?_ ?_; (· rfl); (· rfl))
          go_ret3
          exact ⟨none, 0, 0, by rw [HRR.out]; rfl, by rw [HLL.out]; exact DT.none _, up_trans HB.out HB3.out⟩
      · obtain rfl : k = n := by omega
        have HRR : Hid (nwR l = (0, 0)) := Lib.hid (by rw [HE.out, hrun, List.drop_of_length_le (by rw [HL.out]; exact Nat.le_refl _)]; rfl)
        have HTK : Hid (l.take k = l) := Lib.hid (List.take_of_length_le (by rw [HL.out]; exact Nat.le_refl _))
        have HLL : Hid ((l.map (fun c => (cbN c, DM.nil))).map Prod.fst = nwL l) := Lib.hid (by
          unfold nwL
          rw [HRR.out, if_pos rfl, List.map_map]
          rfl)
        have HO := Lib.hid hown
        have HB := Lib.hid hbw
        clear hrun hown hbw
        go_wp2
        go_ret3
        have h1 := HO.out
        rw [HTK.out] at h1
        obtain ⟨A', c', rfl, h2, h3, h4⟩ := own_slice h1
        refine ⟨_, _, _, by rw [HRR.out]; rfl, ⟨_, ⟨h4.lo (fun _ _ => trivial), by rw [List.length_map, HL.out], fun q hq => ?_⟩, HLL.out⟩, HB.out⟩
        obtain ⟨x, _, rfl⟩ := List.mem_map.1 hq
        show DW wr tt (cbN x).r DM.nil
        rw [cbN_r]
        exact DW.nil _ _
end Go.Proofs.YtdiiilnebepfdaaGreatDoor

namespace Go.Proofs.YtdiiilnebepfdaaGreatDoor
open Go.RowKit

def UOf (w : World) (n : Nat) (x : List BR × Nat × Int) (e : Ending) (w' : World) : Prop :=
  ∃ A' c', e = .returned (.tuple #[.slice A' n c', .int .i64 (x.2.1 : Nat), .int .i64 x.2.2]) ∧ DT w' A' n x.1 ∧ Below w.heap.size w w'
set_option maxRecDepth 100000 in
set_option maxHeartbeats 4000000 in
theorem c_uoffer {w : World} {pl : Nat → Prop} {A G : Option Addr} {n c m d : Nat} {L : List BR} {gs : List GD} (h : DT w A n L) (hn : n ≤ 100000) (hG : RD w pl 5 G m (gs.flatMap gdC)) (hm : gs.length = m) (hm2 : m ≤ 100000) (p : Int) (al : Bool) :
    Calls Tryz.prog 34 #[.slice A n c, .int .i64 p, .slice G m d, .bool al] w (UOf w n (offR p al L L 0 gs)) := by
  have HT := Lib.hid h
  have HG := Lib.hid hG
  have HM := Lib.hid hm
  obtain ⟨r, hr⟩ : ∃ r, offR p al L L 0 gs = r := ⟨_, rfl⟩
  have HR := Lib.hid hr
  rw [hr]
  clear h hG hm hr
  go_enter Tryz.func34, Tryz.ntmps34
  go_wp2_with fail
  go_loopw [11, 12] (fun s i wr => ∃ k : Nat, k ≤ m ∧ i = .int .i64 k ∧ ∃ A' c' Lk, s = .slice A' n c' ∧ DT wr A' n Lk ∧ offR p al L Lk k (gs.drop k) = r ∧ Below w.heap.size w wr) (fun _ i _ => m - (intOf i).toNat)
  case atStart => exact ⟨0, Nat.zero_le _, rfl, A, c, L, rfl, HT.out, HR.out, Below.refl _ _⟩
  case round =>
    obtain ⟨k, hk, rfl, A1, c1, Lk, rfl, hd, hrun, hbw⟩ := hrel
    by_cases hlt : k < m
    · have hkl : k < gs.length := by rw [HM.out]; exact hlt
      obtain ⟨b, o, rfl, _, hbl, hrg⟩ := RD.row' gdC_len (HG.out.below hbw) (List.getElem?_eq_getElem hkl) hlt
      have hdr : gs.drop k = gs[k] :: gs.drop (k + 1) := List.drop_eq_getElem_cons hkl
      generalize gs[k] = g at hrg hdr
      rw [hdr] at hrun
      have HCE := Lib.hid (fun W (hW : Below wr.heap.size wr W) => (range_below hrg hW hbl) : ∀ W, Below wr.heap.size wr W → W.rangeAt b (o + k * 5) (gdC g))
      have HRN := Lib.hid hrun
      have HB := Lib.hid hbw
      have HD := Lib.hid hd
      have HLK := Lib.hid hd.len
      have hkm : (k : Int) < (m : Int) := by omega
      have c0 : wr.cell? ⟨b, o + k * 5, none⟩ = some (.int .i64 g.k) := hrg 0 _ rfl
      have c1' : wr.cell? ⟨b, o + k * 5 + 1, none⟩ = some (.int .i64 g.o) := hrg 1 _ rfl
      clear hrg hdr hrun hbw hbl hkl hd
      by_cases h3 : g.k = 3
      · have g3 : (g.k != 3) = false := by rw [h3]; rfl
        have H3 := Lib.hid h3
        have CI := Lib.hid (c_uis A n c g.o wr)
        clear h3
        rcases tIn_cases n g.o with ho | ⟨ho, ho2⟩ | ⟨j, hj, hjn⟩
        · rw [tIn_neg ho] at CI
          have HN : Hid (r = (L, k, 8)) := Lib.hid (by rw [← HRN.out, offR_err H3.out (tOne_no (f := (brOffer · p al)) (L := Lk) (by rw [HLK.out]; exact tIn_neg ho)) (by decide)])
          clear ho
          go_wp2_with fail
          refine CI.out.mono ?_; rintro e w2 ⟨rfl, rfl⟩
          go_wp2
          go_ret3
          exact ⟨A, c, by rw [HN.out]; rfl, by rw [HN.out]; exact HT.out.below HB.out, HB.out⟩
        · rw [tIn_over ho2] at CI
          have HN : Hid (r = (L, k, 8)) := Lib.hid (by rw [← HRN.out, offR_err H3.out (tOne_no (f := (brOffer · p al)) (L := Lk) (by rw [HLK.out]; exact tIn_over ho2)) (by decide)])
          clear ho ho2
          go_wp2_with fail
          refine CI.out.mono ?_; rintro e w2 ⟨rfl, rfl⟩
          go_wp2
          go_ret3
          exact ⟨A, c, by rw [HN.out]; rfl, by rw [HN.out]; exact HT.out.below HB.out, HB.out⟩
        · rw [hj, tIn_at hjn] at CI
          rw [hj] at c1'
          obtain ⟨u, v, q, M, rfl, hul, hq, hrq, hdq⟩ := HD.out.at_ j hjn
          have HRQ := Lib.hid hrq
          have CE := Lib.hid (c_voffer hdq p al)
          obtain ⟨R, x, hR⟩ : ∃ R x, brOffer q p al = (R, x) := ⟨_, _, rfl⟩
          rw [hR] at CE
          have HJ := Lib.hid hj
          have HQ := Lib.hid hq
          have HRR := Lib.hid hR
          have hjn' : (j : Int) < (n : Int) := by omega
          clear hj hul hq hrq hdq hR
          go_wp2_with fail
          refine CI.out.mono ?_; rintro e w2 ⟨rfl, rfl⟩
          go_wp2_with (refine lmr (b := u) (q := v + j * 5) (cs := dbC q M) (.tmp 45) rfl rfl Tryz.underlying113 rfl info_db rfl ?_ ?_; (· exact HRQ.out))
          refine CE.out.mono ?_; rintro e w3 ⟨N, rfl, hd3, hb3⟩
          have hq := up_alloc w3 (.cells (dbC R N).toArray 113)
          have K := Lib.hid (Blk.new w3 (dbC R N) 113)
          have HB3 := Lib.hid (up_trans hb3 hq)
          have HD3 := Lib.hid ((hd3.lo (fun _ _ => trivial : ∀ b, _ → tt b)).below hq)
          clear hd3 hb3 hq c0 c1'
          by_cases h0 : x = 0
          · subst h0
            have HN : Hid (offR p al L (Lk.set j R) (k + 1) (gs.drop (k + 1)) = r) := Lib.hid (by rw [← HRN.out, offR_ok H3.out (by rw [HJ.out]; exact tOne_ok (f := (brOffer · p al)) HQ.out HRR.out)])
            go_upto_region 11 with (refine snr (W := w3) (cs := dbC R N) (zs := dbZ) (t := 113) (.tmp 13) (.tmp 50) rfl rfl rfl rfl info_db rfl dbC_one ?_ ?_ ?_; (· rfl); (· rfl))
            generalize hbx : w3.heap.size = bx at K ⊢
            generalize w3.alloc (.cells (dbC R N).toArray 113) = w4 at K HB3 HD3 ⊢
            clear hbx
            refine wp_region_held_drew (S := fun W => Below w4.heap.size w4 W) (by kernel_rfl) (up_drewN _ 1) (fun hHeld => ?_)
            refine wpAnyH_take (i := 0) (oi := ?_) (v := ?_) ?_ (by kernel_rfl) (by kernel_rfl) (by kernel_rfl) ?_ (Or.inl ⟨?_, ?_⟩) hHeld ?_
            rotate_left 2
            · conv => lhs; simp only [List.getElem?_toArray, List.getElem?_cons_succ, List.getElem?_cons_zero]
            · exact fun _ _ _ h => h
            · rfl
            · intro W hSw
              go_simp
              try with_reducible rfl
            try simp only [Act.put, List.setIfInBounds_toArray, List.set_cons_zero, List.set_cons_succ]
            refine wpAnyH_take (i := 1) (oi := ?_) (v := ?_) ?_ (by kernel_rfl) (by kernel_rfl) (by kernel_rfl) ?_ (Or.inl ⟨?_, ?_⟩) hHeld ?_
            rotate_left 2
            · conv => lhs; simp only [List.getElem?_toArray, List.getElem?_cons_succ, List.getElem?_cons_zero]
            · exact fun _ _ _ h => h
            · rfl
            · intro W hSw
              go_simp
              try with_reducible rfl
            try simp only [Act.put, List.setIfInBounds_toArray, List.set_cons_zero, List.set_cons_succ]
            refine wpAnyH_take (i := 2) (oi := ?_) (v := ?_) ?_ (by kernel_rfl) (by kernel_rfl) (by kernel_rfl) ?_ (Or.inl ⟨?_, ?_⟩) hHeld ?_
            rotate_left 2
            · conv => lhs; simp only [List.getElem?_toArray, List.getElem?_cons_succ, List.getElem?_cons_zero]
            · exact fun _ _ _ h => h
            · rfl
            · intro W hSw
              go_simp
              try with_reducible rfl
            try simp only [Act.put, List.setIfInBounds_toArray, List.set_cons_zero, List.set_cons_succ]
            refine wpAnyH_take (i := 3) (oi := ?_) (v := ?_) ?_ (by kernel_rfl) (by kernel_rfl) (by kernel_rfl) ?_ (Or.inl ⟨?_, ?_⟩) hHeld ?_
            rotate_left 2
            · conv => lhs; simp only [List.getElem?_toArray, List.getElem?_cons_succ, List.getElem?_cons_zero]
            · exact fun _ _ _ h => h
            · rfl
            · intro W hSw
              go_simp
              try with_reducible rfl
            try simp only [Act.put, List.setIfInBounds_toArray, List.set_cons_zero, List.set_cons_succ]
            refine wpAnyH_take (i := 4) (oi := ?_) (v := ?_) ?_ (by kernel_rfl) (by kernel_rfl) (by kernel_rfl) ?_ (Or.inl ⟨?_, ?_⟩) hHeld ?_
            rotate_left 2
            · conv => lhs; simp only [List.getElem?_toArray, List.getElem?_cons_succ, List.getElem?_cons_zero]
            · exact fun _ _ _ h => h
            · rfl
            · intro W hSw
              go_simp
              try with_reducible rfl
            try simp only [Act.put, List.setIfInBounds_toArray, List.set_cons_zero, List.set_cons_succ]
            refine wpAnyH_take (i := 5) (oi := ?_) (v := ?_) ?_ (by kernel_rfl) (by kernel_rfl) (by kernel_rfl) ?_ (Or.inl ⟨?_, ?_⟩) hHeld ?_
            rotate_left 2
            · conv => lhs; simp only [List.getElem?_toArray, List.getElem?_cons_succ, List.getElem?_cons_zero]
            · exact fun _ _ _ h => h
            · rfl
            · intro W hSw
              have cc : W.cell? ⟨b, o + k * 5 + 1, none⟩ = some (.int .i64 g.o) := (HCE.out _ (up_trans HB3.out hSw)) 1 _ rfl
              rw [HJ.out] at cc
              go_simp
              try with_reducible rfl
            try simp only [Act.put, List.setIfInBounds_toArray, List.set_cons_zero, List.set_cons_succ]
            refine wpAnyH_take (i := 6) (oi := ?_) (v := (.agg (dbC R N).toArray)) ?_ (by kernel_rfl) (by kernel_rfl) (by kernel_rfl) ?_ (Or.inl ⟨?_, ?_⟩) hHeld ?_
            rotate_left 1
            · conv => lhs; simp only [List.getElem?_toArray, List.getElem?_cons_succ, List.getElem?_cons_zero]
            · exact fun _ _ _ h => h
            · rfl
            · intro W hSw
              exact tk_load rfl rfl (load_row (K.out.up hSw K.out.lt) Tryz.underlying113 rfl info_db)
            try simp only [Act.put, List.setIfInBounds_toArray, List.set_cons_zero, List.set_cons_succ]
            refine wpAnyH_ready (rs := [7]) (by kernel_rfl) (by simp) ?_
            refine AllReadyH.cons (o := ?_) ?_ (fun K hK => ?_) AllReadyH.nil
            rotate_left 1
            · conv => lhs; simp only [List.getElem?_toArray, List.getElem?_cons_succ, List.getElem?_cons_zero]
            go_simp
            have cp := c_uput (c := c1) (HD.out.below (up_trans HB3.out hHeld)) hn j hjn (HD3.out.below hHeld) 0
            rw [if_pos rfl] at cp
            refine cp.mono ?_
            rintro e w5 ⟨A5, c5, rfl, ht, hb⟩
            have HT5 := Lib.hid ht
            clear ht
            go_wp2_with fail
            refine hK.out _ _ (up_trans hHeld hb) (fun hHeld => ?_)
            clear hK K
            try simp only [Act.put, List.setIfInBounds_toArray, List.set_cons_zero, List.set_cons_succ]
            refine wpAnyH_take (i := 8) (oi := ?_) (v := ?_) ?_ (by kernel_rfl) (by kernel_rfl) (by kernel_rfl) ?_ (Or.inl ⟨?_, ?_⟩) hHeld ?_
            rotate_left 2
            · conv => lhs; simp only [List.getElem?_toArray, List.getElem?_cons_succ, List.getElem?_cons_zero]
            · exact fun _ _ _ h => h
            · rfl
            · intro W hSw
              go_simp
              try with_reducible rfl
            try simp only [Act.put, List.setIfInBounds_toArray, List.set_cons_zero, List.set_cons_succ]
            refine wpAnyH_take (i := 9) (oi := ?_) (v := ?_) ?_ (by kernel_rfl) (by kernel_rfl) (by kernel_rfl) ?_ (Or.inl ⟨?_, ?_⟩) hHeld ?_
            rotate_left 2
            · conv => lhs; simp only [List.getElem?_toArray, List.getElem?_cons_succ, List.getElem?_cons_zero]
            · exact fun _ _ _ h => h
            · rfl
            · intro W hSw
              go_simp
              try with_reducible rfl
            try simp only [Act.put, List.setIfInBounds_toArray, List.set_cons_zero, List.set_cons_succ]
            refine wpAnyH_take (i := 10) (oi := ?_) (v := ?_) ?_ (by kernel_rfl) (by kernel_rfl) (by kernel_rfl) ?_ (Or.inl ⟨?_, ?_⟩) hHeld ?_
            rotate_left 2
            · conv => lhs; simp only [List.getElem?_toArray, List.getElem?_cons_succ, List.getElem?_cons_zero]
            · exact fun _ _ _ h => h
            · rfl
            · intro W hSw
              go_simp
              try with_reducible rfl
            try simp only [Act.put, List.setIfInBounds_toArray, List.set_cons_zero, List.set_cons_succ]
            refine wpAnyH_take (i := 11) (oi := ?_) (v := ?_) ?_ (by kernel_rfl) (by kernel_rfl) (by kernel_rfl) ?_ (Or.inl ⟨?_, ?_⟩) hHeld ?_
            rotate_left 2
            · conv => lhs; simp only [List.getElem?_toArray, List.getElem?_cons_succ, List.getElem?_cons_zero]
            · exact fun _ _ _ h => h
            · rfl
            · intro W hSw
              go_simp
              try with_reducible rfl
            try simp only [Act.put, List.setIfInBounds_toArray, List.set_cons_zero, List.set_cons_succ]
            refine wpAnyH_done (by kernel_rfl) ?_ _
            go_wp2_with fail
            go_roundw
            case rel => exact ⟨k + 1, by omega, by go_num, A5, c5, _, rfl, HT5.out, HN.out, up_trans HB.out (up_trans HB3.out hHeld)⟩
            case measure => simp [intOf]; omega
          · have hx1 : (x != 0) = true := by simp [bne, h0]
            have HN : Hid (r = (L, k, x)) := Lib.hid (by rw [← HRN.out, offR_err H3.out (by rw [HJ.out]; exact tOne_err (f := (brOffer · p al)) HQ.out HRR.out h0) h0])
            clear h0
            go_wp2_with (refine snr (W := w3) (cs := dbC R N) (zs := dbZ) (t := 113) (.tmp 13) (.tmp 50) rfl rfl rfl rfl info_db rfl dbC_one ?_ ?_ ?_; (· rfl); (· rfl))
            go_ret3
            exact ⟨A, c, by rw [HN.out]; rfl, by rw [HN.out]; exact HT.out.below (up_trans HB.out HB3.out), up_trans HB.out HB3.out⟩
      · have g3 : (g.k != 3) = true := by simp [bne, h3]
        have HN : Hid (offR p al L Lk (k + 1) (gs.drop (k + 1)) = r) := Lib.hid (by rw [← HRN.out, offR_skip h3])
        clear h3
        go_wp2_with fail
        go_roundw
        case rel => exact ⟨k + 1, by omega, by go_num, A1, c1, Lk, rfl, HD.out, HN.out, HB.out⟩
        case measure => simp [intOf]; omega
    · obtain rfl : k = m := by omega
      have HN : Hid (r = (Lk, 0, 0)) := Lib.hid (by rw [← hrun, List.drop_of_length_le (by rw [HM.out]; exact Nat.le_refl _)]; rfl)
      have HD := Lib.hid hd
      have HB := Lib.hid hbw
      clear hrun hd hbw
      go_wp2
      go_ret3
      exact ⟨A1, c1, by rw [HN.out]; rfl, by rw [HN.out]; exact HD.out, HB.out⟩
end Go.Proofs.YtdiiilnebepfdaaGreatDoor

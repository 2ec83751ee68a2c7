/- Tables of the document's barriers (layer 23); its is, put, Enrol, Resign, Fire. The document's Enrol, Resign, Fire of layer 23. -/
import Derived.Test.YtlfglibepldjpaaDoorBta
import Derived.Test.YtlfglibepldjpaaDoorBre
import Derived.Test.YtlfglibepldjpaaDoorBrg
import Derived.LoopTactic
import Derived.Great.BuildSlice
namespace Go.Proofs.YtlfglibepldjpaaDoor
open Go.RowKit

theorem RD.lt' {w : World} {pl : Nat → Prop} {size n : Nat} {A : Option Addr} {xs : List Value} (h : RD w pl size A n xs) : RD w (fun b => pl b ∧ b < w.heap.size) size A n xs := h.lt
theorem DW.lt {w : World} {pl : Nat → Prop} {r : RL} {M : DM} (h : DW w pl r M) : DW w (fun b => pl b ∧ b < w.heap.size) r M := ⟨h.m.lt, h.a.lt⟩
/-- Barriers of the document, with where their lists lie. -/
def dB : Mk (BR × DM) := ⟨fun q => dbC q.1 q.2, 5, fun _ => rfl, by omega, fun _ => dbC_one, fun pl q w => DW w pl q.1.r q.2, fun h o hs => h.only o hs, fun h hl => h.lo hl, fun h => h.lt⟩
theorem ei_dt : EI Tryd.prog 22 73 (.agg dbZ.toArray) 5 72 := ⟨Tryd.underlying22, by kernel_rfl, rfl, by omega, by omega⟩
/-- A slice that reads as a table of these. -/
def DT (w : World) (A : Option Addr) (n : Nat) (L : List BR) : Prop := ∃ Q : List (BR × DM), TW dB w tt A n Q ∧ Q.map Prod.fst = L
theorem DT.below {w w' : World} {A : Option Addr} {n : Nat} {L : List BR} (h : DT w A n L) (hb : Below w.heap.size w w') : DT w' A n L := by
  obtain ⟨Q, h1, h2⟩ := h
  exact ⟨Q, h1.below hb, h2⟩
theorem DT.len {w : World} {A : Option Addr} {n : Nat} {L : List BR} (h : DT w A n L) : L.length = n := by
  obtain ⟨Q, h1, rfl⟩ := h
  rw [List.length_map]
  exact h1.len
theorem DT.none (w : World) : DT w none 0 [] := ⟨[], TW.none _ _ _, rfl⟩
theorem DT.at_ {w : World} {A : Option Addr} {n : Nat} {L : List BR} (h : DT w A n L) (k : Nat) (hk : k < n) :
    ∃ b o q M, A = some ⟨b, o, Option.none⟩ ∧ b < w.heap.size ∧ L[k]? = some q ∧ w.rangeAt b (o + k * 5) (dbC q M) ∧ DW w tt q.r M := by
  obtain ⟨Q, h1, rfl⟩ := h
  obtain ⟨b, o, q, e, _, h3, h4, h5, h6⟩ := h1.at_ k hk
  exact ⟨b, o, q.1, q.2, e, h3, by rw [List.getElem?_map, h4]; rfl, h5, h6⟩
/-- What a call gives that answers a table of the document's and an error. -/
def EPT (w : World) (n : Nat) (x : List BR × Int) (e : Ending) (w' : World) : Prop :=
  ∃ A' c', e = .returned (.tuple #[.slice A' n c', .int .i64 x.2]) ∧ DT w' A' n x.1 ∧ Below w.heap.size w w'
def EPT1 (w : World) (n : Nat) (L : List BR) (e : Ending) (w' : World) : Prop :=
  ∃ A' c', e = .returned (.slice A' n c') ∧ DT w' A' n L ∧ Below w.heap.size w w'

set_option maxHeartbeats 400000 in
theorem c_uis (A : Option Addr) (n c : Nat) (o : Int) (w : World) :
    Calls Tryd.prog 39 #[.slice A n c, .int .i64 o] w fun e w' => e = .returned (.bool (tIn n o)) ∧ w = w' := by
  by_cases h0 : 0 ≤ o
  · by_cases h1 : o < (n : Int)
    · have hi : Hid (tIn n o = true) := Lib.hid (by unfold tIn; rw [decide_eq_true h0, decide_eq_true h1]; rfl)
      have g0 : decide (0 ≤ o) = true := decide_eq_true h0
      have g1 : decide (o < (n : Int)) = true := decide_eq_true h1
      rw [hi.out]
      go_enter Tryd.func39, Tryd.ntmps39
      go_wp2
      go_ret
      exact ⟨rfl, rfl⟩
    · have hi : Hid (tIn n o = false) := Lib.hid (tIn_over (by omega))
      have g0 : decide (0 ≤ o) = true := decide_eq_true h0
      have g1 : decide (o < (n : Int)) = false := decide_eq_false h1
      rw [hi.out]
      go_enter Tryd.func39, Tryd.ntmps39
      go_wp2
      go_ret
      exact ⟨rfl, rfl⟩
  · have hi : Hid (tIn n o = false) := Lib.hid (tIn_neg (by omega))
    have g0 : decide (0 ≤ o) = false := decide_eq_false h0
    rw [hi.out]
    go_enter Tryd.func39, Tryd.ntmps39
    go_wp2
    go_ret
    exact ⟨rfl, rfl⟩

set_option maxRecDepth 100000 in
set_option maxHeartbeats 4000000 in
theorem c_uput {w : World} {A : Option Addr} {n c : Nat} {L : List BR} (h : DT w A n L) (hn : n ≤ 100000) (k : Nat) (hk : k < n) {b : BR} {M : DM} (hd : DW w tt b.r M) (x : Int) :
    Calls Tryd.prog 41 #[.slice A n c, .int .i64 (k : Int), .agg (dbC b M).toArray, .int .i64 x] w (EPT w n (if x = 0 then L.set k b else L, x)) := by
  have up := up_alloc w (.cells (dbC b M).toArray 73)
  have K := Blk.new w (dbC b M) 73
  generalize hw1 : w.alloc (.cells (dbC b M).toArray 73) = w1 at up K
  have HW := Lib.hid hw1
  have UP := Lib.hid up
  have KB := Lib.hid K
  have HD := Lib.hid (hd.below up)
  obtain ⟨Q, h1, hQ⟩ := h.below up
  have HT := Lib.hid h1
  have HQ := Lib.hid hQ
  have HH := Lib.hid (h.below up)
  have hown := World.ownsRow_nil w1 w1.heap.size 73 5
  have HRD : Hid (RD w1 tt 5 A n (Q.flatMap dB.f)) := Lib.hid h1.rd
  have HON := Lib.hid (dB.oneL Q)
  have hkn : (k : Int) < (n : Int) := by omega
  clear h hd up K hw1 h1 hQ
  by_cases h0 : x = 0
  · subst h0
    rw [if_pos rfl]
    go_enter Tryd.func41, Tryd.ntmps41
    go_upto_region 1 with fail
    rw [HW.out]
    go_upto_region 4 with (at_builtin; refine wpList_app ei_dt rfl (.const (.slice none 0 0)) (.tmp 15) rfl _ [] rfl hown rfl HRD.out HON.out (by omega) (Nat.le_refl _) ?_; intro v2 w2 hown2 hb2; simp only [Nat.zero_add, List.nil_append] at hown2)
    have ho : OT dB w2 73 w1.heap.size v2 n Q := OT.of (K := dB) hown2 HT.out.each hb2
    obtain ⟨g, c2, q, rfl, hlo, hgl, _, _, hth, _⟩ := ho.at_ k hk
    have KB2 := Lib.hid (KB.out.up hb2 KB.out.lt)
    have HTH : Hid (w2.there g (k * 5) (dbC b M).length) := Lib.hid hth
    have HDN : DW w2 (nOwn (.slice (some ⟨g, 0, none⟩) n c2)) b.r M := (HD.out.lt.below hb2).lo (fun j hj e => by
      have := (ho.own.lt j e).1
      omega)
    have HP := Lib.hid (ho.put k hk (b, M) HDN)
    have HB := Lib.hid (up_trans UP.out (Only.later hb2 (only_cells (dbC b M) (k * 5) w2) (by rintro i rfl; exact hlo)))
    clear hown hown2 hb2 ho hlo hgl hth HDN
    go_wp2_with (first | (refine ldr (b := w.heap.size) (t := 73) (cs := dbC b M) (.tmp 6) rfl rfl Tryd.underlying73 rfl info_db rfl ?_ ?_; (· exact KB2.out)) | (refine smr (b := g) (q := k * 5) (cs := dbC b M) (.tmp 20) (.tmp 19) rfl rfl rfl rfl info_db dbC_one ?_ ?_; (· exact HTH.out)))
    go_ret2
    obtain ⟨A', c', e', ht⟩ := HP.out.tw
    injection e' with e1 e2 e3
    subst e1 e3
    exact ⟨_, _, rfl, ⟨_, ht, by rw [List.map_set, HQ.out]⟩, HB.out⟩
  · rw [if_neg h0]
    have hx1 : (x != 0) = true := by simp [bne, h0]
    clear h0 hown
    go_enter Tryd.func41, Tryd.ntmps41
    go_upto_region 1 with fail
    rw [HW.out]
    go_wp2_with fail
    go_ret2
    exact ⟨A, c, rfl, HH.out, UP.out⟩

end Go.Proofs.YtlfglibepldjpaaDoor

namespace Go.Proofs.YtlfglibepldjpaaDoor
open Go.RowKit

set_option maxRecDepth 100000 in
set_option maxHeartbeats 4000000 in
theorem c_uenrol {w : World} {A : Option Addr} {n c : Nat} {L : List BR} (h : DT w A n L) (hn : n ≤ 100000) (b p : Int) :
    Calls Tryd.prog 20 #[.slice A n c, .int .i64 b, .int .i64 p] w (EPT w n (tOne (brEnrol · p) L b)) := by
  have hlen := h.len
  have CI := Lib.hid (c_uis A n c b w)
  rcases tIn_cases n b with hb | ⟨hb, hb2⟩ | ⟨k, rfl, hk⟩
  · rw [tIn_neg hb] at CI
    rw [tOne_no (by rw [hlen]; exact tIn_neg hb)]
    have HT := Lib.hid h
    clear h hlen
    go_enter Tryd.func20, Tryd.ntmps20
    go_wp2_with fail
    refine CI.out.mono ?_; rintro e w2 ⟨rfl, rfl⟩
    go_wp2
    go_ret2
    exact ⟨A, c, rfl, HT.out, Below.refl _ _⟩
  · rw [tIn_over hb2] at CI
    rw [tOne_no (by rw [hlen]; exact tIn_over hb2)]
    have HT := Lib.hid h
    clear h hlen
    go_enter Tryd.func20, Tryd.ntmps20
    go_wp2_with fail
    refine CI.out.mono ?_; rintro e w2 ⟨rfl, rfl⟩
    go_wp2
    go_ret2
    exact ⟨A, c, rfl, HT.out, Below.refl _ _⟩
  · rw [tIn_at hk] at CI
    obtain ⟨g, o, q, M, rfl, hgl, hq, hrg, hd⟩ := h.at_ k hk
    have HT := Lib.hid h
    have HRG := Lib.hid hrg
    have CE := Lib.hid (c_venrol hd p)
    obtain ⟨R, x, hR⟩ : ∃ R x, brEnrol q p = (R, x) := ⟨_, _, rfl⟩
    rw [hR] at CE
    have HE : Hid (tOne (brEnrol · p) L (k : Int) = (if x = 0 then L.set k R else L, x)) := Lib.hid (by
      by_cases h0 : x = 0
      · subst h0
        rw [tOne_ok hq hR, if_pos rfl]
      · rw [tOne_err hq hR h0, if_neg h0])
    obtain ⟨Y, hY⟩ : ∃ Y, (if x = 0 then L.set k R else L) = Y := ⟨_, rfl⟩
    rw [HE.out, hY]
    have HYY := Lib.hid hY
    have hkn : (k : Int) < (n : Int) := by omega
    clear h hlen hgl hq hrg hd hR HE hY
    go_enter Tryd.func20, Tryd.ntmps20
    go_wp2_with fail
    refine CI.out.mono ?_; rintro e w2 ⟨rfl, rfl⟩
    go_wp2_with (refine lmr (b := g) (q := o + k * 5) (cs := dbC q M) (.tmp 18) rfl rfl Tryd.underlying73 rfl info_db rfl ?_ ?_; (· exact HRG.out))
    refine CE.out.mono ?_; rintro e w3 ⟨N, rfl, hd, hb⟩
    have hq := up_alloc w3 (.cells (dbC R N).toArray 73)
    have K := Lib.hid (Blk.new w3 (dbC R N) 73)
    have HB := Lib.hid (up_trans hb hq)
    have CP := Lib.hid (c_uput (c := c) (HT.out.below (up_trans hb hq)) hn k hk ((hd.lo (fun _ _ => trivial)).below hq) x)
    rw [HYY.out] at CP
    clear hd hb hq
    go_wp2_with (first | (refine snr (W := w3) (cs := dbC R N) (zs := dbZ) (t := 73) (.tmp 8) (.tmp 22) rfl rfl rfl rfl info_db rfl dbC_one ?_ ?_ ?_; (· rfl); (· rfl)) | (refine ldr (b := w3.heap.size) (t := 73) (cs := dbC R N) (.tmp 8) rfl rfl Tryd.underlying73 rfl info_db rfl ?_ ?_; (· exact K.out)))
    refine CP.out.mono ?_; rintro e w4 ⟨A', c', rfl, ht, hb⟩
    have HT2 := Lib.hid ht
    have HB2 := Lib.hid hb
    clear ht hb
    go_wp2
    go_ret2
    exact ⟨A', c', rfl, HT2.out, up_trans HB.out HB2.out⟩

set_option maxRecDepth 100000 in
set_option maxHeartbeats 4000000 in
theorem c_uresign {w : World} {A : Option Addr} {n c : Nat} {L : List BR} (h : DT w A n L) (hn : n ≤ 100000) (b p : Int) :
    Calls Tryd.prog 22 #[.slice A n c, .int .i64 b, .int .i64 p] w (EPT w n (tOne (brResign · p) L b)) := by
  have hlen := h.len
  have CI := Lib.hid (c_uis A n c b w)
  rcases tIn_cases n b with hb | ⟨hb, hb2⟩ | ⟨k, rfl, hk⟩
  · rw [tIn_neg hb] at CI
    rw [tOne_no (by rw [hlen]; exact tIn_neg hb)]
    have HT := Lib.hid h
    clear h hlen
    go_enter Tryd.func22, Tryd.ntmps22
    go_wp2_with fail
    refine CI.out.mono ?_; rintro e w2 ⟨rfl, rfl⟩
    go_wp2
    go_ret2
    exact ⟨A, c, rfl, HT.out, Below.refl _ _⟩
  · rw [tIn_over hb2] at CI
    rw [tOne_no (by rw [hlen]; exact tIn_over hb2)]
    have HT := Lib.hid h
    clear h hlen
    go_enter Tryd.func22, Tryd.ntmps22
    go_wp2_with fail
    refine CI.out.mono ?_; rintro e w2 ⟨rfl, rfl⟩
    go_wp2
    go_ret2
    exact ⟨A, c, rfl, HT.out, Below.refl _ _⟩
  · rw [tIn_at hk] at CI
    obtain ⟨g, o, q, M, rfl, hgl, hq, hrg, hd⟩ := h.at_ k hk
    have HT := Lib.hid h
    have HRG := Lib.hid hrg
    have CE := Lib.hid (c_vresign hd p)
    obtain ⟨R, x, hR⟩ : ∃ R x, brResign q p = (R, x) := ⟨_, _, rfl⟩
    rw [hR] at CE
    have HE : Hid (tOne (brResign · p) L (k : Int) = (if x = 0 then L.set k R else L, x)) := Lib.hid (by
      by_cases h0 : x = 0
      · subst h0
        rw [tOne_ok hq hR, if_pos rfl]
      · rw [tOne_err hq hR h0, if_neg h0])
    obtain ⟨Y, hY⟩ : ∃ Y, (if x = 0 then L.set k R else L) = Y := ⟨_, rfl⟩
    rw [HE.out, hY]
    have HYY := Lib.hid hY
    have hkn : (k : Int) < (n : Int) := by omega
    clear h hlen hgl hq hrg hd hR HE hY
    go_enter Tryd.func22, Tryd.ntmps22
    go_wp2_with fail
    refine CI.out.mono ?_; rintro e w2 ⟨rfl, rfl⟩
    go_wp2_with (refine lmr (b := g) (q := o + k * 5) (cs := dbC q M) (.tmp 18) rfl rfl Tryd.underlying73 rfl info_db rfl ?_ ?_; (· exact HRG.out))
    refine CE.out.mono ?_; rintro e w3 ⟨N, rfl, hd, hb⟩
    have hq := up_alloc w3 (.cells (dbC R N).toArray 73)
    have K := Lib.hid (Blk.new w3 (dbC R N) 73)
    have HB := Lib.hid (up_trans hb hq)
    have CP := Lib.hid (c_uput (c := c) (HT.out.below (up_trans hb hq)) hn k hk ((hd.lo (fun _ _ => trivial)).below hq) x)
    rw [HYY.out] at CP
    clear hd hb hq
    go_wp2_with (first | (refine snr (W := w3) (cs := dbC R N) (zs := dbZ) (t := 73) (.tmp 8) (.tmp 22) rfl rfl rfl rfl info_db rfl dbC_one ?_ ?_ ?_; (· rfl); (· rfl)) | (refine ldr (b := w3.heap.size) (t := 73) (cs := dbC R N) (.tmp 8) rfl rfl Tryd.underlying73 rfl info_db rfl ?_ ?_; (· exact K.out)))
    refine CP.out.mono ?_; rintro e w4 ⟨A', c', rfl, ht, hb⟩
    have HT2 := Lib.hid ht
    have HB2 := Lib.hid hb
    clear ht hb
    go_wp2
    go_ret2
    exact ⟨A', c', rfl, HT2.out, up_trans HB.out HB2.out⟩

def UFi (w : World) (n : Nat) (x : List BR × Int) (Z : List Int) (e : Ending) (w' : World) : Prop :=
  ∃ A' c' B d, e = .returned (.tuple #[.slice A' n c', .slice B Z.length d, .int .i64 x.2]) ∧ DT w' A' n x.1 ∧ RD w' tt 1 B Z.length (Z.map (Value.int .i64)) ∧ Below w.heap.size w w'
set_option maxRecDepth 100000 in
set_option maxHeartbeats 4000000 in
theorem c_ufire {w : World} {A : Option Addr} {n c : Nat} {L : List BR} (h : DT w A n L) (hn : n ≤ 100000) (b : Int) :
    Calls Tryd.prog 24 #[.slice A n c, .int .i64 b] w (UFi w n (tOne fireF L b) (fireW L b)) := by
  have hlen := h.len
  have CI := Lib.hid (c_uis A n c b w)
  rcases tIn_cases n b with hb | ⟨hb, hb2⟩ | ⟨k, rfl, hk⟩
  · rw [tIn_neg hb] at CI
    rw [tOne_no (by rw [hlen]; exact tIn_neg hb), fireW_no (by rw [hlen]; exact tIn_neg hb)]
    have HT := Lib.hid h
    clear h hlen
    go_enter Tryd.func24, Tryd.ntmps24
    go_wp2_with fail
    refine CI.out.mono ?_; rintro e w2 ⟨rfl, rfl⟩
    go_wp2
    go_ret3
    exact ⟨A, c, none, 0, rfl, HT.out, RD.nil _ _ _ _, Below.refl _ _⟩
  · rw [tIn_over hb2] at CI
    rw [tOne_no (by rw [hlen]; exact tIn_over hb2), fireW_no (by rw [hlen]; exact tIn_over hb2)]
    have HT := Lib.hid h
    clear h hlen
    go_enter Tryd.func24, Tryd.ntmps24
    go_wp2_with fail
    refine CI.out.mono ?_; rintro e w2 ⟨rfl, rfl⟩
    go_wp2
    go_ret3
    exact ⟨A, c, none, 0, rfl, HT.out, RD.nil _ _ _ _, Below.refl _ _⟩
  · rw [tIn_at hk] at CI
    obtain ⟨g, o, q, M, rfl, hgl, hq, hrg, hd⟩ := h.at_ k hk
    have HT := Lib.hid h
    have HRG := Lib.hid hrg
    have CE := Lib.hid (c_vfire hd)
    have hW : fireW L (k : Int) = (brFire q).2.1 := by rw [fireW_at (by rw [hlen]; exact tIn_at hk), getD_at' hq]
    have hN := fire_err (b := q)
    obtain ⟨R, Z, x, hR⟩ : ∃ R Z x, brFire q = (R, Z, x) := ⟨_, _, _, rfl⟩
    have hR2 : fireF q = (R, x) := by unfold fireF; rw [hR]
    rw [hR] at CE hW hN
    have hkn : (k : Int) < (n : Int) := by omega
    rw [hW]
    by_cases h0 : x = 0
    · subst h0
      have HE := Lib.hid (tOne_ok hq hR2)
      rw [HE.out]
      clear h hlen hgl hq hrg hd hR hR2 HE hW hN
      go_enter Tryd.func24, Tryd.ntmps24
      go_wp2_with fail
      refine CI.out.mono ?_; rintro e w2 ⟨rfl, rfl⟩
      go_wp2_with (refine lmr (b := g) (q := o + k * 5) (cs := dbC q M) (.tmp 18) rfl rfl Tryd.underlying73 rfl info_db rfl ?_ ?_; (· exact HRG.out))
      refine CE.out.mono ?_; rintro e w3 ⟨N, B, d, rfl, hd, hr, hb⟩
      have hq := up_alloc w3 (.cells (dbC R N).toArray 73)
      have K := Lib.hid (Blk.new w3 (dbC R N) 73)
      have HB := Lib.hid (up_trans hb hq)
      have HR := Lib.hid ((hr.below hq).lo (fun _ _ => trivial : ∀ b, _ → tt b))
      have CP := Lib.hid (c_uput (c := c) (HT.out.below (up_trans hb hq)) hn k hk ((hd.lo (fun _ _ => trivial)).below hq) 0)
      rw [if_pos rfl] at CP
      clear hd hb hq hr
      go_wp2_with (first | (refine snr (W := w3) (cs := dbC R N) (zs := dbZ) (t := 73) (.tmp 7) (.tmp 21) rfl rfl rfl rfl info_db rfl dbC_one ?_ ?_ ?_; (· rfl); (· rfl)) | (refine ldr (b := w3.heap.size) (t := 73) (cs := dbC R N) (.tmp 7) rfl rfl Tryd.underlying73 rfl info_db rfl ?_ ?_; (· exact K.out)))
      refine CP.out.mono ?_; rintro e w4 ⟨A', c', rfl, ht, hb⟩
      have HT2 := Lib.hid ht
      have HB2 := Lib.hid hb
      clear ht hb
      go_wp2
      go_ret3
      exact ⟨A', c', B, d, rfl, HT2.out, HR.out.below HB2.out, up_trans HB.out HB2.out⟩
    · have HE := Lib.hid (tOne_err hq hR2 h0)
      have hZ : Z = [] := hN h0
      subst hZ
      rw [HE.out]
      have hx1 : (x != 0) = true := by simp [bne, h0]
      clear h hlen hgl hq hrg hd hR hR2 HE hW hN h0
      go_enter Tryd.func24, Tryd.ntmps24
      go_wp2_with fail
      refine CI.out.mono ?_; rintro e w2 ⟨rfl, rfl⟩
      go_wp2_with (refine lmr (b := g) (q := o + k * 5) (cs := dbC q M) (.tmp 18) rfl rfl Tryd.underlying73 rfl info_db rfl ?_ ?_; (· exact HRG.out))
      refine CE.out.mono ?_; rintro e w3 ⟨N, B, d, rfl, hd, hr, hb⟩
      have HB := Lib.hid (up_trans hb (up_alloc w3 (.cells (dbC R N).toArray 73)))
      clear hd hb hr
      go_wp2_with (refine snr (W := w3) (cs := dbC R N) (zs := dbZ) (t := 73) (.tmp 7) (.tmp 21) rfl rfl rfl rfl info_db rfl dbC_one ?_ ?_ ?_; (· rfl); (· rfl))
      go_ret3
      exact ⟨_, c, none, 0, rfl, HT.out.below HB.out, RD.nil _ _ _ _, HB.out⟩
end Go.Proofs.YtlfglibepldjpaaDoor

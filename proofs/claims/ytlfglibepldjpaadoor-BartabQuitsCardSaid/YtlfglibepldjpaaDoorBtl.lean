/- What the program's calls and the document's have in common, by letters; the laws BartabNew and BartabActs. -/
import Derived.Test.YtlfglibepldjpaaDoorBtk
namespace Go.Proofs.YtlfglibepldjpaaDoor
open Go.RowKit

def kQ (A : Option Addr) (n : Nat) (Q : List RB) : Kp := ⟨fun W => TW rB W tt A n Q, fun hb h => h.below hb⟩
def OP (w : World) (n : Nat) (L : List BR) (x : Int) (e : Ending) (w' : World) : Prop := ∃ A' c', e = .returned (.tuple #[.slice A' n c', .int .i64 x]) ∧ (kP A' n L).P w' ∧ Below w.heap.size w w'
def OD (w : World) (n : Nat) (L : List BR) (x : Int) (e : Ending) (w' : World) : Prop := ∃ A' c', e = .returned (.tuple #[.slice A' n c', .int .i64 x]) ∧ (kT A' n L).P w' ∧ Below w.heap.size w w'
def FP (w : World) (n : Nat) (L : List BR) (Z : List Int) (x : Int) (e : Ending) (w' : World) : Prop := ∃ A' c' B d, e = .returned (.tuple #[.slice A' n c', .slice B Z.length d, .int .i64 x]) ∧ (kP A' n L).P w' ∧ (kR B Z.length Z).P w' ∧ Below w.heap.size w w'
def FD (w : World) (n : Nat) (L : List BR) (Z : List Int) (x : Int) (e : Ending) (w' : World) : Prop := ∃ A' c' B d, e = .returned (.tuple #[.slice A' n c', .slice B Z.length d, .int .i64 x]) ∧ (kT A' n L).P w' ∧ (kR B Z.length Z).P w' ∧ Below w.heap.size w w'
def NP (w : World) (L : List BR) (i : Nat) (x : Int) (e : Ending) (w' : World) : Prop := ∃ A' n' c', e = .returned (.tuple #[.slice A' n' c', .int .i64 (i : Int), .int .i64 x]) ∧ (kP A' n' L).P w' ∧ n' ≤ 100000 ∧ Below w.heap.size w w'
def ND (w : World) (L : List BR) (i : Nat) (x : Int) (e : Ending) (w' : World) : Prop := ∃ A' n' c', e = .returned (.tuple #[.slice A' n' c', .int .i64 (i : Int), .int .i64 x]) ∧ (kT A' n' L).P w' ∧ n' ≤ 100000 ∧ Below w.heap.size w w'
def RP (w : World) (Z : List Int) (e : Ending) (w' : World) : Prop := ∃ B d, e = .returned (.slice B Z.length d) ∧ (kR B Z.length Z).P w' ∧ Below w.heap.size w w'
def TP1 (w : World) (n : Nat) (L : List BR) (e : Ending) (w' : World) : Prop := ∃ A' c', e = .returned (.slice A' n c') ∧ (kP A' n L).P w' ∧ Below w.heap.size w w'
def TD1 (w : World) (n : Nat) (L : List BR) (e : Ending) (w' : World) : Prop := ∃ A' c', e = .returned (.slice A' n c') ∧ (kT A' n L).P w' ∧ Below w.heap.size w w'
theorem IntsPost.rp {w w' : World} {Z : List Int} {e : Ending} (h : IntsPost w Z e w') : RP w Z e w' := by
  obtain ⟨B, d, rfl, _, _, hr, hb⟩ := h
  exact ⟨B, d, rfl, hr.lo (fun _ _ => trivial), hb⟩
theorem nwL_len (l : List CB) : (nwL l).length ≤ 8 := by
  unfold nwL
  split
  · next h =>
    rw [List.length_map]
    unfold nwR at h
    split at h
    · cases h
    · omega
  · simp
theorem pairNew (l : List CB) : ∃ (L : List BR) (i : Nat) (x : Int), (∀ W A n c, (kC A n l).P W → l.length = n → Calls Tryd.prog 28 #[.slice A n c] W (NP W L i x)) ∧ (∀ W A n c, (kC A n l).P W → l.length = n → Calls Tryd.prog 29 #[.slice A n c] W (ND W L i x)) := by
  have hl := nwL_len l
  refine ⟨nwL l, (nwR l).1, (nwR l).2, fun W A n c h hn => (c_tnew (c := c) h hn).mono ?_, fun W A n c h hn => (c_unew (c := c) h hn).mono ?_⟩
  · rintro e w' ⟨A', n', c', rfl, hd, hb⟩
    exact ⟨A', n', c', rfl, hd, by rw [← hd.len]; omega, hb⟩
  · rintro e w' ⟨A', n', c', rfl, hd, hb⟩
    exact ⟨A', n', c', rfl, hd, by rw [← hd.len]; omega, hb⟩
theorem pairEnrol (L : List BR) (b p : Int) : ∃ (R : List BR) (x : Int), (∀ W A n c, TabD W → (kP A n L).P W → n ≤ 100000 → Calls Tryd.prog 19 #[.slice A n c, .int .i64 b, .int .i64 p] W (OP W n R x)) ∧ (∀ W A n c, (kT A n L).P W → n ≤ 100000 → Calls Tryd.prog 20 #[.slice A n c, .int .i64 b, .int .i64 p] W (OD W n R x)) :=
  ⟨(tOne (brEnrol · p) L b).1, (tOne (brEnrol · p) L b).2, fun _ _ _ c hT h hn => c_tenrol (c := c) h hn b p hT, fun _ _ _ c h hn => c_uenrol (c := c) h hn b p⟩
theorem pairResign (L : List BR) (b p : Int) : ∃ (R : List BR) (x : Int), (∀ W A n c, TabD W → (kP A n L).P W → n ≤ 100000 → Calls Tryd.prog 21 #[.slice A n c, .int .i64 b, .int .i64 p] W (OP W n R x)) ∧ (∀ W A n c, (kT A n L).P W → n ≤ 100000 → Calls Tryd.prog 22 #[.slice A n c, .int .i64 b, .int .i64 p] W (OD W n R x)) :=
  ⟨(tOne (brResign · p) L b).1, (tOne (brResign · p) L b).2, fun _ _ _ c hT h hn => c_tresign (c := c) h hn b p hT, fun _ _ _ c h hn => c_uresign (c := c) h hn b p⟩
theorem pairFire (L : List BR) (b : Int) : ∃ (R : List BR) (Z : List Int) (x : Int), Z.length ≤ 256 ∧ hasL (rdyL 0 L) b = decide (x = 0) ∧ (∀ W A n c, TabD W → (kP A n L).P W → n ≤ 100000 → Calls Tryd.prog 23 #[.slice A n c, .int .i64 b] W (FP W n R Z x)) ∧ (∀ W A n c, (kT A n L).P W → n ≤ 100000 → Calls Tryd.prog 24 #[.slice A n c, .int .i64 b] W (FD W n R Z x)) :=
  ⟨(tOne fireF L b).1, fireW L b, (tOne fireF L b).2, fireW_len L b, rdy_fire L b, fun _ _ _ c hT h hn => c_tfire (c := c) h hn b hT, fun _ _ _ c h hn => c_ufire (c := c) h hn b⟩
theorem pairReady (L : List BR) : ∃ Z : List Int, Z = rdyL 0 L ∧ Z.length ≤ L.length ∧ (∀ W A n c, TabD W → (kP A n L).P W → n ≤ 100000 → Calls Tryd.prog 26 #[.slice A n c] W (RP W Z)) ∧ (∀ W A n c, (kT A n L).P W → n ≤ 100000 → Calls Tryd.prog 27 #[.slice A n c] W (RP W Z)) :=
  ⟨rdyL 0 L, rfl, rdyL_len L 0, fun _ _ _ c hT h hn => (c_tready (c := c) h hn hT).mono fun _ _ h => h.rp, fun _ _ _ c h hn => (c_uready (c := c) h hn).mono fun _ _ h => h.rp⟩
theorem pairLeave (L : List BR) (p : Int) : ∃ R : List BR, R = tLeave L p ∧ (∀ W A n c, TabD W → (kP A n L).P W → n ≤ 100000 → Calls Tryd.prog 15 #[.slice A n c, .int .i64 p] W (TP1 W n R)) ∧ (∀ W A n c, (kT A n L).P W → n ≤ 100000 → Calls Tryd.prog 16 #[.slice A n c, .int .i64 p] W (TD1 W n R)) :=
  ⟨tLeave L p, rfl, fun _ _ _ c hT h hn => c_tleave (c := c) h hn p hT, fun _ _ _ c h hn => c_uleave (c := c) h hn p⟩
theorem pairQuit (L : List BR) (p : Int) : ∃ R : List BR, R = tQuit L p ∧ (∀ W A n c, TabD W → (kP A n L).P W → n ≤ 100000 → Calls Tryd.prog 17 #[.slice A n c, .int .i64 p] W (TP1 W n R)) ∧ (∀ W A n c, (kT A n L).P W → n ≤ 100000 → Calls Tryd.prog 18 #[.slice A n c, .int .i64 p] W (TD1 W n R)) :=
  ⟨tQuit L p, rfl, fun _ _ _ c hT h hn => c_tquit (c := c) h hn p hT, fun _ _ _ c h hn => c_uquit (c := c) h hn p⟩
def OfP (w : World) (n : Nat) (L : List BR) (i : Nat) (x : Int) (e : Ending) (w' : World) : Prop := ∃ A' c', e = .returned (.tuple #[.slice A' n c', .int .i64 (i : Int), .int .i64 x]) ∧ (kP A' n L).P w' ∧ Below w.heap.size w w'
def OfD (w : World) (n : Nat) (L : List BR) (i : Nat) (x : Int) (e : Ending) (w' : World) : Prop := ∃ A' c', e = .returned (.tuple #[.slice A' n c', .int .i64 (i : Int), .int .i64 x]) ∧ (kT A' n L).P w' ∧ Below w.heap.size w w'
theorem pairOffer (L : List BR) (p : Int) (gs : List GD) (al : Bool) : ∃ (R : List BR) (i : Nat) (x : Int), (x ≠ 0 → R = L) ∧ (∀ W A n c G m d, TabD W → (kP A n L).P W → n ≤ 100000 → (kG G m gs).P W → gs.length = m → m ≤ 100000 → Calls Tryd.prog 11 #[.slice A n c, .int .i64 p, .slice G m d, .bool al] W (OfP W n R i x)) ∧
    (∀ W A n c G m d, (kT A n L).P W → n ≤ 100000 → (kG G m gs).P W → gs.length = m → m ≤ 100000 → Calls Tryd.prog 12 #[.slice A n c, .int .i64 p, .slice G m d, .bool al] W (OfD W n R i x)) :=
  ⟨(offR p al L L 0 gs).1, (offR p al L L 0 gs).2.1, (offR p al L L 0 gs).2.2, offR_refused p al L gs L 0, fun _ _ _ c _ _ d hT h hn hG hm h2 => c_toffer (c := c) (d := d) h hn hG hm h2 p al hT, fun _ _ _ c _ _ d h hn hG hm h2 => c_uoffer (c := c) (d := d) h hn hG hm h2 p al⟩
theorem small23 (Q : List RB) : ∃ q : Bool, (q = true → smallT Q = true) ∧ ∀ W A n c, (kQ A n Q).P W → n ≤ maxLen → Calls Tryd.prog 7 #[.slice A n c] W (Ans (.bool q) W) :=
  ⟨smallT Q, fun h => h, fun _ _ _ c h hn => c_tsmall (c := c) h hn⟩
theorem plain23 (Q : List RB) : ∃ L : List BR, ∀ W A n c, (kQ A n Q).P W → smallT Q = true → Calls Tryd.prog 9 #[.slice A n c] W (TD1 W n L) :=
  ⟨Q.map rbP, fun _ _ _ c h hs => c_plain23 (c := c) h hs⟩
theorem to23 {W : World} {A : Option Addr} {n c : Nat} {L : List BR} (h : (kT A n L).P W) (hn : n ≤ 100000) : Calls Tryd.prog 10 #[.slice A n c] W (TP1 W n L) := c_to23 (c := c) h hn
theorem from23 {W : World} {A : Option Addr} {n c : Nat} {L : List BR} (h : (kP A n L).P W) (hn : n ≤ 100000) (hT : TabD W) : Calls Tryd.prog 14 #[.slice A n c] W (TD1 W n L) := c_from23 (c := c) h hn hT
theorem same23 {W : World} {A B : Option Addr} {n m c d : Nat} {L : List BR} (h : (kT A n L).P W) (k : (kT B m L).P W) (hn : n ≤ 100000) : Calls Tryd.prog 13 #[.slice A n c, .slice B m d] W (Ans (.bool true) W) := c_same23 (c := c) (d := d) h k hn
theorem sameL {W : World} {A B : Option Addr} {c d : Nat} {L : List Int} (h : (kR A L.length L).P W) (k : (kR B L.length L).P W) (hl : L.length ≤ 256) :
    Calls Tryd.prog 25 #[.slice A L.length c, .slice B L.length d] W (Ans (.bool true) W) :=
  (c_same (zs := L) (pl' := tt) h k (by omega)).mono fun _ _ h => ⟨h.1, h.2.below⟩

set_option maxRecDepth 100000 in
set_option maxHeartbeats 16000000 in
theorem l_tnew {w : World} {A : Option Addr} {n c : Nat} {l : List CB} (hl : l.length = n) (hR : RD w tt 2 A n (l.flatMap cbC)) (hT : TabD w) :
    Calls Tryd.prog 5 #[.slice A n c] w fun e w' => e = .returned (.bool true) ∧ Below w.heap.size w w' := by
  have HT := Lib.hid (fun W (hW : Below w.heap.size w W) => hT.up hW)
  have HS : Hid (Mm w [] [kC A n l] w) := Lib.hid ((Mm.nil (Below.refl _ _)).fact (kC A n l) hR)
  obtain ⟨R, i, x, p1, d1⟩ := pairNew l
  have P1 := Lib.hid p1
  have D1 := Lib.hid d1
  have HL := Lib.hid hl
  have g0 : ((i : Int) == (i : Int)) = true := beq_self_eq_true _
  have g1 : (x == x) = true := beq_self_eq_true _
  clear hR hT hl p1 d1
  by_cases h20 : (20 : Int) < (n : Int)
  · go_enter Tryd.func5, Tryd.ntmps5
    go_wp2_with fail
    refine (c_alive23 _ (HT.out _ HS.out.up)).mono ?_; rintro e w2 ⟨rfl, hb⟩
    go_wp2
    go_ret
    exact ⟨rfl, up_trans HS.out.up hb⟩
  · go_enter Tryd.func5, Tryd.ntmps5
    go_wp2_with fail
    refine (P1.out _ _ _ _ (HS.out.da 0 rfl) HL.out).mono ?_; rintro e w2 ⟨A1, n1, c1, rfl, hd, hn1, hb⟩
    have HS := Lib.hid ((HS.out.next hb).fact (kP A1 n1 R) hd)
    clear hb hd
    have HN1 := Lib.hid hn1
    clear hn1
    go_wp2_with fail
    refine (D1.out _ _ _ _ (HS.out.da 1 rfl) HL.out).mono ?_; rintro e w3 ⟨A2, n2, c2, rfl, hd, hn2, hb⟩
    have HS := Lib.hid ((HS.out.next hb).fact (kT A2 n2 R) hd)
    clear hb hd
    clear hn2
    go_wp2_with fail
    refine (from23 (HS.out.da 1 rfl) HN1.out (HT.out _ HS.out.up)).mono ?_; rintro e w4 ⟨A3, c3, rfl, hd, hb⟩
    have HS := Lib.hid ((HS.out.next hb).fact (kT A3 n1 R) hd)
    clear hb hd
    go_wp2_with fail
    refine (same23 (HS.out.da 0 rfl) (HS.out.da 1 rfl) HN1.out).mono ?_; rintro e w5 ⟨rfl, hb⟩
    have HS := Lib.hid (HS.out.next hb)
    clear hb
    go_wp2_with fail
    refine (c_alive23 _ (HT.out _ HS.out.up)).mono ?_; rintro e w6 ⟨rfl, hb⟩
    have HS := Lib.hid (HS.out.next hb)
    clear hb
    go_wp2
    go_ret
    exact ⟨rfl, HS.out.up⟩

set_option maxRecDepth 100000 in
set_option maxHeartbeats 16000000 in
theorem l_tacts {w : World} {A : Option Addr} {n c : Nat} {Q : List RB} (hm : n ≤ maxLen) (hQ : TW rB w tt A n Q) (b p : Int) (hT : TabD w) :
    Calls Tryd.prog 4 #[.slice A n c, .int .i64 b, .int .i64 p] w fun e w' => e = .returned (.bool true) ∧ Below w.heap.size w w' := by
  have HT := Lib.hid (fun W (hW : Below w.heap.size w W) => hT.up hW)
  have HS : Hid (Mm w [] [kQ A n Q] w) := Lib.hid ((Mm.nil (Below.refl _ _)).fact (kQ A n Q) hQ)
  have HM := Lib.hid hm
  obtain ⟨q, hq, hs⟩ := small23 Q
  obtain ⟨L, hp⟩ := plain23 Q
  have CS := Lib.hid hs
  have CP := Lib.hid hp
  have HN : Hid (smallT Q = true → n ≤ 100000) := Lib.hid (fun h => by have := (smallT_iff h).1; have := hQ.len; omega)
  clear hQ hT hm hs hp
  cases q
  case false =>
    clear CP hq HN
    go_enter Tryd.func4, Tryd.ntmps4
    go_wp2_with fail
    refine (CS.out _ _ _ _ (HS.out.da 0 rfl) HM.out).mono ?_; rintro e w2 ⟨rfl, hb⟩
    have HS := Lib.hid (HS.out.next hb)
    clear hb
    go_wp2_with fail
    refine (c_alive23 _ (HT.out _ HS.out.up)).mono ?_; rintro e w3 ⟨rfl, hb⟩
    go_wp2
    go_ret
    exact ⟨rfl, up_trans HS.out.up hb⟩
  have HQ := Lib.hid (hq rfl)
  have HN2 := Lib.hid (HN.out HQ.out)
  obtain ⟨R1, x1, p1, d1⟩ := pairEnrol L b p
  obtain ⟨R2, x2, p2, d2⟩ := pairResign L b p
  obtain ⟨R3, Z3, x3, hz, -, p3, d3⟩ := pairFire L b
  obtain ⟨Z4, -, hz4, p4, d4⟩ := pairReady L
  have P1 := Lib.hid p1
  have D1 := Lib.hid d1
  have P2 := Lib.hid p2
  have D2 := Lib.hid d2
  have P3 := Lib.hid p3
  have D3 := Lib.hid d3
  have P4 := Lib.hid p4
  have D4 := Lib.hid d4
  have HZ := Lib.hid hz
  have HZ4 := Lib.hid hz4
  have g1 : (x1 == x1) = true := beq_self_eq_true _
  have g2 : (x2 == x2) = true := beq_self_eq_true _
  have g3 : (x3 == x3) = true := beq_self_eq_true _
  clear p1 d1 p2 d2 p3 d3 p4 d4 hz hz4 hq HN
  go_enter Tryd.func4, Tryd.ntmps4
  go_wp2_with fail
  refine (CS.out _ _ _ _ (HS.out.da 0 rfl) HM.out).mono ?_; rintro e w2 ⟨rfl, hb⟩
  have HS := Lib.hid (HS.out.next hb)
  clear hb
  go_wp2_with fail
  refine (CP.out _ _ _ _ (HS.out.da 0 rfl) HQ.out).mono ?_; rintro e w3 ⟨A1, c1, rfl, hd, hb⟩
  have HS := Lib.hid ((HS.out.next hb).fact (kT A1 n L) hd)
  clear hb hd
  have HLL : Hid (L.length = n) := Lib.hid (by have := HS.out.da 0 rfl; exact DT.len this)
  go_wp2_with fail
  refine (to23 (HS.out.da 0 rfl) HN2.out).mono ?_; rintro e w4 ⟨A2, c2, rfl, hd, hb⟩
  have HS := Lib.hid ((HS.out.next hb).fact (kP A2 n L) hd)
  clear hb hd
  go_wp2_with fail
  refine (P1.out _ _ _ _ (HT.out _ HS.out.up) (HS.out.da 0 rfl) HN2.out).mono ?_; rintro e w5 ⟨B1, b1, rfl, hd, hb⟩
  have HS := Lib.hid ((HS.out.next hb).fact (kP B1 n R1) hd)
  clear hb hd
  go_wp2_with fail
  refine (D1.out _ _ _ _ (HS.out.da 2 rfl) HN2.out).mono ?_; rintro e w6 ⟨C1, k1, rfl, hd, hb⟩
  have HS := Lib.hid ((HS.out.next hb).fact (kT C1 n R1) hd)
  clear hb hd
  go_wp2_with fail
  refine (P2.out _ _ _ _ (HT.out _ HS.out.up) (HS.out.da 2 rfl) HN2.out).mono ?_; rintro e w7 ⟨B2, b2, rfl, hd, hb⟩
  have HS := Lib.hid ((HS.out.next hb).fact (kP B2 n R2) hd)
  clear hb hd
  go_wp2_with fail
  refine (D2.out _ _ _ _ (HS.out.da 4 rfl) HN2.out).mono ?_; rintro e w8 ⟨C2, k2, rfl, hd, hb⟩
  have HS := Lib.hid ((HS.out.next hb).fact (kT C2 n R2) hd)
  clear hb hd
  go_wp2_with fail
  refine (P3.out _ _ _ _ (HT.out _ HS.out.up) (HS.out.da 4 rfl) HN2.out).mono ?_; rintro e w9 ⟨B3, b3, E3, e3, rfl, hd, hr, hb⟩
  have HS := Lib.hid (((HS.out.next hb).fact (kP B3 n R3) hd).fact (kR E3 Z3.length Z3) hr)
  clear hb hd hr
  go_wp2_with fail
  refine (D3.out _ _ _ _ (HS.out.da 7 rfl) HN2.out).mono ?_; rintro e w10 ⟨C3, k3, F3, f3, rfl, hd, hr, hb⟩
  have HS := Lib.hid (((HS.out.next hb).fact (kT C3 n R3) hd).fact (kR F3 Z3.length Z3) hr)
  clear hb hd hr
  go_wp2_with fail
  refine (from23 (HS.out.da 7 rfl) HN2.out (HT.out _ HS.out.up)).mono ?_; rintro e w11 ⟨G1, l1, rfl, hd, hb⟩
  have HS := Lib.hid ((HS.out.next hb).fact (kT G1 n R1) hd)
  clear hb hd
  go_wp2_with fail
  refine (same23 (HS.out.da 0 rfl) (HS.out.da 7 rfl) HN2.out).mono ?_; rintro e w12 ⟨rfl, hb⟩
  have HS := Lib.hid (HS.out.next hb)
  clear hb
  go_wp2_with fail
  refine (from23 (HS.out.da 6 rfl) HN2.out (HT.out _ HS.out.up)).mono ?_; rintro e w13 ⟨G2, l2, rfl, hd, hb⟩
  have HS := Lib.hid ((HS.out.next hb).fact (kT G2 n R2) hd)
  clear hb hd
  go_wp2_with fail
  refine (same23 (HS.out.da 0 rfl) (HS.out.da 6 rfl) HN2.out).mono ?_; rintro e w14 ⟨rfl, hb⟩
  have HS := Lib.hid (HS.out.next hb)
  clear hb
  go_wp2_with fail
  refine (from23 (HS.out.da 5 rfl) HN2.out (HT.out _ HS.out.up)).mono ?_; rintro e w15 ⟨G3, l3, rfl, hd, hb⟩
  have HS := Lib.hid ((HS.out.next hb).fact (kT G3 n R3) hd)
  clear hb hd
  go_wp2_with fail
  refine (same23 (HS.out.da 0 rfl) (HS.out.da 4 rfl) HN2.out).mono ?_; rintro e w16 ⟨rfl, hb⟩
  have HS := Lib.hid (HS.out.next hb)
  clear hb
  go_wp2_with fail
  refine (sameL (HS.out.da 5 rfl) (HS.out.da 3 rfl) HZ.out).mono ?_; rintro e w17 ⟨rfl, hb⟩
  have HS := Lib.hid (HS.out.next hb)
  clear hb
  go_wp2_with fail
  refine (P4.out _ _ _ _ (HT.out _ HS.out.up) (HS.out.da 11 rfl) HN2.out).mono ?_; rintro e w18 ⟨E4, e4, rfl, hd, hb⟩
  have HS := Lib.hid ((HS.out.next hb).fact (kR E4 Z4.length Z4) hd)
  clear hb hd
  go_wp2_with fail
  refine (D4.out _ _ _ _ (HS.out.da 13 rfl) HN2.out).mono ?_; rintro e w19 ⟨F4, f4, rfl, hd, hb⟩
  have HS := Lib.hid ((HS.out.next hb).fact (kR F4 Z4.length Z4) hd)
  clear hb hd
  go_wp2_with fail
  refine (sameL (HS.out.da 1 rfl) (HS.out.da 0 rfl) (by have h1 := HZ4.out; have h2 := HLL.out; have h3 := (smallT_iff HQ.out).1; have h4 : Q.length = n := TW.len (HS.out.da 15 rfl); omega)).mono ?_; rintro e w20 ⟨rfl, hb⟩
  have HS := Lib.hid (HS.out.next hb)
  clear hb
  go_wp2_with fail
  refine (c_alive23 _ (HT.out _ HS.out.up)).mono ?_; rintro e w21 ⟨rfl, hb⟩
  have HS := Lib.hid (HS.out.next hb)
  clear hb
  go_wp2
  go_ret
  exact ⟨rfl, HS.out.up⟩
end Go.Proofs.YtlfglibepldjpaaDoor

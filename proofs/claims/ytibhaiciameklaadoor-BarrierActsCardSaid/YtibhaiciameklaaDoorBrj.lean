/- The laws BarrierActs and BarrierFires. -/
import Derived.Test.YtibhaiciameklaaDoorBri
namespace Go.Proofs.YtibhaiciameklaaDoor
open Go.RowKit

/-- What a call gives that answers a document's barrier and something more: its lists lie anywhere. -/
def EP (w : World) (b : BR) (x : Value) (e : Ending) (w' : World) : Prop :=
  ∃ M, e = .returned (.tuple #[.agg (dbC b M).toArray, x]) ∧ (kD b.r M).P w' ∧ Below w.heap.size w w'
theorem EPost.weak {pl : Nat → Prop} {w : World} {b : BR} {x : Value} {e : Ending} {w' : World} (h : EPost pl w b x e w') : EP w b x e w' := by
  obtain ⟨M, h1, h2, h3⟩ := h
  exact ⟨M, h1, h2.lo (fun _ _ => trivial), h3⟩
def EP1 (w : World) (b : BR) (e : Ending) (w' : World) : Prop :=
  ∃ M, e = .returned (.agg (dbC b M).toArray) ∧ (kD b.r M).P w' ∧ Below w.heap.size w w'
theorem plain' {w : World} {A B : Option Addr} {c d n m : Nat} {L N : List Int} (al : Bool) (l ph : Int) (hA : RD w tt 1 A n (L.map (Value.int .i64))) (hB : RD w tt 1 B m (N.map (Value.int .i64))) (hL : L.length = n) (hN : N.length = m) (h1 : n ≤ 40) (h2 : m ≤ 40) :
    Calls Tryd.prog 8 #[.agg (dbI al l A n c B m d ph).toArray] w (EP1 w ⟨al, l, ⟨ofS L, ofS N⟩, ph⟩) := by
  subst hL
  subst hN
  refine (c_plain22 al l ph hA hB (by omega) (by omega)).mono ?_
  rintro e w' ⟨M, rfl, hd, hb⟩
  exact ⟨M, rfl, hd.lo (fun _ _ => trivial), hb⟩
theorem from' (b : BR) (W : World) (h : TabD W) : Calls Tryd.prog 19 #[.agg (brC b).toArray] W (EP1 W b) := by
  refine (c_from22 b W h).mono ?_
  rintro e w' ⟨M, rfl, hd, hb⟩
  exact ⟨M, rfl, hd.lo (fun _ _ => trivial), hb⟩
theorem small' (al : Bool) (l ph : Int) (A : Option Addr) (n c : Nat) (B : Option Addr) (m d : Nat) : ∃ q : Bool, (q = true → n ≤ 40 ∧ m ≤ 40) ∧ ∀ W, Calls Tryd.prog 6 #[.agg (dbI al l A n c B m d ph).toArray] W (Ans (.bool q) W) := by
  refine ⟨_, ?_, fun W => c_small22 al l ph A n c B m d W⟩
  intro h
  rw [Bool.and_eq_true, decide_eq_true_iff, decide_eq_true_iff] at h
  exact h
theorem pairNew (al : Bool) (l : Int) : ∃ (R : BR) (x : Int), (∀ W, Calls Tryd.prog 10 #[.agg (cfC al l).toArray] W (Ans (.tuple #[.agg (brC R).toArray, .int .i64 x]) W)) ∧
    (∀ W, Calls Tryd.prog 11 #[.agg (cfC al l).toArray] W (EP W R (.int .i64 x))) := by
  refine ⟨_, _, fun W => c_brnew al l W, fun W => (c_vnew al l W).mono ?_⟩
  rintro e w' ⟨rfl, hb⟩
  refine ⟨DM.nil, rfl, ?_, hb⟩
  show DW w' tt (brNew al l).r DM.nil
  cases h : phFine 0 l
  · rw [new_no al h]
    exact DW.nil _ _
  · rw [new_ok al h]
    exact DW.nil _ _
theorem pairCheck (al : Bool) (l : Int) : ∃ x : Int, (∀ W, Calls Tryd.prog 24 #[.agg (cfC al l).toArray] W (Ans (.int .i64 x) W)) ∧ (∀ W, Calls Tryd.prog 25 #[.agg (cfC al l).toArray] W (Ans (.int .i64 x) W)) :=
  ⟨_, fun W => c_brcheck al l W, fun W => c_vcheck al l W⟩
theorem pairEnrol (b : BR) (p : Int) : ∃ (R : BR) (x : Int), (∀ W, TabD W → Calls Tryd.prog 12 #[.agg (brC b).toArray, .int .i64 p] W (Ans (.tuple #[.agg (brC R).toArray, .int .i64 x]) W)) ∧
    (∀ W M, (kD b.r M).P W → Calls Tryd.prog 13 #[.agg (dbC b M).toArray, .int .i64 p] W (EP W R (.int .i64 x))) :=
  ⟨_, _, fun W h => c_brenrol b p W h, fun _ _ h => (c_venrol (pl := tt) h p).mono fun _ _ h => h.weak⟩
theorem pairResign (b : BR) (p : Int) : ∃ (R : BR) (x : Int), (∀ W, TabD W → Calls Tryd.prog 14 #[.agg (brC b).toArray, .int .i64 p] W (Ans (.tuple #[.agg (brC R).toArray, .int .i64 x]) W)) ∧
    (∀ W M, (kD b.r M).P W → Calls Tryd.prog 15 #[.agg (dbC b M).toArray, .int .i64 p] W (EP W R (.int .i64 x))) :=
  ⟨_, _, fun W h => c_brresign b p W h, fun _ _ h => (c_vresign (pl := tt) h p).mono fun _ _ h => h.weak⟩
theorem pairOffer (b : BR) (p : Int) (alt : Bool) : ∃ (R : BR) (x : Int), (∀ W, TabD W → Calls Tryd.prog 16 #[.agg (brC b).toArray, .int .i64 p, .bool alt] W (Ans (.tuple #[.agg (brC R).toArray, .int .i64 x]) W)) ∧
    (∀ W M, (kD b.r M).P W → Calls Tryd.prog 17 #[.agg (dbC b M).toArray, .int .i64 p, .bool alt] W (EP W R (.int .i64 x))) :=
  ⟨_, _, fun W h => c_broffer b p alt W h, fun _ _ h => (c_voffer (pl := tt) h p alt).mono fun _ _ h => h.weak⟩
theorem pairWith (b : BR) (p : Int) : ∃ R : BR, (∀ W, TabD W → Calls Tryd.prog 20 #[.agg (brC b).toArray, .int .i64 p] W (Ans (.agg (brC R).toArray) W)) ∧
    (∀ W M, (kD b.r M).P W → Calls Tryd.prog 21 #[.agg (dbC b M).toArray, .int .i64 p] W (EP1 W R)) := by
  refine ⟨_, fun W h => c_brwith b p W h, fun _ _ h => (c_vwith (pl := tt) h p).mono ?_⟩
  rintro e w' ⟨M, rfl, hd, hb⟩
  exact ⟨M, rfl, hd.lo (fun _ _ => trivial), hb⟩
theorem pairFine (b : BR) : ∃ q : Bool, (∀ W, TabD W → Calls Tryd.prog 22 #[.agg (brC b).toArray] W (Ans (.bool q) W)) ∧ (∀ W M, (kD b.r M).P W → Calls Tryd.prog 23 #[.agg (dbC b M).toArray] W (Ans (.bool q) W)) :=
  ⟨_, fun W h => c_brfine b W h, fun _ _ h => c_vfine (pl := tt) h⟩
theorem pairReady (b : BR) : ∃ q : Bool, (∀ W, TabD W → Calls Tryd.prog 28 #[.agg (brC b).toArray] W (Ans (.bool q) W)) ∧ (∀ W M, (kD b.r M).P W → Calls Tryd.prog 29 #[.agg (dbC b M).toArray] W (Ans (.bool q) W)) :=
  ⟨_, fun W h => c_brready b W h, fun _ _ h => c_vready (pl := tt) h⟩
def FP (w : World) (b : BR) (L : List Int) (x : Int) (e : Ending) (w' : World) : Prop :=
  ∃ A c, e = .returned (.tuple #[.agg (brC b).toArray, .slice A L.length c, .int .i64 x]) ∧ (kR A L.length L).P w' ∧ Below w.heap.size w w'
def FE (w : World) (b : BR) (L : List Int) (x : Int) (e : Ending) (w' : World) : Prop :=
  ∃ M A c, e = .returned (.tuple #[.agg (dbC b M).toArray, .slice A L.length c, .int .i64 x]) ∧ (kD b.r M).P w' ∧ (kR A L.length L).P w' ∧ Below w.heap.size w w'
theorem pairFire (b : BR) : ∃ (R : BR) (L : List Int) (x : Int), L.length ≤ 256 ∧ (∀ W, TabD W → Calls Tryd.prog 26 #[.agg (brC b).toArray] W (FP W R L x)) ∧ (∀ W M, (kD b.r M).P W → Calls Tryd.prog 27 #[.agg (dbC b M).toArray] W (FE W R L x)) := by
  refine ⟨(brFire b).1, (brFire b).2.1, (brFire b).2.2, ?_, fun W h => (c_brfire b W h).mono ?_, fun W M h => (c_vfire (pl := tt) h).mono ?_⟩
  · unfold brFire
    split
    · simp
    · split
      · simp
      · exact len_le b.r.a
  · rintro e w' ⟨A, c, rfl, hr, hb⟩
    exact ⟨A, c, rfl, hr.lo (fun _ _ => trivial), hb⟩
  · rintro e w' ⟨M, A, c, rfl, hd, hr, hb⟩
    exact ⟨M, A, c, rfl, hd.lo (fun _ _ => trivial), hr.lo (fun _ _ => trivial), hb⟩
theorem sameL {W : World} {A B : Option Addr} {c d : Nat} {L : List Int} (h : (kR A L.length L).P W) (k : (kR B L.length L).P W) (hl : L.length ≤ 256) :
    Calls Tryd.prog 30 #[.slice A L.length c, .slice B L.length d] W (Ans (.bool true) W) :=
  (c_same (zs := L) (pl' := tt) h k (by omega)).mono fun _ _ h => ⟨h.1, h.2.below⟩
theorem same' {W : World} {b : BR} {M N : DM} (h : (kD b.r M).P W) (k : (kD b.r N).P W) : Calls Tryd.prog 18 #[.agg (dbC b M).toArray, .agg (dbC b N).toArray] W (Ans (.bool true) W) := c_same22 (pl := tt) (pl' := tt) h k
theorem to' {W : World} {b : BR} {M : DM} (h : (kD b.r M).P W) : Calls Tryd.prog 9 #[.agg (dbC b M).toArray] W (Ans (.agg (brC b).toArray) W) := c_to22 (pl := tt) h

set_option maxRecDepth 100000 in
set_option maxHeartbeats 16000000 in
theorem l_bacts {w : World} {A B : Option Addr} {c d n m : Nat} {L N : List Int} (al : Bool) (l ph : Int) (hA : RD w tt 1 A n (L.map (Value.int .i64))) (hB : RD w tt 1 B m (N.map (Value.int .i64))) (hL : L.length = n) (hN : N.length = m) (p : Int) (alt : Bool) (hT : TabD w) :
    Calls Tryd.prog 3 #[.agg (dbI al l A n c B m d ph).toArray, .int .i64 p, .bool alt] w fun e w' => e = .returned (.bool true) ∧ Below w.heap.size w w' := by
  have hX := bx1 w (dbI al l A n c B m d ph) 28
  have HT := Lib.hid (fun W (hW : Below w.heap.size w W) => hT.up hW)
  generalize hw1 : w.alloc (.cells (dbI al l A n c B m d ph).toArray 28) = w1 at hX
  have HW := Lib.hid (show w.alloc (.cells #[.bool al, .int .i64 l, .slice A n c, .slice B m d, .int .i64 ph] 28) = w1 from hw1)
  have HS : Hid (Mm w [(w.heap.size, dbI al l A n c B m d ph, 28)] [] w1) := Lib.hid ((Mm.nil hX.up).var hX.box)
  have CP := Lib.hid (fun W (hW : Below w.heap.size w W) h1 h2 => plain' (c := c) (d := d) al l ph (hA.below hW) (hB.below hW) hL hN h1 h2)
  generalize (⟨al, l, ⟨ofS L, ofS N⟩, ph⟩ : BR) = b at CP
  obtain ⟨q, hq, hs⟩ := small' al l ph A n c B m d
  have CS := Lib.hid hs
  clear hA hB hL hN hT hX hw1 hs
  cases q
  case false =>
    clear CP hq
    go_enter Tryd.func3, Tryd.ntmps3
    go_upto_region 1 with fail
    rw [HW.out]
    go_wp2_with (refine ldr (b := w.heap.size) (t := 28) (cs := dbI al l A n c B m d ph) (.tmp 3) rfl rfl Tryd.underlying28 rfl info_db rfl ?_ ?_; (· exact HS.out.ka 0 rfl))
    refine (CS.out _).mono ?_; rintro e w2 ⟨rfl, hb⟩
    have HS := Lib.hid (HS.out.next hb)
    clear hb
    go_wp2_with fail
    refine (c_alive22 _ (HT.out _ HS.out.up)).mono ?_; rintro e w3 ⟨rfl, hb⟩
    go_wp2
    go_ret
    exact ⟨rfl, up_trans HS.out.up hb⟩
  have CP := Lib.hid (fun W hW => CP.out W hW (hq rfl).1 (hq rfl).2)
  clear hq
  obtain ⟨R0, x0, p0, d0⟩ := pairNew al l
  obtain ⟨R1, x1, p1, d1⟩ := pairEnrol b p
  obtain ⟨R2, x2, p2, d2⟩ := pairResign b p
  obtain ⟨R3, x3, p3, d3⟩ := pairOffer b p alt
  obtain ⟨R4, p4, d4⟩ := pairWith b p
  obtain ⟨q, p5, d5⟩ := pairFine b
  obtain ⟨x6, p6, d6⟩ := pairCheck al l
  have P0 := Lib.hid p0
  have D0 := Lib.hid d0
  have P1 := Lib.hid p1
  have D1 := Lib.hid d1
  have P2 := Lib.hid p2
  have D2 := Lib.hid d2
  have P3 := Lib.hid p3
  have D3 := Lib.hid d3
  have P4 := Lib.hid p4
  have D4 := Lib.hid d4
  have P5 := Lib.hid p5
  have D5 := Lib.hid d5
  have P6 := Lib.hid p6
  have D6 := Lib.hid d6
  have g0 : (x0 == x0) = true := beq_self_eq_true _
  have g1 : (x1 == x1) = true := beq_self_eq_true _
  have g2 : (x2 == x2) = true := beq_self_eq_true _
  have g3 : (x3 == x3) = true := beq_self_eq_true _
  have g5 : (q == q) = true := beq_self_eq_true _
  have g6 : (x6 == x6) = true := beq_self_eq_true _
  clear p0 p1 p2 p3 p4 p5 p6 d0 d1 d2 d3 d4 d5 d6
  go_enter Tryd.func3, Tryd.ntmps3
  go_upto_region 1 with fail
  rw [HW.out]
  go_wp2_with (refine ldr (b := w.heap.size) (t := 28) (cs := dbI al l A n c B m d ph) (.tmp 3) rfl rfl Tryd.underlying28 rfl info_db rfl ?_ ?_; (· exact HS.out.ka 0 rfl))
  refine (CS.out _).mono ?_; rintro e w2 ⟨rfl, hb⟩
  have HS := Lib.hid (HS.out.next hb)
  clear hb
  generalize hbx : w.heap.size = bw at HS ⊢
  clear hbx
  go_wp2_with (refine ldr (b := bw) (t := 28) (cs := dbI al l A n c B m d ph) (.tmp 3) rfl rfl Tryd.underlying28 rfl info_db rfl ?_ ?_; (· exact HS.out.ka 0 rfl))
  refine (CP.out _ HS.out.up).mono ?_; rintro e w3 ⟨M, rfl, hd, hb⟩
  have HS := Lib.hid (((HS.out.next hb).fact (kD b.r M) hd).new (dbC b M) 28)
  clear hb hd
  go_wp2_with (first | (refine snr (W := w3) (cs := dbC b M) (zs := dbZ) (t := 28) (.tmp 7) (.tmp 30) rfl rfl rfl rfl info_db rfl dbC_one ?_ ?_ ?_; (· rfl); (· rfl)) | (refine ldr (b := w3.heap.size) (t := 28) (cs := dbC b M) (.tmp 7) rfl rfl Tryd.underlying28 rfl info_db rfl ?_ ?_; (· exact HS.out.ka 0 rfl)))
  refine (to' (HS.out.da 0 rfl)).mono ?_; rintro e w4 ⟨rfl, hb⟩
  have HS := Lib.hid ((HS.out.next hb).new (brC b) 38)
  clear hb
  generalize hbx : w3.heap.size = bw3 at HS ⊢
  clear hbx
  go_wp2_with (first | (refine snr (W := w4) (cs := brC b) (zs := brZ) (t := 38) (.tmp 8) (.tmp 32) rfl rfl rfl rfl info_bar rfl brC_one ?_ ?_ ?_; (· rfl); (· rfl)) | (refine lmr (b := bw) (q := 0) (cs := cfC al l) (.tmp 34) rfl rfl Tryd.underlying23 rfl info_conf rfl ?_ ?_; (· exact (HS.out.ka 2 rfl).part 0 2 rfl)))
  refine (P0.out _).mono ?_; rintro e w5 ⟨rfl, hb⟩
  have HS := Lib.hid ((HS.out.next hb).new (brC R0) 38)
  clear hb
  generalize hbx : w4.heap.size = bw4 at HS ⊢
  clear hbx
  go_wp2_with (first | (refine snr (W := w5) (cs := brC R0) (zs := brZ) (t := 38) (.tmp 9) (.tmp 37) rfl rfl rfl rfl info_bar rfl brC_one ?_ ?_ ?_; (· rfl); (· rfl)) | (refine lmr (b := bw) (q := 0) (cs := cfC al l) (.tmp 40) rfl rfl Tryd.underlying23 rfl info_conf rfl ?_ ?_; (· exact (HS.out.ka 3 rfl).part 0 2 rfl)))
  refine (D0.out _).mono ?_; rintro e w6 ⟨M0, rfl, hd, hb⟩
  have HS := Lib.hid (((HS.out.next hb).fact (kD R0.r M0) hd).new (dbC R0 M0) 28)
  clear hb hd
  generalize hbx : w5.heap.size = bw5 at HS ⊢
  clear hbx
  go_wp2_with (first | (refine snr (W := w6) (cs := dbC R0 M0) (zs := dbZ) (t := 28) (.tmp 11) (.tmp 43) rfl rfl rfl rfl info_db rfl dbC_one ?_ ?_ ?_; (· rfl); (· rfl)) | (refine ldr (b := bw4) (t := 38) (cs := brC b) (.tmp 8) rfl rfl Tryd.underlying38 rfl info_bar rfl ?_ ?_; (· exact HS.out.ka 2 rfl)))
  refine (P1.out _ (HT.out _ HS.out.up)).mono ?_; rintro e w7 ⟨rfl, hb⟩
  have HS := Lib.hid ((HS.out.next hb).new (brC R1) 38)
  clear hb
  generalize hbx : w6.heap.size = bw6 at HS ⊢
  clear hbx
  go_wp2_with (first | (refine snr (W := w7) (cs := brC R1) (zs := brZ) (t := 38) (.tmp 13) (.tmp 49) rfl rfl rfl rfl info_bar rfl brC_one ?_ ?_ ?_; (· rfl); (· rfl)) | (refine ldr (b := bw3) (t := 28) (cs := dbC b M) (.tmp 7) rfl rfl Tryd.underlying28 rfl info_db rfl ?_ ?_; (· exact HS.out.ka 4 rfl)))
  refine (D1.out _ _ (HS.out.da 1 rfl)).mono ?_; rintro e w8 ⟨M1, rfl, hd, hb⟩
  have HS := Lib.hid (((HS.out.next hb).fact (kD R1.r M1) hd).new (dbC R1 M1) 28)
  clear hb hd
  generalize hbx : w7.heap.size = bw7 at HS ⊢
  clear hbx
  go_wp2_with (first | (refine snr (W := w8) (cs := dbC R1 M1) (zs := dbZ) (t := 28) (.tmp 15) (.tmp 55) rfl rfl rfl rfl info_db rfl dbC_one ?_ ?_ ?_; (· rfl); (· rfl)) | (refine ldr (b := bw4) (t := 38) (cs := brC b) (.tmp 8) rfl rfl Tryd.underlying38 rfl info_bar rfl ?_ ?_; (· exact HS.out.ka 4 rfl)))
  refine (P2.out _ (HT.out _ HS.out.up)).mono ?_; rintro e w9 ⟨rfl, hb⟩
  have HS := Lib.hid ((HS.out.next hb).new (brC R2) 38)
  clear hb
  generalize hbx : w8.heap.size = bw8 at HS ⊢
  clear hbx
  go_wp2_with (first | (refine snr (W := w9) (cs := brC R2) (zs := brZ) (t := 38) (.tmp 17) (.tmp 61) rfl rfl rfl rfl info_bar rfl brC_one ?_ ?_ ?_; (· rfl); (· rfl)) | (refine ldr (b := bw3) (t := 28) (cs := dbC b M) (.tmp 7) rfl rfl Tryd.underlying28 rfl info_db rfl ?_ ?_; (· exact HS.out.ka 6 rfl)))
  refine (D2.out _ _ (HS.out.da 2 rfl)).mono ?_; rintro e w10 ⟨M2, rfl, hd, hb⟩
  have HS := Lib.hid (((HS.out.next hb).fact (kD R2.r M2) hd).new (dbC R2 M2) 28)
  clear hb hd
  generalize hbx : w9.heap.size = bw9 at HS ⊢
  clear hbx
  go_wp2_with (first | (refine snr (W := w10) (cs := dbC R2 M2) (zs := dbZ) (t := 28) (.tmp 19) (.tmp 67) rfl rfl rfl rfl info_db rfl dbC_one ?_ ?_ ?_; (· rfl); (· rfl)) | (refine ldr (b := bw4) (t := 38) (cs := brC b) (.tmp 8) rfl rfl Tryd.underlying38 rfl info_bar rfl ?_ ?_; (· exact HS.out.ka 6 rfl)))
  refine (P3.out _ (HT.out _ HS.out.up)).mono ?_; rintro e w11 ⟨rfl, hb⟩
  have HS := Lib.hid ((HS.out.next hb).new (brC R3) 38)
  clear hb
  generalize hbx : w10.heap.size = bw10 at HS ⊢
  clear hbx
  go_wp2_with (first | (refine snr (W := w11) (cs := brC R3) (zs := brZ) (t := 38) (.tmp 21) (.tmp 74) rfl rfl rfl rfl info_bar rfl brC_one ?_ ?_ ?_; (· rfl); (· rfl)) | (refine ldr (b := bw3) (t := 28) (cs := dbC b M) (.tmp 7) rfl rfl Tryd.underlying28 rfl info_db rfl ?_ ?_; (· exact HS.out.ka 8 rfl)))
  refine (D3.out _ _ (HS.out.da 3 rfl)).mono ?_; rintro e w12 ⟨M3, rfl, hd, hb⟩
  have HS := Lib.hid (((HS.out.next hb).fact (kD R3.r M3) hd).new (dbC R3 M3) 28)
  clear hb hd
  generalize hbx : w11.heap.size = bw11 at HS ⊢
  clear hbx
  go_wp2_with (refine snr (W := w12) (cs := dbC R3 M3) (zs := dbZ) (t := 28) (.tmp 23) (.tmp 81) rfl rfl rfl rfl info_db rfl dbC_one ?_ ?_ ?_; (· rfl); (· rfl))
  generalize hbx : w12.heap.size = bw12 at HS ⊢
  clear hbx
  generalize w12.alloc (.cells (dbC R3 M3).toArray 28) = wz at HS ⊢
  refine wp_region_held_drew (S := Mm w [(bw12, dbC R3 M3, 28), (bw11, brC R3, 38), (bw10, dbC R2 M2, 28), (bw9, brC R2, 38), (bw8, dbC R1 M1, 28), (bw7, brC R1, 38), (bw6, dbC R0 M0, 28), (bw5, brC R0, 38), (bw4, brC b, 38), (bw3, dbC b M, 28), (bw, dbI al l A n c B m d ph, 28)] [kD R3.r M3, kD R2.r M2, kD R1.r M1, kD R0.r M0, kD b.r M]) (by kernel_rfl) (HS.out.next (up_drewN _ 1)) (fun hHeld => ?_)
  simp only [List.append_eq, List.cons_append, List.nil_append]
  refine wpAnyH_take (i := 0) (oi := ?_) (v := (.agg (brC R0).toArray)) ?_ (by kernel_rfl) (by kernel_rfl) (by kernel_rfl) ?_ (Or.inl ⟨?_, ?_⟩) hHeld ?_
  rotate_left 1
  · conv => lhs; simp only [List.getElem?_toArray, List.getElem?_cons_succ, List.getElem?_cons_zero]
  · exact fun _ _ _ h => h
  · rfl
  · intro W hSw
    exact tk_load rfl rfl (load_row (hSw.ka 7 rfl) Tryd.underlying38 rfl info_bar)
  try simp only [Act.put, List.setIfInBounds_toArray, List.set_cons_zero, List.set_cons_succ]
  refine wpAnyH_take (i := 2) (oi := ?_) (v := (.agg (dbC R0 M0).toArray)) ?_ (by kernel_rfl) (by kernel_rfl) (by kernel_rfl) ?_ (Or.inl ⟨?_, ?_⟩) hHeld ?_
  rotate_left 1
  · conv => lhs; simp only [List.getElem?_toArray, List.getElem?_cons_succ, List.getElem?_cons_zero]
  · exact fun _ _ _ h => h
  · rfl
  · intro W hSw
    exact tk_load rfl rfl (load_row (hSw.ka 6 rfl) Tryd.underlying28 rfl info_db)
  try simp only [Act.put, List.setIfInBounds_toArray, List.set_cons_zero, List.set_cons_succ]
  refine wpAnyH_ready (rs := [1]) (by kernel_rfl) (by simp) ?_
  refine AllReadyH.cons (o := ?_) ?_ (fun K hK => ?_) AllReadyH.nil
  rotate_left 1
  · conv => lhs; simp only [List.getElem?_toArray, List.getElem?_cons_succ, List.getElem?_cons_zero]
  go_simp
  refine (from' R0 _ (HT.out _ hHeld.up)).mono ?_
  rintro e u0 ⟨MF, rfl, hd, hb⟩
  have HD := Lib.hid hd
  clear hd
  go_wp2_with fail
  refine hK.out _ _ (hHeld.next hb) (fun hHeld => ?_)
  clear hK K
  try simp only [Act.put, List.setIfInBounds_toArray, List.set_cons_zero, List.set_cons_succ]
  refine wpAnyH_ready (rs := [3]) (by kernel_rfl) (by simp) ?_
  refine AllReadyH.cons (o := ?_) ?_ (fun K hK => ?_) AllReadyH.nil
  rotate_left 1
  · conv => lhs; simp only [List.getElem?_toArray, List.getElem?_cons_succ, List.getElem?_cons_zero]
  go_simp
  refine (same' HD.out (hHeld.da 3 rfl)).mono ?_
  rintro e v0 ⟨rfl, hb⟩
  go_wp2_with fail
  refine hK.out _ _ (hHeld.next hb) (fun hHeld => ?_)
  clear hK K
  try simp only [Act.put, List.setIfInBounds_toArray, List.set_cons_zero, List.set_cons_succ]
  clear HD
  refine wpAnyH_take (i := 4) (oi := ?_) (v := ?_) ?_ (by kernel_rfl) (by kernel_rfl) (by kernel_rfl) ?_ (Or.inl ⟨?_, ?_⟩) hHeld ?_
  rotate_left 2
  · conv => lhs; simp only [List.getElem?_toArray, List.getElem?_cons_succ, List.getElem?_cons_zero]
  · exact fun _ _ _ h => h
  · rfl
  · intro W hSw
    go_simp
    try with_reducible rfl
  try simp only [Act.put, List.setIfInBounds_toArray, List.set_cons_zero, List.set_cons_succ]
  refine wpAnyH_take (i := 5) (oi := ?_) (v := ?_) ?_ (by kernel_rfl) (by kernel_rfl) (by kernel_rfl) ?_ (Or.inl ⟨?_, ?_⟩) hHeld ?_
  rotate_left 2
  · conv => lhs; simp only [List.getElem?_toArray, List.getElem?_cons_succ, List.getElem?_cons_zero]
  · exact fun _ _ _ h => h
  · rfl
  · intro W hSw
    go_simp
    try with_reducible rfl
  try simp only [Act.put, List.setIfInBounds_toArray, List.set_cons_zero, List.set_cons_succ]
  refine wpAnyH_take (i := 6) (oi := ?_) (v := ?_) ?_ (by kernel_rfl) (by kernel_rfl) (by kernel_rfl) ?_ (Or.inl ⟨?_, ?_⟩) hHeld ?_
  rotate_left 2
  · conv => lhs; simp only [List.getElem?_toArray, List.getElem?_cons_succ, List.getElem?_cons_zero]
  · exact fun _ _ _ h => h
  · rfl
  · intro W hSw
    go_simp
    try with_reducible rfl
  try simp only [Act.put, List.setIfInBounds_toArray, List.set_cons_zero, List.set_cons_succ]
  refine wpAnyH_take (i := 7) (oi := ?_) (v := ?_) ?_ (by kernel_rfl) (by kernel_rfl) (by kernel_rfl) ?_ (Or.inl ⟨?_, ?_⟩) hHeld ?_
  rotate_left 2
  · conv => lhs; simp only [List.getElem?_toArray, List.getElem?_cons_succ, List.getElem?_cons_zero]
  · exact fun _ _ _ h => h
  · rfl
  · intro W hSw
    go_simp
    try with_reducible rfl
  try simp only [Act.put, List.setIfInBounds_toArray, List.set_cons_zero, List.set_cons_succ]
  refine wpAnyH_take (i := 8) (oi := ?_) (v := ?_) ?_ (by kernel_rfl) (by kernel_rfl) (by kernel_rfl) ?_ (Or.inl ⟨?_, ?_⟩) hHeld ?_
  rotate_left 2
  · conv => lhs; simp only [List.getElem?_toArray, List.getElem?_cons_succ, List.getElem?_cons_zero]
  · exact fun _ _ _ h => h
  · rfl
  · intro W hSw
    go_simp
    try with_reducible rfl
  try simp only [Act.put, List.setIfInBounds_toArray, List.set_cons_zero, List.set_cons_succ]
  refine wpAnyH_take (i := 9) (oi := ?_) (v := ?_) ?_ (by kernel_rfl) (by kernel_rfl) (by kernel_rfl) ?_ (Or.inl ⟨?_, ?_⟩) hHeld ?_
  rotate_left 2
  · conv => lhs; simp only [List.getElem?_toArray, List.getElem?_cons_succ, List.getElem?_cons_zero]
  · exact fun _ _ _ h => h
  · rfl
  · intro W hSw
    go_simp
    try with_reducible rfl
  try simp only [Act.put, List.setIfInBounds_toArray, List.set_cons_zero, List.set_cons_succ]
  refine wpAnyH_take (i := 10) (oi := ?_) (v := (.agg (brC R1).toArray)) ?_ (by kernel_rfl) (by kernel_rfl) (by kernel_rfl) ?_ (Or.inl ⟨?_, ?_⟩) hHeld ?_
  rotate_left 1
  · conv => lhs; simp only [List.getElem?_toArray, List.getElem?_cons_succ, List.getElem?_cons_zero]
  · exact fun _ _ _ h => h
  · rfl
  · intro W hSw
    exact tk_load rfl rfl (load_row (hSw.ka 5 rfl) Tryd.underlying38 rfl info_bar)
  try simp only [Act.put, List.setIfInBounds_toArray, List.set_cons_zero, List.set_cons_succ]
  refine wpAnyH_take (i := 12) (oi := ?_) (v := (.agg (dbC R1 M1).toArray)) ?_ (by kernel_rfl) (by kernel_rfl) (by kernel_rfl) ?_ (Or.inl ⟨?_, ?_⟩) hHeld ?_
  rotate_left 1
  · conv => lhs; simp only [List.getElem?_toArray, List.getElem?_cons_succ, List.getElem?_cons_zero]
  · exact fun _ _ _ h => h
  · rfl
  · intro W hSw
    exact tk_load rfl rfl (load_row (hSw.ka 4 rfl) Tryd.underlying28 rfl info_db)
  try simp only [Act.put, List.setIfInBounds_toArray, List.set_cons_zero, List.set_cons_succ]
  refine wpAnyH_ready (rs := [11]) (by kernel_rfl) (by simp) ?_
  refine AllReadyH.cons (o := ?_) ?_ (fun K hK => ?_) AllReadyH.nil
  rotate_left 1
  · conv => lhs; simp only [List.getElem?_toArray, List.getElem?_cons_succ, List.getElem?_cons_zero]
  go_simp
  refine (from' R1 _ (HT.out _ hHeld.up)).mono ?_
  rintro e u1 ⟨MF, rfl, hd, hb⟩
  have HD := Lib.hid hd
  clear hd
  go_wp2_with fail
  refine hK.out _ _ (hHeld.next hb) (fun hHeld => ?_)
  clear hK K
  try simp only [Act.put, List.setIfInBounds_toArray, List.set_cons_zero, List.set_cons_succ]
  refine wpAnyH_ready (rs := [13]) (by kernel_rfl) (by simp) ?_
  refine AllReadyH.cons (o := ?_) ?_ (fun K hK => ?_) AllReadyH.nil
  rotate_left 1
  · conv => lhs; simp only [List.getElem?_toArray, List.getElem?_cons_succ, List.getElem?_cons_zero]
  go_simp
  refine (same' HD.out (hHeld.da 2 rfl)).mono ?_
  rintro e v1 ⟨rfl, hb⟩
  go_wp2_with fail
  refine hK.out _ _ (hHeld.next hb) (fun hHeld => ?_)
  clear hK K
  try simp only [Act.put, List.setIfInBounds_toArray, List.set_cons_zero, List.set_cons_succ]
  clear HD
  refine wpAnyH_take (i := 14) (oi := ?_) (v := ?_) ?_ (by kernel_rfl) (by kernel_rfl) (by kernel_rfl) ?_ (Or.inl ⟨?_, ?_⟩) hHeld ?_
  rotate_left 2
  · conv => lhs; simp only [List.getElem?_toArray, List.getElem?_cons_succ, List.getElem?_cons_zero]
  · exact fun _ _ _ h => h
  · rfl
  · intro W hSw
    go_simp
    try with_reducible rfl
  try simp only [Act.put, List.setIfInBounds_toArray, List.set_cons_zero, List.set_cons_succ]
  refine wpAnyH_take (i := 15) (oi := ?_) (v := ?_) ?_ (by kernel_rfl) (by kernel_rfl) (by kernel_rfl) ?_ (Or.inl ⟨?_, ?_⟩) hHeld ?_
  rotate_left 2
  · conv => lhs; simp only [List.getElem?_toArray, List.getElem?_cons_succ, List.getElem?_cons_zero]
  · exact fun _ _ _ h => h
  · rfl
  · intro W hSw
    go_simp
    try with_reducible rfl
  try simp only [Act.put, List.setIfInBounds_toArray, List.set_cons_zero, List.set_cons_succ]
  refine wpAnyH_take (i := 16) (oi := ?_) (v := ?_) ?_ (by kernel_rfl) (by kernel_rfl) (by kernel_rfl) ?_ (Or.inl ⟨?_, ?_⟩) hHeld ?_
  rotate_left 2
  · conv => lhs; simp only [List.getElem?_toArray, List.getElem?_cons_succ, List.getElem?_cons_zero]
  · exact fun _ _ _ h => h
  · rfl
  · intro W hSw
    go_simp
    try with_reducible rfl
  try simp only [Act.put, List.setIfInBounds_toArray, List.set_cons_zero, List.set_cons_succ]
  refine wpAnyH_take (i := 17) (oi := ?_) (v := ?_) ?_ (by kernel_rfl) (by kernel_rfl) (by kernel_rfl) ?_ (Or.inl ⟨?_, ?_⟩) hHeld ?_
  rotate_left 2
  · conv => lhs; simp only [List.getElem?_toArray, List.getElem?_cons_succ, List.getElem?_cons_zero]
  · exact fun _ _ _ h => h
  · rfl
  · intro W hSw
    go_simp
    try with_reducible rfl
  try simp only [Act.put, List.setIfInBounds_toArray, List.set_cons_zero, List.set_cons_succ]
  refine wpAnyH_take (i := 18) (oi := ?_) (v := ?_) ?_ (by kernel_rfl) (by kernel_rfl) (by kernel_rfl) ?_ (Or.inl ⟨?_, ?_⟩) hHeld ?_
  rotate_left 2
  · conv => lhs; simp only [List.getElem?_toArray, List.getElem?_cons_succ, List.getElem?_cons_zero]
  · exact fun _ _ _ h => h
  · rfl
  · intro W hSw
    go_simp
    try with_reducible rfl
  try simp only [Act.put, List.setIfInBounds_toArray, List.set_cons_zero, List.set_cons_succ]
  refine wpAnyH_take (i := 19) (oi := ?_) (v := ?_) ?_ (by kernel_rfl) (by kernel_rfl) (by kernel_rfl) ?_ (Or.inl ⟨?_, ?_⟩) hHeld ?_
  rotate_left 2
  · conv => lhs; simp only [List.getElem?_toArray, List.getElem?_cons_succ, List.getElem?_cons_zero]
  · exact fun _ _ _ h => h
  · rfl
  · intro W hSw
    go_simp
    try with_reducible rfl
  try simp only [Act.put, List.setIfInBounds_toArray, List.set_cons_zero, List.set_cons_succ]
  refine wpAnyH_take (i := 20) (oi := ?_) (v := ?_) ?_ (by kernel_rfl) (by kernel_rfl) (by kernel_rfl) ?_ (Or.inl ⟨?_, ?_⟩) hHeld ?_
  rotate_left 2
  · conv => lhs; simp only [List.getElem?_toArray, List.getElem?_cons_succ, List.getElem?_cons_zero]
  · exact fun _ _ _ h => h
  · rfl
  · intro W hSw
    go_simp
    try with_reducible rfl
  try simp only [Act.put, List.setIfInBounds_toArray, List.set_cons_zero, List.set_cons_succ]
  refine wpAnyH_take (i := 21) (oi := ?_) (v := (.agg (brC R2).toArray)) ?_ (by kernel_rfl) (by kernel_rfl) (by kernel_rfl) ?_ (Or.inl ⟨?_, ?_⟩) hHeld ?_
  rotate_left 1
  · conv => lhs; simp only [List.getElem?_toArray, List.getElem?_cons_succ, List.getElem?_cons_zero]
  · exact fun _ _ _ h => h
  · rfl
  · intro W hSw
    exact tk_load rfl rfl (load_row (hSw.ka 3 rfl) Tryd.underlying38 rfl info_bar)
  try simp only [Act.put, List.setIfInBounds_toArray, List.set_cons_zero, List.set_cons_succ]
  refine wpAnyH_take (i := 23) (oi := ?_) (v := (.agg (dbC R2 M2).toArray)) ?_ (by kernel_rfl) (by kernel_rfl) (by kernel_rfl) ?_ (Or.inl ⟨?_, ?_⟩) hHeld ?_
  rotate_left 1
  · conv => lhs; simp only [List.getElem?_toArray, List.getElem?_cons_succ, List.getElem?_cons_zero]
  · exact fun _ _ _ h => h
  · rfl
  · intro W hSw
    exact tk_load rfl rfl (load_row (hSw.ka 2 rfl) Tryd.underlying28 rfl info_db)
  try simp only [Act.put, List.setIfInBounds_toArray, List.set_cons_zero, List.set_cons_succ]
  refine wpAnyH_ready (rs := [22]) (by kernel_rfl) (by simp) ?_
  refine AllReadyH.cons (o := ?_) ?_ (fun K hK => ?_) AllReadyH.nil
  rotate_left 1
  · conv => lhs; simp only [List.getElem?_toArray, List.getElem?_cons_succ, List.getElem?_cons_zero]
  go_simp
  refine (from' R2 _ (HT.out _ hHeld.up)).mono ?_
  rintro e u2 ⟨MF, rfl, hd, hb⟩
  have HD := Lib.hid hd
  clear hd
  go_wp2_with fail
  refine hK.out _ _ (hHeld.next hb) (fun hHeld => ?_)
  clear hK K
  try simp only [Act.put, List.setIfInBounds_toArray, List.set_cons_zero, List.set_cons_succ]
  refine wpAnyH_ready (rs := [24]) (by kernel_rfl) (by simp) ?_
  refine AllReadyH.cons (o := ?_) ?_ (fun K hK => ?_) AllReadyH.nil
  rotate_left 1
  · conv => lhs; simp only [List.getElem?_toArray, List.getElem?_cons_succ, List.getElem?_cons_zero]
  go_simp
  refine (same' HD.out (hHeld.da 1 rfl)).mono ?_
  rintro e v2 ⟨rfl, hb⟩
  go_wp2_with fail
  refine hK.out _ _ (hHeld.next hb) (fun hHeld => ?_)
  clear hK K
  try simp only [Act.put, List.setIfInBounds_toArray, List.set_cons_zero, List.set_cons_succ]
  clear HD
  refine wpAnyH_take (i := 25) (oi := ?_) (v := ?_) ?_ (by kernel_rfl) (by kernel_rfl) (by kernel_rfl) ?_ (Or.inl ⟨?_, ?_⟩) hHeld ?_
  rotate_left 2
  · conv => lhs; simp only [List.getElem?_toArray, List.getElem?_cons_succ, List.getElem?_cons_zero]
  · exact fun _ _ _ h => h
  · rfl
  · intro W hSw
    go_simp
    try with_reducible rfl
  try simp only [Act.put, List.setIfInBounds_toArray, List.set_cons_zero, List.set_cons_succ]
  refine wpAnyH_take (i := 26) (oi := ?_) (v := ?_) ?_ (by kernel_rfl) (by kernel_rfl) (by kernel_rfl) ?_ (Or.inl ⟨?_, ?_⟩) hHeld ?_
  rotate_left 2
  · conv => lhs; simp only [List.getElem?_toArray, List.getElem?_cons_succ, List.getElem?_cons_zero]
  · exact fun _ _ _ h => h
  · rfl
  · intro W hSw
    go_simp
    try with_reducible rfl
  try simp only [Act.put, List.setIfInBounds_toArray, List.set_cons_zero, List.set_cons_succ]
  refine wpAnyH_take (i := 27) (oi := ?_) (v := ?_) ?_ (by kernel_rfl) (by kernel_rfl) (by kernel_rfl) ?_ (Or.inl ⟨?_, ?_⟩) hHeld ?_
  rotate_left 2
  · conv => lhs; simp only [List.getElem?_toArray, List.getElem?_cons_succ, List.getElem?_cons_zero]
  · exact fun _ _ _ h => h
  · rfl
  · intro W hSw
    go_simp
    try with_reducible rfl
  try simp only [Act.put, List.setIfInBounds_toArray, List.set_cons_zero, List.set_cons_succ]
  refine wpAnyH_take (i := 28) (oi := ?_) (v := ?_) ?_ (by kernel_rfl) (by kernel_rfl) (by kernel_rfl) ?_ (Or.inl ⟨?_, ?_⟩) hHeld ?_
  rotate_left 2
  · conv => lhs; simp only [List.getElem?_toArray, List.getElem?_cons_succ, List.getElem?_cons_zero]
  · exact fun _ _ _ h => h
  · rfl
  · intro W hSw
    go_simp
    try with_reducible rfl
  try simp only [Act.put, List.setIfInBounds_toArray, List.set_cons_zero, List.set_cons_succ]
  refine wpAnyH_take (i := 29) (oi := ?_) (v := ?_) ?_ (by kernel_rfl) (by kernel_rfl) (by kernel_rfl) ?_ (Or.inl ⟨?_, ?_⟩) hHeld ?_
  rotate_left 2
  · conv => lhs; simp only [List.getElem?_toArray, List.getElem?_cons_succ, List.getElem?_cons_zero]
  · exact fun _ _ _ h => h
  · rfl
  · intro W hSw
    go_simp
    try with_reducible rfl
  try simp only [Act.put, List.setIfInBounds_toArray, List.set_cons_zero, List.set_cons_succ]
  refine wpAnyH_take (i := 30) (oi := ?_) (v := ?_) ?_ (by kernel_rfl) (by kernel_rfl) (by kernel_rfl) ?_ (Or.inl ⟨?_, ?_⟩) hHeld ?_
  rotate_left 2
  · conv => lhs; simp only [List.getElem?_toArray, List.getElem?_cons_succ, List.getElem?_cons_zero]
  · exact fun _ _ _ h => h
  · rfl
  · intro W hSw
    go_simp
    try with_reducible rfl
  try simp only [Act.put, List.setIfInBounds_toArray, List.set_cons_zero, List.set_cons_succ]
  refine wpAnyH_take (i := 31) (oi := ?_) (v := ?_) ?_ (by kernel_rfl) (by kernel_rfl) (by kernel_rfl) ?_ (Or.inl ⟨?_, ?_⟩) hHeld ?_
  rotate_left 2
  · conv => lhs; simp only [List.getElem?_toArray, List.getElem?_cons_succ, List.getElem?_cons_zero]
  · exact fun _ _ _ h => h
  · rfl
  · intro W hSw
    go_simp
    try with_reducible rfl
  try simp only [Act.put, List.setIfInBounds_toArray, List.set_cons_zero, List.set_cons_succ]
  refine wpAnyH_take (i := 32) (oi := ?_) (v := (.agg (brC R3).toArray)) ?_ (by kernel_rfl) (by kernel_rfl) (by kernel_rfl) ?_ (Or.inl ⟨?_, ?_⟩) hHeld ?_
  rotate_left 1
  · conv => lhs; simp only [List.getElem?_toArray, List.getElem?_cons_succ, List.getElem?_cons_zero]
  · exact fun _ _ _ h => h
  · rfl
  · intro W hSw
    exact tk_load rfl rfl (load_row (hSw.ka 1 rfl) Tryd.underlying38 rfl info_bar)
  try simp only [Act.put, List.setIfInBounds_toArray, List.set_cons_zero, List.set_cons_succ]
  refine wpAnyH_take (i := 34) (oi := ?_) (v := (.agg (dbC R3 M3).toArray)) ?_ (by kernel_rfl) (by kernel_rfl) (by kernel_rfl) ?_ (Or.inl ⟨?_, ?_⟩) hHeld ?_
  rotate_left 1
  · conv => lhs; simp only [List.getElem?_toArray, List.getElem?_cons_succ, List.getElem?_cons_zero]
  · exact fun _ _ _ h => h
  · rfl
  · intro W hSw
    exact tk_load rfl rfl (load_row (hSw.ka 0 rfl) Tryd.underlying28 rfl info_db)
  try simp only [Act.put, List.setIfInBounds_toArray, List.set_cons_zero, List.set_cons_succ]
  refine wpAnyH_ready (rs := [33]) (by kernel_rfl) (by simp) ?_
  refine AllReadyH.cons (o := ?_) ?_ (fun K hK => ?_) AllReadyH.nil
  rotate_left 1
  · conv => lhs; simp only [List.getElem?_toArray, List.getElem?_cons_succ, List.getElem?_cons_zero]
  go_simp
  refine (from' R3 _ (HT.out _ hHeld.up)).mono ?_
  rintro e u3 ⟨MF, rfl, hd, hb⟩
  have HD := Lib.hid hd
  clear hd
  go_wp2_with fail
  refine hK.out _ _ (hHeld.next hb) (fun hHeld => ?_)
  clear hK K
  try simp only [Act.put, List.setIfInBounds_toArray, List.set_cons_zero, List.set_cons_succ]
  refine wpAnyH_ready (rs := [35]) (by kernel_rfl) (by simp) ?_
  refine AllReadyH.cons (o := ?_) ?_ (fun K hK => ?_) AllReadyH.nil
  rotate_left 1
  · conv => lhs; simp only [List.getElem?_toArray, List.getElem?_cons_succ, List.getElem?_cons_zero]
  go_simp
  refine (same' HD.out (hHeld.da 0 rfl)).mono ?_
  rintro e v3 ⟨rfl, hb⟩
  go_wp2_with fail
  refine hK.out _ _ (hHeld.next hb) (fun hHeld => ?_)
  clear hK K
  try simp only [Act.put, List.setIfInBounds_toArray, List.set_cons_zero, List.set_cons_succ]
  clear HD
  refine wpAnyH_take (i := 36) (oi := ?_) (v := ?_) ?_ (by kernel_rfl) (by kernel_rfl) (by kernel_rfl) ?_ (Or.inl ⟨?_, ?_⟩) hHeld ?_
  rotate_left 2
  · conv => lhs; simp only [List.getElem?_toArray, List.getElem?_cons_succ, List.getElem?_cons_zero]
  · exact fun _ _ _ h => h
  · rfl
  · intro W hSw
    go_simp
    try with_reducible rfl
  try simp only [Act.put, List.setIfInBounds_toArray, List.set_cons_zero, List.set_cons_succ]
  refine wpAnyH_take (i := 37) (oi := ?_) (v := ?_) ?_ (by kernel_rfl) (by kernel_rfl) (by kernel_rfl) ?_ (Or.inl ⟨?_, ?_⟩) hHeld ?_
  rotate_left 2
  · conv => lhs; simp only [List.getElem?_toArray, List.getElem?_cons_succ, List.getElem?_cons_zero]
  · exact fun _ _ _ h => h
  · rfl
  · intro W hSw
    go_simp
    try with_reducible rfl
  try simp only [Act.put, List.setIfInBounds_toArray, List.set_cons_zero, List.set_cons_succ]
  refine wpAnyH_take (i := 38) (oi := ?_) (v := ?_) ?_ (by kernel_rfl) (by kernel_rfl) (by kernel_rfl) ?_ (Or.inl ⟨?_, ?_⟩) hHeld ?_
  rotate_left 2
  · conv => lhs; simp only [List.getElem?_toArray, List.getElem?_cons_succ, List.getElem?_cons_zero]
  · exact fun _ _ _ h => h
  · rfl
  · intro W hSw
    go_simp
    try with_reducible rfl
  try simp only [Act.put, List.setIfInBounds_toArray, List.set_cons_zero, List.set_cons_succ]
  refine wpAnyH_take (i := 39) (oi := ?_) (v := ?_) ?_ (by kernel_rfl) (by kernel_rfl) (by kernel_rfl) ?_ (Or.inl ⟨?_, ?_⟩) hHeld ?_
  rotate_left 2
  · conv => lhs; simp only [List.getElem?_toArray, List.getElem?_cons_succ, List.getElem?_cons_zero]
  · exact fun _ _ _ h => h
  · rfl
  · intro W hSw
    go_simp
    try with_reducible rfl
  try simp only [Act.put, List.setIfInBounds_toArray, List.set_cons_zero, List.set_cons_succ]
  refine wpAnyH_take (i := 40) (oi := ?_) (v := ?_) ?_ (by kernel_rfl) (by kernel_rfl) (by kernel_rfl) ?_ (Or.inl ⟨?_, ?_⟩) hHeld ?_
  rotate_left 2
  · conv => lhs; simp only [List.getElem?_toArray, List.getElem?_cons_succ, List.getElem?_cons_zero]
  · exact fun _ _ _ h => h
  · rfl
  · intro W hSw
    go_simp
    try with_reducible rfl
  try simp only [Act.put, List.setIfInBounds_toArray, List.set_cons_zero, List.set_cons_succ]
  refine wpAnyH_take (i := 41) (oi := ?_) (v := ?_) ?_ (by kernel_rfl) (by kernel_rfl) (by kernel_rfl) ?_ (Or.inl ⟨?_, ?_⟩) hHeld ?_
  rotate_left 2
  · conv => lhs; simp only [List.getElem?_toArray, List.getElem?_cons_succ, List.getElem?_cons_zero]
  · exact fun _ _ _ h => h
  · rfl
  · intro W hSw
    go_simp
    try with_reducible rfl
  try simp only [Act.put, List.setIfInBounds_toArray, List.set_cons_zero, List.set_cons_succ]
  refine wpAnyH_take (i := 42) (oi := ?_) (v := ?_) ?_ (by kernel_rfl) (by kernel_rfl) (by kernel_rfl) ?_ (Or.inl ⟨?_, ?_⟩) hHeld ?_
  rotate_left 2
  · conv => lhs; simp only [List.getElem?_toArray, List.getElem?_cons_succ, List.getElem?_cons_zero]
  · exact fun _ _ _ h => h
  · rfl
  · intro W hSw
    go_simp
    try with_reducible rfl
  try simp only [Act.put, List.setIfInBounds_toArray, List.set_cons_zero, List.set_cons_succ]
  refine wpAnyH_take (i := 43) (oi := ?_) (v := (.agg (brC b).toArray)) ?_ (by kernel_rfl) (by kernel_rfl) (by kernel_rfl) ?_ (Or.inl ⟨?_, ?_⟩) hHeld ?_
  rotate_left 1
  · conv => lhs; simp only [List.getElem?_toArray, List.getElem?_cons_succ, List.getElem?_cons_zero]
  · exact fun _ _ _ h => h
  · rfl
  · intro W hSw
    exact tk_load rfl rfl (load_row (hSw.ka 8 rfl) Tryd.underlying38 rfl info_bar)
  try simp only [Act.put, List.setIfInBounds_toArray, List.set_cons_zero, List.set_cons_succ]
  refine wpAnyH_take (i := 44) (oi := ?_) (v := ?_) ?_ (by kernel_rfl) (by kernel_rfl) (by kernel_rfl) ?_ (Or.inl ⟨?_, ?_⟩) hHeld ?_
  rotate_left 2
  · conv => lhs; simp only [List.getElem?_toArray, List.getElem?_cons_succ, List.getElem?_cons_zero]
  · exact fun _ _ _ h => h
  · rfl
  · intro W hSw
    go_simp
    try with_reducible rfl
  try simp only [Act.put, List.setIfInBounds_toArray, List.set_cons_zero, List.set_cons_succ]
  refine wpAnyH_take (i := 47) (oi := ?_) (v := (.agg (dbC b M).toArray)) ?_ (by kernel_rfl) (by kernel_rfl) (by kernel_rfl) ?_ (Or.inl ⟨?_, ?_⟩) hHeld ?_
  rotate_left 1
  · conv => lhs; simp only [List.getElem?_toArray, List.getElem?_cons_succ, List.getElem?_cons_zero]
  · exact fun _ _ _ h => h
  · rfl
  · intro W hSw
    exact tk_load rfl rfl (load_row (hSw.ka 9 rfl) Tryd.underlying28 rfl info_db)
  try simp only [Act.put, List.setIfInBounds_toArray, List.set_cons_zero, List.set_cons_succ]
  refine wpAnyH_take (i := 48) (oi := ?_) (v := ?_) ?_ (by kernel_rfl) (by kernel_rfl) (by kernel_rfl) ?_ (Or.inl ⟨?_, ?_⟩) hHeld ?_
  rotate_left 2
  · conv => lhs; simp only [List.getElem?_toArray, List.getElem?_cons_succ, List.getElem?_cons_zero]
  · exact fun _ _ _ h => h
  · rfl
  · intro W hSw
    go_simp
    try with_reducible rfl
  try simp only [Act.put, List.setIfInBounds_toArray, List.set_cons_zero, List.set_cons_succ]
  refine wpAnyH_ready (rs := [45]) (by kernel_rfl) (by simp) ?_
  refine AllReadyH.cons (o := ?_) ?_ (fun K hK => ?_) AllReadyH.nil
  rotate_left 1
  · conv => lhs; simp only [List.getElem?_toArray, List.getElem?_cons_succ, List.getElem?_cons_zero]
  go_simp
  refine (P4.out _ (HT.out _ hHeld.up)).mono ?_
  rintro e u4 ⟨rfl, hb⟩
  go_wp2_with fail
  refine hK.out _ _ (hHeld.next hb) (fun hHeld => ?_)
  clear hK K
  try simp only [Act.put, List.setIfInBounds_toArray, List.set_cons_zero, List.set_cons_succ]
  refine wpAnyH_ready (rs := [46]) (by kernel_rfl) (by simp) ?_
  refine AllReadyH.cons (o := ?_) ?_ (fun K hK => ?_) AllReadyH.nil
  rotate_left 1
  · conv => lhs; simp only [List.getElem?_toArray, List.getElem?_cons_succ, List.getElem?_cons_zero]
  go_simp
  refine (from' R4 _ (HT.out _ hHeld.up)).mono ?_
  rintro e v4 ⟨MF, rfl, hd, hb⟩
  have HD := Lib.hid hd
  clear hd
  go_wp2_with fail
  refine hK.out _ _ (hHeld.next hb) (fun hHeld => ?_)
  clear hK K
  try simp only [Act.put, List.setIfInBounds_toArray, List.set_cons_zero, List.set_cons_succ]
  refine wpAnyH_ready (rs := [49]) (by kernel_rfl) (by simp) ?_
  refine AllReadyH.cons (o := ?_) ?_ (fun K hK => ?_) AllReadyH.nil
  rotate_left 1
  · conv => lhs; simp only [List.getElem?_toArray, List.getElem?_cons_succ, List.getElem?_cons_zero]
  go_simp
  refine (D4.out _ _ (hHeld.da 4 rfl)).mono ?_
  rintro e y4 ⟨MG, rfl, hd, hb⟩
  have HD := Lib.hid ((kD R4.r MF).up hb HD.out)
  have HE := Lib.hid hd
  clear hd
  go_wp2_with fail
  refine hK.out _ _ (hHeld.next hb) (fun hHeld => ?_)
  clear hK K
  try simp only [Act.put, List.setIfInBounds_toArray, List.set_cons_zero, List.set_cons_succ]
  refine wpAnyH_ready (rs := [50]) (by kernel_rfl) (by simp) ?_
  refine AllReadyH.cons (o := ?_) ?_ (fun K hK => ?_) AllReadyH.nil
  rotate_left 1
  · conv => lhs; simp only [List.getElem?_toArray, List.getElem?_cons_succ, List.getElem?_cons_zero]
  go_simp
  refine (same' HD.out HE.out).mono ?_
  rintro e z4 ⟨rfl, hb⟩
  go_wp2_with fail
  refine hK.out _ _ (hHeld.next hb) (fun hHeld => ?_)
  clear hK K
  try simp only [Act.put, List.setIfInBounds_toArray, List.set_cons_zero, List.set_cons_succ]
  clear HD HE
  refine wpAnyH_take (i := 51) (oi := ?_) (v := ?_) ?_ (by kernel_rfl) (by kernel_rfl) (by kernel_rfl) ?_ (Or.inl ⟨?_, ?_⟩) hHeld ?_
  rotate_left 2
  · conv => lhs; simp only [List.getElem?_toArray, List.getElem?_cons_succ, List.getElem?_cons_zero]
  · exact fun _ _ _ h => h
  · rfl
  · intro W hSw
    go_simp
    try with_reducible rfl
  try simp only [Act.put, List.setIfInBounds_toArray, List.set_cons_zero, List.set_cons_succ]
  refine wpAnyH_take (i := 52) (oi := ?_) (v := ?_) ?_ (by kernel_rfl) (by kernel_rfl) (by kernel_rfl) ?_ (Or.inl ⟨?_, ?_⟩) hHeld ?_
  rotate_left 2
  · conv => lhs; simp only [List.getElem?_toArray, List.getElem?_cons_succ, List.getElem?_cons_zero]
  · exact fun _ _ _ h => h
  · rfl
  · intro W hSw
    go_simp
    try with_reducible rfl
  try simp only [Act.put, List.setIfInBounds_toArray, List.set_cons_zero, List.set_cons_succ]
  refine wpAnyH_take (i := 53) (oi := ?_) (v := (.agg (brC b).toArray)) ?_ (by kernel_rfl) (by kernel_rfl) (by kernel_rfl) ?_ (Or.inl ⟨?_, ?_⟩) hHeld ?_
  rotate_left 1
  · conv => lhs; simp only [List.getElem?_toArray, List.getElem?_cons_succ, List.getElem?_cons_zero]
  · exact fun _ _ _ h => h
  · rfl
  · intro W hSw
    exact tk_load rfl rfl (load_row (hSw.ka 8 rfl) Tryd.underlying38 rfl info_bar)
  try simp only [Act.put, List.setIfInBounds_toArray, List.set_cons_zero, List.set_cons_succ]
  refine wpAnyH_take (i := 55) (oi := ?_) (v := (.agg (dbC b M).toArray)) ?_ (by kernel_rfl) (by kernel_rfl) (by kernel_rfl) ?_ (Or.inl ⟨?_, ?_⟩) hHeld ?_
  rotate_left 1
  · conv => lhs; simp only [List.getElem?_toArray, List.getElem?_cons_succ, List.getElem?_cons_zero]
  · exact fun _ _ _ h => h
  · rfl
  · intro W hSw
    exact tk_load rfl rfl (load_row (hSw.ka 9 rfl) Tryd.underlying28 rfl info_db)
  try simp only [Act.put, List.setIfInBounds_toArray, List.set_cons_zero, List.set_cons_succ]
  refine wpAnyH_ready (rs := [54]) (by kernel_rfl) (by simp) ?_
  refine AllReadyH.cons (o := ?_) ?_ (fun K hK => ?_) AllReadyH.nil
  rotate_left 1
  · conv => lhs; simp only [List.getElem?_toArray, List.getElem?_cons_succ, List.getElem?_cons_zero]
  go_simp
  refine (P5.out _ (HT.out _ hHeld.up)).mono ?_
  rintro e u5 ⟨rfl, hb⟩
  go_wp2_with fail
  refine hK.out _ _ (hHeld.next hb) (fun hHeld => ?_)
  clear hK K
  try simp only [Act.put, List.setIfInBounds_toArray, List.set_cons_zero, List.set_cons_succ]
  refine wpAnyH_ready (rs := [56]) (by kernel_rfl) (by simp) ?_
  refine AllReadyH.cons (o := ?_) ?_ (fun K hK => ?_) AllReadyH.nil
  rotate_left 1
  · conv => lhs; simp only [List.getElem?_toArray, List.getElem?_cons_succ, List.getElem?_cons_zero]
  go_simp
  refine (D5.out _ _ (hHeld.da 4 rfl)).mono ?_
  rintro e v5 ⟨rfl, hb⟩
  go_wp2_with fail
  refine hK.out _ _ (hHeld.next hb) (fun hHeld => ?_)
  clear hK K
  try simp only [Act.put, List.setIfInBounds_toArray, List.set_cons_zero, List.set_cons_succ]
  refine wpAnyH_take (i := 57) (oi := ?_) (v := ?_) ?_ (by kernel_rfl) (by kernel_rfl) (by kernel_rfl) ?_ (Or.inl ⟨?_, ?_⟩) hHeld ?_
  rotate_left 2
  · conv => lhs; simp only [List.getElem?_toArray, List.getElem?_cons_succ, List.getElem?_cons_zero]
  · exact fun _ _ _ h => h
  · rfl
  · intro W hSw
    go_simp
    try with_reducible rfl
  try simp only [Act.put, List.setIfInBounds_toArray, List.set_cons_zero, List.set_cons_succ]
  refine wpAnyH_take (i := 58) (oi := ?_) (v := ?_) ?_ (by kernel_rfl) (by kernel_rfl) (by kernel_rfl) ?_ (Or.inl ⟨?_, ?_⟩) hHeld ?_
  rotate_left 2
  · conv => lhs; simp only [List.getElem?_toArray, List.getElem?_cons_succ, List.getElem?_cons_zero]
  · exact fun _ _ _ h => h
  · rfl
  · intro W hSw
    go_simp
    try with_reducible rfl
  try simp only [Act.put, List.setIfInBounds_toArray, List.set_cons_zero, List.set_cons_succ]
  refine wpAnyH_take (i := 59) (oi := ?_) (v := ?_) ?_ (by kernel_rfl) (by kernel_rfl) (by kernel_rfl) ?_ (Or.inl ⟨?_, ?_⟩) hHeld ?_
  rotate_left 2
  · conv => lhs; simp only [List.getElem?_toArray, List.getElem?_cons_succ, List.getElem?_cons_zero]
  · exact fun _ _ _ h => h
  · rfl
  · intro W hSw
    go_simp
    try with_reducible rfl
  try simp only [Act.put, List.setIfInBounds_toArray, List.set_cons_zero, List.set_cons_succ]
  refine wpAnyH_take (i := 60) (oi := ?_) (v := ?_) ?_ (by kernel_rfl) (by kernel_rfl) (by kernel_rfl) ?_ (Or.inl ⟨?_, ?_⟩) hHeld ?_
  rotate_left 2
  · conv => lhs; simp only [List.getElem?_toArray, List.getElem?_cons_succ, List.getElem?_cons_zero]
  · exact fun _ _ _ h => h
  · rfl
  · intro W hSw
    go_simp
    try with_reducible rfl
  try simp only [Act.put, List.setIfInBounds_toArray, List.set_cons_zero, List.set_cons_succ]
  refine wpAnyH_take (i := 61) (oi := ?_) (v := (.agg (cfC al l).toArray)) ?_ (by kernel_rfl) (by kernel_rfl) (by kernel_rfl) ?_ (Or.inl ⟨?_, ?_⟩) hHeld ?_
  rotate_left 1
  · conv => lhs; simp only [List.getElem?_toArray, List.getElem?_cons_succ, List.getElem?_cons_zero]
  · exact fun _ _ _ h => h
  · rfl
  · intro W hSw
    exact tk_part (q := 0) rfl rfl Tryd.underlying23 rfl info_conf ((hSw.ka 10 rfl).part 0 2 rfl)
  try simp only [Act.put, List.setIfInBounds_toArray, List.set_cons_zero, List.set_cons_succ]
  refine wpAnyH_take (i := 63) (oi := ?_) (v := ?_) ?_ (by kernel_rfl) (by kernel_rfl) (by kernel_rfl) ?_ (Or.inl ⟨?_, ?_⟩) hHeld ?_
  rotate_left 2
  · conv => lhs; simp only [List.getElem?_toArray, List.getElem?_cons_succ, List.getElem?_cons_zero]
  · exact fun _ _ _ h => h
  · rfl
  · intro W hSw
    go_simp
    try with_reducible rfl
  try simp only [Act.put, List.setIfInBounds_toArray, List.set_cons_zero, List.set_cons_succ]
  refine wpAnyH_take (i := 64) (oi := ?_) (v := (.agg (cfC al l).toArray)) ?_ (by kernel_rfl) (by kernel_rfl) (by kernel_rfl) ?_ (Or.inl ⟨?_, ?_⟩) hHeld ?_
  rotate_left 1
  · conv => lhs; simp only [List.getElem?_toArray, List.getElem?_cons_succ, List.getElem?_cons_zero]
  · exact fun _ _ _ h => h
  · rfl
  · intro W hSw
    exact tk_part (q := 0) rfl rfl Tryd.underlying23 rfl info_conf ((hSw.ka 10 rfl).part 0 2 rfl)
  try simp only [Act.put, List.setIfInBounds_toArray, List.set_cons_zero, List.set_cons_succ]
  refine wpAnyH_ready (rs := [62]) (by kernel_rfl) (by simp) ?_
  refine AllReadyH.cons (o := ?_) ?_ (fun K hK => ?_) AllReadyH.nil
  rotate_left 1
  · conv => lhs; simp only [List.getElem?_toArray, List.getElem?_cons_succ, List.getElem?_cons_zero]
  go_simp
  refine (P6.out _).mono ?_
  rintro e u6 ⟨rfl, hb⟩
  go_wp2_with fail
  refine hK.out _ _ (hHeld.next hb) (fun hHeld => ?_)
  clear hK K
  try simp only [Act.put, List.setIfInBounds_toArray, List.set_cons_zero, List.set_cons_succ]
  refine wpAnyH_ready (rs := [65]) (by kernel_rfl) (by simp) ?_
  refine AllReadyH.cons (o := ?_) ?_ (fun K hK => ?_) AllReadyH.nil
  rotate_left 1
  · conv => lhs; simp only [List.getElem?_toArray, List.getElem?_cons_succ, List.getElem?_cons_zero]
  go_simp
  refine (D6.out _).mono ?_
  rintro e v6 ⟨rfl, hb⟩
  go_wp2_with fail
  refine hK.out _ _ (hHeld.next hb) (fun hHeld => ?_)
  clear hK K
  try simp only [Act.put, List.setIfInBounds_toArray, List.set_cons_zero, List.set_cons_succ]
  refine wpAnyH_take (i := 66) (oi := ?_) (v := ?_) ?_ (by kernel_rfl) (by kernel_rfl) (by kernel_rfl) ?_ (Or.inl ⟨?_, ?_⟩) hHeld ?_
  rotate_left 2
  · conv => lhs; simp only [List.getElem?_toArray, List.getElem?_cons_succ, List.getElem?_cons_zero]
  · exact fun _ _ _ h => h
  · rfl
  · intro W hSw
    go_simp
    try with_reducible rfl
  try simp only [Act.put, List.setIfInBounds_toArray, List.set_cons_zero, List.set_cons_succ]
  refine wpAnyH_take (i := 67) (oi := ?_) (v := ?_) ?_ (by kernel_rfl) (by kernel_rfl) (by kernel_rfl) ?_ (Or.inl ⟨?_, ?_⟩) hHeld ?_
  rotate_left 2
  · conv => lhs; simp only [List.getElem?_toArray, List.getElem?_cons_succ, List.getElem?_cons_zero]
  · exact fun _ _ _ h => h
  · rfl
  · intro W hSw
    go_simp
    try with_reducible rfl
  try simp only [Act.put, List.setIfInBounds_toArray, List.set_cons_zero, List.set_cons_succ]
  refine wpAnyH_take (i := 68) (oi := ?_) (v := ?_) ?_ (by kernel_rfl) (by kernel_rfl) (by kernel_rfl) ?_ (Or.inl ⟨?_, ?_⟩) hHeld ?_
  rotate_left 2
  · conv => lhs; simp only [List.getElem?_toArray, List.getElem?_cons_succ, List.getElem?_cons_zero]
  · exact fun _ _ _ h => h
  · rfl
  · intro W hSw
    go_simp
    try with_reducible rfl
  try simp only [Act.put, List.setIfInBounds_toArray, List.set_cons_zero, List.set_cons_succ]
  refine wpAnyH_ready (rs := [69]) (by kernel_rfl) (by simp) ?_
  refine AllReadyH.cons (o := ?_) ?_ (fun K hK => ?_) AllReadyH.nil
  rotate_left 1
  · conv => lhs; simp only [List.getElem?_toArray, List.getElem?_cons_succ, List.getElem?_cons_zero]
  go_simp
  refine (c_alive22 _ (HT.out _ hHeld.up)).mono ?_
  rintro e v7 ⟨rfl, hb⟩
  go_wp2_with fail
  refine hK.out _ _ (hHeld.next hb) (fun hHeld => ?_)
  clear hK K
  try simp only [Act.put, List.setIfInBounds_toArray, List.set_cons_zero, List.set_cons_succ]
  refine wpAnyH_take (i := 70) (oi := ?_) (v := ?_) ?_ (by kernel_rfl) (by kernel_rfl) (by kernel_rfl) ?_ (Or.inl ⟨?_, ?_⟩) hHeld ?_
  rotate_left 2
  · conv => lhs; simp only [List.getElem?_toArray, List.getElem?_cons_succ, List.getElem?_cons_zero]
  · exact fun _ _ _ h => h
  · rfl
  · intro W hSw
    go_simp
    try with_reducible rfl
  try simp only [Act.put, List.setIfInBounds_toArray, List.set_cons_zero, List.set_cons_succ]
  refine wpAnyH_take (i := 71) (oi := ?_) (v := ?_) ?_ (by kernel_rfl) (by kernel_rfl) (by kernel_rfl) ?_ (Or.inl ⟨?_, ?_⟩) hHeld ?_
  rotate_left 2
  · conv => lhs; simp only [List.getElem?_toArray, List.getElem?_cons_succ, List.getElem?_cons_zero]
  · exact fun _ _ _ h => h
  · rfl
  · intro W hSw
    go_simp
    try with_reducible rfl
  try simp only [Act.put, List.setIfInBounds_toArray, List.set_cons_zero, List.set_cons_succ]
  refine wpAnyH_done (by kernel_rfl) ?_ _
  go_wp2
  go_ret
  exact ⟨rfl, hHeld.up⟩

set_option maxRecDepth 100000 in
set_option maxHeartbeats 16000000 in
theorem l_bfires {w : World} {A B : Option Addr} {c d n m : Nat} {L N : List Int} (al : Bool) (l ph : Int) (hA : RD w tt 1 A n (L.map (Value.int .i64))) (hB : RD w tt 1 B m (N.map (Value.int .i64))) (hL : L.length = n) (hN : N.length = m) (hT : TabD w) :
    Calls Tryd.prog 4 #[.agg (dbI al l A n c B m d ph).toArray] w fun e w' => e = .returned (.bool true) ∧ Below w.heap.size w w' := by
  have hX := bx1 w (dbI al l A n c B m d ph) 28
  have HT := Lib.hid (fun W (hW : Below w.heap.size w W) => hT.up hW)
  generalize hw1 : w.alloc (.cells (dbI al l A n c B m d ph).toArray 28) = w1 at hX
  have HW := Lib.hid (show w.alloc (.cells #[.bool al, .int .i64 l, .slice A n c, .slice B m d, .int .i64 ph] 28) = w1 from hw1)
  have HS : Hid (Mm w [(w.heap.size, dbI al l A n c B m d ph, 28)] [] w1) := Lib.hid ((Mm.nil hX.up).var hX.box)
  have CP := Lib.hid (fun W (hW : Below w.heap.size w W) h1 h2 => plain' (c := c) (d := d) al l ph (hA.below hW) (hB.below hW) hL hN h1 h2)
  generalize (⟨al, l, ⟨ofS L, ofS N⟩, ph⟩ : BR) = b at CP
  obtain ⟨q, hq, hs⟩ := small' al l ph A n c B m d
  have CS := Lib.hid hs
  clear hA hB hL hN hT hX hw1 hs
  cases q
  case false =>
    clear CP hq
    go_enter Tryd.func4, Tryd.ntmps4
    go_upto_region 1 with fail
    rw [HW.out]
    go_wp2_with (refine ldr (b := w.heap.size) (t := 28) (cs := dbI al l A n c B m d ph) (.tmp 1) rfl rfl Tryd.underlying28 rfl info_db rfl ?_ ?_; (· exact HS.out.ka 0 rfl))
    refine (CS.out _).mono ?_; rintro e w2 ⟨rfl, hb⟩
    have HS := Lib.hid (HS.out.next hb)
    clear hb
    go_wp2_with fail
    refine (c_alive22 _ (HT.out _ HS.out.up)).mono ?_; rintro e w3 ⟨rfl, hb⟩
    go_wp2
    go_ret
    exact ⟨rfl, up_trans HS.out.up hb⟩
  have CP := Lib.hid (fun W hW => CP.out W hW (hq rfl).1 (hq rfl).2)
  clear hq
  obtain ⟨R1, Z, x1, hz, p1, d1⟩ := pairFire b
  obtain ⟨q, p2, d2⟩ := pairReady b
  have P1 := Lib.hid p1
  have D1 := Lib.hid d1
  have P2 := Lib.hid p2
  have D2 := Lib.hid d2
  have HZ := Lib.hid hz
  have g1 : (x1 == x1) = true := beq_self_eq_true _
  have g2 : (q == q) = true := beq_self_eq_true _
  clear p1 p2 d1 d2 hz
  go_enter Tryd.func4, Tryd.ntmps4
  go_upto_region 1 with fail
  rw [HW.out]
  go_wp2_with (refine ldr (b := w.heap.size) (t := 28) (cs := dbI al l A n c B m d ph) (.tmp 1) rfl rfl Tryd.underlying28 rfl info_db rfl ?_ ?_; (· exact HS.out.ka 0 rfl))
  refine (CS.out _).mono ?_; rintro e w2 ⟨rfl, hb⟩
  have HS := Lib.hid (HS.out.next hb)
  clear hb
  generalize hbx : w.heap.size = bw at HS ⊢
  clear hbx
  go_wp2_with (refine ldr (b := bw) (t := 28) (cs := dbI al l A n c B m d ph) (.tmp 1) rfl rfl Tryd.underlying28 rfl info_db rfl ?_ ?_; (· exact HS.out.ka 0 rfl))
  refine (CP.out _ HS.out.up).mono ?_; rintro e w3 ⟨M, rfl, hd, hb⟩
  have HS := Lib.hid (((HS.out.next hb).fact (kD b.r M) hd).new (dbC b M) 28)
  clear hb hd
  go_wp2_with (first | (refine snr (W := w3) (cs := dbC b M) (zs := dbZ) (t := 28) (.tmp 3) (.tmp 16) rfl rfl rfl rfl info_db rfl dbC_one ?_ ?_ ?_; (· rfl); (· rfl)) | (refine ldr (b := w3.heap.size) (t := 28) (cs := dbC b M) (.tmp 3) rfl rfl Tryd.underlying28 rfl info_db rfl ?_ ?_; (· exact HS.out.ka 0 rfl)))
  refine (to' (HS.out.da 0 rfl)).mono ?_; rintro e w4 ⟨rfl, hb⟩
  have HS := Lib.hid ((HS.out.next hb).new (brC b) 38)
  clear hb
  generalize hbx : w3.heap.size = bw3 at HS ⊢
  clear hbx
  go_wp2_with (first | (refine snr (W := w4) (cs := brC b) (zs := brZ) (t := 38) (.tmp 4) (.tmp 18) rfl rfl rfl rfl info_bar rfl brC_one ?_ ?_ ?_; (· rfl); (· rfl)) | (refine ldr (b := w4.heap.size) (t := 38) (cs := brC b) (.tmp 4) rfl rfl Tryd.underlying38 rfl info_bar rfl ?_ ?_; (· exact HS.out.ka 0 rfl)))
  refine (P1.out _ (HT.out _ HS.out.up)).mono ?_; rintro e w5 ⟨A1, c1, rfl, hd, hb⟩
  have HS := Lib.hid (((HS.out.next hb).fact (kR A1 Z.length Z) hd).new (brC R1) 38)
  clear hb hd
  generalize hbx : w4.heap.size = bw4 at HS ⊢
  clear hbx
  go_wp2_with (first | (refine snr (W := w5) (cs := brC R1) (zs := brZ) (t := 38) (.tmp 5) (.tmp 22) rfl rfl rfl rfl info_bar rfl brC_one ?_ ?_ ?_; (· rfl); (· rfl)) | (refine ldr (b := bw3) (t := 28) (cs := dbC b M) (.tmp 3) rfl rfl Tryd.underlying28 rfl info_db rfl ?_ ?_; (· exact HS.out.ka 2 rfl)))
  refine (D1.out _ _ (HS.out.da 1 rfl)).mono ?_; rintro e w6 ⟨M1, A2, c2, rfl, hd, hr, hb⟩
  have HS := Lib.hid ((((HS.out.next hb).fact (kD R1.r M1) hd).fact (kR A2 Z.length Z) hr).new (dbC R1 M1) 28)
  clear hb hd hr
  generalize hbx : w5.heap.size = bw5 at HS ⊢
  clear hbx
  go_wp2_with (refine snr (W := w6) (cs := dbC R1 M1) (zs := dbZ) (t := 28) (.tmp 8) (.tmp 28) rfl rfl rfl rfl info_db rfl dbC_one ?_ ?_ ?_; (· rfl); (· rfl))
  generalize hbx : w6.heap.size = bw6 at HS ⊢
  clear hbx
  generalize w6.alloc (.cells (dbC R1 M1).toArray 28) = wz at HS ⊢
  refine wp_region_held_drew (S := Mm w [(bw6, dbC R1 M1, 28), (bw5, brC R1, 38), (bw4, brC b, 38), (bw3, dbC b M, 28), (bw, dbI al l A n c B m d ph, 28)] [kR A2 Z.length Z, kD R1.r M1, kR A1 Z.length Z, kD b.r M]) (by kernel_rfl) (HS.out.next (up_drewN _ 1)) (fun hHeld => ?_)
  refine wpAnyH_take (i := 0) (oi := ?_) (v := (.agg (brC b).toArray)) ?_ (by kernel_rfl) (by kernel_rfl) (by kernel_rfl) ?_ (Or.inl ⟨?_, ?_⟩) hHeld ?_
  rotate_left 1
  · conv => lhs; simp only [List.getElem?_toArray, List.getElem?_cons_succ, List.getElem?_cons_zero]
  · exact fun _ _ _ h => h
  · rfl
  · intro W hSw
    exact tk_load rfl rfl (load_row (hSw.ka 2 rfl) Tryd.underlying38 rfl info_bar)
  try simp only [Act.put, List.setIfInBounds_toArray, List.set_cons_zero, List.set_cons_succ]
  refine wpAnyH_take (i := 2) (oi := ?_) (v := (.agg (dbC b M).toArray)) ?_ (by kernel_rfl) (by kernel_rfl) (by kernel_rfl) ?_ (Or.inl ⟨?_, ?_⟩) hHeld ?_
  rotate_left 1
  · conv => lhs; simp only [List.getElem?_toArray, List.getElem?_cons_succ, List.getElem?_cons_zero]
  · exact fun _ _ _ h => h
  · rfl
  · intro W hSw
    exact tk_load rfl rfl (load_row (hSw.ka 3 rfl) Tryd.underlying28 rfl info_db)
  try simp only [Act.put, List.setIfInBounds_toArray, List.set_cons_zero, List.set_cons_succ]
  refine wpAnyH_ready (rs := [1]) (by kernel_rfl) (by simp) ?_
  refine AllReadyH.cons (o := ?_) ?_ (fun K hK => ?_) AllReadyH.nil
  rotate_left 1
  · conv => lhs; simp only [List.getElem?_toArray, List.getElem?_cons_succ, List.getElem?_cons_zero]
  go_simp
  refine (P2.out _ (HT.out _ hHeld.up)).mono ?_
  rintro e u1 ⟨rfl, hb⟩
  go_wp2_with fail
  refine hK.out _ _ (hHeld.next hb) (fun hHeld => ?_)
  clear hK K
  try simp only [Act.put, List.setIfInBounds_toArray, List.set_cons_zero, List.set_cons_succ]
  refine wpAnyH_ready (rs := [3]) (by kernel_rfl) (by simp) ?_
  refine AllReadyH.cons (o := ?_) ?_ (fun K hK => ?_) AllReadyH.nil
  rotate_left 1
  · conv => lhs; simp only [List.getElem?_toArray, List.getElem?_cons_succ, List.getElem?_cons_zero]
  go_simp
  refine (D2.out _ _ (hHeld.da 3 rfl)).mono ?_
  rintro e u2 ⟨rfl, hb⟩
  go_wp2_with fail
  refine hK.out _ _ (hHeld.next hb) (fun hHeld => ?_)
  clear hK K
  try simp only [Act.put, List.setIfInBounds_toArray, List.set_cons_zero, List.set_cons_succ]
  refine wpAnyH_take (i := 4) (oi := ?_) (v := ?_) ?_ (by kernel_rfl) (by kernel_rfl) (by kernel_rfl) ?_ (Or.inl ⟨?_, ?_⟩) hHeld ?_
  rotate_left 2
  · conv => lhs; simp only [List.getElem?_toArray, List.getElem?_cons_succ, List.getElem?_cons_zero]
  · exact fun _ _ _ h => h
  · rfl
  · intro W hSw
    go_simp
    try with_reducible rfl
  try simp only [Act.put, List.setIfInBounds_toArray, List.set_cons_zero, List.set_cons_succ]
  refine wpAnyH_take (i := 5) (oi := ?_) (v := ?_) ?_ (by kernel_rfl) (by kernel_rfl) (by kernel_rfl) ?_ (Or.inl ⟨?_, ?_⟩) hHeld ?_
  rotate_left 2
  · conv => lhs; simp only [List.getElem?_toArray, List.getElem?_cons_succ, List.getElem?_cons_zero]
  · exact fun _ _ _ h => h
  · rfl
  · intro W hSw
    go_simp
    try with_reducible rfl
  try simp only [Act.put, List.setIfInBounds_toArray, List.set_cons_zero, List.set_cons_succ]
  refine wpAnyH_take (i := 6) (oi := ?_) (v := (.agg (brC R1).toArray)) ?_ (by kernel_rfl) (by kernel_rfl) (by kernel_rfl) ?_ (Or.inl ⟨?_, ?_⟩) hHeld ?_
  rotate_left 1
  · conv => lhs; simp only [List.getElem?_toArray, List.getElem?_cons_succ, List.getElem?_cons_zero]
  · exact fun _ _ _ h => h
  · rfl
  · intro W hSw
    exact tk_load rfl rfl (load_row (hSw.ka 1 rfl) Tryd.underlying38 rfl info_bar)
  try simp only [Act.put, List.setIfInBounds_toArray, List.set_cons_zero, List.set_cons_succ]
  refine wpAnyH_take (i := 8) (oi := ?_) (v := (.agg (dbC R1 M1).toArray)) ?_ (by kernel_rfl) (by kernel_rfl) (by kernel_rfl) ?_ (Or.inl ⟨?_, ?_⟩) hHeld ?_
  rotate_left 1
  · conv => lhs; simp only [List.getElem?_toArray, List.getElem?_cons_succ, List.getElem?_cons_zero]
  · exact fun _ _ _ h => h
  · rfl
  · intro W hSw
    exact tk_load rfl rfl (load_row (hSw.ka 0 rfl) Tryd.underlying28 rfl info_db)
  try simp only [Act.put, List.setIfInBounds_toArray, List.set_cons_zero, List.set_cons_succ]
  refine wpAnyH_ready (rs := [7]) (by kernel_rfl) (by simp) ?_
  refine AllReadyH.cons (o := ?_) ?_ (fun K hK => ?_) AllReadyH.nil
  rotate_left 1
  · conv => lhs; simp only [List.getElem?_toArray, List.getElem?_cons_succ, List.getElem?_cons_zero]
  go_simp
  refine (from' R1 _ (HT.out _ hHeld.up)).mono ?_
  rintro e u1 ⟨MF, rfl, hd, hb⟩
  have HD := Lib.hid hd
  clear hd
  go_wp2_with fail
  refine hK.out _ _ (hHeld.next hb) (fun hHeld => ?_)
  clear hK K
  try simp only [Act.put, List.setIfInBounds_toArray, List.set_cons_zero, List.set_cons_succ]
  refine wpAnyH_ready (rs := [9]) (by kernel_rfl) (by simp) ?_
  refine AllReadyH.cons (o := ?_) ?_ (fun K hK => ?_) AllReadyH.nil
  rotate_left 1
  · conv => lhs; simp only [List.getElem?_toArray, List.getElem?_cons_succ, List.getElem?_cons_zero]
  go_simp
  refine (same' HD.out (hHeld.da 1 rfl)).mono ?_
  rintro e v1 ⟨rfl, hb⟩
  go_wp2_with fail
  refine hK.out _ _ (hHeld.next hb) (fun hHeld => ?_)
  clear hK K
  try simp only [Act.put, List.setIfInBounds_toArray, List.set_cons_zero, List.set_cons_succ]
  clear HD
  refine wpAnyH_take (i := 10) (oi := ?_) (v := ?_) ?_ (by kernel_rfl) (by kernel_rfl) (by kernel_rfl) ?_ (Or.inl ⟨?_, ?_⟩) hHeld ?_
  rotate_left 2
  · conv => lhs; simp only [List.getElem?_toArray, List.getElem?_cons_succ, List.getElem?_cons_zero]
  · exact fun _ _ _ h => h
  · rfl
  · intro W hSw
    go_simp
    try with_reducible rfl
  try simp only [Act.put, List.setIfInBounds_toArray, List.set_cons_zero, List.set_cons_succ]
  refine wpAnyH_take (i := 11) (oi := ?_) (v := ?_) ?_ (by kernel_rfl) (by kernel_rfl) (by kernel_rfl) ?_ (Or.inl ⟨?_, ?_⟩) hHeld ?_
  rotate_left 2
  · conv => lhs; simp only [List.getElem?_toArray, List.getElem?_cons_succ, List.getElem?_cons_zero]
  · exact fun _ _ _ h => h
  · rfl
  · intro W hSw
    go_simp
    try with_reducible rfl
  try simp only [Act.put, List.setIfInBounds_toArray, List.set_cons_zero, List.set_cons_succ]
  refine wpAnyH_take (i := 12) (oi := ?_) (v := ?_) ?_ (by kernel_rfl) (by kernel_rfl) (by kernel_rfl) ?_ (Or.inl ⟨?_, ?_⟩) hHeld ?_
  rotate_left 2
  · conv => lhs; simp only [List.getElem?_toArray, List.getElem?_cons_succ, List.getElem?_cons_zero]
  · exact fun _ _ _ h => h
  · rfl
  · intro W hSw
    go_simp
    try with_reducible rfl
  try simp only [Act.put, List.setIfInBounds_toArray, List.set_cons_zero, List.set_cons_succ]
  refine wpAnyH_take (i := 13) (oi := ?_) (v := ?_) ?_ (by kernel_rfl) (by kernel_rfl) (by kernel_rfl) ?_ (Or.inl ⟨?_, ?_⟩) hHeld ?_
  rotate_left 2
  · conv => lhs; simp only [List.getElem?_toArray, List.getElem?_cons_succ, List.getElem?_cons_zero]
  · exact fun _ _ _ h => h
  · rfl
  · intro W hSw
    go_simp
    try with_reducible rfl
  try simp only [Act.put, List.setIfInBounds_toArray, List.set_cons_zero, List.set_cons_succ]
  refine wpAnyH_ready (rs := [14]) (by kernel_rfl) (by simp) ?_
  refine AllReadyH.cons (o := ?_) ?_ (fun K hK => ?_) AllReadyH.nil
  rotate_left 1
  · conv => lhs; simp only [List.getElem?_toArray, List.getElem?_cons_succ, List.getElem?_cons_zero]
  go_simp
  refine (sameL (hHeld.da 2 rfl) (hHeld.da 0 rfl) HZ.out).mono ?_
  rintro e u3 ⟨rfl, hb⟩
  go_wp2_with fail
  refine hK.out _ _ (hHeld.next hb) (fun hHeld => ?_)
  clear hK K
  try simp only [Act.put, List.setIfInBounds_toArray, List.set_cons_zero, List.set_cons_succ]
  refine wpAnyH_take (i := 15) (oi := ?_) (v := ?_) ?_ (by kernel_rfl) (by kernel_rfl) (by kernel_rfl) ?_ (Or.inl ⟨?_, ?_⟩) hHeld ?_
  rotate_left 2
  · conv => lhs; simp only [List.getElem?_toArray, List.getElem?_cons_succ, List.getElem?_cons_zero]
  · exact fun _ _ _ h => h
  · rfl
  · intro W hSw
    go_simp
    try with_reducible rfl
  try simp only [Act.put, List.setIfInBounds_toArray, List.set_cons_zero, List.set_cons_succ]
  refine wpAnyH_take (i := 16) (oi := ?_) (v := ?_) ?_ (by kernel_rfl) (by kernel_rfl) (by kernel_rfl) ?_ (Or.inl ⟨?_, ?_⟩) hHeld ?_
  rotate_left 2
  · conv => lhs; simp only [List.getElem?_toArray, List.getElem?_cons_succ, List.getElem?_cons_zero]
  · exact fun _ _ _ h => h
  · rfl
  · intro W hSw
    go_simp
    try with_reducible rfl
  try simp only [Act.put, List.setIfInBounds_toArray, List.set_cons_zero, List.set_cons_succ]
  refine wpAnyH_take (i := 17) (oi := ?_) (v := ?_) ?_ (by kernel_rfl) (by kernel_rfl) (by kernel_rfl) ?_ (Or.inl ⟨?_, ?_⟩) hHeld ?_
  rotate_left 2
  · conv => lhs; simp only [List.getElem?_toArray, List.getElem?_cons_succ, List.getElem?_cons_zero]
  · exact fun _ _ _ h => h
  · rfl
  · intro W hSw
    go_simp
    try with_reducible rfl
  try simp only [Act.put, List.setIfInBounds_toArray, List.set_cons_zero, List.set_cons_succ]
  refine wpAnyH_take (i := 18) (oi := ?_) (v := ?_) ?_ (by kernel_rfl) (by kernel_rfl) (by kernel_rfl) ?_ (Or.inl ⟨?_, ?_⟩) hHeld ?_
  rotate_left 2
  · conv => lhs; simp only [List.getElem?_toArray, List.getElem?_cons_succ, List.getElem?_cons_zero]
  · exact fun _ _ _ h => h
  · rfl
  · intro W hSw
    go_simp
    try with_reducible rfl
  try simp only [Act.put, List.setIfInBounds_toArray, List.set_cons_zero, List.set_cons_succ]
  refine wpAnyH_take (i := 19) (oi := ?_) (v := ?_) ?_ (by kernel_rfl) (by kernel_rfl) (by kernel_rfl) ?_ (Or.inl ⟨?_, ?_⟩) hHeld ?_
  rotate_left 2
  · conv => lhs; simp only [List.getElem?_toArray, List.getElem?_cons_succ, List.getElem?_cons_zero]
  · exact fun _ _ _ h => h
  · rfl
  · intro W hSw
    go_simp
    try with_reducible rfl
  try simp only [Act.put, List.setIfInBounds_toArray, List.set_cons_zero, List.set_cons_succ]
  refine wpAnyH_take (i := 20) (oi := ?_) (v := ?_) ?_ (by kernel_rfl) (by kernel_rfl) (by kernel_rfl) ?_ (Or.inl ⟨?_, ?_⟩) hHeld ?_
  rotate_left 2
  · conv => lhs; simp only [List.getElem?_toArray, List.getElem?_cons_succ, List.getElem?_cons_zero]
  · exact fun _ _ _ h => h
  · rfl
  · intro W hSw
    go_simp
    try with_reducible rfl
  try simp only [Act.put, List.setIfInBounds_toArray, List.set_cons_zero, List.set_cons_succ]
  refine wpAnyH_take (i := 21) (oi := ?_) (v := ?_) ?_ (by kernel_rfl) (by kernel_rfl) (by kernel_rfl) ?_ (Or.inl ⟨?_, ?_⟩) hHeld ?_
  rotate_left 2
  · conv => lhs; simp only [List.getElem?_toArray, List.getElem?_cons_succ, List.getElem?_cons_zero]
  · exact fun _ _ _ h => h
  · rfl
  · intro W hSw
    go_simp
    try with_reducible rfl
  try simp only [Act.put, List.setIfInBounds_toArray, List.set_cons_zero, List.set_cons_succ]
  refine wpAnyH_ready (rs := [22]) (by kernel_rfl) (by simp) ?_
  refine AllReadyH.cons (o := ?_) ?_ (fun K hK => ?_) AllReadyH.nil
  rotate_left 1
  · conv => lhs; simp only [List.getElem?_toArray, List.getElem?_cons_succ, List.getElem?_cons_zero]
  go_simp
  refine (c_alive22 _ (HT.out _ hHeld.up)).mono ?_
  rintro e v7 ⟨rfl, hb⟩
  go_wp2_with fail
  refine hK.out _ _ (hHeld.next hb) (fun hHeld => ?_)
  clear hK K
  try simp only [Act.put, List.setIfInBounds_toArray, List.set_cons_zero, List.set_cons_succ]
  refine wpAnyH_take (i := 23) (oi := ?_) (v := ?_) ?_ (by kernel_rfl) (by kernel_rfl) (by kernel_rfl) ?_ (Or.inl ⟨?_, ?_⟩) hHeld ?_
  rotate_left 2
  · conv => lhs; simp only [List.getElem?_toArray, List.getElem?_cons_succ, List.getElem?_cons_zero]
  · exact fun _ _ _ h => h
  · rfl
  · intro W hSw
    go_simp
    try with_reducible rfl
  try simp only [Act.put, List.setIfInBounds_toArray, List.set_cons_zero, List.set_cons_succ]
  refine wpAnyH_take (i := 24) (oi := ?_) (v := ?_) ?_ (by kernel_rfl) (by kernel_rfl) (by kernel_rfl) ?_ (Or.inl ⟨?_, ?_⟩) hHeld ?_
  rotate_left 2
  · conv => lhs; simp only [List.getElem?_toArray, List.getElem?_cons_succ, List.getElem?_cons_zero]
  · exact fun _ _ _ h => h
  · rfl
  · intro W hSw
    go_simp
    try with_reducible rfl
  try simp only [Act.put, List.setIfInBounds_toArray, List.set_cons_zero, List.set_cons_succ]
  refine wpAnyH_done (by kernel_rfl) ?_ _
  go_wp2
  go_ret
  exact ⟨rfl, hHeld.up⟩
end Go.Proofs.YtibhaiciameklaaDoor

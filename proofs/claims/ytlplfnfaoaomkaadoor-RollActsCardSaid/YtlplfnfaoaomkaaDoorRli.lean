/- The law RollActs. -/
import Derived.Test.YtlplfnfaoaomkaaDoorRlh
namespace Go.Proofs.YtlplfnfaoaomkaaDoor
open Go.RowKit

/-- What lies in memory: variables of cells, document's rolls that read so. The newest stands first. -/
structure Mem (w : World) (KS : List (Nat × List Value × TypeId)) (DS : List (RL × DM)) (W : World) : Prop where
  up : Below w.heap.size w W
  k : ∀ x ∈ KS, Blk W x.1 x.2.1 x.2.2
  d : ∀ y ∈ DS, DW W tt y.1 y.2
theorem Mem.next {w W W' : World} {KS : List (Nat × List Value × TypeId)} {DS : List (RL × DM)} (h : Mem w KS DS W) (hb : Below W.heap.size W W') : Mem w KS DS W' :=
  ⟨up_trans h.up hb, fun x hx => (h.k x hx).up hb (h.k x hx).lt, fun y hy => (h.d y hy).below hb⟩
theorem Mem.var {w W : World} {KS : List (Nat × List Value × TypeId)} {DS : List (RL × DM)} (h : Mem w KS DS W) {b : Nat} {cs : List Value} {t : TypeId} (hk : Blk W b cs t) : Mem w ((b, cs, t) :: KS) DS W :=
  ⟨h.up, fun x hx => (List.mem_cons.1 hx).elim (fun e => by rw [e]; exact hk) (h.k x), h.d⟩
theorem Mem.doc {w W : World} {KS : List (Nat × List Value × TypeId)} {DS : List (RL × DM)} (h : Mem w KS DS W) {r : RL} {M : DM} (hd : DW W tt r M) : Mem w KS ((r, M) :: DS) W :=
  ⟨h.up, h.k, fun x hx => (List.mem_cons.1 hx).elim (fun e => by rw [e]; exact hd) (h.d x)⟩
theorem Mem.new {w W : World} {KS : List (Nat × List Value × TypeId)} {DS : List (RL × DM)} (h : Mem w KS DS W) (cs : List Value) (t : TypeId) : Mem w ((W.heap.size, cs, t) :: KS) DS (W.alloc (.cells cs.toArray t)) :=
  (h.next (up_alloc _ _)).var (Blk.new W cs t)
theorem Mem.ka {w W : World} {KS : List (Nat × List Value × TypeId)} {DS : List (RL × DM)} (h : Mem w KS DS W) (i : Nat) {b : Nat} {cs : List Value} {t : TypeId} (hi : KS[i]? = some (b, cs, t)) : Blk W b cs t := h.k _ (List.mem_of_getElem? hi)
theorem Mem.da {w W : World} {KS : List (Nat × List Value × TypeId)} {DS : List (RL × DM)} (h : Mem w KS DS W) (i : Nat) {r : RL} {M : DM} (hi : DS[i]? = some (r, M)) : DW W tt r M := h.d _ (List.mem_of_getElem? hi)

theorem c_plain21' {w : World} {A B : Option Addr} {c d n m : Nat} {L N : List Int} (hA : RD w tt 1 A n (L.map (Value.int .i64))) (hB : RD w tt 1 B m (N.map (Value.int .i64))) (hL : L.length = n) (hN : N.length = m) (h1 : n ≤ 1000) (h2 : m ≤ 1000) :
    Calls Tryd.prog 6 #[.agg ([.slice A n c, .slice B m d] : List Value).toArray] w (DLPost w ⟨ofS L, ofS N⟩) := by
  subst hL
  subst hN
  exact c_plain21 hA hB h1 h2
theorem pairEnrol (r : RL) (p : Int) : ∃ (R : RL) (x : Int), (∀ W, TabD W → Calls Tryd.prog 8 #[.agg (rlC r).toArray, .int .i64 p] W (Ans (.tuple #[.agg (rlC R).toArray, .int .i64 x]) W)) ∧
    (∀ W M, DW W tt r M → Calls Tryd.prog 9 #[.agg (dlC r M).toArray, .int .i64 p] W (DPost W R (.int .i64 x))) :=
  ⟨_, _, fun W h => c_rlenrol r p W h, fun _ _ h => c_denrol h p⟩
theorem pairResign (r : RL) (p : Int) : ∃ (R : RL) (x : Int), (∀ W, TabD W → Calls Tryd.prog 10 #[.agg (rlC r).toArray, .int .i64 p] W (Ans (.tuple #[.agg (rlC R).toArray, .int .i64 x]) W)) ∧
    (∀ W M, DW W tt r M → Calls Tryd.prog 11 #[.agg (dlC r M).toArray, .int .i64 p] W (DPost W R (.int .i64 x))) :=
  ⟨_, _, fun W h => c_rlresign r p W h, fun _ _ h => c_dresign h p⟩
theorem pairOffer (r : RL) (p : Int) : ∃ (R : RL) (x : Int), (∀ W, TabD W → Calls Tryd.prog 12 #[.agg (rlC r).toArray, .int .i64 p] W (Ans (.tuple #[.agg (rlC R).toArray, .int .i64 x]) W)) ∧
    (∀ W M, DW W tt r M → Calls Tryd.prog 13 #[.agg (dlC r M).toArray, .int .i64 p] W (DPost W R (.int .i64 x))) :=
  ⟨_, _, fun W h => c_rloffer r p W h, fun _ _ h => c_doffer h p⟩
theorem pairWithdraw (r : RL) (p : Int) : ∃ (R : RL) (x : Bool), (∀ W, TabD W → Calls Tryd.prog 14 #[.agg (rlC r).toArray, .int .i64 p] W (Ans (.tuple #[.agg (rlC R).toArray, .bool x]) W)) ∧
    (∀ W M, DW W tt r M → Calls Tryd.prog 15 #[.agg (dlC r M).toArray, .int .i64 p] W (DPost W R (.bool x))) :=
  ⟨_, _, fun W h => c_rlwith r p W h, fun _ _ h => c_dwith h p⟩
theorem pairFine (r : RL) : ∃ q : Bool, (∀ W, TabD W → Calls Tryd.prog 18 #[.agg (rlC r).toArray] W (Ans (.bool q) W)) ∧
    (∀ W M, DW W tt r M → Calls Tryd.prog 19 #[.agg (dlC r M).toArray] W (Ans (.bool q) W)) :=
  ⟨_, fun W h => c_rlfine r W h, fun _ _ h => c_dfine h⟩

set_option maxRecDepth 100000 in
set_option maxHeartbeats 16000000 in
theorem l_acts {w : World} {A B : Option Addr} {c d n m : Nat} {L N : List Int} (hA : RD w tt 1 A n (L.map (Value.int .i64))) (hB : RD w tt 1 B m (N.map (Value.int .i64))) (hL : L.length = n) (hN : N.length = m) (p : Int) (hT : TabD w) :
    Calls Tryd.prog 3 #[.agg ([.slice A n c, .slice B m d] : List Value).toArray, .int .i64 p] w fun e w' => e = .returned (.bool true) ∧ Below w.heap.size w w' := by
  have hX := bx1 w [.slice A n c, .slice B m d] 24
  have HT := Lib.hid (fun W (hW : Below w.heap.size w W) => hT.up hW)
  generalize hw1 : w.alloc (.cells ([.slice A n c, .slice B m d] : List Value).toArray 24) = w1 at hX
  have HW := Lib.hid (show w.alloc (.cells #[.slice A n c, .slice B m d] 24) = w1 from hw1)
  have HX := Lib.hid hX
  have CP := Lib.hid (fun W (hW : Below w.heap.size w W) h1 h2 => c_plain21' (c := c) (d := d) (hA.below hW) (hB.below hW) hL hN h1 h2)
  generalize (⟨ofS L, ofS N⟩ : RL) = r at CP
  have c0 := hX.box.cell 0 _ rfl
  have c1 := hX.box.cell 1 _ rfl
  clear hA hB hL hN hT hX hw1
  rcases (by omega : 40 < (n : Int) ∨ ((n : Int) ≤ 40 ∧ 40 < (m : Int)) ∨ ((n : Int) ≤ 40 ∧ (m : Int) ≤ 40)) with h1 | ⟨h1, h2⟩ | ⟨h1, h2⟩
  · go_enter Tryd.func3, Tryd.ntmps3
    go_upto_region 1 with fail
    rw [HW.out]
    go_wp2_with fail
    refine (c_alive21 _ (HT.out _ HX.out.up)).mono ?_; rintro e w2 ⟨rfl, hb⟩
    go_wp2
    go_ret
    exact ⟨rfl, up_trans HX.out.up hb⟩
  · go_enter Tryd.func3, Tryd.ntmps3
    go_upto_region 1 with fail
    rw [HW.out]
    go_wp2_with fail
    refine (c_alive21 _ (HT.out _ HX.out.up)).mono ?_; rintro e w2 ⟨rfl, hb⟩
    go_wp2
    go_ret
    exact ⟨rfl, up_trans HX.out.up hb⟩
  obtain ⟨R1, x1, p1, d1⟩ := pairEnrol r p
  obtain ⟨R2, x2, p2, d2⟩ := pairResign r p
  obtain ⟨R3, x3, p3, d3⟩ := pairOffer r p
  obtain ⟨R4, x4, p4, d4⟩ := pairWithdraw r p
  obtain ⟨q, p5, d5⟩ := pairFine r
  have P1 := Lib.hid p1
  have P2 := Lib.hid p2
  have P3 := Lib.hid p3
  have P4 := Lib.hid p4
  have P5 := Lib.hid p5
  have D1 := Lib.hid d1
  have D2 := Lib.hid d2
  have D3 := Lib.hid d3
  have D4 := Lib.hid d4
  have D5 := Lib.hid d5
  have g1 : (x1 == x1) = true := beq_self_eq_true _
  have g2 : (x2 == x2) = true := beq_self_eq_true _
  have g3 : (x3 == x3) = true := beq_self_eq_true _
  have g4 : (x4 == x4) = true := beq_self_eq_true _
  have g5 : (q == q) = true := beq_self_eq_true _
  have CP := Lib.hid (fun W hW => CP.out W hW (by omega) (by omega))
  clear p1 p2 p3 p4 p5 d1 d2 d3 d4 d5
  go_enter Tryd.func3, Tryd.ntmps3
  go_upto_region 1 with fail
  rw [HW.out]
  go_wp2_with (refine ldr (b := w.heap.size) (t := 24) (cs := [.slice A n c, .slice B m d]) (.tmp 2) rfl rfl Tryd.underlying24 rfl info_dl rfl ?_ ?_; (· exact HX.out.box))
  refine (CP.out _ HX.out.up).mono ?_; rintro e w2 ⟨M0, rfl, hd, hb⟩
  have HS : Hid (Mem w [(w2.heap.size, dlC r M0, 24)] [(r, M0)] (w2.alloc (.cells (dlC r M0).toArray 24))) := Lib.hid ((Mem.doc (KS := []) (DS := []) ⟨up_trans HX.out.up hb, by simp, by simp⟩ hd).new _ _)
  clear hd hb CP c0 c1 h1 h2
  go_wp2_with (first | (refine snr (W := w2) (cs := dlC r M0) (zs := dlZ) (t := 24) (.tmp 5) (.tmp 35) rfl rfl rfl rfl info_dl rfl dlC_one ?_ ?_ ?_; (· rfl); (· rfl)) | (refine ldr (b := w2.heap.size) (t := 24) (cs := dlC r M0) (.tmp 5) rfl rfl Tryd.underlying24 rfl info_dl rfl ?_ ?_; (· exact HS.out.ka 0 rfl)))
  refine (c_to21 (HS.out.da 0 rfl)).mono ?_; rintro e w3 ⟨rfl, hb⟩
  have HS := Lib.hid ((HS.out.next hb).new (rlC r) 31)
  clear hb
  generalize hb5 : w2.heap.size = b5 at HS ⊢
  clear hb5
  go_wp2_with (first | (refine snr (W := w3) (cs := rlC r) (zs := rlZ) (t := 31) (.tmp 6) (.tmp 37) rfl rfl rfl rfl info_roll rfl rlC_one ?_ ?_ ?_; (· rfl); (· rfl)) | (refine ldr (b := w3.heap.size) (t := 31) (cs := rlC r) (.tmp 6) rfl rfl Tryd.underlying31 rfl info_roll rfl ?_ ?_; (· exact HS.out.ka 0 rfl)))
  refine (P1.out _ (HT.out _ HS.out.up)).mono ?_; rintro e w4 ⟨rfl, hb⟩
  have HS := Lib.hid ((HS.out.next hb).new (rlC R1) 31)
  clear hb
  generalize hbx : w3.heap.size = b6 at HS ⊢
  clear hbx
  go_wp2_with (first | (refine snr (W := w4) (cs := rlC R1) (zs := rlZ) (t := 31) (.tmp 7) (.tmp 42) rfl rfl rfl rfl info_roll rfl rlC_one ?_ ?_ ?_; (· rfl); (· rfl)) | (refine ldr (b := b5) (t := 24) (cs := dlC r M0) (.tmp 5) rfl rfl Tryd.underlying24 rfl info_dl rfl ?_ ?_; (· exact HS.out.ka 2 rfl)))
  refine (D1.out _ _ (HS.out.da 0 rfl)).mono ?_; rintro e w5 ⟨M1, rfl, hd, hb⟩
  have HS := Lib.hid (((HS.out.next hb).doc hd).new (dlC R1 M1) 24)
  clear hb hd
  generalize hbx : w4.heap.size = bw4 at HS ⊢
  clear hbx
  go_wp2_with (first | (refine snr (W := w5) (cs := dlC R1 M1) (zs := dlZ) (t := 24) (.tmp 9) (.tmp 48) rfl rfl rfl rfl info_dl rfl dlC_one ?_ ?_ ?_; (· rfl); (· rfl)) | (refine ldr (b := b6) (t := 31) (cs := rlC r) (.tmp 6) rfl rfl Tryd.underlying31 rfl info_roll rfl ?_ ?_; (· exact HS.out.ka 2 rfl)))
  refine (P2.out _ (HT.out _ HS.out.up)).mono ?_; rintro e w6 ⟨rfl, hb⟩
  have HS := Lib.hid ((HS.out.next hb).new (rlC R2) 31)
  clear hb
  generalize hbx : w5.heap.size = bw5 at HS ⊢
  clear hbx
  go_wp2_with (first | (refine snr (W := w6) (cs := rlC R2) (zs := rlZ) (t := 31) (.tmp 11) (.tmp 54) rfl rfl rfl rfl info_roll rfl rlC_one ?_ ?_ ?_; (· rfl); (· rfl)) | (refine ldr (b := b5) (t := 24) (cs := dlC r M0) (.tmp 5) rfl rfl Tryd.underlying24 rfl info_dl rfl ?_ ?_; (· exact HS.out.ka 4 rfl)))
  refine (D2.out _ _ (HS.out.da 1 rfl)).mono ?_; rintro e w7 ⟨M2, rfl, hd, hb⟩
  have HS := Lib.hid (((HS.out.next hb).doc hd).new (dlC R2 M2) 24)
  clear hb hd
  generalize hbx : w6.heap.size = bw6 at HS ⊢
  clear hbx
  go_wp2_with (first | (refine snr (W := w7) (cs := dlC R2 M2) (zs := dlZ) (t := 24) (.tmp 13) (.tmp 60) rfl rfl rfl rfl info_dl rfl dlC_one ?_ ?_ ?_; (· rfl); (· rfl)) | (refine ldr (b := b6) (t := 31) (cs := rlC r) (.tmp 6) rfl rfl Tryd.underlying31 rfl info_roll rfl ?_ ?_; (· exact HS.out.ka 4 rfl)))
  refine (P3.out _ (HT.out _ HS.out.up)).mono ?_; rintro e w8 ⟨rfl, hb⟩
  have HS := Lib.hid ((HS.out.next hb).new (rlC R3) 31)
  clear hb
  generalize hbx : w7.heap.size = bw7 at HS ⊢
  clear hbx
  go_wp2_with (first | (refine snr (W := w8) (cs := rlC R3) (zs := rlZ) (t := 31) (.tmp 15) (.tmp 66) rfl rfl rfl rfl info_roll rfl rlC_one ?_ ?_ ?_; (· rfl); (· rfl)) | (refine ldr (b := b5) (t := 24) (cs := dlC r M0) (.tmp 5) rfl rfl Tryd.underlying24 rfl info_dl rfl ?_ ?_; (· exact HS.out.ka 6 rfl)))
  refine (D3.out _ _ (HS.out.da 2 rfl)).mono ?_; rintro e w9 ⟨M3, rfl, hd, hb⟩
  have HS := Lib.hid (((HS.out.next hb).doc hd).new (dlC R3 M3) 24)
  clear hb hd
  generalize hbx : w8.heap.size = bw8 at HS ⊢
  clear hbx
  go_wp2_with (first | (refine snr (W := w9) (cs := dlC R3 M3) (zs := dlZ) (t := 24) (.tmp 17) (.tmp 72) rfl rfl rfl rfl info_dl rfl dlC_one ?_ ?_ ?_; (· rfl); (· rfl)) | (refine ldr (b := b6) (t := 31) (cs := rlC r) (.tmp 6) rfl rfl Tryd.underlying31 rfl info_roll rfl ?_ ?_; (· exact HS.out.ka 6 rfl)))
  refine (P4.out _ (HT.out _ HS.out.up)).mono ?_; rintro e w10 ⟨rfl, hb⟩
  have HS := Lib.hid ((HS.out.next hb).new (rlC R4) 31)
  clear hb
  generalize hbx : w9.heap.size = bw9 at HS ⊢
  clear hbx
  go_wp2_with (first | (refine snr (W := w10) (cs := rlC R4) (zs := rlZ) (t := 31) (.tmp 19) (.tmp 78) rfl rfl rfl rfl info_roll rfl rlC_one ?_ ?_ ?_; (· rfl); (· rfl)) | (refine ldr (b := b5) (t := 24) (cs := dlC r M0) (.tmp 5) rfl rfl Tryd.underlying24 rfl info_dl rfl ?_ ?_; (· exact HS.out.ka 8 rfl)))
  refine (D4.out _ _ (HS.out.da 3 rfl)).mono ?_; rintro e w11 ⟨M4, rfl, hd, hb⟩
  have HS := Lib.hid (((HS.out.next hb).doc hd).new (dlC R4 M4) 24)
  clear hb hd
  generalize hbx : w10.heap.size = bw10 at HS ⊢
  clear hbx
  go_wp2_with (refine snr (W := w11) (cs := dlC R4 M4) (zs := dlZ) (t := 24) (.tmp 21) (.tmp 84) rfl rfl rfl rfl info_dl rfl dlC_one ?_ ?_ ?_; (· rfl); (· rfl))
  generalize hbx : w11.heap.size = bw11 at HS ⊢
  clear hbx
  generalize w11.alloc (.cells (dlC R4 M4).toArray 24) = wz at HS ⊢
  refine wp_region_held_drew (S := Mem w [(bw11, dlC R4 M4, 24), (bw10, rlC R4, 31), (bw9, dlC R3 M3, 24), (bw8, rlC R3, 31), (bw7, dlC R2 M2, 24), (bw6, rlC R2, 31), (bw5, dlC R1 M1, 24), (bw4, rlC R1, 31), (b6, rlC r, 31), (b5, dlC r M0, 24)] [(R4, M4), (R3, M3), (R2, M2), (R1, M1), (r, M0)]) (by kernel_rfl) (HS.out.next (up_drewN _ 1)) (fun hHeld => ?_)
  refine wpAnyH_take (i := 0) (oi := ?_) (v := (.agg (rlC R1).toArray)) ?_ (by kernel_rfl) (by kernel_rfl) (by kernel_rfl) ?_ (Or.inl ⟨?_, ?_⟩) hHeld ?_
  rotate_left 1
  · conv => lhs; simp only [List.getElem?_toArray, List.getElem?_cons_succ, List.getElem?_cons_zero]
  · exact fun _ _ _ h => h
  · rfl
  · intro W hSw
    exact tk_load rfl rfl (load_row (hSw.ka 7 rfl) Tryd.underlying31 rfl info_roll)
  try simp only [Act.put, List.setIfInBounds_toArray, List.set_cons_zero, List.set_cons_succ]
  refine wpAnyH_take (i := 2) (oi := ?_) (v := (.agg (dlC R1 M1).toArray)) ?_ (by kernel_rfl) (by kernel_rfl) (by kernel_rfl) ?_ (Or.inl ⟨?_, ?_⟩) hHeld ?_
  rotate_left 1
  · conv => lhs; simp only [List.getElem?_toArray, List.getElem?_cons_succ, List.getElem?_cons_zero]
  · exact fun _ _ _ h => h
  · rfl
  · intro W hSw
    exact tk_load rfl rfl (load_row (hSw.ka 6 rfl) Tryd.underlying24 rfl info_dl)
  try simp only [Act.put, List.setIfInBounds_toArray, List.set_cons_zero, List.set_cons_succ]
  refine wpAnyH_ready (rs := [1]) (by kernel_rfl) (by simp) ?_
  refine AllReadyH.cons (o := ?_) ?_ (fun K hK => ?_) AllReadyH.nil
  rotate_left 1
  · conv => lhs; simp only [List.getElem?_toArray, List.getElem?_cons_succ, List.getElem?_cons_zero]
  go_simp
  refine (c_from21 R1 _ (HT.out _ hHeld.up)).mono ?_
  rintro e u1 ⟨MF, rfl, hd, hb⟩
  have HD := Lib.hid hd
  clear hd
  go_wp2_with fail
  refine hK.out _ _ (hHeld.next hb) (fun hHeld => ?_)
  clear hK K
  try simp only [Act.put, List.setIfInBounds_toArray, List.set_cons_zero, List.set_cons_succ]
  refine wpAnyH_ready (rs := [3]) (by kernel_rfl) (by simp) ?_
  refine AllReadyH.cons (o := ?_) ?_ (fun K hK => ?_) AllReadyH.nil
  rotate_left 1
  · conv => lhs; simp only [List.getElem?_toArray, List.getElem?_cons_succ, List.getElem?_cons_zero]
  go_simp
  refine (c_same21 HD.out (hHeld.da 3 rfl)).mono ?_
  rintro e v1 ⟨rfl, hb⟩
  go_wp2_with fail
  refine hK.out _ _ (hHeld.next hb) (fun hHeld => ?_)
  clear hK K
  try simp only [Act.put, List.setIfInBounds_toArray, List.set_cons_zero, List.set_cons_succ]
  clear HD
  refine wpAnyH_take (i := 4) (oi := ?_) (v := ?_) ?_ (by kernel_rfl) (by kernel_rfl) (by kernel_rfl) ?_ (Or.inl ⟨?_, ?_⟩) hHeld ?_
  rotate_left 2
  · conv => lhs; simp only [List.getElem?_toArray, List.getElem?_cons_succ, List.getElem?_cons_zero]
  · exact fun _ _ _ h => h
  · rfl
  · intro W hSw
    go_simp
    try with_reducible rfl
  try simp only [Act.put, List.setIfInBounds_toArray, List.set_cons_zero, List.set_cons_succ]
  refine wpAnyH_take (i := 5) (oi := ?_) (v := ?_) ?_ (by kernel_rfl) (by kernel_rfl) (by kernel_rfl) ?_ (Or.inl ⟨?_, ?_⟩) hHeld ?_
  rotate_left 2
  · conv => lhs; simp only [List.getElem?_toArray, List.getElem?_cons_succ, List.getElem?_cons_zero]
  · exact fun _ _ _ h => h
  · rfl
  · intro W hSw
    go_simp
    try with_reducible rfl
  try simp only [Act.put, List.setIfInBounds_toArray, List.set_cons_zero, List.set_cons_succ]
  refine wpAnyH_take (i := 6) (oi := ?_) (v := ?_) ?_ (by kernel_rfl) (by kernel_rfl) (by kernel_rfl) ?_ (Or.inl ⟨?_, ?_⟩) hHeld ?_
  rotate_left 2
  · conv => lhs; simp only [List.getElem?_toArray, List.getElem?_cons_succ, List.getElem?_cons_zero]
  · exact fun _ _ _ h => h
  · rfl
  · intro W hSw
    go_simp
    try with_reducible rfl
  try simp only [Act.put, List.setIfInBounds_toArray, List.set_cons_zero, List.set_cons_succ]
  refine wpAnyH_take (i := 7) (oi := ?_) (v := ?_) ?_ (by kernel_rfl) (by kernel_rfl) (by kernel_rfl) ?_ (Or.inl ⟨?_, ?_⟩) hHeld ?_
  rotate_left 2
  · conv => lhs; simp only [List.getElem?_toArray, List.getElem?_cons_succ, List.getElem?_cons_zero]
  · exact fun _ _ _ h => h
  · rfl
  · intro W hSw
    go_simp
    try with_reducible rfl
  try simp only [Act.put, List.setIfInBounds_toArray, List.set_cons_zero, List.set_cons_succ]
  refine wpAnyH_take (i := 8) (oi := ?_) (v := ?_) ?_ (by kernel_rfl) (by kernel_rfl) (by kernel_rfl) ?_ (Or.inl ⟨?_, ?_⟩) hHeld ?_
  rotate_left 2
  · conv => lhs; simp only [List.getElem?_toArray, List.getElem?_cons_succ, List.getElem?_cons_zero]
  · exact fun _ _ _ h => h
  · rfl
  · intro W hSw
    go_simp
    try with_reducible rfl
  try simp only [Act.put, List.setIfInBounds_toArray, List.set_cons_zero, List.set_cons_succ]
  refine wpAnyH_take (i := 9) (oi := ?_) (v := ?_) ?_ (by kernel_rfl) (by kernel_rfl) (by kernel_rfl) ?_ (Or.inl ⟨?_, ?_⟩) hHeld ?_
  rotate_left 2
  · conv => lhs; simp only [List.getElem?_toArray, List.getElem?_cons_succ, List.getElem?_cons_zero]
  · exact fun _ _ _ h => h
  · rfl
  · intro W hSw
    go_simp
    try with_reducible rfl
  try simp only [Act.put, List.setIfInBounds_toArray, List.set_cons_zero, List.set_cons_succ]
  refine wpAnyH_take (i := 10) (oi := ?_) (v := (.agg (rlC R2).toArray)) ?_ (by kernel_rfl) (by kernel_rfl) (by kernel_rfl) ?_ (Or.inl ⟨?_, ?_⟩) hHeld ?_
  rotate_left 1
  · conv => lhs; simp only [List.getElem?_toArray, List.getElem?_cons_succ, List.getElem?_cons_zero]
  · exact fun _ _ _ h => h
  · rfl
  · intro W hSw
    exact tk_load rfl rfl (load_row (hSw.ka 5 rfl) Tryd.underlying31 rfl info_roll)
  try simp only [Act.put, List.setIfInBounds_toArray, List.set_cons_zero, List.set_cons_succ]
  refine wpAnyH_take (i := 12) (oi := ?_) (v := (.agg (dlC R2 M2).toArray)) ?_ (by kernel_rfl) (by kernel_rfl) (by kernel_rfl) ?_ (Or.inl ⟨?_, ?_⟩) hHeld ?_
  rotate_left 1
  · conv => lhs; simp only [List.getElem?_toArray, List.getElem?_cons_succ, List.getElem?_cons_zero]
  · exact fun _ _ _ h => h
  · rfl
  · intro W hSw
    exact tk_load rfl rfl (load_row (hSw.ka 4 rfl) Tryd.underlying24 rfl info_dl)
  try simp only [Act.put, List.setIfInBounds_toArray, List.set_cons_zero, List.set_cons_succ]
  refine wpAnyH_ready (rs := [11]) (by kernel_rfl) (by simp) ?_
  refine AllReadyH.cons (o := ?_) ?_ (fun K hK => ?_) AllReadyH.nil
  rotate_left 1
  · conv => lhs; simp only [List.getElem?_toArray, List.getElem?_cons_succ, List.getElem?_cons_zero]
  go_simp
  refine (c_from21 R2 _ (HT.out _ hHeld.up)).mono ?_
  rintro e u2 ⟨MF, rfl, hd, hb⟩
  have HD := Lib.hid hd
  clear hd
  go_wp2_with fail
  refine hK.out _ _ (hHeld.next hb) (fun hHeld => ?_)
  clear hK K
  try simp only [Act.put, List.setIfInBounds_toArray, List.set_cons_zero, List.set_cons_succ]
  refine wpAnyH_ready (rs := [13]) (by kernel_rfl) (by simp) ?_
  refine AllReadyH.cons (o := ?_) ?_ (fun K hK => ?_) AllReadyH.nil
  rotate_left 1
  · conv => lhs; simp only [List.getElem?_toArray, List.getElem?_cons_succ, List.getElem?_cons_zero]
  go_simp
  refine (c_same21 HD.out (hHeld.da 2 rfl)).mono ?_
  rintro e v2 ⟨rfl, hb⟩
  go_wp2_with fail
  refine hK.out _ _ (hHeld.next hb) (fun hHeld => ?_)
  clear hK K
  try simp only [Act.put, List.setIfInBounds_toArray, List.set_cons_zero, List.set_cons_succ]
  clear HD
  refine wpAnyH_take (i := 14) (oi := ?_) (v := ?_) ?_ (by kernel_rfl) (by kernel_rfl) (by kernel_rfl) ?_ (Or.inl ⟨?_, ?_⟩) hHeld ?_
  rotate_left 2
  · conv => lhs; simp only [List.getElem?_toArray, List.getElem?_cons_succ, List.getElem?_cons_zero]
  · exact fun _ _ _ h => h
  · rfl
  · intro W hSw
    go_simp
    try with_reducible rfl
  try simp only [Act.put, List.setIfInBounds_toArray, List.set_cons_zero, List.set_cons_succ]
  refine wpAnyH_take (i := 15) (oi := ?_) (v := ?_) ?_ (by kernel_rfl) (by kernel_rfl) (by kernel_rfl) ?_ (Or.inl ⟨?_, ?_⟩) hHeld ?_
  rotate_left 2
  · conv => lhs; simp only [List.getElem?_toArray, List.getElem?_cons_succ, List.getElem?_cons_zero]
  · exact fun _ _ _ h => h
  · rfl
  · intro W hSw
    go_simp
    try with_reducible rfl
  try simp only [Act.put, List.setIfInBounds_toArray, List.set_cons_zero, List.set_cons_succ]
  refine wpAnyH_take (i := 16) (oi := ?_) (v := ?_) ?_ (by kernel_rfl) (by kernel_rfl) (by kernel_rfl) ?_ (Or.inl ⟨?_, ?_⟩) hHeld ?_
  rotate_left 2
  · conv => lhs; simp only [List.getElem?_toArray, List.getElem?_cons_succ, List.getElem?_cons_zero]
  · exact fun _ _ _ h => h
  · rfl
  · intro W hSw
    go_simp
    try with_reducible rfl
  try simp only [Act.put, List.setIfInBounds_toArray, List.set_cons_zero, List.set_cons_succ]
  refine wpAnyH_take (i := 17) (oi := ?_) (v := ?_) ?_ (by kernel_rfl) (by kernel_rfl) (by kernel_rfl) ?_ (Or.inl ⟨?_, ?_⟩) hHeld ?_
  rotate_left 2
  · conv => lhs; simp only [List.getElem?_toArray, List.getElem?_cons_succ, List.getElem?_cons_zero]
  · exact fun _ _ _ h => h
  · rfl
  · intro W hSw
    go_simp
    try with_reducible rfl
  try simp only [Act.put, List.setIfInBounds_toArray, List.set_cons_zero, List.set_cons_succ]
  refine wpAnyH_take (i := 18) (oi := ?_) (v := ?_) ?_ (by kernel_rfl) (by kernel_rfl) (by kernel_rfl) ?_ (Or.inl ⟨?_, ?_⟩) hHeld ?_
  rotate_left 2
  · conv => lhs; simp only [List.getElem?_toArray, List.getElem?_cons_succ, List.getElem?_cons_zero]
  · exact fun _ _ _ h => h
  · rfl
  · intro W hSw
    go_simp
    try with_reducible rfl
  try simp only [Act.put, List.setIfInBounds_toArray, List.set_cons_zero, List.set_cons_succ]
  refine wpAnyH_take (i := 19) (oi := ?_) (v := ?_) ?_ (by kernel_rfl) (by kernel_rfl) (by kernel_rfl) ?_ (Or.inl ⟨?_, ?_⟩) hHeld ?_
  rotate_left 2
  · conv => lhs; simp only [List.getElem?_toArray, List.getElem?_cons_succ, List.getElem?_cons_zero]
  · exact fun _ _ _ h => h
  · rfl
  · intro W hSw
    go_simp
    try with_reducible rfl
  try simp only [Act.put, List.setIfInBounds_toArray, List.set_cons_zero, List.set_cons_succ]
  refine wpAnyH_take (i := 20) (oi := ?_) (v := ?_) ?_ (by kernel_rfl) (by kernel_rfl) (by kernel_rfl) ?_ (Or.inl ⟨?_, ?_⟩) hHeld ?_
  rotate_left 2
  · conv => lhs; simp only [List.getElem?_toArray, List.getElem?_cons_succ, List.getElem?_cons_zero]
  · exact fun _ _ _ h => h
  · rfl
  · intro W hSw
    go_simp
    try with_reducible rfl
  try simp only [Act.put, List.setIfInBounds_toArray, List.set_cons_zero, List.set_cons_succ]
  refine wpAnyH_take (i := 21) (oi := ?_) (v := (.agg (rlC R3).toArray)) ?_ (by kernel_rfl) (by kernel_rfl) (by kernel_rfl) ?_ (Or.inl ⟨?_, ?_⟩) hHeld ?_
  rotate_left 1
  · conv => lhs; simp only [List.getElem?_toArray, List.getElem?_cons_succ, List.getElem?_cons_zero]
  · exact fun _ _ _ h => h
  · rfl
  · intro W hSw
    exact tk_load rfl rfl (load_row (hSw.ka 3 rfl) Tryd.underlying31 rfl info_roll)
  try simp only [Act.put, List.setIfInBounds_toArray, List.set_cons_zero, List.set_cons_succ]
  refine wpAnyH_take (i := 23) (oi := ?_) (v := (.agg (dlC R3 M3).toArray)) ?_ (by kernel_rfl) (by kernel_rfl) (by kernel_rfl) ?_ (Or.inl ⟨?_, ?_⟩) hHeld ?_
  rotate_left 1
  · conv => lhs; simp only [List.getElem?_toArray, List.getElem?_cons_succ, List.getElem?_cons_zero]
  · exact fun _ _ _ h => h
  · rfl
  · intro W hSw
    exact tk_load rfl rfl (load_row (hSw.ka 2 rfl) Tryd.underlying24 rfl info_dl)
  try simp only [Act.put, List.setIfInBounds_toArray, List.set_cons_zero, List.set_cons_succ]
  refine wpAnyH_ready (rs := [22]) (by kernel_rfl) (by simp) ?_
  refine AllReadyH.cons (o := ?_) ?_ (fun K hK => ?_) AllReadyH.nil
  rotate_left 1
  · conv => lhs; simp only [List.getElem?_toArray, List.getElem?_cons_succ, List.getElem?_cons_zero]
  go_simp
  refine (c_from21 R3 _ (HT.out _ hHeld.up)).mono ?_
  rintro e u3 ⟨MF, rfl, hd, hb⟩
  have HD := Lib.hid hd
  clear hd
  go_wp2_with fail
  refine hK.out _ _ (hHeld.next hb) (fun hHeld => ?_)
  clear hK K
  try simp only [Act.put, List.setIfInBounds_toArray, List.set_cons_zero, List.set_cons_succ]
  refine wpAnyH_ready (rs := [24]) (by kernel_rfl) (by simp) ?_
  refine AllReadyH.cons (o := ?_) ?_ (fun K hK => ?_) AllReadyH.nil
  rotate_left 1
  · conv => lhs; simp only [List.getElem?_toArray, List.getElem?_cons_succ, List.getElem?_cons_zero]
  go_simp
  refine (c_same21 HD.out (hHeld.da 1 rfl)).mono ?_
  rintro e v3 ⟨rfl, hb⟩
  go_wp2_with fail
  refine hK.out _ _ (hHeld.next hb) (fun hHeld => ?_)
  clear hK K
  try simp only [Act.put, List.setIfInBounds_toArray, List.set_cons_zero, List.set_cons_succ]
  clear HD
  refine wpAnyH_take (i := 25) (oi := ?_) (v := ?_) ?_ (by kernel_rfl) (by kernel_rfl) (by kernel_rfl) ?_ (Or.inl ⟨?_, ?_⟩) hHeld ?_
  rotate_left 2
  · conv => lhs; simp only [List.getElem?_toArray, List.getElem?_cons_succ, List.getElem?_cons_zero]
  · exact fun _ _ _ h => h
  · rfl
  · intro W hSw
    go_simp
    try with_reducible rfl
  try simp only [Act.put, List.setIfInBounds_toArray, List.set_cons_zero, List.set_cons_succ]
  refine wpAnyH_take (i := 26) (oi := ?_) (v := ?_) ?_ (by kernel_rfl) (by kernel_rfl) (by kernel_rfl) ?_ (Or.inl ⟨?_, ?_⟩) hHeld ?_
  rotate_left 2
  · conv => lhs; simp only [List.getElem?_toArray, List.getElem?_cons_succ, List.getElem?_cons_zero]
  · exact fun _ _ _ h => h
  · rfl
  · intro W hSw
    go_simp
    try with_reducible rfl
  try simp only [Act.put, List.setIfInBounds_toArray, List.set_cons_zero, List.set_cons_succ]
  refine wpAnyH_take (i := 27) (oi := ?_) (v := ?_) ?_ (by kernel_rfl) (by kernel_rfl) (by kernel_rfl) ?_ (Or.inl ⟨?_, ?_⟩) hHeld ?_
  rotate_left 2
  · conv => lhs; simp only [List.getElem?_toArray, List.getElem?_cons_succ, List.getElem?_cons_zero]
  · exact fun _ _ _ h => h
  · rfl
  · intro W hSw
    go_simp
    try with_reducible rfl
  try simp only [Act.put, List.setIfInBounds_toArray, List.set_cons_zero, List.set_cons_succ]
  refine wpAnyH_take (i := 28) (oi := ?_) (v := ?_) ?_ (by kernel_rfl) (by kernel_rfl) (by kernel_rfl) ?_ (Or.inl ⟨?_, ?_⟩) hHeld ?_
  rotate_left 2
  · conv => lhs; simp only [List.getElem?_toArray, List.getElem?_cons_succ, List.getElem?_cons_zero]
  · exact fun _ _ _ h => h
  · rfl
  · intro W hSw
    go_simp
    try with_reducible rfl
  try simp only [Act.put, List.setIfInBounds_toArray, List.set_cons_zero, List.set_cons_succ]
  refine wpAnyH_take (i := 29) (oi := ?_) (v := ?_) ?_ (by kernel_rfl) (by kernel_rfl) (by kernel_rfl) ?_ (Or.inl ⟨?_, ?_⟩) hHeld ?_
  rotate_left 2
  · conv => lhs; simp only [List.getElem?_toArray, List.getElem?_cons_succ, List.getElem?_cons_zero]
  · exact fun _ _ _ h => h
  · rfl
  · intro W hSw
    go_simp
    try with_reducible rfl
  try simp only [Act.put, List.setIfInBounds_toArray, List.set_cons_zero, List.set_cons_succ]
  refine wpAnyH_take (i := 30) (oi := ?_) (v := ?_) ?_ (by kernel_rfl) (by kernel_rfl) (by kernel_rfl) ?_ (Or.inl ⟨?_, ?_⟩) hHeld ?_
  rotate_left 2
  · conv => lhs; simp only [List.getElem?_toArray, List.getElem?_cons_succ, List.getElem?_cons_zero]
  · exact fun _ _ _ h => h
  · rfl
  · intro W hSw
    go_simp
    try with_reducible rfl
  try simp only [Act.put, List.setIfInBounds_toArray, List.set_cons_zero, List.set_cons_succ]
  refine wpAnyH_take (i := 31) (oi := ?_) (v := ?_) ?_ (by kernel_rfl) (by kernel_rfl) (by kernel_rfl) ?_ (Or.inl ⟨?_, ?_⟩) hHeld ?_
  rotate_left 2
  · conv => lhs; simp only [List.getElem?_toArray, List.getElem?_cons_succ, List.getElem?_cons_zero]
  · exact fun _ _ _ h => h
  · rfl
  · intro W hSw
    go_simp
    try with_reducible rfl
  try simp only [Act.put, List.setIfInBounds_toArray, List.set_cons_zero, List.set_cons_succ]
  refine wpAnyH_take (i := 32) (oi := ?_) (v := (.agg (rlC R4).toArray)) ?_ (by kernel_rfl) (by kernel_rfl) (by kernel_rfl) ?_ (Or.inl ⟨?_, ?_⟩) hHeld ?_
  rotate_left 1
  · conv => lhs; simp only [List.getElem?_toArray, List.getElem?_cons_succ, List.getElem?_cons_zero]
  · exact fun _ _ _ h => h
  · rfl
  · intro W hSw
    exact tk_load rfl rfl (load_row (hSw.ka 1 rfl) Tryd.underlying31 rfl info_roll)
  try simp only [Act.put, List.setIfInBounds_toArray, List.set_cons_zero, List.set_cons_succ]
  refine wpAnyH_take (i := 34) (oi := ?_) (v := (.agg (dlC R4 M4).toArray)) ?_ (by kernel_rfl) (by kernel_rfl) (by kernel_rfl) ?_ (Or.inl ⟨?_, ?_⟩) hHeld ?_
  rotate_left 1
  · conv => lhs; simp only [List.getElem?_toArray, List.getElem?_cons_succ, List.getElem?_cons_zero]
  · exact fun _ _ _ h => h
  · rfl
  · intro W hSw
    exact tk_load rfl rfl (load_row (hSw.ka 0 rfl) Tryd.underlying24 rfl info_dl)
  try simp only [Act.put, List.setIfInBounds_toArray, List.set_cons_zero, List.set_cons_succ]
  refine wpAnyH_ready (rs := [33]) (by kernel_rfl) (by simp) ?_
  refine AllReadyH.cons (o := ?_) ?_ (fun K hK => ?_) AllReadyH.nil
  rotate_left 1
  · conv => lhs; simp only [List.getElem?_toArray, List.getElem?_cons_succ, List.getElem?_cons_zero]
  go_simp
  refine (c_from21 R4 _ (HT.out _ hHeld.up)).mono ?_
  rintro e u4 ⟨MF, rfl, hd, hb⟩
  have HD := Lib.hid hd
  clear hd
  go_wp2_with fail
  refine hK.out _ _ (hHeld.next hb) (fun hHeld => ?_)
  clear hK K
  try simp only [Act.put, List.setIfInBounds_toArray, List.set_cons_zero, List.set_cons_succ]
  refine wpAnyH_ready (rs := [35]) (by kernel_rfl) (by simp) ?_
  refine AllReadyH.cons (o := ?_) ?_ (fun K hK => ?_) AllReadyH.nil
  rotate_left 1
  · conv => lhs; simp only [List.getElem?_toArray, List.getElem?_cons_succ, List.getElem?_cons_zero]
  go_simp
  refine (c_same21 HD.out (hHeld.da 0 rfl)).mono ?_
  rintro e v4 ⟨rfl, hb⟩
  go_wp2_with fail
  refine hK.out _ _ (hHeld.next hb) (fun hHeld => ?_)
  clear hK K
  try simp only [Act.put, List.setIfInBounds_toArray, List.set_cons_zero, List.set_cons_succ]
  clear HD
  refine wpAnyH_take (i := 36) (oi := ?_) (v := ?_) ?_ (by kernel_rfl) (by kernel_rfl) (by kernel_rfl) ?_ (Or.inl ⟨?_, ?_⟩) hHeld ?_
  rotate_left 2
  · conv => lhs; simp only [List.getElem?_toArray, List.getElem?_cons_succ, List.getElem?_cons_zero]
  · exact fun _ _ _ h => h
  · rfl
  · intro W hSw
    go_simp
    try with_reducible rfl
  try simp only [Act.put, List.setIfInBounds_toArray, List.set_cons_zero, List.set_cons_succ]
  refine wpAnyH_take (i := 37) (oi := ?_) (v := ?_) ?_ (by kernel_rfl) (by kernel_rfl) (by kernel_rfl) ?_ (Or.inl ⟨?_, ?_⟩) hHeld ?_
  rotate_left 2
  · conv => lhs; simp only [List.getElem?_toArray, List.getElem?_cons_succ, List.getElem?_cons_zero]
  · exact fun _ _ _ h => h
  · rfl
  · intro W hSw
    go_simp
    try with_reducible rfl
  try simp only [Act.put, List.setIfInBounds_toArray, List.set_cons_zero, List.set_cons_succ]
  refine wpAnyH_take (i := 38) (oi := ?_) (v := ?_) ?_ (by kernel_rfl) (by kernel_rfl) (by kernel_rfl) ?_ (Or.inl ⟨?_, ?_⟩) hHeld ?_
  rotate_left 2
  · conv => lhs; simp only [List.getElem?_toArray, List.getElem?_cons_succ, List.getElem?_cons_zero]
  · exact fun _ _ _ h => h
  · rfl
  · intro W hSw
    go_simp
    try with_reducible rfl
  try simp only [Act.put, List.setIfInBounds_toArray, List.set_cons_zero, List.set_cons_succ]
  refine wpAnyH_take (i := 39) (oi := ?_) (v := ?_) ?_ (by kernel_rfl) (by kernel_rfl) (by kernel_rfl) ?_ (Or.inl ⟨?_, ?_⟩) hHeld ?_
  rotate_left 2
  · conv => lhs; simp only [List.getElem?_toArray, List.getElem?_cons_succ, List.getElem?_cons_zero]
  · exact fun _ _ _ h => h
  · rfl
  · intro W hSw
    go_simp
    try with_reducible rfl
  try simp only [Act.put, List.setIfInBounds_toArray, List.set_cons_zero, List.set_cons_succ]
  refine wpAnyH_take (i := 40) (oi := ?_) (v := ?_) ?_ (by kernel_rfl) (by kernel_rfl) (by kernel_rfl) ?_ (Or.inl ⟨?_, ?_⟩) hHeld ?_
  rotate_left 2
  · conv => lhs; simp only [List.getElem?_toArray, List.getElem?_cons_succ, List.getElem?_cons_zero]
  · exact fun _ _ _ h => h
  · rfl
  · intro W hSw
    go_simp
    try with_reducible rfl
  try simp only [Act.put, List.setIfInBounds_toArray, List.set_cons_zero, List.set_cons_succ]
  refine wpAnyH_take (i := 41) (oi := ?_) (v := ?_) ?_ (by kernel_rfl) (by kernel_rfl) (by kernel_rfl) ?_ (Or.inl ⟨?_, ?_⟩) hHeld ?_
  rotate_left 2
  · conv => lhs; simp only [List.getElem?_toArray, List.getElem?_cons_succ, List.getElem?_cons_zero]
  · exact fun _ _ _ h => h
  · rfl
  · intro W hSw
    go_simp
    try with_reducible rfl
  try simp only [Act.put, List.setIfInBounds_toArray, List.set_cons_zero, List.set_cons_succ]
  refine wpAnyH_take (i := 42) (oi := ?_) (v := ?_) ?_ (by kernel_rfl) (by kernel_rfl) (by kernel_rfl) ?_ (Or.inl ⟨?_, ?_⟩) hHeld ?_
  rotate_left 2
  · conv => lhs; simp only [List.getElem?_toArray, List.getElem?_cons_succ, List.getElem?_cons_zero]
  · exact fun _ _ _ h => h
  · rfl
  · intro W hSw
    go_simp
    try with_reducible rfl
  try simp only [Act.put, List.setIfInBounds_toArray, List.set_cons_zero, List.set_cons_succ]
  refine wpAnyH_take (i := 43) (oi := ?_) (v := (.agg (rlC r).toArray)) ?_ (by kernel_rfl) (by kernel_rfl) (by kernel_rfl) ?_ (Or.inl ⟨?_, ?_⟩) hHeld ?_
  rotate_left 1
  · conv => lhs; simp only [List.getElem?_toArray, List.getElem?_cons_succ, List.getElem?_cons_zero]
  · exact fun _ _ _ h => h
  · rfl
  · intro W hSw
    exact tk_load rfl rfl (load_row (hSw.ka 8 rfl) Tryd.underlying31 rfl info_roll)
  try simp only [Act.put, List.setIfInBounds_toArray, List.set_cons_zero, List.set_cons_succ]
  refine wpAnyH_take (i := 45) (oi := ?_) (v := (.agg (dlC r M0).toArray)) ?_ (by kernel_rfl) (by kernel_rfl) (by kernel_rfl) ?_ (Or.inl ⟨?_, ?_⟩) hHeld ?_
  rotate_left 1
  · conv => lhs; simp only [List.getElem?_toArray, List.getElem?_cons_succ, List.getElem?_cons_zero]
  · exact fun _ _ _ h => h
  · rfl
  · intro W hSw
    exact tk_load rfl rfl (load_row (hSw.ka 9 rfl) Tryd.underlying24 rfl info_dl)
  try simp only [Act.put, List.setIfInBounds_toArray, List.set_cons_zero, List.set_cons_succ]
  refine wpAnyH_ready (rs := [44]) (by kernel_rfl) (by simp) ?_
  refine AllReadyH.cons (o := ?_) ?_ (fun K hK => ?_) AllReadyH.nil
  rotate_left 1
  · conv => lhs; simp only [List.getElem?_toArray, List.getElem?_cons_succ, List.getElem?_cons_zero]
  go_simp
  refine (P5.out _ (HT.out _ hHeld.up)).mono ?_
  rintro e u5 ⟨rfl, hb⟩
  go_wp2_with fail
  refine hK.out _ _ (hHeld.next hb) (fun hHeld => ?_)
  clear hK K
  try simp only [Act.put, List.setIfInBounds_toArray, List.set_cons_zero, List.set_cons_succ]
  refine wpAnyH_ready (rs := [46]) (by kernel_rfl) (by simp) ?_
  refine AllReadyH.cons (o := ?_) ?_ (fun K hK => ?_) AllReadyH.nil
  rotate_left 1
  · conv => lhs; simp only [List.getElem?_toArray, List.getElem?_cons_succ, List.getElem?_cons_zero]
  go_simp
  refine (D5.out _ _ (hHeld.da 4 rfl)).mono ?_
  rintro e v5 ⟨rfl, hb⟩
  go_wp2_with fail
  refine hK.out _ _ (hHeld.next hb) (fun hHeld => ?_)
  clear hK K
  try simp only [Act.put, List.setIfInBounds_toArray, List.set_cons_zero, List.set_cons_succ]
  refine wpAnyH_take (i := 47) (oi := ?_) (v := ?_) ?_ (by kernel_rfl) (by kernel_rfl) (by kernel_rfl) ?_ (Or.inl ⟨?_, ?_⟩) hHeld ?_
  rotate_left 2
  · conv => lhs; simp only [List.getElem?_toArray, List.getElem?_cons_succ, List.getElem?_cons_zero]
  · exact fun _ _ _ h => h
  · rfl
  · intro W hSw
    go_simp
    try with_reducible rfl
  try simp only [Act.put, List.setIfInBounds_toArray, List.set_cons_zero, List.set_cons_succ]
  refine wpAnyH_take (i := 48) (oi := ?_) (v := ?_) ?_ (by kernel_rfl) (by kernel_rfl) (by kernel_rfl) ?_ (Or.inl ⟨?_, ?_⟩) hHeld ?_
  rotate_left 2
  · conv => lhs; simp only [List.getElem?_toArray, List.getElem?_cons_succ, List.getElem?_cons_zero]
  · exact fun _ _ _ h => h
  · rfl
  · intro W hSw
    go_simp
    try with_reducible rfl
  try simp only [Act.put, List.setIfInBounds_toArray, List.set_cons_zero, List.set_cons_succ]
  refine wpAnyH_take (i := 49) (oi := ?_) (v := ?_) ?_ (by kernel_rfl) (by kernel_rfl) (by kernel_rfl) ?_ (Or.inl ⟨?_, ?_⟩) hHeld ?_
  rotate_left 2
  · conv => lhs; simp only [List.getElem?_toArray, List.getElem?_cons_succ, List.getElem?_cons_zero]
  · exact fun _ _ _ h => h
  · rfl
  · intro W hSw
    go_simp
    try with_reducible rfl
  try simp only [Act.put, List.setIfInBounds_toArray, List.set_cons_zero, List.set_cons_succ]
  refine wpAnyH_ready (rs := [50]) (by kernel_rfl) (by simp) ?_
  refine AllReadyH.cons (o := ?_) ?_ (fun K hK => ?_) AllReadyH.nil
  rotate_left 1
  · conv => lhs; simp only [List.getElem?_toArray, List.getElem?_cons_succ, List.getElem?_cons_zero]
  go_simp
  refine (c_alive21 _ (HT.out _ hHeld.up)).mono ?_
  rintro e v6 ⟨rfl, hb⟩
  go_wp2_with fail
  refine hK.out _ _ (hHeld.next hb) (fun hHeld => ?_)
  clear hK K
  try simp only [Act.put, List.setIfInBounds_toArray, List.set_cons_zero, List.set_cons_succ]
  refine wpAnyH_take (i := 51) (oi := ?_) (v := ?_) ?_ (by kernel_rfl) (by kernel_rfl) (by kernel_rfl) ?_ (Or.inl ⟨?_, ?_⟩) hHeld ?_
  rotate_left 2
  · conv => lhs; simp only [List.getElem?_toArray, List.getElem?_cons_succ, List.getElem?_cons_zero]
  · exact fun _ _ _ h => h
  · rfl
  · intro W hSw
    go_simp
    try with_reducible rfl
  try simp only [Act.put, List.setIfInBounds_toArray, List.set_cons_zero, List.set_cons_succ]
  refine wpAnyH_take (i := 52) (oi := ?_) (v := ?_) ?_ (by kernel_rfl) (by kernel_rfl) (by kernel_rfl) ?_ (Or.inl ⟨?_, ?_⟩) hHeld ?_
  rotate_left 2
  · conv => lhs; simp only [List.getElem?_toArray, List.getElem?_cons_succ, List.getElem?_cons_zero]
  · exact fun _ _ _ h => h
  · rfl
  · intro W hSw
    go_simp
    try with_reducible rfl
  try simp only [Act.put, List.setIfInBounds_toArray, List.set_cons_zero, List.set_cons_succ]
  refine wpAnyH_done (by kernel_rfl) ?_ _
  go_wp2
  go_ret
  exact ⟨rfl, hHeld.up⟩
end Go.Proofs.YtlplfnfaoaomkaaDoor

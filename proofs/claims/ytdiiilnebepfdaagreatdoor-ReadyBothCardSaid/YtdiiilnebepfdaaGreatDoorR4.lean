/- The law's alive of layer 29: its calls' contracts, its view. The law's alive of layer 29. -/
import Derived.Test.YtdiiilnebepfdaaGreatDoorRpr
import Derived.Test.YtdiiilnebepfdaaGreatDoorRpc
import Derived.Test.YtdiiilnebepfdaaGreatDoorC5
import Derived.Test.YtdiiilnebepfdaaGreatDoorYm
import Derived.Test.YtdiiilnebepfdaaGreatDoorRem
import Derived.Test.YtdiiilnebepfdaaGreatDoorR1
import Derived.Test.YtdiiilnebepfdaaGreatDoorA1
namespace Go.Proofs.YtdiiilnebepfdaaGreatDoor
open Go.RowKit

/-- A table, a place and an error, evaluated. -/
def TabP9 (w : World) (n : Nat) (Cs : List CP) (b : Nat) (e : Ending) (w' : World) : Prop :=
  ∃ A c L, e = .returned (.tuple #[.slice A n c, .int .i64 0, .int .i64 0]) ∧ TbW w' ctAny A n c L ∧ L.map Prod.fst = Cs ∧ fewL b L ∧ Below w.heap.size w w'
theorem al9_new {T : List CP} (h1 : newL [⟨0, 0, 0, 0⟩] = T) (h2 : newR [⟨0, 0, 0, 0⟩] = (0, 0)) (h3 : T.length = 1) (W : World) :
    Calls Tryz.prog 18 #[.slice (some ⟨W.heap.size, 0, none⟩) 1 1] (W.alloc (.cells #[.int .i64 0, .int .i64 0, .int .i64 0, .int .i64 0] 73)) (TabP9 (W.alloc (.cells #[.int .i64 0, .int .i64 0, .int .i64 0, .int .i64 0] 73)) 1 T 0) := by
  refine (c_rtnew (l := [⟨0, 0, 0, 0⟩]) (RD.of_blk (xs := [.int .i64 0, .int .i64 0, .int .i64 0, .int .i64 0]) (Blk.new W [.int .i64 0, .int .i64 0, .int .i64 0, .int .i64 0] 73) rfl trivial : RD _ tt 4 _ 1 _) rfl).mono ?_
  rintro e w' ⟨A, m, c, L, rfl, hT, hm, hb⟩
  have hmn : m = 1 := by rw [← hT.len, ← h3, ← h1, ← hm, List.length_map]
  subst hmn
  exact ⟨A, c, L, by rw [h2]; rfl, hT, hm.trans h1, few_new hm, hb⟩
theorem al9_offer {w : World} {A B : Option Addr} {n c m d : Nat} {L : List CQ} {gs : List GD} {U : List CP} {b : Nat} {p : Int} {al : Bool} (h : TbW w ctAny A n c L) (hR : RD w tt 5 B m (gs.flatMap gdC)) (hl : gs.length = m) (hf : fewL b L) (hb : b + m ≤ 1000) (hn : n ≤ 1000) (hr : offRun p al (L.map Prod.fst) 0 gs = (U, 0, 0)) :
    Calls Tryz.prog 19 #[.slice A n c, .int .i64 p, .slice B m d, .bool al] w (TabP9 w n U (b + m)) := by
  refine (c_rtoffer h hR hl hf hb hn p al).mono ?_
  rintro e w' ⟨A', c', L', rfl, hT, hm, _, hf, hb⟩
  rw [hr] at hm ⊢
  exact ⟨A', c', L', rfl, hT, hm rfl, hf, hb⟩
/-- alive's view. -/
def al9Q (A : Option Addr) (c : Nat) (L : List CQ) (b g3 g5 : Nat) : VQ := ⟨0, A, c, L, none, 0, [], some ⟨b, 0, none⟩, 2, [⟨3, some ⟨g3, 0, none⟩, 1, alW3⟩, ⟨5, some ⟨g5, 0, none⟩, 2, alW5⟩], none, 0, [], none, 0, []⟩
theorem al9_view {w : World} {A : Option Addr} {c : Nat} {L : List CQ} {b g3 g5 : Nat} (h : TbW w ctAny A 1 c L) (hb : Blk w b [.int .i64 3, .slice (some ⟨g3, 0, none⟩) 1 1, .int .i64 5, .slice (some ⟨g5, 0, none⟩) 2 2] 67)
    (h3 : RD w tt 5 (some ⟨g3, 0, none⟩) 1 (alW3.flatMap gdC)) (h5 : RD w tt 5 (some ⟨g5, 0, none⟩) 2 (alW5.flatMap gdC)) : VX w (al9Q A c L b g3 g5) [] := by
  have hl := h.len
  refine ⟨⟨?_, ⟨?_, rfl, ?_⟩, RD.nil _ _ _ _, RD.nil _ _ _ _⟩, TW.none _ _ _, rfl, Nat.zero_le _⟩
  · show TbW w ctAny A L.length c L
    rw [hl]
    exact h
  · exact RD.of_blk (xs := [.int .i64 3, .slice (some ⟨g3, 0, none⟩) 1 1, .int .i64 5, .slice (some ⟨g5, 0, none⟩) 2 2]) hb rfl trivial
  · intro q hq
    simp only [al9Q, List.mem_cons, List.not_mem_nil, or_false] at hq
    rcases hq with rfl | rfl
    · exact h3
    · exact h5
theorem al9_few {A : Option Addr} {c : Nat} {L : List CQ} {b g3 g5 : Nat} (hl : L.length = 1) (hf : fewL 20 L) : Few (al9Q A c L b g3 g5) := by
  refine ⟨?_, hf, by simp [al9Q], by simp [al9Q], ?_, by simp [al9Q], ?_, by simp [al9Q]⟩
  · show L.length ≤ 10
    omega
  · intro q hq
    simp only [al9Q, List.mem_cons, List.not_mem_nil, or_false] at hq
    rcases hq with rfl | rfl
    · exact ⟨show alW3.length ≤ 8 by decide, ⟨show (0 : Int) ≤ 3 by decide, show (3 : Int) ≤ 15 by decide⟩, show ∀ g ∈ alW3, 0 ≤ g.n ∧ g.n ≤ 5 by simp [alW3]⟩
    · exact ⟨show alW5.length ≤ 8 by decide, ⟨show (0 : Int) ≤ 5 by decide, show (5 : Int) ≤ 15 by decide⟩, show ∀ g ∈ alW5, 0 ≤ g.n ∧ g.n ≤ 5 by simp [alW5]⟩
  · intro t ht
    simp [al9Q] at ht
theorem al9_p {A : Option Addr} {c : Nat} {L : List CQ} {b g3 g5 : Nat} {V : List CP} (h : L.map Prod.fst = V) : (al9Q A c L b g3 g5).p = alV V := by
  subst h
  rfl
end Go.Proofs.YtdiiilnebepfdaaGreatDoor

namespace Go.Proofs.YtdiiilnebepfdaaGreatDoor
open Go.RowKit

theorem rd_a3 (W : World) : RD (W.alloc (.cells #[.int .i64 2, .int .i64 0, .int .i64 7, .int .i64 0, .int .i64 0] 63)) tt 5 (some ⟨W.heap.size, 0, none⟩) 1 (alW3.flatMap gdC) := RD.of_blk (Blk.new W [.int .i64 2, .int .i64 0, .int .i64 7, .int .i64 0, .int .i64 0] 63) rfl trivial
theorem rd_a5 (W : World) : RD (W.alloc (.cells #[.int .i64 1, .int .i64 0, .int .i64 0, .int .i64 1, .int .i64 0, .int .i64 5, .int .i64 0, .int .i64 0, .int .i64 0, .int .i64 1] 63)) tt 5 (some ⟨W.heap.size, 0, none⟩) 2 (alW5.flatMap gdC) := RD.of_blk (Blk.new W [.int .i64 1, .int .i64 0, .int .i64 0, .int .i64 1, .int .i64 0, .int .i64 5, .int .i64 0, .int .i64 0, .int .i64 0, .int .i64 1] 63) rfl trivial
set_option maxRecDepth 100000 in
set_option maxHeartbeats 4000000 in
theorem c_alive29 (w : World) (hT : TabD w) : Calls Tryz.prog 6 #[] w fun e w' => e = .returned (.bool true) ∧ Below w.heap.size w w' := by
  obtain ⟨T, U, V, f1, f2, f3, f4, f5, f6, f7, f8, f9⟩ := al29_facts
  have CN := Lib.hid (al9_new f1 f2 f3)
  have F4 := Lib.hid f4
  have F5 := Lib.hid f5
  have F6 := Lib.hid f6
  have F7 := Lib.hid f7
  have F8 := Lib.hid f8
  have F9 := Lib.hid f9
  have HTD := Lib.hid hT
  clear hT f1 f2 f3 f4 f5 f6 f7 f8 f9
  go_enter Tryz.func6, Tryz.ntmps6
  go_wp2_with fail
  refine (CN.out _).mono ?_; rintro e w2 ⟨A1, c1, L1, rfl, h1, m1, hf1, b1⟩
  have HU2 := Lib.hid (up_trans (up_alloc w (.cells #[.int .i64 0, .int .i64 0, .int .i64 0, .int .i64 0] 73)) b1)
  have CO := Lib.hid (al9_offer (d := 1) (p := 3) (al := false) (h1.below (up_alloc w2 (.cells #[.int .i64 2, .int .i64 0, .int .i64 7, .int .i64 0, .int .i64 0] 63))) (rd_a3 w2) rfl hf1 (by omega) (by omega) (by rw [m1]; exact F4.out))
  clear h1 m1 hf1 b1 CN
  go_wp2_with fail
  refine CO.out.mono ?_; rintro e w3 ⟨A2, c2, L2, rfl, h2, m2, hf2, b2⟩
  have HU3 := Lib.hid (up_trans HU2.out (up_trans (up_alloc w2 (.cells #[.int .i64 2, .int .i64 0, .int .i64 7, .int .i64 0, .int .i64 0] 63)) b2))
  have CO2 := Lib.hid (al9_offer (d := 2) (p := 5) (al := true) (h2.below (up_alloc w3 (.cells #[.int .i64 1, .int .i64 0, .int .i64 0, .int .i64 1, .int .i64 0, .int .i64 5, .int .i64 0, .int .i64 0, .int .i64 0, .int .i64 1] 63))) (rd_a5 w3) rfl hf2 (by omega) (by omega) (by rw [m2]; exact F5.out))
  have H5 := Lib.hid (rd_a5 w3)
  clear h2 m2 hf2 b2 CO
  go_wp2_with fail
  refine CO2.out.mono ?_; rintro e w4 ⟨A3, c3, L3, rfl, h3, m3, hf3, b3⟩
  have HU4 := Lib.hid (up_trans HU3.out (up_trans (up_alloc w3 (.cells #[.int .i64 1, .int .i64 0, .int .i64 0, .int .i64 1, .int .i64 0, .int .i64 5, .int .i64 0, .int .i64 0, .int .i64 0, .int .i64 1] 63)) b3))
  have hup4 := up_alloc w4 (.cells #[.int .i64 2, .int .i64 0, .int .i64 7, .int .i64 0, .int .i64 0] 63)
  have hup5 := up_alloc (w4.alloc (.cells #[.int .i64 2, .int .i64 0, .int .i64 7, .int .i64 0, .int .i64 0] 63)) (.cells #[.int .i64 3, .slice (some ⟨w4.heap.size, 0, none⟩) 1 1, .int .i64 5, .slice (some ⟨w3.heap.size, 0, none⟩) 2 2] 67)
  have hVX := al9_view (g3 := w4.heap.size) (g5 := w3.heap.size) (h3.below (up_trans hup4 hup5)) (Blk.new' (w4.alloc (.cells #[.int .i64 2, .int .i64 0, .int .i64 7, .int .i64 0, .int .i64 0] 63)) [.int .i64 3, .slice (some ⟨w4.heap.size, 0, none⟩) 1 1, .int .i64 5, .slice (some ⟨w3.heap.size, 0, none⟩) 2 2] 67 (w4.heap.size + 1) (by simp)) ((rd_a3 w4).below hup5) ((H5.out.below b3).below (up_trans hup4 hup5))
  have hFW := al9_few (A := A3) (c := c3) (b := w4.heap.size + 1) (g3 := w4.heap.size) (g5 := w3.heap.size) h3.len (hf3.mono (by omega))
  have hct := c_to29 hVX hFW rfl
  have e1 : vC (al9Q A3 c3 L3 (w4.heap.size + 1) w4.heap.size w3.heap.size) = [.int .i64 0, .slice A3 1 c3, .slice none 0 0, .slice (some ⟨w4.heap.size + 1, 0, none⟩) 2 2, .slice none 0 0, .slice none 0 0] := by
    unfold vC al9Q
    rw [h3.len]
    rfl
  rw [e1] at hct
  have hp := al9_p (A := A3) (c := c3) (b := w4.heap.size + 1) (g3 := w4.heap.size) (g5 := w3.heap.size) m3
  have CT := Lib.hid (hct.mono (R' := fun e w' => ∃ V1 : VQ, e = .returned (.agg (vC V1).toArray) ∧ VW w' V1 ∧ FewV V1 ∧ V1.p = alV V ∧ Below ((w4.alloc (.cells #[.int .i64 2, .int .i64 0, .int .i64 7, .int .i64 0, .int .i64 0] 63)).alloc (.cells #[.int .i64 3, .slice (some ⟨w4.heap.size, 0, none⟩) 1 1, .int .i64 5, .slice (some ⟨w3.heap.size, 0, none⟩) 2 2] 67)).heap.size ((w4.alloc (.cells #[.int .i64 2, .int .i64 0, .int .i64 7, .int .i64 0, .int .i64 0] 63)).alloc (.cells #[.int .i64 3, .slice (some ⟨w4.heap.size, 0, none⟩) 1 1, .int .i64 5, .slice (some ⟨w3.heap.size, 0, none⟩) 2 2] 67)) w') (by
    rintro e w' ⟨a1, d1, a2, d2, a3, d3, a4, d4, rfl, hv, hb⟩
    exact ⟨_, rfl, hv, ⟨⟨hFW.ch, hFW.cl, hFW.br, hFW.wt, hFW.ws, hFW.tm, hFW.tw, hFW.lv⟩, fun t ht => absurd ht (by simp [al9Q, VQ.rows])⟩, hp, hb⟩))
  have HU5 := Lib.hid (up_trans HU4.out (up_trans hup4 hup5))
  have HBD1 := Lib.hid (show Tryz.prog.built 67 [(0, Value.int .i64 3), (1, .slice (some ⟨w4.heap.size, 0, none⟩) 1 1)] = some ([.int .i64 3, .slice (some ⟨w4.heap.size, 0, none⟩) 1 1] : List Value).toArray by kernel_rfl)
  have HBD2 := Lib.hid (show Tryz.prog.built 67 [(0, Value.int .i64 5), (1, .slice (some ⟨w3.heap.size, 0, none⟩) 2 2)] = some ([.int .i64 5, .slice (some ⟨w3.heap.size, 0, none⟩) 2 2] : List Value).toArray by kernel_rfl)
  clear h3 m3 hf3 b3 CO2 hVX hFW hup4 hup5 hct e1 hp
  go_upto_region 5 with fail
  go_wp2_with (first | (refine wpList_buildTo rfl 67 _ rfl (some 39) rfl ([.int .i64 3, .slice (some ⟨w4.heap.size, 0, none⟩) 1 1] : List Value).toArray (by simpa [Act.eval] using HBD1.out) ?_) | (refine wpList_buildTo rfl 67 _ rfl (some 41) rfl ([.int .i64 5, .slice (some ⟨w3.heap.size, 0, none⟩) 2 2] : List Value).toArray (by simpa [Act.eval] using HBD2.out) ?_))
  refine CT.out.mono ?_; rintro e w5 ⟨V1, rfl, hvw, hf, hp, b4⟩
  have HUV := Lib.hid (up_trans HU5.out b4)
  have HBV := Lib.hid (Blk.new w5 (vC V1) 40)
  have HUB := up_alloc w5 (.cells (vC V1).toArray 40)
  generalize hw6 : w5.alloc (.cells (vC V1).toArray 40) = w6 at HBV HUB
  have HW6 := Lib.hid hw6
  have HU6 := Lib.hid (up_trans HUV.out HUB)
  have CE : Hid (Calls Tryz.prog 15 #[.agg (vC V1).toArray] w6 fun e w' => ∃ A c, e = .returned (.slice A 2 c) ∧ RD w' tt 4 A 2 ([(⟨2, 0, 0, 0⟩ : EV), (⟨8, 0, 5, 1⟩ : EV)].flatMap evC) ∧ Below w6.heap.size w6 w') := Lib.hid ((c_events (hvw.below HUB) hf (HTD.out.up HU6.out)).mono (by
    rw [hp, F6.out]
    rintro e w' ⟨A, c, rfl, _, _, hr, hb⟩
    exact ⟨A, c, rfl, hr.lo (fun _ _ => trivial), hb⟩))
  have CW1 : Hid (∀ W, Below w6.heap.size w6 W → Calls Tryz.prog 7 #[.agg (vC V1).toArray, .int .i64 3, .int .i64 0] W fun e w' => e = .returned (.tuple #[.agg (evC (⟨2, 0, 0, 0⟩ : EV)).toArray, .bool true]) ∧ Below W.heap.size W w') := Lib.hid (fun W hW => (c_which (hvw.below (up_trans HUB hW)) hf (HTD.out.up (up_trans HU6.out hW)) 3 0).mono (by
    rw [hp, F7.out]
    rintro e w' ⟨rfl, hb⟩
    exact ⟨rfl, hb⟩))
  have CW2 : Hid (∀ W, Below w6.heap.size w6 W → Calls Tryz.prog 7 #[.agg (vC V1).toArray, .int .i64 3, .int .i64 1] W fun e w' => e = .returned (.tuple #[.agg (evC evZ).toArray, .bool false]) ∧ Below W.heap.size W w') := Lib.hid (fun W hW => (c_which (hvw.below (up_trans HUB hW)) hf (HTD.out.up (up_trans HU6.out hW)) 3 1).mono (by
    rw [hp, F8.out]
    rintro e w' ⟨rfl, hb⟩
    exact ⟨rfl, hb⟩))
  have CG : Hid (∀ W, Below w6.heap.size w6 W → Calls Tryz.prog 12 #[.agg (vC V1).toArray, .int .i64 5] W fun e w' => ∃ A c, e = .returned (.slice A 2 c) ∧ RD w' tt 1 A 2 [.int .i64 0, .int .i64 1] ∧ Below W.heap.size W w') := Lib.hid (fun W hW => (c_guards (hvw.below (up_trans HUB hW)) hf (HTD.out.up (up_trans HU6.out hW)) 5).mono (by
    rw [hp, F9.out]
    rintro e w' ⟨A, c, rfl, _, _, hr, hb⟩
    exact ⟨A, c, rfl, hr.lo (fun _ _ => trivial), hb⟩))
  have HN5 : Hid (w5.heap.size < w6.heap.size) := Lib.hid HBV.out.lt
  clear hvw hf hp b4 CT HUB hw6 F4 F5 F6 F7 F8 F9 HBD1 HBD2 H5
  go_wp2_with (first | (refine snr (W := w5) (cs := vC V1) (zs := [.int .i64 0, .slice none 0 0, .slice none 0 0, .slice none 0 0, .slice none 0 0, .slice none 0 0]) (t := 40) (.tmp 5) (.tmp 44) rfl rfl rfl rfl info_vw rfl vC_one ?_ ?_ ?_; (· rfl); (· rfl); (rw [HW6.out])) | (refine ldr (b := w5.heap.size) (t := 40) (cs := vC V1) (.tmp 5) rfl rfl Tryz.underlying40 rfl info_vw rfl ?_ ?_; (· exact HBV.out)))
  refine CE.out.mono ?_; rintro e w7 ⟨A7, c7, rfl, hr, b7⟩
  have HR := Lib.hid hr
  have HBV7 := Lib.hid (blk_up HBV.out b7)
  have HU7 := Lib.hid b7
  clear hr b7 CE
  go_wp2_with (refine ldr (b := w5.heap.size) (t := 40) (cs := vC V1) (.tmp 5) rfl rfl Tryz.underlying40 rfl info_vw rfl ?_ ?_; (· exact HBV7.out))
  refine (CW1.out _ HU7.out).mono ?_; rintro e w8 ⟨rfl, b8⟩
  have HBE := Lib.hid (Blk.new w8 (evC (⟨2, 0, 0, 0⟩ : EV)) 32)
  have hup8 := up_trans b8 (up_alloc w8 (.cells (evC (⟨2, 0, 0, 0⟩ : EV)).toArray 32))
  generalize hw9 : w8.alloc (.cells (evC (⟨2, 0, 0, 0⟩ : EV)).toArray 32) = w9 at HBE hup8
  have HW9 := Lib.hid hw9
  have HR9 := Lib.hid (HR.out.below hup8)
  have HBV9 := Lib.hid (blk_up HBV7.out hup8)
  have HU9 := Lib.hid (up_trans HU7.out hup8)
  clear b8 hup8 hw9 CW1 HR HBV7 HU7
  go_wp2_with (first | (refine snr (W := w8) (cs := evC (⟨2, 0, 0, 0⟩ : EV)) (zs := evZC) (t := 32) (.tmp 7) (.tmp 50) rfl rfl rfl rfl info_ev4 rfl (evC_one _) ?_ ?_ ?_; (· rfl); (· rfl); (rw [HW9.out])) | (refine ldr (b := w5.heap.size) (t := 40) (cs := vC V1) (.tmp 5) rfl rfl Tryz.underlying40 rfl info_vw rfl ?_ ?_; (· exact HBV9.out)))
  refine (CW2.out _ HU9.out).mono ?_; rintro e w10 ⟨rfl, b10⟩
  have hup10 := up_trans b10 (up_alloc w10 (.cells (evC evZ).toArray 32))
  generalize hw11 : w10.alloc (.cells (evC evZ).toArray 32) = w11 at hup10
  have HW11 := Lib.hid hw11
  have HR11 := Lib.hid (HR9.out.below hup10)
  have HBV11 := Lib.hid (blk_up HBV9.out hup10)
  have HBE11 := Lib.hid (blk_up HBE.out hup10)
  have HU11 := Lib.hid (up_trans HU9.out hup10)
  clear b10 hup10 hw11 CW2 HR9 HBV9 HBE HU9
  go_upto_region 9 with (first | (refine snr (W := w10) (cs := evC evZ) (zs := evZC) (t := 32) (.tmp 9) (.tmp 55) rfl rfl rfl rfl info_ev4 rfl (evC_one _) ?_ ?_ ?_; (· rfl); (· rfl); (rw [HW11.out])))
  obtain ⟨b, o, hA, _, hbl, hat⟩ := HR11.out.at_ (by omega)
  subst hA
  have HBL := Lib.hid hbl
  have HRG1 : Hid (w11.rangeAt b o (evC (⟨2, 0, 0, 0⟩ : EV))) := Lib.hid (fun j v hv => hat j v (by
    have hj : j < 4 := (List.getElem?_eq_some_iff.1 hv).1
    exact (List.getElem?_append_left (l₂ := evC (⟨8, 0, 5, 1⟩ : EV) ++ []) (show j < (evC (⟨2, 0, 0, 0⟩ : EV)).length from hj)).trans hv))
  have HRG2 : Hid (w11.rangeAt b (o + 4) (evC (⟨8, 0, 5, 1⟩ : EV))) := Lib.hid (fun j v hv => by
    rw [Nat.add_assoc]
    refine hat (4 + j) v ?_
    have hj : j < 4 := (List.getElem?_eq_some_iff.1 hv).1
    match j, hj, hv with
    | 0, _, hv => exact hv
    | 1, _, hv => exact hv
    | 2, _, hv => exact hv
    | 3, _, hv => exact hv)
  have HX1 := Lib.hid (show Tryz.prog.built 32 [(0, Value.int .i64 2)] = some (evC (⟨2, 0, 0, 0⟩ : EV)).toArray by kernel_rfl)
  have HX2 := Lib.hid (show Tryz.prog.built 32 [(0, Value.int .i64 8), (2, Value.int .i64 5), (3, Value.int .i64 1)] = some (evC (⟨8, 0, 5, 1⟩ : EV)).toArray by kernel_rfl)
  have HUX : Hid (Below w5.heap.size w5 w6) := Lib.hid (by rw [← HW6.out]; exact up_alloc _ _)
  clear hat hbl
  refine wp_region_held_drew (S := Up1 w11) (by kernel_rfl) (up_drewN _ 1) (fun hHeld => ?_)
  refine wpAnyH_take (i := 0) (oi := ?_) (v := ?_) ?_ (by kernel_rfl) (by kernel_rfl) (by kernel_rfl) ?_ (Or.inl ⟨?_, ?_⟩) hHeld ?_
  rotate_left 2
  · conv => lhs; simp only [List.getElem?_toArray, List.getElem?_cons_succ, List.getElem?_cons_zero]
  · exact fun _ _ _ h => h
  · rfl
  · intro W hSw
    go_simp
    try with_reducible rfl
  try simp only [Act.put, List.setIfInBounds_toArray, List.set_cons_zero, List.set_cons_succ]
  refine wpAnyH_take (i := 1) (oi := ?_) (v := ?_) ?_ (by kernel_rfl) (by kernel_rfl) (by kernel_rfl) ?_ (Or.inl ⟨?_, ?_⟩) hHeld ?_
  rotate_left 2
  · conv => lhs; simp only [List.getElem?_toArray, List.getElem?_cons_succ, List.getElem?_cons_zero]
  · exact fun _ _ _ h => h
  · rfl
  · intro W hSw
    go_simp
    try with_reducible rfl
  try simp only [Act.put, List.setIfInBounds_toArray, List.set_cons_zero, List.set_cons_succ]
  refine wpAnyH_take (i := 2) (oi := ?_) (v := ?_) ?_ (by kernel_rfl) (by kernel_rfl) (by kernel_rfl) ?_ (Or.inl ⟨?_, ?_⟩) hHeld ?_
  rotate_left 2
  · conv => lhs; simp only [List.getElem?_toArray, List.getElem?_cons_succ, List.getElem?_cons_zero]
  · exact fun _ _ _ h => h
  · rfl
  · intro W hSw
    go_simp
    try with_reducible rfl
  try simp only [Act.put, List.setIfInBounds_toArray, List.set_cons_zero, List.set_cons_succ]
  refine wpAnyH_take (i := 3) (oi := ?_) (v := ?_) ?_ (by kernel_rfl) (by kernel_rfl) (by kernel_rfl) ?_ (Or.inl ⟨?_, ?_⟩) hHeld ?_
  rotate_left 2
  · conv => lhs; simp only [List.getElem?_toArray, List.getElem?_cons_succ, List.getElem?_cons_zero]
  · exact fun _ _ _ h => h
  · rfl
  · intro W hSw
    go_simp
    try with_reducible rfl
  try simp only [Act.put, List.setIfInBounds_toArray, List.set_cons_zero, List.set_cons_succ]
  refine wpAnyH_take (i := 4) (oi := ?_) (v := ?_) ?_ (by kernel_rfl) (by kernel_rfl) (by kernel_rfl) ?_ (Or.inl ⟨?_, ?_⟩) hHeld ?_
  rotate_left 2
  · conv => lhs; simp only [List.getElem?_toArray, List.getElem?_cons_succ, List.getElem?_cons_zero]
  · exact fun _ _ _ h => h
  · rfl
  · intro W hSw
    go_simp
    try with_reducible rfl
  try simp only [Act.put, List.setIfInBounds_toArray, List.set_cons_zero, List.set_cons_succ]
  refine wpAnyH_take (i := 5) (oi := ?_) (v := ?_) ?_ (by kernel_rfl) (by kernel_rfl) (by kernel_rfl) ?_ (Or.inl ⟨?_, ?_⟩) hHeld ?_
  rotate_left 2
  · conv => lhs; simp only [List.getElem?_toArray, List.getElem?_cons_succ, List.getElem?_cons_zero]
  · exact fun _ _ _ h => h
  · rfl
  · intro W hSw
    go_simp
    try with_reducible rfl
  try simp only [Act.put, List.setIfInBounds_toArray, List.set_cons_zero, List.set_cons_succ]
  refine wpAnyH_take (i := 6) (oi := ?_) (v := (.agg (evC (⟨2, 0, 0, 0⟩ : EV)).toArray)) ?_ (by kernel_rfl) (by kernel_rfl) (by kernel_rfl) ?_ (Or.inl ⟨?_, ?_⟩) hHeld ?_
  rotate_left 1
  · conv => lhs; simp only [List.getElem?_toArray, List.getElem?_cons_succ, List.getElem?_cons_zero]
  · exact fun _ _ _ h => h
  · rfl
  · intro W hSw
    exact tk_part (b := b) (q := o) rfl rfl Tryz.underlying32 rfl info_ev4 (range_below HRG1.out hSw HBL.out)
  try simp only [Act.put, List.setIfInBounds_toArray, List.set_cons_zero, List.set_cons_succ]
  refine wpAnyH_take (i := 7) (oi := ?_) (v := (.agg (evC (⟨2, 0, 0, 0⟩ : EV)).toArray)) ?_ (by kernel_rfl) (by kernel_rfl) (by kernel_rfl) ?_ (Or.inl ⟨?_, ?_⟩) hHeld ?_
  rotate_left 1
  · conv => lhs; simp only [List.getElem?_toArray, List.getElem?_cons_succ, List.getElem?_cons_zero]
  · exact fun _ _ _ h => h
  · rfl
  · intro W hSw
    exact tk_build rfl (by simpa [Act.eval] using HX1.out)
  try simp only [Act.put, List.setIfInBounds_toArray, List.set_cons_zero, List.set_cons_succ]
  refine wpAnyH_take (i := 8) (oi := ?_) (v := (.bool true)) ?_ (by kernel_rfl) (by kernel_rfl) (by kernel_rfl) ?_ (Or.inl ⟨?_, ?_⟩) hHeld ?_
  rotate_left 1
  · conv => lhs; simp only [List.getElem?_toArray, List.getElem?_cons_succ, List.getElem?_cons_zero]
  · exact fun _ _ _ h => h
  · rfl
  · intro W hSw
    exact tk_eqp (u := (⟨2, 0, 0, 0⟩ : EV)) (v := (⟨2, 0, 0, 0⟩ : EV)) rfl rfl rfl
  try simp only [Act.put, List.setIfInBounds_toArray, List.set_cons_zero, List.set_cons_succ]
  refine wpAnyH_take (i := 9) (oi := ?_) (v := ?_) ?_ (by kernel_rfl) (by kernel_rfl) (by kernel_rfl) ?_ (Or.inl ⟨?_, ?_⟩) hHeld ?_
  rotate_left 2
  · conv => lhs; simp only [List.getElem?_toArray, List.getElem?_cons_succ, List.getElem?_cons_zero]
  · exact fun _ _ _ h => h
  · rfl
  · intro W hSw
    go_simp
    try with_reducible rfl
  try simp only [Act.put, List.setIfInBounds_toArray, List.set_cons_zero, List.set_cons_succ]
  refine wpAnyH_take (i := 10) (oi := ?_) (v := ?_) ?_ (by kernel_rfl) (by kernel_rfl) (by kernel_rfl) ?_ (Or.inl ⟨?_, ?_⟩) hHeld ?_
  rotate_left 2
  · conv => lhs; simp only [List.getElem?_toArray, List.getElem?_cons_succ, List.getElem?_cons_zero]
  · exact fun _ _ _ h => h
  · rfl
  · intro W hSw
    go_simp
    try with_reducible rfl
  try simp only [Act.put, List.setIfInBounds_toArray, List.set_cons_zero, List.set_cons_succ]
  refine wpAnyH_take (i := 11) (oi := ?_) (v := ?_) ?_ (by kernel_rfl) (by kernel_rfl) (by kernel_rfl) ?_ (Or.inl ⟨?_, ?_⟩) hHeld ?_
  rotate_left 2
  · conv => lhs; simp only [List.getElem?_toArray, List.getElem?_cons_succ, List.getElem?_cons_zero]
  · exact fun _ _ _ h => h
  · rfl
  · intro W hSw
    go_simp
    try with_reducible rfl
  try simp only [Act.put, List.setIfInBounds_toArray, List.set_cons_zero, List.set_cons_succ]
  refine wpAnyH_take (i := 12) (oi := ?_) (v := ?_) ?_ (by kernel_rfl) (by kernel_rfl) (by kernel_rfl) ?_ (Or.inl ⟨?_, ?_⟩) hHeld ?_
  rotate_left 2
  · conv => lhs; simp only [List.getElem?_toArray, List.getElem?_cons_succ, List.getElem?_cons_zero]
  · exact fun _ _ _ h => h
  · rfl
  · intro W hSw
    go_simp
    try with_reducible rfl
  try simp only [Act.put, List.setIfInBounds_toArray, List.set_cons_zero, List.set_cons_succ]
  refine wpAnyH_take (i := 13) (oi := ?_) (v := (.agg (evC (⟨8, 0, 5, 1⟩ : EV)).toArray)) ?_ (by kernel_rfl) (by kernel_rfl) (by kernel_rfl) ?_ (Or.inl ⟨?_, ?_⟩) hHeld ?_
  rotate_left 1
  · conv => lhs; simp only [List.getElem?_toArray, List.getElem?_cons_succ, List.getElem?_cons_zero]
  · exact fun _ _ _ h => h
  · rfl
  · intro W hSw
    exact tk_part (b := b) (q := o + 4) rfl rfl Tryz.underlying32 rfl info_ev4 (range_below HRG2.out hSw HBL.out)
  try simp only [Act.put, List.setIfInBounds_toArray, List.set_cons_zero, List.set_cons_succ]
  refine wpAnyH_take (i := 14) (oi := ?_) (v := (.agg (evC (⟨8, 0, 5, 1⟩ : EV)).toArray)) ?_ (by kernel_rfl) (by kernel_rfl) (by kernel_rfl) ?_ (Or.inl ⟨?_, ?_⟩) hHeld ?_
  rotate_left 1
  · conv => lhs; simp only [List.getElem?_toArray, List.getElem?_cons_succ, List.getElem?_cons_zero]
  · exact fun _ _ _ h => h
  · rfl
  · intro W hSw
    exact tk_build rfl (by simpa [Act.eval] using HX2.out)
  try simp only [Act.put, List.setIfInBounds_toArray, List.set_cons_zero, List.set_cons_succ]
  refine wpAnyH_take (i := 15) (oi := ?_) (v := (.bool true)) ?_ (by kernel_rfl) (by kernel_rfl) (by kernel_rfl) ?_ (Or.inl ⟨?_, ?_⟩) hHeld ?_
  rotate_left 1
  · conv => lhs; simp only [List.getElem?_toArray, List.getElem?_cons_succ, List.getElem?_cons_zero]
  · exact fun _ _ _ h => h
  · rfl
  · intro W hSw
    exact tk_eqp (u := (⟨8, 0, 5, 1⟩ : EV)) (v := (⟨8, 0, 5, 1⟩ : EV)) rfl rfl rfl
  try simp only [Act.put, List.setIfInBounds_toArray, List.set_cons_zero, List.set_cons_succ]
  refine wpAnyH_take (i := 16) (oi := ?_) (v := ?_) ?_ (by kernel_rfl) (by kernel_rfl) (by kernel_rfl) ?_ (Or.inl ⟨?_, ?_⟩) hHeld ?_
  rotate_left 2
  · conv => lhs; simp only [List.getElem?_toArray, List.getElem?_cons_succ, List.getElem?_cons_zero]
  · exact fun _ _ _ h => h
  · rfl
  · intro W hSw
    go_simp
    try with_reducible rfl
  try simp only [Act.put, List.setIfInBounds_toArray, List.set_cons_zero, List.set_cons_succ]
  refine wpAnyH_take (i := 17) (oi := ?_) (v := ?_) ?_ (by kernel_rfl) (by kernel_rfl) (by kernel_rfl) ?_ (Or.inl ⟨?_, ?_⟩) hHeld ?_
  rotate_left 2
  · conv => lhs; simp only [List.getElem?_toArray, List.getElem?_cons_succ, List.getElem?_cons_zero]
  · exact fun _ _ _ h => h
  · rfl
  · intro W hSw
    go_simp
    try with_reducible rfl
  try simp only [Act.put, List.setIfInBounds_toArray, List.set_cons_zero, List.set_cons_succ]
  refine wpAnyH_take (i := 18) (oi := ?_) (v := (.agg (evC (⟨2, 0, 0, 0⟩ : EV)).toArray)) ?_ (by kernel_rfl) (by kernel_rfl) (by kernel_rfl) ?_ (Or.inl ⟨?_, ?_⟩) hHeld ?_
  rotate_left 1
  · conv => lhs; simp only [List.getElem?_toArray, List.getElem?_cons_succ, List.getElem?_cons_zero]
  · exact fun _ _ _ h => h
  · rfl
  · intro W hSw
    exact tk_load rfl rfl (load_row (blk_up HBE11.out hSw) Tryz.underlying32 rfl info_ev4)
  try simp only [Act.put, List.setIfInBounds_toArray, List.set_cons_zero, List.set_cons_succ]
  refine wpAnyH_take (i := 19) (oi := ?_) (v := ?_) ?_ (by kernel_rfl) (by kernel_rfl) (by kernel_rfl) ?_ (Or.inl ⟨?_, ?_⟩) hHeld ?_
  rotate_left 2
  · conv => lhs; simp only [List.getElem?_toArray, List.getElem?_cons_succ, List.getElem?_cons_zero]
  · exact fun _ _ _ h => h
  · rfl
  · intro W hSw
    go_simp
    try with_reducible rfl
  try simp only [Act.put, List.setIfInBounds_toArray, List.set_cons_zero, List.set_cons_succ]
  refine wpAnyH_take (i := 20) (oi := ?_) (v := ?_) ?_ (by kernel_rfl) (by kernel_rfl) (by kernel_rfl) ?_ (Or.inl ⟨?_, ?_⟩) hHeld ?_
  rotate_left 2
  · conv => lhs; simp only [List.getElem?_toArray, List.getElem?_cons_succ, List.getElem?_cons_zero]
  · exact fun _ _ _ h => h
  · rfl
  · intro W hSw
    go_simp
    try with_reducible rfl
  try simp only [Act.put, List.setIfInBounds_toArray, List.set_cons_zero, List.set_cons_succ]
  refine wpAnyH_take (i := 21) (oi := ?_) (v := (.agg (evC (⟨2, 0, 0, 0⟩ : EV)).toArray)) ?_ (by kernel_rfl) (by kernel_rfl) (by kernel_rfl) ?_ (Or.inl ⟨?_, ?_⟩) hHeld ?_
  rotate_left 1
  · conv => lhs; simp only [List.getElem?_toArray, List.getElem?_cons_succ, List.getElem?_cons_zero]
  · exact fun _ _ _ h => h
  · rfl
  · intro W hSw
    exact tk_part (b := b) (q := o) rfl rfl Tryz.underlying32 rfl info_ev4 (range_below HRG1.out hSw HBL.out)
  try simp only [Act.put, List.setIfInBounds_toArray, List.set_cons_zero, List.set_cons_succ]
  refine wpAnyH_take (i := 22) (oi := ?_) (v := (.bool true)) ?_ (by kernel_rfl) (by kernel_rfl) (by kernel_rfl) ?_ (Or.inl ⟨?_, ?_⟩) hHeld ?_
  rotate_left 1
  · conv => lhs; simp only [List.getElem?_toArray, List.getElem?_cons_succ, List.getElem?_cons_zero]
  · exact fun _ _ _ h => h
  · rfl
  · intro W hSw
    exact tk_eqp (u := (⟨2, 0, 0, 0⟩ : EV)) (v := (⟨2, 0, 0, 0⟩ : EV)) rfl rfl rfl
  try simp only [Act.put, List.setIfInBounds_toArray, List.set_cons_zero, List.set_cons_succ]
  refine wpAnyH_take (i := 23) (oi := ?_) (v := ?_) ?_ (by kernel_rfl) (by kernel_rfl) (by kernel_rfl) ?_ (Or.inl ⟨?_, ?_⟩) hHeld ?_
  rotate_left 2
  · conv => lhs; simp only [List.getElem?_toArray, List.getElem?_cons_succ, List.getElem?_cons_zero]
  · exact fun _ _ _ h => h
  · rfl
  · intro W hSw
    go_simp
    try with_reducible rfl
  try simp only [Act.put, List.setIfInBounds_toArray, List.set_cons_zero, List.set_cons_succ]
  refine wpAnyH_take (i := 24) (oi := ?_) (v := ?_) ?_ (by kernel_rfl) (by kernel_rfl) (by kernel_rfl) ?_ (Or.inl ⟨?_, ?_⟩) hHeld ?_
  rotate_left 2
  · conv => lhs; simp only [List.getElem?_toArray, List.getElem?_cons_succ, List.getElem?_cons_zero]
  · exact fun _ _ _ h => h
  · rfl
  · intro W hSw
    go_simp
    try with_reducible rfl
  try simp only [Act.put, List.setIfInBounds_toArray, List.set_cons_zero, List.set_cons_succ]
  refine wpAnyH_take (i := 25) (oi := ?_) (v := ?_) ?_ (by kernel_rfl) (by kernel_rfl) (by kernel_rfl) ?_ (Or.inl ⟨?_, ?_⟩) hHeld ?_
  rotate_left 2
  · conv => lhs; simp only [List.getElem?_toArray, List.getElem?_cons_succ, List.getElem?_cons_zero]
  · exact fun _ _ _ h => h
  · rfl
  · intro W hSw
    go_simp
    try with_reducible rfl
  try simp only [Act.put, List.setIfInBounds_toArray, List.set_cons_zero, List.set_cons_succ]
  refine wpAnyH_take (i := 26) (oi := ?_) (v := ?_) ?_ (by kernel_rfl) (by kernel_rfl) (by kernel_rfl) ?_ (Or.inl ⟨?_, ?_⟩) hHeld ?_
  rotate_left 2
  · conv => lhs; simp only [List.getElem?_toArray, List.getElem?_cons_succ, List.getElem?_cons_zero]
  · exact fun _ _ _ h => h
  · rfl
  · intro W hSw
    go_simp
    try with_reducible rfl
  try simp only [Act.put, List.setIfInBounds_toArray, List.set_cons_zero, List.set_cons_succ]
  refine wpAnyH_take (i := 27) (oi := ?_) (v := ?_) ?_ (by kernel_rfl) (by kernel_rfl) (by kernel_rfl) ?_ (Or.inl ⟨?_, ?_⟩) hHeld ?_
  rotate_left 2
  · conv => lhs; simp only [List.getElem?_toArray, List.getElem?_cons_succ, List.getElem?_cons_zero]
  · exact fun _ _ _ h => h
  · rfl
  · intro W hSw
    go_simp
    try with_reducible rfl
  try simp only [Act.put, List.setIfInBounds_toArray, List.set_cons_zero, List.set_cons_succ]
  refine wpAnyH_take (i := 28) (oi := ?_) (v := ?_) ?_ (by kernel_rfl) (by kernel_rfl) (by kernel_rfl) ?_ (Or.inl ⟨?_, ?_⟩) hHeld ?_
  rotate_left 2
  · conv => lhs; simp only [List.getElem?_toArray, List.getElem?_cons_succ, List.getElem?_cons_zero]
  · exact fun _ _ _ h => h
  · rfl
  · intro W hSw
    go_simp
    try with_reducible rfl
  try simp only [Act.put, List.setIfInBounds_toArray, List.set_cons_zero, List.set_cons_succ]
  refine wpAnyH_take (i := 29) (oi := ?_) (v := ?_) ?_ (by kernel_rfl) (by kernel_rfl) (by kernel_rfl) ?_ (Or.inl ⟨?_, ?_⟩) hHeld ?_
  rotate_left 2
  · conv => lhs; simp only [List.getElem?_toArray, List.getElem?_cons_succ, List.getElem?_cons_zero]
  · exact fun _ _ _ h => h
  · rfl
  · intro W hSw
    go_simp
    try with_reducible rfl
  try simp only [Act.put, List.setIfInBounds_toArray, List.set_cons_zero, List.set_cons_succ]
  refine wpAnyH_take (i := 30) (oi := ?_) (v := ?_) ?_ (by kernel_rfl) (by kernel_rfl) (by kernel_rfl) ?_ (Or.inl ⟨?_, ?_⟩) hHeld ?_
  rotate_left 2
  · conv => lhs; simp only [List.getElem?_toArray, List.getElem?_cons_succ, List.getElem?_cons_zero]
  · exact fun _ _ _ h => h
  · rfl
  · intro W hSw
    go_simp
    try with_reducible rfl
  try simp only [Act.put, List.setIfInBounds_toArray, List.set_cons_zero, List.set_cons_succ]
  refine wpAnyH_take (i := 31) (oi := ?_) (v := ?_) ?_ (by kernel_rfl) (by kernel_rfl) (by kernel_rfl) ?_ (Or.inl ⟨?_, ?_⟩) hHeld ?_
  rotate_left 2
  · conv => lhs; simp only [List.getElem?_toArray, List.getElem?_cons_succ, List.getElem?_cons_zero]
  · exact fun _ _ _ h => h
  · rfl
  · intro W hSw
    go_simp
    try with_reducible rfl
  try simp only [Act.put, List.setIfInBounds_toArray, List.set_cons_zero, List.set_cons_succ]
  refine wpAnyH_take (i := 32) (oi := ?_) (v := (.agg (vC V1).toArray)) ?_ (by kernel_rfl) (by kernel_rfl) (by kernel_rfl) ?_ (Or.inl ⟨?_, ?_⟩) hHeld ?_
  rotate_left 1
  · conv => lhs; simp only [List.getElem?_toArray, List.getElem?_cons_succ, List.getElem?_cons_zero]
  · exact fun _ _ _ h => h
  · rfl
  · intro W hSw
    exact tk_load rfl rfl (load_row (blk_up HBV11.out hSw) Tryz.underlying40 rfl info_vw)
  try simp only [Act.put, List.setIfInBounds_toArray, List.set_cons_zero, List.set_cons_succ]
  refine wpAnyH_ready (rs := [33, 34]) (by kernel_rfl) (by simp) ?_
  refine AllReadyH.cons (o := ?_) ?_ (fun K hK => ?_) ?_
  rotate_left 1
  · conv => lhs; simp only [List.getElem?_toArray, List.getElem?_cons_succ, List.getElem?_cons_zero]
  · go_simp
    refine (CG.out _ (up_trans HU11.out hHeld)).mono ?_
    rintro e wA ⟨B, d, rfl, hg, hb⟩
    go_wp2_with fail
    refine hK.out _ _ (up_trans hHeld hb) (fun hHeld => ?_)
    clear hK K
    try simp only [Act.put, List.setIfInBounds_toArray, List.set_cons_zero, List.set_cons_succ]
    refine wpAnyH_ready (rs := [34]) (by kernel_rfl) (by simp) ?_
    refine AllReadyH.cons (o := ?_) ?_ (fun K hK => ?_) AllReadyH.nil
    rotate_left 1
    · conv => lhs; simp only [List.getElem?_toArray, List.getElem?_cons_succ, List.getElem?_cons_zero]
    go_simp
    go_wp2_with fail
    refine hK.out _ _ (up_trans hHeld (up_alloc _ _)) (fun hHeld => ?_)
    clear hK K
    try simp only [Act.put, List.setIfInBounds_toArray, List.set_cons_zero, List.set_cons_succ]
    have hn := up1_new hHeld
    refine wpAnyH_ready (rs := [35]) (by kernel_rfl) (by simp) ?_
    refine AllReadyH.cons (o := ?_) ?_ (fun K hK => ?_) AllReadyH.nil
    rotate_left 1
    · conv => lhs; simp only [List.getElem?_toArray, List.getElem?_cons_succ, List.getElem?_cons_zero]
    go_simp
    refine (c_same (zs := [0, 1]) (pl := tt) (pl' := tt) (hg.below (up_alloc _ _)) (RD.of_blk (xs := [.int .i64 0, .int .i64 1]) hn rfl trivial) (by simp)).mono ?_
    rintro e wS ⟨rfl, hdS⟩
    go_wp2_with fail
    refine hK.out _ _ (up_trans hHeld hdS.below) (fun hHeld => ?_)
    clear hK K
    try simp only [Act.put, List.setIfInBounds_toArray, List.set_cons_zero, List.set_cons_succ]
    refine wpAnyH_take (i := 36) (oi := ?_) (v := ?_) ?_ (by kernel_rfl) (by kernel_rfl) (by kernel_rfl) ?_ (Or.inl ⟨?_, ?_⟩) hHeld ?_
    rotate_left 2
    · conv => lhs; simp only [List.getElem?_toArray, List.getElem?_cons_succ, List.getElem?_cons_zero]
    · exact fun _ _ _ h => h
    · rfl
    · intro W hSw
      go_simp
      try with_reducible rfl
    try simp only [Act.put, List.setIfInBounds_toArray, List.set_cons_zero, List.set_cons_succ]
    refine wpAnyH_take (i := 37) (oi := ?_) (v := ?_) ?_ (by kernel_rfl) (by kernel_rfl) (by kernel_rfl) ?_ (Or.inl ⟨?_, ?_⟩) hHeld ?_
    rotate_left 2
    · conv => lhs; simp only [List.getElem?_toArray, List.getElem?_cons_succ, List.getElem?_cons_zero]
    · exact fun _ _ _ h => h
    · rfl
    · intro W hSw
      go_simp
      try with_reducible rfl
    try simp only [Act.put, List.setIfInBounds_toArray, List.set_cons_zero]
    refine wpAnyH_done (by kernel_rfl) ?_ _
    go_wp2_with fail
    go_ret
    exact ⟨rfl, up_trans HUV.out (up_trans HUX.out (up_trans HU11.out hHeld))⟩
  refine AllReadyH.cons (o := ?_) ?_ (fun K hK => ?_) AllReadyH.nil
  rotate_left 1
  · conv => lhs; simp only [List.getElem?_toArray, List.getElem?_cons_succ, List.getElem?_cons_zero]
  go_simp
  go_wp2_with fail
  refine hK.out _ _ (up_trans hHeld (up_alloc _ _)) (fun hHeld => ?_)
  clear hK K
  try simp only [Act.put, List.setIfInBounds_toArray, List.set_cons_zero, List.set_cons_succ]
  have hn := up1_newd hHeld
  refine wpAnyH_ready (rs := [33]) (by kernel_rfl) (by simp) ?_
  refine AllReadyH.cons (o := ?_) ?_ (fun K hK => ?_) AllReadyH.nil
  rotate_left 1
  · conv => lhs; simp only [List.getElem?_toArray, List.getElem?_cons_succ, List.getElem?_cons_zero]
  go_simp
  refine (CG.out _ (up_trans HU11.out hHeld)).mono ?_
  rintro e wA ⟨B, d, rfl, hg, hb⟩
  go_wp2_with fail
  refine hK.out _ _ (up_trans hHeld hb) (fun hHeld => ?_)
  clear hK K
  try simp only [Act.put, List.setIfInBounds_toArray, List.set_cons_zero, List.set_cons_succ]
  refine wpAnyH_ready (rs := [35]) (by kernel_rfl) (by simp) ?_
  refine AllReadyH.cons (o := ?_) ?_ (fun K hK => ?_) AllReadyH.nil
  rotate_left 1
  · conv => lhs; simp only [List.getElem?_toArray, List.getElem?_cons_succ, List.getElem?_cons_zero]
  go_simp
  refine (c_same (zs := [0, 1]) (pl := tt) (pl' := tt) hg ((RD.of_blk (xs := [.int .i64 0, .int .i64 1]) hn rfl trivial : RD _ tt 1 _ 2 _).below hb) (by simp)).mono ?_
  rintro e wS ⟨rfl, hdS⟩
  go_wp2_with fail
  refine hK.out _ _ (up_trans hHeld hdS.below) (fun hHeld => ?_)
  clear hK K
  try simp only [Act.put, List.setIfInBounds_toArray, List.set_cons_zero, List.set_cons_succ]
  refine wpAnyH_take (i := 36) (oi := ?_) (v := ?_) ?_ (by kernel_rfl) (by kernel_rfl) (by kernel_rfl) ?_ (Or.inl ⟨?_, ?_⟩) hHeld ?_
  rotate_left 2
  · conv => lhs; simp only [List.getElem?_toArray, List.getElem?_cons_succ, List.getElem?_cons_zero]
  · exact fun _ _ _ h => h
  · rfl
  · intro W hSw
    go_simp
    try with_reducible rfl
  try simp only [Act.put, List.setIfInBounds_toArray, List.set_cons_zero, List.set_cons_succ]
  refine wpAnyH_take (i := 37) (oi := ?_) (v := ?_) ?_ (by kernel_rfl) (by kernel_rfl) (by kernel_rfl) ?_ (Or.inl ⟨?_, ?_⟩) hHeld ?_
  rotate_left 2
  · conv => lhs; simp only [List.getElem?_toArray, List.getElem?_cons_succ, List.getElem?_cons_zero]
  · exact fun _ _ _ h => h
  · rfl
  · intro W hSw
    go_simp
    try with_reducible rfl
  try simp only [Act.put, List.setIfInBounds_toArray, List.set_cons_zero]
  refine wpAnyH_done (by kernel_rfl) ?_ _
  go_wp2_with fail
  go_ret
  exact ⟨rfl, up_trans HUV.out (up_trans HUX.out (up_trans HU11.out hHeld))⟩
end Go.Proofs.YtdiiilnebepfdaaGreatDoor

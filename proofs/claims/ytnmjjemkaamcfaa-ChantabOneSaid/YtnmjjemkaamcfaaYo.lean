/- The law's alive. -/
import Derived.Test.YtnmjjemkaamcfaaYl
import Derived.Test.YtnmjjemkaamcfaaYf
import Derived.Test.YtnmjjemkaamcfaaYi
import Derived.Laws.StructEq
namespace Go.Proofs.Ytnmjjemkaamcfaa
open Go.RowKit

def alT : List CF := [⟨0, 0, 0, 0⟩, ⟨0, 1, 0, 0⟩, ⟨2, 0, 0, 0⟩]
def alG1 : List GD := [⟨1, 0, 0, 0, 0⟩, ⟨5, 0, 0, 0, 0⟩, ⟨1, 1, 0, 0, 0⟩]
def alG2 : List GD := [⟨1, 0, 0, 0, 0⟩, ⟨1, 2, 0, 0, 0⟩]
def alG3 : List GD := [⟨2, 1, 9, 0, 0⟩]
theorem alT_c : alT.flatMap cfC = [.int .i64 0, .int .i64 0, .int .i64 0, .int .i64 0, .int .i64 0, .int .i64 1, .int .i64 0, .int .i64 0, .int .i64 2, .int .i64 0, .int .i64 0, .int .i64 0] := rfl
theorem alG1_c : alG1.flatMap gdC = [.int .i64 1, .int .i64 0, .int .i64 0, .int .i64 0, .int .i64 0, .int .i64 5, .int .i64 0, .int .i64 0, .int .i64 0, .int .i64 0, .int .i64 1, .int .i64 1, .int .i64 0, .int .i64 0, .int .i64 0] := rfl
theorem alG2_c : alG2.flatMap gdC = [.int .i64 1, .int .i64 0, .int .i64 0, .int .i64 0, .int .i64 0, .int .i64 1, .int .i64 2, .int .i64 0, .int .i64 0, .int .i64 0] := rfl
theorem alG3_c : alG3.flatMap gdC = [.int .i64 2, .int .i64 1, .int .i64 9, .int .i64 0, .int .i64 0] := rfl
/-- A table, a place and an error, evaluated. -/
def TabP (w : World) (n : Nat) (Cs : List CP) (b : Nat) (no er : Int) (e : Ending) (w' : World) : Prop :=
  ∃ A c L, e = .returned (.tuple #[.slice A n c, .int .i64 no, .int .i64 er]) ∧ TbW w' tt A n c L ∧ L.map Prod.fst = Cs ∧ fewL b L ∧ Below w.heap.size w w'
theorem NwPost.ok {w w' : World} {l : List CF} {e : Ending} {Cs : List CP} {n : Nat} (h : NwPost w l e w') (hr : newR l = (0, 0)) (hc : newL l = Cs) (hn : Cs.length = n) : TabP w n Cs 0 0 0 e w' := by
  obtain ⟨A, m, c, L, rfl, hT, hm, hb⟩ := h
  have hmn : m = n := by rw [← hT.len, ← hn, ← hc, ← hm, List.length_map]
  subst hmn
  exact ⟨A, c, L, by rw [hr]; rfl, hT, hm.trans hc, few_new hm, hb⟩
theorem OfPost.ok {w w' : World} {A : Option Addr} {n c : Nat} {L : List CQ} {b : Nat} {r : List CP × Nat × Int} {e : Ending} {U : List CP} (h : OfPost w A n c L b r e w') (hr : r = (U, 0, 0)) : TabP w n U b 0 0 e w' := by
  obtain ⟨A', c', L', rfl, hT, hm, _, hf, hb⟩ := h
  subst hr
  exact ⟨A', c', L', rfl, hT, hm rfl, hf, hb⟩
theorem cell_g {w : World} {pl : Nat → Prop} {g : Nat} {q : CQ} (hrg : w.rangeAt g (0 * 11) (cellsQ q)) (hch : ChW w pl q.1 q.2) (hg : q.1.G = []) : ∃ gA gc, w.cell? ⟨g, 10, none⟩ = some (.slice gA 0 gc) := by
  have h1 : w.cell? ⟨g, 10, none⟩ = some (.slice q.2.G.A q.2.G.n q.2.G.c) := hrg 10 _ rfl
  have hn := hch.g.len
  rw [hg] at hn
  have h0 : q.2.G.n = 0 := hn.symm
  rw [h0] at h1
  exact ⟨_, _, h1⟩
/-- The facts. -/
theorem al_facts : ∃ T U V, newL alT = T ∧ newR alT = (0, 0) ∧ T.length = 3 ∧ offRun 3 true T 0 alG1 = (U, 0, 0) ∧ (∃ X, offRun 4 true U 0 alG2 = (X, 0, 15)) ∧ offRun 5 false U 0 alG3 = (V, 0, 0) ∧ mvL 0 V = [(1, 2)] ∧ hitL 3 0 U = [] ∧ ∃ C, (U.map (chLeave · 3))[0]? = some C ∧ C.G = [] :=
  ⟨newL alT, (offRun 3 true (newL alT) 0 alG1).1, (offRun 5 false (offRun 3 true (newL alT) 0 alG1).1 0 alG3).1, rfl, by kernel_rfl, by kernel_rfl, by kernel_rfl, ⟨(offRun 4 true (offRun 3 true (newL alT) 0 alG1).1 0 alG2).1, by kernel_rfl⟩, by kernel_rfl, by kernel_rfl, by kernel_rfl,
    ⟨((offRun 3 true (newL alT) 0 alG1).1.map (chLeave · 3))[0]?.getD chZero, by kernel_rfl, by kernel_rfl⟩⟩

set_option maxRecDepth 100000 in
set_option maxHeartbeats 4000000 in
theorem c_talive (w : World) : Calls Try.prog 7 #[] w fun e w' => e = .returned (.bool true) ∧ Below w.heap.size w w' := by
  obtain ⟨T, U, V, f1, f2, f3, f4, ⟨X, f5⟩, f6, f7, f8, ⟨C, f9, f10⟩⟩ := al_facts
  have F4 := Lib.hid f4
  have F5 := Lib.hid f5
  have F6 := Lib.hid f6
  have F7 := Lib.hid f7
  have F8 := Lib.hid f8
  have F9 := Lib.hid f9
  have F10 := Lib.hid f10
  have CN := Lib.hid (fun (W : World) => (c_tnew (w := W.alloc (.cells #[.int .i64 0, .int .i64 0, .int .i64 0, .int .i64 0, .int .i64 0, .int .i64 1, .int .i64 0, .int .i64 0, .int .i64 2, .int .i64 0, .int .i64 0, .int .i64 0] 69)) (c := 3) (l := alT) (by rw [alT_c]; exact RD.of_blk (Blk.new W [.int .i64 0, .int .i64 0, .int .i64 0, .int .i64 0, .int .i64 0, .int .i64 1, .int .i64 0, .int .i64 0, .int .i64 2, .int .i64 0, .int .i64 0, .int .i64 0] 69) rfl trivial : RD _ (fun _ => True) 4 (some ⟨W.heap.size, 0, none⟩) 3 (alT.flatMap cfC)) rfl).mono fun _ _ h => h.ok f2 f1 f3)
  have HG1 := Lib.hid (fun (W : World) => (by rw [alG1_c]; exact RD.of_blk (Blk.new W [.int .i64 1, .int .i64 0, .int .i64 0, .int .i64 0, .int .i64 0, .int .i64 5, .int .i64 0, .int .i64 0, .int .i64 0, .int .i64 0, .int .i64 1, .int .i64 1, .int .i64 0, .int .i64 0, .int .i64 0] 80) rfl trivial : RD (W.alloc (.cells #[.int .i64 1, .int .i64 0, .int .i64 0, .int .i64 0, .int .i64 0, .int .i64 5, .int .i64 0, .int .i64 0, .int .i64 0, .int .i64 0, .int .i64 1, .int .i64 1, .int .i64 0, .int .i64 0, .int .i64 0] 80)) (fun _ => True) 5 (some ⟨W.heap.size, 0, none⟩) 3 (alG1.flatMap gdC)))
  have HG2 := Lib.hid (fun (W : World) => (by rw [alG2_c]; exact RD.of_blk (Blk.new W [.int .i64 1, .int .i64 0, .int .i64 0, .int .i64 0, .int .i64 0, .int .i64 1, .int .i64 2, .int .i64 0, .int .i64 0, .int .i64 0] 80) rfl trivial : RD (W.alloc (.cells #[.int .i64 1, .int .i64 0, .int .i64 0, .int .i64 0, .int .i64 0, .int .i64 1, .int .i64 2, .int .i64 0, .int .i64 0, .int .i64 0] 80)) (fun _ => True) 5 (some ⟨W.heap.size, 0, none⟩) 2 (alG2.flatMap gdC)))
  have HG3 := Lib.hid (fun (W : World) => (by rw [alG3_c]; exact RD.of_blk (Blk.new W [.int .i64 2, .int .i64 1, .int .i64 9, .int .i64 0, .int .i64 0] 80) rfl trivial : RD (W.alloc (.cells #[.int .i64 2, .int .i64 1, .int .i64 9, .int .i64 0, .int .i64 0] 80)) (fun _ => True) 5 (some ⟨W.heap.size, 0, none⟩) 1 (alG3.flatMap gdC)))
  clear f1 f2 f3 f4 f5 f6 f7 f8 f9 f10
  go_enter Try.func7, Try.ntmps7
  go_wp2_with fail
  refine (CN.out _).mono ?_; rintro e w2 ⟨A1, c1, L1, rfl, hT1, hm1, hf1, hb1⟩
  have HB2 := Lib.hid (up_trans (up_alloc w (.cells #[.int .i64 0, .int .i64 0, .int .i64 0, .int .i64 0, .int .i64 0, .int .i64 1, .int .i64 0, .int .i64 0, .int .i64 2, .int .i64 0, .int .i64 0, .int .i64 0] 69)) hb1)
  have CO := Lib.hid ((c_offer (d := 3) (hT1.below (up_alloc w2 (.cells #[.int .i64 1, .int .i64 0, .int .i64 0, .int .i64 0, .int .i64 0, .int .i64 5, .int .i64 0, .int .i64 0, .int .i64 0, .int .i64 0, .int .i64 1, .int .i64 1, .int .i64 0, .int .i64 0, .int .i64 0] 80))) (HG1.out w2) rfl hf1 (by omega) (by omega) 3 true).mono fun _ _ h => h.ok (by rw [hm1]; exact F4.out))
  clear CN HG1 hT1 hm1 hf1 hb1
  go_wp2_with fail
  refine CO.out.mono ?_; rintro e w3 ⟨A2, c2, L2, rfl, hT2, hm2, hf2, hb2⟩
  have hb23 := up_trans (up_alloc w2 (.cells #[.int .i64 1, .int .i64 0, .int .i64 0, .int .i64 0, .int .i64 0, .int .i64 5, .int .i64 0, .int .i64 0, .int .i64 0, .int .i64 0, .int .i64 1, .int .i64 1, .int .i64 0, .int .i64 0, .int .i64 0] 80)) hb2
  have HB3 := Lib.hid (up_trans HB2.out hb23)
  have HT2 := Lib.hid hT2
  have HM2 := Lib.hid hm2
  have HF2 := Lib.hid hf2
  have CO2 := Lib.hid (c_offer (d := 2) (hT2.below (up_alloc w3 (.cells #[.int .i64 1, .int .i64 0, .int .i64 0, .int .i64 0, .int .i64 0, .int .i64 1, .int .i64 2, .int .i64 0, .int .i64 0, .int .i64 0] 80))) (HG2.out w3) rfl hf2 (by omega) (by omega) 4 true)
  clear CO HG2 hT2 hm2 hf2 hb2 hb23
  go_wp2_with fail
  refine CO2.out.mono ?_; rintro e w4 ⟨A3, c3, L3, rfl, _, _, _, _, hb3⟩
  have hb34 := up_trans (up_alloc w3 (.cells #[.int .i64 1, .int .i64 0, .int .i64 0, .int .i64 0, .int .i64 0, .int .i64 1, .int .i64 2, .int .i64 0, .int .i64 0, .int .i64 0] 80)) hb3
  have HB4 := Lib.hid (up_trans HB3.out hb34)
  have hT4 := HT2.out.below hb34
  have HT4 := Lib.hid hT4
  have CO3 := Lib.hid ((c_offer (d := 1) (hT4.below (up_alloc w4 (.cells #[.int .i64 2, .int .i64 1, .int .i64 9, .int .i64 0, .int .i64 0] 80))) (HG3.out w4) rfl HF2.out (by omega) (by omega) 5 false).mono fun _ _ h => h.ok (by rw [HM2.out]; exact F6.out))
  rw [show offRun 4 true (L2.map Prod.fst) 0 alG2 = (X, 0, 15) by rw [HM2.out]; exact F5.out]
  clear CO2 HG3 hb3 hb34 hT4 HT2
  go_wp2_with fail
  refine CO3.out.mono ?_; rintro e w5 ⟨A5, c5, L5, rfl, hT5, hm5, hf5, hb5⟩
  have hb45 := up_trans (up_alloc w4 (.cells #[.int .i64 2, .int .i64 1, .int .i64 9, .int .i64 0, .int .i64 0] 80)) hb5
  have HB5 := Lib.hid (up_trans HB4.out hb45)
  have HT5 := Lib.hid (HT4.out.below hb45)
  have CM := Lib.hid (c_moves hT5 (hf5.mono (by omega)) (by omega))
  have hv : mvL 0 (L5.map Prod.fst) = [(1, 2)] := by rw [hm5]; exact F7.out
  rw [hv] at CM
  clear CO3 hT5 hm5 hf5 hb5 hb45 hv
  go_wp2_with fail
  refine CM.out.mono ?_; rintro e w6 ⟨A6, c6, rfl, -, -, hr6, hb6⟩
  obtain ⟨b6, o6, rfl, _, _, hc6⟩ := hr6.at_ (by decide)
  have c60 := hc6 0 _ rfl
  have c61 := hc6 1 _ rfl
  simp only [Nat.add_zero] at c60
  have HB6 := Lib.hid (up_trans HB5.out hb6)
  have hT6 := HT5.out.below hb6
  have HT6 := Lib.hid hT6
  have CL := Lib.hid (c_tleave hT6 HF2.out (by omega) (by omega) 3)
  clear CM hr6 hc6 hb6 hT6
  go_wp2_with (first | (go_at_call 15; refine CL.out.mono ?_; rintro e w7 ⟨v7, L7, rfl, ho7, hm7, _, hb7⟩; obtain ⟨g7, c7, q7, rfl, _, _, hq7, hrg7, _, hch7⟩ := ho7.at_ 0 (by omega); have HB7 := Lib.hid (up_trans HB6.out hb7); have hqC : q7.1.G = [] := (by have h1 := map_fst_at hq7; rw [hm7, HM2.out, F9.out] at h1; injection h1 with h1; rw [← h1]; exact F10.out); obtain ⟨gA, gc, c10⟩ := cell_g hrg7 hch7 hqC; have hh : hitL 3 0 (L2.map Prod.fst) = [] := (by rw [HM2.out]; exact F8.out); have CH := Lib.hid (c_hits (HT6.out.below hb7) (HF2.out.mono (by omega)) (by omega) 3); rw [hh] at CH; clear hqC hh ho7 hm7 hb7 hq7 hrg7 hch7) | (go_at_call 22; refine CH.out.mono ?_; rintro e w8 ⟨A8, c8, rfl, -, -, -, hb8⟩; have HB8 := Lib.hid (up_trans HB7.out hb8); clear hb8))
  go_ret
  exact ⟨rfl, HB8.out⟩
end Go.Proofs.Ytnmjjemkaamcfaa

/- Package choice's Bytes: it ranges over the choices, and writes into a builder. -/
import Derived.Test.YtpbjfadandnhaaaPkg
namespace Go.Proofs.Ytpbjfadandnhaaa
open Go.RowKit Go.Shelf
attribute [local go_sem] Oper.semAt_some

def StrPost (w : World) (l : List UInt8) (e : Ending) (w' : World) : Prop := e = .returned (.string ⟨l.toArray⟩) ∧ Below w.heap.size w w'
theorem Bd.new {B : Nat} {w : World} (hB : B ≤ w.heap.size) : Bd B w.heap.size [] (w.alloc (.cells #[.pointer none, .slice none 0 0] 53)) :=
  .inl ⟨hB, .slice none 0 0, World.alloc_heap_new w _, World.ownsRowF_nil _ _ _ _, by simp [Value.ownBlock]⟩
theorem BdAt.own {B b : Nat} {bs : List Value} {X Y : World} {row : Option Nat} (h : BdAt B b bs X) (hg : X.grownBy Y row) (hr : ∀ r, row = some r → ∃ o : Obj, X.heap[r]? = some o ∧ o.isCells = false) : BdAt B b bs Y := by
  obtain ⟨hB, v, hb, hown, hne⟩ := h
  refine ⟨hB, v, (hg.block b (lt_of_block hb) fun e => ?_).trans hb, hown.kept hg ?_, hne⟩
  · obtain ⟨o, ho, hc⟩ := hr b e.symm
    rw [hb] at ho
    cases ho
    cases hc
  · rcases hv : v.ownBlock with _ | g
    · exact .inl rfl
    · refine .inr fun e => ?_
      obtain ⟨c, fz, hg'⟩ := Lib.ownsRowF_kind hown g hv
      obtain ⟨o, ho, hc⟩ := hr g e.symm
      rw [hg'] at ho
      cases ho
      cases hc
theorem BdAt.up2 {B b : Nat} {bs : List Value} {X Y : World} (h : BdAt B b bs X) (hu : Below X.heap.size X Y) : BdAt B b bs Y := by
  obtain ⟨hB, v, hb, hown, hne⟩ := h
  refine ⟨hB, v, (hu.block b (lt_of_block hb)).trans hb, hown.kept (row := none) ⟨hu.os, hu.tape, hu.output, hu.size, fun k hk _ => hu.block k hk⟩ ?_, hne⟩
  cases hv : v.ownBlock <;> simp

set_option maxRecDepth 100000 in
set_option maxHeartbeats 4000000 in
theorem bytes_in (n : Nat) (hn : 3 ≤ n) {w : World} {pl : Nat → Prop} {A : Option Addr} {c : Nat} {L : List CH} (hR : RD w pl 3 A L.length (L.flatMap chC)) (hL : L.length ≤ 2000) (hok : ∀ y ∈ L, y.chk = 0) :
    CallsIn Fence.wide n Try.prog 10 #[.slice A L.length c] w (StrPost w (chBytes L)) := by
  have h1 : 1 ≤ n := by omega
  have HX : Hid (chBytes L = chPair L.length ++ L.flatMap chEnc) := Lib.hid (bytes_yes (by rw [all_of hL hok]))
  have CA := Lib.hid (c_all (c := c) hR (by omega))
  rw [all_of hL hok] at CA
  have HR := Lib.hid (hR.lt.lo (pl' := (· < w.heap.size)) fun b hb => hb.2)
  have HOK := Lib.hid hok
  clear hR hok
  refine callsIn_of_wp_marks Try.func10 rfl trivial ?_ rfl
  simp only [Try.ntmps10, List.size_toArray, List.length_cons, List.length_nil, Nat.reduceAdd, Nat.reduceSub, Array.replicate_succ, Array.replicate_zero, List.push_toArray, List.append_toArray, List.nil_append, List.cons_append]
  gi_wp2
  refine ⟨trivial, (callsIn_wide.2 CA.out).mono ?_⟩
  rintro e w1 ⟨rfl, hb1⟩
  have HB1 := Lib.hid hb1
  have hbd := Bd.new (B := w.heap.size) (w := w1) hb1.size
  have HBD := Lib.hid hbd
  clear hb1 hbd
  gi_wp2
  refine ⟨trivial, (callsIn_wide.2 (c_pair L.length _)).mono ?_⟩
  rintro e w2 ⟨rfl, rfl⟩
  gi_wp2
  have hq1 := Blk.new' (w1.alloc (.cells #[.pointer none, .slice none 0 0] 53)) [.int .u8 ((L.length : Int) / 256 % 256), .int .u8 ((L.length : Int) % 256)] 5 (w1.heap.size + 1) (by simp)
  have hU0 := (HB1.out.alloc HB1.out.size (.cells #[.pointer none, .slice none 0 0] 53)).alloc (by have := HB1.out.size; simp; omega) (.cells #[.int .u8 ((L.length : Int) / 256 % 256), .int .u8 ((L.length : Int) % 256)] 5)
  have hBd2 := HBD.out.alloc (.cells #[.int .u8 ((L.length : Int) / 256 % 256), .int .u8 ((L.length : Int) % 256)] 5)
  refine ⟨trivial, (callsIn_wide.2 (c_bwrite hBd2 hq1 (by simp) hU0.size)).mono ?_⟩
  rintro e w3 ⟨rfl, hA3, hK3⟩
  have hU3 := hU0.trans hK3.up
  have HU3 := Lib.hid hU3
  have HA3 := Lib.hid hA3
  clear hq1 hU0 hBd2 hA3 hK3 hU3 HBD
  gi_wp2
  refine ⟨trivial, (callsIn_wide.2 (c_values A L.length c _)).mono ?_⟩
  rintro e w' ⟨rfl, rfl⟩
  have hseq := Lib.hid (values_stops (n - 1) w3.heap.size w.heap.size A c L (by omega) (w3.alloc (.cells #[.slice A L.length c] 29)) (by have := HU3.out.size; simp; omega) (by simp) ((Blk.new w3 [.slice A L.length c] 29).cell 0 _ rfl) (HR.out.belowN (HU3.out.alloc HU3.out.size _)))
  have HZ : Hid (∀ (pre : List CH), pre.length < L.length → ([Value.int .u8 ((L.length : Int) / 256 % 256), Value.int .u8 ((L.length : Int) % 256)] ++ pre.flatMap chRawC).length ≤ 100000) := Lib.hid fun pre hp => by rw [List.length_append, raws_len]; simp; omega
  have HS3 := Lib.hid (show w.heap.size ≤ (w3.alloc (.cells #[.slice A L.length c] 29)).heap.size by have := HU3.out.size; simp; omega)
  gi_wp2
  refine wpIn_rangeFunc_ownH rfl h1 (gf := 30) (lb := #[.pointer (some ⟨w3.heap.size, 0, none⟩)]) rfl trivial (enters_of Try.func30 (by kernel_rfl) rfl)
    hseq.out belowK_t (belowK_b HS3.out) (Below.refl _ _) (fun _ => rfl)
    (fun pre W => BdAt w.heap.size w1.heap.size ([.int .u8 ((L.length : Int) / 256 % 256), .int .u8 ((L.length : Int) % 256)] ++ pre.flatMap chRawC) W ∧ Below w.heap.size w W)
    (fun _ _ _ => False)
    (fun s A B row hs hg hr => ⟨hs.1.own hg fun r e => (hr r e).2, hs.2.grown hg hs.2.size fun k e => Nat.le_trans HS3.out (hr k e).1⟩)
    (fun _ _ _ _ _ hs _ _ => hs)
    ⟨by rw [List.flatMap_nil, List.append_nil]; exact HA3.out.up2 (up_alloc _ _), HU3.out.alloc HU3.out.size _⟩
    (fun x a' W => ∃ Bx, w.heap.size ≤ Bx ∧ Blk W Bx [.int .i64 x.k, .int .i64 x.v, .int .i64 x.w] 36 ∧ a' = { tmps := #[.slice A L.length c, undef, .string ⟨#[]⟩, .int .i64 0, .int .i64 0, .pointer (some ⟨w1.heap.size, 0, none⟩), .pointer (some ⟨Bx, 0, none⟩), .tuple #[.int .i64 0, .int .i64 0], .slice A L.length c, .tuple #[.int .i64 0, .int .i64 0], .int .i64 0, .int .i64 0, .int .i64 0, .bool false, .slice A L.length c, .int .i64 L.length, .slice (some ⟨w1.heap.size + 1, 0, none⟩) 2 2, .tuple #[.int .i64 2, .nilIface], .slice A L.length c, .func (.func 30) #[] #[.pointer (some ⟨w3.heap.size, 0, none⟩)], .agg #[.int .i64 x.k, .int .i64 x.v, .int .i64 x.w], undef, undef, undef, undef, undef, undef, undef, undef], defers := [] })
    (fun x a' _ X Y row hs hg hr => by obtain ⟨Bx, e1, e2, e3⟩ := hs; exact ⟨Bx, e1, blk_own e2 hg hr, e3⟩)
    ?assign ?body ?done ?stop
  case assign =>
    rintro l pre x W K ⟨hA, hU⟩ hK
    gi_wp2
    exact hK _ _ ((KeepsOthers.alloc _ _).from _) ((Below.refl _ W).alloc hU.size _) ⟨hA.up2 (up_alloc _ _), hU.alloc hU.size _⟩ ⟨W.heap.size, hU.size, Blk.new W [.int .i64 x.k, .int .i64 x.v, .int .i64 x.w] 36, rfl⟩
  case body =>
    rintro l pre x a' W hl ⟨r, hr⟩ ⟨hA, hU⟩ ⟨Bx, hBx, bX, rfl⟩ hlt
    have hlen := HZ.out pre hlt
    have hb1 : 1 ≤ n - 1 - 1 := by omega
    obtain ⟨vb, hbb⟩ := hA.blk
    have hne : Bx ≠ w1.heap.size := bX.ne hbb (by decide)
    have HL := Lib.hid (raw_flat1 pre x)
    generalize ([Value.int .u8 ((L.length : Int) / 256 % 256), Value.int .u8 ((L.length : Int) % 256)] : List Value) = hdr at *
    have HA := Lib.hid hA
    have HUU := Lib.hid hU
    have HX1 := Lib.hid bX
    have HBB := Lib.hid hbb
    have x0 := bX.cell 0 _ rfl
    clear hr hA hU bX hbb
    gi_wp2
    refine ⟨trivial, (CallsIn.inRound l (callsIn_wide.2 (c_bwbyte (x.k % 256) (.inr HA.out) (by omega) HUU.out.size))).mono ?_⟩
    rintro e w4 ⟨rfl, hA4, hK4⟩
    have hx4 := hK4.blk HX1.out hne (by decide)
    have x0 := hx4.cell 0 _ rfl
    have x1 := hx4.cell 1 _ rfl
    have x2 := hx4.cell 2 _ rfl
    have HA4 := Lib.hid hA4
    have HK4 := Lib.hid hK4
    clear hA4 hK4 hx4 HX1
    gi_wp2
    refine ⟨trivial, (CallsIn.inRound l (callsIn_wide.2 (c_rest x _))).mono ?_⟩
    rintro e w5 ⟨rfl, rfl⟩
    have hU4 := HUU.out.trans HK4.out.up
    have hq5 := Blk.new' (w4.alloc (.cells #[.int .i64 x.k, .int .i64 x.v, .int .i64 x.w] 36)) [.int .u8 (chX x), .int .u8 (chY x)] 5 (w4.heap.size + 1) (by simp)
    have hv5 := up_trans (up_alloc w4 (.cells #[.int .i64 x.k, .int .i64 x.v, .int .i64 x.w] 36)) (up_alloc _ (.cells #[.int .u8 (chX x), .int .u8 (chY x)] 5))
    have hA5 := HA4.out.up2 hv5
    have hK5 := HK4.out.trans (BdKept.low (b := w1.heap.size) hv5 hU4.size)
    have hU5 := HUU.out.trans hK5.up
    have HK5 := Lib.hid hK5
    clear hv5 hK5 HA4 HK4 x0 x1 x2
    gi_wp2
    refine ⟨trivial, (CallsIn.inRound l (callsIn_wide.2 (c_bwrite (.inr hA5) hq5 (by rw [List.length_append]; exact Nat.le_trans (Nat.add_le_add_right hlen 1) (by decide)) hU5.size))).mono ?_⟩
    rintro e w6 ⟨rfl, hA6, hK6⟩
    have hK7 := HK5.out.trans hK6
    have hO7 := hK7.others HBB.out
    have hU7 := HUU.out.trans hK7.up
    have HF := Lib.hid (⟨hO7, hK7.up, by rw [HL.out, ← List.append_assoc, ← List.append_assoc]; exact hA6, hU7⟩ : KeepsOthers W w6 ∧ Below w.heap.size W w6 ∧ BdAt w.heap.size w1.heap.size (hdr ++ (pre ++ [x]).flatMap chRawC) w6 ∧ Below w.heap.size w w6)
    clear hK7 hO7 hU7 hA6 hK6 hA5 hq5 hU5
    gi_wp2
    exact ⟨HF.out.1.from _, HF.out.2⟩
  case done =>
    rintro D ys W hD rfl ⟨hA, hU⟩ hK
    obtain ⟨vb, hbb⟩ := hA.blk
    rw [raws_enc HOK.out, pair_cells (by omega) (by omega), ← Lib.byteCells_append] at hA
    have CS := Lib.hid (Try.Builder_String_any_k w.heap.size w1.heap.size (chPair ys.length ++ ys.flatMap chEnc) W (.inr hA) hU.size)
    have HK := Lib.hid hK
    have HU := Lib.hid hU
    have HBB := Lib.hid hbb
    clear hA hK hU hbb
    gi_wp2
    refine ⟨trivial, (callsIn_wide.2 CS.out).mono ?_⟩
    rintro e w4 ⟨rfl, _, hu4, ho4⟩
    have hK4 := ((⟨hu4, ho4⟩ : BdKept w.heap.size w1.heap.size W w4).others HBB.out).same D _ HK.out rfl
    have hU4 := HU.out.trans hu4
    clear hu4 ho4
    gi_wp2
    refine ⟨by simp, .inl ⟨_, _, rfl, run_takeDeferred hK4, ?_⟩⟩
    exact ⟨_, results_tmp rfl _ _ _, by rw [HX.out]; rfl, hU4.trans (belowK_b (w := w) (Nat.le_refl _) _ D _ _ (by simp at hD; have := HU3.out.size; omega) hK4 rfl rfl)⟩
  case stop =>
    rintro D c pre W _ _ h _
    exact h.elim
theorem c_bytes {w : World} {pl : Nat → Prop} {A : Option Addr} {c : Nat} {L : List CH} (hR : RD w pl 3 A L.length (L.flatMap chC)) (hl : L.length ≤ 10000000000000) :
    Calls Try.prog 10 #[.slice A L.length c] w (StrPost w (chBytes L)) := by
  by_cases h : (chAll L).2 = 0
  · obtain ⟨h2, hok⟩ := all_ok h
    exact callsIn_wide.1 (bytes_in 3 (by omega) hR h2 hok)
  · have CA := Lib.hid (c_all (c := c) hR hl)
    rw [bytes_no h]
    generalize chAll L = x at h CA
    obtain ⟨i, e⟩ := x
    have hz : (e != 0) = true := by simpa using h
    clear h hR
    go_enter Try.func10, Try.ntmps10
    go_wp2_with fail
    refine CA.out.mono ?_
    rintro e w1 ⟨rfl, hb1⟩
    go_wp2
    go_ret
    exact ⟨rfl, hb1⟩
end Go.Proofs.Ytpbjfadandnhaaa

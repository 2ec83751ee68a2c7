/- A channel in memory: four slices that read so; its cells, loaded and stored whole. Package channel: Check, New, manySend, manyGet, words. Package channel: Fine. Package channel: hitOut, hitIn, may. Package channel: Hit, What. -/
import Derived.Test.YtdiiilnebepfdaaGreatDoorA2
import Derived.Test.YtdiiilnebepfdaaGreatDoorA1
import Derived.Test.YtdiiilnebepfdaaGreatDoorA3
import Derived.Laws.Rows
import Derived.Laws.CopyOwn
import Derived.Deep.WholeRow
import Derived.BigFrame
import Derived.StillTailTactics
import Derived.BigQuiet
import Derived.Deep.QuietTactic
import Derived.Deep.DeepCutAuto
import Derived.LoopTactic
namespace Go.Proofs.YtdiiilnebepfdaaGreatDoor
open Go.RowKit

/-- A slice as a value. -/
structure SL where
  A : Option Addr
  n : Nat
  c : Nat
def SL.val (s : SL) : Value := .slice s.A s.n s.c
/-- A channel's four slices. -/
structure SM where
  (V W S G : SL)
def SL.nil : SL := ⟨none, 0, 0⟩
def SM.nil : SM := ⟨SL.nil, SL.nil, SL.nil, SL.nil⟩
/-- They read as the channel's lists. -/
structure ChW (w : World) (pl : Nat → Prop) (C : CP) (M : SM) : Prop where
  v : LnW w pl M.V.A M.V.n M.V.c C.V
  w_ : LnW w pl M.W.A M.W.n M.W.c C.W
  s : LnW w pl M.S.A M.S.n M.S.c C.S
  g : LnW w pl M.G.A M.G.n M.G.c C.G
theorem ChW.below {w w' : World} {pl : Nat → Prop} {C : CP} {M : SM} (h : ChW w pl C M) (hb : Below w.heap.size w w') : ChW w' pl C M := ⟨h.v.below hb, h.w_.below hb, h.s.below hb, h.g.below hb⟩
theorem ChW.only {s : Nat → Prop} {w w' : World} {pl : Nat → Prop} {C : CP} {M : SM} (h : ChW w pl C M) (o : Only s w w') (hs : ∀ k, s k → ¬ pl k) : ChW w' pl C M := ⟨h.v.only o hs, h.w_.only o hs, h.s.only o hs, h.g.only o hs⟩
theorem ChW.lo {w : World} {pl pl' : Nat → Prop} {C : CP} {M : SM} (h : ChW w pl C M) (hl : ∀ b, pl b → pl' b) : ChW w pl' C M := ⟨h.v.lo hl, h.w_.lo hl, h.s.lo hl, h.g.lo hl⟩
theorem ChW.nil (w : World) (pl : Nat → Prop) {C : CP} (h : C.V = [] ∧ C.W = [] ∧ C.S = [] ∧ C.G = []) : ChW w pl C SM.nil := by
  obtain ⟨h1, h2, h3, h4⟩ := h
  refine ⟨?_, ?_, ?_, ?_⟩
  · rw [h1]; exact LnW.none w pl
  · rw [h2]; exact LnW.none w pl
  · rw [h3]; exact LnW.none w pl
  · rw [h4]; exact LnW.none w pl
/-- The channel's cells. -/
def chC (C : CP) (M : SM) : List Value := [.int .i64 C.k, .int .i64 C.r, .int .i64 C.i, .int .i64 C.o, .int .i64 C.lv, .slice M.V.A M.V.n M.V.c, .bool C.os, .slice M.W.A M.W.n M.W.c, .slice M.S.A M.S.n M.S.c, .bool C.is, .slice M.G.A M.G.n M.G.c]
theorem chC_one {C : CP} {M : SM} : ∀ v ∈ chC C M, v.oneCell' = true := by
  intro v hv
  simp only [chC, List.mem_cons, List.not_mem_nil, or_false] at hv
  rcases hv with rfl | rfl | rfl | rfl | rfl | rfl | rfl | rfl | rfl | rfl | rfl <;> rfl
def chZ : List Value := [.int .i64 0, .int .i64 0, .int .i64 0, .int .i64 0, .int .i64 0, .slice none 0 0, .bool false, .slice none 0 0, .slice none 0 0, .bool false, .slice none 0 0]

theorem Blk.ck {w : World} {b : Nat} {C : CP} {M : SM} {t : TypeId} (h : Blk w b (chC C M) t) : w.cell? ⟨b, 0, none⟩ = some (.int .i64 C.k) := h.cell 0 _ rfl
theorem Blk.cr {w : World} {b : Nat} {C : CP} {M : SM} {t : TypeId} (h : Blk w b (chC C M) t) : w.cell? ⟨b, 1, none⟩ = some (.int .i64 C.r) := h.cell 1 _ rfl
theorem Blk.ci {w : World} {b : Nat} {C : CP} {M : SM} {t : TypeId} (h : Blk w b (chC C M) t) : w.cell? ⟨b, 2, none⟩ = some (.int .i64 C.i) := h.cell 2 _ rfl
theorem Blk.co {w : World} {b : Nat} {C : CP} {M : SM} {t : TypeId} (h : Blk w b (chC C M) t) : w.cell? ⟨b, 3, none⟩ = some (.int .i64 C.o) := h.cell 3 _ rfl
theorem Blk.clv {w : World} {b : Nat} {C : CP} {M : SM} {t : TypeId} (h : Blk w b (chC C M) t) : w.cell? ⟨b, 4, none⟩ = some (.int .i64 C.lv) := h.cell 4 _ rfl
theorem Blk.cV {w : World} {b : Nat} {C : CP} {M : SM} {t : TypeId} (h : Blk w b (chC C M) t) : w.cell? ⟨b, 5, none⟩ = some (.slice M.V.A M.V.n M.V.c) := h.cell 5 _ rfl
theorem Blk.cos {w : World} {b : Nat} {C : CP} {M : SM} {t : TypeId} (h : Blk w b (chC C M) t) : w.cell? ⟨b, 6, none⟩ = some (.bool C.os) := h.cell 6 _ rfl
theorem Blk.cW {w : World} {b : Nat} {C : CP} {M : SM} {t : TypeId} (h : Blk w b (chC C M) t) : w.cell? ⟨b, 7, none⟩ = some (.slice M.W.A M.W.n M.W.c) := h.cell 7 _ rfl
theorem Blk.cS {w : World} {b : Nat} {C : CP} {M : SM} {t : TypeId} (h : Blk w b (chC C M) t) : w.cell? ⟨b, 8, none⟩ = some (.slice M.S.A M.S.n M.S.c) := h.cell 8 _ rfl
theorem Blk.cis {w : World} {b : Nat} {C : CP} {M : SM} {t : TypeId} (h : Blk w b (chC C M) t) : w.cell? ⟨b, 9, none⟩ = some (.bool C.is) := h.cell 9 _ rfl
theorem Blk.cG {w : World} {b : Nat} {C : CP} {M : SM} {t : TypeId} (h : Blk w b (chC C M) t) : w.cell? ⟨b, 10, none⟩ = some (.slice M.G.A M.G.n M.G.c) := h.cell 10 _ rfl

section
variable {P : Program}
end

end Go.Proofs.YtdiiilnebepfdaaGreatDoor

namespace Go.Proofs.YtdiiilnebepfdaaGreatDoor
open Go.RowKit

theorem chk_bad {k r i o : Int} (h : 0 ≤ k ∧ k ≤ 3) (h' : r < 0 ∨ 8 < r ∨ pzFine i = false ∨ pzFine o = false) : ccE k r i o = 8 := by
  unfold ccE; rw [if_neg (by omega), if_pos h']
theorem chk_ok {k r i o : Int} (h : 0 ≤ k ∧ k ≤ 3) (h' : 0 ≤ r ∧ r ≤ 8) (hi : pzFine i = true) (ho : pzFine o = true) : ccE k r i o = 0 := by
  unfold ccE; rw [if_neg (by omega), if_neg]
  rintro (h1 | h1 | h1 | h1)
  · omega
  · omega
  · rw [hi] at h1; cases h1
  · rw [ho] at h1; cases h1
theorem chk_kind {k r i o : Int} (h : k < 0 ∨ 3 < k) : ccE k r i o = 12 := if_pos h

set_option maxHeartbeats 1000000 in
theorem c_chk (k r i o : Int) (w : World) :
    Calls Tryz.prog 136 #[.agg #[.int .i64 k, .int .i64 r, .int .i64 i, .int .i64 o]] w fun e w' => e = .returned (.int .i64 (ccE k r i o)) ∧ Below w.heap.size w w' := by
  obtain ⟨x, hx⟩ : ∃ x, ccE k r i o = x := ⟨_, rfl⟩
  rw [hx]
  by_cases h0 : k < 0
  · have HE := Lib.hid (hx.symm.trans (chk_kind (.inl h0)))
    have g0 : decide (k < 0) = true := decide_eq_true h0
    clear hx
    go_enter Tryz.func136, Tryz.ntmps136
    go_wp2
    go_ret
    exact ⟨ret_int HE.out.symm, up_alloc _ _⟩
  have g0 : decide (k < 0) = false := decide_eq_false h0
  by_cases h1 : 3 < k
  · have HE := Lib.hid (hx.symm.trans (chk_kind (.inr h1)))
    have g1 : decide (3 < k) = true := decide_eq_true h1
    clear hx
    go_enter Tryz.func136, Tryz.ntmps136
    go_wp2
    go_ret
    exact ⟨ret_int HE.out.symm, up_alloc _ _⟩
  have g1 : decide (3 < k) = false := decide_eq_false h1
  have hk : 0 ≤ k ∧ k ≤ 3 := by omega
  by_cases h2 : r < 0
  · have HE := Lib.hid (hx.symm.trans (chk_bad hk (.inl h2)))
    have g2 : decide (r < 0) = true := decide_eq_true h2
    clear hx hk
    go_enter Tryz.func136, Tryz.ntmps136
    go_wp2
    go_ret
    exact ⟨ret_int HE.out.symm, up_alloc _ _⟩
  have g2 : decide (r < 0) = false := decide_eq_false h2
  by_cases h3 : 8 < r
  · have HE := Lib.hid (hx.symm.trans (chk_bad hk (.inr (.inl h3))))
    have g3 : decide (8 < r) = true := decide_eq_true h3
    clear hx hk
    go_enter Tryz.func136, Tryz.ntmps136
    go_wp2
    go_ret
    exact ⟨ret_int HE.out.symm, up_alloc _ _⟩
  have g3 : decide (8 < r) = false := decide_eq_false h3
  have C1 := Lib.hid (fun W => c_pzfine i W)
  have C2 := Lib.hid (fun W => c_pzfine o W)
  cases h4 : pzFine i
  · have HE := Lib.hid (hx.symm.trans (chk_bad hk (.inr (.inr (.inl h4)))))
    rw [h4] at C1
    clear hx hk h4
    go_enter Tryz.func136, Tryz.ntmps136
    go_wp2_with (go_at_call 119; refine (C1.out _).mono ?_; rintro e w' ⟨rfl, rfl⟩)
    go_ret
    exact ⟨ret_int HE.out.symm, up_alloc _ _⟩
  cases h5 : pzFine o
  · have HE := Lib.hid (hx.symm.trans (chk_bad hk (.inr (.inr (.inr h5)))))
    rw [h4] at C1
    rw [h5] at C2
    clear hx hk h4 h5
    go_enter Tryz.func136, Tryz.ntmps136
    go_wp2_with fail
    refine (C1.out _).mono ?_; rintro e w' ⟨rfl, rfl⟩
    go_wp2_with fail
    refine (C2.out _).mono ?_; rintro e w' ⟨rfl, rfl⟩
    go_wp2
    go_ret
    exact ⟨ret_int HE.out.symm, up_alloc _ _⟩
  · have HE := Lib.hid (hx.symm.trans (chk_ok hk (by omega) h4 h5))
    rw [h4] at C1
    rw [h5] at C2
    clear hx hk h4 h5
    go_enter Tryz.func136, Tryz.ntmps136
    go_wp2_with fail
    refine (C1.out _).mono ?_; rintro e w' ⟨rfl, rfl⟩
    go_wp2_with fail
    refine (C2.out _).mono ?_; rintro e w' ⟨rfl, rfl⟩
    go_wp2
    go_ret
    exact ⟨ret_int HE.out.symm, up_alloc _ _⟩

set_option maxHeartbeats 400000 in
theorem c_chms (k : Int) (w : World) : Calls Tryz.prog 138 #[.int .i64 k] w fun e w' => e = .returned (.bool (chOs k)) ∧ w = w' := by
  have HE := Lib.hid (show chOs k = (k == 1 || k == 3) from rfl)
  cases h1 : (k == 1) <;> cases h3 : (k == 3)
  all_goals
    rw [h1, h3] at HE
    go_enter Tryz.func138, Tryz.ntmps138
    go_wp2
    go_ret
    exact ⟨ret_bool HE.out.symm, rfl⟩
set_option maxHeartbeats 400000 in
theorem c_chmg (k : Int) (w : World) : Calls Tryz.prog 139 #[.int .i64 k] w fun e w' => e = .returned (.bool (chIs k)) ∧ w = w' := by
  have HE := Lib.hid (show chIs k = (k == 2 || k == 3) from rfl)
  cases h1 : (k == 2) <;> cases h3 : (k == 3)
  all_goals
    rw [h1, h3] at HE
    go_enter Tryz.func139, Tryz.ntmps139
    go_wp2
    go_ret
    exact ⟨ret_bool HE.out.symm, rfl⟩

theorem words_step (L : List Int) (k : Nat) (h : k < L.length) : wordsL (L.take (k + 1)) = (wordsL (L.take k) && fineW L[k]) := by
  unfold wordsL
  rw [ln_snoc L k h, List.all_append]
  simp
theorem words_no {L : List Int} {k : Nat} (h : k < L.length) (e : fineW L[k] = false) : wordsL L = false := by
  unfold wordsL
  rw [List.all_eq_false]
  exact ⟨L[k], List.getElem_mem h, by simp [e]⟩
set_option maxHeartbeats 1000000 in
theorem c_chwords {w : World} {pl : Nat → Prop} {A : Option Addr} {n c : Nat} {L : List Int} (h : LnW w pl A n c L) (hn : n ≤ 100000) :
    Calls Tryz.prog 137 #[.slice A n c] w fun e w' => e = .returned (.bool (wordsL L)) ∧ w = w' := by
  have HR := Lib.hid h.rd
  have HL := Lib.hid h.len
  clear h
  go_enter Tryz.func137, Tryz.ntmps137
  go_wp2
  go_loop [7] (fun i => ∃ k : Nat, k ≤ n ∧ i = .int .i64 k ∧ wordsL (L.take k) = true) (fun i => n - (intOf i).toNat)
  case atStart => exact ⟨0, Nat.zero_le _, rfl, rfl⟩
  case round =>
    obtain ⟨k, hk, rfl, hF⟩ := hrel
    by_cases hlt : k < n
    · have hkL : k < L.length := by rw [HL.out]; exact hlt
      obtain ⟨b, o, rfl, _, _, hc⟩ := HR.out.at_ (by omega)
      have h1 := hc k (.int .i64 L[k]) (by simp [hkL])
      have HN := Lib.hid (words_step L k hkL)
      have HX : Hid (fineW L[k] = false → wordsL L = false) := Lib.hid (words_no hkL)
      have HF := Lib.hid hF
      generalize L[k] = z at h1 HN HX
      clear hc hF
      cases hz : fineW z
      · have HG := Lib.hid (HX.out hz)
        have CP := Lib.hid (fun W => c_wfine z W)
        rw [hz] at CP
        clear hz
        go_wp2_with (go_at_call 148; refine (CP.out _).mono ?_; rintro e w' ⟨rfl, rfl⟩)
        go_ret
        exact ⟨ret_bool HG.out.symm, rfl⟩
      · have HG : Hid (wordsL (L.take (k + 1)) = true) := Lib.hid (by rw [HN.out, HF.out, hz]; rfl)
        have CP := Lib.hid (fun W => c_wfine z W)
        rw [hz] at CP
        clear hz
        go_wp2_with (go_at_call 148; refine (CP.out _).mono ?_; rintro e w' ⟨rfl, rfl⟩)
        go_round
        case rel => exact ⟨k + 1, by omega, by go_num, HG.out⟩
        case measure => simp [intOf]; omega
    · have HG : Hid (wordsL L = true) := Lib.hid (by
        rw [← List.take_length (l := L), HL.out, show n = k by omega]
        exact hF)
      obtain rfl : k = n := by omega
      clear hF
      go_wp2
      go_ret
      exact ⟨ret_bool HG.out.symm, rfl⟩

theorem info_ch : (Tryz.prog.info? 131).map (·.size) = some 11 := by kernel_rfl
end Go.Proofs.YtdiiilnebepfdaaGreatDoor

namespace Go.Proofs.YtdiiilnebepfdaaGreatDoor
open Go.RowKit

/-- A channel's lists are short. -/
structure ChFew (M : SM) : Prop where
  v : M.V.n ≤ 1000
  w_ : M.W.n ≤ 1000
  s : M.S.n ≤ 1000
  g : M.G.n ≤ 1000
theorem ChFew.of {w : World} {pl : Nat → Prop} {C : CP} {M : SM} (h : ChW w pl C M) (k : C.V.length ≤ 1000 ∧ C.W.length ≤ 1000 ∧ C.S.length ≤ 1000 ∧ C.G.length ≤ 1000) : ChFew M :=
  ⟨by have := h.v.len; omega, by have := h.w_.len; omega, by have := h.s.len; omega, by have := h.g.len; omega⟩
theorem ChFew.nil : ChFew SM.nil := by constructor <;> show (0 : Nat) ≤ 1000 <;> omega
theorem bx1_ch (w : World) (C : CP) (M : SM) : Bx1 w (w.alloc (.cells (chC C M).toArray 131)) (chC C M) 131 := bx1 w _ _
set_option maxRecDepth 100000 in
set_option maxHeartbeats 4000000 in
theorem c_chfine {w : World} {pl : Nat → Prop} {C : CP} {M : SM} (h : ChW w pl C M) (hn : ChFew M) :
    Calls Tryz.prog 121 #[.agg (chC C M).toArray] w fun e w' => e = .returned (.bool (chFine C)) ∧ Below w.heap.size w w' := by
  have hX := bx1_ch w C M
  generalize hw1 : w.alloc (.cells (chC C M).toArray 131) = w1 at hX
  have HW := Lib.hid hw1
  have HX := Lib.hid hX
  clear hw1 hX
  have CK := Lib.hid (fun W => c_chk C.k C.r C.i C.o W)
  have CZ := Lib.hid (fun W => c_pzfine C.lv W)
  have CV := Lib.hid (fun W (hW : Below w.heap.size w W) => c_chwords (h.v.below hW) (by have := hn.v; omega))
  have CT := Lib.hid (fun W (hW : Below w.heap.size w W) => c_chwords (h.s.below hW) (by have := hn.s; omega))
  have CS := Lib.hid (fun W => c_chms C.k W)
  have CG := Lib.hid (fun W => c_chmg C.k W)
  have CW := Lib.hid (fun W (hW : Below w.heap.size w W) => c_lnfine (h.w_.below hW) (by have := hn.w_; omega) C.os)
  have CI := Lib.hid (fun W (hW : Below w.heap.size w W) => c_lnfine (h.g.below hW) (by have := hn.g; omega) C.is)
  have HE := Lib.hid (show chFine C = ((ccE C.k C.r C.i C.o == 0) && (pzFine C.lv && (decide ((C.V.length : Int) ≤ C.r) && (wordsL C.V && (((C.S.length : Int) == (C.W.length : Int)) && (wordsL C.S && ((C.os == chOs C.k) && (lnFine C.os C.W && ((C.is == chIs C.k) && lnFine C.is C.G))))))))) from rfl)
  rw [h.v.len, h.w_.len, h.s.len] at HE
  generalize chFine C = q at HE ⊢
  generalize ccE C.k C.r C.i C.o = x0 at CK HE
  generalize pzFine C.lv = q1 at CZ HE
  generalize wordsL C.V = q3 at CV HE
  generalize wordsL C.S = q5 at CT HE
  generalize chOs C.k = x6 at CS HE
  generalize lnFine C.os C.W = q7 at CW HE
  generalize chIs C.k = x8 at CG HE
  generalize lnFine C.is C.G = q9 at CI HE
  obtain ⟨q0, hq0⟩ : ∃ q, (x0 == 0) = q := ⟨_, rfl⟩
  obtain ⟨q2, hq2⟩ : ∃ q, decide ((M.V.n : Int) ≤ C.r) = q := ⟨_, rfl⟩
  obtain ⟨q4, hq4⟩ : ∃ q, ((M.S.n : Int) == (M.W.n : Int)) = q := ⟨_, rfl⟩
  obtain ⟨q6, hq6⟩ : ∃ q, (C.os == x6) = q := ⟨_, rfl⟩
  obtain ⟨q8, hq8⟩ : ∃ q, (C.is == x8) = q := ⟨_, rfl⟩
  rw [hq0, hq2, hq4, hq6, hq8] at HE
  clear h hn
  have gK := grown_call (w := w1) fun W _ => CK.out W
  have gZ := grown_call (w := w1) fun W _ => same_below (CZ.out W)
  have gV := grown_call (w := w1) fun W hW => same_below (CV.out W (up_trans HX.out.up hW))
  have gT := grown_call (w := w1) fun W hW => same_below (CT.out W (up_trans HX.out.up hW))
  have gS := grown_call (w := w1) fun W _ => same_below (CS.out W)
  have gG := grown_call (w := w1) fun W _ => same_below (CG.out W)
  have gW := grown_call (w := w1) fun W hW => CW.out W (up_trans HX.out.up hW)
  have gI := grown_call (w := w1) fun W hW => CI.out W (up_trans HX.out.up hW)
  clear CK CZ CV CT CS CG CW CI
  have c0 := cell_regrown (HX.out.box.cell 0 _ rfl)
  have c1 := cell_regrown (HX.out.box.cell 1 _ rfl)
  have c2 := cell_regrown (HX.out.box.cell 2 _ rfl)
  have c3 := cell_regrown (HX.out.box.cell 3 _ rfl)
  have c4 := cell_regrown (HX.out.box.cell 4 _ rfl)
  have c5 := cell_regrown (HX.out.box.cell 5 _ rfl)
  have c6 := cell_regrown (HX.out.box.cell 6 _ rfl)
  have c7 := cell_regrown (HX.out.box.cell 7 _ rfl)
  have c8 := cell_regrown (HX.out.box.cell 8 _ rfl)
  have c9 := cell_regrown (HX.out.box.cell 9 _ rfl)
  have c10 := cell_regrown (HX.out.box.cell 10 _ rfl)
  cases q0
  · go_enter Tryz.func121, Tryz.ntmps121
    go_wp2_with fail
    rw [HW.out]
    refine wp_region_quiet_below (by kernel_rfl) (by kernel_rfl) ?_
    simp only [List.append_eq, List.cons_append, List.nil_append]
    repeat (go_big_quiet_step (first | (go_at_call 136; with_reducible exact gK _ _) | (go_at_call 119; with_reducible exact gZ _ _) | (go_at_call 137; with_reducible exact gV _ _) | (go_at_call 137; with_reducible exact gT _ _) | (go_at_call 138; with_reducible exact gS _ _) | (go_at_call 120; with_reducible exact gW _ _) | (go_at_call 139; with_reducible exact gG _ _) | (go_at_call 120; with_reducible exact gI _ _)))
    refine wpQuiet_nil ?_
    intro _ hw'
    obtain ⟨⟨dq, osq⟩, hw''⟩ := hw'
    subst hw''
    go_wp2
    go_ret
    exact ⟨ret_bool HE.out.symm, up_trans HX.out.up (below_regrown _ dq osq)⟩
  cases q1
  · go_enter Tryz.func121, Tryz.ntmps121
    go_wp2_with fail
    rw [HW.out]
    refine wp_region_quiet_below (by kernel_rfl) (by kernel_rfl) ?_
    simp only [List.append_eq, List.cons_append, List.nil_append]
    repeat (go_big_quiet_step (first | (go_at_call 136; with_reducible exact gK _ _) | (go_at_call 119; with_reducible exact gZ _ _) | (go_at_call 137; with_reducible exact gV _ _) | (go_at_call 137; with_reducible exact gT _ _) | (go_at_call 138; with_reducible exact gS _ _) | (go_at_call 120; with_reducible exact gW _ _) | (go_at_call 139; with_reducible exact gG _ _) | (go_at_call 120; with_reducible exact gI _ _)))
    refine wpQuiet_nil ?_
    intro _ hw'
    obtain ⟨⟨dq, osq⟩, hw''⟩ := hw'
    subst hw''
    go_wp2
    go_ret
    exact ⟨ret_bool HE.out.symm, up_trans HX.out.up (below_regrown _ dq osq)⟩
  cases q2
  · go_enter Tryz.func121, Tryz.ntmps121
    go_wp2_with fail
    rw [HW.out]
    refine wp_region_quiet_below (by kernel_rfl) (by kernel_rfl) ?_
    simp only [List.append_eq, List.cons_append, List.nil_append]
    repeat (go_big_quiet_step (first | (go_at_call 136; with_reducible exact gK _ _) | (go_at_call 119; with_reducible exact gZ _ _) | (go_at_call 137; with_reducible exact gV _ _) | (go_at_call 137; with_reducible exact gT _ _) | (go_at_call 138; with_reducible exact gS _ _) | (go_at_call 120; with_reducible exact gW _ _) | (go_at_call 139; with_reducible exact gG _ _) | (go_at_call 120; with_reducible exact gI _ _)))
    refine wpQuiet_nil ?_
    intro _ hw'
    obtain ⟨⟨dq, osq⟩, hw''⟩ := hw'
    subst hw''
    go_wp2
    go_ret
    exact ⟨ret_bool HE.out.symm, up_trans HX.out.up (below_regrown _ dq osq)⟩
  cases q3
  · go_enter Tryz.func121, Tryz.ntmps121
    go_wp2_with fail
    rw [HW.out]
    refine wp_region_quiet_below (by kernel_rfl) (by kernel_rfl) ?_
    simp only [List.append_eq, List.cons_append, List.nil_append]
    repeat (go_big_quiet_step (first | (go_at_call 136; with_reducible exact gK _ _) | (go_at_call 119; with_reducible exact gZ _ _) | (go_at_call 137; with_reducible exact gV _ _) | (go_at_call 137; with_reducible exact gT _ _) | (go_at_call 138; with_reducible exact gS _ _) | (go_at_call 120; with_reducible exact gW _ _) | (go_at_call 139; with_reducible exact gG _ _) | (go_at_call 120; with_reducible exact gI _ _)))
    refine wpQuiet_nil ?_
    intro _ hw'
    obtain ⟨⟨dq, osq⟩, hw''⟩ := hw'
    subst hw''
    go_wp2
    go_ret
    exact ⟨ret_bool HE.out.symm, up_trans HX.out.up (below_regrown _ dq osq)⟩
  cases q4
  · go_enter Tryz.func121, Tryz.ntmps121
    go_wp2_with fail
    rw [HW.out]
    refine wp_region_quiet_below (by kernel_rfl) (by kernel_rfl) ?_
    simp only [List.append_eq, List.cons_append, List.nil_append]
    repeat (go_big_quiet_step (first | (go_at_call 136; with_reducible exact gK _ _) | (go_at_call 119; with_reducible exact gZ _ _) | (go_at_call 137; with_reducible exact gV _ _) | (go_at_call 137; with_reducible exact gT _ _) | (go_at_call 138; with_reducible exact gS _ _) | (go_at_call 120; with_reducible exact gW _ _) | (go_at_call 139; with_reducible exact gG _ _) | (go_at_call 120; with_reducible exact gI _ _)))
    refine wpQuiet_nil ?_
    intro _ hw'
    obtain ⟨⟨dq, osq⟩, hw''⟩ := hw'
    subst hw''
    go_wp2
    go_ret
    exact ⟨ret_bool HE.out.symm, up_trans HX.out.up (below_regrown _ dq osq)⟩
  cases q5
  · go_enter Tryz.func121, Tryz.ntmps121
    go_wp2_with fail
    rw [HW.out]
    refine wp_region_quiet_below (by kernel_rfl) (by kernel_rfl) ?_
    simp only [List.append_eq, List.cons_append, List.nil_append]
    repeat (go_big_quiet_step (first | (go_at_call 136; with_reducible exact gK _ _) | (go_at_call 119; with_reducible exact gZ _ _) | (go_at_call 137; with_reducible exact gV _ _) | (go_at_call 137; with_reducible exact gT _ _) | (go_at_call 138; with_reducible exact gS _ _) | (go_at_call 120; with_reducible exact gW _ _) | (go_at_call 139; with_reducible exact gG _ _) | (go_at_call 120; with_reducible exact gI _ _)))
    refine wpQuiet_nil ?_
    intro _ hw'
    obtain ⟨⟨dq, osq⟩, hw''⟩ := hw'
    subst hw''
    go_wp2
    go_ret
    exact ⟨ret_bool HE.out.symm, up_trans HX.out.up (below_regrown _ dq osq)⟩
  cases q6
  · go_enter Tryz.func121, Tryz.ntmps121
    go_wp2_with fail
    rw [HW.out]
    refine wp_region_quiet_below (by kernel_rfl) (by kernel_rfl) ?_
    simp only [List.append_eq, List.cons_append, List.nil_append]
    repeat (go_big_quiet_step (first | (go_at_call 136; with_reducible exact gK _ _) | (go_at_call 119; with_reducible exact gZ _ _) | (go_at_call 137; with_reducible exact gV _ _) | (go_at_call 137; with_reducible exact gT _ _) | (go_at_call 138; with_reducible exact gS _ _) | (go_at_call 120; with_reducible exact gW _ _) | (go_at_call 139; with_reducible exact gG _ _) | (go_at_call 120; with_reducible exact gI _ _)))
    refine wpQuiet_nil ?_
    intro _ hw'
    obtain ⟨⟨dq, osq⟩, hw''⟩ := hw'
    subst hw''
    go_wp2
    go_ret
    exact ⟨ret_bool HE.out.symm, up_trans HX.out.up (below_regrown _ dq osq)⟩
  cases q7
  · go_enter Tryz.func121, Tryz.ntmps121
    go_wp2_with fail
    rw [HW.out]
    refine wp_region_quiet_below (by kernel_rfl) (by kernel_rfl) ?_
    simp only [List.append_eq, List.cons_append, List.nil_append]
    repeat (go_big_quiet_step (first | (go_at_call 136; with_reducible exact gK _ _) | (go_at_call 119; with_reducible exact gZ _ _) | (go_at_call 137; with_reducible exact gV _ _) | (go_at_call 137; with_reducible exact gT _ _) | (go_at_call 138; with_reducible exact gS _ _) | (go_at_call 120; with_reducible exact gW _ _) | (go_at_call 139; with_reducible exact gG _ _) | (go_at_call 120; with_reducible exact gI _ _)))
    refine wpQuiet_nil ?_
    intro _ hw'
    obtain ⟨⟨dq, osq⟩, hw''⟩ := hw'
    subst hw''
    go_wp2
    go_ret
    exact ⟨ret_bool HE.out.symm, up_trans HX.out.up (below_regrown _ dq osq)⟩
  cases q8
  · go_enter Tryz.func121, Tryz.ntmps121
    go_wp2_with fail
    rw [HW.out]
    refine wp_region_quiet_below (by kernel_rfl) (by kernel_rfl) ?_
    simp only [List.append_eq, List.cons_append, List.nil_append]
    repeat (go_big_quiet_step (first | (go_at_call 136; with_reducible exact gK _ _) | (go_at_call 119; with_reducible exact gZ _ _) | (go_at_call 137; with_reducible exact gV _ _) | (go_at_call 137; with_reducible exact gT _ _) | (go_at_call 138; with_reducible exact gS _ _) | (go_at_call 120; with_reducible exact gW _ _) | (go_at_call 139; with_reducible exact gG _ _) | (go_at_call 120; with_reducible exact gI _ _)))
    refine wpQuiet_nil ?_
    intro _ hw'
    obtain ⟨⟨dq, osq⟩, hw''⟩ := hw'
    subst hw''
    go_wp2
    go_ret
    exact ⟨ret_bool HE.out.symm, up_trans HX.out.up (below_regrown _ dq osq)⟩
  go_enter Tryz.func121, Tryz.ntmps121
  go_wp2_with fail
  rw [HW.out]
  refine wp_region_quiet_below (by kernel_rfl) (by kernel_rfl) ?_
  simp only [List.append_eq, List.cons_append, List.nil_append]
  repeat (go_big_quiet_step (first | (go_at_call 136; with_reducible exact gK _ _) | (go_at_call 119; with_reducible exact gZ _ _) | (go_at_call 137; with_reducible exact gV _ _) | (go_at_call 137; with_reducible exact gT _ _) | (go_at_call 138; with_reducible exact gS _ _) | (go_at_call 120; with_reducible exact gW _ _) | (go_at_call 139; with_reducible exact gG _ _) | (go_at_call 120; with_reducible exact gI _ _)))
  refine wpQuiet_nil ?_
  intro _ hw'
  obtain ⟨⟨dq, osq⟩, hw''⟩ := hw'
  subst hw''
  go_wp2
  go_ret
  exact ⟨ret_bool HE.out.symm, up_trans HX.out.up (below_regrown _ dq osq)⟩
end Go.Proofs.YtdiiilnebepfdaaGreatDoor

namespace Go.Proofs.YtdiiilnebepfdaaGreatDoor
open Go.RowKit

theorem c_chout (w : World) (C : CP) (M : SM) : Calls Tryz.prog 140 #[.agg (chC C M).toArray] w fun e w' => e = .returned (.bool (chOut C)) ∧ Below w.heap.size w w' := by
  have hX := bx1_ch w C M
  generalize hw1 : w.alloc (.cells (chC C M).toArray 131) = w1 at hX
  have HW := Lib.hid hw1
  have HU := Lib.hid hX.up
  have CH := Lib.hid (fun W => c_pzhit C.lv C.o W)
  have HE := Lib.hid (show chOut C = pzHit C.lv C.o from rfl)
  rw [← HE.out] at CH
  generalize chOut C = q at CH ⊢
  have c3 := hX.box.co
  have c4 := hX.box.clv
  clear hw1 hX HE
  go_enter Tryz.func140, Tryz.ntmps140
  go_upto_region 1 with fail
  rw [HW.out]
  go_wp2_with fail
  refine (CH.out _).mono ?_; rintro e w' ⟨rfl, rfl⟩
  go_wp2
  go_ret
  exact ⟨rfl, HU.out⟩
theorem c_chin (w : World) (C : CP) (M : SM) : Calls Tryz.prog 141 #[.agg (chC C M).toArray] w fun e w' => e = .returned (.bool (chIn C)) ∧ Below w.heap.size w w' := by
  have hX := bx1_ch w C M
  generalize hw1 : w.alloc (.cells (chC C M).toArray 131) = w1 at hX
  have HW := Lib.hid hw1
  have HU := Lib.hid hX.up
  have CH := Lib.hid (fun W => c_pzhit C.lv C.i W)
  have HE := Lib.hid (show chIn C = pzHit C.lv C.i from rfl)
  rw [← HE.out] at CH
  generalize chIn C = q at CH ⊢
  have c2 := hX.box.ci
  have c4 := hX.box.clv
  clear hw1 hX HE
  go_enter Tryz.func141, Tryz.ntmps141
  go_upto_region 1 with fail
  rw [HW.out]
  go_wp2_with fail
  refine (CH.out _).mono ?_; rintro e w' ⟨rfl, rfl⟩
  go_wp2
  go_ret
  exact ⟨rfl, HU.out⟩

set_option maxHeartbeats 4000000 in
theorem c_chmay {w : World} {pl : Nat → Prop} {C : CP} {M : SM} (h : ChW w pl C M) (m : Int) :
    Calls Tryz.prog 122 #[.agg (chC C M).toArray, .int .i64 m] w fun e w' => e = .returned (.bool (chMay C m)) ∧ Below w.heap.size w w' := by
  have hX := bx1_ch w C M
  generalize hw1 : w.alloc (.cells (chC C M).toArray 131) = w1 at hX
  have HW := Lib.hid hw1
  have HX := Lib.hid hX
  have CO := Lib.hid (fun W => c_chout W C M)
  have CI := Lib.hid (fun W => c_chin W C M)
  have HE := Lib.hid (show chMay C m = if m = 1 then (C.r == 0) && (chSends C && chGets C) else if m = 2 then decide ((C.V.length : Int) < C.r) && chSends C else if m = 3 then decide (0 < (C.V.length : Int)) && chGets C else false from rfl)
  have HS := Lib.hid (show chSends C = (decide (0 < (C.W.length : Int)) && !chOut C) from rfl)
  have HG := Lib.hid (show chGets C = (decide (0 < (C.G.length : Int)) && !chIn C) from rfl)
  rw [h.v.len] at HE
  rw [h.w_.len] at HS
  rw [h.g.len] at HG
  generalize chMay C m = q at HE ⊢
  generalize chSends C = qs at HE HS
  generalize chGets C = qg at HE HG
  generalize chOut C = qo at CO HS
  generalize chIn C = qi at CI HG
  clear h hX hw1
  go_enter Tryz.func122, Tryz.ntmps122
  go_upto_region 1 with fail
  rw [HW.out]
  go_cut [5] (fun s5 wx => s5 = .bool qs ∧ Below w1.heap.size w1 wx)
  case first =>
    have c7 := HX.out.box.cW
    by_cases h0 : 0 < M.W.n
    · go_wp2_with ((refine lw_row HX.out.box (.tmp 2) rfl rfl Tryz.underlying131 rfl info_ch rfl ?_))
      refine (CO.out _).mono ?_; rintro e w2 ⟨rfl, hb2⟩
      go_wp2_with fail
      go_meet
      exact ⟨by rw [HS.out]; cases qo <;> simp [h0], hb2⟩
    · go_wp2_with fail
      go_meet
      exact ⟨by rw [HS.out]; simp [h0], Below.refl _ _⟩
  case rest =>
    obtain ⟨rfl, hb1⟩ := hcut
    have HA := Lib.hid (HX.out.next hb1)
    clear hb1
    go_upto_region 2 with fail
    go_cut [6] (fun s6 wx => s6 = .bool qg ∧ Below wc.heap.size wc wx)
    case first =>
      have c10 := HA.out.box.cG
      by_cases h0 : 0 < M.G.n
      · go_wp2_with (refine lw_row HA.out.box (.tmp 2) rfl rfl Tryz.underlying131 rfl info_ch rfl ?_)
        refine (CI.out _).mono ?_; rintro e w2 ⟨rfl, hb2⟩
        go_wp2_with fail
        go_meet
        exact ⟨by rw [HG.out]; cases qi <;> simp [h0], hb2⟩
      · go_wp2_with fail
        go_meet
        exact ⟨by rw [HG.out]; simp [h0], Below.refl _ _⟩
    case rest =>
      obtain ⟨rfl, hb2⟩ := hcut
      have HB := Lib.hid (HA.out.next hb2)
      have c1 := HB.out.box.cr
      have c5 := HB.out.box.cV
      clear hb2
      have HU := Lib.hid HB.out.up
      clear HX HA HB
      by_cases h1 : m = 1
      · subst h1
        have HQ : Hid (q = ((C.r == 0) && (qs && qg))) := Lib.hid (by rw [HE.out]; rfl)
        obtain ⟨z, hz⟩ : ∃ z, (C.r == 0) = z := ⟨_, rfl⟩
        rw [hz] at HQ
        cases z
        · go_wp2
          go_ret
          exact ⟨ret_bool HQ.out.symm, HU.out⟩
        · cases qs
          all_goals
            go_wp2
            go_ret
            exact ⟨ret_bool HQ.out.symm, HU.out⟩
      have h1' : (m == 1) = false := beq_eq_false_iff_ne.2 h1
      by_cases h2 : m = 2
      · subst h2
        have HQ : Hid (q = (decide ((M.V.n : Int) < C.r) && qs)) := Lib.hid (by rw [HE.out]; rfl)
        by_cases hv : (M.V.n : Int) < C.r
        · have HD : Hid (decide ((M.V.n : Int) < C.r) = true) := Lib.hid (decide_eq_true hv)
          go_wp2
          go_ret
          exact ⟨ret_bool (by rw [HQ.out, HD.out]; rfl), HU.out⟩
        · have HD : Hid (decide ((M.V.n : Int) < C.r) = false) := Lib.hid (decide_eq_false hv)
          go_wp2
          go_ret
          exact ⟨ret_bool (by rw [HQ.out, HD.out]; rfl), HU.out⟩
      have h2' : (m == 2) = false := beq_eq_false_iff_ne.2 h2
      by_cases h3 : m = 3
      · subst h3
        have HQ : Hid (q = (decide (0 < (M.V.n : Int)) && qg)) := Lib.hid (by rw [HE.out]; rfl)
        by_cases hv : 0 < M.V.n
        · have HD : Hid (decide (0 < (M.V.n : Int)) = true) := Lib.hid (decide_eq_true (by omega))
          go_wp2
          go_ret
          exact ⟨ret_bool (by rw [HQ.out, HD.out]; rfl), HU.out⟩
        · have HD : Hid (decide (0 < (M.V.n : Int)) = false) := Lib.hid (decide_eq_false (by omega))
          go_wp2
          go_ret
          exact ⟨ret_bool (by rw [HQ.out, HD.out]; rfl), HU.out⟩
      have h3' : (m == 3) = false := beq_eq_false_iff_ne.2 h3
      have HQ : Hid (q = false) := Lib.hid (by rw [HE.out, if_neg h1, if_neg h2, if_neg h3])
      go_wp2
      go_ret
      exact ⟨ret_bool HQ.out.symm, HU.out⟩
end Go.Proofs.YtdiiilnebepfdaaGreatDoor

namespace Go.Proofs.YtdiiilnebepfdaaGreatDoor
open Go.RowKit

/-- The moves up to one, as they are collected. -/
def whatTo (C : CP) (m : Nat) : List Int := [1, 2, 3].filter fun x => decide (x < (m : Int)) && chMay C x
theorem whatTo_1 (C : CP) : whatTo C 1 = [] := by
  unfold whatTo
  simp
theorem whatTo_4 (C : CP) (h : chFine C = true) : whatTo C 4 = chWhat C := by
  unfold whatTo chWhat
  rw [if_pos h]
  cases h1 : chMay C 1 <;> cases h2 : chMay C 2 <;> cases h3 : chMay C 3 <;> simp [h1, h2, h3]
theorem whatTo_step (C : CP) (m : Nat) (h1 : 1 ≤ m) (h3 : m ≤ 3) : whatTo C (m + 1) = if chMay C m = true then whatTo C m ++ [(m : Int)] else whatTo C m := by
  unfold whatTo
  obtain rfl | rfl | rfl : m = 1 ∨ m = 2 ∨ m = 3 := by omega
  · cases e1 : chMay C 1 <;> simp [e1]
  · cases e1 : chMay C 1 <;> cases e2 : chMay C 2 <;> simp [e1, e2]
  · cases e1 : chMay C 1 <;> cases e2 : chMay C 2 <;> cases e3 : chMay C 3 <;> simp [e1, e2, e3]
theorem whatTo_len (C : CP) (m : Nat) : (whatTo C m).length ≤ 3 := by
  unfold whatTo
  exact List.length_filter_le _ _

set_option maxHeartbeats 4000000 in
theorem c_chwhat {w : World} {pl : Nat → Prop} {C : CP} {M : SM} (h : ChW w pl C M) (hn : ChFew M) :
    Calls Tryz.prog 95 #[.agg (chC C M).toArray] w (IntsPost w (chWhat C)) := by
  have hX := bx1_ch w C M
  generalize hw1 : w.alloc (.cells (chC C M).toArray 131) = w1 at hX
  have HW := Lib.hid hw1
  have HX := Lib.hid hX
  have HV := Lib.hid h
  have CF := Lib.hid (fun W (hW : Below w.heap.size w W) => c_chfine (h.below hW) hn)
  have CM := Lib.hid (fun W (hW : Below w.heap.size w W) m => c_chmay (h.below hW) m)
  clear h hX hw1
  cases hf : chFine C
  · have HE : Hid (chWhat C = []) := Lib.hid (by unfold chWhat; rw [if_neg (by rw [hf]; decide)])
    rw [hf] at CF
    rw [HE.out]
    clear hf HE
    go_enter Tryz.func95, Tryz.ntmps95
    go_upto_region 1 with fail
    rw [HW.out]
    go_wp2_with (refine ld_row HX.out.box rfl (.tmp 1) rfl rfl Tryz.underlying131 rfl info_ch ?_)
    refine (CF.out _ HX.out.up).mono ?_; rintro e w2 ⟨rfl, hb2⟩
    have HU := Lib.hid (up_trans HX.out.up hb2)
    clear hb2
    go_wp2
    go_ret
    exact ⟨none, 0, rfl, Nat.le_refl _, by unfold maxLen; omega, RD.nil _ _ _ _, HU.out⟩
  · have HE := Lib.hid (whatTo_4 C hf)
    rw [← HE.out]
    rw [hf] at CF
    clear hf HE
    go_enter Tryz.func95, Tryz.ntmps95
    go_upto_region 1 with fail
    rw [HW.out]
    go_wp2_with (refine ld_row HX.out.box rfl (.tmp 1) rfl rfl Tryz.underlying131 rfl info_ch ?_)
    refine (CF.out _ HX.out.up).mono ?_; rintro e w2 ⟨rfl, hb2⟩
    have HA := Lib.hid (HX.out.next hb2)
    clear hb2
    go_wp2_with fail
    go_loopw [3, 4] (fun s i wr => ∃ m : Nat, 1 ≤ m ∧ m ≤ 4 ∧ i = .int .i64 m ∧ wr.ownsRow w2.heap.size 3 1 s (whatTo C m).length ((whatTo C m).map (Value.int .i64)) ∧ Below w2.heap.size w2 wr) (fun _ i _ => 4 - (intOf i).toNat)
    case atStart => exact ⟨1, by omega, by omega, rfl, by rw [whatTo_1]; exact World.ownsRow_nil _ _ _ _, Below.refl _ _⟩
    case round =>
      obtain ⟨m, hm1, hm4, rfl, hown, hb⟩ := hrel
      have HO := Lib.hid hown
      have HB := Lib.hid hb
      have HC := Lib.hid (HA.out.next hb)
      have HLN := Lib.hid (whatTo_len C m)
      by_cases hlt : m < 4
      · have hle : (m : Int) ≤ 3 := by omega
        have HS := Lib.hid (whatTo_step C m hm1 (by omega))
        have CMm := Lib.hid (CM.out _ HC.out.up m)
        clear hown hb
        cases hq : chMay C m
        · rw [hq] at CMm
          have HS2 : Hid (whatTo C (m + 1) = whatTo C m) := Lib.hid (by rw [HS.out, if_neg (by rw [hq]; decide)])
          clear hq HS
          go_wp2_with (refine ld_row HC.out.box rfl (.tmp 1) rfl rfl Tryz.underlying131 rfl info_ch ?_)
          refine CMm.out.mono ?_; rintro e w3 ⟨rfl, hb3⟩
          have HB3 := Lib.hid hb3
          clear hb3
          go_wp2_with fail
          go_roundw
          case rel => exact ⟨m + 1, by omega, by omega, by go_num, by rw [HS2.out]; exact own_below HO.out HB3.out, up_trans HB.out HB3.out⟩
          case measure => simp [intOf]; omega
        · rw [hq] at CMm
          have HS2 : Hid (whatTo C (m + 1) = whatTo C m ++ [(m : Int)]) := Lib.hid (by rw [HS.out, if_pos hq])
          clear hq HS
          go_wp2_with (refine ld_row HC.out.box rfl (.tmp 1) rfl rfl Tryz.underlying131 rfl info_ch ?_)
          refine CMm.out.mono ?_; rintro e w3 ⟨rfl, hb3⟩
          have HB3 := Lib.hid hb3
          have HO3 := Lib.hid (own_below (own_below HO.out hb3) (up_alloc w3 (.cells #[.int .i64 (m : Int)] 3)))
          have HZ : Hid (w2.heap.size ≤ (w3.alloc (.cells #[.int .i64 (m : Int)] 3)).heap.size) := Lib.hid (by have h1 := HB.out.size; have h2 := hb3.size; simp; omega)
          clear hb3
          go_wp2_with (at_builtin; refine wpList_app ei_int rfl (.tmp 15) (.tmp 17) rfl _ _ rfl HO3.out rfl (RD.one rfl) (by simp [Value.oneCell']) (by have := HLN.out; omega) HZ.out ?_; intro v4 w4 hown4 hb4; have HO4 := Lib.hid hown4; have HB4 := Lib.hid hb4; clear hown4 hb4)
          go_roundw
          case rel => exact ⟨m + 1, by omega, by omega, by go_num, by rw [HS2.out, List.map_append, List.length_append]; exact HO4.out, (up_trans HB.out (up_trans HB3.out (up_alloc _ _))).trans HB4.out⟩
          case measure => simp [intOf]; omega
      · obtain rfl : m = 4 := by omega
        clear hown hb
        go_wp2
        go_ret
        exact IntsPost.of' HO.out HA.out.up.size HC.out.up
end Go.Proofs.YtdiiilnebepfdaaGreatDoor

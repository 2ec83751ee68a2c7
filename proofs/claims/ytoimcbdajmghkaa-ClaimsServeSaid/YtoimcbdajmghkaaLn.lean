/- The law ClaimsServe. -/
import Derived.Test.YtoimcbdajmghkaaLj
import Derived.Test.YtoimcbdajmghkaaLm
import Derived.Test.YtoimcbdajmghkaaLo
import Derived.Test.YtoimcbdajmghkaaSd
import Derived.LoopTactic
namespace Go.Proofs.Ytoimcbdajmghkaa
open Go.RowKit

abbrev Pr := Int × Int
def prV (p : Pr) : List Value := [.int .u8 p.1, .int .u8 p.2]
def PrOk (p : Pr) : Prop := 0 ≤ p.1 ∧ p.1 ≤ 255 ∧ 0 ≤ p.2 ∧ p.2 ≤ 255
theorem RD.pr {w : World} {pl : Nat → Prop} {A : Option Addr} {n : Nat} {L : List Pr} (h : RD w pl 2 A n (L.flatMap prV)) (hn : L.length = n) (k : Nat) (hk : k < n) :
    ∃ b o p, A = some ⟨b, o, none⟩ ∧ b < w.heap.size ∧ L[k]? = some p ∧ w.cell? ⟨b, o + k * 2, none⟩ = some (.int .u8 p.1) ∧ w.cell? ⟨b, o + k * 2 + 1, none⟩ = some (.int .u8 p.2) := by
  obtain ⟨b, o, e, _, h1, h2⟩ := h.at_ (by omega)
  have hL : L[k]? = some L[k] := List.getElem?_eq_getElem (by omega)
  refine ⟨b, o, L[k], e, h1, hL, h2 (k * 2) _ ?_, ?_⟩
  · have := flat_get prV 2 (fun _ => rfl) L k 0 _ hL (by omega)
    rw [Nat.add_zero] at this
    rw [this]; rfl
  · have := flat_get prV 2 (fun _ => rfl) L k 1 _ hL (by omega)
    rw [Nat.add_assoc]
    exact h2 (k * 2 + 1) _ (by rw [this]; rfl)

/-- What holds at the head of the first loop: the line's variable is block s, the array's block s + 1. -/
structure SW (w0 wr : World) (s : Nat) (A : Option Addr) (n c : Nat) (L C : List Int) : Prop where
  only : Only (fun k => k = s ∨ k = s + 1) w0 wr
  line : Blk wr s [.bool true, .slice A n c] 26
  came : Blk wr (s + 1) (C.map (Value.int .i64)) 46
  ln : LnW wr (fun b => b ≠ s ∧ b ≠ s + 1) A n c L

theorem SW.below {w0 wr w2 : World} {s : Nat} {A : Option Addr} {n c : Nat} {L C : List Int} (h : SW w0 wr s A n c L C) (hb : Below wr.heap.size wr w2) : SW w0 w2 s A n c L C :=
  ⟨h.only.below_trans hb, h.line.up hb h.line.lt, h.came.up hb h.came.lt, h.ln.below hb⟩
theorem SW.set {w0 wr w2 : World} {s : Nat} {A A' : Option Addr} {n c n' c' : Nat} {L C L' : List Int} (h : SW w0 wr s A n c L C) (hb : Below wr.heap.size wr w2) (hl : LnW w2 (fun b => b ≠ s ∧ b ≠ s + 1) A' n' c' L') :
    SW w0 ((w2.setCell ⟨s, 0, none⟩ (.bool true)).setCell ⟨s, 1, none⟩ (.slice A' n' c')) s A' n' c' L' C := by
  have h2 := h.below hb
  have ho : Only (fun k => k = s ∨ k = s + 1) w2 ((w2.setCell ⟨s, 0, none⟩ (.bool true)).setCell ⟨s, 1, none⟩ (.slice A' n' c')) := ((Only.refl _ w2).setCell (.inl (.inl rfl)) _).setCell (.inl (.inl rfl)) _
  refine ⟨h2.only.trans ho, ?_, ?_, hl.only ho (fun k hk hn => by omega)⟩
  · exact (h2.line.set 0 _).set 1 _
  · exact (h2.came.other ⟨s, 0, none⟩ (by simp) _).other ⟨s, 1, none⟩ (by simp) _
theorem SW.put {w0 wr : World} {s : Nat} {A : Option Addr} {n c : Nat} {L C : List Int} (h : SW w0 wr s A n c L C) (q : Nat) (v : Int) : SW w0 (wr.setCell ⟨s + 1, q, none⟩ (.int .i64 v)) s A n c L (C.set q v) := by
  have ho : Only (fun k => k = s ∨ k = s + 1) wr (wr.setCell ⟨s + 1, q, none⟩ (.int .i64 v)) := (Only.refl _ wr).setCell (.inl (.inr rfl)) _
  refine ⟨h.only.trans ho, h.line.other ⟨s + 1, q, none⟩ (by simp) _, ?_, h.ln.only ho (fun k hk hn => by omega)⟩
  rw [List.map_set]
  exact h.came.set q _
theorem SW.at_ {w0 wr : World} {s : Nat} {A : Option Addr} {n c : Nat} {L C : List Int} (h : SW w0 wr s A n c L C) (hC : C.length = 16) (q : Nat) (hq : q < 16) : wr.cell? ⟨s + 1, q, none⟩ = some (.int .i64 (getC C q)) := by
  refine h.came.cell q _ ?_
  unfold getC
  rw [List.getElem?_map, List.getD_eq_getElem?_getD, List.getElem?_eq_getElem (by omega)]
  rfl

/-- How long the line is, as its variable tells. -/
def lenAt (w : World) (s : Nat) : Nat := match w.cell? ⟨s, 1, none⟩ with
  | some (.slice _ n _) => n
  | _ => 0
theorem SW.lenAt {w0 wr : World} {s : Nat} {A : Option Addr} {n c : Nat} {L C : List Int} (h : SW w0 wr s A n c L C) : lenAt wr s = n := by
  unfold Go.Proofs.Ytoimcbdajmghkaa.lenAt
  rw [h.line.cell 1 _ rfl]

set_option maxRecDepth 100000 in
set_option maxHeartbeats 4000000 in
theorem l_serve (A : Option Addr) (n cp : Nat) (P : List Pr) (w : World) (hR : RD w (fun _ => True) 2 A n (P.flatMap prV)) (hn : P.length = n) (hP : ∀ p ∈ P, PrOk p) :
    Calls Try.prog 4 #[.slice A n cp] w fun e w' => e = .returned (.bool true) ∧ Below w.heap.size w w' := by
  by_cases h60 : 60 < n
  · have h60' : (60 : Int) < n := by omega
    clear hR hn hP
    go_enter Try.func4, Try.ntmps4
    go_wp2_with fail
    refine (c_alive _).mono ?_; rintro e w' ⟨rfl, hb⟩
    go_wp2
    go_ret
    exact ⟨rfl, hb⟩
  have h60' : ¬ (60 : Int) < n := by omega
  have hn60 : n ≤ 60 := by omega
  have HR := Lib.hid hR
  have HN := Lib.hid hn
  have HP := Lib.hid hP
  clear hR hn hP h60
  go_enter Try.func4, Try.ntmps4
  go_wp2_with fail
  have hU0 := two_up w (.cells #[.bool true, .slice none 0 0] 26) (.cells (Array.replicate 16 (.int .i64 0)) 46)
  have hB1 := (Blk.new w [.bool true, .slice none 0 0] 26).alloc (.cells (Array.replicate 16 (.int .i64 0)) 46)
  have hB2 : Blk ((w.alloc (.cells #[.bool true, .slice none 0 0] 26)).alloc (.cells (Array.replicate 16 (.int .i64 0)) 46)) (w.heap.size + 1) ((List.replicate 16 (0 : Int)).map (Value.int .i64)) 46 := by
    have := Blk.new (w.alloc (.cells #[.bool true, .slice none 0 0] 26)) ((List.replicate 16 (0 : Int)).map (Value.int .i64)) 46
    rw [show (w.alloc (.cells #[.bool true, .slice none 0 0] 26)).heap.size = w.heap.size + 1 by simp] at this
    exact this
  have hS0 : ∀ w0, Blk w0 w.heap.size [.bool true, .slice none 0 0] 26 → Blk w0 (w.heap.size + 1) ((List.replicate 16 (0 : Int)).map (Value.int .i64)) 46 → SW w0 w0 w.heap.size none 0 0 [] (List.replicate 16 0) := fun w0 h1 h2 => ⟨Only.refl _ _, h1, h2, LnW.none _ _⟩
  have HS := Lib.hid (hS0 _ hB1 hB2)
  have HU := Lib.hid hU0
  clear hU0 hB1 hB2 hS0
  generalize hw0 : (w.alloc (.cells #[.bool true, .slice none 0 0] 26)).alloc (.cells (Array.replicate 16 (.int .i64 0)) 46) = w0 at HS HU
  have HW := Lib.hid hw0
  have HR0 := Lib.hid ((HR.out.lt).below HU.out)
  clear hw0 HR
  have hw1 : (w.alloc (.cells #[.bool true, .slice none 0 0] 26)).alloc (.cells #[.int .i64 0, .int .i64 0, .int .i64 0, .int .i64 0, .int .i64 0, .int .i64 0, .int .i64 0, .int .i64 0, .int .i64 0, .int .i64 0, .int .i64 0, .int .i64 0, .int .i64 0, .int .i64 0, .int .i64 0, .int .i64 0] 46) = w0 := HW.out
  rw [hw1]
  clear hw1
  go_loopw [22] (fun i wr => ∃ (k : Nat) (A' : Option Addr) (n' c' : Nat) (L C : List Int), k ≤ n ∧ i = .int .i64 k ∧ SW w0 wr w.heap.size A' n' c' L C ∧ SV L C k) (fun i _ => n - (intOf i).toNat)
  case atStart => exact ⟨0, none, 0, 0, [], _, Nat.zero_le _, rfl, HS.out, SV.start⟩
  case round =>
    clear HS
    obtain ⟨k, A', n', c', L, C, hk, rfl, hS, hV⟩ := hrel
    have HS := Lib.hid hS
    have HV := Lib.hid hV
    clear hS hV
    by_cases hlt : k < n
    · obtain ⟨bL, oL, p, rfl, hbL, hp, a0, a1⟩ := (HR0.out.only HS.out.only (fun j hj hn => by have := hn.2; omega)).pr HN.out k hlt
      obtain ⟨d0, d1, d2, d3⟩ := HP.out _ (List.mem_of_getElem? hp)
      obtain ⟨pa, pv⟩ := p
      simp only at a0 a1 d0 d1 d2 d3
      obtain ⟨q, hq⟩ : ∃ q : Nat, pa % 16 = q := ⟨(pa % 16).toNat, by omega⟩
      have hq16 : (q : Int) < 16 := by omega
      have hq0 : (0 : Int) ≤ q := by omega
      clear hp
      have hq16' : q < 16 := by omega
      have hc16 := HV.out.len
      have ups := up_alloc wr (.cells #[.int .u8 pa, .int .u8 pv] 47)
      have HSa := Lib.hid (HS.out.below ups)
      have hsm := HS.out.came.lt
      have l0 := HSa.out.line.cell 0 _ rfl
      have l1 := HSa.out.line.cell 1 _ rfl
      have hplb : ∀ b, (wr.alloc (.cells #[.int .u8 pa, .int .u8 pv] 47)).heap.size ≤ b → b ≠ w.heap.size ∧ b ≠ w.heap.size + 1 := fun b hb => by have := ups.size; omega
      have hn16 : n' ≤ 16 := by have := HV.out.few; have := HS.out.ln.len; omega
      have HD0 := Lib.hid ((HV.out.nn q).1)
      by_cases h3 : pv % 3 = 0
      · have CL := Lib.hid (c_lnleave HSa.out.ln (by omega) hplb true (q : Int))
        rw [HV.out.there q hq16'] at CL
        have HV' := Lib.hid (HV.out.leave q hq16' (show (k : Int) ≤ ((k + 1 : Nat) : Int) by omega))
        have HCQ := Lib.hid (fun (wx : World) (An : Option Addr) (nn cn : Nat) (LL : List Int) (hX : SW w0 wx w.heap.size An nn cn LL C) => hX.at_ hc16 q hq16')
        generalize lnLeaveL true L q = L2 at CL HV'
        generalize getC C q = v at CL HCQ HD0
        have hv0 := HD0.out
        clear hplb ups hc16 hsm
        have hcase : (decide (0 < v) = true ∨ decide (0 < v) = false) := by cases decide (0 < v) <;> simp
        have HV3 := Lib.hid hv0
        generalize hdv : decide (0 < v) = dv at CL hcase
        clear hv0
        go_wp2_with fail
        refine CL.out.mono ?_
        rintro e w2 ⟨A2, n2, c2, rfl, hL2, hb2⟩
        have hup2 := up_alloc w2 (.cells #[.bool true, .slice A2 n2 c2] 26)
        have HS2 := Lib.hid ((HSa.out.below hb2).below hup2)
        have HS3 := Lib.hid ((HSa.out.below (up_trans hb2 hup2)).set (Below.refl _ _) (hL2.below hup2))
        have HS4 := Lib.hid (HS3.out.put q 0)
        have m0 := HS2.out.line.cell 0 _ rfl
        have m1 := HS2.out.line.cell 1 _ rfl
        have f0 := HS2.out.line.free 0
        have f1 := HS2.out.line.free 1
        have cq := HCQ.out _ _ _ _ _ HS2.out
        have cf := HS3.out.came.free q
        have cq3 := HCQ.out _ _ _ _ _ HS3.out
        clear hL2 hb2 l0 l1
        rcases hcase with rfl | rfl
        · go_wp2_with fail
          go_roundw
          case rel => exact ⟨k + 1, A2, n2, c2, L2, _, by omega, by go_num, HS4.out, HV'.out⟩
          case measure => simp [intOf]; omega
        · go_wp2_with fail
          go_roundw
          case rel => exact ⟨k + 1, A2, n2, c2, L2, _, by omega, by go_num, HS4.out, HV'.out⟩
          case measure => simp [intOf]; omega
      · have CJ := Lib.hid (c_lnjoin HSa.out.ln (by omega) hplb true (q : Int))
        rw [HV.out.joinE q hq16'] at CJ
        have HCQ := Lib.hid (fun (wx : World) (An : Option Addr) (nn cn : Nat) (LL : List Int) (hX : SW w0 wx w.heap.size An nn cn LL C) => hX.at_ hc16 q hq16')
        have h3' : (pv % 3 == 0) = false := beq_eq_false_iff_ne.2 h3
        by_cases hv : 0 < getC C q
        · rw [if_pos hv] at CJ
          have hv1 : (getC C q == 0) = false := beq_eq_false_iff_ne.2 (by omega)
          have HV' : Hid (SV L C ((k + 1 : Nat) : Int)) := Lib.hid (HV.out.mono (by omega))
          generalize getC C q = v at HCQ hv1
          clear hplb ups hc16 hsm hv HD0 h3
          go_wp2_with fail
          refine CJ.out.mono ?_
          rintro e w2 ⟨A2, n2, c2, rfl, hL2, hb2⟩
          have hup2 := up_alloc w2 (.cells #[.bool true, .slice A2 n2 c2] 26)
          have HS2 := Lib.hid ((HSa.out.below hb2).below hup2)
          have cq := HCQ.out _ _ _ _ _ HS2.out
          clear hL2 hb2 l0 l1
          go_wp2_with fail
          go_roundw
          case rel => exact ⟨k + 1, A', n', c', L, C, by omega, by go_num, HS2.out, HV'.out⟩
          case measure => simp [intOf]; omega
        · have hv0 : getC C q = 0 := by have := HD0.out; omega
          rw [if_neg hv, (HV.out.join q hq16' (by omega) (show (k : Int) < (k : Int) + 1 by omega) hv0).1] at CJ
          have HV' : Hid (SV (L ++ [(q : Int)]) (C.set q ((k : Int) + 1)) ((k + 1 : Nat) : Int)) := Lib.hid (HV.out.join q hq16' (by omega) (show (k : Int) < (k : Int) + 1 by omega) hv0).2
          rw [hv0] at HCQ
          clear hplb ups hc16 hsm hv HD0 h3 hv0
          go_wp2_with fail
          refine CJ.out.mono ?_
          rintro e w2 ⟨A2, n2, c2, rfl, hL2, hb2⟩
          have hup2 := up_alloc w2 (.cells #[.bool true, .slice A2 n2 c2] 26)
          have HS2 := Lib.hid ((HSa.out.below hb2).below hup2)
          have HS3 := Lib.hid ((HSa.out.below (up_trans hb2 hup2)).set (Below.refl _ _) (hL2.below hup2))
          have HS4 := Lib.hid (HS3.out.put q ((k : Int) + 1))
          have m0 := HS2.out.line.cell 0 _ rfl
          have m1 := HS2.out.line.cell 1 _ rfl
          have f0 := HS2.out.line.free 0
          have f1 := HS2.out.line.free 1
          have cq := HCQ.out _ _ _ _ _ HS2.out
          have cf := HS3.out.came.free q
          have cq3 := HCQ.out _ _ _ _ _ HS3.out
          clear hL2 hb2 l0 l1
          go_wp2_with fail
          go_roundw
          case rel => exact ⟨k + 1, A2, n2, c2, _, _, by omega, by go_num, HS4.out, HV'.out⟩
          case measure => simp [intOf]; omega
    · obtain rfl : k = n := by omega
      have HSD := Lib.hid HV.out.done
      clear hlt hk HV
      go_wp2_with fail
      go_loopw [12] (fun u wr => ∃ (A' : Option Addr) (n' c' : Nat) (L C : List Int) (x : Int), u = .int .i64 x ∧ SW w0 wr w.heap.size A' n' c' L C ∧ SD L C x) (fun _ wr => lenAt wr w.heap.size)
      case atStart => exact ⟨A', n', c', L, C, 0, rfl, HS.out, HSD.out⟩
      case round =>
        clear HS HSD
        obtain ⟨A', n', c', L, C, x, rfl, hS, hD⟩ := hrel
        have HS := Lib.hid hS
        have HD := Lib.hid hD
        have hn16 : n' ≤ 16 := by obtain ⟨_, h⟩ := hD.sv; have := h.few; have := hS.ln.len; omega
        have HM := Lib.hid hS.lenAt
        have CH := Lib.hid (c_lnhead hS.ln (by omega) true)
        rw [hD.some] at CH
        have l0 := hS.line.cell 0 _ rfl
        have l1 := hS.line.cell 1 _ rfl
        have hc16 : C.length = 16 := by obtain ⟨_, h⟩ := hD.sv; exact h.len
        clear hS hD
        rcases L with _ | ⟨y, L⟩
        · have hz : C = List.replicate 16 0 := HD.out.none
          subst hz
          rw [show decide (0 < ([] : List Int).length) = false from rfl] at CH
          go_wp2_with fail
          refine CH.out.mono ?_
          rintro e w2 ⟨rfl, hb2⟩
          have HS2 := Lib.hid (HS.out.below hb2)
          have HUU := Lib.hid (HU.out.trans (HS2.out.only.toBelow HU.out.size (fun k hk => by omega)))
          clear hb2 l0 l1
          have z0 := HS2.out.came.cell 0 (.int .i64 0) rfl
          have z1 := HS2.out.came.cell 1 (.int .i64 0) rfl
          have z2 := HS2.out.came.cell 2 (.int .i64 0) rfl
          have z3 := HS2.out.came.cell 3 (.int .i64 0) rfl
          have z4 := HS2.out.came.cell 4 (.int .i64 0) rfl
          have z5 := HS2.out.came.cell 5 (.int .i64 0) rfl
          have z6 := HS2.out.came.cell 6 (.int .i64 0) rfl
          have z7 := HS2.out.came.cell 7 (.int .i64 0) rfl
          have z8 := HS2.out.came.cell 8 (.int .i64 0) rfl
          have z9 := HS2.out.came.cell 9 (.int .i64 0) rfl
          have z10 := HS2.out.came.cell 10 (.int .i64 0) rfl
          have z11 := HS2.out.came.cell 11 (.int .i64 0) rfl
          have z12 := HS2.out.came.cell 12 (.int .i64 0) rfl
          have z13 := HS2.out.came.cell 13 (.int .i64 0) rfl
          have z14 := HS2.out.came.cell 14 (.int .i64 0) rfl
          have z15 := HS2.out.came.cell 15 (.int .i64 0) rfl
          have hze := eq_zeros
          generalize lnHead true [] = hd
          go_wp2_with fail
          refine (c_alive _).mono ?_; rintro e w' ⟨rfl, hb⟩
          have HUE := Lib.hid (up_trans HUU.out hb)
          clear hb
          go_wp2_with fail
          go_ret
          exact ⟨rfl, HUE.out⟩
        · obtain ⟨hh, hy0, hy1, hlast⟩ := HD.out.head
          rw [hh, show decide (0 < (y :: L).length) = true by simp] at CH
          obtain ⟨q, rfl⟩ : ∃ q : Nat, y = q := ⟨y.toNat, by omega⟩
          rw [Int.toNat_natCast] at hlast
          have hq15 : ¬ (15 : Int) < q := by omega
          have hq16' : q < 16 := by omega
          have hle : ¬ getC C q ≤ x := by omega
          have HN2 := Lib.hid HD.out.next
          have HCQ := Lib.hid (fun (wx : World) (An : Option Addr) (nn cn : Nat) (LL : List Int) (hX : SW w0 wx w.heap.size An nn cn LL C) => hX.at_ hc16 q hq16')
          have HHL := Lib.hid (HS.out.ln.len)
          have hsm := HS.out.came.lt
          generalize getC C q = v at HCQ hle HN2
          clear hh hlast hc16
          go_wp2_with fail
          refine CH.out.mono ?_
          rintro e w2 ⟨rfl, hb2⟩
          have HS2 := Lib.hid (HS.out.below hb2)
          have HS3 := Lib.hid (HS2.out.put q 0)
          have hplb : ∀ b, (w2.setCell ⟨w.heap.size + 1, q, none⟩ (.int .i64 0)).heap.size ≤ b → b ≠ w.heap.size ∧ b ≠ w.heap.size + 1 := fun b hb => by have := HS3.out.came.lt; omega
          have CL := Lib.hid (c_lnleave HS3.out.ln (by omega) hplb true (q : Int))
          rw [HN2.out.1] at CL
          clear hb2 l0 l1 hplb
          have cq := HCQ.out _ _ _ _ _ HS2.out
          have cf := HS2.out.came.free q
          have l0 := HS3.out.line.cell 0 _ rfl
          have l1 := HS3.out.line.cell 1 _ rfl
          go_wp2_with fail
          refine CL.out.mono ?_
          rintro e w4 ⟨A4, n4, c4, rfl, hL4, hb4⟩
          have HS4 := Lib.hid (HS3.out.set hb4 hL4)
          have HS4' := Lib.hid (HS3.out.below hb4)
          have HLn := Lib.hid hL4.len
          clear hL4 hb4 l0 l1 cq cf
          have l0 := HS4'.out.line.cell 0 _ rfl
          have l1 := HS4'.out.line.cell 1 _ rfl
          have f0 := HS4'.out.line.free 0
          have f1 := HS4'.out.line.free 1
          go_wp2_with fail
          go_roundw
          case rel => exact ⟨A4, n4, c4, L, _, v, rfl, HS4.out, HN2.out.2⟩
          case measure =>
            rw [HS4.out.lenAt, HM.out]
            have := HLn.out
            have := HHL.out
            simp at this
            omega
end Go.Proofs.Ytoimcbdajmghkaa

/- The law BitsetOne, walked. -/
import Derived.Test.YtknlkkigiommhaaDoorBs
import Derived.Test.YtknlkkigiommhaaDoorBl
namespace Go.Proofs.YtknlkkigiommhaaDoor
open Go.RowKit

theorem c_wordsS {w : World} {pl : Nat → Prop} {A : Option Addr} {c : Nat} {s : S4} (h0 : RD w pl 1 A s.ints.length (s.ints.map (Value.int .i64))) :
    Calls Tryd.prog 12 #[.slice A s.ints.length c] w fun e w' => e = .returned s.val ∧ Below w.heap.size w w' := by
  have h1 := len_le s
  unfold S4.len at h1
  have := c_words (c := c) h0 (by omega) (fun x hx => rise_range s.has x hx)
  rw [ofS_of_ints] at this
  exact this
theorem c_rhasS {w : World} {pl : Nat → Prop} {A : Option Addr} {c : Nat} {s : S4} (h0 : RD w pl 1 A s.ints.length (s.ints.map (Value.int .i64))) (x : Int) :
    Calls Tryd.prog 17 #[.slice A s.ints.length c, .int .i64 x] w fun e w' => e = .returned (.bool (hasL s.ints x)) ∧ Below w.heap.size w w' := by
  have h1 := len_le s
  unfold S4.len at h1
  exact same_below (c_rhas h0 (by omega) x)
theorem c_rnextS {w : World} {pl : Nat → Prop} {A : Option Addr} {c : Nat} {s : S4} (h0 : RD w pl 1 A s.ints.length (s.ints.map (Value.int .i64))) (x : Int) {y : Int} {b : Bool} (h : nextL s.ints x = (y, b)) :
    Calls Tryd.prog 11 #[.slice A s.ints.length c, .int .i64 x] w fun e w' => e = .returned (.tuple #[.int .i64 y, .bool b]) ∧ Below w.heap.size w w' := by
  have h1 := len_le s
  unfold S4.len at h1
  have := c_rnext (c := c) h0 (by omega) x
  unfold NextSame at this
  rw [h] at this
  exact same_below this
theorem c_nextS (s : S4) (x : Int) (w : World) (hT : TabD w) {y : Int} {b : Bool} (h : nextL s.ints x = (y, b)) :
    Calls Tryd.prog 10 #[s.val, .int .i64 x] w fun e w' => e = .returned (.tuple #[.int .i64 y, .bool b]) ∧ Below w.heap.size w w' := by
  have := c_next s x w hT
  unfold NextPost at this
  rw [h] at this
  exact this
theorem c_lenS (s : S4) (w : World) : Calls Tryd.prog 15 #[s.val] w fun e w' => e = .returned (.int .i64 s.ints.length) ∧ Below w.heap.size w w' := c_len s w
theorem on_S {w W : World} {b : Nat} {s : S4} {t : TypeId} (h : Blk w b s.cs t) (hb : Below w.heap.size w W) :
    Below w.heap.size w W ∧ W.cell? ⟨b, 0, none⟩ = some (.int .u64 s.a.toNat) ∧ W.cell? ⟨b, 1, none⟩ = some (.int .u64 s.b.toNat) ∧ W.cell? ⟨b, 2, none⟩ = some (.int .u64 s.c.toNat) ∧ W.cell? ⟨b, 3, none⟩ = some (.int .u64 s.d.toNat) :=
  ⟨hb, (h.up hb h.lt).cell 0 _ rfl, (h.up hb h.lt).cell 1 _ rfl, (h.up hb h.lt).cell 2 _ rfl, (h.up hb h.lt).cell 3 _ rfl⟩
theorem c_hasB (s : S4) (x : Int) (w : World) {b : Bool} (h : hasL s.ints x = b) : Calls Tryd.prog 16 #[s.val, .int .i64 x] w fun e w' => e = .returned (.bool b) ∧ Below w.heap.size w w' := by
  rw [← h]
  exact c_has s x w
theorem c_rhasB {w : World} {pl : Nat → Prop} {A : Option Addr} {c : Nat} {s : S4} (h0 : RD w pl 1 A s.ints.length (s.ints.map (Value.int .i64))) (x : Int) {b : Bool} (h : hasL s.ints x = b) :
    Calls Tryd.prog 17 #[.slice A s.ints.length c, .int .i64 x] w fun e w' => e = .returned (.bool b) ∧ Below w.heap.size w w' := by
  rw [← h]
  exact c_rhasS h0 x

set_option maxRecDepth 100000 in
set_option maxHeartbeats 8000000 in
theorem l_one {A : Option Addr} {c : Nat} {L : List Int} {w : World} {pl : Nat → Prop} (hL : RD w pl 1 A L.length (L.map (Value.int .i64))) (x : Int) (hT : TabD w) :
    Calls Tryd.prog 3 #[.slice A L.length c, .int .i64 x] w fun e w' => e = .returned (.bool true) ∧ Below w.heap.size w w' := by
  have HT := Lib.hid hT
  clear hT
  by_cases hl : L.length ≤ 60
  · have hl2 : decide (60 < L.length) = false := by simpa using hl
    go_enter Tryd.func3, Tryd.ntmps3
    go_wp2_with fail
    refine Calls.mono (c_of hL (by omega)) ?_
    rintro e w1 ⟨rfl, hb1⟩
    have hL1 := hL.below hb1
    go_wp2_with fail
    refine Calls.mono (c_rofS hL1 (by omega)) ?_
    rintro e w2 ⟨A3, c3, rfl, hc3, hm3, rd3, hb2⟩
    have hP := Blk.new w2 (ofS L).cs 26
    have hb := up_trans (up_trans hb1 hb2) (up_alloc w2 (.cells (ofS L).cs.toArray 26))
    have rd3 := rd3.below (up_alloc w2 (.cells (ofS L).cs.toArray 26))
    have HTW := Lib.hid (tab_up HT.out hb)
    clear hL hL1 hb1 hb2
    generalize ofS L = S at hP rd3 hc3 hb HTW
    have hlen := len_le S
    unfold S4.len at hlen
    obtain ⟨y, b, hnx⟩ : ∃ y b, nextL S.ints x = (y, b) := ⟨_, _, rfl⟩
    have HNX := Lib.hid hnx
    clear hnx
    go_wp2_with fail
    refine Calls.mono (c_nextS S x _ HTW.out HNX.out) ?_
    rintro e w' ⟨rfl, hbx⟩
    have hb := up_trans hb hbx
    have hP := hP.up hbx hP.lt
    have rd3 := rd3.below hbx
    obtain ⟨p0, p1, p2, p3, -⟩ := facts4 hP
    generalize w2.heap.size = bx at hP p0 p1 p2 p3
    go_wp2_with fail
    refine Calls.mono (c_rnextS rd3 x HNX.out) ?_
    rintro e w' ⟨rfl, hbx⟩
    have hb := up_trans hb hbx
    have HTW := Lib.hid (tab_up HT.out hb)
    have hP := hP.up hbx hP.lt
    clear p0 p1 p2 p3
    obtain ⟨p0, p1, p2, p3, -⟩ := facts4 hP
    have rd3 := rd3.below hbx
    obtain ⟨hh, hhas⟩ : ∃ hh, hasL S.ints x = hh := ⟨_, rfl⟩
    have HH := Lib.hid hhas
    clear hhas
    have hq := run_same (s := S) (t := S) rfl
    have t1 : ((S.ints.length : Int) != (S.ints.length : Int)) = false := by simp
    have t2 : (hh != hh) = false := by simp
    have t3 : (y != y) = false := by simp
    have t4 : (b != b) = false := by simp
    go_wp2_with fail
    go_region_held3 (fun W => Below w'.heap.size w' W ∧ W.cell? ⟨bx, 0, none⟩ = some (.int .u64 S.a.toNat) ∧ W.cell? ⟨bx, 1, none⟩ = some (.int .u64 S.b.toNat) ∧ W.cell? ⟨bx, 2, none⟩ = some (.int .u64 S.c.toNat) ∧ W.cell? ⟨bx, 3, none⟩ = some (.int .u64 S.d.toNat))
      (first | exact on_S hP ((Below.refl _ _).drew) | exact on_S hP (up_trans (And.left (by assumption)) (by assumption)))
      (first
        | rw [hq]
        | (go_at_call 12; refine Calls.mono (c_wordsS (rd3.below (And.left (by assumption)))) ?_; rintro e w3 ⟨rfl, hbw⟩)
        | (go_at_call 14; refine Calls.mono (c_list S _ (tab_up HTW.out (And.left (by assumption)))) ?_; rintro e w3 ⟨A4, c4, rfl, _, _, rd4, hbl⟩)
        | (go_at_call 13; refine Calls.mono (c_sameS (rd4.below (by first | assumption | exact Below.refl _ _)) (rd3.below (And.left (by assumption)))) ?_; rintro e w3 ⟨rfl, hbs⟩)
        | (go_at_call 15; refine Calls.mono (c_lenS S _) ?_; rintro e w3 ⟨rfl, hbn⟩)
        | (go_at_call 16; refine Calls.mono (c_hasB S x _ HH.out) ?_; rintro e w3 ⟨rfl, hbh⟩)
        | (go_at_call 17; refine Calls.mono (c_rhasB (rd3.below (And.left (by assumption))) x HH.out) ?_; rintro e w3 ⟨rfl, hbi⟩))
    have hbz : Below w'.heap.size w' _ := And.left (by assumption)
    have hP := hP.up hbz hP.lt
    have rd3 := rd3.below hbz
    have hb := up_trans hb hbz
    clear p0 p1 p2 p3
    obtain ⟨p0, p1, p2, p3, -⟩ := facts4 hP
    have HTW := Lib.hid (tab_up HT.out hb)
    clear hbz hq t1 t2 t3 t4
    go_wp2_with fail
    refine Calls.mono (c_add S x _) ?_
    rintro e w' ⟨rfl, hbx⟩
    have hb := up_trans hb hbx
    have HTW := Lib.hid (tab_up HT.out hb)
    have hP := hP.up hbx hP.lt
    clear p0 p1 p2 p3
    obtain ⟨p0, p1, p2, p3, -⟩ := facts4 hP
    have rd3 := rd3.below hbx
    go_wp2_with fail
    refine Calls.mono (c_list (S.uni (S4.only x)) _ HTW.out) ?_
    rintro e w' ⟨A5, c5, rfl, hc5, hm5, rd5, hbx⟩
    have hb := up_trans hb hbx
    have HTW := Lib.hid (tab_up HT.out hb)
    have hP := hP.up hbx hP.lt
    clear p0 p1 p2 p3
    obtain ⟨p0, p1, p2, p3, -⟩ := facts4 hP
    have rd3 := rd3.below hbx
    go_wp2_with fail
    refine Calls.mono (c_raddS rd3 x) ?_
    rintro e w' ⟨A6, c6, rfl, hc6, hm6, rd6, hbx⟩
    have hb := up_trans hb hbx
    have HTW := Lib.hid (tab_up HT.out hb)
    have hP := hP.up hbx hP.lt
    clear p0 p1 p2 p3
    obtain ⟨p0, p1, p2, p3, -⟩ := facts4 hP
    have rd3 := rd3.below hbx
    have rd5 := rd5.below hbx
    go_wp2_with fail
    refine Calls.mono (c_sameS rd5 rd6) ?_
    rintro e w' ⟨rfl, hbx⟩
    have hb := up_trans hb hbx
    have HTW := Lib.hid (tab_up HT.out hb)
    have hP := hP.up hbx hP.lt
    clear p0 p1 p2 p3
    obtain ⟨p0, p1, p2, p3, -⟩ := facts4 hP
    have rd3 := rd3.below hbx
    clear rd5 rd6 hc5 hc6 hm5 hm6
    go_wp2_with fail
    refine Calls.mono (c_drop S x _) ?_
    rintro e w' ⟨rfl, hbx⟩
    have hb := up_trans hb hbx
    have HTW := Lib.hid (tab_up HT.out hb)
    have hP := hP.up hbx hP.lt
    clear p0 p1 p2 p3
    obtain ⟨p0, p1, p2, p3, -⟩ := facts4 hP
    have rd3 := rd3.below hbx
    go_wp2_with fail
    refine Calls.mono (c_list (S.les (S4.only x)) _ HTW.out) ?_
    rintro e w' ⟨A5, c5, rfl, hc5, hm5, rd5, hbx⟩
    have hb := up_trans hb hbx
    have HTW := Lib.hid (tab_up HT.out hb)
    have hP := hP.up hbx hP.lt
    clear p0 p1 p2 p3
    obtain ⟨p0, p1, p2, p3, -⟩ := facts4 hP
    have rd3 := rd3.below hbx
    go_wp2_with fail
    refine Calls.mono (c_rdropS rd3 x) ?_
    rintro e w' ⟨A6, c6, rfl, hc6, hm6, rd6, hbx⟩
    have hb := up_trans hb hbx
    have HTW := Lib.hid (tab_up HT.out hb)
    have hP := hP.up hbx hP.lt
    clear p0 p1 p2 p3
    obtain ⟨p0, p1, p2, p3, -⟩ := facts4 hP
    have rd3 := rd3.below hbx
    have rd5 := rd5.below hbx
    go_wp2_with fail
    refine Calls.mono (c_sameS rd5 rd6) ?_
    rintro e w' ⟨rfl, hbx⟩
    have hb := up_trans hb hbx
    have HTW := Lib.hid (tab_up HT.out hb)
    have hP := hP.up hbx hP.lt
    clear p0 p1 p2 p3
    obtain ⟨p0, p1, p2, p3, -⟩ := facts4 hP
    have rd3 := rd3.below hbx
    clear rd5 rd6 hc5 hc6 hm5 hm6
    go_wp2_with fail
    refine Calls.mono (c_alive _ HTW.out) ?_
    rintro e w' ⟨rfl, hbx⟩
    have hb := up_trans hb hbx
    go_wp2
    go_ret
    exact ⟨rfl, hb⟩
  · have hl2 : decide (60 < L.length) = true := by simpa using hl
    go_enter Tryd.func3, Tryd.ntmps3
    go_wp2_with fail
    refine Calls.mono (c_alive _ HT.out) ?_
    rintro e w' ⟨rfl, hbx⟩
    go_wp2
    go_ret
    exact ⟨rfl, hbx⟩
end Go.Proofs.YtknlkkigiommhaaDoor

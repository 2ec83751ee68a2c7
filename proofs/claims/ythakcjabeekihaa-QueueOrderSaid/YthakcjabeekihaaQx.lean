/- The contract of the law's as: a pool and the document's, about a queue. -/
import Derived.Test.YthakcjabeekihaaQw
import Derived.Test.YthakcjabeekihaaIs
import Derived.Deep.RegionHeld3
namespace Go.Proofs.Ythakcjabeekihaa
open Go.RowKit

theorem as_S {w W : World} {b : Nat} {t : TypeId} {u v : Value} (h : Blk w b [u, v] t) (hb : Below w.heap.size w W) :
    Below w.heap.size w W ∧ W.cell? ⟨b, 0, none⟩ = some u ∧ W.cell? ⟨b, 1, none⟩ = some v :=
  ⟨hb, (h.up hb h.lt).cell 0 _ rfl, (h.up hb h.lt).cell 1 _ rfl⟩
theorem as_next {w W W' : World} {b : Nat} {t : TypeId} {u v : Value} (h : Blk w b [u, v] t) (k : Below W.heap.size W W')
    (hb : Below w.heap.size w W ∧ W.cell? ⟨b, 0, none⟩ = some u ∧ W.cell? ⟨b, 1, none⟩ = some v) :
    Below w.heap.size w W' ∧ W'.cell? ⟨b, 0, none⟩ = some u ∧ W'.cell? ⟨b, 1, none⟩ = some v := as_S h (up_trans hb.1 k)

set_option maxHeartbeats 4000000 in
theorem c_as_any {w : World} {b n c dc : Nat} {A B : Option Addr} {pl : Nat → Prop} (room q x er : Int) (zs : List Int) (fr : Nat) (hz : zs.length ≤ 1024) (hrd : RD w pl 1 B zs.length (zs.map (Value.int .i64)))
    (CP : ∀ W, Below w.heap.size w W → Calls Try.prog 17 #[.pointer (some ⟨b, 0, none⟩), .int .i64 q] W fun e w' => e = .returned (.tuple #[.int .i64 x, .int .i64 er]) ∧ Drew W w')
    (CR : ∀ W, Below w.heap.size w W → Calls Try.prog 25 #[.agg #[.int .i64 room, .slice A n c], .int .i64 q] W fun e w' => e = .returned (.tuple #[.int .i64 x, .int .i64 er]) ∧ Below W.heap.size W w')
    (CL : ∀ W, Below w.heap.size w W → Calls Try.prog 18 #[.pointer (some ⟨b, 0, none⟩), .int .i64 q] W (IntsPost W zs))
    (CQ : ∀ W, Below w.heap.size w W → Calls Try.prog 29 #[.agg #[.int .i64 room, .slice A n c], .int .i64 q] W fun e w' => e = .returned (.slice B zs.length dc) ∧ Below W.heap.size W w')
    (CN : ∀ W, Below w.heap.size w W → Calls Try.prog 19 #[.pointer (some ⟨b, 0, none⟩), .int .i64 q] W fun e w' => e = .returned (.int .i64 zs.length) ∧ Below W.heap.size W w')
    (CF : ∀ W, Below w.heap.size w W → Calls Try.prog 16 #[.pointer (some ⟨b, 0, none⟩)] W fun e w' => e = .returned (.int .i64 fr) ∧ Below W.heap.size W w')
    (CG : ∀ W, Below w.heap.size w W → Calls Try.prog 27 #[.agg #[.int .i64 room, .slice A n c]] W fun e w' => e = .returned (.int .i64 fr) ∧ Below W.heap.size W w') :
    Calls Try.prog 15 #[.pointer (some ⟨b, 0, none⟩), .agg #[.int .i64 room, .slice A n c], .int .i64 q] w fun e w' => e = .returned (.bool true) ∧ Below w.heap.size w w' := by
  have hb0 := up_alloc w (.cells #[.int .i64 room, .slice A n c] 30)
  have hB := box2c w (.int .i64 room) (.slice A n c) 30
  generalize hw1 : w.alloc (.cells #[.int .i64 room, .slice A n c] 30) = w1 at hB hb0
  have CP1 := Lib.hid (CP w1 hb0)
  have CR1 := Lib.hid (fun W hW => CR W (up_trans hb0 hW))
  have hz1 := hB.lt
  have HW := Lib.hid hw1
  clear CP CR hw1
  go_enter Try.func15, Try.ntmps15
  go_wp2_with fail
  rw [HW.out]
  refine Calls.mono CP1.out ?_
  rintro e w' ⟨rfl, n1, rfl⟩
  have c0 := hB.cell 0 _ rfl
  have c1 := hB.cell 1 _ rfl
  go_wp2_with fail
  refine Calls.mono (CR1.out _ (up_drewN _ _)) ?_
  rintro e w2 ⟨rfl, hb2⟩
  have hb12 := up_trans (up_drewN w1 n1) hb2
  have hb02 := up_trans hb0 hb12
  have hB2 := hB.up hb12 hz1
  clear c0 c1 hB
  have hx : (x == x) = true := by simp
  have he : (er == er) = true := by simp
  have hl : ((zs.length : Int) == (zs.length : Int)) = true := by simp
  have hf : ((fr : Int) == (fr : Int)) = true := by simp
  have CL := Lib.hid (fun W hW => CL W (up_trans hb02 hW))
  have CQ := Lib.hid (fun W hW => CQ W (up_trans hb02 hW))
  have CN := Lib.hid (fun W hW => CN W (up_trans hb02 hW))
  have CF := Lib.hid (fun W hW => CF W (up_trans hb02 hW))
  have CG := Lib.hid (fun W hW => CG W (up_trans hb02 hW))
  have hrd2 := hrd.below hb02
  go_wp2_with fail
  go_region_held3 (fun W => Below w2.heap.size w2 W ∧ W.cell? ⟨w.heap.size, 0, none⟩ = some (.int .i64 room) ∧ W.cell? ⟨w.heap.size, 1, none⟩ = some (.slice A n c))
    (first | exact as_S hB2 ((Below.refl _ _).drew) | exact as_next hB2 (by assumption) (by assumption))
    (first
      | (go_at_call 18; refine Calls.mono (CL.out _ (And.left (by assumption))) ?_; rintro e w' ⟨Ah, ch, rfl, _, _, rdh, hbh⟩)
      | (go_at_call 29; refine Calls.mono (CQ.out _ (And.left (by assumption))) ?_; rintro e w' ⟨rfl, hbr⟩)
      | (go_at_call 28; refine (c_same (rdh.below (by assumption)) (hrd2.below (And.left (by assumption))) (by omega)).mono ?_; rintro e w' ⟨rfl, hds⟩; have hbs := hds.below; clear hds)
      | (go_at_call 19; refine Calls.mono (CN.out _ (And.left (by assumption))) ?_; rintro e w' ⟨rfl, hbl⟩)
      | (go_at_call 16; refine Calls.mono (CF.out _ (And.left (by assumption))) ?_; rintro e w' ⟨rfl, hbf⟩)
      | (go_at_call 27; refine Calls.mono (CG.out _ (And.left (by assumption))) ?_; rintro e w' ⟨rfl, hbg⟩))
  go_wp2
  go_ret
  exact ⟨rfl, up_trans hb02 (And.left (by assumption))⟩

theorem c_as {w : World} {b : Nat} {fr : Nat} {pl : Nat → Prop} {D : List DQ} {A : Option Addr} {c : Nat} (H : PA w b (numsD D) fr) (R : RQ w pl D A c) (room : Nat) (hr : fr + sumlen (numsD D) = room) (h1 : room ≤ 1024) (q : Int) :
    Calls Try.prog 15 #[.pointer (some ⟨b, 0, none⟩), .agg #[.int .i64 room, .slice A D.length c], .int .i64 q] w fun e w' => e = .returned (.bool true) ∧ Below w.heap.size w w' := by
  have hlD : (numsD D).length = D.length := by simp [numsD]
  have CF : ∀ W, Below w.heap.size w W → _ := fun W hW => same_below (c_free (H.below hW))
  have CG : ∀ W, Below w.heap.size w W → _ := fun W hW => c_rfree (R.below hW) room fr hr h1
  by_cases hq : q < 0 ∨ (D.length : Int) ≤ q
  · have hq' : q < 0 ∨ ((numsD D).length : Int) ≤ q := by rw [hlD]; exact hq
    exact c_as_any (pl := pl) (B := none) (dc := 0) room q 0 8 [] fr (by simp) (RD.nil _ _ _ _) (fun W hW => c_first_range (H.below hW) q hq') (fun W hW => c_rfirst_range room q hq)
      (fun W hW => c_list_range (H.below hW) q hq') (fun W hW => c_rlist_range room q hq) (fun W hW => same_below (c_len_range (H.below hW) q hq')) CF CG
  · obtain ⟨k, rfl⟩ : ∃ k : Nat, q = k := ⟨q.toNat, by omega⟩
    have hk : k < D.length := by omega
    obtain ⟨d, hd⟩ : ∃ d, D[k]? = some d := ⟨_, List.getElem?_eq_getElem hk⟩
    have hn := nums_get hd
    have hok := R.inn d (List.mem_of_getElem? hd)
    rcases hl : d.2.2 with _ | ⟨x, l⟩
    · rw [hl] at hn
      have hrd := hok.rd
      rw [hl] at hrd
      exact c_as_any (pl := pl) room k 0 11 [] fr (by simp) hrd (fun W hW => c_first_none (H.below hW) k hn) (fun W hW => c_rfirst_none (R.below hW) room k d hd hl)
        (fun W hW => c_list (H.below hW) k [] hn) (fun W hW => by have := c_rlist (R.below hW) room k d hd; rw [hl] at this; exact this) (fun W hW => same_below (c_len (H.below hW) k [] hn)) CF CG
    · have hfew := hok.few
      rw [hl] at hn hfew
      have hrd := hok.rd
      rw [hl] at hrd
      exact c_as_any (pl := pl) room k x 0 (x :: l) fr hfew hrd (fun W hW => c_first_ok (H.below hW) k x l hn) (fun W hW => c_rfirst_ok (R.below hW) room k d hd x l hl)
        (fun W hW => c_list (H.below hW) k _ hn) (fun W hW => by have := c_rlist (R.below hW) room k d hd; rw [hl] at this; exact this) (fun W hW => same_below (c_len (H.below hW) k _ hn)) CF CG
end Go.Proofs.Ythakcjabeekihaa

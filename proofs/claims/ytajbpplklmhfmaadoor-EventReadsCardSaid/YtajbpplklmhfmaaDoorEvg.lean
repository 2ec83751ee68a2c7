/- Package event: the library's Compare and Or, compare, Less. -/
import Derived.Test.YtajbpplklmhfmaaDoorEvf
import Derived.Test.YtajbpplklmhfmaaDoorEvb
import Derived.Test.YtajbpplklmhfmaaDoorShelf
import Derived.Deep.RegionHeld3
import Derived.Sort.Grow
namespace Go.Proofs.YtajbpplklmhfmaaDoor
open Go.RowKit

set_option maxHeartbeats 1000000 in
theorem c_or {w : World} {pl : Nat → Prop} {A : Option Addr} {n c : Nat} {L : List Int} (hR : RD w pl 1 A n (L.map (Value.int .i64))) (hl : L.length = n) (hn : n ≤ 100000) :
    Calls Tryd.prog 43 #[.slice A n c] w fun e w' => e = .returned (.int .i64 (orL L)) ∧ w' = w := by
  have HR := Lib.hid hR
  have HL := Lib.hid hl
  clear hR hl
  go_enter Tryd.func43, Tryd.ntmps43
  go_wp2
  go_loop [8] (fun i => ∃ k : Nat, k ≤ n ∧ i = .int .i64 k ∧ orL L = orL (L.drop k)) (fun i => n - (intOf i).toNat)
  case atStart => exact ⟨0, Nat.zero_le _, rfl, rfl⟩
  case round =>
    obtain ⟨k, hk, rfl, hF⟩ := hrel
    have HF := Lib.hid hF
    clear hF
    by_cases hlt : k < n
    · have hkL : k < L.length := by rw [HL.out]; exact hlt
      obtain ⟨b, o, rfl, _, _, hc⟩ := HR.out.at_ (by omega)
      have h1 := hc k (.int .i64 L[k]) (by simp [hkL])
      have HD := Lib.hid (List.drop_eq_getElem_cons hkL)
      clear hc
      generalize L[k] = z at h1 HD
      cases he : (z != 0)
      · have HG := Lib.hid (show orL (z :: L.drop (k + 1)) = orL (L.drop (k + 1)) from if_pos (by simpa using he))
        go_wp2
        go_round
        case rel => exact ⟨k + 1, by omega, by go_num, by rw [HF.out, HD.out, HG.out]⟩
        case measure => simp [intOf]; omega
      · have HG := Lib.hid (show orL (z :: L.drop (k + 1)) = z from if_neg (by simpa using he))
        go_wp2
        go_ret
        exact ⟨ret_int (by rw [HF.out, HD.out, HG.out]), rfl⟩
    · have HG := Lib.hid (show orL (L.drop k) = 0 from by rw [List.drop_of_length_le (by have := HL.out; omega)]; rfl)
      obtain rfl : k = n := by omega
      go_wp2
      go_ret
      exact ⟨ret_int (by rw [HF.out, HG.out]), rfl⟩
theorem or_lit (a b c d : Int) (s : Nat) (W : World) (hs : Blk W s [.int .i64 a, .int .i64 b, .int .i64 c, .int .i64 d] 3) :
    Calls Tryd.prog 43 #[.slice (some ⟨s, 0, none⟩) 4 4] W fun e w' => e = .returned (.int .i64 (orL [a, b, c, d])) ∧ w' = W :=
  c_or (c := 4) (pl := fun _ => True) (L := [a, b, c, d]) (RD.of_blk (xs := [.int .i64 a, .int .i64 b, .int .i64 c, .int .i64 d]) hs rfl trivial) rfl (by omega)

/-- W is w with draws, and new blocks. -/
def GW (w W : World) : Prop := ∃ q os, W = Sort.grow (w.drewN q) os
theorem GW.below {w W : World} (h : GW w W) : Below w.heap.size w W := by
  obtain ⟨q, os, rfl⟩ := h
  exact ⟨rfl, rfl, rfl, by simp [Sort.grow], fun i hi => by simp [Sort.grow, Array.getElem?_append, hi]⟩
theorem GW.refl (w : World) : GW w w := ⟨0, #[], by rw [Sort.grow_empty]; rfl⟩
theorem GW.drew {w : World} : GW w w.drew := ⟨1, #[], by rw [Sort.grow_empty]; rfl⟩
theorem GW.trans {a b c : World} (h : GW a b) (k : GW b c) : GW a c := by
  obtain ⟨q, os, rfl⟩ := h
  obtain ⟨r, os', rfl⟩ := k
  refine ⟨q + r, os ++ os', ?_⟩
  rw [← Sort.grow_grow]
  simp [Sort.grow, World.drewN, Nat.add_assoc]
theorem GW.alloc {w : World} (o : Obj) : GW w (w.alloc o) := ⟨0, #[o], by rw [Sort.alloc_eq_grow]; rfl⟩
/-- The two boxes of the events that are compared. -/
def CS (w : World) (x y : Nat) (a b : EV) (W : World) : Prop := GW w W ∧ Blk W x (evC a) 27 ∧ Blk W y (evC b) 27
theorem CS.out {w W : World} {x y : Nat} {a b : EV} (h : CS w x y a b W) : W.cell? ⟨x, 0, none⟩ = some (.int .i64 a.k) ∧ W.cell? ⟨x, 1, none⟩ = some (.int .i64 a.o) ∧ W.cell? ⟨x, 2, none⟩ = some (.int .i64 a.h) ∧ W.cell? ⟨x, 3, none⟩ = some (.int .i64 a.n) ∧ W.cell? ⟨y, 0, none⟩ = some (.int .i64 b.k) ∧ W.cell? ⟨y, 1, none⟩ = some (.int .i64 b.o) ∧ W.cell? ⟨y, 2, none⟩ = some (.int .i64 b.h) ∧ W.cell? ⟨y, 3, none⟩ = some (.int .i64 b.n) :=
  ⟨h.2.1.cell 0 _ rfl, h.2.1.cell 1 _ rfl, h.2.1.cell 2 _ rfl, h.2.1.cell 3 _ rfl, h.2.2.cell 0 _ rfl, h.2.2.cell 1 _ rfl, h.2.2.cell 2 _ rfl, h.2.2.cell 3 _ rfl⟩
abbrev CSx (w : World) (x y : Nat) (a b : EV) (W : World) : Prop := CS w x y a b W ∧ W.cell? ⟨x, 0, none⟩ = some (.int .i64 a.k) ∧ W.cell? ⟨x, 1, none⟩ = some (.int .i64 a.o) ∧ W.cell? ⟨x, 2, none⟩ = some (.int .i64 a.h) ∧ W.cell? ⟨x, 3, none⟩ = some (.int .i64 a.n) ∧ W.cell? ⟨y, 0, none⟩ = some (.int .i64 b.k) ∧ W.cell? ⟨y, 1, none⟩ = some (.int .i64 b.o) ∧ W.cell? ⟨y, 2, none⟩ = some (.int .i64 b.h) ∧ W.cell? ⟨y, 3, none⟩ = some (.int .i64 b.n)
theorem CS.next {w W W' : World} {x y : Nat} {a b : EV} (h : CS w x y a b W) (k : GW W W') : CSx w x y a b W' := by
  have h' : CS w x y a b W' := ⟨h.1.trans k, h.2.1.up k.below h.2.1.lt, h.2.2.up k.below h.2.2.lt⟩
  exact ⟨h', h'.out⟩

set_option maxRecDepth 100000 in
set_option maxHeartbeats 4000000 in
theorem c_evcmp (a b : EV) (w : World) : Calls Tryd.prog 32 #[.agg #[.int .i64 a.k, .int .i64 a.o, .int .i64 a.h, .int .i64 a.n], .agg #[.int .i64 b.k, .int .i64 b.o, .int .i64 b.h, .int .i64 b.n]] w fun e w' => e = .returned (.int .i64 (evCmp a b)) ∧ GW w w' := by
  have HA := (Blk.new w (evC a) 27).alloc (.cells (evC b).toArray 27)
  have HB := Blk.new (w.alloc (.cells (evC a).toArray 27)) (evC b) 27
  have HG : GW w ((w.alloc (.cells (evC a).toArray 27)).alloc (.cells (evC b).toArray 27)) := (GW.alloc _).trans (GW.alloc _)
  have hz : (w.alloc (.cells (evC a).toArray 27)).heap.size = w.heap.size + 1 := by simp
  rw [hz] at HB
  have HS : CS w w.heap.size (w.heap.size + 1) a b ((w.alloc (.cells (evC a).toArray 27)).alloc (.cells (evC b).toArray 27)) := ⟨HG, HA, HB⟩
  generalize hw1 : (w.alloc (.cells (evC a).toArray 27)).alloc (.cells (evC b).toArray 27) = w1 at HS
  have HW := Lib.hid hw1
  have H := Lib.hid HS
  have CC := Lib.hid (fun (x y : Int) (W : World) => Tryd.cmp_Compare_int x y W)
  change Hid (∀ x y W, Calls _ _ _ W fun e w' => e = .returned (.int .i64 (cmp1 x y)) ∧ w' = W) at CC
  have HX : Hid (evCmp a b = orL [cmp1 a.k b.k, cmp1 a.o b.o, cmp1 a.h b.h, cmp1 a.n b.n]) := Lib.hid rfl
  have CO := Lib.hid or_lit
  clear HA HB HG hz HS hw1
  obtain ⟨ak, ao, ah, an⟩ := a
  obtain ⟨bk, bo, bh, bn⟩ := b
  go_enter Tryd.func32, Tryd.ntmps32
  go_wp2_with fail
  have HW2 : Hid ((w.alloc (.cells #[.int .i64 ak, .int .i64 ao, .int .i64 ah, .int .i64 an] 27)).alloc (.cells #[.int .i64 bk, .int .i64 bo, .int .i64 bh, .int .i64 bn] 27) = w1) := HW
  rw [HW2.out]
  go_region_held3 (fun W => CSx w w.heap.size (w.heap.size + 1) ⟨ak, ao, ah, an⟩ ⟨bk, bo, bh, bn⟩ W)
    (first | exact H.out.next GW.drew | exact CS.next (And.left (by assumption)) (GW.alloc _) | assumption)
    (first
      | (go_at_call 44; refine (CC.out _ _ _).mono ?_; rintro e w' ⟨rfl, rfl⟩)
      | (go_at_call 43; refine (CO.out _ _ _ _ _ _ (by exact Blk.new w1 _ _)).mono ?_; rintro e w' ⟨rfl, rfl⟩))
  go_wp2
  go_ret
  exact ⟨ret_int HX.out.symm, (And.left (And.left (by assumption)))⟩
end Go.Proofs.YtajbpplklmhfmaaDoor

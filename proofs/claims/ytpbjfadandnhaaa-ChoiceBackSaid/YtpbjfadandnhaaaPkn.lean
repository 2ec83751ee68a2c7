/- The law ChoiceTells. -/
import Derived.Test.YtpbjfadandnhaaaPkm
import Derived.Test.YtpbjfadandnhaaaPkk
import Derived.Test.YtpbjfadandnhaaaNe
import Derived.Deep.RegionHeld3
namespace Go.Proofs.Ytpbjfadandnhaaa
open Go.RowKit

/-- What a drawn region keeps: what was there, and the cells of the law's box. -/
theorem tl_S {w W : World} {b : Nat} {t : TypeId} {x y z : Value} (h : Blk w b [x, y, z] t) (hb : Below w.heap.size w W) :
    Below w.heap.size w W ∧ W.cell? ⟨b, 0, none⟩ = some x ∧ W.cell? ⟨b, 1, none⟩ = some y ∧ W.cell? ⟨b, 2, none⟩ = some z :=
  ⟨hb, (h.up hb h.lt).cell 0 _ rfl, (h.up hb h.lt).cell 1 _ rfl, (h.up hb h.lt).cell 2 _ rfl⟩
theorem tl_next {w W W' : World} {b : Nat} {t : TypeId} {x y z : Value} (h : Blk w b [x, y, z] t) (k : Below W.heap.size W W')
    (hb : Below w.heap.size w W ∧ W.cell? ⟨b, 0, none⟩ = some x ∧ W.cell? ⟨b, 1, none⟩ = some y ∧ W.cell? ⟨b, 2, none⟩ = some z) :
    Below w.heap.size w W' ∧ W'.cell? ⟨b, 0, none⟩ = some x ∧ W'.cell? ⟨b, 1, none⟩ = some y ∧ W'.cell? ⟨b, 2, none⟩ = some z := tl_S h (up_trans hb.1 k)

set_option maxRecDepth 100000 in
set_option maxHeartbeats 8000000 in
theorem l_ctells {w : World} {A : Option Addr} {n c : Nat} {L : List CH} (hn : L.length = n) (hreach : n * 24 ≤ 140737488351232) (hR : RD w (fun _ => True) 3 A n (L.flatMap chC)) (k v u : Int) :
    Calls Try.prog 3 #[.slice A n c, .agg #[.int .i64 k, .int .i64 v, .int .i64 u]] w fun e w' => e = .returned (.bool true) ∧ Below w.heap.size w w' := by
  subst hn
  have HU0 := Lib.hid (up_alloc w (.cells #[.int .i64 k, .int .i64 v, .int .i64 u] 24))
  by_cases ha : 100 < L.length ∧ L.length ≤ 2000
  · have h1 : (100 : Int) < L.length := by omega
    have h2 : (L.length : Int) ≤ 2000 := by omega
    clear ha hR hreach
    go_enter Try.func3, Try.ntmps3
    go_wp2_with fail
    refine (c_alive _).mono ?_
    rintro e w1 ⟨rfl, hb1⟩
    go_wp2
    go_ret
    exact ⟨rfl, up_trans HU0.out hb1⟩
  · have hX := Blk.new w [.int .i64 k, .int .i64 v, .int .i64 u] 24
    have HX := Lib.hid hX
    have CT : Hid (∀ W, Below w.heap.size w W → Calls Try.prog 8 #[.slice A L.length c] W fun e w' => ∃ B d, e = .returned (.slice B L.length d) ∧ RD w' (W.heap.size ≤ ·) 3 B L.length (L.flatMap chC) ∧ Below W.heap.size W w') := Lib.hid (fun W (h : Below w.heap.size w W) => c_to (c := c) (hR.below h) hreach)
    have CA : Hid (∀ (W : World) (pl : Nat → Prop) (B : Option Addr) (d : Nat), RD W pl 3 B L.length (L.flatMap chC) → Calls Try.prog 7 #[.slice B L.length d] W fun e w' => e = .returned (.tuple #[.int .i64 (chAll L).1, .int .i64 (chAll L).2]) ∧ Below W.heap.size W w') := Lib.hid (fun W pl B d h => c_all (c := d) h (by omega))
    have CRA : Hid (∀ W, Below w.heap.size w W → Calls Try.prog 9 #[.slice A L.length c] W fun e w' => e = .returned (.tuple #[.int .i64 (chAll L).1, .int .i64 (chAll L).2]) ∧ Below W.heap.size W w') := Lib.hid (fun W h => c_rall (c := c) (hR.below h) (by omega))
    have CB : Hid (∀ (W : World) (pl : Nat → Prop) (B : Option Addr) (d : Nat), RD W pl 3 B L.length (L.flatMap chC) → Calls Try.prog 10 #[.slice B L.length d] W fun e w' => e = .returned (.string ⟨(chBytes L).toArray⟩) ∧ Below W.heap.size W w') := Lib.hid (fun W pl B d h => c_bytes (c := d) h (by omega))
    have CRB : Hid (∀ W, Below w.heap.size w W → Calls Try.prog 11 #[.slice A L.length c] W fun e w' => e = .returned (.string ⟨(chBytes L).toArray⟩) ∧ Below W.heap.size W w') := Lib.hid (fun W h => c_rbytes (c := c) (hR.below h) (by omega))
    have CC := Lib.hid (fun W => c_pkchk k v u W)
    have CRC := Lib.hid (fun W => c_pkrchk k v u W)
    have hal := Lib.hid (fun W => c_alive W)
    have hg : (100 : Int) < L.length ∧ 2000 < (L.length : Int) ∨ (L.length : Int) ≤ 100 := by omega
    generalize (chAll L).1 = i at *
    generalize (chAll L).2 = er at *
    generalize (⟨(chBytes L).toArray⟩ : ByteArray) = bs at *
    generalize chChk k v u = z at *
    generalize L.flatMap chC = FL at *
    generalize L.length = n at *
    clear hX hR
    have e1 : (i == i) = true := by simp
    have e2 : (er == er) = true := by simp
    have e3 : (z == z) = true := by simp
    rcases hg with ⟨h1, h2⟩ | h1
    all_goals
      go_enter Try.func3, Try.ntmps3
      go_wp2_with fail
      refine (CT.out _ HU0.out).mono ?_
      rintro e w1 ⟨B1, d1, rfl, hr1, hb1⟩
      have HR1 := Lib.hid hr1
      have hu1 := up_trans HU0.out hb1
      have hx1 := HX.out.up hb1 HX.out.lt
      clear hr1 hb1
      go_wp2_with fail
      refine (CA.out _ _ _ _ HR1.out).mono ?_
      rintro e w2 ⟨rfl, hb2⟩
      have hu2 := up_trans hu1 hb2
      have hx2 := hx1.up hb2 hx1.lt
      clear hb2 hu1 hx1 HR1
      go_wp2_with fail
      refine (CRA.out _ hu2).mono ?_
      rintro e w3 ⟨rfl, hb3⟩
      have HU3 := Lib.hid (up_trans hu2 hb3)
      have HX3 := Lib.hid (hx2.up hb3 hx2.lt)
      clear hb3 hu2 hx2 CA CRA HU0 HX
      go_wp2_with fail
      go_region_held3 (fun W => Below w3.heap.size w3 W ∧ W.cell? ⟨w.heap.size, 0, none⟩ = some (.int .i64 k) ∧ W.cell? ⟨w.heap.size, 1, none⟩ = some (.int .i64 v) ∧ W.cell? ⟨w.heap.size, 2, none⟩ = some (.int .i64 u))
        (first | exact tl_S HX3.out ((Below.refl _ _).drew) | exact tl_next HX3.out (by assumption) (by assumption))
        (first
          | (go_at_call 8; refine (CT.out _ (up_trans HU3.out (And.left (by assumption)))).mono ?_; rintro e w4 ⟨B4, d4, rfl, hr4, hb4⟩)
          | (go_at_call 10; refine (CB.out _ _ _ _ hr4).mono ?_; rintro e w5 ⟨rfl, hb5⟩)
          | (go_at_call 11; refine (CRB.out _ (up_trans HU3.out (And.left (by assumption)))).mono ?_; rintro e w6 ⟨rfl, hb6⟩)
          | (go_at_call 12; refine (CC.out _).mono ?_; rintro e w7 ⟨rfl, hb7⟩)
          | (go_at_call 13; refine (CRC.out _).mono ?_; rintro e w8 ⟨rfl, hb8⟩)
          | (go_at_call 6; refine (hal.out _).mono ?_; rintro e w9 ⟨rfl, hb9⟩))
      go_wp2
      go_ret
      exact ⟨rfl, up_trans HU3.out (And.left (by assumption))⟩
end Go.Proofs.Ytpbjfadandnhaaa

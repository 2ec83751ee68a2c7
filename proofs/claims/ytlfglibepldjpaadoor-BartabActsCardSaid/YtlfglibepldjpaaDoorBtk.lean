/- The law's alive of layer 23, and what it keeps in memory. -/
import Derived.Test.YtlfglibepldjpaaDoorBtj
import Derived.Test.YtlfglibepldjpaaDoorRy
import Derived.Test.YtlfglibepldjpaaDoorIs
namespace Go.Proofs.YtlfglibepldjpaaDoor
open Go.RowKit

def Ans (v : Value) (w : World) (e : Ending) (w' : World) : Prop := e = .returned v ∧ Below w.heap.size w w'
/-- A table of the program's, of the document's, a list, guards, conditions: facts that last. -/
def kP (A : Option Addr) (n : Nat) (L : List BR) : Kp := ⟨fun W => TW pB W tt A n L, fun hb h => h.below hb⟩
def kT (A : Option Addr) (n : Nat) (L : List BR) : Kp := ⟨fun W => DT W A n L, fun hb h => h.below hb⟩
def kR (A : Option Addr) (n : Nat) (zs : List Int) : Kp := ⟨fun W => RD W tt 1 A n (zs.map (Value.int .i64)), fun hb h => h.below hb⟩
def kG (A : Option Addr) (n : Nat) (gs : List GD) : Kp := ⟨fun W => RD W tt 5 A n (gs.flatMap gdC), fun hb h => h.below hb⟩
def kC (A : Option Addr) (n : Nat) (l : List CB) : Kp := ⟨fun W => RD W tt 2 A n (l.flatMap cbC), fun hb h => h.below hb⟩
def alC : List CB := [(true, 5), (false, 5)]
def alG1 : List GD := [⟨3, 0, 0, 0, 0⟩, ⟨3, 1, 0, 0, 0⟩]
def alG2 : List GD := [⟨3, 0, 0, 0, 0⟩]
theorem al_facts : ∃ T U V W X Y q, nwR alC = (0, 0) ∧ nwL alC = T ∧ T.length = 2 ∧ tOne (brEnrol · 3) T 0 = (U, 0) ∧ tOne (brEnrol · 3) U 1 = (V, 0) ∧ offR 3 true V V 0 alG1 = (V, 1, 12) ∧ offR 3 true V V 0 alG2 = (W, 0, 0) ∧ tOne fireF W 0 = (X, 0) ∧ fireW W 0 = [3] ∧
    tOne (brResign · 3) X 2 = (X, 8) ∧ rdyL 0 W = [0] ∧ tLeave W 3 = Y ∧ rdyL 0 Y = [] ∧ (tQuit X 3)[1]? = some q ∧ q.r.m = S4.zero := by
  let T := nwL alC
  let U := (tOne (brEnrol · 3) T 0).1
  let V := (tOne (brEnrol · 3) U 1).1
  let W := (offR 3 true V V 0 alG2).1
  let X := (tOne fireF W 0).1
  exact ⟨T, U, V, W, X, tLeave W 3, ((tQuit X 3)[1]?).getD BR.zero, by kernel_rfl, rfl, by kernel_rfl, by kernel_rfl, by kernel_rfl, by kernel_rfl, by kernel_rfl, by kernel_rfl, by kernel_rfl, by kernel_rfl, by kernel_rfl, rfl, by kernel_rfl, by kernel_rfl, by kernel_rfl⟩
theorem rd_c (W : World) : RD (W.alloc (.cells #[.bool true, .int .i64 5, .bool false, .int .i64 5] 59)) tt 2 (some ⟨W.heap.size, 0, none⟩) 2 (alC.flatMap cbC) := RD.of_blk (Blk.new W [.bool true, .int .i64 5, .bool false, .int .i64 5] 59) rfl trivial
theorem rd_g1 (W : World) : RD (W.alloc (.cells #[.int .i64 3, .int .i64 0, .int .i64 0, .int .i64 0, .int .i64 0, .int .i64 3, .int .i64 1, .int .i64 0, .int .i64 0, .int .i64 0] 76)) tt 5 (some ⟨W.heap.size, 0, none⟩) 2 (alG1.flatMap gdC) := RD.of_blk (Blk.new W [.int .i64 3, .int .i64 0, .int .i64 0, .int .i64 0, .int .i64 0, .int .i64 3, .int .i64 1, .int .i64 0, .int .i64 0, .int .i64 0] 76) rfl trivial
theorem rd_g2 (W : World) : RD (W.alloc (.cells #[.int .i64 3, .int .i64 0, .int .i64 0, .int .i64 0, .int .i64 0] 76)) tt 5 (some ⟨W.heap.size, 0, none⟩) 1 (alG2.flatMap gdC) := RD.of_blk (Blk.new W [.int .i64 3, .int .i64 0, .int .i64 0, .int .i64 0, .int .i64 0] 76) rfl trivial
theorem same_one {W : World} {A : Option Addr} {c s : Nat} {z : Int} (hs : s = W.heap.size) (h : (kR A 1 [z]).P W) :
    Calls Tryd.prog 25 #[.slice A 1 c, .slice (some ⟨s, 0, none⟩) 1 1] (W.alloc (.cells #[.int .i64 z] 3)) (Ans (.bool true) (W.alloc (.cells #[.int .i64 z] 3))) :=
  (c_same (zs := [z]) (pl' := tt) (d := 1) ((kR A 1 [z]).up (up_alloc _ _) h) (by subst hs; exact RD.of_blk (xs := [.int .i64 z]) (Blk.new W [.int .i64 z] 3) rfl trivial) (by simp)).mono fun _ _ h => ⟨h.1, h.2.below⟩

set_option maxRecDepth 100000 in
set_option maxHeartbeats 4000000 in
theorem c_alive23 (w : World) (hT : TabD w) : Calls Tryd.prog 8 #[] w fun e w' => e = .returned (.bool true) ∧ Below w.heap.size w w' := by
  obtain ⟨T, U, V, W, X, Y, q, f0, f1, fl, f2, f3, f4, f5, f6, f6', f7, f8, f9, f10, f11, f12⟩ := al_facts
  have HT := Lib.hid (fun W (hW : Below w.heap.size w W) => hT.up hW)
  have CN := Lib.hid (fun (W : World) => c_tnew (c := 2) (rd_c W) rfl)
  have C2 := Lib.hid (fun (W : World) A c (hW : Below w.heap.size w W) (h : (kP A 2 T).P W) => (f2 ▸ c_tenrol (c := c) h (by omega) 0 3 (hT.up hW) : Calls _ _ _ _ (TPost W 2 (U, 0))))
  have C3 := Lib.hid (fun (W : World) A c (hW : Below w.heap.size w W) (h : (kP A 2 U).P W) => (f3 ▸ c_tenrol (c := c) h (by omega) 1 3 (hT.up hW) : Calls _ _ _ _ (TPost W 2 (V, 0))))
  have C4 := Lib.hid (fun (W : World) A G c d (hW : Below w.heap.size w W) (h : (kP A 2 V).P W) (g : (kG G 2 alG1).P W) => (f4 ▸ c_toffer (c := c) (d := d) h (by omega) g rfl (by omega) 3 true (hT.up hW) : Calls _ _ _ _ (OfPost W 2 (V, 1, 12))))
  have C5 := Lib.hid (fun (W' : World) A G c d (hW : Below w.heap.size w W') (h : (kP A 2 V).P W') (g : (kG G 1 alG2).P W') => (f5 ▸ c_toffer (c := c) (d := d) h (by omega) g rfl (by omega) 3 true (hT.up hW) : Calls _ _ _ _ (OfPost W' 2 (W, 0, 0))))
  have C6 := Lib.hid (fun (W' : World) A c (hW : Below w.heap.size w W') (h : (kP A 2 W).P W') => (f6 ▸ f6' ▸ c_tfire (c := c) h (by omega) 0 (hT.up hW) : Calls _ _ _ _ (FiPost W' 2 (X, 0) [3])))
  have C7 := Lib.hid (fun (W' : World) A c (hW : Below w.heap.size w W') (h : (kP A 2 X).P W') => (f7 ▸ c_tresign (c := c) h (by omega) 2 3 (hT.up hW) : Calls _ _ _ _ (TPost W' 2 (X, 8))))
  have C8 := Lib.hid (fun (W' : World) A c (hW : Below w.heap.size w W') (h : (kP A 2 W).P W') => (f8 ▸ c_tready (c := c) h (by omega) (hT.up hW) : Calls _ _ _ _ (IntsPost W' [0])))
  have C9 := Lib.hid (fun (W' : World) A c (hW : Below w.heap.size w W') (h : (kP A 2 W).P W') => (f9 ▸ c_tleave (c := c) h (by omega) 3 (hT.up hW) : Calls _ _ _ _ (TPost1 W' 2 Y)))
  have C10 := Lib.hid (fun (W' : World) A c (hW : Below w.heap.size w W') (h : (kP A 2 Y).P W') => (f10 ▸ c_tready (c := c) h (by omega) (hT.up hW) : Calls _ _ _ _ (IntsPost W' [])))
  have C11 := Lib.hid (fun (W' : World) A c (hW : Below w.heap.size w W') (h : (kP A 2 X).P W') => c_tquit (c := c) h (by omega) 3 (hT.up hW))
  have F0 := Lib.hid f0
  have F1 := Lib.hid f1
  have FL := Lib.hid fl
  have F11 := Lib.hid f11
  have F12 := Lib.hid f12
  have HS : Hid (Mm w [] [] w) := Lib.hid (Mm.nil (Below.refl _ _))
  clear hT f0 f1 fl f2 f3 f4 f5 f6 f6' f7 f8 f9 f10 f11 f12
  go_enter Tryd.func8, Tryd.ntmps8
  go_wp2_with fail
  refine (CN.out _).mono ?_; rintro e w2 ⟨A1, n1, c1, rfl, hd, hb⟩
  rw [F1.out] at hd
  obtain rfl : n1 = 2 := by rw [← hd.len]; exact FL.out
  rw [F0.out]
  have HS := Lib.hid ((HS.out.next (up_trans (up_alloc w _) hb)).fact (kP A1 2 T) hd)
  clear hb hd CN
  go_wp2_with fail
  refine (C2.out _ _ _ HS.out.up (HS.out.da 0 rfl)).mono ?_; rintro e w3 ⟨A2, c2, rfl, hd, hb⟩
  have HS := Lib.hid ((HS.out.next hb).fact (kP A2 2 U) hd)
  clear hb hd C2
  go_wp2_with fail
  refine (C3.out _ _ _ HS.out.up (HS.out.da 0 rfl)).mono ?_; rintro e w4 ⟨A3, c3, rfl, hd, hb⟩
  have HS := Lib.hid ((HS.out.next hb).fact (kP A3 2 V) hd)
  clear hb hd C3
  go_wp2_with fail
  have HS4 := Lib.hid (HS.out.next (up_alloc w4 (.cells #[.int .i64 3, .int .i64 0, .int .i64 0, .int .i64 0, .int .i64 0, .int .i64 3, .int .i64 1, .int .i64 0, .int .i64 0, .int .i64 0] 76)))
  refine (C4.out _ _ _ _ _ HS4.out.up (HS4.out.da 0 rfl) (rd_g1 w4)).mono ?_; rintro e w5 ⟨A4, c4, rfl, hd, hb⟩
  have HS := Lib.hid (HS4.out.next hb)
  clear hb hd C4 HS4
  go_wp2_with fail
  have HS4 := Lib.hid (HS.out.next (up_alloc w5 (.cells #[.int .i64 3, .int .i64 0, .int .i64 0, .int .i64 0, .int .i64 0] 76)))
  refine (C5.out _ _ _ _ _ HS4.out.up (HS4.out.da 0 rfl) (rd_g2 w5)).mono ?_; rintro e w6 ⟨A5, c5, rfl, hd, hb⟩
  have HS := Lib.hid ((HS4.out.next hb).fact (kP A5 2 W) hd)
  clear hb hd C5 HS4
  go_wp2_with fail
  refine (C6.out _ _ _ HS.out.up (HS.out.da 0 rfl)).mono ?_; rintro e w7 ⟨A6, c6, B6, d6, rfl, hd, hr, hb⟩
  have HS := Lib.hid (((HS.out.next hb).fact (kP A6 2 X) hd).fact (kR B6 1 [3]) hr)
  clear hb hd hr C6
  go_wp2_with fail
  refine (C7.out _ _ _ HS.out.up (HS.out.da 1 rfl)).mono ?_; rintro e w8 ⟨A7, c7, rfl, hd, hb⟩
  have HS := Lib.hid (HS.out.next hb)
  clear hb hd C7
  go_wp2_with fail
  refine (C8.out _ _ _ HS.out.up (HS.out.da 2 rfl)).mono ?_; rintro e w9 ⟨B8, d8, rfl, -, -, hr, hb⟩
  have HS := Lib.hid ((HS.out.next hb).fact (kR B8 1 [0]) (hr.lo (fun _ _ => trivial)))
  clear hb hr C8
  obtain ⟨s9, hs9⟩ : ∃ s, s = w9.heap.size := ⟨_, rfl⟩
  have CS := Lib.hid (same_one (c := d8) hs9 (HS.out.da 0 rfl))
  have HSZ := Lib.hid hs9
  clear hs9
  go_wp2_with fail
  rw [← HSZ.out]
  refine CS.out.mono ?_; rintro e w10 ⟨rfl, hb⟩
  have HS := Lib.hid (HS.out.next (up_trans (up_alloc w9 (.cells #[.int .i64 0] 3)) hb))
  clear hb CS
  go_wp2_with fail
  refine (C9.out _ _ _ HS.out.up (HS.out.da 3 rfl)).mono ?_; rintro e w11 ⟨A9, c9, rfl, hd, hb⟩
  have HS := Lib.hid ((HS.out.next hb).fact (kP A9 2 Y) hd)
  clear hb hd C9
  go_wp2_with fail
  refine (C10.out _ _ _ HS.out.up (HS.out.da 0 rfl)).mono ?_; rintro e w12 ⟨B10, d10, rfl, -, -, -, hb⟩
  have HS := Lib.hid (HS.out.next hb)
  clear hb C10
  obtain ⟨s12, hs12⟩ : ∃ s, s = w12.heap.size := ⟨_, rfl⟩
  have CS := Lib.hid (same_one (c := d6) hs12 (HS.out.da 2 rfl))
  have HSZ2 := Lib.hid hs12
  clear hs12
  go_wp2_with fail
  rw [← HSZ2.out]
  refine CS.out.mono ?_; rintro e w13 ⟨rfl, hb⟩
  have HS := Lib.hid (HS.out.next (up_trans (up_alloc w12 (.cells #[.int .i64 3] 3)) hb))
  clear hb CS
  go_wp2_with fail
  refine (C11.out _ _ _ HS.out.up (HS.out.da 3 rfl)).mono ?_; rintro e w14 ⟨A11, c11, rfl, hd, hb⟩
  obtain ⟨g, o, q', rfl, _, _, hq, hrg, _⟩ := hd.at_ 1 (by omega)
  have hqq : q' = q := by
    rw [F11.out] at hq
    injection hq with hq
    exact hq.symm
  subst hqq
  have HRM : Hid (w14.rangeAt g (o + 13) [.int .u64 0, .int .u64 0, .int .u64 0, .int .u64 0]) := Lib.hid (by
    intro j v hv
    have hz : q'.r.m = ⟨0#64, 0#64, 0#64, 0#64⟩ := F12.out
    refine (show w14.cell? ⟨g, o + 13 + j, none⟩ = w14.cell? ⟨g, o + 1 * 11 + (2 + j), none⟩ from by congr 2; omega).trans (hrg (2 + j) v ?_)
    show (brC q')[2 + j]? = some v
    unfold brC
    rw [hz]
    match j, hv with
    | 0, hv => exact hv
    | 1, hv => exact hv
    | 2, hv => exact hv
    | 3, hv => exact hv)
  have HS := Lib.hid (HS.out.next hb)
  clear hb hd hq hrg C11
  have hq0 : ∀ W : World, (Op.equalIn 10000 62 (.agg #[.int .u64 0, .int .u64 0, .int .u64 0, .int .u64 0]) (.agg #[.int .u64 0, .int .u64 0, .int .u64 0, .int .u64 0])).run Tryd.prog W = .ok true W := fun W => run_zero (s := S4.zero) rfl W
  go_wp2_with (refine lmr (b := g) (q := o + 13) (cs := [.int .u64 0, .int .u64 0, .int .u64 0, .int .u64 0]) (.tmp 122) rfl rfl Tryd.underlying62 rfl (by kernel_rfl) rfl ?_ ?_; (· exact HRM.out))
  go_ret
  exact ⟨rfl, HS.out.up⟩
end Go.Proofs.YtlfglibepldjpaaDoor

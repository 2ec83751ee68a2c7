/- The law on what any table tells. -/
import Derived.Test.YtflpjpdgacjlcaaPsf
import Derived.Test.YtflpjpdgacjlcaaPsh
import Derived.Test.YtflpjpdgacjlcaaPsj
namespace Go.Proofs.Ytflpjpdgacjlcaa
open Go.RowKit

set_option maxRecDepth 100000 in
set_option maxHeartbeats 8000000 in
theorem l_ptells {w : World} {A : Option Addr} {n c : Nat} {L : List PR} (h : TW prK w tt A n L) (hn : n ≤ 9223372036854775807) (p x : Int) (hx : I64 x) :
    Calls Try.prog 3 #[.slice A n c, .int .i64 p, .int .i64 x] w fun e w' => e = .returned (.bool true) ∧ Below w.heap.size w w' := by
  have CS := c_prsmall (c := c) h hn
  have HT := Lib.hid h
  cases hs : smallP L
  · rw [hs] at CS
    have CS := Lib.hid CS
    clear h hs
    go_enter Try.func3, Try.ntmps3
    go_wp2_with fail
    refine CS.out.mono ?_; rintro e w2 ⟨rfl, hb⟩
    have HB := Lib.hid hb
    clear hb
    go_wp2_with fail
    refine (c_pralive w2).mono ?_; rintro e w3 ⟨rfl, hb⟩
    go_wp2
    go_ret
    exact ⟨rfl, up_trans HB.out hb⟩
  rw [hs] at CS
  have CS := Lib.hid CS
  have hn20 : n ≤ 20 := by rw [← h.len]; exact (small_iff hs).2
  have HN := Lib.hid hn20
  have C2 := fun W (hb : Below w.heap.size w W) => c_rprfind (c := c) (HT.out.below hb) x
  have CF2 := fun W (hb : Below w.heap.size w W) => c_rprfine (c := c) (HT.out.below hb)
  have CH2 := fun W (hb : Below w.heap.size w W) => c_rprhandle (c := c) (HT.out.below hb) p
  have CI2 := fun W (hb : Below w.heap.size w W) => c_rprin (c := c) (HT.out.below hb) p
  have CL2 := fun W (hb : Below w.heap.size w W) => c_rprhandles (c := c) (HT.out.below hb)
  have K1 := fun W (A' : Option Addr) (c' : Nat) (t : TW prK W tt A' n L) => c_prfind (c := c') t x hx
  have K2 := fun W (A' : Option Addr) (c' : Nat) (t : TW prK W tt A' n L) => c_prfine (c := c') t
  have K3 := fun W (A' : Option Addr) (c' : Nat) (t : TW prK W tt A' n L) => c_prhandle (c := c') t p
  have K4 := fun W (A' : Option Addr) (c' : Nat) (t : TW prK W tt A' n L) => c_prin (c := c') t p
  have K5 := fun W (A' : Option Addr) (c' : Nat) (t : TW prK W tt A' n L) => c_prhandles (c := c') t
  have hi1 : (inT L p).length ≤ 16 := by
    unfold inT
    split
    · exact plsT_len _ _ _
    · simp
  have hi2 : (handlesT L).length ≤ 16 := by
    rw [handles_is, List.length_map]
    exact plsF_len _ _
  generalize findT L x = fx at C2 K1
  generalize fineT L = fb at CF2 K2
  generalize handleT L p = hp at CH2 K3
  generalize inT L p = zs at CI2 K4 hi1
  generalize handlesT L = ys at CL2 K5 hi2
  have CF2 := Lib.hid CF2
  have C2 := Lib.hid C2
  have CH2 := Lib.hid CH2
  have CI2 := Lib.hid CI2
  have CL2 := Lib.hid CL2
  have K1 := Lib.hid K1
  have K2 := Lib.hid K2
  have K3 := Lib.hid K3
  have K4 := Lib.hid K4
  have K5 := Lib.hid K5
  have HI1 := Lib.hid hi1
  have HI2 := Lib.hid hi2
  obtain ⟨f1, f2⟩ := fx
  simp only at C2 K1
  have e1 : (f1 == f1) = true := beq_self_eq_true _
  have e2 : (f2 == f2) = true := beq_self_eq_true _
  have e3 : (fb == fb) = true := beq_self_eq_true _
  have e4 : (hp == hp) = true := beq_self_eq_true _
  clear h hs hn20 hi1 hi2
  go_enter Try.func3, Try.ntmps3
  go_wp2_with fail
  refine CS.out.mono ?_; rintro e w1 ⟨rfl, hb⟩
  have HB1 := Lib.hid hb
  clear hb
  go_wp2_with fail
  refine (c_prto (HT.out.below HB1.out) (by have := HN.out; omega)).mono ?_; rintro e w2 ⟨B, d, rfl, t2, hb⟩
  have H2 := Lib.hid (t2.lo plP_tt)
  have HB2 := Lib.hid (up_trans HB1.out hb)
  clear hb t2
  go_wp2_with fail
  refine (K1.out w2 B d H2.out).mono ?_; rintro e w3 ⟨rfl, hb⟩
  have HU3 := Lib.hid hb
  clear hb
  go_wp2_with fail
  refine (C2.out w3 (up_trans HB2.out HU3.out)).mono ?_; rintro e w4 ⟨rfl, hb⟩
  have HU4 := Lib.hid (up_trans HU3.out hb)
  clear hb
  go_wp2_with fail
  refine (K2.out w4 B d (H2.out.below HU4.out)).mono ?_; rintro e w5 ⟨rfl, hb⟩
  have HU5 := Lib.hid (up_trans HU4.out hb)
  clear hb
  go_wp2_with fail
  refine (CF2.out w5 (up_trans HB2.out HU5.out)).mono ?_; rintro e w6 ⟨rfl, hb⟩
  have HU6 := Lib.hid (up_trans HU5.out hb)
  clear hb
  go_wp2_with fail
  refine (K3.out w6 B d (H2.out.below HU6.out)).mono ?_; rintro e w7 ⟨rfl, hb⟩
  have HU7 := Lib.hid (up_trans HU6.out hb)
  clear hb
  go_wp2_with fail
  refine (CH2.out w7 (up_trans HB2.out HU7.out)).mono ?_; rintro e w8 ⟨rfl, hb⟩
  have HU8 := Lib.hid (up_trans HU7.out hb)
  clear hb
  go_wp2_with fail
  refine (K4.out w8 B d (H2.out.below HU8.out)).mono ?_; rintro e w9 ⟨A9, c9, rfl, _, _, r9, hb⟩
  have HR9 := Lib.hid r9
  have HU9 := Lib.hid (up_trans HU8.out hb)
  clear hb r9
  go_wp2_with fail
  refine (CI2.out w9 (up_trans HB2.out HU9.out)).mono ?_; rintro e w10 ⟨A10, c10, rfl, _, _, r10, hb⟩
  have HR10 := Lib.hid r10
  have HR9' := Lib.hid (HR9.out.below hb)
  have HU10 := Lib.hid (up_trans HU9.out hb)
  clear hb r10
  go_wp2_with fail
  refine (c_same HR9'.out HR10.out (by have := HI1.out; omega)).mono ?_; rintro e w11 ⟨rfl, hd⟩
  have HU11 := Lib.hid (up_trans HU10.out hd.below)
  clear hd
  go_wp2_with fail
  refine (K5.out w11 B d (H2.out.below HU11.out)).mono ?_; rintro e w12 ⟨A12, c12, rfl, _, _, r12, hb⟩
  have HR12 := Lib.hid r12
  have HU12 := Lib.hid (up_trans HU11.out hb)
  clear hb r12
  go_wp2_with fail
  refine (CL2.out w12 (up_trans HB2.out HU12.out)).mono ?_; rintro e w13 ⟨A13, c13, rfl, _, _, r13, hb⟩
  have HR13 := Lib.hid r13
  have HR12' := Lib.hid (HR12.out.below hb)
  have HU13 := Lib.hid (up_trans HU12.out hb)
  clear hb r13
  go_wp2_with fail
  refine (c_same HR12'.out HR13.out (by have := HI2.out; omega)).mono ?_; rintro e w14 ⟨rfl, hd⟩
  have HU14 := Lib.hid (up_trans HU13.out hd.below)
  clear hd
  go_wp2_with fail
  refine (c_pralive w14).mono ?_; rintro e w15 ⟨rfl, hb⟩
  go_wp2
  go_ret
  exact ⟨rfl, up_trans HB2.out (up_trans HU14.out hb)⟩
end Go.Proofs.Ytflpjpdgacjlcaa

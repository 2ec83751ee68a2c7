/- The contracts of queue's Remove. -/
import Derived.Test.YtgigcjhggpknnaaQi
import Derived.WalkMore
import Derived.ScopeJumps
namespace Go.Proofs.Ytgigcjhggpknnaa
open Go.RowKit

theorem c_rel_at {w : World} {b : Nat} {Vs : List (List Int)} {fr : Nat} {L : List Ln} {P : List Pc} {C : Ch} {V : Vl} (h : PX w b Vs fr L P C V) (q : Nat) (l : List Int) (hq : Vs[q]? = some l) (i : Nat) (hi : i < l.length) :
    Calls Try.prog 42 #[.pointer (some ⟨b, 0, none⟩), .int .i64 q, .int .i64 ((((C q).take i).getLastD 0 : Nat) : Int)] w fun e w' => e = .returned (.tuple #[]) ∧ PPost w b (Vs.set q (l.take i ++ l.drop (i + 1))) (fr + 1) w' := by
  have hv := h.val q _ hq
  have hq65 : q < 65 := by omega
  have hcl := h.clen q hq65
  have hlen := h.S.len q hq65
  rw [hv.1] at hlen
  rcases i with _ | k
  · have hC := drop_at (C q) 0 (by omega)
    have hV := drop_at l 0 hi
    rw [List.drop_zero] at hC hV
    have hr := h.S.rng q hq65 (C q)[0] (List.getElem_mem _)
    have hno := (h.S.unlink0 q hq65 _ _ _ _ hC (hv.1.trans hV)).2
    exact c_rel h q l _ hq 0 _ _ (c_unlinkS0 h.H h.S q hq65 _ _ _ _ hC (hv.1.trans hV) (by omega)) hno hr.1 hr.2 (by simp; omega)
  · have hC := parts2 (C q) k (by omega)
    have hV := parts2 l k hi
    have hr := h.S.rng q hq65 (C q)[k + 1] (List.getElem_mem _)
    have he : ((C q).take k).length = (l.take k).length := by simp; omega
    have hno := (h.S.unlink1 q hq65 _ _ _ _ _ _ _ _ hC (hv.1.trans hV) he).2
    have hU := c_unlinkS1 h.H h.S q hq65 _ _ _ _ _ _ _ _ hC (hv.1.trans hV) he (by omega)
    rw [parts3 l k hi] at hU
    rw [take_at (C q) k (by omega)]
    exact c_rel h q l _ hq _ _ _ hU hno hr.1 hr.2 (by simp; omega)

/-- What holds at each jump. -/
def RJ (w : World) (b q : Nat) (x : Int) (c : List Nat) (n : Nat) (a' : Act) (w' : World) : Prop :=
  ∃ (j : Nat) (u20 u21 u22 u23 u24 u25 u26 u27 u28 u29 u30 u31 u32 u33 u34 u35 u36 u37 u38 : Value), j ≤ n ∧ Drew w w' ∧ a' = { tmps := #[.pointer (some ⟨b, 0, none⟩), .int .i64 q, .int .i64 x, undef, undef, undef, .bool false, .int .i64 (((c.take j).getLastD 0 : Nat) : Int), .int .i64 (((c.drop j).headD 0 : Nat) : Int), .pointer (some ⟨b, 0, none⟩), .int .i64 q, .int .i64 0, .bool false, .pointer (some ⟨b, 0, none⟩), .int .i64 q, .pointer (some ⟨b, 0, none⟩), .pointer (some ⟨b, 1, none⟩), .pointer (some ⟨b, 1 + q * 3, none⟩), .pointer (some ⟨b, 1 + q * 3, none⟩), .int .i64 ((c.headD 0 : Nat) : Int), u20, u21, u22, u23, u24, u25, u26, u27, u28, u29, u30, u31, u32, u33, u34, u35, u36, u37, u38, undef, undef, undef, undef], defers := [] }
def rmu (c : List Nat) (a' : Act) : Nat := c.length - ixOf c (intOf (a'.tmps.getD 8 undef)).toNat

set_option maxRecDepth 100000 in
set_option maxHeartbeats 400000 in
theorem c_remove_range {w : World} {b : Nat} {Vs : List (List Int)} {fr : Nat} (h : PA w b Vs fr) (q x : Int) (hq : q < 0 ∨ (Vs.length : Int) ≤ q) :
    Calls Try.prog 29 #[.pointer (some ⟨b, 0, none⟩), .int .i64 q, .int .i64 x] w fun e w' => e = .returned (.bool false) ∧ w = w' := by
  obtain ⟨L, P, C, V, h⟩ := h
  have CL := Lib.hid (c_look_no h.H (by have := h.q1; omega) q hq)
  clear h hq
  go_enter Try.func29, Try.ntmps29
  go_wp2
  go_step3
  go_wp2_with (go_at_call 46; refine Calls.mono CL.out ?_; rintro e w' ⟨rfl, rfl⟩)
  try rw [Exit.noGoto_ret]
  go_ret
  exact ⟨rfl, rfl⟩

set_option maxRecDepth 100000 in
set_option maxHeartbeats 1000000 in
theorem c_remove_no {w : World} {b : Nat} {Vs : List (List Int)} {fr : Nat} (h : PA w b Vs fr) (q : Nat) (x : Int) (l : List Int) (hq : Vs[q]? = some l) (hx : ∀ y ∈ l, y ≠ x) :
    Calls Try.prog 29 #[.pointer (some ⟨b, 0, none⟩), .int .i64 q, .int .i64 x] w fun e w' => e = .returned (.bool false) ∧ Drew w w' := by
  obtain ⟨L, P, C, V, h⟩ := h
  have hql := (List.getElem?_eq_some_iff.1 hq).1
  have CL := Lib.hid (c_look h.H (by have := h.q1; omega) q (by omega) (by omega))
  have hv := h.val q _ hq
  have hq65 : q < 65 := by omega
  have hq2 : (q : Int) < 65 := by omega
  have c0 := h.H.l0 q _ (h.S.line q (by omega))
  have hn := h.S.nd q hq65
  have hr := h.S.rng q hq65
  have hk := h.S.lk q hq65
  have hcl := h.clen q hq65
  have hlen := h.S.len q hq65
  rw [hv.1] at hk hlen
  simp only [lnOf] at c0
  have HP := Lib.hid h.H
  generalize C q = c at c0 hn hr hk hcl hlen
  generalize hh0 : c.headD 0 = h0 at c0
  have HH0 := Lib.hid hh0
  clear hh0
  have HN := Lib.hid hn
  have HR := Lib.hid hr
  have HLE := Lib.hid hlen
  have HXX := Lib.hid hx
  have P0 := Lib.hid (fun j p v (a : c[j]? = some p) (d : l[j]? = some v) => hk.get j p v a d)
  clear h hq hv hn hr hk hlen hx
  go_enter Try.func29, Try.ntmps29
  go_wp2
  refine wp_scope_jumps 0 (RJ w b q x c c.length) (fun a' _ => rmu c a') rfl ?_ ?_
  · go_wp2_with (go_at_call 46; refine Calls.mono CL.out ?_; rintro e w' ⟨rfl, rfl⟩)
    go_region
    go_wp2
    by_cases hlt : 0 < c.length
    · have hjv : 0 < l.length := by have := HLE.out; omega
      have hjl : 0 < c.length := by have := HLE.out; omega
      have hp1 := HR.out c[0] (List.getElem_mem hjl)
      have hP := P0.out 0 c[0] l[0] (List.getElem?_eq_getElem hjl) (List.getElem?_eq_getElem hjv)
      have p0 := HP.out.p0 _ _ hP
      have p1 := HP.out.p1 _ _ hP
      simp only at p0 p1
      have hne : (l[0] != x) = true := bne_iff_ne.2 (HXX.out _ (List.getElem_mem hjv))
      have HT := Lib.hid (take_at c 0 hjl)
      have hix := ixOf_at c 0 HN.out (fun p hp => (HR.out p hp).1) (by omega)
      have hix1 := ixOf_at c (0 + 1) HN.out (fun p hp => (HR.out p hp).1) (by omega)
      have hd := head_at c 0 hjl
      rw [hd] at hix
      rw [List.drop_zero] at hd
      have HD := Lib.hid hd
      have e0 : h0 = c[0] := HH0.out.symm.trans hd
      subst e0
      clear hd
      generalize c[0] = p at p0 p1 hp1 hix HT HD
      generalize l[0] = v at p0 hne
      have hz : ((p : Int) == 0) = false := beq_eq_false_iff_ne.2 (by omega)
      have hp2 : (p : Int) < 1025 := by omega
      have hp0 : 0 ≤ (p : Int) := by omega
      generalize hnx : (c.drop (0 + 1)).headD 0 = nx at p1 hix1
      have HNX := Lib.hid hnx
      have HIX := Lib.hid hix
      have HIX1 := Lib.hid hix1
      clear hP hnx hix hix1
      go_step3
      go_wp2
      go_region
      go_wp2
      go_step3
      exact ⟨rfl, 0 + 1, _, _, _, _, _, _, _, _, _, _, _, _, _, _, _, _, _, _, _, by omega, ⟨2, rfl⟩, by rw [HT.out, HNX.out, HD.out]⟩
    · have hd := head_no c 0 (by omega)
      rw [List.drop_zero] at hd
      have e0 : h0 = 0 := HH0.out.symm.trans hd
      subst e0
      clear hd
      go_step3
      go_wp2
      try simp only [Exit.jump]
      go_ret
      exact ⟨rfl, ⟨_, rfl⟩⟩
  · rintro a' w' ⟨j, u20, u21, u22, u23, u24, u25, u26, u27, u28, u29, u30, u31, u32, u33, u34, u35, u36, u37, u38, hj, ⟨nd, rfl⟩, rfl⟩
    by_cases hlt : j < c.length
    · have hjv : j < l.length := by have := HLE.out; omega
      have hjl : j < c.length := by have := HLE.out; omega
      have hp1 := HR.out c[j] (List.getElem_mem hjl)
      have hP := P0.out j c[j] l[j] (List.getElem?_eq_getElem hjl) (List.getElem?_eq_getElem hjv)
      have p0 := HP.out.p0 _ _ hP
      have p1 := HP.out.p1 _ _ hP
      simp only at p0 p1
      have hne : (l[j] != x) = true := bne_iff_ne.2 (HXX.out _ (List.getElem_mem hjv))
      have HT := Lib.hid (take_at c j hjl)
      have hix := ixOf_at c j HN.out (fun p hp => (HR.out p hp).1) (by omega)
      have hix1 := ixOf_at c (j + 1) HN.out (fun p hp => (HR.out p hp).1) (by omega)
      have hd := head_at c j hjl
      rw [hd] at hix
      simp only [hd]
      generalize (c.take j).getLastD 0 = bf
      clear hd
      generalize c[j] = p at p0 p1 hp1 hix HT
      generalize l[j] = v at p0 hne
      have hz : ((p : Int) == 0) = false := beq_eq_false_iff_ne.2 (by omega)
      have hp2 : (p : Int) < 1025 := by omega
      have hp0 : 0 ≤ (p : Int) := by omega
      generalize hnx : (c.drop (j + 1)).headD 0 = nx at p1 hix1
      have HNX := Lib.hid hnx
      have HIX := Lib.hid hix
      have HIX1 := Lib.hid hix1
      clear hP hnx hix hix1
      go_wp2
      go_region
      go_wp2
      go_step3
      refine ⟨rfl, ⟨j + 1, _, _, _, _, _, _, _, _, _, _, _, _, _, _, _, _, _, _, _, by omega, ⟨nd + 1, rfl⟩, by rw [HT.out, HNX.out]⟩, ?_⟩
      show c.length - ixOf c ((nx : Int)).toNat < c.length - ixOf c ((p : Int)).toNat
      rw [Int.toNat_natCast, Int.toNat_natCast, HIX.out, HIX1.out]
      omega
    · have hd := head_no c j (by omega)
      simp only [hd]
      generalize (c.take j).getLastD 0 = bf
      clear hd
      go_wp2
      try simp only [Exit.jump]
      go_ret
      exact ⟨rfl, ⟨_, rfl⟩⟩

set_option maxRecDepth 100000 in
set_option maxHeartbeats 1000000 in
theorem c_remove_yes {w : World} {b : Nat} {Vs : List (List Int)} {fr : Nat} (h : PA w b Vs fr) (q : Nat) (x : Int) (l : List Int) (hq : Vs[q]? = some l) (i : Nat) (hxi : l[i]? = some x) (hx0 : ∀ y ∈ l.take i, y ≠ x) :
    Calls Try.prog 29 #[.pointer (some ⟨b, 0, none⟩), .int .i64 q, .int .i64 x] w fun e w' => e = .returned (.bool true) ∧ PPost w b (Vs.set q (l.take i ++ l.drop (i + 1))) (fr + 1) w' := by
  have hx : i < l.length ∧ ∀ y ∈ l.take i, y ≠ x := ⟨(List.getElem?_eq_some_iff.1 hxi).1, hx0⟩
  have HXI := Lib.hid hxi
  have hi := hx.1
  clear hxi hx0
  obtain ⟨L, P, C, V, h⟩ := h
  have hql := (List.getElem?_eq_some_iff.1 hq).1
  have CL := Lib.hid (c_look h.H (by have := h.q1; omega) q (by omega) (by omega))
  have hv := h.val q _ hq
  have hq65 : q < 65 := by omega
  have hq2 : (q : Int) < 65 := by omega
  have c0 := h.H.l0 q _ (h.S.line q (by omega))
  have hn := h.S.nd q hq65
  have hr := h.S.rng q hq65
  have hk := h.S.lk q hq65
  have hcl := h.clen q hq65
  have hlen := h.S.len q hq65
  rw [hv.1] at hk hlen
  simp only [lnOf] at c0
  have cR := fun n => c_rel_at (h.drewN n) q l hq i hi
  have HP := Lib.hid h.H
  generalize C q = c at c0 hn hr hk hcl hlen cR
  generalize hh0 : c.headD 0 = h0 at c0
  have HH0 := Lib.hid hh0
  clear hh0
  have HN := Lib.hid hn
  have HR := Lib.hid hr
  have HLE := Lib.hid hlen
  have HXX := Lib.hid hx
  have P0 := Lib.hid (fun j p v (a : c[j]? = some p) (d : l[j]? = some v) => hk.get j p v a d)
  have CR := Lib.hid cR
  clear cR
  clear h hq hv hn hr hk hlen hx
  go_enter Try.func29, Try.ntmps29
  go_wp2
  refine wp_scope_jumps 0 (RJ w b q x c i) (fun a' _ => rmu c a') rfl ?_ ?_
  · go_wp2_with (go_at_call 46; refine Calls.mono CL.out ?_; rintro e w' ⟨rfl, rfl⟩)
    go_region
    go_wp2
    by_cases hlt : 0 < i
    · have hjv : 0 < l.length := by have := HLE.out; omega
      have hjl : 0 < c.length := by have := HLE.out; omega
      have hp1 := HR.out c[0] (List.getElem_mem hjl)
      have hP := P0.out 0 c[0] l[0] (List.getElem?_eq_getElem hjl) (List.getElem?_eq_getElem hjv)
      have p0 := HP.out.p0 _ _ hP
      have p1 := HP.out.p1 _ _ hP
      simp only at p0 p1
      have hne : (l[0] != x) = true := bne_iff_ne.2 (HXX.out.2 _ (List.mem_of_getElem? (i := 0) (by rw [List.getElem?_take_of_lt hlt]; exact List.getElem?_eq_getElem hjv)))
      have HT := Lib.hid (take_at c 0 hjl)
      have hix := ixOf_at c 0 HN.out (fun p hp => (HR.out p hp).1) (by omega)
      have hix1 := ixOf_at c (0 + 1) HN.out (fun p hp => (HR.out p hp).1) (by omega)
      have hd := head_at c 0 hjl
      rw [hd] at hix
      rw [List.drop_zero] at hd
      have HD := Lib.hid hd
      have e0 : h0 = c[0] := HH0.out.symm.trans hd
      subst e0
      clear hd
      generalize c[0] = p at p0 p1 hp1 hix HT HD
      generalize l[0] = v at p0 hne
      have hz : ((p : Int) == 0) = false := beq_eq_false_iff_ne.2 (by omega)
      have hp2 : (p : Int) < 1025 := by omega
      have hp0 : 0 ≤ (p : Int) := by omega
      generalize hnx : (c.drop (0 + 1)).headD 0 = nx at p1 hix1
      have HNX := Lib.hid hnx
      have HIX := Lib.hid hix
      have HIX1 := Lib.hid hix1
      clear hP hnx hix hix1
      go_step3
      go_wp2
      go_region
      go_wp2
      go_step3
      exact ⟨rfl, 0 + 1, _, _, _, _, _, _, _, _, _, _, _, _, _, _, _, _, _, _, _, by omega, ⟨2, rfl⟩, by rw [HT.out, HNX.out, HD.out]⟩
    · obtain rfl : 0 = i := by omega
      have hjv := HXX.out.1
      have hjl : 0 < c.length := by have := HLE.out; omega
      have hp1 := HR.out c[0] (List.getElem_mem hjl)
      have hP := P0.out 0 c[0] x (List.getElem?_eq_getElem hjl) HXI.out
      have p0 := HP.out.p0 _ _ hP
      simp only at p0
      have hne : (x != x) = false := by simp
      have hd := head_at c 0 hjl
      rw [List.drop_zero] at hd
      have e0 : h0 = c[0] := HH0.out.symm.trans hd
      subst e0
      have CRn := CR.out 1
      rw [show (((c.take 0).getLastD 0 : Nat) : Int) = 0 from rfl] at CRn
      have CRn := Lib.hid CRn
      clear hd hP
      generalize c[0] = p at p0 hp1
      have hz : ((p : Int) == 0) = false := beq_eq_false_iff_ne.2 (by omega)
      have hp2 : (p : Int) < 1025 := by omega
      have hp0 : 0 ≤ (p : Int) := by omega
      go_step3
      go_wp2_with fail
      refine Calls.mono CRn.out ?_
      rintro e w2 ⟨rfl, hA2, ho⟩
      go_wp2
      try simp only [Exit.jump]
      go_ret
      exact ⟨rfl, hA2, ((Only.refl _ w).drewN _).trans ho⟩
  · rintro a' w' ⟨j, u20, u21, u22, u23, u24, u25, u26, u27, u28, u29, u30, u31, u32, u33, u34, u35, u36, u37, u38, hj, ⟨nd, rfl⟩, rfl⟩
    by_cases hlt : j < i
    · have hjv : j < l.length := by have := HLE.out; omega
      have hjl : j < c.length := by have := HLE.out; omega
      have hp1 := HR.out c[j] (List.getElem_mem hjl)
      have hP := P0.out j c[j] l[j] (List.getElem?_eq_getElem hjl) (List.getElem?_eq_getElem hjv)
      have p0 := HP.out.p0 _ _ hP
      have p1 := HP.out.p1 _ _ hP
      simp only at p0 p1
      have hne : (l[j] != x) = true := bne_iff_ne.2 (HXX.out.2 _ (List.mem_of_getElem? (i := j) (by rw [List.getElem?_take_of_lt hlt]; exact List.getElem?_eq_getElem hjv)))
      have HT := Lib.hid (take_at c j hjl)
      have hix := ixOf_at c j HN.out (fun p hp => (HR.out p hp).1) (by omega)
      have hix1 := ixOf_at c (j + 1) HN.out (fun p hp => (HR.out p hp).1) (by omega)
      have hd := head_at c j hjl
      rw [hd] at hix
      simp only [hd]
      generalize (c.take j).getLastD 0 = bf
      clear hd
      generalize c[j] = p at p0 p1 hp1 hix HT
      generalize l[j] = v at p0 hne
      have hz : ((p : Int) == 0) = false := beq_eq_false_iff_ne.2 (by omega)
      have hp2 : (p : Int) < 1025 := by omega
      have hp0 : 0 ≤ (p : Int) := by omega
      generalize hnx : (c.drop (j + 1)).headD 0 = nx at p1 hix1
      have HNX := Lib.hid hnx
      have HIX := Lib.hid hix
      have HIX1 := Lib.hid hix1
      clear hP hnx hix hix1
      go_wp2
      go_region
      go_wp2
      go_step3
      refine ⟨rfl, ⟨j + 1, _, _, _, _, _, _, _, _, _, _, _, _, _, _, _, _, _, _, _, by omega, ⟨nd + 1, rfl⟩, by rw [HT.out, HNX.out]⟩, ?_⟩
      show c.length - ixOf c ((nx : Int)).toNat < c.length - ixOf c ((p : Int)).toNat
      rw [Int.toNat_natCast, Int.toNat_natCast, HIX.out, HIX1.out]
      omega
    · obtain rfl : j = i := by omega
      have hjv := HXX.out.1
      have hjl : j < c.length := by have := HLE.out; omega
      have hp1 := HR.out c[j] (List.getElem_mem hjl)
      have hP := P0.out j c[j] x (List.getElem?_eq_getElem hjl) HXI.out
      have p0 := HP.out.p0 _ _ hP
      simp only at p0
      have hne : (x != x) = false := by simp
      have hd := head_at c j hjl
      simp only [hd]
      have CRn := CR.out nd
      generalize (c.take j).getLastD 0 = bf at CRn
      have CRn := Lib.hid CRn
      clear hd hP
      generalize c[j] = p at p0 hp1
      have hz : ((p : Int) == 0) = false := beq_eq_false_iff_ne.2 (by omega)
      have hp2 : (p : Int) < 1025 := by omega
      have hp0 : 0 ≤ (p : Int) := by omega
      go_wp2_with fail
      refine Calls.mono CRn.out ?_
      rintro e w2 ⟨rfl, hA2, ho⟩
      go_wp2
      try simp only [Exit.jump]
      go_ret
      exact ⟨rfl, hA2, ((Only.refl _ w).drewN _).trans ho⟩
end Go.Proofs.Ytgigcjhggpknnaa

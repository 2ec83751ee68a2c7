/- The contracts of queue's List. -/
import Derived.Test.YtgigcjhggpknnaaQf
import Derived.Test.YtgigcjhggpknnaaI
namespace Go.Proofs.Ytgigcjhggpknnaa
open Go.RowKit

/-- The place at k, 0 behind the last one. -/
def hdN (c : List Nat) (k : Nat) : Nat := (c.drop k).headD 0

set_option maxHeartbeats 400000 in
theorem c_list_range {w : World} {b : Nat} {Vs : List (List Int)} {fr : Nat} (h : PA w b Vs fr) (q : Int) (hq : q < 0 ∨ (Vs.length : Int) ≤ q) :
    Calls Try.prog 44 #[.pointer (some ⟨b, 0, none⟩), .int .i64 q] w (IntsPost w []) := by
  obtain ⟨L, P, C, V, h⟩ := h
  have CL := Lib.hid (c_look_no h.H (by have := h.q1; omega) q hq)
  clear h hq
  go_enter Try.func44, Try.ntmps44
  go_wp2_with (go_at_call 46; refine Calls.mono CL.out ?_; rintro e w' ⟨rfl, rfl⟩)
  go_ret
  exact IntsPost.empty _

set_option maxRecDepth 100000 in
set_option maxHeartbeats 1000000 in
theorem c_list {w : World} {b : Nat} {Vs : List (List Int)} {fr : Nat} (h : PA w b Vs fr) (q : Nat) (l : List Int) (hq : Vs[q]? = some l) :
    Calls Try.prog 44 #[.pointer (some ⟨b, 0, none⟩), .int .i64 q] w (IntsPost w l) := by
  obtain ⟨L, P, C, V, h⟩ := h
  have hql := (List.getElem?_eq_some_iff.1 hq).1
  have CL := Lib.hid (c_look h.H (by have := h.q1; omega) q (by omega) (by omega))
  have hv := h.val q _ hq
  have hq65 : q < 65 := by omega
  have c0 := h.H.l0 q _ (h.S.line q (by omega))
  have hr := h.S.rng q hq65
  have hn := h.S.nd q hq65
  have hk := h.S.lk q hq65
  have hcl := h.clen q hq65
  have hlen := h.S.len q hq65
  rw [hv.1] at hk hlen
  simp only [lnOf] at c0
  have HP := Lib.hid h.H
  generalize C q = c at c0 hr hn hk hcl hlen
  have h00 : c.headD 0 = hdN c 0 := rfl
  rw [h00] at c0
  have P0 := Lib.hid (fun j p v (a : c[j]? = some p) (d : l[j]? = some v) => hk.get j p v a d)
  have HR := Lib.hid hr
  have HN0 := Lib.hid hn
  have HLE := Lib.hid hlen
  clear h hq hv hr hn hk hlen h00
  go_enter Try.func44, Try.ntmps44
  go_wp2_with (go_at_call 46; refine Calls.mono CL.out ?_; rintro e w' ⟨rfl, rfl⟩)
  go_loopw [5, 6] (fun v a wr => ∃ k : Nat, k ≤ c.length ∧ a = .int .i64 (hdN c k : Nat) ∧ wr.ownsRow w.heap.size 3 1 v (l.take k).length ((l.take k).map (Value.int .i64)) ∧ Below w.heap.size w wr) (fun _ a _ => c.length - ixOf c (intOf a).toNat)
  case atStart => exact ⟨0, Nat.zero_le _, rfl, World.ownsRow_nil _ _ _ _, Below.refl _ _⟩
  case round =>
    obtain ⟨k, hk, rfl, hown, hb⟩ := hrel
    clear c0
    have Hr := HP.out.below hb
    have htl : (l.take k).length ≤ 1024 := by rw [List.length_take]; have := HLE.out; omega
    have hsz := hb.size
    by_cases hlt : k < c.length
    · have hjv : k < l.length := by have := HLE.out; omega
      have hp1 := HR.out c[k] (List.getElem_mem hlt)
      have hP := P0.out k c[k] l[k] (List.getElem?_eq_getElem hlt) (List.getElem?_eq_getElem hjv)
      have HN := Lib.hid (take_next l k _ (List.getElem?_eq_getElem hjv))
      have hd : hdN c k = c[k] := head_at c k hlt
      rw [show (c.drop (k + 1)).headD 0 = hdN c (k + 1) from rfl] at hP
      have hix : ixOf c c[k] = k := by
        have := ixOf_at c k HN0.out (fun p hp => (HR.out p hp).1) (by omega)
        rwa [head_at c k hlt] at this
      have hix1 : ixOf c (hdN c (k + 1)) = k + 1 := ixOf_at c (k + 1) HN0.out (fun p hp => (HR.out p hp).1) (by omega)
      rw [hd]
      clear hd
      generalize c[k] = p at hP hp1 hix
      generalize l[k] = v at hP HN
      generalize hnx : hdN c (k + 1) = nx at hP hix1
      have p0 := Hr.p0 _ _ hP
      have p1 := Hr.p1 _ _ hP
      simp only at p0 p1
      have HNX := Lib.hid hnx
      have HQ := Lib.hid hP
      have HIX := Lib.hid hix
      have HIX1 := Lib.hid hix1
      have hz : ((p : Int) != 0) = true := bne_iff_ne.2 (by omega)
      have hp2 : (p : Int) < 1025 := by omega
      have hp0 : 0 ≤ (p : Int) := by omega
      clear hP hnx hix hix1
      go_wp2_with (at_builtin; refine wpList_app ei_int rfl (.tmp 27) (.tmp 35) rfl _ _ rfl (hown.alloc _) rfl (RD.one (by simp)) (by simp [Value.oneCell']) (by omega) (by simp; omega) ?_; intro v' w1 hown1 hb1; have hb2 := (up_trans hb (up_alloc _ _)).trans hb1; have p1 := (HP.out.below hb2).p1 _ _ HQ.out)
      go_roundw
      case rel => exact ⟨k + 1, by omega, by rw [HNX.out], by rw [HN.out, List.map_append, List.length_append]; exact hown1, hb2⟩
      case measure =>
        simp [intOf, HIX.out, HIX1.out]
        omega
    · obtain rfl : k = c.length := by omega
      have hd : hdN c c.length = 0 := head_no c _ (Nat.le_refl _)
      rw [hd]
      clear hd
      go_wp2
      go_ret
      rw [List.take_of_length_le (by have := HLE.out; omega)] at hown
      exact IntsPost.of hown hb
end Go.Proofs.Ytgigcjhggpknnaa

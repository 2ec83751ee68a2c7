/- The contracts of the document's New, First, List and Pop. -/
import Derived.Test.YthakcjabeekihaaQr
namespace Go.Proofs.Ythakcjabeekihaa
open Go.RowKit

def RQPost1 (w : World) (pl : Nat → Prop) (room : Int) (D : List DQ) (er : Int) (e : Ending) (w' : World) : Prop :=
  ∃ A c, e = .returned (.tuple #[.agg #[.int .i64 room, .slice A D.length c], .int .i64 er]) ∧ RQ w' pl D A c ∧ Below w.heap.size w w'
def noD (n : Nat) : List DQ := List.replicate n (none, 0, [])
theorem lists_made (n : Nat) : (madeCells (Value.slice none 0 0).cells (n * 1)).toList = (noD n).map sliceV := by
  rw [made_list _ 1 rfl]
  unfold noD
  rw [List.map_replicate]
  induction n with
  | zero => rfl
  | succ n ih => rw [List.replicate_succ, List.flatten_cons, ih]; rfl

set_option maxHeartbeats 400000 in
theorem c_rnew_no (queues room : Int) (h : queues < 1 ∨ 64 < queues ∨ room < 0 ∨ 1024 < room) (w : World) :
    Calls Try.prog 8 #[.int .i64 queues, .int .i64 room] w fun e w' => e = .returned (.tuple #[.agg #[.int .i64 0, .slice none 0 0], .int .i64 1]) ∧ Below w.heap.size w w' := by
  have hh : ¬ (1 ≤ queues ∧ queues ≤ 64 ∧ 0 ≤ room ∧ room ≤ 1024) := by omega
  have H := Lib.hid hh
  clear h hh
  have up : Below w.heap.size w (w.alloc (.cells #[.int .i64 0, .slice none 0 0] 30)) := up_alloc w _
  by_cases a : queues < 1
  · go_enter Try.func8, Try.ntmps8
    go_wp2
    exact bodyPost_ret (v := .tuple #[.agg #[.int .i64 0, .slice none 0 0], .int .i64 1]) (by simp [results, Try.results8, go_sem]) rfl ⟨rfl, up⟩
  · by_cases b : 64 < queues
    · go_enter Try.func8, Try.ntmps8
      go_wp2
      exact bodyPost_ret (v := .tuple #[.agg #[.int .i64 0, .slice none 0 0], .int .i64 1]) (by simp [results, Try.results8, go_sem]) rfl ⟨rfl, up⟩
    · by_cases c : room < 0
      · go_enter Try.func8, Try.ntmps8
        go_wp2
        exact bodyPost_ret (v := .tuple #[.agg #[.int .i64 0, .slice none 0 0], .int .i64 1]) (by simp [results, Try.results8, go_sem]) rfl ⟨rfl, up⟩
      · have d : 1024 < room := by have := H.out; omega
        go_enter Try.func8, Try.ntmps8
        go_wp2
        exact bodyPost_ret (v := .tuple #[.agg #[.int .i64 0, .slice none 0 0], .int .i64 1]) (by simp [results, Try.results8, go_sem]) rfl ⟨rfl, up⟩

set_option maxHeartbeats 400000 in
theorem c_rnew (n room : Nat) (h0 : 1 ≤ n) (h1 : n ≤ 64) (r1 : room ≤ 1024) (pl : Nat → Prop) (w : World) (hq : ∀ b, w.heap.size ≤ b → pl b) :
    Calls Try.prog 8 #[.int .i64 (n : Int), .int .i64 (room : Int)] w (RQPost1 w pl room (noD n) 0) := by
  have hmk := fun W => run_mk ei_lists n (by omega) W
  have hS := lists_made n
  obtain ⟨cs, hcs⟩ : ∃ cs, cs = madeCells (Value.slice none 0 0).cells (n * 1) := ⟨_, rfl⟩
  rw [← hcs] at hmk hS
  have HS := Lib.hid hS
  clear hcs hS
  go_enter Try.func8, Try.ntmps8
  go_wp2
  refine bodyPost_ret (v := .tuple #[.agg #[.int .i64 room, .slice (some ⟨w.heap.size + 1, 0, none⟩) n n], .int .i64 0]) (by simp [results, Try.results8, go_sem]) rfl ?_
  have up := up_trans (up_alloc w (.cells #[.int .i64 room, .slice (some ⟨w.heap.size + 1, 0, none⟩) n n] 30)) (up_alloc _ (.cells cs 59))
  have hB : Blk ((w.alloc (.cells #[.int .i64 room, .slice (some ⟨w.heap.size + 1, 0, none⟩) n n] 30)).alloc (.cells cs 59)) (w.heap.size + 1) ((noD n).map sliceV) 59 := by
    rw [← HS.out]
    have hb := Blk.new (w.alloc (.cells #[.int .i64 room, .slice (some ⟨w.heap.size + 1, 0, none⟩) n n] 30)) cs.toList 59
    rw [Array.toArray_toList] at hb
    simpa using hb
  refine ⟨some ⟨w.heap.size + 1, 0, none⟩, n, by simp [noD], ⟨RD.of_blk hB (by simp [noD]) (hq _ (by omega)), ?_, by simp [noD], by unfold maxLen; omega, by simp [noD]; omega, by simp [noD]; omega⟩, up⟩
  intro d hd
  rw [List.eq_of_mem_replicate hd]
  exact ⟨RD.nil _ _ _ _, Nat.le_refl _, by show 0 ≤ maxLen; unfold maxLen; omega, by simp⟩

set_option maxHeartbeats 400000 in
theorem c_rfirst_range {w : World} {A : Option Addr} {n c : Nat} (room q : Int) (hq : q < 0 ∨ (n : Int) ≤ q) :
    Calls Try.prog 25 #[.agg #[.int .i64 room, .slice A n c], .int .i64 q] w fun e w' => e = .returned (.tuple #[.int .i64 0, .int .i64 8]) ∧ Below w.heap.size w w' := by
  have HQ := Lib.hid hq
  clear hq
  go_enter Try.func25, Try.ntmps25
  go_wp2_with (go_at_call 23; refine (c_is_no _ _ _ _ _ HQ.out _).mono ?_; rintro e w' ⟨rfl, hb⟩)
  go_ret2
  exact ⟨rfl, up_trans (up_alloc _ _) hb⟩

set_option maxHeartbeats 400000 in
theorem c_rfirst_none {w : World} {pl : Nat → Prop} {D : List DQ} {A : Option Addr} {c : Nat} (h0 : RQ w pl D A c) (room : Int) (q : Nat) (d : DQ) (hd : D[q]? = some d) (he : d.2.2 = []) :
    Calls Try.prog 25 #[.agg #[.int .i64 room, .slice A D.length c], .int .i64 q] w fun e w' => e = .returned (.tuple #[.int .i64 0, .int .i64 11]) ∧ Below w.heap.size w w' := by
  have hb0 := up_alloc w (.cells #[.int .i64 room, .slice A D.length c] 30)
  have hB := box2c w (.int .i64 room) (.slice A D.length c) 30
  generalize hw1 : w.alloc (.cells #[.int .i64 room, .slice A D.length c] 30) = w1 at hb0 hB
  have HW := Lib.hid hw1
  have h := h0.below hb0
  have hz := hB.lt
  have hql := (List.getElem?_eq_some_iff.1 hd).1
  have hq2 := h0.q2
  have hq0 : (0 : Int) ≤ q := by omega
  obtain ⟨b, o, rfl, _, hlb, hA⟩ := h.at_
  have hA := hA q d hd
  simp only [sliceV, he, List.length_nil] at hA
  clear hw1 h0 h hd he
  go_enter Try.func25, Try.ntmps25
  go_wp2_with fail
  rw [HW.out]
  refine (c_is _ _ _ _ q hql _).mono ?_
  rintro e w' ⟨rfl, hb⟩
  have hB2 := hB.up hb hz
  have c1 := hB2.cell 1 _ rfl
  have hA2 := (hb.cell (p := ⟨b, o + q, none⟩) hlb).trans hA
  clear hA
  go_wp2_with fail
  go_ret2
  exact ⟨rfl, up_trans hb0 hb⟩

set_option maxHeartbeats 400000 in
theorem c_rfirst_ok {w : World} {pl : Nat → Prop} {D : List DQ} {A : Option Addr} {c : Nat} (h0 : RQ w pl D A c) (room : Int) (q : Nat) (d : DQ) (hd : D[q]? = some d) (x : Int) (l : List Int) (he : d.2.2 = x :: l) :
    Calls Try.prog 25 #[.agg #[.int .i64 room, .slice A D.length c], .int .i64 q] w fun e w' => e = .returned (.tuple #[.int .i64 x, .int .i64 0]) ∧ Below w.heap.size w w' := by
  have hb0 := up_alloc w (.cells #[.int .i64 room, .slice A D.length c] 30)
  have hB := box2c w (.int .i64 room) (.slice A D.length c) 30
  generalize hw1 : w.alloc (.cells #[.int .i64 room, .slice A D.length c] 30) = w1 at hb0 hB
  have HW := Lib.hid hw1
  have h := h0.below hb0
  have hz := hB.lt
  have hql := (List.getElem?_eq_some_iff.1 hd).1
  have hq2 := h0.q2
  have hq0 : (0 : Int) ≤ q := by omega
  obtain ⟨b, o, rfl, _, hlb, hA⟩ := h.at_
  have hA := hA q d hd
  have hok := h.inn d (List.mem_of_getElem? hd)
  have hrd := hok.rd
  have hfew := hok.few
  obtain ⟨dA, dc, dl⟩ := d
  obtain rfl : dl = x :: l := he
  obtain ⟨b2, o2, e2, _, hlb2, hA2⟩ := hrd.at_ (by simp)
  obtain rfl : dA = some ⟨b2, o2, none⟩ := e2
  have hx := hA2 0 (.int .i64 x) rfl
  simp only [sliceV, List.length_cons] at hA hfew
  rw [Nat.add_zero] at hx
  have hz1 : (((l.length + 1 : Nat) : Int) == 0) = false := beq_eq_false_iff_ne.2 (by omega)
  clear hw1 h0 h hd hok hrd hA2
  go_enter Try.func25, Try.ntmps25
  go_wp2_with fail
  rw [HW.out]
  refine (c_is _ _ _ _ q hql _).mono ?_
  rintro e w' ⟨rfl, hb⟩
  have hB2 := hB.up hb hz
  have c1 := hB2.cell 1 _ rfl
  have hA2 := (hb.cell (p := ⟨b, o + q, none⟩) hlb).trans hA
  have hx2 := (hb.cell (p := ⟨b2, o2, none⟩) hlb2).trans hx
  clear hA hx
  go_wp2_with fail
  go_ret2
  exact ⟨rfl, up_trans hb0 hb⟩

set_option maxHeartbeats 400000 in
theorem c_rlist_range {w : World} {A : Option Addr} {n c : Nat} (room q : Int) (hq : q < 0 ∨ (n : Int) ≤ q) :
    Calls Try.prog 29 #[.agg #[.int .i64 room, .slice A n c], .int .i64 q] w fun e w' => e = .returned (.slice none 0 0) ∧ Below w.heap.size w w' := by
  have HQ := Lib.hid hq
  clear hq
  go_enter Try.func29, Try.ntmps29
  go_wp2_with (go_at_call 23; refine (c_is_no _ _ _ _ _ HQ.out _).mono ?_; rintro e w' ⟨rfl, hb⟩)
  go_ret
  exact ⟨rfl, up_trans (up_alloc _ _) hb⟩

set_option maxHeartbeats 400000 in
theorem c_rlist {w : World} {pl : Nat → Prop} {D : List DQ} {A : Option Addr} {c : Nat} (h0 : RQ w pl D A c) (room : Int) (q : Nat) (d : DQ) (hd : D[q]? = some d) :
    Calls Try.prog 29 #[.agg #[.int .i64 room, .slice A D.length c], .int .i64 q] w fun e w' => e = .returned (.slice d.1 d.2.2.length d.2.1) ∧ Below w.heap.size w w' := by
  have hb0 := up_alloc w (.cells #[.int .i64 room, .slice A D.length c] 30)
  have hB := box2c w (.int .i64 room) (.slice A D.length c) 30
  generalize hw1 : w.alloc (.cells #[.int .i64 room, .slice A D.length c] 30) = w1 at hb0 hB
  have HW := Lib.hid hw1
  have h := h0.below hb0
  have hz := hB.lt
  have hql := (List.getElem?_eq_some_iff.1 hd).1
  have hq2 := h0.q2
  have hq0 : (0 : Int) ≤ q := by omega
  obtain ⟨b, o, rfl, _, hlb, hA⟩ := h.at_
  have hA := hA q d hd
  simp only [sliceV] at hA
  clear hw1 h0 h hd
  go_enter Try.func29, Try.ntmps29
  go_wp2_with fail
  rw [HW.out]
  refine (c_is _ _ _ _ q hql _).mono ?_
  rintro e w' ⟨rfl, hb⟩
  have hB2 := hB.up hb hz
  have c1 := hB2.cell 1 _ rfl
  have hA2 := (hb.cell (p := ⟨b, o + q, none⟩) hlb).trans hA
  clear hA
  go_wp2_with fail
  go_ret
  exact ⟨rfl, up_trans hb0 hb⟩
end Go.Proofs.Ythakcjabeekihaa

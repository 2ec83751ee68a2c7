/- The document's pool in memory, and the contracts of its is, put, New, Free, First and List. -/
import Derived.Test.YthakcjabeekihaaQg
import Derived.Test.YthakcjabeekihaaNd
namespace Go.Proofs.Ythakcjabeekihaa
open Go.RowKit

/-- A queue's slice: its address, its capacity, its numbers. -/
abbrev DQ := Option Addr × Nat × List Int
def sliceV (d : DQ) : Value := .slice d.1 d.2.2.length d.2.1
def numsD (D : List DQ) : List (List Int) := D.map (·.2.2)
/-- A queue's slice reads so. -/
structure DOk (w : World) (pl : Nat → Prop) (d : DQ) : Prop where
  rd : RD w pl 1 d.1 d.2.2.length (d.2.2.map (Value.int .i64))
  cap : d.2.2.length ≤ d.2.1
  top : d.2.1 ≤ maxLen
  few : d.2.2.length ≤ 1024
theorem DOk.only {s : Nat → Prop} {w w' : World} {pl : Nat → Prop} {d : DQ} (h : DOk w pl d) (o : Only s w w') (hs : ∀ k, s k → ¬ pl k) : DOk w' pl d := ⟨h.rd.only o hs, h.cap, h.top, h.few⟩
theorem DOk.below {w w' : World} {pl : Nat → Prop} {d : DQ} (h : DOk w pl d) (o : Below w.heap.size w w') : DOk w' pl d := ⟨h.rd.below o, h.cap, h.top, h.few⟩
/-- The lists of a document's pool. -/
structure RQ (w : World) (pl : Nat → Prop) (D : List DQ) (A : Option Addr) (c : Nat) : Prop where
  out : RD w pl 1 A D.length (D.map sliceV)
  inn : ∀ d ∈ D, DOk w pl d
  c0 : D.length ≤ c
  c1 : c ≤ maxLen
  q1 : 1 ≤ D.length
  q2 : D.length ≤ 64
section
variable {w w' : World} {pl : Nat → Prop} {D : List DQ} {A : Option Addr} {c : Nat}
theorem RQ.only {s : Nat → Prop} (h : RQ w pl D A c) (o : Only s w w') (hs : ∀ k, s k → ¬ pl k) : RQ w' pl D A c := ⟨h.out.only o hs, fun d hd => (h.inn d hd).only o hs, h.c0, h.c1, h.q1, h.q2⟩
theorem RQ.below (h : RQ w pl D A c) (o : Below w.heap.size w w') : RQ w' pl D A c := ⟨h.out.below o, fun d hd => (h.inn d hd).below o, h.c0, h.c1, h.q1, h.q2⟩
theorem RD.lo' {size n : Nat} {B : Option Addr} {xs : List Value} {pl' : Nat → Prop} (h : RD w pl size B n xs) (hl : ∀ b, b < w.heap.size → pl b → pl' b) : RD w pl' size B n xs :=
  h.lt.lo fun b hb => hl b hb.2 hb.1
theorem RQ.lo {pl' : Nat → Prop} (h : RQ w pl D A c) (hl : ∀ b, b < w.heap.size → pl b → pl' b) : RQ w pl' D A c :=
  ⟨h.out.lo' hl, fun d hd => ⟨(h.inn d hd).rd.lo' hl, (h.inn d hd).cap, (h.inn d hd).top, (h.inn d hd).few⟩, h.c0, h.c1, h.q1, h.q2⟩
theorem RQ.at_ (h : RQ w pl D A c) : ∃ b o, A = some ⟨b, o, none⟩ ∧ pl b ∧ b < w.heap.size ∧ ∀ k d, D[k]? = some d → w.cell? ⟨b, o + k, none⟩ = some (sliceV d) := by
  obtain ⟨b, o, e, h1, h2, h3⟩ := h.out.at_ h.q1
  exact ⟨b, o, e, h1, h2, fun k d hk => h3 k _ (by simp [hk])⟩
end
theorem box2c (w : World) (a b : Value) (t : TypeId) : Blk (w.alloc (.cells #[a, b] t)) w.heap.size [a, b] t := Blk.new w [a, b] t

set_option maxHeartbeats 400000 in
theorem c_is (room : Int) (A : Option Addr) (n c : Nat) (q : Nat) (hq : q < n) (w : World) :
    Calls Try.prog 23 #[.agg #[.int .i64 room, .slice A n c], .int .i64 q] w fun e w' => e = .returned (.bool true) ∧ Below w.heap.size w w' := by
  go_enter Try.func23, Try.ntmps23
  go_wp2
  go_ret
  exact ⟨ret_bool (by simp), up_alloc _ _⟩
set_option maxHeartbeats 400000 in
theorem c_is_no (room : Int) (A : Option Addr) (n c : Nat) (q : Int) (hq : q < 0 ∨ (n : Int) ≤ q) (w : World) :
    Calls Try.prog 23 #[.agg #[.int .i64 room, .slice A n c], .int .i64 q] w fun e w' => e = .returned (.bool false) ∧ Below w.heap.size w w' := by
  rcases hq with hq | hq
  · have hd : decide (0 ≤ q) = false := decide_eq_false (by omega)
    go_enter Try.func23, Try.ntmps23
    go_wp2
    go_ret
    exact ⟨ret_bool (by simp), up_alloc _ _⟩
  · have hd : decide (q < (n : Int)) = false := decide_eq_false (by omega)
    go_enter Try.func23, Try.ntmps23
    go_wp2
    go_ret
    exact ⟨ret_bool (by simp), up_alloc _ _⟩

theorem sumlen_next (Vs : List (List Int)) (k : Nat) (l : List Int) (h : Vs[k]? = some l) : sumlen (Vs.take (k + 1)) = sumlen (Vs.take k) + l.length := by
  rw [take_next Vs k l h]
  simp [sumlen]
theorem sumlen_take (Vs : List (List Int)) (k : Nat) : sumlen (Vs.take k) ≤ sumlen Vs := by
  conv => rhs; rw [← List.take_append_drop k Vs]
  simp only [sumlen, List.map_append, List.sum_append]
  omega
set_option maxHeartbeats 400000 in
theorem c_rfree {w : World} {pl : Nat → Prop} {D : List DQ} {A : Option Addr} {c : Nat} (h0 : RQ w pl D A c) (room fr : Nat) (hr : fr + sumlen (numsD D) = room) (h1 : room ≤ 1024) :
    Calls Try.prog 27 #[.agg #[.int .i64 room, .slice A D.length c]] w fun e w' => e = .returned (.int .i64 fr) ∧ Below w.heap.size w w' := by
  have h := h0.below (up_alloc w (.cells #[.int .i64 room, .slice A D.length c] 30))
  have hq2 := h0.q2
  have hlD : (numsD D).length = D.length := by simp [numsD]
  clear h0
  go_enter Try.func27, Try.ntmps27
  go_wp2
  go_loop [3, 4] (fun n i => ∃ k : Nat, k ≤ D.length ∧ i = .int .i64 k ∧ n = .int .i64 ((room : Int) - (sumlen ((numsD D).take k) : Nat))) (fun _ i => D.length - (intOf i).toNat)
  case atStart => exact ⟨0, Nat.zero_le _, rfl, by simp [sumlen]⟩
  case round =>
    obtain ⟨k, hk, rfl, rfl⟩ := hrel
    have hs := sumlen_take (numsD D) k
    by_cases hlt : k < D.length
    · obtain ⟨b, o, rfl, _, hlb, hA⟩ := h.at_
      have hd := hA k D[k] (List.getElem?_eq_getElem hlt)
      have hok := h.inn D[k] (List.getElem_mem hlt)
      have hfew := hok.few
      have hN := sumlen_next (numsD D) k D[k].2.2 (by simp [numsD, hlt])
      have hs2 := sumlen_take (numsD D) (k + 1)
      rw [hN] at hs2
      have HN := Lib.hid hN
      simp only [sliceV] at hd
      generalize D[k] = d at hd hfew HN hs2
      clear hN hA hok hlD
      go_wp2
      go_round
      case rel => exact ⟨k + 1, by omega, by go_num, by rw [HN.out]; congr 1; omega⟩
      case measure => simp [intOf]; omega
    · obtain rfl : k = D.length := by omega
      go_wp2
      go_ret
      exact ⟨ret_int (by rw [List.take_of_length_le (by omega)]; omega), up_alloc _ _⟩

theorem ei_lists : EI Try.prog 28 59 (.slice none 0 0) 1 24 := ⟨Try.underlying28, by kernel_rfl, rfl, by omega, by omega⟩
/-- A document's pool. -/
def RQPost (w : World) (pl : Nat → Prop) (room : Int) (D : List DQ) (e : Ending) (w' : World) : Prop :=
  ∃ A c, e = .returned (.agg #[.int .i64 room, .slice A D.length c]) ∧ RQ w' pl D A c ∧ Below w.heap.size w w'
theorem slices_one (D : List DQ) : ∀ u ∈ D.map sliceV, u.oneCell' = true := by
  intro u hu
  obtain ⟨d, _, rfl⟩ := List.mem_map.1 hu
  rfl

set_option maxHeartbeats 1000000 in
theorem c_put {w : World} {pl : Nat → Prop} {D : List DQ} {A : Option Addr} {c : Nat} (h0 : RQ w pl D A c) (hq : ∀ b, w.heap.size ≤ b → pl b) (room : Int) (q : Nat) (hql : q < D.length) (d : DQ) (hd : DOk w pl d) :
    Calls Try.prog 24 #[.agg #[.int .i64 room, .slice A D.length c], .int .i64 q, .slice d.1 d.2.2.length d.2.1] w (RQPost w pl room (D.set q d)) := by
  have hu1 := up_alloc w (.cells #[.int .i64 room, .slice A D.length c] 30)
  have hB0 := box2c w (.int .i64 room) (.slice A D.length c) 30
  generalize hw1 : w.alloc (.cells #[.int .i64 room, .slice A D.length c] 30) = w1 at hu1 hB0
  have hz1 : w1.heap.size = w.heap.size + 1 := by rw [← hw1]; simp
  have hu2 := up_trans hu1 (up_alloc w1 (.cells #[.int .i64 0, .slice none 0 0] 30))
  have hR0 := box2c w1 (.int .i64 0) (.slice none 0 0) 30
  have hB := hB0.alloc (.cells #[.int .i64 0, .slice none 0 0] 30)
  rw [hz1] at hR0
  generalize hw2 : w1.alloc (.cells #[.int .i64 0, .slice none 0 0] 30) = w2 at hu2 hR0 hB
  have hw : (w.alloc (.cells #[.int .i64 room, .slice A D.length c] 30)).alloc (.cells #[.int .i64 0, .slice none 0 0] 30) = w2 := by rw [hw1, hw2]
  have HW := Lib.hid hw
  have h2 := h0.below hu2
  have hz := hR0.lt
  have hq2 := h0.q2
  have hq1 := h0.q1
  have c0 := hB.cell 0 _ rfl
  have c1 := hB.cell 1 _ rfl
  have g1 := hB.free 1
  clear hw1 hw2 hw hz1 hB0
  go_enter Try.func24, Try.ntmps24
  go_wp2_with (at_builtin; rw [HW.out]; refine wpList_app ei_lists rfl (.const (.slice none 0 0)) (.tmp 8) rfl (.slice none 0 0) [] rfl (World.ownsRow_nil _ w2.heap.size _ _) rfl h2.out (slices_one _) (by omega) (Nat.le_refl _) ?_; intro v' w4 hown hb4; simp only [Nat.zero_add, List.nil_append] at hown; obtain ⟨g, cap, rfl, hcap, hcm, hge, hg4⟩ := own_form hown (by omega); have hB4 := hB.up hb4 (by omega); have c0 := hB4.cell 0 _ rfl; have c1 := hB4.cell 1 _ rfl; have g1 := hB4.free 1; have hne1 : g ≠ w.heap.size := (by omega); have hne2 : w.heap.size ≠ g := (by omega); have hne3 : g ≠ w.heap.size + 1 := (by omega); have hne4 : w.heap.size + 1 ≠ g := (by omega); have gc := hown.cellAt q (by omega); have gf := hown.frozenAt q; have hR4 := hR0.up hb4 (by omega); have r0 := hR4.cell 0 _ rfl; have r1 := hR4.cell 1 _ rfl; have f0 := hR4.free 0; have f1 := hR4.free 1)
  refine bodyPost_ret (v := .agg #[.int .i64 room, .slice (some ⟨g, 0, none⟩) D.length cap]) (by simp [results, Try.results24, go_sem, r0, r1]) rfl ?_
  have up4 := up_trans hu2 hb4
  have own2 := ownsRow_setCell_below hown (a := ⟨w.heap.size, 1, none⟩) (by simp; omega) (.slice (some ⟨g, 0, none⟩) D.length cap)
  have own3 := (own2.stored q (.slice d.1 d.2.2.length d.2.1)).1
  have own4 := ownsRow_setCell_below (ownsRow_setCell_below own3 (a := ⟨w.heap.size + 1, 0, none⟩) (by simp; omega) (.int .i64 room)) (a := ⟨w.heap.size + 1, 1, none⟩) (by simp; omega) (.slice (some ⟨g, 0, none⟩) D.length cap)
  have up5 := (((up4.setCell (p := ⟨w.heap.size, 1, none⟩) (by simp) (.slice (some ⟨g, 0, none⟩) D.length cap)).setCell (p := ⟨g, q, none⟩) (by simp; omega) (.slice d.1 d.2.2.length d.2.1)).setCell (p := ⟨w.heap.size + 1, 0, none⟩) (by simp) (.int .i64 room)).setCell (p := ⟨w.heap.size + 1, 1, none⟩) (by simp) (.slice (some ⟨g, 0, none⟩) D.length cap)
  have rd := RD.of_own own4
  refine ⟨some ⟨g, 0, none⟩, cap, by rw [List.length_set], ⟨?_, ?_, by rw [List.length_set]; exact hcap, hcm, by rw [List.length_set]; exact hq1, by rw [List.length_set]; exact hq2⟩, up5⟩
  · rw [List.length_set, List.map_set]
    exact rd.lo fun b hb => hq b (by omega)
  · intro d' hd'
    rcases List.mem_or_eq_of_mem_set hd' with e | rfl
    · exact (h0.inn d' e).below up5
    · exact hd.below up5
end Go.Proofs.Ythakcjabeekihaa

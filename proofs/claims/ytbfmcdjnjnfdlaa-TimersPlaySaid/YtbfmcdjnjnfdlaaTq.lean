/- The list's Due, Drop, Add, and New. -/
import Derived.Test.YtbfmcdjnjnfdlaaTn
import Derived.Test.YtbfmcdjnjnfdlaaTp
import Derived.StillTailTactics
namespace Go.Proofs.Ytbfmcdjnjnfdlaa
open Go.RowKit

set_option maxHeartbeats 1000000 in
theorem c_ldue {w : World} {t S lo n : Nat} {room last : Int} {v : Value} {L xs : List Tm} (h : TL w t S lo room last v xs) (hT : TS L xs n) (now : Int) :
    Calls Try.prog 18 #[.pointer (some ⟨t, 0, none⟩), .int .i64 now] w (RowPost w (dueL now L)) := by
  have hB := Blk.new w [.int .i64 now] 3
  have hb := up_alloc w (.cells #[.int .i64 now] 3)
  have hf : L.length ≤ 2000 := by rw [← hT.len]; exact h.pile.few
  have hA := c_all (h.below hb) hT
  generalize hw1 : w.alloc (.cells #[.int .i64 now] 3) = w1 at hb hA
  have hB1 : Blk w1 w.heap.size [.int .i64 now] 3 := by subst hw1; exact hB
  have HW := Lib.hid hw1
  have HA := Lib.hid hA
  have HB := Lib.hid hb
  have HB1 := Lib.hid hB1
  have HF := Lib.hid hf
  clear h hT hB hw1 hA hb hB1 hf
  go_enter Try.func18, Try.ntmps18
  go_wp2_with fail
  rw [HW.out]
  refine Calls.mono HA.out ?_
  rintro e w2 ⟨v2, rfl, hr2, hb2⟩
  have CD := Lib.hid (c_delf hr2 HF.out (HB1.out.up hb2 HB1.out.lt))
  have HB2 := Lib.hid hb2
  have HR2 := Lib.hid hr2
  clear hr2 hb2
  go_wp2_with fail
  refine Calls.mono CD.out ?_
  rintro e w3 ⟨v3, rfl, hr3, ho3⟩
  have HR3 := Lib.hid hr3
  have HO3 := Lib.hid ho3
  clear hr3 ho3
  go_wp2_with fail
  go_ret
  have hs1 := HB.out.size
  have hs2 := HB2.out.size
  have h3 := HR3.out
  refine ⟨v3, rfl, ?_, ?_⟩
  · refine ⟨h3.1, ?_⟩
    rcases h3.2 with h4 | ⟨g, cap, cur, hv, hg, r⟩
    · exact .inl h4
    · exact .inr ⟨g, cap, cur, hv, by omega, r⟩
  · exact (HB.out.trans (HB2.out.mono hs1)).trans (HO3.out.toBelow (by omega) fun k hk => by have := (HR2.out.lt k hk).1; omega)

/-- What a change of a list leaves: its document's list is L, its last number n. -/
def LPost (w : World) (t S lo : Nat) (room : Int) (v : Value) (L : List Tm) (n : Nat) (r : Value) (e : Ending) (w' : World) : Prop :=
  ∃ v' xs, e = .returned r ∧ TL w' t S lo room n v' xs ∧ TS L xs n ∧ Only (PS S v) w w'
theorem lpost_same {w w' : World} {t S lo n : Nat} {room : Int} {v : Value} {L xs : List Tm} (h : TL w t S lo room n v xs) (hT : TS L xs n) (hb : Below w.heap.size w w') (r : Value) : LPost w t S lo room v L n r (.returned r) w' :=
  ⟨v, xs, rfl, h.below hb, hT, Only.of_below hb⟩
theorem TL.tg {w : World} {t S lo : Nat} {room last : Int} {v : Value} {xs : List Tm} (h : TL w t S lo room last v xs) : ¬ PS S v t := fun k => by
  rcases k with k | k
  · exact h.tS k
  · obtain ⟨_, ds, hd⟩ := own_blk h.pile.row t k
    exact h.tab.ne hd (by decide) rfl
theorem TS.get {L xs : List Tm} {n : Nat} (h : TS L xs n) {i j : Nat} {t : Tm} {no : Int} (hi : L[i]? = some t) (ht : t.no = no) (hj : j < xs.length) (hn : (gt xs j).no = no) : gt xs j = t :=
  h.uniq _ (h.perm.mem_iff.1 (by rw [gt_of (List.getElem?_eq_getElem hj)]; exact List.getElem_mem hj)) _ (List.mem_of_getElem? hi) (hn.trans ht.symm)
theorem TS.has {L xs : List Tm} {n : Nat} (h : TS L xs n) {t : Tm} (ht : t ∈ L) : ∃ j, j < xs.length ∧ gt xs j = t := by
  obtain ⟨j, hj, e⟩ := List.getElem_of_mem (h.perm.mem_iff.2 ht)
  exact ⟨j, hj, gt_of (by rw [List.getElem?_eq_getElem hj, e])⟩

set_option maxHeartbeats 1000000 in
theorem c_drop_no {w : World} {t S lo n : Nat} {room : Int} {v : Value} {L xs : List Tm} (h : TL w t S lo room n v xs) (hT : TS L xs n) (no : Int) (hno : ∀ x ∈ L, x.no ≠ no) :
    Calls Try.prog 9 #[.pointer (some ⟨t, 0, none⟩), .int .i64 no] w (LPost w t S lo room v L n (.int .i64 6)) := by
  have hB := Blk.new w [.int .i64 no] 3
  have hb := up_alloc w (.cells #[.int .i64 no] 3)
  generalize hw1 : w.alloc (.cells #[.int .i64 no] 3) = w1 at hb
  have hB1 : Blk w1 w.heap.size [.int .i64 no] 3 := by subst hw1; exact hB
  have h1 := h.below hb
  obtain ⟨A, c, hv, _, _, hr⟩ := own_slice h1.pile.row
  have CN := Lib.hid (c_nob h1)
  have CX := c_ixno (c := c) hr h1.pile.few (hB1.cell 0 _ rfl) hB1.lt
  have hc0 := h1.c0
  have hc2 := h1.box.cell 2 _ rfl
  subst hv
  have HL : Hid (∀ e w2, IxPost w1 (fun t => t.no == no) xs e w2 → e = .returned (.int .i64 (-1)) ∧ Below w1.heap.size w1 w2) := Lib.hid (by
    rintro e w2 ⟨hb2, ⟨j, rfl, hj, hp, _⟩ | ⟨rfl, _⟩⟩
    · have hm : gt xs j ∈ L := hT.perm.mem_iff.1 (by rw [gt_of (List.getElem?_eq_getElem hj)]; exact List.getElem_mem hj)
      exact absurd (beq_iff_eq.1 hp) (hno _ hm)
    · exact ⟨rfl, hb2⟩)
  have CX2 := Lib.hid (CX.mono HL.out)
  have HP := fun w2 (hb2 : Below w.heap.size w w2) => Lib.hid (lpost_same h hT hb2 (.int .i64 6))
  have HB := Lib.hid hb
  have HW := Lib.hid hw1
  have HPP := Lib.hid HP
  generalize xs.length = m at *
  clear h hT hB h1 hr CX HL hB1 hb hw1 hno HP
  go_enter Try.func9, Try.ntmps9
  go_wp2_with fail
  rw [HW.out]
  refine Calls.mono CN.out ?_
  rintro e w' ⟨rfl, rfl⟩
  go_wp2_with fail
  refine Calls.mono CX2.out ?_
  rintro e w2 ⟨rfl, hb2⟩
  have HB2 := Lib.hid (up_trans HB.out hb2)
  clear hb2 hc0 hc2
  go_wp2_with fail
  go_ret
  exact (HPP.out _ HB2.out).out

set_option maxHeartbeats 1000000 in
theorem c_drop_yes {w : World} {t S lo n i : Nat} {room : Int} {v : Value} {L xs : List Tm} (h : TL w t S lo room n v xs) (hT : TS L xs n) (no : Int) (x : Tm) (hi : L[i]? = some x) (hx : x.no = no) :
    Calls Try.prog 9 #[.pointer (some ⟨t, 0, none⟩), .int .i64 no] w (LPost w t S lo room v (L.eraseIdx i) n (.int .i64 0)) := by
  have hB := Blk.new w [.int .i64 no] 3
  have hb := up_alloc w (.cells #[.int .i64 no] 3)
  generalize hw1 : w.alloc (.cells #[.int .i64 no] 3) = w1 at hb
  have hB1 : Blk w1 w.heap.size [.int .i64 no] 3 := by subst hw1; exact hB
  have h1 := h.below hb
  obtain ⟨A, c, hv, _, _, hr⟩ := own_slice h1.pile.row
  have CN := Lib.hid (c_nob h1)
  have CX := c_ixno (c := c) hr h1.pile.few (hB1.cell 0 _ rfl) hB1.lt
  have hc0 := h1.c0
  have hc2 := h1.box.cell 2 _ rfl
  rw [hv] at hc2
  have HL : Hid (∀ e w2, IxPost w1 (fun t => t.no == no) xs e w2 → ∃ j : Nat, e = .returned (.int .i64 j) ∧ Below w1.heap.size w1 w2 ∧ j < xs.length ∧ gt xs j = x) := Lib.hid (by
    rintro e w2 ⟨hb2, ⟨j, rfl, hj, hp, _⟩ | ⟨rfl, hp⟩⟩
    · exact ⟨j, rfl, hb2, hj, hT.get hi hx hj (beq_iff_eq.1 hp)⟩
    · obtain ⟨j, hj, e⟩ := hT.has (List.mem_of_getElem? hi)
      have := hp j hj
      rw [e] at this
      exact absurd hx (beq_eq_false_iff_ne.1 this))
  have CX2 := Lib.hid (CX.mono HL.out)
  have H1 := Lib.hid h1
  have HT := Lib.hid hT
  have HB := Lib.hid hb
  have HW := Lib.hid hw1
  have HI := Lib.hid hi
  have HV := Lib.hid hv
  have HH := Lib.hid h
  obtain ⟨m, hm⟩ : ∃ m, m = xs.length := ⟨_, rfl⟩
  rw [← hm] at hc2 CX2
  have HM := Lib.hid hm
  clear h hT hB h1 hr CX HL hB1 hb hw1 hi hv hm
  go_enter Try.func9, Try.ntmps9
  go_wp2_with fail
  rw [HW.out]
  refine Calls.mono CN.out ?_
  rintro e w' ⟨rfl, rfl⟩
  go_wp2_with fail
  refine Calls.mono CX2.out ?_
  rintro e w2 ⟨j, rfl, hb2, hj, hgj⟩
  have h2 := H1.out.below hb2
  have CR := Lib.hid (c_remove h2.pile HT.out.heap j (by rw [← HM.out]; exact hj))
  have hc02 := h2.c0
  have HB2 := Lib.hid hb2
  have HG := Lib.hid hgj
  have H2 := Lib.hid h2
  clear hb2 hc0 hc2 hgj h2
  go_wp2_with fail
  refine Calls.mono CR.out ?_
  rintro e w3 ⟨v3, ys, rfl, ⟨hp, hh⟩, hw3, ho3, _⟩
  have HP := Lib.hid hp
  have HH3 := Lib.hid hh
  have HW3 := Lib.hid hw3
  have HO3 := Lib.hid ho3
  clear hp hh hw3 ho3 hc02
  go_wp2_with fail
  go_ret
  refine ⟨v3, ys, rfl, ⟨H2.out.tab.only HO3.out H2.out.tg, HW3.out⟩, ?_, ?_⟩
  · have hgx := HG.out
    rw [← hgx] at HI
    exact HT.out.drop HI.out (gt_some (by rw [← HM.out]; exact hj)) HP.out HH3.out
  · have hb := up_trans HB.out HB2.out
    have o1 : Only (PS S v) w w2 := Only.of_below hb
    exact o1.trans HO3.out
end Go.Proofs.Ytbfmcdjnjnfdlaa

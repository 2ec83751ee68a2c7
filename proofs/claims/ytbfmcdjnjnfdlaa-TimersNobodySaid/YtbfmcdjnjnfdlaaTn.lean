/- The list's All: the timers in order. -/
import Derived.Test.YtbfmcdjnjnfdlaaTl
namespace Go.Proofs.Ytbfmcdjnjnfdlaa
open Go.RowKit

/-- What stands in the loop: how many have gone over, the row of those, and the rest's heap. -/
structure AR (w wr : World) (R : Nat) (L : List Tm) (k : Nat) (av v : Value) (ys : List Tm) : Prop where
  le : k ≤ L.length
  row : wr.ownsRow w.heap.size 42 3 av k (flatT (L.take k))
  pile : PW wr R 0 [.slice none 0 0] 61 w.heap.size v ys
  perm : ys.Perm (L.drop k)
  heap : Heap ys.length ys
  apart : ∀ g, av.ownBlock = some g → v.ownBlock ≠ some g
  up : Below w.heap.size w wr
  r : w.heap.size ≤ R
theorem AR.len {w wr : World} {R : Nat} {L : List Tm} {k : Nat} {av v : Value} {ys : List Tm} (h : AR w wr R L k av v ys) : ys.length = L.length - k := by rw [h.perm.length_eq, List.length_drop]
theorem AR.step {w wr w2 : World} {R : Nat} {L : List Tm} {k : Nat} {av v v2 : Value} {ys zs : List Tm} (h : AR w wr R L k av v ys) (hs : SortT L) (hk : k < L.length)
    (hp : (gt ys 0 :: zs).Perm ys) (ho : Only (PS R v) wr w2) (hn : ∀ g, v2.ownBlock = some g → v.ownBlock = some g ∨ wr.heap.size ≤ g) :
    gt ys 0 = gt L k ∧ Below w.heap.size w w2 ∧ w2.ownsRow w.heap.size 42 3 av k (flatT (L.take k)) ∧ (∀ g, av.ownBlock = some g → v2.ownBlock ≠ some g) ∧ zs.Perm (L.drop (k + 1)) := by
  have hd : L.drop k = gt L k :: L.drop (k + 1) := by
    rw [List.drop_eq_getElem_cons hk, gt_of (List.getElem?_eq_getElem hk)]
  have e0 : gt ys 0 = gt L k := by
    have h1 := h.perm
    rw [hd] at h1
    exact root_head h1 h.heap (hd ▸ hs.sublist (List.drop_sublist k L))
  have hown := fun g e => (own_blk h.row g e).2
  have hlt := h.row.lt
  have hne : ∀ g, av.ownBlock = some g → ¬ PS R v g := fun g e k => by
    rcases k with rfl | k
    · obtain ⟨ds, hd⟩ := hown g e
      exact h.pile.box.ne hd h.pile.ne rfl
    · exact h.apart g e k
  refine ⟨e0, ?_, own_keep h.row ho hne, fun g e k => ?_, ?_⟩
  · refine h.up.trans (ho.toBelow h.up.size fun i hi => ?_)
    rcases hi with rfl | hi
    · exact h.r
    · exact (h.pile.row.lt i hi).1
  · rcases hn g k with h1 | h1
    · exact h.apart g e h1
    · have := (hlt g e).2
      omega
  · have h1 := hp.trans h.perm
    rw [hd, e0] at h1
    exact h1.cons_inv
theorem AR.next {w wr w1 : World} {R : Nat} {L : List Tm} {k n : Nat} {av a1 v : Value} {ys : List Tm} {ob : Obj} (hk : k < L.length) (hr : w.heap.size ≤ R) (hp : ys.Perm (L.drop (k + 1))) (hh : Heap ys.length ys) (hw : PW wr R 0 [.slice none 0 0] 61 w.heap.size v ys)
    (ha : ∀ g, av.ownBlock = some g → v.ownBlock ≠ some g) (hu : Below w.heap.size w wr) (hown : wr.ownsRow w.heap.size 42 3 av k (flatT (L.take k)))
    (h1 : w1.ownsRow w.heap.size 42 3 a1 n (flatT (L.take k) ++ tmV (gt L k))) (hg : (wr.alloc ob).grownBy w1 av.ownBlock) (hn : ∀ g, a1.ownBlock = some g → av.ownBlock = some g ∨ (wr.alloc ob).heap.size ≤ g) :
    AR w w1 R L (k + 1) a1 v ys := by
  have hs := hu.size
  have hR : ∀ g, av.ownBlock = some g → R ≠ g := fun g e => by
    obtain ⟨_, ds, hd⟩ := own_blk hown g e
    exact hw.box.ne hd hw.ne
  have ho : Only (fun b => av.ownBlock = some b) wr w1 := ((Only.refl _ wr).alloc ob).grown hg (fun k e => .inl e)
  have e1 : flatT (L.take k) ++ tmV (gt L k) = flatT (L.take (k + 1)) := by
    rw [flatT_snoc, List.take_add_one, List.getElem?_eq_getElem hk, gt_of (List.getElem?_eq_getElem hk)]
    rfl
  rw [e1] at h1
  have hn1 := row_len h1
  have hlt : (L.take (k + 1)).length = k + 1 := by rw [List.length_take]; omega
  refine ⟨hk, by rw [hn1, hlt] at h1; exact h1, ⟨hw.box.only ho (fun e => hR R e rfl), hw.lt, own_keep hw.row ho (fun g e k => ha g k e), hw.ne, hw.few⟩, hp, hh, fun g e k => ?_, ?_, hr⟩
  · rcases hn g e with h2 | h2
    · exact ha g h2 k
    · have := (hw.row.lt g k).2
      simp at h2
      omega
  · exact hu.trans (ho.toBelow hs fun i hi => (hown.lt i hi).1)

set_option maxHeartbeats 4000000 in
theorem c_all {w : World} {t S lo n : Nat} {room last : Int} {v : Value} {L xs : List Tm} (h : TL w t S lo room last v xs) (hT : TS L xs n) :
    Calls Try.prog 17 #[.pointer (some ⟨t, 0, none⟩)] w (RowPost w L) := by
  have hc := h.c0
  have hc2 := h.box.cell 2 _ rfl
  have CN := Lib.hid (c_nob h)
  have hf := h.pile.few
  have CC := Lib.hid (c_clone h.pile.row hf)
  have HS := Lib.hid hT.sort
  have HP := Lib.hid hT.perm
  have HH := Lib.hid hT.heap
  have HL := Lib.hid hT.len
  have hfL : L.length ≤ 2000 := by rw [← hT.len]; exact hf
  clear h hT hf
  go_enter Try.func17, Try.ntmps17
  go_wp2_with (go_at_call 20; refine CN.out.mono ?_; rintro e w' ⟨rfl, rfl⟩)
  refine Calls.mono CC.out ?_
  rintro e w1 ⟨v1, rfl, hr1, hb1⟩
  obtain ⟨A1, c1, e1, _, _⟩ := own_slice hr1
  subst e1
  have hw1 : PW (w1.alloc (.cells #[.slice A1 xs.length c1] 61)) w1.heap.size 0 [.slice none 0 0] 61 w.heap.size (.slice A1 xs.length c1) xs :=
    ⟨Blk.new w1 [.slice A1 xs.length c1] _, by simp, hr1.alloc _, by decide, by rw [HL.out]; exact hfL⟩
  have HA : Hid (AR w (w1.alloc (.cells #[.slice A1 xs.length c1] 61)) w1.heap.size L 0 (.slice none 0 0) (.slice A1 xs.length c1) xs) :=
    Lib.hid ⟨Nat.zero_le _, World.ownsRow_nil _ _ _ _, hw1, by simpa using HP.out, HH.out, fun g e => by simp [Value.ownBlock] at e, hb1.trans (up_alloc _ _ |>.mono hb1.size), hb1.size⟩
  clear hw1 hr1 hb1 hc hc2
  go_wp2_with fail
  go_loopw [4] (fun av wr => ∃ (k : Nat) (v : Value) (ys : List Tm), AR w wr w1.heap.size L k av v ys) (fun _ wr => match wr.cell? ⟨w1.heap.size, 0, none⟩ with | some (.slice _ n _) => n | _ => 0)
  case atStart => exact ⟨0, _, xs, HA.out⟩
  case round =>
    obtain ⟨k, v, ys, hA⟩ := hrel
    obtain ⟨A, c, rfl, _, _⟩ := hA.pile.slice
    have hl := hA.len
    have hcell := hA.pile.cell
    obtain ⟨m, hm⟩ : ∃ m, m = ys.length := ⟨_, rfl⟩
    rw [← hm] at hcell
    have hkl := hA.le
    have hm2 : m ≤ L.length - k := by omega
    have hm3 : L.length - k ≤ m := by omega
    have HA := Lib.hid hA
    have HM := Lib.hid hm
    clear hl hA hm
    by_cases hk : k < L.length
    · have CP := Lib.hid (c_pop HA.out.pile HA.out.heap (by rw [← HM.out]; omega))
      rw [← HM.out] at CP HA
      have hm0 : 0 < m := by omega
      go_wp2_with (go_at_call 27; refine (c_len _ _ _ _).mono ?_; rintro e w' ⟨rfl, rfl⟩)
      refine Calls.mono CP.out ?_
      rintro e w2 ⟨v2, zs, rfl, ⟨hp, hh⟩, hw2, ho2, hn2⟩
      obtain ⟨e0, hb2, hr2, ha2, hp2⟩ := HA.out.step HS.out hk hp ho2 hn2
      have HPP := Lib.hid hp2
      have HH2 := Lib.hid hh
      have HW2 := Lib.hid hw2
      have HB2 := Lib.hid hb2
      have HR2 := Lib.hid hr2
      have HA2 := Lib.hid ha2
      have HZ : Hid (zs.length < m) := Lib.hid (by have := hp.length_eq; simp at this; rw [HM.out]; omega)
      have hlo2 : w.heap.size ≤ w2.heap.size := hb2.size
      rw [e0]
      unfold tmA
      obtain ⟨a, ha⟩ : ∃ a, a = gt L k := ⟨_, rfl⟩
      rw [← ha]
      have HAA := Lib.hid ha
      have hta := ta_any (.agg #[.int .i64 a.at_, .int .i64 a.no, .int .i64 a.who])
      clear hp hh hw2 ho2 hn2 e0 hb2 hr2 ha2 hp2 ha hcell
      go_wp2_with (at_builtin; refine wpList_app3 ei_S rfl (.tmp 18) (.tmp 22) rfl _ _ rfl (HR2.out.alloc _) rfl (RD.one3 rfl) (by simp [Value.oneCell']) (by omega) (by simp; omega) ?_; intro v3 w3 hown3 hg3 hn3; have H3 := Lib.hid (AR.next hk HA.out.r HPP.out HH2.out HW2.out HA2.out HB2.out HR2.out (by rw [← HAA.out]; exact hown3) hg3 hn3); clear hown3 hg3 hn3)
      go_roundw
      case rel => exact ⟨k + 1, _, _, H3.out⟩
      case measure =>
        obtain ⟨A2, c2, e2, _, _⟩ := H3.out.pile.slice
        rw [H3.out.pile.cell, HA.out.pile.cell, e2]
        exact HZ.out
    · have hk' : k = L.length := by omega
      have HK := Lib.hid hk'
      have hm0 : m = 0 := by omega
      subst hm0
      clear hk hk'
      go_wp2_with (go_at_call 27; refine (c_len _ _ _ _).mono ?_; rintro e w' ⟨rfl, rfl⟩)
      go_ret
      have h1 := HA.out.row
      rw [HK.out, List.take_length] at h1
      exact ⟨_, rfl, h1, HA.out.up⟩
end Go.Proofs.Ytbfmcdjnjnfdlaa

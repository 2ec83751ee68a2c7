/- The law's To of layer 29. -/
import Derived.Test.YtdiiilnebepfdaaGreatDoorRpb
namespace Go.Proofs.YtdiiilnebepfdaaGreatDoor
open Go.RowKit

theorem Only.blw {s : Nat → Prop} {a b c : World} (h : Only s a b) (k : Below a.heap.size b c) : Only s a c :=
  ⟨k.os.trans h.os, k.tape.trans h.tape, k.output.trans h.output, Nat.le_trans h.size k.size, fun i hi hs => (k.block i hi).trans (h.block i hi hs)⟩
theorem BL.rlt {w : World} {KS : List (Nat × List Value × TypeId)} {r k : Nat} {t : TypeId} {W : World} (h : BL w KS r k t W) : r < W.heap.size := by
  obtain ⟨ds, _, h2⟩ := h.res
  exact h2.lt
theorem BL.vnew {w : World} {KS : List (Nat × List Value × TypeId)} {r k : Nat} {t : TypeId} {W : World} {cs : List Value} {u : TypeId} (_ : BL w KS r k t (W.alloc (.cells cs.toArray u))) : Blk (W.alloc (.cells cs.toArray u)) W.heap.size cs u := Blk.new W cs u
theorem BL.only {w : World} {KS : List (Nat × List Value × TypeId)} {r k : Nat} {t : TypeId} {W W' : World} {b : Nat} (h : BL w KS r k t W) (o : Only (· = b) W W') (hr : r < b) (hx : ∀ x ∈ KS, x.1 < b) : BL w KS r k t W' :=
  ⟨h.up.trans (o.toBelow h.up.size (fun k hk => by have := h.lo; omega)), fun x hk => (h.bx x hk).only o (by have := hx x hk; omega), h.no, h.lo, by
    obtain ⟨ds, h1, h2⟩ := h.res
    exact ⟨ds, h1, h2.only o (by omega)⟩⟩
theorem BL.vnewd {w : World} {KS : List (Nat × List Value × TypeId)} {r k : Nat} {t : TypeId} {W : World} {cs : List Value} {u : TypeId} (_ : BL w KS r k t (W.alloc (.cells cs.toArray u)).drew) : Blk (W.alloc (.cells cs.toArray u)).drew W.heap.size cs u := Blk.new W cs u
theorem RD.vnew {w : World} {KS : List (Nat × List Value × TypeId)} {r k : Nat} {t : TypeId} {W : World} {o : Obj} (_ : BL w KS r k t (W.alloc o)) {lo m n : Nat} {A : Option Addr} {xs : List Value} (h : RD W (fun x => lo < x) m A n xs) : RD (W.alloc o) (fun x => x ≠ W.heap.size ∧ lo < x) m A n xs :=
  (h.lt.below (up_alloc W o)).lo (fun _ hx => ⟨Nat.ne_of_lt hx.2, hx.1⟩)
theorem DT.vnew {w : World} {KS : List (Nat × List Value × TypeId)} {r k : Nat} {t : TypeId} {W : World} {o : Obj} (_ : BL w KS r k t (W.alloc o)) {n : Nat} {A : Option Addr} {L : List BR} (h : DT W A n L) : DT (W.alloc o) A n L := h.below (up_alloc W o)
def toC (V : VQ) (A1 : Option Addr) (c1 : Nat) (A2 : Option Addr) (c2 : Nat) (sW sT : Value) : List Value := [.int .i64 V.now, .slice A1 V.Cq.length c1, .slice A2 V.Bq.length c2, sW, sT, .slice V.LA V.Lq.length V.Lc]
def vZ6 : List Value := [.int .i64 0, .slice none 0 0, .slice none 0 0, .slice none 0 0, .slice none 0 0, .slice none 0 0]
theorem toC_one (V : VQ) (A1 : Option Addr) (c1 : Nat) (A2 : Option Addr) (c2 : Nat) (A3 : Option Addr) (n3 c3 : Nat) (A4 : Option Addr) (n4 c4 : Nat) : ∀ v ∈ toC V A1 c1 A2 c2 (.slice A3 n3 c3) (.slice A4 n4 c4), v.oneCell' = true := by
  intro v hv
  simp only [toC, List.mem_cons, List.not_mem_nil, or_false] at hv
  rcases hv with rfl | rfl | rfl | rfl | rfl | rfl <;> rfl
theorem toC_built (V : VQ) (n1 : Nat) (A1 : Option Addr) (c1 : Nat) (n2 : Nat) (A2 : Option Addr) (c2 : Nat) (h1 : V.Cq.length = n1) (h2 : V.Bq.length = n2) : Tryz.prog.built 40 [(0, .int .i64 V.now), (1, .slice A1 n1 c1), (2, .slice A2 n2 c2), (5, .slice V.LA V.Lq.length V.Lc)] = some (toC V A1 c1 A2 c2 (.slice none 0 0) (.slice none 0 0)).toArray := by
  subst h1
  subst h2
  kernel_rfl
/-- The same view, with other rows. -/
def VQ.rows (V : VQ) (A1 : Option Addr) (c1 : Nat) (A2 : Option Addr) (c2 : Nat) (A3 : Option Addr) (c3 : Nat) (A4 : Option Addr) (c4 : Nat) : VQ := { V with CA := A1, Cc := c1, BA := A2, Bc := c2, WA := A3, Wc := c3, TA := A4, Tc := c4 }
def ToP (V : VQ) (w : World) (e : Ending) (w' : World) : Prop := ∃ A1 c1 A2 c2 A3 c3 A4 c4, e = .returned (.agg (vC (V.rows A1 c1 A2 c2 A3 c3 A4 c4)).toArray) ∧ VW w' (V.rows A1 c1 A2 c2 A3 c3 A4 c4) ∧ Below w.heap.size w w'
/-- The variable, once it is written. -/
def ToV (V : VQ) (w : World) (b : Nat) (A1 : Option Addr) (c1 : Nat) (A2 : Option Addr) (c2 : Nat) (W : World) : Prop :=
  w.heap.size + 1 < b ∧ Blk W b (toC V A1 c1 A2 c2 (.slice none 0 0) (.slice none 0 0)) 40 ∧ (V.Cq.length ≤ c1 ∧ c1 ≤ maxLen) ∧ RD W (fun x => x ≠ b ∧ w.heap.size + 1 < x) 11 A1 V.Cq.length (V.Cq.flatMap cellsQ) ∧ RD W (fun x => x ≠ b ∧ w.heap.size + 1 < x) 11 A2 V.Bq.length (V.Bq.flatMap brC) ∧ BL w [(w.heap.size, vC V, 28)] (w.heap.size + 1) 6 40 W
theorem ToV.of {V : VQ} {w W : World} {b : Nat} {A1 A2 : Option Addr} {c1 c2 : Nat} {ds : List Value} (hv : Blk W b ds 40) (hb : w.heap.size + 1 < b) (hc : V.Cq.length ≤ c1 ∧ c1 ≤ maxLen) (h1 : RD W (fun x => x ≠ b ∧ w.heap.size + 1 < x) 11 A1 V.Cq.length (V.Cq.flatMap cellsQ)) (h2 : RD W (fun x => x ≠ b ∧ w.heap.size + 1 < x) 11 A2 V.Bq.length (V.Bq.flatMap brC))
    (hB : BL w [(w.heap.size, vC V, 28)] (w.heap.size + 1) 6 40 W) : ToV V w b A1 c1 A2 c2 (W.setRow b (toC V A1 c1 A2 c2 (.slice none 0 0) (.slice none 0 0)).toArray) := by
  have ho := (Only.refl (· = b) W).row rfl (toC V A1 c1 A2 c2 (.slice none 0 0) (.slice none 0 0)).toArray
  exact ⟨hb, hv.row _, hc, h1.only ho (fun k hk h => h.1 hk), h2.only ho (fun k hk h => h.1 hk), hB.only ho hb (fun x hx => by
    obtain rfl : x = (w.heap.size, vC V, 28) := by simpa using hx
    show w.heap.size < b
    omega)⟩
/-- The end: all is read off. -/
theorem ToP.of {V : VQ} {w wc wd we : World} {b : Nat} {A1 A2 A3 A4 : Option Addr} {c1 c2 c3 c4 : Nat} (hR : VR w V) (h : ToV V w b A1 c1 A2 c2 wc) (o1 : Only (· = b) wc wd) (o2 : Only (· = b) wd we) {T3 T4 : TypeId}
    (h3 : wd.ownsRow wc.heap.size T3 2 (.slice A3 V.Wq.length c3) V.Wq.length (V.Wq.flatMap wqC)) (h4 : we.ownsRow wd.heap.size T4 3 (.slice A4 V.Tq.length c4) V.Tq.length (V.Tq.flatMap tmV)) (ds : Array Value) :
    ToP V w (.returned (.agg (vC (V.rows A1 c1 A2 c2 A3 c3 A4 c4)).toArray)) (we.setRow (w.heap.size + 1) ds) := by
  obtain ⟨hb, hv, hc, hch, hbr, hB⟩ := h
  have ho := (Only.refl (· = w.heap.size + 1) we).row rfl ds
  have hwc : b < wc.heap.size := hv.lt
  have hup : Below w.heap.size w we := (hB.up.trans (o1.toBelow hB.up.size (fun k hk => by omega))).trans (o2.toBelow (Nat.le_trans hB.up.size o1.size) (fun k hk => by omega))
  have hup2 := below_setRow hup (Nat.le_succ w.heap.size) ds
  obtain ⟨B3, d3, e3, _, _, r3⟩ := own_slice h3
  obtain ⟨B4, d4, e4, _, _, r4⟩ := own_slice h4
  obtain ⟨rfl, rfl⟩ : A3 = B3 ∧ c3 = d3 := by
    injection e3 with e1 _ e2
    exact ⟨e1, e2⟩
  obtain ⟨rfl, rfl⟩ : A4 = B4 ∧ c4 = d4 := by
    injection e4 with e1 _ e2
    exact ⟨e1, e2⟩
  have hR2 := hR.below hup2
  have k1 := ((hch.only o1 (fun k hk h => h.1 hk)).only o2 (fun k hk h => h.1 hk)).only ho (fun k hk h => by omega)
  have k2 := ((hbr.only o1 (fun k hk h => h.1 hk)).only o2 (fun k hk h => h.1 hk)).only ho (fun k hk h => by omega)
  have k3 := (r3.only o2 (fun k hk => by omega)).only ho (fun k hk => by omega)
  have k4 := r4.only ho (fun k hk => by have := o1.size; omega)
  exact ⟨A1, c1, A2, c2, A3, c3, A4, c4, rfl, ⟨⟨⟨k1.lo (fun _ _ => trivial), rfl, hc.1, hc.2, hR2.ch.each⟩, ⟨k3.lo (fun _ _ => trivial), rfl, hR2.wt.each⟩, k4.lo (fun _ _ => trivial), hR2.lv⟩, ⟨k2.lo (fun _ _ => trivial), rfl, fun _ _ => trivial⟩⟩, hup2⟩
set_option maxRecDepth 100000 in
set_option maxHeartbeats 3000000 in
theorem c_to29 {V : VQ} {Q : List RB} {w : World} (h : VX w V Q) (hf : Few V) (hs : smallT Q = true) :
    Calls Tryz.prog 8 #[.agg (vC V).toArray] w (ToP V w) := by
  have hX := bl1 w (vC V) 28 vZ6 40
  generalize hw1 : (w.alloc (.cells (vC V).toArray 28)).alloc (.cells vZ6.toArray 40) = w1 at hX
  have HW := Lib.hid (show (w.alloc (.cells (vC V).toArray 28)).alloc (.cells #[.int .i64 0, .slice none 0 0, .slice none 0 0, .slice none 0 0, .slice none 0 0, .slice none 0 0] 40) = w1 from hw1)
  have HX := Lib.hid (show BL w [(w.heap.size, vC V, 28)] (w.heap.size + 1) 6 40 w1 from hX)
  have HR := Lib.hid h.r
  obtain ⟨nC, hnC⟩ : ∃ n, V.Cq.length = n := ⟨_, rfl⟩
  obtain ⟨nB, hnB⟩ : ∃ n, V.Bq.length = n := ⟨_, rfl⟩
  have C1 : Hid (∀ W, Below w.heap.size w W → Calls Tryz.prog 24 #[.slice V.CA nC V.Cc] W fun e w' => ∃ A c, e = .returned (.slice A nC c) ∧ (V.Cq.length ≤ c ∧ c ≤ maxLen) ∧ RD w' (W.heap.size ≤ ·) 11 A V.Cq.length (V.Cq.flatMap cellsQ) ∧ Below W.heap.size W w') := Lib.hid (fun W hW => by
    rw [← hnC]
    refine (c_tto (h.below hW).r.ch (by have := hf.ch; omega)).mono ?_
    rintro e w' ⟨A, c, rfl, ht, hb⟩
    exact ⟨A, c, rfl, ⟨ht.nc, ht.cm⟩, ht.rd, hb⟩)
  have hlb : Q.length = nB := h.len.symm.trans hnB
  have C2 : Hid (∀ W, Below w.heap.size w W → Calls Tryz.prog 26 #[.slice V.BA nB V.Bc] W fun e w' => ∃ A c, e = .returned (.slice A nB c) ∧ DT w' A nB V.Bq ∧ Below W.heap.size W w') := Lib.hid (fun W hW => by
    have k := c_plain23 (c := V.Bc) (h.below hW).br hs
    rw [hlb] at k
    rw [h.eq]
    exact k)
  have C3 : Hid (∀ (A : Option Addr) (c : Nat) W, DT W A nB V.Bq → Calls Tryz.prog 25 #[.slice A nB c] W fun e w' => ∃ A c, e = .returned (.slice A nB c) ∧ RD w' (W.heap.size ≤ ·) 11 A V.Bq.length (V.Bq.flatMap brC) ∧ Below W.heap.size W w') := Lib.hid (fun A c W hd => by
    have k := c_to23n (c := c) hd (by have := hf.br; omega)
    rw [hnB]
    exact k)
  have HWT := Lib.hid (fun W (hW : Below w.heap.size w W) => (h.below hW).r.wt)
  have HTM := Lib.hid (fun W (hW : Below w.heap.size w W) => (h.below hW).r.tm)
  have hl16 : (V.Wq.length : Int) ≤ 16 := by have := hf.wt; omega
  have hl40 : (V.Tq.length : Int) ≤ 40 := by have := hf.tm; omega
  obtain ⟨WA, hWA⟩ : ∃ x, V.WA = x := ⟨_, rfl⟩
  obtain ⟨TA, hTA⟩ : ∃ x, V.TA = x := ⟨_, rfl⟩
  rw [hWA] at HWT
  rw [hTA] at HTM
  have HWA := Lib.hid hWA
  have HTA := Lib.hid hTA
  have HNC := Lib.hid hnC
  have HNB := Lib.hid hnB
  have HBD := Lib.hid (fun A1 c1 A2 c2 => toC_built V nC A1 c1 nB A2 c2 hnC hnB)
  clear h hf hs hX hw1 hWA hTA hlb hnC hnB
  go_enter Tryz.func8, Tryz.ntmps8
  go_upto_region 1 with fail
  rw [HW.out]
  go_cut [3] (fun s3 wx => ∃ b A1 c1 A2 c2, s3 = .pointer (some ⟨b, 0, none⟩) ∧ ToV V w b A1 c1 A2 c2 wx)
  case first =>
    refine wp_region_held_drew (S := BL w [(w.heap.size, vC V, 28)] (w.heap.size + 1) 6 40) (by kernel_rfl) (HX.out.next (up_drewN _ 1)) (fun hHeld => ?_)
    refine wpAnyH_take (i := 0) (oi := ?_) (v := ?_) ?_ (by kernel_rfl) (by kernel_rfl) (by kernel_rfl) ?_ (Or.inl ⟨?_, ?_⟩) hHeld ?_
    rotate_left 2
    · conv => lhs; simp only [List.getElem?_toArray, List.getElem?_cons_succ, List.getElem?_cons_zero]
    · exact fun _ _ _ h => h
    · rfl
    · intro W hSw
      go_simp
      try with_reducible rfl
    try simp only [Act.put, List.setIfInBounds_toArray, List.set_cons_zero, List.set_cons_succ]
    refine wpAnyH_take (i := 1) (oi := ?_) (v := ?_) ?_ (by kernel_rfl) (by kernel_rfl) (by kernel_rfl) ?_ (Or.inl ⟨?_, ?_⟩) hHeld ?_
    rotate_left 2
    · conv => lhs; simp only [List.getElem?_toArray, List.getElem?_cons_succ, List.getElem?_cons_zero]
    · exact fun _ _ _ h => h
    · rfl
    · intro W hSw
      have f0 := (hSw.ka 0 rfl).cell 0 _ rfl
      go_simp
      try with_reducible rfl
    try simp only [Act.put, List.setIfInBounds_toArray, List.set_cons_zero, List.set_cons_succ]
    refine wpAnyH_take (i := 2) (oi := ?_) (v := ?_) ?_ (by kernel_rfl) (by kernel_rfl) (by kernel_rfl) ?_ (Or.inl ⟨?_, ?_⟩) hHeld ?_
    rotate_left 2
    · conv => lhs; simp only [List.getElem?_toArray, List.getElem?_cons_succ, List.getElem?_cons_zero]
    · exact fun _ _ _ h => h
    · rfl
    · intro W hSw
      go_simp
      try with_reducible rfl
    try simp only [Act.put, List.setIfInBounds_toArray, List.set_cons_zero, List.set_cons_succ]
    refine wpAnyH_take (i := 3) (oi := ?_) (v := ?_) ?_ (by kernel_rfl) (by kernel_rfl) (by kernel_rfl) ?_ (Or.inl ⟨?_, ?_⟩) hHeld ?_
    rotate_left 2
    · conv => lhs; simp only [List.getElem?_toArray, List.getElem?_cons_succ, List.getElem?_cons_zero]
    · exact fun _ _ _ h => h
    · rfl
    · intro W hSw
      have f0 : W.cell? ⟨w.heap.size, 1, none⟩ = some (Value.slice V.CA nC V.Cc) := by rw [← HNC.out]; exact (hSw.ka 0 rfl).cell 1 _ rfl
      go_simp
      try with_reducible rfl
    try simp only [Act.put, List.setIfInBounds_toArray, List.set_cons_zero, List.set_cons_succ]
    refine wpAnyH_take (i := 5) (oi := ?_) (v := ?_) ?_ (by kernel_rfl) (by kernel_rfl) (by kernel_rfl) ?_ (Or.inl ⟨?_, ?_⟩) hHeld ?_
    rotate_left 2
    · conv => lhs; simp only [List.getElem?_toArray, List.getElem?_cons_succ, List.getElem?_cons_zero]
    · exact fun _ _ _ h => h
    · rfl
    · intro W hSw
      go_simp
      try with_reducible rfl
    try simp only [Act.put, List.setIfInBounds_toArray, List.set_cons_zero, List.set_cons_succ]
    refine wpAnyH_take (i := 6) (oi := ?_) (v := ?_) ?_ (by kernel_rfl) (by kernel_rfl) (by kernel_rfl) ?_ (Or.inl ⟨?_, ?_⟩) hHeld ?_
    rotate_left 2
    · conv => lhs; simp only [List.getElem?_toArray, List.getElem?_cons_succ, List.getElem?_cons_zero]
    · exact fun _ _ _ h => h
    · rfl
    · intro W hSw
      have f0 : W.cell? ⟨w.heap.size, 2, none⟩ = some (Value.slice V.BA nB V.Bc) := by rw [← HNB.out]; exact (hSw.ka 0 rfl).cell 2 _ rfl
      go_simp
      try with_reducible rfl
    try simp only [Act.put, List.setIfInBounds_toArray, List.set_cons_zero, List.set_cons_succ]
    refine wpAnyH_take (i := 9) (oi := ?_) (v := ?_) ?_ (by kernel_rfl) (by kernel_rfl) (by kernel_rfl) ?_ (Or.inl ⟨?_, ?_⟩) hHeld ?_
    rotate_left 2
    · conv => lhs; simp only [List.getElem?_toArray, List.getElem?_cons_succ, List.getElem?_cons_zero]
    · exact fun _ _ _ h => h
    · rfl
    · intro W hSw
      go_simp
      try with_reducible rfl
    try simp only [Act.put, List.setIfInBounds_toArray, List.set_cons_zero, List.set_cons_succ]
    refine wpAnyH_take (i := 10) (oi := ?_) (v := ?_) ?_ (by kernel_rfl) (by kernel_rfl) (by kernel_rfl) ?_ (Or.inl ⟨?_, ?_⟩) hHeld ?_
    rotate_left 2
    · conv => lhs; simp only [List.getElem?_toArray, List.getElem?_cons_succ, List.getElem?_cons_zero]
    · exact fun _ _ _ h => h
    · rfl
    · intro W hSw
      have f0 := (hSw.ka 0 rfl).cell 5 _ rfl
      go_simp
      try with_reducible rfl
    try simp only [Act.put, List.setIfInBounds_toArray, List.set_cons_zero, List.set_cons_succ]
    refine wpAnyH_ready (rs := [4, 12]) (by kernel_rfl) (by simp) ?_
    refine AllReadyH.cons (o := ?_) ?_ (fun K hK => ?_) ?_
    rotate_left 1
    · conv => lhs; simp only [List.getElem?_toArray, List.getElem?_cons_succ, List.getElem?_cons_zero]
    · go_simp
      have hlt := hHeld.rlt
      refine (C1.out _ hHeld.up).mono ?_
      rintro e wC ⟨A1, c1, rfl, hcc, hc1, hb⟩
      have hc1 := hc1.lo (pl' := fun x => w.heap.size + 1 < x) (fun x hx => Nat.lt_of_lt_of_le hlt hx)
      go_wp2_with fail
      refine hK.out _ _ (hHeld.next hb) (fun hHeld => ?_)
      clear hK K hb
      try simp only [Act.put, List.setIfInBounds_toArray, List.set_cons_zero, List.set_cons_succ]
      refine wpAnyH_ready (rs := [7, 12]) (by kernel_rfl) (by simp) ?_
      refine AllReadyH.cons (o := ?_) ?_ (fun K hK => ?_) ?_
      rotate_left 1
      · conv => lhs; simp only [List.getElem?_toArray, List.getElem?_cons_succ, List.getElem?_cons_zero]
      · go_simp
        have hlt := hHeld.rlt
        refine (C2.out _ hHeld.up).mono ?_
        rintro e wD ⟨A0, c0, rfl, hd, hb⟩
        have hc1 := hc1.below hb
        go_wp2_with fail
        refine hK.out _ _ (hHeld.next hb) (fun hHeld => ?_)
        clear hK K hb
        try simp only [Act.put, List.setIfInBounds_toArray, List.set_cons_zero, List.set_cons_succ]
        refine wpAnyH_ready (rs := [8, 12]) (by kernel_rfl) (by simp) ?_
        refine AllReadyH.cons (o := ?_) ?_ (fun K hK => ?_) ?_
        rotate_left 1
        · conv => lhs; simp only [List.getElem?_toArray, List.getElem?_cons_succ, List.getElem?_cons_zero]
        · go_simp
          have hlt := hHeld.rlt
          refine (C3.out _ _ _ hd).mono ?_
          rintro e wR ⟨A2, c2, rfl, hr1, hb⟩
          have hr1 := hr1.lo (pl' := fun x => w.heap.size + 1 < x) (fun x hx => Nat.lt_of_lt_of_le hlt hx)
          have hc1 := hc1.below hb
          have hd := hd.below hb
          go_wp2_with fail
          refine hK.out _ _ (hHeld.next hb) (fun hHeld => ?_)
          clear hK K hb
          try simp only [Act.put, List.setIfInBounds_toArray, List.set_cons_zero, List.set_cons_succ]
          refine wpAnyH_take (i := 11) (oi := ?_) (v := (.agg (toC V A1 c1 A2 c2 (.slice none 0 0) (.slice none 0 0)).toArray)) ?_ (by kernel_rfl) (by kernel_rfl) (by kernel_rfl) ?_ (Or.inl ⟨?_, ?_⟩) hHeld ?_
          rotate_left 1
          · conv => lhs; simp only [List.getElem?_toArray, List.getElem?_cons_succ, List.getElem?_cons_zero]
          · exact fun _ _ _ h => h
          · rfl
          · intro W hSw
            exact tk_build rfl (by simpa [Act.eval] using HBD.out A1 c1 A2 c2)
          try simp only [Act.put, List.setIfInBounds_toArray, List.set_cons_zero, List.set_cons_succ]
          refine wpAnyH_ready (rs := [12]) (by kernel_rfl) (by simp) ?_
          refine AllReadyH.cons (o := ?_) ?_ (fun K hK => ?_) AllReadyH.nil
          rotate_left 1
          · conv => lhs; simp only [List.getElem?_toArray, List.getElem?_cons_succ, List.getElem?_cons_zero]
          go_simp
          have hlt := hHeld.rlt
          go_wp2_with fail
          refine hK.out _ _ (hHeld.next (up_alloc _ _)) (fun hHeld => ?_)
          clear hK K
          try simp only [Act.put, List.setIfInBounds_toArray, List.set_cons_zero, List.set_cons_succ]
          have hv := hHeld.vnew
          have hvlo := hlt
          have hc1 := RD.vnew hHeld hc1
          have hr1 := RD.vnew hHeld hr1
          refine wpAnyH_ready (rs := [13]) (by kernel_rfl) (by simp) ?_
          refine AllReadyH.cons (o := ?_) ?_ (fun K hK => ?_) AllReadyH.nil
          rotate_left 1
          · conv => lhs; simp only [List.getElem?_toArray, List.getElem?_cons_succ, List.getElem?_cons_zero]
          rw [if_pos (by rfl)]
          refine wp_store_row 40 (.tmp 3) (.tmp 19) rfl _ (toC V A1 c1 A2 c2 (.slice none 0 0) (.slice none 0 0)).toArray rfl rfl 40 _ hv info_vw rfl (al_one (toC_one _ _ _ _ _ _ _ _ _ _ _)) ?_
          have hz := ToV.of (A1 := A1) (A2 := A2) (c1 := c1) (c2 := c2) hv hvlo hcc hc1 hr1 hHeld
          refine hK.out _ _ hz.2.2.2.2.2 (fun hHeld => ?_)
          clear hK K
          refine wpAnyH_done (by kernel_rfl) ?_ _
          go_wp2_with fail
          go_meet
          exact ⟨_, _, _, _, _, rfl, hz⟩
        refine AllReadyH.cons (o := ?_) ?_ (fun K hK => ?_) AllReadyH.nil
        rotate_left 1
        · conv => lhs; simp only [List.getElem?_toArray, List.getElem?_cons_succ, List.getElem?_cons_zero]
        go_simp
        have hlt := hHeld.rlt
        go_wp2_with fail
        refine hK.out _ _ (hHeld.next (up_alloc _ _)) (fun hHeld => ?_)
        clear hK K
        try simp only [Act.put, List.setIfInBounds_toArray, List.set_cons_zero, List.set_cons_succ]
        have hv := hHeld.vnew
        have hvlo := hlt
        have hc1 := RD.vnew hHeld hc1
        have hd := DT.vnew hHeld hd
        refine wpAnyH_ready (rs := [8]) (by kernel_rfl) (by simp) ?_
        refine AllReadyH.cons (o := ?_) ?_ (fun K hK => ?_) AllReadyH.nil
        rotate_left 1
        · conv => lhs; simp only [List.getElem?_toArray, List.getElem?_cons_succ, List.getElem?_cons_zero]
        go_simp
        have hlt := hHeld.rlt
        refine (C3.out _ _ _ hd).mono ?_
        rintro e wR ⟨A2, c2, rfl, hr1, hb⟩
        have hr1 := hr1.lo (pl' := fun x => x ≠ _ ∧ w.heap.size + 1 < x) (fun x hx => ⟨Nat.ne_of_gt (Nat.lt_of_lt_of_le hv.lt hx), Nat.lt_of_lt_of_le hlt hx⟩)
        have hc1 := hc1.below hb
        have hd := hd.below hb
        have hv := hv.up hb hv.lt
        go_wp2_with fail
        refine hK.out _ _ (hHeld.next hb) (fun hHeld => ?_)
        clear hK K hb
        try simp only [Act.put, List.setIfInBounds_toArray, List.set_cons_zero, List.set_cons_succ]
        refine wpAnyH_take (i := 11) (oi := ?_) (v := (.agg (toC V A1 c1 A2 c2 (.slice none 0 0) (.slice none 0 0)).toArray)) ?_ (by kernel_rfl) (by kernel_rfl) (by kernel_rfl) ?_ (Or.inl ⟨?_, ?_⟩) hHeld ?_
        rotate_left 1
        · conv => lhs; simp only [List.getElem?_toArray, List.getElem?_cons_succ, List.getElem?_cons_zero]
        · exact fun _ _ _ h => h
        · rfl
        · intro W hSw
          exact tk_build rfl (by simpa [Act.eval] using HBD.out A1 c1 A2 c2)
        try simp only [Act.put, List.setIfInBounds_toArray, List.set_cons_zero, List.set_cons_succ]
        refine wpAnyH_ready (rs := [13]) (by kernel_rfl) (by simp) ?_
        refine AllReadyH.cons (o := ?_) ?_ (fun K hK => ?_) AllReadyH.nil
        rotate_left 1
        · conv => lhs; simp only [List.getElem?_toArray, List.getElem?_cons_succ, List.getElem?_cons_zero]
        rw [if_pos (by rfl)]
        refine wp_store_row 40 (.tmp 3) (.tmp 19) rfl _ (toC V A1 c1 A2 c2 (.slice none 0 0) (.slice none 0 0)).toArray rfl rfl 40 _ hv info_vw rfl (al_one (toC_one _ _ _ _ _ _ _ _ _ _ _)) ?_
        have hz := ToV.of (A1 := A1) (A2 := A2) (c1 := c1) (c2 := c2) hv hvlo hcc hc1 hr1 hHeld
        refine hK.out _ _ hz.2.2.2.2.2 (fun hHeld => ?_)
        clear hK K
        refine wpAnyH_done (by kernel_rfl) ?_ _
        go_wp2_with fail
        go_meet
        exact ⟨_, _, _, _, _, rfl, hz⟩
      refine AllReadyH.cons (o := ?_) ?_ (fun K hK => ?_) AllReadyH.nil
      rotate_left 1
      · conv => lhs; simp only [List.getElem?_toArray, List.getElem?_cons_succ, List.getElem?_cons_zero]
      go_simp
      have hlt := hHeld.rlt
      go_wp2_with fail
      refine hK.out _ _ (hHeld.next (up_alloc _ _)) (fun hHeld => ?_)
      clear hK K
      try simp only [Act.put, List.setIfInBounds_toArray, List.set_cons_zero, List.set_cons_succ]
      have hv := hHeld.vnew
      have hvlo := hlt
      have hc1 := RD.vnew hHeld hc1
      refine wpAnyH_ready (rs := [7]) (by kernel_rfl) (by simp) ?_
      refine AllReadyH.cons (o := ?_) ?_ (fun K hK => ?_) AllReadyH.nil
      rotate_left 1
      · conv => lhs; simp only [List.getElem?_toArray, List.getElem?_cons_succ, List.getElem?_cons_zero]
      go_simp
      have hlt := hHeld.rlt
      refine (C2.out _ hHeld.up).mono ?_
      rintro e wD ⟨A0, c0, rfl, hd, hb⟩
      have hc1 := hc1.below hb
      have hv := hv.up hb hv.lt
      go_wp2_with fail
      refine hK.out _ _ (hHeld.next hb) (fun hHeld => ?_)
      clear hK K hb
      try simp only [Act.put, List.setIfInBounds_toArray, List.set_cons_zero, List.set_cons_succ]
      refine wpAnyH_ready (rs := [8]) (by kernel_rfl) (by simp) ?_
      refine AllReadyH.cons (o := ?_) ?_ (fun K hK => ?_) AllReadyH.nil
      rotate_left 1
      · conv => lhs; simp only [List.getElem?_toArray, List.getElem?_cons_succ, List.getElem?_cons_zero]
      go_simp
      have hlt := hHeld.rlt
      refine (C3.out _ _ _ hd).mono ?_
      rintro e wR ⟨A2, c2, rfl, hr1, hb⟩
      have hr1 := hr1.lo (pl' := fun x => x ≠ _ ∧ w.heap.size + 1 < x) (fun x hx => ⟨Nat.ne_of_gt (Nat.lt_of_lt_of_le hv.lt hx), Nat.lt_of_lt_of_le hlt hx⟩)
      have hc1 := hc1.below hb
      have hd := hd.below hb
      have hv := hv.up hb hv.lt
      go_wp2_with fail
      refine hK.out _ _ (hHeld.next hb) (fun hHeld => ?_)
      clear hK K hb
      try simp only [Act.put, List.setIfInBounds_toArray, List.set_cons_zero, List.set_cons_succ]
      refine wpAnyH_take (i := 11) (oi := ?_) (v := (.agg (toC V A1 c1 A2 c2 (.slice none 0 0) (.slice none 0 0)).toArray)) ?_ (by kernel_rfl) (by kernel_rfl) (by kernel_rfl) ?_ (Or.inl ⟨?_, ?_⟩) hHeld ?_
      rotate_left 1
      · conv => lhs; simp only [List.getElem?_toArray, List.getElem?_cons_succ, List.getElem?_cons_zero]
      · exact fun _ _ _ h => h
      · rfl
      · intro W hSw
        exact tk_build rfl (by simpa [Act.eval] using HBD.out A1 c1 A2 c2)
      try simp only [Act.put, List.setIfInBounds_toArray, List.set_cons_zero, List.set_cons_succ]
      refine wpAnyH_ready (rs := [13]) (by kernel_rfl) (by simp) ?_
      refine AllReadyH.cons (o := ?_) ?_ (fun K hK => ?_) AllReadyH.nil
      rotate_left 1
      · conv => lhs; simp only [List.getElem?_toArray, List.getElem?_cons_succ, List.getElem?_cons_zero]
      rw [if_pos (by rfl)]
      refine wp_store_row 40 (.tmp 3) (.tmp 19) rfl _ (toC V A1 c1 A2 c2 (.slice none 0 0) (.slice none 0 0)).toArray rfl rfl 40 _ hv info_vw rfl (al_one (toC_one _ _ _ _ _ _ _ _ _ _ _)) ?_
      have hz := ToV.of (A1 := A1) (A2 := A2) (c1 := c1) (c2 := c2) hv hvlo hcc hc1 hr1 hHeld
      refine hK.out _ _ hz.2.2.2.2.2 (fun hHeld => ?_)
      clear hK K
      refine wpAnyH_done (by kernel_rfl) ?_ _
      go_wp2_with fail
      go_meet
      exact ⟨_, _, _, _, _, rfl, hz⟩
    refine AllReadyH.cons (o := ?_) ?_ (fun K hK => ?_) AllReadyH.nil
    rotate_left 1
    · conv => lhs; simp only [List.getElem?_toArray, List.getElem?_cons_succ, List.getElem?_cons_zero]
    go_simp
    have hlt := hHeld.rlt
    go_wp2_with fail
    refine hK.out _ _ (hHeld.next (up_alloc _ _)) (fun hHeld => ?_)
    clear hK K
    try simp only [Act.put, List.setIfInBounds_toArray, List.set_cons_zero, List.set_cons_succ]
    have hv := hHeld.vnewd
    have hvlo := hlt
    refine wpAnyH_ready (rs := [4]) (by kernel_rfl) (by simp) ?_
    refine AllReadyH.cons (o := ?_) ?_ (fun K hK => ?_) AllReadyH.nil
    rotate_left 1
    · conv => lhs; simp only [List.getElem?_toArray, List.getElem?_cons_succ, List.getElem?_cons_zero]
    go_simp
    have hlt := hHeld.rlt
    refine (C1.out _ hHeld.up).mono ?_
    rintro e wC ⟨A1, c1, rfl, hcc, hc1, hb⟩
    have hc1 := hc1.lo (pl' := fun x => x ≠ _ ∧ w.heap.size + 1 < x) (fun x hx => ⟨Nat.ne_of_gt (Nat.lt_of_lt_of_le hv.lt hx), Nat.lt_of_lt_of_le hlt hx⟩)
    have hv := hv.up hb hv.lt
    go_wp2_with fail
    refine hK.out _ _ (hHeld.next hb) (fun hHeld => ?_)
    clear hK K hb
    try simp only [Act.put, List.setIfInBounds_toArray, List.set_cons_zero, List.set_cons_succ]
    refine wpAnyH_ready (rs := [7]) (by kernel_rfl) (by simp) ?_
    refine AllReadyH.cons (o := ?_) ?_ (fun K hK => ?_) AllReadyH.nil
    rotate_left 1
    · conv => lhs; simp only [List.getElem?_toArray, List.getElem?_cons_succ, List.getElem?_cons_zero]
    go_simp
    have hlt := hHeld.rlt
    refine (C2.out _ hHeld.up).mono ?_
    rintro e wD ⟨A0, c0, rfl, hd, hb⟩
    have hc1 := hc1.below hb
    have hv := hv.up hb hv.lt
    go_wp2_with fail
    refine hK.out _ _ (hHeld.next hb) (fun hHeld => ?_)
    clear hK K hb
    try simp only [Act.put, List.setIfInBounds_toArray, List.set_cons_zero, List.set_cons_succ]
    refine wpAnyH_ready (rs := [8]) (by kernel_rfl) (by simp) ?_
    refine AllReadyH.cons (o := ?_) ?_ (fun K hK => ?_) AllReadyH.nil
    rotate_left 1
    · conv => lhs; simp only [List.getElem?_toArray, List.getElem?_cons_succ, List.getElem?_cons_zero]
    go_simp
    have hlt := hHeld.rlt
    refine (C3.out _ _ _ hd).mono ?_
    rintro e wR ⟨A2, c2, rfl, hr1, hb⟩
    have hr1 := hr1.lo (pl' := fun x => x ≠ _ ∧ w.heap.size + 1 < x) (fun x hx => ⟨Nat.ne_of_gt (Nat.lt_of_lt_of_le hv.lt hx), Nat.lt_of_lt_of_le hlt hx⟩)
    have hc1 := hc1.below hb
    have hd := hd.below hb
    have hv := hv.up hb hv.lt
    go_wp2_with fail
    refine hK.out _ _ (hHeld.next hb) (fun hHeld => ?_)
    clear hK K hb
    try simp only [Act.put, List.setIfInBounds_toArray, List.set_cons_zero, List.set_cons_succ]
    refine wpAnyH_take (i := 11) (oi := ?_) (v := (.agg (toC V A1 c1 A2 c2 (.slice none 0 0) (.slice none 0 0)).toArray)) ?_ (by kernel_rfl) (by kernel_rfl) (by kernel_rfl) ?_ (Or.inl ⟨?_, ?_⟩) hHeld ?_
    rotate_left 1
    · conv => lhs; simp only [List.getElem?_toArray, List.getElem?_cons_succ, List.getElem?_cons_zero]
    · exact fun _ _ _ h => h
    · rfl
    · intro W hSw
      exact tk_build rfl (by simpa [Act.eval] using HBD.out A1 c1 A2 c2)
    try simp only [Act.put, List.setIfInBounds_toArray, List.set_cons_zero, List.set_cons_succ]
    refine wpAnyH_ready (rs := [13]) (by kernel_rfl) (by simp) ?_
    refine AllReadyH.cons (o := ?_) ?_ (fun K hK => ?_) AllReadyH.nil
    rotate_left 1
    · conv => lhs; simp only [List.getElem?_toArray, List.getElem?_cons_succ, List.getElem?_cons_zero]
    rw [if_pos (by rfl)]
    refine wp_store_row 40 (.tmp 3) (.tmp 19) rfl _ (toC V A1 c1 A2 c2 (.slice none 0 0) (.slice none 0 0)).toArray rfl rfl 40 _ hv info_vw rfl (al_one (toC_one _ _ _ _ _ _ _ _ _ _ _)) ?_
    have hz := ToV.of (A1 := A1) (A2 := A2) (c1 := c1) (c2 := c2) hv hvlo hcc hc1 hr1 hHeld
    refine hK.out _ _ hz.2.2.2.2.2 (fun hHeld => ?_)
    clear hK K
    refine wpAnyH_done (by kernel_rfl) ?_ _
    go_wp2_with fail
    go_meet
    exact ⟨_, _, _, _, _, rfl, hz⟩
  case rest =>
    obtain ⟨b, A1, c1, A2, c2, rfl, hto⟩ := hcut
    have HT := Lib.hid hto
    have HU := Lib.hid hto.2.2.2.2.2.up
    have c3 : wc.cell? ⟨w.heap.size, 3, none⟩ = some (.slice WA V.Wq.length V.Wc) := by rw [← HWA.out]; exact (hto.2.2.2.2.2.ka 0 rfl).cell 3 _ rfl
    have HLB := Lib.hid hto.1
    have HBC : Hid (b < wc.heap.size) := Lib.hid hto.2.1.lt
    clear hto
    go_wp2_with fail
    go_loopw [23] (fun i wr => ∃ k : Nat, k ≤ V.Wq.length ∧ i = .int .i64 k ∧ ∃ A c, Blk wr b (toC V A1 c1 A2 c2 (.slice A k c) (.slice none 0 0)) 40 ∧ wr.ownsRow wc.heap.size 61 2 (.slice A k c) k ((V.Wq.take k).flatMap wqC) ∧ Only (· = b) wc wr) (fun i _ => V.Wq.length - (intOf i).toNat)
    case atStart => exact ⟨0, Nat.zero_le _, rfl, none, 0, HT.out.2.1, World.ownsRow_nil _ _ _ _, Only.refl _ _⟩
    case round =>
      rename World => wr
      obtain ⟨k, hk, rfl, A, c, hbk, hown, hon⟩ := hrel
      have HON := Lib.hid hon
      have HBK := Lib.hid hbk
      have HO := Lib.hid hown
      have HUW : Hid (Below w.heap.size w wr) := Lib.hid (HU.out.trans (hon.toBelow HU.out.size (fun k hk => by have := HLB.out; omega)))
      by_cases hlt : k < V.Wq.length
      · obtain ⟨B, of, q, rfl, _, _, hq, hrg, _⟩ := (HWT.out _ HUW.out).at_ k hlt
        have HS : Hid (V.Wq.take (k + 1) = V.Wq.take k ++ [q]) := Lib.hid (by rw [List.take_add_one, hq]; rfl)
        have HRG : Hid (wr.rangeAt B (of + k * 2) (wqC q)) := Lib.hid hrg
        have hup := up_alloc wr (.cells (wqC q).toArray 67)
        have HBX := Lib.hid (Blk.new wr (wqC q) 67)
        have c3 : (wr.alloc (.cells (wqC q).toArray 67)).cell? ⟨b, 3, none⟩ = some (.slice A k c) := (hbk.up hup hbk.lt).cell 3 _ rfl
        have HO3 := Lib.hid (own_below (own_below hown hup) (up_alloc _ (.cells (wqC q).toArray 61)))
        have HB3 := Lib.hid ((hbk.up hup hbk.lt).alloc (.cells (wqC q).toArray 61))
        have HN3 := Lib.hid ((hon.alloc (.cells (wqC q).toArray 67)).alloc (.cells (wqC q).toArray 61))
        have HY : Hid (wc.heap.size ≤ ((wr.alloc (.cells (wqC q).toArray 67)).alloc (.cells (wqC q).toArray 61)).heap.size) := Lib.hid HN3.out.size
        clear hq hrg hown hbk hon hup
        go_wp2_with (first | (refine lmr (b := B) (q := of + k * 2) (cs := wqC q) (.tmp 25) rfl rfl Tryz.underlying67 rfl info_rwt rfl ?_ ?_; (· exact HRG.out)) | (refine snr (t := 67) (W := wr) (cs := wqC q) (zs := [.int .i64 0, .slice none 0 0]) (.tmp 5) (.tmp 26) rfl rfl rfl rfl info_rwt rfl wqC_one ?_ ?_ ?_; (· rfl); (· rfl)) | (refine ldr (b := wr.heap.size) (cs := wqC q) (t := 67) (.tmp 5) rfl rfl Tryz.underlying67 rfl info_rwt rfl ?_ ?_; (· exact HBX.out)) | (refine wpList_oneW ei_pw rfl (.tmp 29) rfl q rfl ?_) | (at_builtin; refine wpList_app ei_pw rfl (.tmp 28) (.tmp 30) rfl _ _ rfl HO3.out rfl (RD.oneK wK (q := q) (by simp)) (wK.oneL [q]) (by omega) HY.out ?_; intro v4 w4 hown4 hb4; obtain ⟨A4, d4, rfl, _, _, _⟩ := own_slice hown4; have c4 := (HB3.out.up hb4 HBC.out).cell 3 _ rfl; have f4 := (HB3.out.up hb4 HBC.out).free 3; have HO4 := Lib.hid hown4; have HB4 := Lib.hid hb4; clear hown4 hb4))
        go_roundw
        case rel => exact ⟨k + 1, by omega, by go_num, _, _, (HB3.out.up HB4.out HBC.out).set 3 _, by rw [HS.out, List.flatMap_append]; exact own_only HO4.out ((Only.refl (· = b) _).put 3 _) (fun k hk => by have := HBC.out; omega), (HN3.out.blw HB4.out).put 3 _⟩
        case measure => simp [intOf]; omega
      · obtain rfl : k = V.Wq.length := by omega
        have HO9 : Hid (wr.ownsRow wc.heap.size 61 2 (.slice A V.Wq.length c) V.Wq.length (V.Wq.flatMap wqC)) := Lib.hid (by
          have h9 := hown
          rwa [List.take_of_length_le (Nat.le_refl _)] at h9)
        have hBL := HT.out.2.2.2.2.2.only hon (by have := HLB.out; omega) (fun x hx => by
          obtain rfl : x = (w.heap.size, vC V, 28) := by simpa using hx
          show w.heap.size < b
          have := HLB.out
          omega)
        have HBL := Lib.hid hBL
        have c4 : wr.cell? ⟨w.heap.size, 4, none⟩ = some (.slice TA V.Tq.length V.Tc) := by rw [← HTA.out]; exact (hBL.ka 0 rfl).cell 4 _ rfl
        have HBD4 : Hid (b < wr.heap.size) := Lib.hid hbk.lt
        generalize c = cW at HBK HO9 hbk
        generalize A = AW at HBK HO9 hbk
        clear hown hbk hon hBL c3 HO
        go_wp2_with fail
        go_loopw [37] (fun i ws => ∃ k : Nat, k ≤ V.Tq.length ∧ i = .int .i64 k ∧ ∃ A c, Blk ws b (toC V A1 c1 A2 c2 (.slice AW V.Wq.length cW) (.slice A k c)) 40 ∧ ws.ownsRow wr.heap.size 82 3 (.slice A k c) k ((V.Tq.take k).flatMap tmV) ∧ Only (· = b) wr ws) (fun i _ => V.Tq.length - (intOf i).toNat)
        case atStart => exact ⟨0, Nat.zero_le _, rfl, none, 0, HBK.out, World.ownsRow_nil _ _ _ _, Only.refl _ _⟩
        case round =>
          rename World => ws
          obtain ⟨k, hk, rfl, A, c, hbk, hown, hon⟩ := hrel
          have HON2 := Lib.hid hon
          have HBK2 := Lib.hid hbk
          have HUS : Hid (Below w.heap.size w ws) := Lib.hid (HUW.out.trans (hon.toBelow HUW.out.size (fun k hk => by have := HLB.out; omega)))
          by_cases hlt : k < V.Tq.length
          · have hex : ∃ t, V.Tq[k]? = some t := ⟨_, List.getElem?_eq_getElem hlt⟩
            obtain ⟨q, hq⟩ := hex
            obtain ⟨B, of, rfl, _, _, hrg⟩ := RD.row' tmV_len (HTM.out _ HUS.out) hq hlt
            have HS : Hid (V.Tq.take (k + 1) = V.Tq.take k ++ [q]) := Lib.hid (by rw [List.take_add_one, hq]; rfl)
            have HRG : Hid (ws.rangeAt B (of + k * 3) (tmV q)) := Lib.hid hrg
            have hup := up_alloc ws (.cells (tmV q).toArray 69)
            have HBX := Lib.hid (Blk.new ws (tmV q) 69)
            have c5 : (ws.alloc (.cells (tmV q).toArray 69)).cell? ⟨b, 4, none⟩ = some (.slice A k c) := (hbk.up hup hbk.lt).cell 4 _ rfl
            have HO3 := Lib.hid (own_below (own_below hown hup) (up_alloc _ (.cells (tmV q).toArray 82)))
            have HB3 := Lib.hid ((hbk.up hup hbk.lt).alloc (.cells (tmV q).toArray 82))
            have HN3 := Lib.hid ((hon.alloc (.cells (tmV q).toArray 69)).alloc (.cells (tmV q).toArray 82))
            have HY : Hid (wr.heap.size ≤ ((ws.alloc (.cells (tmV q).toArray 69)).alloc (.cells (tmV q).toArray 82)).heap.size) := Lib.hid HN3.out.size
            have HRK : Hid (RD ((ws.alloc (.cells (tmV q).toArray 69)).alloc (.cells (tmV q).toArray 82)) tt 3 (some ⟨(ws.alloc (.cells (tmV q).toArray 69)).heap.size, 0, none⟩) 1 ([q].flatMap tmV)) := Lib.hid (RD.of_blk (xs := [q].flatMap tmV) (t := 82) (by simpa using Blk.new (ws.alloc (.cells (tmV q).toArray 69)) (tmV q) 82) (by simp [tmV]) trivial)
            have HT1 : Hid (∀ u ∈ [q].flatMap tmV, u.oneCell' = true) := Lib.hid (fun u hu => by
              obtain ⟨x, _, hx⟩ := List.mem_flatMap.1 hu
              exact tmV_one9 x u hx)
            clear hq hrg hown hbk hon hup c4
            go_wp2_with (first | (refine lmr (b := B) (q := of + k * 3) (cs := tmV q) (.tmp 39) rfl rfl Tryz.underlying69 rfl info_rtm rfl ?_ ?_; (· exact HRG.out)) | (refine snr (t := 69) (W := ws) (cs := tmV q) (zs := tmV ⟨0, 0, 0⟩) (.tmp 7) (.tmp 40) rfl rfl rfl rfl info_rtm rfl (tmV_one9 _) ?_ ?_ ?_; (· rfl); (· rfl)) | (refine ldr (b := ws.heap.size) (cs := tmV q) (t := 69) (.tmp 7) rfl rfl Tryz.underlying69 rfl info_rtm rfl ?_ ?_; (· exact HBX.out)) | (refine wpList_oneTm ei_pt rfl (.tmp 43) rfl q rfl ?_) | (at_builtin; refine wpList_app ei_pt rfl (.tmp 42) (.tmp 44) rfl _ _ rfl HO3.out rfl HRK.out HT1.out (by omega) HY.out ?_; intro v4 w4 hown4 hb4; obtain ⟨A4, d4, rfl, _, _, _⟩ := own_slice hown4; have c6 := (HB3.out.up hb4 HBD4.out).cell 4 _ rfl; have f6 := (HB3.out.up hb4 HBD4.out).free 4; have HO4 := Lib.hid hown4; have HB4 := Lib.hid hb4; clear hown4 hb4))
            go_roundw
            case rel => exact ⟨k + 1, by omega, by go_num, _, _, (HB3.out.up HB4.out HBD4.out).set 4 _, by rw [HS.out, List.flatMap_append]; exact own_only HO4.out ((Only.refl (· = b) _).put 4 _) (fun k hk => by have := HBD4.out; omega), (HN3.out.blw HB4.out).put 4 _⟩
            case measure => simp [intOf]; omega
          · obtain rfl : k = V.Tq.length := by omega
            have HO8 : Hid (ws.ownsRow wr.heap.size 82 3 (.slice A V.Tq.length c) V.Tq.length (V.Tq.flatMap tmV)) := Lib.hid (by
              have h9 := hown
              rwa [List.take_of_length_le (Nat.le_refl _)] at h9)
            have hBL := HBL.out.only hon (by have := HLB.out; omega) (fun x hx => by
              obtain rfl : x = (w.heap.size, vC V, 28) := by simpa using hx
              show w.heap.size < b
              have := HLB.out
              omega)
            obtain ⟨ds, hds, hres⟩ := hBL.res
            have HRS := Lib.hid hres
            have HDS := Lib.hid (show ds.length = 6 from hds)
            have HFIN := Lib.hid (fun dd : Array Value => ToP.of HR.out HT.out HON.out hon HO9.out HO8.out dd)
            clear hown hbk hon hBL c4 hds hres
            go_wp2_with (first | (refine ldr (b := b) (cs := toC V A1 c1 A2 c2 (.slice AW V.Wq.length cW) (.slice A V.Tq.length c)) (t := 40) (.tmp 3) rfl rfl Tryz.underlying40 rfl info_vw rfl ?_ ?_; (· exact HBK2.out)) | (refine str (b := w.heap.size + 1) (t := 40) (cs := toC V A1 c1 A2 c2 (.slice AW V.Wq.length cW) (.slice A V.Tq.length c)) (ds := ds) (.tmp 2) (.tmp 48) rfl rfl rfl rfl info_vw HDS.out (toC_one _ _ _ _ _ _ _ _ _ _ _) ?_ ?_; (· exact HRS.out)))
            refine bodyPost_ret (v := .agg (toC V A1 c1 A2 c2 (.slice AW V.Wq.length cW) (.slice A V.Tq.length c)).toArray) (results_c (fn := Tryz.f8) (p := 2) rfl _ _ _ rfl (HRS.out.row _) Tryz.underlying40 rfl info_vw) rfl ?_
            exact HFIN.out _

end Go.Proofs.YtdiiilnebepfdaaGreatDoor

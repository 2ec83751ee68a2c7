/- The contracts of the document's Pop. -/
import Derived.Test.YthakcjabeekihaaQs
import Derived.Deep.RegionHeld3
namespace Go.Proofs.Ythakcjabeekihaa
open Go.RowKit

/-- The world of a function that boxes its pool, and has a cell for the pool that it gives. -/
structure QBox (w w2 : World) (room : Int) (A : Option Addr) (n c : Nat) : Prop where
  up : Below w.heap.size w w2
  box : Blk w2 w.heap.size [.int .i64 room, .slice A n c] 30
  res : Blk w2 (w.heap.size + 1) [.int .i64 0, .slice none 0 0] 30
theorem qbox (w : World) (room : Int) (A : Option Addr) (n c : Nat) :
    QBox w ((w.alloc (.cells #[.int .i64 room, .slice A n c] 30)).alloc (.cells #[.int .i64 0, .slice none 0 0] 30)) room A n c := by
  refine ⟨up_trans (up_alloc _ _) (up_alloc _ _), (box2c w _ _ _).alloc _, ?_⟩
  have := box2c (w.alloc (.cells #[.int .i64 room, .slice A n c] 30)) (.int .i64 0) (.slice none 0 0) 30
  simpa using this

/-- A document's pool that has those lists, in a result of the form mk. -/
def DPost (w : World) (pl : Nat → Prop) (room : Int) (Vs : List (List Int)) (mk : Value → Value) (e : Ending) (w' : World) : Prop :=
  ∃ D A c, e = .returned (mk (.agg #[.int .i64 room, .slice A D.length c])) ∧ RQ w' pl D A c ∧ numsD D = Vs ∧ Below w.heap.size w w'
theorem d_same {w w3 : World} {pl : Nat → Prop} {D : List DQ} {A : Option Addr} {c : Nat} (h0 : RQ w pl D A c) (room : Int) (mk : Value → Value) (up : Below w.heap.size w w3) :
    DPost w pl room (numsD D) mk (.returned (mk (.agg #[.int .i64 room, .slice A D.length c]))) ((w3.setCell ⟨w.heap.size + 1, 0, none⟩ (.int .i64 room)).setCell ⟨w.heap.size + 1, 1, none⟩ (.slice A D.length c)) := by
  have up4 := (up.setCell (p := ⟨w.heap.size + 1, 0, none⟩) (by simp) (.int .i64 room)).setCell (p := ⟨w.heap.size + 1, 1, none⟩) (by simp) (.slice A D.length c)
  exact ⟨D, A, c, rfl, h0.below up4, rfl, up4⟩
theorem d_put {w w3 : World} {pl : Nat → Prop} {D : List DQ} {A : Option Addr} {c : Nat} {Vs : List (List Int)} (h3 : RQ w3 (fun b => pl b ∧ b ≠ w.heap.size + 1) D A c) (hn : numsD D = Vs) (room : Int) (mk : Value → Value) (up : Below w.heap.size w w3) :
    DPost w pl room Vs mk (.returned (mk (.agg #[.int .i64 room, .slice A D.length c]))) ((w3.setCell ⟨w.heap.size + 1, 0, none⟩ (.int .i64 room)).setCell ⟨w.heap.size + 1, 1, none⟩ (.slice A D.length c)) := by
  have up4 := (up.setCell (p := ⟨w.heap.size + 1, 0, none⟩) (by simp) (.int .i64 room)).setCell (p := ⟨w.heap.size + 1, 1, none⟩) (by simp) (.slice A D.length c)
  have ho : Only (· = w.heap.size + 1) w3 ((w3.setCell ⟨w.heap.size + 1, 0, none⟩ (.int .i64 room)).setCell ⟨w.heap.size + 1, 1, none⟩ (.slice A D.length c)) := ((Only.refl _ _).put _ _).put _ _
  exact ⟨D, A, c, rfl, (h3.only ho (fun k e h => h.2 e)).lo (fun b _ h => h.1), hn, up4⟩

theorem dok_of {w : World} {lo n : Nat} {v : Value} {zs : List Int} {pl : Nat → Prop} (h : w.ownsRow lo 3 1 v n (zs.map (Value.int .i64))) (hl : ∀ b, lo ≤ b → pl b) (hf : zs.length ≤ 1024) : ∃ A c, v = .slice A n c ∧ DOk w pl (A, c, zs) := by
  obtain ⟨A, c, rfl, h1, h2, h3⟩ := own_slice h
  obtain rfl : n = zs.length := by have := h.1; simpa using this.symm
  exact ⟨A, c, rfl, h3.lo hl, h1, h2, hf⟩

theorem nums_set (D : List DQ) (q : Nat) (d : DQ) : numsD (D.set q d) = (numsD D).set q d.2.2 := by
  unfold numsD
  rw [List.map_set]
theorem nums_get {D : List DQ} {q : Nat} {d : DQ} (h : D[q]? = some d) : (numsD D)[q]? = some d.2.2 := by simp [numsD, h]

/-! What holds in the regions that draw: nothing old has turned but for the result's block r; the box and the queue's slice read so. -/
theorem dr_S {w W : World} {r b : Nat} {t : TypeId} {u v : Value} {a : Addr} {x : Value} (h : Blk w b [u, v] t) (hr : b ≠ r) (ha : w.cell? a = some x) (hl : a.block < w.heap.size) (har : a.block ≠ r) (hb : Only (· = r) w W) (hR : ∃ y z, Blk W r [y, z] t) :
    Only (· = r) w W ∧ W.cell? ⟨b, 0, none⟩ = some u ∧ W.cell? ⟨b, 1, none⟩ = some v ∧ W.cell? a = some x ∧ ∃ y z, Blk W r [y, z] t :=
  ⟨hb, (h.only hb hr).cell 0 _ rfl, (h.only hb hr).cell 1 _ rfl, (World.cell?_of_block (hb.block a.block hl har)).trans ha, hR⟩
theorem dr_next {w W W' : World} {r b : Nat} {t : TypeId} {u v : Value} {a : Addr} {x : Value} (h : Blk w b [u, v] t) (hr : b ≠ r) (ha : w.cell? a = some x) (hl : a.block < w.heap.size) (har : a.block ≠ r) (k : Below W.heap.size W W')
    (hb : Only (· = r) w W ∧ W.cell? ⟨b, 0, none⟩ = some u ∧ W.cell? ⟨b, 1, none⟩ = some v ∧ W.cell? a = some x ∧ ∃ y z, Blk W r [y, z] t) :
    Only (· = r) w W' ∧ W'.cell? ⟨b, 0, none⟩ = some u ∧ W'.cell? ⟨b, 1, none⟩ = some v ∧ W'.cell? a = some x ∧ ∃ y z, Blk W' r [y, z] t := dr_S h hr ha hl har (hb.1.below_trans k) (by
  obtain ⟨y, z, hR⟩ := hb.2.2.2.2
  exact ⟨y, z, hR.up k hR.lt⟩)
theorem Only.below_lo {s : Nat → Prop} {a b c : World} {lo : Nat} (h : Only s a b) (k : Below lo b c) (hlo : a.heap.size ≤ lo) : Only s a c :=
  ⟨k.os.trans h.os, k.tape.trans h.tape, k.output.trans h.output, Nat.le_trans h.size k.size, fun i hi hs => (k.block i (by omega)).trans (h.block i hi hs)⟩
theorem dr_low {w W W' : World} {r b : Nat} {t : TypeId} {u v : Value} {a : Addr} {x : Value} (h : Blk w b [u, v] t) (hr : b ≠ r) (ha : w.cell? a = some x) (hl : a.block < w.heap.size) (har : a.block ≠ r) {lo : Nat} (k : Below lo W W') (hlo : w.heap.size ≤ lo) (hrl : r < w.heap.size)
    (hb : Only (· = r) w W ∧ W.cell? ⟨b, 0, none⟩ = some u ∧ W.cell? ⟨b, 1, none⟩ = some v ∧ W.cell? a = some x ∧ ∃ y z, Blk W r [y, z] t) :
    Only (· = r) w W' ∧ W'.cell? ⟨b, 0, none⟩ = some u ∧ W'.cell? ⟨b, 1, none⟩ = some v ∧ W'.cell? a = some x ∧ ∃ y z, Blk W' r [y, z] t := dr_S h hr ha hl har (hb.1.below_lo k hlo) (by
  obtain ⟨y, z, hR⟩ := hb.2.2.2.2
  exact ⟨y, z, hR.up k (by omega)⟩)
theorem dr_put {w W : World} {r b : Nat} {t : TypeId} {u v : Value} {a : Addr} {x : Value} (h : Blk w b [u, v] t) (hr : b ≠ r) (ha : w.cell? a = some x) (hl : a.block < w.heap.size) (har : a.block ≠ r) (y1 z1 : Value)
    (hb : Only (· = r) w W ∧ W.cell? ⟨b, 0, none⟩ = some u ∧ W.cell? ⟨b, 1, none⟩ = some v ∧ W.cell? a = some x ∧ ∃ y z, Blk W r [y, z] t) :
    Only (· = r) w ((W.setCell ⟨r, 0, none⟩ y1).setCell ⟨r, 1, none⟩ z1) ∧ ((W.setCell ⟨r, 0, none⟩ y1).setCell ⟨r, 1, none⟩ z1).cell? ⟨b, 0, none⟩ = some u ∧ ((W.setCell ⟨r, 0, none⟩ y1).setCell ⟨r, 1, none⟩ z1).cell? ⟨b, 1, none⟩ = some v ∧ ((W.setCell ⟨r, 0, none⟩ y1).setCell ⟨r, 1, none⟩ z1).cell? a = some x ∧ ∃ y z, Blk ((W.setCell ⟨r, 0, none⟩ y1).setCell ⟨r, 1, none⟩ z1) r [y, z] t := dr_S h hr ha hl har ((hb.1.put _ _).put _ _) (by
  obtain ⟨y', z', hR⟩ := hb.2.2.2.2
  exact ⟨y1, z1, (hR.set 0 y1).set 1 z1⟩)
theorem dr_res {w W W' : World} {r b : Nat} {t : TypeId} {u v : Value} {a : Addr} {x : Value} (k : Below W.heap.size W W')
    (hb : Only (· = r) w W ∧ W.cell? ⟨b, 0, none⟩ = some u ∧ W.cell? ⟨b, 1, none⟩ = some v ∧ W.cell? a = some x ∧ ∃ y z, Blk W r [y, z] t) : ∃ y z, Blk W' r [y, z] t := by
  obtain ⟨y, z, hR⟩ := hb.2.2.2.2
  exact ⟨y, z, hR.up k hR.lt⟩
theorem dr_only {w W W' : World} {r b : Nat} {t : TypeId} {u v : Value} {a : Addr} {x : Value} (k : Below W.heap.size W W')
    (hb : Only (· = r) w W ∧ W.cell? ⟨b, 0, none⟩ = some u ∧ W.cell? ⟨b, 1, none⟩ = some v ∧ W.cell? a = some x ∧ ∃ y z, Blk W r [y, z] t) : Only (· = r) w W' := hb.1.below_trans k

set_option maxHeartbeats 1000000 in
theorem c_rpop_no {w : World} {pl : Nat → Prop} {D : List DQ} {A : Option Addr} {c : Nat} (h0 : RQ w pl D A c) (room q er : Int) (he : (er != 0) = true)
    (C0 : ∀ W, Below w.heap.size w W → Calls Try.prog 25 #[.agg #[.int .i64 room, .slice A D.length c], .int .i64 q] W fun e w' => e = .returned (.tuple #[.int .i64 0, .int .i64 er]) ∧ Below W.heap.size W w') :
    Calls Try.prog 12 #[.agg #[.int .i64 room, .slice A D.length c], .int .i64 q] w (DPost w pl room (numsD D) fun v => .tuple #[v, .int .i64 0, .int .i64 er]) := by
  have hX := qbox w room A D.length c
  generalize hw2 : (w.alloc (.cells #[.int .i64 room, .slice A D.length c] 30)).alloc (.cells #[.int .i64 0, .slice none 0 0] 30) = w2 at hX
  have C := Lib.hid (C0 w2 hX.up)
  have HW := Lib.hid hw2
  have hz := hX.res.lt
  clear hw2 C0
  go_enter Try.func12, Try.ntmps12
  go_wp2_with fail
  rw [HW.out]
  refine Calls.mono C.out ?_
  rintro e w3 ⟨rfl, hb3⟩
  have hB := hX.box.up hb3 hX.box.lt
  have hR := hX.res.up hb3 hX.res.lt
  have c0 := hB.cell 0 _ rfl
  have c1 := hB.cell 1 _ rfl
  have r0 := hR.cell 0 _ rfl
  have r1 := hR.cell 1 _ rfl
  have f0 := hR.free 0
  have f1 := hR.free 1
  go_wp2_with fail
  refine bodyPost_ret (v := .tuple #[.agg #[.int .i64 room, .slice A D.length c], .int .i64 0, .int .i64 er]) (by simp [results, Try.results12, go_sem, r0, r1]) rfl ?_
  exact d_same h0 room _ (up_trans hX.up hb3)

set_option maxHeartbeats 4000000 in
theorem c_rpop_ok {w : World} {pl : Nat → Prop} {D : List DQ} {A : Option Addr} {c : Nat} (h0 : RQ w pl D A c) (hq : ∀ b, w.heap.size ≤ b → pl b) (room : Int) (q : Nat) (d : DQ) (hd : D[q]? = some d) (x : Int) (l : List Int) (he : d.2.2 = x :: l) :
    Calls Try.prog 12 #[.agg #[.int .i64 room, .slice A D.length c], .int .i64 q] w (DPost w pl room ((numsD D).set q l) fun v => .tuple #[v, .int .i64 x, .int .i64 0]) := by
  have hX := qbox w room A D.length c
  generalize hw2 : (w.alloc (.cells #[.int .i64 room, .slice A D.length c] 30)).alloc (.cells #[.int .i64 0, .slice none 0 0] 30) = w2 at hX
  have h2 := h0.below hX.up
  have C := Lib.hid (c_rfirst_ok h2 room q d hd x l he)
  have HW := Lib.hid hw2
  have hz := hX.res.lt
  have hql := (List.getElem?_eq_some_iff.1 hd).1
  have hq2 := h0.q2
  have hql2 : (q : Int) < D.length := by omega
  have hq0 : (0 : Int) ≤ q := by omega
  have HD := Lib.hid hd
  have HE := Lib.hid he
  clear hw2 hd he
  go_enter Try.func12, Try.ntmps12
  go_wp2_with fail
  rw [HW.out]
  refine Calls.mono C.out ?_
  rintro e w3 ⟨rfl, hb3⟩
  have hB := hX.box.up hb3 hX.box.lt
  have hR := hX.res.up hb3 hX.res.lt
  have hz3 := hR.lt
  have h3 := h2.below hb3
  have h3' : RQ w3 (fun b => pl b ∧ b ≠ w.heap.size + 1) D A c := ((h0.lo (pl' := fun b => pl b ∧ b ≠ w.heap.size + 1) fun b hb hp => ⟨hp, by omega⟩).below hX.up).below hb3
  have hq3 : ∀ b, w3.heap.size ≤ b → pl b ∧ b ≠ w.heap.size + 1 := fun b hb => ⟨hq b (by omega), by omega⟩
  obtain ⟨b, o, rfl, hpb, hlb, hA⟩ := h3'.at_
  have hr1 : w.heap.size ≠ w.heap.size + 1 := by omega
  have hr2 := hpb.2
  have hA := hA q d HD.out
  have hok := h3'.inn d (List.mem_of_getElem? HD.out)
  obtain ⟨dA, dc, dl⟩ := d
  obtain rfl : dl = x :: l := HE.out
  obtain ⟨b2, o2, e2, _, hlb2, hA2⟩ := hok.rd.at_ (by simp)
  obtain rfl : dA = some ⟨b2, o2, none⟩ := e2
  simp only [sliceV, List.length_cons] at hA
  have hcap := hok.cap
  have htop := hok.top
  have hfew := hok.few
  simp only [List.length_cons] at hcap hfew
  simp only at htop
  unfold maxLen at htop
  have hrest := hok.rd.rest' 1 dc (by simp) hok.cap
  have hl1 : (1 : Int) ≤ ((l.length + 1 : Nat) : Int) := by omega
  have hrest : ∀ A', (if dc = 1 then some ⟨b2, o2, none⟩ else some ⟨b2, o2 + 1, none⟩) = A' → DOk w3 (fun b => pl b ∧ b ≠ w.heap.size + 1) (A', dc - 1, l) := by
    intro A' e
    subst e
    exact ⟨by simpa using hrest, by simp only; omega, by unfold maxLen; simp only; omega, by simp only; omega⟩
  have hn := nums_get HD.out
  have HNS := Lib.hid (fun A' => nums_set D q (A', dc - 1, l))
  by_cases hdc : dc = 1
  · subst hdc
    obtain rfl : l = [] := List.eq_nil_of_length_eq_zero (by omega)
    have hok2 := hrest _ (if_pos rfl)
    clear hA2 C hrest hn
    simp only [List.length_nil, Nat.zero_add] at hA
    go_wp2_with fail
    go_region_held3 (fun W => Only (· = w.heap.size + 1) w3 W ∧ W.cell? ⟨w.heap.size, 0, none⟩ = some (.int .i64 room) ∧ W.cell? ⟨w.heap.size, 1, none⟩ = some (.slice (some ⟨b, o, none⟩) D.length c) ∧ W.cell? ⟨b, o + q, none⟩ = some (.slice (some ⟨b2, o2, none⟩) 1 1) ∧ ∃ y z, Blk W (w.heap.size + 1) [y, z] 30)
      (first | exact dr_S hB hr1 hA hlb hr2 ((Only.refl _ _).drewN 1) ⟨_, _, hR⟩ | exact dr_next hB hr1 hA hlb hr2 (by assumption) (by assumption) | exact dr_put hB hr1 hA hlb hr2 _ _ (by assumption))
      (first
        | (go_at_call 24; refine (c_put (h3'.only (And.left (by assumption)) (fun k e h => h.2 e)) (fun b hb => hq3 b (Nat.le_trans (Only.size (And.left (by assumption))) hb)) room q hql (some ⟨b2, o2, none⟩, 1 - 1, []) (hok2.only (And.left (by assumption)) (fun k e h => h.2 e))).mono ?_; rintro e w4 ⟨A4, c4, rfl, R4, hb4⟩; have ho4 := dr_only hb4 (by assumption); obtain ⟨y4, z4, hR4⟩ := dr_res hb4 (by assumption); have r0 := hR4.cell 0 _ rfl; have r1 := hR4.cell 1 _ rfl; have f0 := hR4.free 0; have f1 := hR4.free 1))
    go_wp2
    refine bodyPost_ret (v := .tuple #[.agg #[.int .i64 room, .slice A4 D.length c4], .int .i64 x, .int .i64 0]) (by simp [results, Try.results12, go_sem, r0, r1]) rfl ?_
    have hfin := d_put R4 (HNS.out _) room (fun v => .tuple #[v, .int .i64 x, .int .i64 0]) (hX.up.trans ((hb3.mono (by omega)).trans (ho4.toBelow (by omega) (fun k e => by omega))))
    rw [List.length_set] at hfin
    exact hfin
  · have hok2 := hrest _ (if_neg hdc)
    have hdc1 : ¬ 1 = dc := fun e => hdc e.symm
    have hc1 : ((l.length + 1 : Nat) : Int) ≤ (dc : Int) := by omega
    have hc2 : (l.length : Int) + 1 ≤ (dc : Int) := by omega
    have hc3 : (1 : Int) ≤ (dc : Int) := by omega
    have hl2 : (1 : Int) ≤ (l.length : Int) + 1 := by omega
    have hl3 : (0 : Int) ≤ (l.length : Int) := by omega
    clear hA2 C hrest hn
    go_wp2_with fail
    go_region_held3 (fun W => Only (· = w.heap.size + 1) w3 W ∧ W.cell? ⟨w.heap.size, 0, none⟩ = some (.int .i64 room) ∧ W.cell? ⟨w.heap.size, 1, none⟩ = some (.slice (some ⟨b, o, none⟩) D.length c) ∧ W.cell? ⟨b, o + q, none⟩ = some (.slice (some ⟨b2, o2, none⟩) (l.length + 1) dc) ∧ ∃ y z, Blk W (w.heap.size + 1) [y, z] 30)
      (first | exact dr_S hB hr1 hA hlb hr2 ((Only.refl _ _).drewN 1) ⟨_, _, hR⟩ | exact dr_next hB hr1 hA hlb hr2 (by assumption) (by assumption) | exact dr_put hB hr1 hA hlb hr2 _ _ (by assumption))
      (first
        | (go_at_call 24; refine (c_put (h3'.only (And.left (by assumption)) (fun k e h => h.2 e)) (fun b hb => hq3 b (Nat.le_trans (Only.size (And.left (by assumption))) hb)) room q hql (some ⟨b2, o2 + 1, none⟩, dc - 1, l) (hok2.only (And.left (by assumption)) (fun k e h => h.2 e))).mono ?_; rintro e w4 ⟨A4, c4, rfl, R4, hb4⟩; have ho4 := dr_only hb4 (by assumption); obtain ⟨y4, z4, hR4⟩ := dr_res hb4 (by assumption); have r0 := hR4.cell 0 _ rfl; have r1 := hR4.cell 1 _ rfl; have f0 := hR4.free 0; have f1 := hR4.free 1))
    go_wp2
    refine bodyPost_ret (v := .tuple #[.agg #[.int .i64 room, .slice A4 D.length c4], .int .i64 x, .int .i64 0]) (by simp [results, Try.results12, go_sem, r0, r1]) rfl ?_
    have hfin := d_put R4 (HNS.out _) room (fun v => .tuple #[v, .int .i64 x, .int .i64 0]) (hX.up.trans ((hb3.mono (by omega)).trans (ho4.toBelow (by omega) (fun k e => by omega))))
    rw [List.length_set] at hfin
    exact hfin
end Go.Proofs.Ythakcjabeekihaa

/- The law BitsetStops, walked. -/
import Derived.Test.YtknlkkigiommhaaDoorBn
import Derived.IntWalk
namespace Go.Proofs.YtknlkkigiommhaaDoor
open Go.RowKit Go.Shelf
attribute [local go_sem] Oper.semAt_some

/-- A list in memory, and a counter at 0. -/
def ListB (w : World) (L : List Int) (s5 s6 : Value) (wx : World) : Prop := ∃ (p q : Nat) (A : Option Addr) (c : Nat), s5 = .pointer (some ⟨p, 0, none⟩) ∧ s6 = .pointer (some ⟨q, 0, none⟩) ∧ Blk wx p [.slice A L.length c] 22 ∧ Blk wx q [.int .i64 0] 3 ∧ w.heap.size ≤ p ∧ w.heap.size ≤ q ∧ RD wx (fun b => b ≠ q ∧ w.heap.size ≤ b) 1 A L.length (L.map (Value.int .i64)) ∧ L.length ≤ c ∧ Below w.heap.size w wx
theorem RD.kept {A B : World} {row : Option Nat} {pl : Nat → Prop} {size n : Nat} {Ad : Option Addr} {xs : List Value} (h : RD A pl size Ad n xs) (hg : A.grownBy B row) (hr : ∀ r, row = some r → ∃ o : Obj, A.heap[r]? = some o ∧ o.isCells = false) : RD B pl size Ad n xs :=
  ⟨h.1, fun hn => by
    obtain ⟨b, o, e, h1, h2, h3⟩ := h.2 hn
    exact ⟨b, o, e, h1, Nat.lt_of_lt_of_le h2 hg.size, fun j u hu => cell_kept (h3 j u hu) hg hr⟩⟩
/-- What the loop's rounds see. -/
structure StopC (n : Nat) (s : S4) (stop : Int) (p q : Nat) (A : Option Addr) (c : Nat) (m : Nat) (W : World) : Prop where
  b0 : W.cell? ⟨n, 0, none⟩ = some (.int .u64 s.a.toNat)
  b1 : W.cell? ⟨n, 1, none⟩ = some (.int .u64 s.b.toNat)
  b2 : W.cell? ⟨n, 2, none⟩ = some (.int .u64 s.c.toNat)
  b3 : W.cell? ⟨n, 3, none⟩ = some (.int .u64 s.d.toNat)
  st : W.cell? ⟨n + 1, 0, none⟩ = some (.int .u8 stop)
  re : W.cell? ⟨n + 1 + 1, 0, none⟩ = some (.bool false)
  rf : W.frozen? ⟨n + 1 + 1, 0, none⟩ = false
  pl : W.cell? ⟨p, 0, none⟩ = some (.slice A s.ints.length c)
  mq : W.cell? ⟨q, 0, none⟩ = some (.int .i64 m)
  mf : W.frozen? ⟨q, 0, none⟩ = false
  rd : RD W (fun b => b ≠ q ∧ n + 1 + 1 < b) 1 A s.ints.length (s.ints.map (Value.int .i64))
theorem StopC.kept {n : Nat} {s : S4} {stop : Int} {p q : Nat} {Ad : Option Addr} {c m : Nat} {A B : World} {row : Option Nat} (h : StopC n s stop p q Ad c m A) (hg : A.grownBy B row) (hr : ∀ r, row = some r → ∃ o : Obj, A.heap[r]? = some o ∧ o.isCells = false) : StopC n s stop p q Ad c m B :=
  ⟨cell_kept h.b0 hg hr, cell_kept h.b1 hg hr, cell_kept h.b2 hg hr, cell_kept h.b3 hg hr, cell_kept h.st hg hr, cell_kept h.re hg hr, (frozen_kept h.re hg hr).trans h.rf, cell_kept h.pl hg hr, cell_kept h.mq hg hr, (frozen_kept h.mq hg hr).trans h.mf, h.rd.kept hg hr⟩
theorem StopC.put {n : Nat} {s : S4} {stop : Int} {p q : Nat} {Ad : Option Addr} {c m : Nat} {W : World} (h : StopC n s stop p q Ad c m W) (h1 : n + 1 + 1 < q) (h2 : p ≠ q) (m' : Nat) : StopC n s stop p q Ad c m' (W.setCell ⟨q, 0, none⟩ (.int .i64 m')) := by
  have o : ∀ a : Addr, a.block ≠ q → (W.setCell ⟨q, 0, none⟩ (.int .i64 m')).cell? a = W.cell? a := fun a ha => World.cell?_setCell_other _ _ _ _ (fun e => ha (by subst e; rfl))
  exact ⟨(o _ (by simp; omega)).trans h.b0, (o _ (by simp; omega)).trans h.b1, (o _ (by simp; omega)).trans h.b2, (o _ (by simp; omega)).trans h.b3, (o _ (by simp; omega)).trans h.st, (o _ (by simp; omega)).trans h.re, by rw [World.frozen?_setCell]; exact h.rf,
    (o _ h2).trans h.pl, World.cell?_setCell_same' _ _ _ (by rw [h.mq]; rfl), by rw [World.frozen?_setCell]; exact h.mf, h.rd.only (s := (· = q)) ((Only.refl _ _).put 0 _) (fun k e h' => h'.1 e)⟩
def StopI (n : Nat) (s : S4) (stop : Int) (p q : Nat) (A : Option Addr) (c : Nat) (pre : List Int) (W : World) : Prop := StopC n s stop p q A c pre.length W ∧ (pre.length : Int) ≤ stop ∧ pre <+: s.ints
def StopX (n : Nat) (s : S4) (stop : Int) (p q : Nat) (A : Option Addr) (c : Nat) (x : Code) (pre : List Int) (W : World) : Prop := (x = .exit 0 ∧ StopC n s stop p q A c pre.length W ∧ (pre.length : Int) = stop + 1 ∧ pre <+: s.ints) ∨ (x = .ret ∧ ¬ pre <+: s.ints)
theorem cell_lt {w : World} {a : Addr} {v : Value} (h : w.cell? a = some v) : a.block < w.heap.size := by
  apply Nat.lt_of_not_le
  intro hle
  have hn : w.heap[a.block]? = none := Array.getElem?_eq_none hle
  simp [World.cell?, hn] at h
theorem cell_only {r : Nat} {w w' : World} {a : Addr} {v : Value} (h : w.cell? a = some v) (ho : Only (· = r) w w') (hr : a.block ≠ r) : w'.cell? a = some v := (World.cell?_of_block (ho.block a.block (cell_lt h) hr)).trans h
theorem tab_only {r : Nat} {w w' : World} (h : TabD w) (ho : Only (· = r) w w') (hr : 0 ≠ r) : TabD w' := fun j hj => cell_only (h j hj) ho hr
/-- In the region that ends with the store of the answer. -/
def Keep1 (r : Nat) (w W : World) : Prop := Only (· = r) w W ∧ (∃ y, W.cell? ⟨r, 0, none⟩ = some (.bool y)) ∧ W.frozen? ⟨r, 0, none⟩ = false
theorem keep1_next {r : Nat} {w W W' : World} (h : Keep1 r w W) (k : Below W.heap.size W W') : Keep1 r w W' := by
  obtain ⟨h1, ⟨y, h2⟩, h3⟩ := h
  have hl := cell_lt h2
  exact ⟨h1.below_trans k, ⟨y, (k.cell (p := ⟨r, 0, none⟩) hl).trans h2⟩, (k.frozen (p := ⟨r, 0, none⟩) hl).trans h3⟩
theorem keep1_put {r : Nat} {w W : World} (h : Keep1 r w W) (z : Bool) : Keep1 r w (W.setCell ⟨r, 0, none⟩ (.bool z)) := by
  obtain ⟨h1, ⟨y, h2⟩, h3⟩ := h
  exact ⟨h1.put _ _, ⟨z, World.cell?_setCell_same' _ _ _ (by rw [h2]; rfl)⟩, by rw [World.frozen?_setCell]; exact h3⟩
abbrev HeldS (n : Nat) (s : S4) (stop : Int) (p q : Nat) (A : Option Addr) (c : Nat) (m : Nat) (w W : World) : Prop := Keep1 (n + 1 + 1) w W ∧
  W.cell? ⟨n, 0, none⟩ = some (.int .u64 s.a.toNat) ∧ W.cell? ⟨n, 1, none⟩ = some (.int .u64 s.b.toNat) ∧ W.cell? ⟨n, 2, none⟩ = some (.int .u64 s.c.toNat) ∧ W.cell? ⟨n, 3, none⟩ = some (.int .u64 s.d.toNat) ∧
  W.cell? ⟨n + 1, 0, none⟩ = some (.int .u8 stop) ∧ W.cell? ⟨p, 0, none⟩ = some (.slice A s.ints.length c) ∧ W.cell? ⟨q, 0, none⟩ = some (.int .i64 m)
theorem heldS {n : Nat} {s : S4} {stop : Int} {p q : Nat} {A : Option Addr} {c m : Nat} {w W : World} (h : StopC n s stop p q A c m w) (h1 : n + 1 + 1 < q) (h2 : n + 1 + 1 < p) (k : Keep1 (n + 1 + 1) w W) : HeldS n s stop p q A c m w W :=
  ⟨k, cell_only h.b0 k.1 (by simp; omega), cell_only h.b1 k.1 (by simp; omega), cell_only h.b2 k.1 (by simp; omega), cell_only h.b3 k.1 (by simp; omega), cell_only h.st k.1 (by simp), cell_only h.pl k.1 (by simp; omega), cell_only h.mq k.1 (by simp; omega)⟩
theorem c_ofs {n : Nat} {s : S4} {stop : Int} {p q : Nat} {A : Option Addr} {c m : Nat} {w W : World} (h : StopC n s stop p q A c m w) (k : Keep1 (n + 1 + 1) w W) :
    Calls Tryd.prog 8 #[.slice A s.ints.length c] W fun e w' => e = .returned s.val ∧ Below W.heap.size W w' := by
  have hl := len_le s
  unfold S4.len at hl
  have := c_of (c := c) (h.rd.only k.1 (fun b e h' => by have := h'.2; omega)) (by omega)
  rw [ofS_of_ints] at this
  exact this
theorem pre_yes {L pre : List Int} {x : Int} (h : pre <+: L) (hx : L[pre.length]? = some x) : pre ++ [x] <+: L := by
  obtain ⟨r, rfl⟩ := h
  rw [List.getElem?_append_right (Nat.le_refl _), Nat.sub_self] at hx
  cases r with
  | nil => cases hx
  | cons y r =>
    obtain rfl : y = x := by simpa using hx
    exact ⟨r, by simp⟩
theorem pre_no {L pre : List Int} {x : Int} (hx : L[pre.length]? ≠ some x) : ¬ pre ++ [x] <+: L := by
  rintro ⟨r, rfl⟩
  exact hx (by simp)
theorem run_fnil (a : Addr) (w : World) : (binOp .eql 44 (.func (.func 33) #[] #[.pointer (some a)]) .nilFunc).run Tryd.prog w = .ok (.bool false) w := by kernel_rfl
theorem put1 {w : World} {b : Nat} {v v' : Value} {t : TypeId} (h : Blk w b [v'] t) : Blk (w.setCell ⟨b, 0, none⟩ v) b [v] t := h.set 0 v
theorem put1_other {w : World} {b c : Nat} {cs : List Value} {v : Value} {t : TypeId} (hne : b ≠ c) (h : Blk w b cs t) : Blk (w.setCell ⟨c, 0, none⟩ v) b cs t := h.other _ hne v
theorem put1_below {w w' : World} {n c : Nat} {v : Value} (hc : n ≤ c) (h : Below n w w') : Below n w (w'.setCell ⟨c, 0, none⟩ v) := h.setCell (p := ⟨c, 0, none⟩) hc v
abbrev HeldB (w0 : World) (b : Nat) (s : S4) (W : World) : Prop := Below w0.heap.size w0 W ∧ W.cell? ⟨b, 0, none⟩ = some (.int .u64 s.a.toNat) ∧ W.cell? ⟨b, 1, none⟩ = some (.int .u64 s.b.toNat) ∧ W.cell? ⟨b, 2, none⟩ = some (.int .u64 s.c.toNat) ∧ W.cell? ⟨b, 3, none⟩ = some (.int .u64 s.d.toNat)
theorem heldB {w0 W : World} {b : Nat} {s : S4} {t : TypeId} (h : Blk w0 b s.cs t) (hb : Below w0.heap.size w0 W) : HeldB w0 b s W := ⟨hb, (h.up hb h.lt).cell 0 _ rfl, (h.up hb h.lt).cell 1 _ rfl, (h.up hb h.lt).cell 2 _ rfl, (h.up hb h.lt).cell 3 _ rfl⟩
theorem box25 (s : S4) (w : World) : Blk (w.alloc (.cells #[.int .u64 (s.a.toNat : Int), .int .u64 (s.b.toNat : Int), .int .u64 (s.c.toNat : Int), .int .u64 (s.d.toNat : Int)] 25)) w.heap.size s.cs 25 := Blk.new w s.cs _

set_option maxRecDepth 100000 in
set_option maxHeartbeats 8000000 in
theorem stops_in (s : S4) (stop : Int) (h0 : 0 ≤ stop) (h1 : stop ≤ 255) (w : World) (hT : TabD w) :
    CallsIn Fence.wide 5 Tryd.prog 5 #[s.val, .int .u8 stop] w fun e w' => e = .returned (.bool true) ∧ Below w.heap.size w w' := by
  have HT := Lib.hid hT
  clear hT
  refine callsIn_of_wp_marks Tryd.func5 rfl trivial ?_ rfl
  simp only [Tryd.ntmps5, List.size_toArray, List.length_cons, List.length_nil, Nat.reduceAdd, Nat.reduceSub, Array.replicate_succ, Array.replicate_zero, List.push_toArray, List.append_toArray, List.nil_append, List.cons_append]
  refine wpIn_wide.2 ?_
  go_upto_region 1 with fail
  have hB := ((box25 s w).alloc (.cells #[.int .u8 stop] 5)).alloc (.cells #[.bool false] 4)
  have hS := (Blk.new' (w.alloc (.cells s.cs.toArray 25)) [.int .u8 stop] 5 (w.heap.size + 1) (by simp)).alloc (.cells #[.bool false] 4)
  have hR := Blk.new' ((w.alloc (.cells s.cs.toArray 25)).alloc (.cells #[.int .u8 stop] 5)) [.bool false] 4 (w.heap.size + 1 + 1) (by simp)
  have hb0 := up_trans (up_trans (up_alloc w (.cells s.cs.toArray 25)) (up_alloc _ (.cells #[.int .u8 stop] 5))) (up_alloc _ (.cells #[.bool false] 4))
  go_cut [5, 6] from 9 to 51 (fun s5 s6 wx => ListB (((w.alloc (.cells s.cs.toArray 25)).alloc (.cells #[.int .u8 stop] 5)).alloc (.cells #[.bool false] 4)) s.ints s5 s6 wx)
  case first =>
    generalize hw0 : ((w.alloc (.cells s.cs.toArray 25)).alloc (.cells #[.int .u8 stop] 5)).alloc (.cells #[.bool false] 4) = w0 at hB hb0
    have HW2 := Lib.hid hw0
    clear hw0 hS hR
    obtain ⟨c0, c1, c2, c3, -⟩ := facts4 hB
    go_wp2_with (go_at_call 14; refine (c_list s _ (tab_up HT.out hb0)).mono ?_; rintro e w1 ⟨A, c, rfl, hc1, hc2, rd1, hl1⟩; have hz1 := hl1.size)
    go_meet
    rw [HW2.out]
    refine ⟨_, _, _, _, rfl, rfl, Blk.alloc (Blk.new' _ [.slice A s.ints.length c] _ _ (by simp)) _, Blk.new' _ [.int .i64 0] _ _ (by simp), by omega, by omega, ?_, hc1, up_trans (up_trans hl1 (up_alloc _ _)) (up_alloc _ _)⟩
    exact ((rd1.lt.below (up_alloc _ _)).below (up_alloc _ _)).lo fun b hb => ⟨by have := hb.2; simp; omega, hb.1⟩
  case rest =>
    obtain ⟨p, q, A, c, rfl, rfl, hp, hq, hpl, hql, hrd, hAc, hbc⟩ := hcut
    have hB := hB.up hbc (by simp <;> omega)
    have hS := hS.up hbc (by simp <;> omega)
    have hR := hR.up hbc (by simp <;> omega)
    have hbw := up_trans hb0 hbc
    have hzb := hbc.size
    simp at hpl hql hzb
    clear hbc hb0
    obtain ⟨c0, c1, c2, c3, -⟩ := facts4 hB
    go_wp2_with (first | (go_at_call 29; refine (c_all s _).mono ?_; rintro e w' ⟨rfl, rfl⟩) | rw [run_fnil])
    have hTw := HT.out
    have hg := tab_lt hTw
    have hq0 : q < wc.heap.size := hq.lt
    have hbw1 := up_trans hbw (up_alloc wc (.cells s.cs.toArray 26))
    have hgt : w.heap.size + 1 + 1 < q := by omega
    have hpq : p ≠ q := hp.ne hq (by decide)
    have hgt2 : w.heap.size + 1 + 1 < p := by omega
    have hbA := facts4 (hB.alloc (.cells s.cs.toArray 26))
    clear c0 c1 c2 c3 hTw
    refine (wpIn_wide (n := 5)).1 ?_
    refine wpIn_rangeFunc_ownF rfl (by omega) (gf := 33) (lb := #[.pointer (some ⟨wc.heap.size, 0, none⟩)]) rfl trivial (enters_of Tryd.func33 (by kernel_rfl) rfl)
      (all_stops 4 wc.heap.size w.heap.size s _ (by simp; omega) hg (Blk.new wc s.cs 26) (tab_up HT.out hbw1)) belowK_t (belowK_b (by simp; omega)) (Below.refl _ _) (fun _ => rfl)
      (fun pre W => StopI w.heap.size s stop p q A c pre W ∧ Below w.heap.size w W)
      (fun x pre W => StopX w.heap.size s stop p q A c x pre W ∧ Below w.heap.size w W)
      (OwnFrom.and (Own.from (fun s A B row hs hg hr => ⟨hs.1.kept hg hr, hs.2⟩) _) (ownFrom_below (Nat.le_refl _) (by simp; omega)))
      (fun x => OwnFrom.and (Own.from (fun s A B row hs hg hr => hs.elim (fun k => .inl ⟨k.1, k.2.1.kept hg hr, k.2.2⟩) .inr) _) (ownFrom_below (Nat.le_refl _) (by simp; omega)))
      ⟨⟨⟨hbA.1, hbA.2.1, hbA.2.2.1, hbA.2.2.2.1, (hS.alloc _).cell 0 _ rfl, (hR.alloc _).cell 0 _ rfl, (hR.alloc _).free 0, (hp.alloc _).cell 0 _ rfl, (hq.alloc _).cell 0 _ rfl, (hq.alloc _).free 0, (hrd.lo (fun b hb => ⟨hb.1, by have := hb.2; simp at this; omega⟩)).below (up_alloc _ _)⟩, by simpa using h0, ⟨_, List.nil_append _⟩⟩, hbw1⟩
      (fun x => { tmps := #[s.val, .int .u8 stop, .pointer (some ⟨w.heap.size, 0, none⟩), .pointer (some ⟨w.heap.size + 1, 0, none⟩), .pointer (some ⟨w.heap.size + 1 + 1, 0, none⟩), .pointer (some ⟨p, 0, none⟩), .pointer (some ⟨q, 0, none⟩), .func (.func 33) #[] #[.pointer (some ⟨wc.heap.size, 0, none⟩)], .int .i64 x, u9, u10, s.val, .func (.func 33) #[] #[.pointer (some ⟨wc.heap.size, 0, none⟩)], .func (.func 33) #[] #[.pointer (some ⟨wc.heap.size, 0, none⟩)], .bool false, .func (.func 33) #[] #[.pointer (some ⟨wc.heap.size, 0, none⟩)], .int .i64 x, u17, u18, u19, u20, u21, u22, u23, u24, u25, u26, u27, u28, u29, u30, u31, u32, u33, u34, u35, u36, u37, u38, u39, u40, u41, u42, u43, u44, u45, u46, u47, u48, u49, u50, u51], defers := [] }) ?assign ?body ?done ?stop
    case assign =>
      intro l x W K hK
      gi_wp2
      exact hK
    case body =>
      rintro l pre x W ⟨⟨hC, hps, hpre⟩, hBl⟩ _
      have hn := hpre.length_le
      have hlen := len_le s
      unfold S4.len at hlen
      have a1 := hC.st
      have a2 := hC.re
      have a3 := hC.rf
      have a4 := hC.pl
      have a5 := hC.mq
      have a6 := hC.mf
      by_cases hlt : pre.length < s.ints.length
      · obtain ⟨bA, oA, rfl, hbq, _, hcA⟩ := hC.rd.at_ (by omega)
        have a7 := hcA pre.length (.int .i64 s.ints[pre.length]) (by simp [hlt])
        have hget : s.ints[pre.length]? = some s.ints[pre.length] := List.getElem?_eq_getElem hlt
        have HC := Lib.hid hC
        have HP := Lib.hid hpre
        clear hcA hC hpre
        generalize s.ints[pre.length] = y at a7 hget
        by_cases hy : y = x
        · subst hy
          have HY := Lib.hid (pre_yes HP.out hget)
          have hyy : (y != y) = false := by simp
          have HCN := Lib.hid (HC.out.put hgt hpq (pre.length + 1))
          clear hget
          have hd : decide (s.ints.length ≤ pre.length) = false := by simpa using hlt
          have hl1 : (pre.length : Int) < s.ints.length := by omega
          by_cases hs : (pre.length : Int) + 1 > stop
          · have hs2 : stop < (pre.length : Int) + 1 := hs
            have hs3 : stop ≤ (pre.length : Int) := by omega
            gi_wp2
            exact ⟨KeepsOthers.setCell _ _ _, .inl ⟨rfl, by rw [List.length_append]; exact HCN.out, by rw [List.length_append]; simp; omega, HY.out⟩, hBl.setCell (p := ⟨q, 0, none⟩) (by simp; omega) _⟩
          · have hs2 : (pre.length : Int) + 1 ≤ stop := by omega
            have hs3 : (pre.length : Int) < stop := by omega
            clear hs
            gi_wp2
            exact ⟨KeepsOthers.setCell _ _ _, (Below.refl w.heap.size W).setCell (p := ⟨q, 0, none⟩) (by simp; omega) _, ⟨by rw [List.length_append]; exact HCN.out, by rw [List.length_append]; simp; omega, HY.out⟩, hBl.setCell (p := ⟨q, 0, none⟩) (by simp; omega) _⟩
        · have HY := Lib.hid (pre_no (x := x) (by rw [hget]; intro e; exact hy (Option.some.inj e)))
          have hyy : (y != x) = true := by simpa using hy
          clear hget hy
          have hd : decide (s.ints.length ≤ pre.length) = false := by simpa using hlt
          have hl1 : (pre.length : Int) < s.ints.length := by omega
          gi_wp2
          exact ⟨KeepsOthers.setCell _ _ _, .inr ⟨rfl, HY.out⟩, hBl.setCell (p := ⟨w.heap.size + 1 + 1, 0, none⟩) (by simp; omega) _⟩
      · have HY := Lib.hid (pre_no (L := s.ints) (pre := pre) (x := x) (by rw [List.getElem?_eq_none (by omega)]; intro e; cases e))
        clear hC hpre
        have hd : decide (s.ints.length ≤ pre.length) = true := by simpa using hlt
        gi_wp2
        exact ⟨KeepsOthers.setCell _ _ _, .inr ⟨rfl, HY.out⟩, hBl.setCell (p := ⟨w.heap.size + 1 + 1, 0, none⟩) (by simp; omega) _⟩
    case done =>
      rintro D ys W hD rfl ⟨⟨hC, hps, hpre⟩, hBl⟩ hK
      have HC := Lib.hid hC
      have hmin : (if stop + 1 < (s.ints.length : Int) then stop + 1 else (s.ints.length : Int)) = (s.ints.length : Int) := by split <;> omega
      have hw1 : IntKind.i64.wrap stop = stop := IntWalk.i64_in _ (by omega)
      have hw2 : IntKind.i64.wrap (stop + 1) = stop + 1 := IntWalk.i64_in _ (by omega)
      have hmm : ((s.ints.length : Int) == (s.ints.length : Int)) = true := by simp
      have K0 : Keep1 (w.heap.size + 1 + 1) W W := ⟨Only.refl _ _, ⟨_, hC.re⟩, hC.rf⟩
      have hb0 := hC.b0
      have hb1 := hC.b1
      have hb2 := hC.b2
      have hb3 := hC.b3
      have hb4 := hC.st
      have hb5 := hC.pl
      have hb6 := hC.mq
      have HTW := Lib.hid (tab_up HT.out hBl)
      have hgr : 0 ≠ w.heap.size + 1 + 1 := by omega
      have hq := run_same (s := s) (t := s) rfl
      have HK := Lib.hid hK
      clear hC hK
      gi_wp2
      go_wp2_with fail
      go_region_held3 (fun W' => HeldS w.heap.size s stop p q A c s.ints.length W W')
        (first | exact heldS HC.out hgt hgt2 (keep1_next K0 (up_drewN _ 1)) | exact heldS HC.out hgt hgt2 (keep1_next (And.left (by assumption)) (by assumption)) | exact heldS HC.out hgt hgt2 (keep1_put (And.left (by assumption)) _))
        (first
          | rw [hq]
          | (go_at_call 8; refine (c_ofs HC.out (And.left (by assumption))).mono ?_; rintro e w1 ⟨rfl, hbo⟩)
          | (go_at_call 7; refine (c_alive _ (tab_only HTW.out (And.left (And.left (by assumption))) hgr)).mono ?_; rintro e w2 ⟨rfl, hba⟩; obtain ⟨_, ⟨y4, r0⟩, g0⟩ := keep1_next (And.left (by assumption)) hba))
      all_goals
        go_wp2
        have hL : Keep1 (w.heap.size + 1 + 1) W _ := And.left (by assumption)
        have hK := HK.out
        have hDl := lt_of_block hK
        simp at hD
        have hK' := (hL.1.block D hDl (by omega)).trans hK
        have hr1 := World.cell?_setCell_same' w2 ⟨w.heap.size + 1 + 1, 0, none⟩ (.bool true) (by rw [r0]; rfl)
        have hr2 := cell_kept hr1 (grownBy_putObj' _ D (.deferred none)) (fun r e => by cases e; exact ⟨_, hK', rfl⟩)
        refine ⟨by simp, .inl ⟨_, _, rfl, run_takeDeferred hK', ?_⟩⟩
        refine ⟨.bool true, ?_, rfl, (hBl.trans (hL.1.toBelow hBl.size (fun k e => by omega))).trans (belowK_b (w := w) (Nat.le_refl _) _ D _ _ (by omega) hK' rfl rfl)⟩
        simp [results, Tryd.f5, go_sem, hr2]
    case stop =>
      rintro D x pre W hD hpre ⟨⟨rfl, hC, hps, _⟩ | ⟨rfl, hno⟩, hBl⟩ hK
      · have hpl := hpre.length_le
        have HC := Lib.hid hC
        have hmin : (if stop + 1 < (s.ints.length : Int) then stop + 1 else (s.ints.length : Int)) = (pre.length : Int) := by split <;> omega
        have hw1 : IntKind.i64.wrap stop = stop := IntWalk.i64_in _ (by omega)
        have hw2 : IntKind.i64.wrap (stop + 1) = stop + 1 := IntWalk.i64_in _ (by omega)
        have hmm : ((pre.length : Int) == (pre.length : Int)) = true := by simp
        have K0 : Keep1 (w.heap.size + 1 + 1) W W := ⟨Only.refl _ _, ⟨_, hC.re⟩, hC.rf⟩
        have hb0 := hC.b0
        have hb1 := hC.b1
        have hb2 := hC.b2
        have hb3 := hC.b3
        have hb4 := hC.st
        have hb5 := hC.pl
        have hb6 := hC.mq
        have HTW := Lib.hid (tab_up HT.out hBl)
        have hgr : 0 ≠ w.heap.size + 1 + 1 := by omega
        have hq := run_same (s := s) (t := s) rfl
        have HK := Lib.hid hK
        clear hC hK
        gi_wp2
        go_wp2_with fail
        go_region_held3 (fun W' => HeldS w.heap.size s stop p q A c pre.length W W')
          (first | exact heldS HC.out hgt hgt2 (keep1_next K0 (up_drewN _ 1)) | exact heldS HC.out hgt hgt2 (keep1_next (And.left (by assumption)) (by assumption)) | exact heldS HC.out hgt hgt2 (keep1_put (And.left (by assumption)) _))
          (first
            | rw [hq]
            | (go_at_call 8; refine (c_ofs HC.out (And.left (by assumption))).mono ?_; rintro e w1 ⟨rfl, hbo⟩)
            | (go_at_call 7; refine (c_alive _ (tab_only HTW.out (And.left (And.left (by assumption))) hgr)).mono ?_; rintro e w2 ⟨rfl, hba⟩; obtain ⟨_, ⟨y4, r0⟩, g0⟩ := keep1_next (And.left (by assumption)) hba))
        all_goals
          go_wp2
          have hL : Keep1 (w.heap.size + 1 + 1) W _ := And.left (by assumption)
          have hK := HK.out
          have hDl := lt_of_block hK
          simp at hD
          have hK' := (hL.1.block D hDl (by omega)).trans hK
          have hr1 := World.cell?_setCell_same' w2 ⟨w.heap.size + 1 + 1, 0, none⟩ (.bool true) (by rw [r0]; rfl)
          have hr2 := cell_kept hr1 (grownBy_putObj' _ D (.deferred none)) (fun r e => by cases e; exact ⟨_, hK', rfl⟩)
          refine ⟨by simp, .inl ⟨_, _, rfl, run_takeDeferred hK', ?_⟩⟩
          refine ⟨.bool true, ?_, rfl, (hBl.trans (hL.1.toBelow hBl.size (fun k e => by omega))).trans (belowK_b (w := w) (Nat.le_refl _) _ D _ _ (by omega) hK' rfl rfl)⟩
          simp [results, Tryd.f5, go_sem, hr2]
      · exact absurd hpre hno
theorem l_stops (s : S4) (stop : Int) (h0 : 0 ≤ stop) (h1 : stop ≤ 255) (w : World) (hT : TabD w) :
    Calls Tryd.prog 5 #[s.val, .int .u8 stop] w fun e w' => e = .returned (.bool true) ∧ Below w.heap.size w w' :=
  callsIn_wide.1 (stops_in s stop h0 h1 w hT)
end Go.Proofs.YtknlkkigiommhaaDoor

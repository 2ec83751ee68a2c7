/- Package choice's All: it ranges over the choices with their places till one may not be. -/
import Derived.Test.YtpbjfadandnhaaaPke
namespace Go.Proofs.Ytpbjfadandnhaaa
open Go.RowKit Go.Shelf
attribute [local go_sem] Oper.semAt_some

theorem blk_own {B b : Nat} {cs : List Value} {t : TypeId} {X Y : World} {row : Option Nat} (h : Blk X b cs t) (hg : X.grownBy Y row) (hr : ∀ r, row = some r → B ≤ r ∧ ∃ o : Obj, X.heap[r]? = some o ∧ o.isCells = false) : Blk Y b cs t := by
  refine h.grown hg fun e => ?_
  obtain ⟨_, o, ho, hc⟩ := hr b e.symm
  rw [show X.heap[b]? = _ from h] at ho
  cases ho
  cases hc
theorem KeepsOthers_of_below {A B : World} (h : Below A.heap.size A B) : KeepsOthers A B := ⟨h.size, fun k _ hk _ => (h.block k (lt_of_block hk)).trans hk⟩
/-- All's two results, where they lie. -/
structure AllR (w : World) (x y : Int) (W : World) : Prop where
  rx : Blk W w.heap.size [.int .i64 x] 3
  ry : Blk W (w.heap.size + 1) [.int .i64 y] 26
  up : Below w.heap.size w W
theorem AllR.own {w : World} {x y : Int} {A B : World} {row : Option Nat} (h : AllR w x y A) (hg : A.grownBy B row) (hr : ∀ r, row = some r → w.heap.size ≤ r ∧ ∃ o : Obj, A.heap[r]? = some o ∧ o.isCells = false) : AllR w x y B :=
  ⟨blk_own h.rx hg hr, blk_own h.ry hg hr, h.up.grown hg h.up.size fun k e => (hr k e).1⟩
theorem AllR.up2 {w : World} {x y : Int} {A B : World} (h : AllR w x y A) (hb : Below A.heap.size A B) : AllR w x y B := ⟨h.rx.up hb h.rx.lt, h.ry.up hb h.ry.lt, h.up.trans (hb.mono h.up.size)⟩
theorem AllR.put {w : World} {x y : Int} {A : World} (h : AllR w x y A) (x' y' : Int) : AllR w x' y' ((A.setCell ⟨w.heap.size, 0, none⟩ (.int .i64 x')).setCell ⟨w.heap.size + 1, 0, none⟩ (.int .i64 y')) :=
  ⟨(h.rx.set 0 _).other _ (by simp) _, (h.ry.other _ (by simp) _).set 0 _, (h.up.setCell (p := ⟨w.heap.size, 0, none⟩) (Nat.le_refl _) _).setCell (p := ⟨w.heap.size + 1, 0, none⟩) (by simp) _⟩
def AllPost (w : World) (x : Int × Int) (e : Ending) (w' : World) : Prop := e = .returned (.tuple #[.int .i64 x.1, .int .i64 x.2]) ∧ Below w.heap.size w w'

set_option maxRecDepth 100000 in
set_option maxHeartbeats 2000000 in
theorem all_in (n : Nat) (hn : 3 ≤ n) {w : World} {pl : Nat → Prop} {A : Option Addr} {c : Nat} {L : List CH} (hR : RD w pl 3 A L.length (L.flatMap chC)) (hL : L.length ≤ 2000) :
    CallsIn Fence.wide n Try.prog 7 #[.slice A L.length c] w (AllPost w (chAll L)) := by
  have h1 : 1 ≤ n := by omega
  have HA : Hid (chAll L = chFirst 0 L) := Lib.hid (by unfold chAll; rw [if_neg (by omega)])
  have hl0 : (L.length : Int) ≤ 2000 := by omega
  have HR := Lib.hid (hR.lt.lo (pl' := (· < w.heap.size)) fun b hb => hb.2)
  have hB0 := (((Below.refl w.heap.size w).alloc (Nat.le_refl _) (.cells #[.int .i64 0] 3)).alloc (by simp) (.cells #[.int .i64 0] 26))
  have hS0 : AllR w 0 0 (((w.alloc (.cells #[.int .i64 0] 3)).alloc (.cells #[.int .i64 0] 26))) := ⟨(Blk.new w [.int .i64 0] 3).alloc _, Blk.new' _ [.int .i64 0] 26 _ (by simp), hB0⟩
  have HS0 := Lib.hid hS0
  have HB0 := Lib.hid hB0
  clear hR hB0 hS0
  refine callsIn_of_wp_marks Try.func7 rfl trivial ?_ rfl
  simp only [Try.ntmps7, List.size_toArray, List.length_cons, List.length_nil, Nat.reduceAdd, Nat.reduceSub, Array.replicate_succ, Array.replicate_zero, List.push_toArray, List.append_toArray, List.nil_append, List.cons_append]
  gi_wp2
  refine ⟨trivial, (callsIn_wide.2 (c_alls A L.length c _)).mono ?_⟩
  rintro e w' ⟨rfl, rfl⟩
  have HS1 := Lib.hid (HS0.out.up2 (up_alloc _ (.cells #[.slice A L.length c] 29)))
  have hseq := Lib.hid (alls_stops (n - 1) (w.heap.size + 1 + 1) w.heap.size A c L (by omega) (((w.alloc (.cells #[.int .i64 0] 3)).alloc (.cells #[.int .i64 0] 26)).alloc (.cells #[.slice A L.length c] 29)) HS1.out.up.size (by simp) ((Blk.new' _ [.slice A L.length c] 29 (w.heap.size + 1 + 1) (by simp)).cell 0 _ rfl) (HR.out.belowN HS1.out.up))
  clear HS0 HB0
  gi_wp2
  refine wpIn_rangeFunc_ownH rfl h1 (gf := 28) (lb := #[.pointer (some ⟨w.heap.size + 1 + 1, 0, none⟩)]) rfl trivial (enters_of Try.func28 (by kernel_rfl) rfl)
    hseq.out belowK_t (belowK_b (by simp; omega)) (Below.refl _ _) (fun _ => rfl)
    (fun pre W => (∀ p ∈ pre, p.2.chk = 0) ∧ AllR w 0 0 W)
    (fun x pre W => x = .ret ∧ ∃ (q : List (Nat × CH)) (j : Nat) (x : CH), pre = q ++ [(j, x)] ∧ (∀ p ∈ q, p.2.chk = 0) ∧ x.chk ≠ 0 ∧ AllR w j x.chk W)
    (fun s A B row hs hg hr => ⟨hs.1, hs.2.own hg fun r e => ⟨Nat.le_trans HS1.out.up.size (hr r e).1, (hr r e).2⟩⟩)
    (fun x s A B row hs hg hr => by
      obtain ⟨e, q, j, y, h1, h2, h3, h4⟩ := hs
      exact ⟨e, q, j, y, h1, h2, h3, h4.own hg fun r e => ⟨Nat.le_trans HS1.out.up.size (hr r e).1, (hr r e).2⟩⟩)
    ⟨by simp, HS1.out⟩
    (fun x a' W => ∃ Bx, w.heap.size ≤ Bx ∧ Blk W Bx [.int .i64 x.2.k, .int .i64 x.2.v, .int .i64 x.2.w] 36 ∧ a' = { tmps := #[.slice A L.length c, undef, .pointer (some ⟨w.heap.size, 0, none⟩), .pointer (some ⟨w.heap.size + 1, 0, none⟩), .int .i64 (x.1 : Int), .pointer (some ⟨Bx, 0, none⟩), undef, .slice A L.length c, .int .i64 L.length, .bool (decide (2000 < (L.length : Int))), .slice A L.length c, .func (.func 28) #[] #[.pointer (some ⟨w.heap.size + 1 + 1, 0, none⟩)], .int .i64 (x.1 : Int), .agg #[.int .i64 x.2.k, .int .i64 x.2.v, .int .i64 x.2.w], undef, undef, undef, undef, undef, undef], defers := [] })
    (fun x a' _ X Y row hs hg hr => by obtain ⟨Bx, e1, e2, e3⟩ := hs; exact ⟨Bx, e1, blk_own e2 hg hr, e3⟩)
    ?assign ?body ?done ?stop
  case assign =>
    rintro l pre x W K ⟨hp, hA⟩ hK
    gi_wp2
    exact hK _ _ ((KeepsOthers.alloc _ _).from _) ((Below.refl _ W).alloc hA.up.size _) ⟨hp, hA.up2 (up_alloc _ _)⟩ ⟨W.heap.size, hA.up.size, Blk.new W [.int .i64 x.2.k, .int .i64 x.2.v, .int .i64 x.2.w] 36, rfl⟩
  case body =>
    rintro l pre ⟨j, x⟩ a' W hl ⟨r, hr⟩ ⟨hp, hA⟩ ⟨Bx, hBx, bX, rfl⟩ hlt
    have x0 := bX.cell 0 _ rfl
    have x1 := bX.cell 1 _ rfl
    have x2 := bX.cell 2 _ rfl
    have HP := Lib.hid hp
    have HAA := Lib.hid hA
    have CC := Lib.hid (fun W => c_pkchk x.k x.v x.w W)
    change Hid (∀ W, Calls _ _ _ W fun e w' => e = .returned (.int .i64 x.chk) ∧ Below W.heap.size W w') at CC
    have hb1 : 1 ≤ n - 1 - 1 := by omega
    clear bX hr hp hA
    gi_wp2
    refine ⟨trivial, (CallsIn.inRound l (callsIn_wide.2 (CC.out _))).mono ?_⟩
    rintro e w2 ⟨rfl, hb2⟩
    have hA2 := HAA.out.up2 hb2
    have HA2 := Lib.hid hA2
    have HO2 := Lib.hid (KeepsOthers_of_below hb2)
    have r0 := hA2.rx.cell 0 _ rfl
    have r1 := hA2.ry.cell 0 _ rfl
    have f0 := hA2.rx.free 0
    have f1 := hA2.ry.free 0
    have HB2 := Lib.hid hb2
    clear hA2 hb2
    by_cases hz : x.chk = 0
    · have HPP : Hid (∀ p ∈ pre ++ [(j, x)], p.2.chk = 0) := Lib.hid (by
        intro p hp
        rcases List.mem_append.1 hp with hp | hp
        · exact HP.out p hp
        · simp only [List.mem_singleton] at hp
          subst hp
          exact hz)
      rw [hz]
      clear hz
      gi_wp2
      exact ⟨HO2.out.from _, HB2.out.mono HAA.out.up.size, HPP.out, HA2.out⟩
    · have HZ := Lib.hid hz
      have hzn : (x.chk != 0) = true := by simp [hz]
      have HA3 := Lib.hid (HA2.out.put j x.chk)
      generalize hze : x.chk = z at HZ hzn HA3
      have HE := Lib.hid hze
      clear hz hze
      gi_wp2
      exact ⟨(HO2.out.trans ((KeepsOthers.setCell _ _ _).trans (KeepsOthers.setCell _ _ _))).from _, rfl, pre, j, x, rfl, HP.out, by rw [HE.out]; exact HZ.out, by rw [HE.out]; exact HA3.out⟩
  case done =>
    rintro D ys W hD rfl ⟨hp, hA⟩ hK
    have HX := Lib.hid (first_none 0 L hp)
    have HA2 := Lib.hid (hA.put 0 0)
    have r0 := hA.rx.cell 0 _ rfl
    have r1 := hA.ry.cell 0 _ rfl
    have f0 := hA.rx.free 0
    have f1 := hA.ry.free 0
    have hK2 := Lib.hid (((KeepsOthers.setCell W ⟨w.heap.size, 0, none⟩ (.int .i64 0)).trans (KeepsOthers.setCell _ ⟨w.heap.size + 1, 0, none⟩ (.int .i64 0))).same D _ hK rfl)
    clear hA hp hK
    gi_wp2
    have hA3 := HA2.out.own (grownBy_putObj' _ D (.deferred none)) (fun r e => by cases e; exact ⟨by simp at hD; omega, _, hK2.out, rfl⟩)
    have q0 := hA3.rx.cell 0 _ rfl
    have q1 := hA3.ry.cell 0 _ rfl
    refine ⟨by simp, .inl ⟨_, _, rfl, run_takeDeferred hK2.out, ?_⟩⟩
    refine ⟨.tuple #[.int .i64 0, .int .i64 0], ?_, by rw [HA.out, HX.out], hA3.up⟩
    simp [results, Try.results7, go_sem, q0, q1]
  case stop =>
    rintro D x pre W hD hpre ⟨rfl, q, j, y, rfl, hq, hy, hA⟩ hK
    obtain ⟨r, hr⟩ := hpre
    have HX := Lib.hid (first_stop q 0 L j y r (by rw [← hr, List.append_assoc]; rfl) hq hy)
    have hA3 := hA.own (grownBy_putObj' _ D (.deferred none)) (fun r e => by cases e; exact ⟨by simp at hD; omega, _, hK, rfl⟩)
    have q0 := hA3.rx.cell 0 _ rfl
    have q1 := hA3.ry.cell 0 _ rfl
    gi_wp2
    refine ⟨by simp, .inl ⟨_, _, rfl, run_takeDeferred hK, ?_⟩⟩
    refine ⟨.tuple #[.int .i64 j, .int .i64 y.chk], ?_, by rw [HA.out, HX.out], hA3.up⟩
    simp [results, Try.results7, go_sem, q0, q1]
theorem c_all {w : World} {pl : Nat → Prop} {A : Option Addr} {c : Nat} {L : List CH} (hR : RD w pl 3 A L.length (L.flatMap chC)) (hl : L.length ≤ 10000000000000) :
    Calls Try.prog 7 #[.slice A L.length c] w (AllPost w (chAll L)) := by
  by_cases h : L.length ≤ 2000
  · exact callsIn_wide.1 (all_in 3 (by omega) hR h)
  · have HX : Hid (chAll L = (2000, 5)) := Lib.hid (by unfold chAll; rw [if_pos (by omega)])
    have hl0 : (2000 : Int) < L.length := by omega
    have HB0 := Lib.hid (((Below.refl w.heap.size w).alloc (Nat.le_refl _) (.cells #[.int .i64 2000] 3)).alloc (by simp) (.cells #[.int .i64 5] 26))
    clear hR
    go_enter Try.func7, Try.ntmps7
    go_wp2
    refine bodyPost_ret (v := .tuple #[.int .i64 2000, .int .i64 5]) (by simp [results, Try.results7, go_sem]) rfl ⟨by rw [HX.out], HB0.out⟩
end Go.Proofs.Ytpbjfadandnhaaa

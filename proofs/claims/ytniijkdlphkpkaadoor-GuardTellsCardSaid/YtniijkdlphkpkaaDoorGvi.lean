/- Guards in memory; package guard's clash, the closures, slices.IndexFunc and ContainsFunc of guards. -/
import Derived.Test.YtniijkdlphkpkaaDoorGvg
import Derived.Test.YtniijkdlphkpkaaDoorM
import Derived.BigRegion
import Derived.BigQuiet
import Derived.Deep.QuietTactic
import Derived.LoopTactic
namespace Go.Proofs.YtniijkdlphkpkaaDoor
open Go.RowKit

/-- One guard of a slice of them. -/
theorem RD.guard {w : World} {pl : Nat → Prop} {A : Option Addr} {n : Nat} {L : List GD} (h : RD w pl 5 A n (L.flatMap gdC)) (k : Nat) (g : GD) (hg : L[k]? = some g) (hk : k < n) :
    ∃ b o, A = some ⟨b, o, none⟩ ∧ b < w.heap.size ∧ w.cell? ⟨b, o + k * 5, none⟩ = some (.int .i64 g.k) ∧ w.cell? ⟨b, o + k * 5 + 1, none⟩ = some (.int .i64 g.o) ∧ w.cell? ⟨b, o + k * 5 + 2, none⟩ = some (.int .i64 g.v) ∧ w.cell? ⟨b, o + k * 5 + 3, none⟩ = some (.int .i64 g.r) ∧ w.cell? ⟨b, o + k * 5 + 4, none⟩ = some (.int .i64 g.n) := by
  obtain ⟨b, o, e, _, h2, h3⟩ := h.at_ (by omega)
  have key : ∀ j u, j < 5 → (gdC g)[j]? = some u → w.cell? ⟨b, o + k * 5 + j, none⟩ = some u := fun j u hj hu => by
    have := h3 (k * 5 + j) u (by rw [flat_get gdC 5 gdC_len L k j _ hg hj]; exact hu)
    rwa [← Nat.add_assoc] at this
  exact ⟨b, o, e, h2, key 0 _ (by omega) rfl, key 1 _ (by omega) rfl, key 2 _ (by omega) rfl, key 3 _ (by omega) rfl, key 4 _ (by omega) rfl⟩
/-- A guard as a value. -/
def gdV (g : GD) : Value := .agg #[.int .i64 g.k, .int .i64 g.o, .int .i64 g.v, .int .i64 g.r, .int .i64 g.n]

set_option maxHeartbeats 4000000 in
theorem c_gclash (k o v r n K O V R N : Int) (w : World) :
    Calls Tryd.prog 44 #[.agg #[.int .i64 k, .int .i64 o, .int .i64 v, .int .i64 r, .int .i64 n], .agg #[.int .i64 K, .int .i64 O, .int .i64 V, .int .i64 R, .int .i64 N]] w fun e w' => e = .returned (.bool (clsE k o K O)) ∧ Below w.heap.size w w' := by
  have HU := Lib.hid (up_trans (up_alloc w (.cells #[.int .i64 k, .int .i64 o, .int .i64 v, .int .i64 r, .int .i64 n] 23)) (up_alloc (w.alloc (.cells #[.int .i64 k, .int .i64 o, .int .i64 v, .int .i64 r, .int .i64 n] 23)) (.cells #[.int .i64 K, .int .i64 O, .int .i64 V, .int .i64 R, .int .i64 N] 23)))
  by_cases h : k = 1 ∨ k = 2 ∨ k = 3
  · rcases h with rfl | rfl | rfl
    case inl =>
      cases hk : ((1 : Int) == K)
      all_goals
        have HC := Lib.hid (show clsE 1 o K O = (((1 : Int) == K) && (o == O)) from rfl)
        rw [hk] at HC
        go_enter Tryd.func44, Tryd.ntmps44
        go_wp2
        go_ret
        exact ⟨ret_bool (by rw [HC.out]; simp), HU.out⟩
    case inr.inl =>
      cases hk : ((2 : Int) == K)
      all_goals
        have HC := Lib.hid (show clsE 2 o K O = (((2 : Int) == K) && (o == O)) from rfl)
        rw [hk] at HC
        go_enter Tryd.func44, Tryd.ntmps44
        go_wp2
        go_ret
        exact ⟨ret_bool (by rw [HC.out]; simp), HU.out⟩
    case inr.inr =>
      cases hk : ((3 : Int) == K)
      all_goals
        have HC := Lib.hid (show clsE 3 o K O = (((3 : Int) == K) && (o == O)) from rfl)
        rw [hk] at HC
        go_enter Tryd.func44, Tryd.ntmps44
        go_wp2
        go_ret
        exact ⟨ret_bool (by rw [HC.out]; simp), HU.out⟩
  · have HC := Lib.hid (show clsE k o K O = false from by
      have : (decide (1 ≤ k) && decide (k ≤ 3)) = false := by simp; omega
      unfold clsE
      rw [this]
      rfl)
    have t1 : (k == 1) = false := by simp; omega
    have t2 : (k == 2) = false := by simp; omega
    have t3 : (k == 3) = false := by simp; omega
    clear h
    go_enter Tryd.func44, Tryd.ntmps44
    go_wp2
    go_ret
    exact ⟨ret_bool HC.out.symm, HU.out⟩

/-- What a closure over guards says: of each guard, in whatever has grown out of w. -/
def Says (p : GD → Bool) (w : World) (F : FuncId) (c : Value) : Prop := ∀ (k o v r n : Int) (W : World), Below w.heap.size w W → Calls Tryd.prog F #[.agg #[.int .i64 k, .int .i64 o, .int .i64 v, .int .i64 r, .int .i64 n], c] W fun e w' => e = .returned (.bool (p ⟨k, o, v, r, n⟩)) ∧ Below W.heap.size W w'
set_option maxHeartbeats 1000000 in
theorem says_clash {w : World} {B : Nat} {k o v r n : Int} {t : TypeId} (hB : Blk w B [.int .i64 k, .int .i64 o, .int .i64 v, .int .i64 r, .int .i64 n] t) : Says (clsB · ⟨k, o, v, r, n⟩) w 43 (.pointer (some ⟨B, 0, none⟩)) := fun K O V R N W hW => by
  have HB2 := (hB.up hW hB.lt).alloc (.cells #[.int .i64 K, .int .i64 O, .int .i64 V, .int .i64 R, .int .i64 N] 23)
  have i0 := HB2.cell 0 _ rfl
  have i1 := HB2.cell 1 _ rfl
  have i2 := HB2.cell 2 _ rfl
  have i3 := HB2.cell 3 _ rfl
  have i4 := HB2.cell 4 _ rfl
  have HU := Lib.hid (up_alloc W (.cells #[.int .i64 K, .int .i64 O, .int .i64 V, .int .i64 R, .int .i64 N] 23))
  have C := Lib.hid (fun W => c_gclash K O V R N k o v r n W)
  have HP := Lib.hid (show clsB ⟨K, O, V, R, N⟩ ⟨k, o, v, r, n⟩ = clsE K O k o from rfl)
  clear HB2 hB hW
  go_enter Tryd.func43, Tryd.ntmps43
  go_wp2_with fail
  refine (C.out _).mono ?_; rintro e w2 ⟨rfl, hb2⟩
  go_wp2
  go_ret
  exact ⟨ret_bool HP.out.symm, up_trans HU.out hb2⟩
set_option maxHeartbeats 1000000 in
theorem says_no {w : World} {B : Nat} {no : Int} {t : TypeId} (hB : Blk w B [.int .i64 no] t) : Says (fun g => g.n == no) w 33 (.pointer (some ⟨B, 0, none⟩)) := fun K O V R N W hW => by
  have HB2 := (hB.up hW hB.lt).alloc (.cells #[.int .i64 K, .int .i64 O, .int .i64 V, .int .i64 R, .int .i64 N] 23)
  have i0 := HB2.cell 0 _ rfl
  have HU := Lib.hid (up_alloc W (.cells #[.int .i64 K, .int .i64 O, .int .i64 V, .int .i64 R, .int .i64 N] 23))
  clear HB2 hB hW
  go_enter Tryd.func33, Tryd.ntmps33
  go_wp2
  go_ret
  exact ⟨rfl, HU.out⟩

set_option maxHeartbeats 4000000 in
theorem c_gixf {p : GD → Bool} {w : World} {pl : Nat → Prop} {A : Option Addr} {n c : Nat} {L : List GD} (hR : RD w pl 5 A n (L.flatMap gdC)) (hl : L.length = n) (hn : n ≤ 100000) {F : FuncId} (hF : F = 43 ∨ F = 33) {c1 : Value} (hS : Says p w F c1) :
    Calls Tryd.prog 32 #[.slice A n c, .func (.func F) #[] #[c1]] w fun e w' => e = .returned (.int .i64 (fidx p L)) ∧ Below w.heap.size w w' := by
  have HR := Lib.hid hR
  have HL := Lib.hid hl
  have HS := Lib.hid hS
  clear hR hl hS
  rcases hF with rfl | rfl
  all_goals
    go_enter Tryd.func32, Tryd.ntmps32
    go_wp2
    go_loopw [8] (fun i wr => ∃ k : Nat, k ≤ n ∧ i = .int .i64 k ∧ (L.take k).any p = false ∧ Below w.heap.size w wr) (fun i _ => n - (intOf i).toNat)
    case atStart => exact ⟨0, Nat.zero_le _, rfl, rfl, Below.refl _ _⟩
    case round =>
      obtain ⟨k, hk, rfl, hF, hbw⟩ := hrel
      have HF := Lib.hid hF
      have HB := Lib.hid hbw
      clear hF
      by_cases hlt : k < n
      · have hex : ∃ g, L[k]? = some g := ⟨_, List.getElem?_eq_getElem (by rw [HL.out]; exact hlt)⟩
        obtain ⟨g, hg⟩ := hex
        obtain ⟨b, o, rfl, _, i0, i1, i2, i3, i4⟩ := (HR.out.below hbw).guard k g hg hlt
        have HG := Lib.hid hg
        obtain ⟨gk, go, gv, gr, gn⟩ := g
        simp only at i0 i1 i2 i3 i4
        have C := HS.out gk go gv gr gn wr hbw
        obtain ⟨x, hx⟩ : ∃ x, p ⟨gk, go, gv, gr, gn⟩ = x := ⟨_, rfl⟩
        rw [hx] at C
        have HX := Lib.hid hx
        have CC := Lib.hid C
        clear hg hbw hx C
        cases x
        · go_wp2_with fail
          refine CC.out.mono ?_; rintro e w2 ⟨rfl, hb2⟩
          have HB2 := Lib.hid (up_trans HB.out hb2)
          have HN := Lib.hid (any_next HG.out HF.out HX.out)
          clear hb2
          go_wp2
          go_roundw
          case rel => exact ⟨k + 1, by omega, by go_num, HN.out, HB2.out⟩
          case measure => simp [intOf]; omega
        · go_wp2_with fail
          refine CC.out.mono ?_; rintro e w2 ⟨rfl, hb2⟩
          have HB2 := Lib.hid (up_trans HB.out hb2)
          have HN := Lib.hid (fidx_at HG.out HF.out HX.out)
          clear hb2
          go_wp2
          go_ret
          exact ⟨ret_int HN.out.symm, HB2.out⟩
      · obtain rfl : k = n := by omega
        have HN := Lib.hid (show fidx p L = -1 from fidx_no (by
          have := HF.out
          rwa [List.take_of_length_le (by rw [HL.out]; exact Nat.le_refl _)] at this))
        clear hbw
        go_wp2
        go_ret
        exact ⟨ret_int HN.out.symm, HB.out⟩
set_option maxHeartbeats 1000000 in
theorem c_gctf {p : GD → Bool} {w : World} {pl : Nat → Prop} {A : Option Addr} {n c : Nat} {L : List GD} (hR : RD w pl 5 A n (L.flatMap gdC)) (hl : L.length = n) (hn : n ≤ 100000) {c1 : Value} (hS : Says p w 43 c1) :
    Calls Tryd.prog 42 #[.slice A n c, .func (.func 43) #[] #[c1]] w fun e w' => e = .returned (.bool (L.any p)) ∧ Below w.heap.size w w' := by
  have C := Lib.hid (c_gixf (c := c) hR hl hn (.inl rfl) hS)
  have HG := Lib.hid (fidx_geq p L)
  clear hR hl hS
  go_enter Tryd.func42, Tryd.ntmps42
  go_wp2_with fail
  refine C.out.mono ?_; rintro e w2 ⟨rfl, hb2⟩
  go_wp2
  go_ret
  exact ⟨ret_bool HG.out, hb2⟩
end Go.Proofs.YtniijkdlphkpkaaDoor

/- The contract of the law's as: a table and the document's, about a handle. -/
import Derived.Test.YtdlbcacdbcnbhaaAo
import Derived.Deep.RegionHeld3
namespace Go.Proofs.Ytdlbcacdbcnbhaa
open Go.RowKit

/-- What holds in the region: memory has only grown, and the box reads so. -/
theorem as_S {w W : World} {b : Nat} {t : TypeId} {last : Int} {A B : Option Addr} {n c m d : Nat} (h : Blk w b [.int .i64 last, .slice A n c, .slice B m d] t) (hb : Below w.heap.size w W) :
    Below w.heap.size w W ∧ W.cell? ⟨b, 0, none⟩ = some (.int .i64 last) ∧ W.cell? ⟨b, 1, none⟩ = some (.slice A n c) ∧ W.cell? ⟨b, 2, none⟩ = some (.slice B m d) :=
  ⟨hb, (h.up hb h.lt).cell 0 _ rfl, (h.up hb h.lt).cell 1 _ rfl, (h.up hb h.lt).cell 2 _ rfl⟩

theorem as_next {w W W' : World} {b : Nat} {t : TypeId} {last : Int} {A B : Option Addr} {n c m d : Nat} (h : Blk w b [.int .i64 last, .slice A n c, .slice B m d] t) (k : Below W.heap.size W W')
    (hb : Below w.heap.size w W ∧ W.cell? ⟨b, 0, none⟩ = some (.int .i64 last) ∧ W.cell? ⟨b, 1, none⟩ = some (.slice A n c) ∧ W.cell? ⟨b, 2, none⟩ = some (.slice B m d)) :
    Below w.heap.size w W' ∧ W'.cell? ⟨b, 0, none⟩ = some (.int .i64 last) ∧ W'.cell? ⟨b, 1, none⟩ = some (.slice A n c) ∧ W'.cell? ⟨b, 2, none⟩ = some (.slice B m d) := as_S h (up_trans hb.1 k)

set_option maxHeartbeats 4000000 in
theorem c_as {w : World} {t S : Nat} {pl : Nat → Prop} {last : Int} {τ : List Slot} {A B : Option Addr} {c d : Nat} (H : AT w t S last τ) (R : RT w pl τ A c B d) (hg : ∀ s ∈ τ, ∀ p, s.2 = some p → 1 ≤ s.1 ∧ s.1 ≤ 65535) (h x er : Int)
    (CP : ∀ W, Below w.heap.size w W → Calls Try.prog 16 #[.pointer (some ⟨t, 0, none⟩), .int .i64 h] W fun e w' => e = .returned (.tuple #[.int .i64 x, .int .i64 er]) ∧ Drew W w')
    (CR : ∀ W, Below w.heap.size w W → Calls Try.prog 27 #[.agg #[.int .i64 last, .slice A τ.length c, .slice B (lenT τ) d], .int .i64 h] W fun e w' => e = .returned (.tuple #[.int .i64 x, .int .i64 er]) ∧ Below W.heap.size W w') :
    Calls Try.prog 15 #[.pointer (some ⟨t, 0, none⟩), .agg #[.int .i64 last, .slice A τ.length c, .slice B (lenT τ) d], .int .i64 h] w fun e w' => e = .returned (.bool true) ∧ Below w.heap.size w w' := by
  have hb0 := up_alloc w (.cells #[.int .i64 last, .slice A τ.length c, .slice B (lenT τ) d] 31)
  have hB := box3 w last A τ.length c B (lenT τ) d
  generalize hw1 : w.alloc (.cells #[.int .i64 last, .slice A τ.length c, .slice B (lenT τ) d] 31) = w1 at hB hb0
  have CP1 := Lib.hid (CP w1 hb0)
  have CR1 := fun W hW => CR W (up_trans hb0 hW)
  have hz := hB.lt
  have H1 := H.below hb0
  have R1 := R.below hb0
  have HW := Lib.hid hw1
  have CR1 := Lib.hid CR1
  clear CP CR hw1 H R
  go_enter Try.func15, Try.ntmps15
  go_wp2_with fail
  rw [HW.out]
  refine Calls.mono CP1.out ?_
  rintro e w' ⟨rfl, n1, rfl⟩
  have c0 := hB.cell 0 _ rfl
  have c1 := hB.cell 1 _ rfl
  have c2 := hB.cell 2 _ rfl
  go_wp2_with fail
  refine Calls.mono (CR1.out _ (up_drewN _ _)) ?_
  rintro e w2 ⟨rfl, hb2⟩
  have hb12 := up_trans (up_drewN w1 n1) hb2
  have H2 := H1.below hb12
  have R2 := R1.below hb12
  have hB2 := hB.up hb12 hz
  clear c0 c1 c2 hB H1 R1
  have hlf := lenT_le τ
  have hff := R2.few
  have hhl : (handlesF 0 τ).length ≤ 100000 := by rw [handlesF_len]; omega
  have HG := Lib.hid hg
  have HHL := Lib.hid hhl
  have hx : (x == x) = true := by simp
  have he : (er == er) = true := by simp
  have hl : ((lenT τ : Int) == (lenT τ : Int)) = true := by simp
  have hf : ((freeT last τ : Int) == (freeT last τ : Int)) = true := by simp
  clear hg hhl
  go_wp2_with fail
  go_region_held3 (fun W => Below w2.heap.size w2 W ∧ W.cell? ⟨w.heap.size, 0, none⟩ = some (.int .i64 last) ∧ W.cell? ⟨w.heap.size, 1, none⟩ = some (.slice A τ.length c) ∧ W.cell? ⟨w.heap.size, 2, none⟩ = some (.slice B (lenT τ) d))
    (first | exact as_S hB2 ((Below.refl _ _).drew) | exact as_next hB2 (by assumption) (by assumption))
    (first
      | (go_at_call 19; refine (c_handles (H2.below (by simp [*])) HG.out).mono ?_; rintro e w' ⟨Ah, ch, rfl, _, _, rdh, hbh⟩)
      | (go_at_call 29; refine (c_rhandles (R2.below (by simp [*])) last).mono ?_; rintro e w' ⟨Ar, cr, rfl, _, _, rdr, hbr⟩)
      | (go_at_call 28; refine (c_same (rdh.below (by assumption)) rdr HHL.out).mono ?_; rintro e w' ⟨rfl, hds⟩; have hbs := hds.below; clear hds)
      | (go_at_call 17; refine (c_len (H2.below (by simp [*]))).mono ?_; rintro e w' ⟨rfl, hbl⟩)
      | (go_at_call 18; refine (c_freeN (H2.below (by simp [*]))).mono ?_; rintro e w' ⟨rfl, hbf⟩)
      | (go_at_call 30; refine (c_rfree (R2.below (by simp [*])) last).mono ?_; rintro e w' ⟨rfl, hbg⟩))
  go_wp2
  go_ret
  exact ⟨rfl, up_trans hb0 (up_trans hb12 (And.left (by assumption)))⟩
end Go.Proofs.Ytdlbcacdbcnbhaa

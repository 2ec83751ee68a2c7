/- The contracts of the document's Get, Same, Handles and Set. -/
import Derived.Test.YtdlbcacdbcnbhaaAu
namespace Go.Proofs.Ytdlbcacdbcnbhaa
open Go.RowKit

theorem box3 (w : World) (last : Int) (A : Option Addr) (n c : Nat) (B : Option Addr) (m d : Nat) : Blk (w.alloc (.cells #[.int .i64 last, .slice A n c, .slice B m d] 31)) w.heap.size [.int .i64 last, .slice A n c, .slice B m d] 31 :=
  Blk.new w [.int .i64 last, .slice A n c, .slice B m d] _

set_option maxHeartbeats 1000000 in
theorem c_rget_no {w : World} {τ : List Slot} {A B : Option Addr} {c d : Nat} (last : Int) (h : Int) (er : Int) (he : (er != 0) = true)
    (C0 : ∀ W, Below w.heap.size w W → Calls Try.prog 21 #[.agg #[.int .i64 last, .slice A τ.length c, .slice B (lenT τ) d], .int .i64 h] W fun e w' => e = .returned (.tuple #[.int .i64 0, .int .i64 er]) ∧ Below W.heap.size W w') :
    Calls Try.prog 27 #[.agg #[.int .i64 last, .slice A τ.length c, .slice B (lenT τ) d], .int .i64 h] w fun e w' => e = .returned (.tuple #[.int .i64 0, .int .i64 er]) ∧ Below w.heap.size w w' := by
  have C := Lib.hid (C0 _ (up_alloc w (.cells #[.int .i64 last, .slice A τ.length c, .slice B (lenT τ) d] 31)))
  clear C0
  go_enter Try.func27, Try.ntmps27
  go_wp2_with (go_at_call 21; refine Calls.mono C.out ?_; rintro e w1 ⟨rfl, hb1⟩)
  go_ret2
  exact ⟨rfl, up_trans (up_alloc _ _) hb1⟩

set_option maxHeartbeats 1000000 in
theorem c_rget_ok {w : World} {pl : Nat → Prop} {τ : List Slot} {A B : Option Addr} {c d : Nat} (h0 : RT w pl τ A c B d) (last : Int) (h : Int) (k : Nat) (hk : slotF h = k) (b : Nat) (x : Int) (hs : τ[k]? = some (genF h, some (b, x))) :
    Calls Try.prog 27 #[.agg #[.int .i64 last, .slice A τ.length c, .slice B (lenT τ) d], .int .i64 h] w fun e w' => e = .returned (.tuple #[.int .i64 x, .int .i64 0]) ∧ Below w.heap.size w w' := by
  have hb0 := up_alloc w (.cells #[.int .i64 last, .slice A τ.length c, .slice B (lenT τ) d] 31)
  have hB := box3 w last A τ.length c B (lenT τ) d
  have hf := h0.lenfew
  generalize hw1 : w.alloc (.cells #[.int .i64 last, .slice A τ.length c, .slice B (lenT τ) d] 31) = w1 at hB hb0
  have C := Lib.hid (c_rat_ok (h0.below hb0) last h k hk b x hs)
  have hz := hB.lt
  have ht := (h0.below hb0).things'
  have hy := (things_yes τ k _ b x hs).1
  have hil : ixT τ k < (thingsF 0 τ).length := (List.getElem?_eq_some_iff.1 hy).1
  obtain ⟨bB, oB, s', x', rfl, _, hlB, hg, _, hx⟩ := ht.pair (ixT τ k) hil
  have e1 : (s', x') = ((k : Int), x) := Option.some.inj (hg.symm.trans hy)
  obtain ⟨rfl, rfl⟩ := Prod.mk.inj e1
  rw [thingsF_len] at hil hf
  generalize ixT τ k = ik at C hil hx
  have HW := Lib.hid hw1
  clear h0 hs hk hw1 ht hy hg e1
  go_enter Try.func27, Try.ntmps27
  go_wp2_with (go_at_call 21; rw [HW.out]; refine Calls.mono C.out ?_; rintro e w2 ⟨rfl, hb1⟩; have hBr := hB.up hb1 hz; have c2 := hBr.cell 2 _ rfl; clear hBr; have hx := (hb1.cell (p := ⟨bB, oB + ik * 2 + 1, none⟩) hlB).trans hx)
  go_ret2
  exact ⟨rfl, up_trans hb0 hb1⟩

def DrewPost (v : Value) (w : World) (e : Ending) (w' : World) : Prop := e = .returned v ∧ Drew w w'
set_option maxHeartbeats 1000000 in
theorem c_same {w : World} {pl pl' : Nat → Prop} {A B : Option Addr} {c d : Nat} {zs : List Int} (hA : RD w pl 1 A zs.length (zs.map (Value.int .i64))) (hB : RD w pl' 1 B zs.length (zs.map (Value.int .i64))) (hz : zs.length ≤ 100000) :
    Calls Try.prog 28 #[.slice A zs.length c, .slice B zs.length d] w (DrewPost (.bool true) w) := by
  have hne : ((zs.length : Int) != zs.length) = false := by simp
  go_enter Try.func28, Try.ntmps28
  go_wp2
  go_loopw [5] (fun i wr => ∃ k : Nat, k ≤ zs.length ∧ i = .int .i64 k ∧ Drew w wr) (fun i _ => zs.length - (intOf i).toNat)
  case atStart => exact ⟨0, Nat.zero_le _, rfl, Drew.refl _⟩
  case round =>
    obtain ⟨k, hk, rfl, n, rfl⟩ := hrel
    by_cases hlt : k < zs.length
    · obtain ⟨bA, oA, rfl, _, _, hcA⟩ := hA.at_ (by omega)
      obtain ⟨bB, oB, rfl, _, _, hcB⟩ := hB.at_ (by omega)
      have h1 := hcA k (.int .i64 zs[k]) (by simp [hlt])
      have h2 := hcB k (.int .i64 zs[k]) (by simp [hlt])
      have hk0 : (0 : Int) ≤ k := by omega
      have hk1 : (k : Int) < zs.length := by omega
      have hn2 : (zs[k] != zs[k]) = false := by simp
      clear hcA hcB hA hB
      generalize zs[k] = z at h1 h2 hn2
      go_wp2_with fail
      go_quiet (fail)
      go_wp2
      go_roundw
      case rel => exact ⟨k + 1, by omega, by go_num, _, rfl⟩
      case measure => simp [intOf]; omega
    · obtain rfl : k = zs.length := by omega
      go_wp2
      go_ret
      exact ⟨rfl, _, rfl⟩
end Go.Proofs.Ytdlbcacdbcnbhaa

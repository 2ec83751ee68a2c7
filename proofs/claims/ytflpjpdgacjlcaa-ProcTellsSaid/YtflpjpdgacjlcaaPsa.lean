/- The document's SameGuards (layer 15), of a list and none, and of a list twice; its SameProc. -/
import Derived.Test.YtflpjpdgacjlcaaPrc
import Derived.LoopTactic
import Derived.BigQuiet
import Derived.Deep.QuietTactic
namespace Go.Proofs.Ytflpjpdgacjlcaa
open Go.RowKit

set_option maxHeartbeats 1000000 in
theorem c_sg0 (A : Option Addr) (n c : Nat) (w : World) : Calls Try.prog 54 #[.slice A n c, .slice none 0 0] w fun e w' => e = .returned (.bool ((n : Int) == 0)) ∧ Below w.heap.size w w' := by
  by_cases h : n = 0
  · subst h
    go_enter Try.func54, Try.ntmps54
    go_wp2_with fail
    go_loopw [5] (fun i wr => i = .int .i64 0 ∧ Below w.heap.size w wr) (fun _ _ => 0)
    case atStart => exact ⟨rfl, Below.refl _ _⟩
    case round =>
      obtain ⟨rfl, hb⟩ := hrel
      go_wp2
      go_ret
      exact ⟨rfl, hb⟩
  · have h1 : ((n : Int) == 0) = false := by simp; omega
    have h2 : ((n : Int) != 0) = true := by simp; omega
    rw [h1]
    go_enter Try.func54, Try.ntmps54
    go_wp2
    go_ret
    exact ⟨rfl, Below.refl _ _⟩
/-- One guard of a slice of them. -/
theorem RD.guard5 {w : World} {pl : Nat → Prop} {A : Option Addr} {n : Nat} {L : List GD} (h : RD w pl 5 A n (L.flatMap gdC)) (k : Nat) (g : GD) (hg : L[k]? = some g) (hk : k < n) :
    ∃ b o, A = some ⟨b, o, none⟩ ∧ b < w.heap.size ∧ w.cell? ⟨b, o + k * 5, none⟩ = some (.int .i64 g.k) ∧ w.cell? ⟨b, o + k * 5 + 1, none⟩ = some (.int .i64 g.o) ∧ w.cell? ⟨b, o + k * 5 + 2, none⟩ = some (.int .i64 g.v) ∧ w.cell? ⟨b, o + k * 5 + 3, none⟩ = some (.int .i64 g.r) ∧ w.cell? ⟨b, o + k * 5 + 4, none⟩ = some (.int .i64 g.n) := by
  obtain ⟨b, o, e, _, h2, h3⟩ := h.at_ (by omega)
  have key : ∀ j u, j < 5 → (gdC g)[j]? = some u → w.cell? ⟨b, o + k * 5 + j, none⟩ = some u := fun j u hj hu => by
    have := h3 (k * 5 + j) u (by rw [flat_get gdC 5 gdC_len L k j _ hg hj]; exact hu)
    rwa [← Nat.add_assoc] at this
  exact ⟨b, o, e, h2, key 0 _ (by omega) rfl, key 1 _ (by omega) rfl, key 2 _ (by omega) rfl, key 3 _ (by omega) rfl, key 4 _ (by omega) rfl⟩
set_option maxHeartbeats 4000000 in
theorem c_sg1 {w : World} {pl pl' : Nat → Prop} {A B : Option Addr} {n c d : Nat} {gs : List GD} (hA : RD w pl 5 A n (gs.flatMap gdC)) (hB : RD w pl' 5 B n (gs.flatMap gdC)) (hl : gs.length = n) (hn : n ≤ 1000) :
    Calls Try.prog 54 #[.slice A n c, .slice B n d] w fun e w' => e = .returned (.bool true) ∧ Below w.heap.size w w' := by
  have hne : ((n : Int) != n) = false := by simp
  have HL := Lib.hid hl
  go_enter Try.func54, Try.ntmps54
  go_wp2
  go_loopw [5] (fun i wr => ∃ k : Nat, k ≤ n ∧ i = .int .i64 k ∧ Below w.heap.size w wr) (fun i _ => n - (intOf i).toNat)
  case atStart => exact ⟨0, Nat.zero_le _, rfl, Below.refl _ _⟩
  case round =>
    obtain ⟨k, hk, rfl, hb⟩ := hrel
    have HB := Lib.hid hb
    by_cases hlt : k < n
    · obtain ⟨g, hg⟩ : ∃ g, gs[k]? = some g := ⟨_, List.getElem?_eq_getElem (by rw [HL.out]; exact hlt)⟩
      obtain ⟨bA, oA, rfl, _, a0, a1, a2, a3, a4⟩ := (hA.below hb).guard5 k g hg hlt
      obtain ⟨bB, oB, rfl, _, b0, b1, b2, b3, b4⟩ := (hB.below hb).guard5 k g hg hlt
      have hk0 : (0 : Int) ≤ k := by omega
      have hk1 : (k : Int) < n := by omega
      obtain ⟨gk, go, gv, gr, gn⟩ := g
      simp only at a0 a1 a2 a3 a4 b0 b1 b2 b3 b4
      clear hA hB hg hb
      go_wp2_with fail
      go_quiet (fail)
      go_wp2
      go_roundw
      case rel => exact ⟨k + 1, by omega, by go_num, up_trans HB.out (up_drewN _ _)⟩
      case measure => simp [intOf]; omega
    · obtain rfl : k = n := by omega
      clear hA hB
      go_wp2
      go_ret
      exact ⟨rfl, HB.out⟩
end Go.Proofs.Ytflpjpdgacjlcaa

/- The document's table in memory, and the contracts of its find, open, at and Get. -/
import Derived.Test.YtdlbcacdbcnbhaaAl
import Derived.Lib.QuietBelow
namespace Go.Proofs.Ytdlbcacdbcnbhaa
open Go.RowKit

def pairV (p : Int × Int) : List Value := [.int .i64 p.1, .int .i64 p.2]
theorem pairV_len (p : Int × Int) : (pairV p).length = 2 := rfl
theorem pairs_len (L : List (Int × Int)) : (L.flatMap pairV).length = L.length * 2 := by
  induction L with
  | nil => rfl
  | cons s τ ih => rw [List.flatMap_cons, List.length_append, ih]; simp [pairV]; omega

/-- The two lists of a document's table. -/
structure RT (w : World) (pl : Nat → Prop) (τ : List Slot) (A : Option Addr) (c : Nat) (B : Option Addr) (d : Nat) : Prop where
  gens : RD w pl 1 A τ.length ((gensT τ).map (Value.int .i64))
  things : RD w pl 2 B (lenT τ) ((thingsF 0 τ).flatMap pairV)
  c0 : τ.length ≤ c
  c1 : c ≤ maxLen
  d0 : lenT τ ≤ d
  d1 : d ≤ maxLen
  pos : 0 < τ.length
  few : τ.length ≤ 4096
theorem RT.only {s : Nat → Prop} {w w' : World} {pl : Nat → Prop} {τ : List Slot} {A B : Option Addr} {c d : Nat} (h : RT w pl τ A c B d) (o : Only s w w') (hs : ∀ k, s k → ¬ pl k) : RT w' pl τ A c B d :=
  ⟨h.gens.only o hs, h.things.only o hs, h.c0, h.c1, h.d0, h.d1, h.pos, h.few⟩
theorem RT.below {w w' : World} {pl : Nat → Prop} {τ : List Slot} {A B : Option Addr} {c d : Nat} (h : RT w pl τ A c B d) (o : Below w.heap.size w w') : RT w' pl τ A c B d :=
  ⟨h.gens.below o, h.things.below o, h.c0, h.c1, h.d0, h.d1, h.pos, h.few⟩
theorem RT.gen {w : World} {pl : Nat → Prop} {τ : List Slot} {A B : Option Addr} {c d : Nat} (h : RT w pl τ A c B d) : ∃ b o, A = some ⟨b, o, none⟩ ∧ pl b ∧ b < w.heap.size ∧ ∀ k s, τ[k]? = some s → w.cell? ⟨b, o + k, none⟩ = some (.int .i64 s.1) := by
  obtain ⟨b, o, e, h1, h2, h3⟩ := h.gens.at_ h.pos
  exact ⟨b, o, e, h1, h2, fun k s hk => h3 k _ (by simp [gensT, hk])⟩

theorem RD.pair {w : World} {pl : Nat → Prop} {B : Option Addr} {L : List (Int × Int)} (h : RD w pl 2 B L.length (L.flatMap pairV)) (k : Nat) (hk : k < L.length) :
    ∃ b o s x, B = some ⟨b, o, none⟩ ∧ pl b ∧ b < w.heap.size ∧ L[k]? = some (s, x) ∧ w.cell? ⟨b, o + k * 2, none⟩ = some (.int .i64 s) ∧ w.cell? ⟨b, o + k * 2 + 1, none⟩ = some (.int .i64 x) := by
  obtain ⟨b, o, e, h1, h2, h3⟩ := h.at_ (by omega)
  have hg : L[k]? = some (L[k].1, L[k].2) := List.getElem?_eq_getElem hk
  refine ⟨b, o, L[k].1, L[k].2, e, h1, h2, hg, ?_, ?_⟩
  · exact h3 (k * 2) _ (by rw [show k * 2 = k * 2 + 0 from rfl, flat2_get pairV pairV_len L k 0 _ hg (by omega)]; rfl)
  · have := h3 (k * 2 + 1) (.int .i64 L[k].2) (by rw [flat2_get pairV pairV_len L k 1 _ hg (by omega)]; rfl)
    rwa [← Nat.add_assoc] at this

set_option maxHeartbeats 400000 in
theorem c_rfind_yes {w : World} {pl : Nat → Prop} {B : Option Addr} {L : List (Int × Int)} {d : Nat} (h0 : RD w pl 2 B L.length (L.flatMap pairV)) (hL : L.length ≤ 4096) (lastV gensV : Value) (i : Nat) (s x : Int) (hi : L[i]? = some (s, x)) (hno : ∀ p ∈ L.take i, p.1 ≠ s) :
    Calls Try.prog 35 #[.agg #[lastV, gensV, .slice B L.length d], .int .i64 s] w fun e w' => e = .returned (.int .i64 i) ∧ Below w.heap.size w w' := by
  have h := h0.below (up_alloc w (.cells #[lastV, gensV, .slice B L.length d] 31))
  have hil : i < L.length := (List.getElem?_eq_some_iff.1 hi).1
  have HI := Lib.hid hi
  have HNO := Lib.hid hno
  clear hi hno h0
  go_enter Try.func35, Try.ntmps35
  go_wp2
  go_loop [5] (fun a => ∃ k : Nat, k ≤ i ∧ a = .int .i64 k) (fun a => i - (intOf a).toNat)
  case atStart => exact ⟨0, Nat.zero_le _, rfl⟩
  case round =>
    obtain ⟨k, hk, rfl⟩ := hrel
    obtain ⟨b, o, s', x', rfl, _, hb, hg, c0, c1⟩ := h.pair k (by omega)
    by_cases hki : k < i
    · have hne : (s' == s) = false := beq_eq_false_iff_ne.2 (HNO.out (s', x') (List.mem_of_getElem? (i := k) (by rw [List.getElem?_take_of_lt hki]; exact hg)))
      clear hg c1
      go_wp2
      go_round
      case rel => exact ⟨k + 1, by omega, by go_num⟩
      case measure => simp [intOf]; omega
    · obtain rfl : k = i := by omega
      rw [HI.out] at hg
      obtain ⟨rfl, rfl⟩ := Prod.mk.inj (Option.some.inj hg)
      clear hg c1
      go_wp2
      go_ret
      exact ⟨rfl, up_alloc _ _⟩

set_option maxHeartbeats 400000 in
theorem c_rfind_no {w : World} {pl : Nat → Prop} {B : Option Addr} {L : List (Int × Int)} {d : Nat} (h0 : RD w pl 2 B L.length (L.flatMap pairV)) (hL : L.length ≤ 4096) (lastV gensV : Value) (s : Int) (hno : ∀ p ∈ L, p.1 ≠ s) :
    Calls Try.prog 35 #[.agg #[lastV, gensV, .slice B L.length d], .int .i64 s] w fun e w' => e = .returned (.int .i64 (-1)) ∧ Below w.heap.size w w' := by
  have h := h0.below (up_alloc w (.cells #[lastV, gensV, .slice B L.length d] 31))
  have HNO := Lib.hid hno
  clear hno h0
  go_enter Try.func35, Try.ntmps35
  go_wp2
  go_loop [5] (fun a => ∃ k : Nat, k ≤ L.length ∧ a = .int .i64 k) (fun a => L.length - (intOf a).toNat)
  case atStart => exact ⟨0, Nat.zero_le _, rfl⟩
  case round =>
    obtain ⟨k, hk, rfl⟩ := hrel
    by_cases hki : k < L.length
    · obtain ⟨b, o, s', x', rfl, _, hb, hg, c0, c1⟩ := h.pair k (by omega)
      have hne : (s' == s) = false := beq_eq_false_iff_ne.2 (HNO.out (s', x') (List.mem_of_getElem? hg))
      clear hg c1
      go_wp2
      go_round
      case rel => exact ⟨k + 1, by omega, by go_num⟩
      case measure => simp [intOf]; omega
    · obtain rfl : k = L.length := by omega
      go_wp2
      go_ret
      exact ⟨rfl, up_alloc _ _⟩
end Go.Proofs.Ytdlbcacdbcnbhaa

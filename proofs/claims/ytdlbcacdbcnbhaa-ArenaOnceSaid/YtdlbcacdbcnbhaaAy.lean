/- What a handle meets, in the program's table and in the document's; each step of a play does the same to both. -/
import Derived.Test.YtdlbcacdbcnbhaaAq
namespace Go.Proofs.Ytdlbcacdbcnbhaa
open Go.RowKit

/-- The generations are such as may be. -/
def GB (last : Int) (τ : List Slot) : Prop := ∀ s ∈ τ, 0 ≤ s.1 ∧ s.1 ≤ last ∧ ∀ p, s.2 = some p → 1 ≤ s.1
theorem GB.set {last : Int} {τ : List Slot} (h : GB last τ) (k : Nat) (s : Slot) (h0 : 0 ≤ s.1) (h1 : s.1 ≤ last) (h2 : ∀ p, s.2 = some p → 1 ≤ s.1) : GB last (τ.set k s) := by
  intro x hx
  rcases List.mem_or_eq_of_mem_set hx with h3 | rfl
  · exact h x h3
  · exact ⟨h0, h1, h2⟩
theorem GB.rep (last : Int) (hl : 0 ≤ last) (n : Nat) : GB last (List.replicate n (0, none)) := by
  intro s hs
  rw [List.eq_of_mem_replicate hs]
  exact ⟨by simp, hl, fun p e => by cases e⟩
theorem GB.hg {last : Int} {τ : List Slot} (h : GB last τ) (hl : last ≤ 65535) : ∀ s ∈ τ, ∀ p, s.2 = some p → 1 ≤ s.1 ∧ s.1 ≤ 65535 := fun s hs p e => ⟨(h s hs).2.2 p e, by have := (h s hs).2.1; omega⟩

/-- Where a handle leads. -/
inductive Meets (τ : List Slot) (h : Int) : Prop where
  | range (r : slotF h < 0 ∨ (τ.length : Int) ≤ slotF h)
  | none (k : Nat) (hk : slotF h = k) (g : Int) (hs : τ[k]? = some (g, none))
  | stale (k : Nat) (hk : slotF h = k) (g : Int) (b : Nat) (x : Int) (hs : τ[k]? = some (g, some (b, x))) (hg : g ≠ genF h)
  | ok (k : Nat) (hk : slotF h = k) (b : Nat) (x : Int) (hs : τ[k]? = some (genF h, some (b, x)))
theorem meets (τ : List Slot) (h : Int) : Meets τ h := by
  by_cases r : slotF h < 0 ∨ (τ.length : Int) ≤ slotF h
  · exact .range r
  · obtain ⟨k, hk⟩ : ∃ k : Nat, slotF h = k := ⟨(slotF h).toNat, by omega⟩
    have hlt : k < τ.length := by omega
    have hs : τ[k]? = some (τ[k].1, τ[k].2) := List.getElem?_eq_getElem hlt
    generalize τ[k].1 = g at hs
    generalize τ[k].2 = o at hs
    rcases o with _ | ⟨b, x⟩
    · exact .none k hk g hs
    · by_cases hg : g = genF h
      · subst hg
        exact .ok k hk b x hs
      · exact .stale k hk g b x hs hg

/-- Get gives the same for both. -/
structure GetBoth (t S : Nat) (last : Int) (τ : List Slot) (h x er : Int) : Prop where
  prog : ∀ W, AT W t S last τ → Calls Try.prog 16 #[.pointer (some ⟨t, 0, none⟩), .int .i64 h] W fun e w' => e = .returned (.tuple #[.int .i64 x, .int .i64 er]) ∧ Drew W w'
  doc : ∀ W pl A c B d, RT W pl τ A c B d → Calls Try.prog 27 #[.agg #[.int .i64 last, .slice A τ.length c, .slice B (lenT τ) d], .int .i64 h] W fun e w' => e = .returned (.tuple #[.int .i64 x, .int .i64 er]) ∧ Below W.heap.size W w'
theorem get_both (t S : Nat) (last : Int) (τ : List Slot) (h : Int) (hI : I64 h) : ∃ x er, GetBoth t S last τ h x er := by
  rcases meets τ h with r | ⟨k, hk, g, hs⟩ | ⟨k, hk, g, b, x, hs, hg⟩ | ⟨k, hk, b, x, hs⟩
  · exact ⟨0, 8, fun W H => c_get_range H h hI r, fun W pl A c B d R => c_rget_no last h 8 rfl fun W' hW => c_rat_range (R.below hW) last h r⟩
  · exact ⟨0, 9, fun W H => c_get_stale H h hI k hk g none hs (.inl rfl), fun W pl A c B d R => c_rget_no last h 9 rfl fun W' hW => c_rat_none (R.below hW) last h k hk g hs⟩
  · exact ⟨0, 9, fun W H => c_get_stale H h hI k hk g _ hs (.inr hg), fun W pl A c B d R => c_rget_no last h 9 rfl fun W' hW => c_rat_some (R.below hW) last h k hk g b x hs hg⟩
  · exact ⟨x, 0, fun W H => c_get_ok H h hI k hk b x hs, fun W pl A c B d R => c_rget_ok R last h k hk b x hs⟩
theorem as_any {w : World} {t S : Nat} {pl : Nat → Prop} {last : Int} {τ : List Slot} {A B : Option Addr} {c d : Nat} (H : AT w t S last τ) (R : RT w pl τ A c B d) (hg : GB last τ) (hl : last ≤ 65535) (h : Int) (hI : I64 h) :
    Calls Try.prog 15 #[.pointer (some ⟨t, 0, none⟩), .agg #[.int .i64 last, .slice A τ.length c, .slice B (lenT τ) d], .int .i64 h] w fun e w' => e = .returned (.bool true) ∧ Below w.heap.size w w' := by
  obtain ⟨x, er, G⟩ := get_both t S last τ h hI
  exact c_as H R (hg.hg hl) h x er (fun W hW => G.prog W (H.below hW)) (fun W hW => G.doc W _ _ _ _ _ (R.below hW))

/-- Set does the same to both. -/
structure SetBoth (w : World) (t S : Nat) (last : Int) (τ τ' : List Slot) (h y er : Int) : Prop where
  len : τ'.length = τ.length
  gb : GB last τ'
  er0 : 0 ≤ er ∧ er ≤ 9
  prog : Calls Try.prog 9 #[.pointer (some ⟨t, 0, none⟩), .int .i64 h, .int .i64 y] w fun e w' => e = .returned (.int .i64 er) ∧ AT w' t S last τ' ∧ Only (· = S) w w'
  doc : ∀ W pl A c B d, RT W pl τ A c B d → (∀ b, W.heap.size ≤ b → pl b) → Calls Try.prog 10 #[.agg #[.int .i64 last, .slice A τ.length c, .slice B (lenT τ) d], .int .i64 h, .int .i64 y] W (RTPost W pl last τ' er)
theorem set_both {w : World} {t S : Nat} {last : Int} {τ : List Slot} (H : AT w t S last τ) (hg : GB last τ) (h y : Int) (hI : I64 h) : ∃ τ' er, SetBoth w t S last τ τ' h y er := by
  rcases meets τ h with r | ⟨k, hk, g, hs⟩ | ⟨k, hk, g, b, x, hs, hgn⟩ | ⟨k, hk, b, x, hs⟩
  · exact ⟨τ, 8, rfl, hg, by omega, (c_set_range H h y hI r).mono fun _ _ ⟨a, b⟩ => ⟨a, H.below b, Only.of_below b⟩, fun W pl A c B d R _ => c_rset_no R last h y 8 rfl fun W' hW => c_rat_range (R.below hW) last h r⟩
  · exact ⟨τ, 9, rfl, hg, by omega, (c_set_stale H h y hI k hk g none hs (.inl rfl)).mono fun _ _ ⟨a, b⟩ => ⟨a, H.below b, Only.of_below b⟩, fun W pl A c B d R _ => c_rset_no R last h y 9 rfl fun W' hW => c_rat_none (R.below hW) last h k hk g hs⟩
  · exact ⟨τ, 9, rfl, hg, by omega, (c_set_stale H h y hI k hk g _ hs (.inr hgn)).mono fun _ _ ⟨a, b⟩ => ⟨a, H.below b, Only.of_below b⟩, fun W pl A c B d R _ => c_rset_no R last h y 9 rfl fun W' hW => c_rat_some (R.below hW) last h k hk g b x hs hgn⟩
  · have hm := hg _ (List.mem_of_getElem? hs)
    exact ⟨τ.set k (genF h, some (w.heap.size, y)), 0, by simp, hg.set k _ hm.1 hm.2.1 (fun p _ => hm.2.2 _ rfl), by omega, c_set_ok H h y hI k hk b x hs, fun W pl A c B d R hq => c_rset_ok R hq last h y k hk b x hs w.heap.size⟩

/-- Drop does the same to both. -/
structure DropBoth (w : World) (t S : Nat) (last : Int) (τ τ' : List Slot) (h er : Int) : Prop where
  len : τ'.length = τ.length
  gb : GB last τ'
  er0 : 0 ≤ er ∧ er ≤ 9
  prog : Calls Try.prog 11 #[.pointer (some ⟨t, 0, none⟩), .int .i64 h] w fun e w' => e = .returned (.int .i64 er) ∧ AT w' t S last τ' ∧ Only (· = S) w w'
  doc : ∀ W pl A c B d, RT W pl τ A c B d → (∀ b, W.heap.size ≤ b → pl b) → Calls Try.prog 12 #[.agg #[.int .i64 last, .slice A τ.length c, .slice B (lenT τ) d], .int .i64 h] W (RTPost W pl last τ' er)
theorem drop_both {w : World} {t S : Nat} {last : Int} {τ : List Slot} (H : AT w t S last τ) (hg : GB last τ) (h : Int) (hI : I64 h) : ∃ τ' er, DropBoth w t S last τ τ' h er := by
  rcases meets τ h with r | ⟨k, hk, g, hs⟩ | ⟨k, hk, g, b, x, hs, hgn⟩ | ⟨k, hk, b, x, hs⟩
  · exact ⟨τ, 8, rfl, hg, by omega, (c_drop_range H h hI r).mono fun _ _ ⟨a, b⟩ => ⟨a, H.below b.below, Only.of_below b.below⟩, fun W pl A c B d R _ => c_rdrop_no R last h 8 rfl fun W' hW => c_rat_range (R.below hW) last h r⟩
  · exact ⟨τ, 9, rfl, hg, by omega, (c_drop_stale H h hI k hk g none hs (.inl rfl)).mono fun _ _ ⟨a, b⟩ => ⟨a, H.below b.below, Only.of_below b.below⟩, fun W pl A c B d R _ => c_rdrop_no R last h 9 rfl fun W' hW => c_rat_none (R.below hW) last h k hk g hs⟩
  · exact ⟨τ, 9, rfl, hg, by omega, (c_drop_stale H h hI k hk g _ hs (.inr hgn)).mono fun _ _ ⟨a, b⟩ => ⟨a, H.below b.below, Only.of_below b.below⟩, fun W pl A c B d R _ => c_rdrop_no R last h 9 rfl fun W' hW => c_rat_some (R.below hW) last h k hk g b x hs hgn⟩
  · have hm := hg _ (List.mem_of_getElem? hs)
    exact ⟨τ.set k (genF h, none), 0, by simp, hg.set k _ hm.1 hm.2.1 (fun p e => by cases e), by omega, c_drop_ok H h hI k hk b x hs, fun W pl A c B d R hq => c_rdrop_ok R hq last h k hk b x hs⟩

/-- Add does the same to both. -/
structure AddBoth (w : World) (t S : Nat) (last : Int) (τ τ' : List Slot) (y hd er : Int) : Prop where
  len : τ'.length = τ.length
  gb : GB last τ'
  er0 : 0 ≤ er ∧ er ≤ 10
  prog : Calls Try.prog 13 #[.pointer (some ⟨t, 0, none⟩), .int .i64 y] w fun e w' => e = .returned (.tuple #[.int .i64 hd, .int .i64 er]) ∧ AT w' t S last τ' ∧ Only (· = S) w w'
  doc : ∀ W pl A c B d, RT W pl τ A c B d → (∀ b, W.heap.size ≤ b → pl b) → Calls Try.prog 14 #[.agg #[.int .i64 last, .slice A τ.length c, .slice B (lenT τ) d], .int .i64 y] W (RTPost3 W pl last τ' hd er)
/-- The first free slot, or none is free. -/
theorem first_free (last : Int) (τ : List Slot) : (∀ s ∈ τ, isFree last s = false) ∨ ∃ k g, τ[k]? = some (g, none) ∧ g < last ∧ ∀ s ∈ τ.take k, isFree last s = false := by
  induction τ with
  | nil => exact .inl (by simp)
  | cons a τ ih =>
    cases hf : isFree last a
    · rcases ih with h | ⟨k, g, h1, h2, h3⟩
      · exact .inl (by simpa [hf] using h)
      · exact .inr ⟨k + 1, g, by simpa using h1, h2, by simpa [hf] using h3⟩
    · obtain ⟨g, o⟩ := a
      cases o with
      | none => exact .inr ⟨0, g, rfl, by simpa [isFree] using hf, by simp⟩
      | some p => simp [isFree] at hf
theorem add_both {w : World} {t S : Nat} {last : Int} {τ : List Slot} (H : AT w t S last τ) (hg : GB last τ) (hl : last ≤ 65535) (y : Int) : ∃ τ' hd er, AddBoth w t S last τ τ' y hd er := by
  rcases first_free last τ with h | ⟨k, g, hk, hgl, hno⟩
  · exact ⟨τ, 0, 10, rfl, hg, by omega, (c_add_no H y h).mono fun _ _ ⟨a, b⟩ => ⟨a, H.below b, Only.of_below b⟩, fun W pl A c B d R _ => c_radd_no R last y h⟩
  · have hm := hg _ (List.mem_of_getElem? hk)
    have h0 : 0 ≤ g := hm.1
    exact ⟨τ.set k (g + 1, some (w.heap.size, y)), 4096 * (g + 1) + k, 0, by simp, hg.set k _ (by simp only; omega) (by simp only; omega) (fun p _ => by simp only; omega), by omega, c_add H y k g hk hgl h0 hl hno, fun W pl A c B d R hq => c_radd R hq last y k g hk hgl h0 hl hno w.heap.size⟩
end Go.Proofs.Ytdlbcacdbcnbhaa

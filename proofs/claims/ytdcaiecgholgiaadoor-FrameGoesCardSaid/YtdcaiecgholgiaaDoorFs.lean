/- The contract of package frame's named: a text's parts with a name and numbers behind them. -/
import Derived.Test.YtdcaiecgholgiaaDoorFc
import Derived.Test.YtdcaiecgholgiaaDoorIt
import Derived.Test.YtdcaiecgholgiaaDoorN
import Derived.Test.YtdcaiecgholgiaaDoorNb
namespace Go.Proofs.YtdcaiecgholgiaaDoor
open Go.RowKit

theorem ei_str : EI Tryd.prog 54 9 (.string ⟨#[]⟩) 1 16 := ⟨Tryd.underlying54, by kernel_rfl, rfl, by omega, by omega⟩
def strV (l : List UInt8) : Value := .string ⟨l.toArray⟩
theorem strs_one (ps : List (List UInt8)) : ∀ u ∈ ps.map strV, u.oneCell' = true := by
  intro u hu
  obtain ⟨l, _, rfl⟩ := List.mem_map.1 hu
  rfl
/-- A slice reads as numbers, in blocks below lo. -/
def RL (w : World) (lo : Nat) (A : Option Addr) (xs : List Int) : Prop := ∀ (j : Nat) (x : Int), xs[j]? = some x → ∃ b o, A = some ⟨b, o, none⟩ ∧ b < lo ∧ w.cell? ⟨b, o + j, none⟩ = some (.int .i64 x)
theorem RL.below {w w' : World} {lo : Nat} {A : Option Addr} {xs : List Int} (h : RL w lo A xs) (hb : Below lo w w') : RL w' lo A xs := fun j x hx => by
  obtain ⟨b, o, e, h1, h2⟩ := h j x hx
  exact ⟨b, o, e, h1, (hb.cell (p := ⟨b, o + j, none⟩) h1).trans h2⟩
theorem RL.of {w : World} {lo : Nat} {A : Option Addr} {xs : List Int} (h : RI w A xs) (hl : w.heap.size ≤ lo) : RL w lo A xs := fun j x hx => by
  obtain ⟨b, o, e, h1, h2⟩ := h j x hx
  exact ⟨b, o, e, Nat.lt_of_lt_of_le h1 hl, h2⟩

def itoaP (ps : List (List UInt8)) (nm : List UInt8) (xs : List Int) : List (List UInt8) := ps ++ [nm] ++ xs.map Lib.itoa

set_option maxHeartbeats 1000000 in
theorem c_named {w : World} {lo : Nat} {v : Value} {ps : List (List UInt8)} (hown : w.ownsRow lo 9 1 v ps.length (ps.map strV)) (nm : List UInt8) {A : Option Addr} {xs : List Int} {c : Nat} (hr : RL w lo A xs) (hlo : lo ≤ w.heap.size)
    (hps : ps.length ≤ 1000) (hxs : xs.length ≤ 1000) (hb : ∀ x ∈ xs, fineW x = true) (htl : ∀ W, Below lo w W → EnvT W) :
    Calls Tryd.prog 34 #[v, .string ⟨nm.toArray⟩, .slice A xs.length c] w fun e w' => ∃ v', e = .returned v' ∧ w'.ownsRow lo 9 1 v' (itoaP ps nm xs).length ((itoaP ps nm xs).map strV) ∧ Below lo w w' := by
  have HTL := Lib.hid htl
  have HRL := Lib.hid hr
  have HB := Lib.hid hb
  obtain ⟨n, hn⟩ : ∃ n, n = xs.length := ⟨_, rfl⟩
  have HN := Lib.hid hn
  rw [← hn] at hxs ⊢
  clear hr hb htl hn
  go_enter Tryd.func34, Tryd.ntmps34
  go_wp2_with (at_builtin; refine wpList_app ei_str rfl (.tmp 9) (.tmp 11) rfl _ _ rfl (hown.alloc _) rfl (RD.one (by simp)) (by simp [Value.oneCell']) (by omega) (by simp; omega) ?_; intro v1 w1 hown1 hb1)
  go_loopw [0, 15] (fun v i wr => ∃ k : Nat, k ≤ n ∧ i = .int .i64 k ∧ wr.ownsRow lo 9 1 v (itoaP ps nm (xs.take k)).length ((itoaP ps nm (xs.take k)).map strV) ∧ Below lo w wr) (fun _ i _ => n - (intOf i).toNat)
  case atStart =>
    refine ⟨0, by omega, rfl, ?_, (Below.refl lo w).alloc hlo _ |>.trans hb1⟩
    simpa [itoaP, strV] using hown1
  case round =>
    obtain ⟨k, hk, rfl, hown, hbr⟩ := hrel
    have hls : (itoaP ps nm (xs.take k)).length ≤ 2001 := by
      simp only [itoaP, List.length_append, List.length_map, List.length_take, List.length_singleton]
      omega
    have HBR := Lib.hid hbr
    by_cases hlt : k < n
    · obtain ⟨x, hx⟩ : ∃ x, xs[k]? = some x := ⟨xs[k]'(by rw [← HN.out]; exact hlt), List.getElem?_eq_getElem _⟩
      obtain ⟨b, o, rfl, _, i0⟩ := (HRL.out.below hbr) k x hx
      obtain ⟨x0, x1⟩ := (fineW_iff x).1 (HB.out x (List.mem_of_getElem? hx))
      have CI := Lib.hid (c_itoa x (by omega) (by omega) wr (HTL.out wr hbr))
      have HN2 := Lib.hid (show itoaP ps nm (xs.take (k + 1)) = itoaP ps nm (xs.take k) ++ [Lib.itoa x] by
        unfold itoaP
        rw [List.take_add_one, hx, List.map_append, ← List.append_assoc]
        rfl)
      clear hx hbr
      have hsz := HBR.out.size
      generalize Lib.itoa x = tx at CI HN2
      generalize itoaP ps nm (xs.take k) = qs at hown hls HN2
      go_wp2_with (first | (go_at_call 41; refine CI.out.mono ?_; rintro e w2 ⟨rfl, hb2⟩; have hs2 := hb2.size) | (at_builtin; refine wpList_app ei_str rfl (.tmp 19) (.tmp 22) rfl _ _ rfl ((own_below hown (hb2.mono (by omega))).alloc _) rfl (RD.one (by simp)) (by simp [Value.oneCell']) (by omega) (by simp; omega) ?_; intro v' w4 hown1 hb4))
      go_roundw
      case rel => exact ⟨k + 1, by omega, by go_num, by rw [HN2.out, List.map_append, List.length_append]; exact hown1, ((HBR.out.trans (hb2.mono (by omega))).alloc (by omega) _).trans hb4⟩
      case measure => simp [intOf]; omega
    · go_wp2
      go_ret
      rw [List.take_of_length_le (by rw [← HN.out]; omega)] at hown
      exact ⟨_, rfl, hown, HBR.out⟩
end Go.Proofs.YtdcaiecgholgiaaDoor

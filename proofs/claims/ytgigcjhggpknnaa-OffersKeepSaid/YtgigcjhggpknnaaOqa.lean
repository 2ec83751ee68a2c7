/- The document's table of offers: New, is, find, Put, Drop. -/
import Derived.Test.YtgigcjhggpknnaaOpc
import Derived.BigRegion
import Derived.Deep.RegionLaw
import Derived.IntWalk
namespace Go.Proofs.Ytgigcjhggpknnaa
open Go.RowKit

theorem ei_dof : EI Try.prog 28 75 (.agg #[.int .i64 0, .int .i64 0, .int .i64 0, .int .i64 0, .int .i64 0, .int .i64 0]) 6 48 := ⟨Try.underlying28, by kernel_rfl, rfl, by omega, by omega⟩
/-- The document's list reads so, in blocks of pl. -/
structure DO (w : World) (pl : Nat → Prop) (D : List OF) (A : Option Addr) (c : Nat) : Prop where
  rd : RD w pl 6 A D.length (D.flatMap ofC)
  cap : D.length ≤ c
  top : c ≤ maxLen
  few : D.length ≤ 1024
theorem DO.only {s : Nat → Prop} {w w' : World} {pl : Nat → Prop} {D : List OF} {A : Option Addr} {c : Nat} (h : DO w pl D A c) (o : Only s w w') (hs : ∀ k, s k → ¬ pl k) : DO w' pl D A c := ⟨h.rd.only o hs, h.cap, h.top, h.few⟩
theorem DO.below {w w' : World} {pl : Nat → Prop} {D : List OF} {A : Option Addr} {c : Nat} (h : DO w pl D A c) (o : Below w.heap.size w w') : DO w' pl D A c := ⟨h.rd.below o, h.cap, h.top, h.few⟩
theorem DO.of {w : World} {lo n : Nat} {v : Value} {D : List OF} {pl : Nat → Prop} (h : w.ownsRow lo 75 6 v n (D.flatMap ofC)) (hl : ∀ b, lo ≤ b → pl b) (hf : D.length ≤ 1024) : ∃ A c, v = .slice A D.length c ∧ DO w pl D A c := by
  obtain ⟨A, c, rfl, h1, h2, h3⟩ := own_slice h
  obtain rfl : n = D.length := by have := h.1; rw [flat_len ofC 6 ofC_len] at this; omega
  exact ⟨A, c, rfl, h3.lo hl, h1, h2, hf⟩
theorem DO.lo {w : World} {pl pl' : Nat → Prop} {D : List OF} {A : Option Addr} {c : Nat} (h : DO w pl D A c) (hl : ∀ b, pl b → pl' b) : DO w pl' D A c := ⟨h.rd.lo hl, h.cap, h.top, h.few⟩
/-- A table's box, and the answer's cell at block r. -/
structure DX (w w2 : World) (r : Nat) (room : Int) (u : Value) : Prop where
  up : Below w.heap.size w w2
  box : Blk w2 w.heap.size [.int .i64 room, u] 30
  res : Blk w2 r [.int .i64 0, .slice none 0 0] 30
  hr : w.heap.size < r
theorem DX.next {w w2 w3 : World} {r : Nat} {room : Int} {u : Value} (h : DX w w2 r room u) (hb : Below w2.heap.size w2 w3) : DX w w3 r room u :=
  ⟨up_trans h.up hb, h.box.up hb h.box.lt, h.res.up hb h.res.lt, h.hr⟩
theorem dx_of (w : World) (room : Int) (u : Value) : DX w ((w.alloc (.cells #[.int .i64 room, u] 30)).alloc (.cells #[.int .i64 0, .slice none 0 0] 30)) (w.heap.size + 1) room u := by
  refine ⟨up_trans (up_alloc _ _) (up_alloc _ _), (Blk.new w [.int .i64 room, u] _).alloc _, ?_, by omega⟩
  have := Blk.new (w.alloc (.cells #[.int .i64 room, u] 30)) [.int .i64 0, .slice none 0 0] 30
  simpa using this
theorem DX.out {w w2 : World} {r : Nat} {room : Int} {u : Value} (h : DX w w2 r room u) (x y : Value) : Below w.heap.size w ((w2.setCell ⟨r, 0, none⟩ x).setCell ⟨r, 1, none⟩ y) :=
  (h.up.setCell (by have := h.hr; simp; omega) _).setCell (by have := h.hr; simp; omega) _
theorem DX.out2 {w w2 : World} {r : Nat} {room : Int} {u : Value} (h : DX w w2 r room u) (x y z : Value) : Below w.heap.size w (((w2.setCell ⟨w.heap.size, 1, none⟩ z).setCell ⟨r, 0, none⟩ x).setCell ⟨r, 1, none⟩ y) :=
  ((h.up.setCell (by simp) _).setCell (by have := h.hr; simp; omega) _).setCell (by have := h.hr; simp; omega) _
theorem DX.after {w w2 : World} {r : Nat} {room : Int} {u : Value} (_ : DX w w2 r room u) (x y z : Value) : Only (fun k => k = w.heap.size ∨ k = r) w2 (((w2.setCell ⟨w.heap.size, 1, none⟩ z).setCell ⟨r, 0, none⟩ x).setCell ⟨r, 1, none⟩ y) :=
  (((Only.refl _ w2).setCell (.inl (.inl rfl)) z).setCell (.inl (.inr rfl)) x).setCell (.inl (.inr rfl)) y
/-- A table, and a number. -/
def DPost (w : World) (pl : Nat → Prop) (room : Int) (D : List OF) (er : Int) (e : Ending) (w' : World) : Prop :=
  ∃ A c, e = .returned (.tuple #[.agg #[.int .i64 room, .slice A D.length c], .int .i64 er]) ∧ DO w' pl D A c ∧ Below w.heap.size w w'

theorem d_new_no (room : Int) (h : room < 1 ∨ 1024 < room) (w : World) :
    Calls Try.prog 8 #[.int .i64 room] w fun e w' => e = .returned (.tuple #[.agg #[.int .i64 0, .slice none 0 0], .int .i64 1]) ∧ Below w.heap.size w w' := by
  have HU := Lib.hid (up_alloc w (.cells #[.int .i64 0, .slice none 0 0] 30))
  by_cases h0 : room < 1
  · clear h
    go_enter Try.func8, Try.ntmps8
    go_wp2
    refine bodyPost_ret (v := .tuple #[.agg #[.int .i64 0, .slice none 0 0], .int .i64 1]) (by simp [results, Try.results8, go_sem]) rfl ?_
    exact ⟨rfl, HU.out⟩
  · have h4 : 1024 < room := by omega
    clear h
    go_enter Try.func8, Try.ntmps8
    go_wp2
    refine bodyPost_ret (v := .tuple #[.agg #[.int .i64 0, .slice none 0 0], .int .i64 1]) (by simp [results, Try.results8, go_sem]) rfl ?_
    exact ⟨rfl, HU.out⟩
theorem d_new (room : Int) (h0 : 1 ≤ room) (h1 : room ≤ 1024) (w : World) :
    Calls Try.prog 8 #[.int .i64 room] w fun e w' => e = .returned (.tuple #[.agg #[.int .i64 room, .slice none 0 0], .int .i64 0]) ∧ Below w.heap.size w w' := by
  have HU := Lib.hid (up_alloc w (.cells #[.int .i64 room, .slice none 0 0] 30))
  go_enter Try.func8, Try.ntmps8
  go_wp2
  refine bodyPost_ret (v := .tuple #[.agg #[.int .i64 room, .slice none 0 0], .int .i64 0]) (by simp [results, Try.results8, go_sem]) rfl ?_
  exact ⟨rfl, HU.out⟩
theorem d_is (who : Int) (w : World) : Calls Try.prog 30 #[.int .i64 who] w fun e w' => e = .returned (.bool (!oRng who)) ∧ w = w' := by
  by_cases h0 : who < 0
  · have HE := Lib.hid (show (!oRng who) = false by unfold oRng; rw [decide_eq_true h0]; rfl)
    have h1 : ¬ 0 ≤ who := by omega
    go_enter Try.func30, Try.ntmps30
    go_wp2
    go_ret
    exact ⟨ret_bool HE.out.symm, rfl⟩
  · have h1 : 0 ≤ who := by omega
    by_cases h2 : 16 ≤ who
    · have HE := Lib.hid (show (!oRng who) = false by unfold oRng; rw [decide_eq_true h2, Bool.or_true]; rfl)
      have h3 : ¬ who ≤ 15 := by omega
      go_enter Try.func30, Try.ntmps30
      go_wp2
      go_ret
      exact ⟨ret_bool HE.out.symm, rfl⟩
    · have HE := Lib.hid (show (!oRng who) = true by unfold oRng; rw [decide_eq_false h0, decide_eq_false h2]; rfl)
      have h3 : who ≤ 15 := by omega
      go_enter Try.func30, Try.ntmps30
      go_wp2
      go_ret
      exact ⟨ret_bool HE.out.symm, rfl⟩

/-- Where the offer is. -/
def fxO (D : List OF) (who no : Int) : Nat := D.findIdx (isWN who no)
theorem fx_yes {D : List OF} {who no : Int} (h : hasO D who no = true) : fxO D who no < D.length ∧ drpO D who no = D.take (fxO D who no) ++ D.drop (fxO D who no + 1) := by
  obtain ⟨z, hz, hzp⟩ := List.any_eq_true.1 h
  exact ⟨List.findIdx_lt_length.2 ⟨z, hz, hzp⟩, eraseP_app _ _⟩
theorem fx_no {D : List OF} {who no : Int} (h : hasO D who no = false) : fxO D who no = D.length :=
  List.findIdx_eq_length.2 fun x hx => by simpa using List.any_eq_false.1 h x hx
theorem fx_low {D : List OF} {who no : Int} {k : Nat} {x : OF} (h : k < fxO D who no) (hx : D[k]? = some x) : isWN who no x = false := by
  have := List.not_of_lt_findIdx h
  obtain ⟨hk, rfl⟩ := List.getElem?_eq_some_iff.1 hx
  simpa using this
theorem fx_at {D : List OF} {who no : Int} {x : OF} (hx : D[fxO D who no]? = some x) : isWN who no x = true := by
  obtain ⟨hk, rfl⟩ := List.getElem?_eq_some_iff.1 hx
  exact List.findIdx_getElem (w := hk)
set_option maxHeartbeats 1000000 in
theorem d_find {w : World} {pl : Nat → Prop} {D : List OF} {A : Option Addr} {c : Nat} (h : DO w pl D A c) (room who no : Int) :
    Calls Try.prog 31 #[.agg #[.int .i64 room, .slice A D.length c], .int .i64 who, .int .i64 no] w fun e w' => e = .returned (.int .i64 (if hasO D who no = true then (fxO D who no : Int) else -1)) ∧ Below w.heap.size w w' := by
  have up1 := up_alloc w (.cells #[.int .i64 room, .slice A D.length c] 30)
  have hB : Blk (w.alloc (.cells #[.int .i64 room, .slice A D.length c] 30)) w.heap.size [.int .i64 room, .slice A D.length c] 30 := Blk.new w _ _
  generalize hw1 : w.alloc (.cells #[.int .i64 room, .slice A D.length c] 30) = w1 at up1 hB
  have HW1 := Lib.hid hw1
  have HU := Lib.hid up1
  have hf := h.few
  have HRD := Lib.hid (h.rd.below up1)
  have hle : fxO D who no ≤ D.length := List.findIdx_le_length
  have HL := Lib.hid (fun k x (hk : k < fxO D who no) (hx : D[k]? = some x) => fx_low hk hx)
  have HA := Lib.hid (fun x (hx : D[fxO D who no]? = some x) => fx_at hx)
  have hY : fxO D who no < D.length → (if hasO D who no = true then (fxO D who no : Int) else -1) = fxO D who no := fun e => by
    cases hh : hasO D who no
    · have := fx_no hh
      omega
    · rw [if_pos rfl]
  have hN : fxO D who no = D.length → (if hasO D who no = true then (fxO D who no : Int) else -1) = -1 := fun e => by
    cases hh : hasO D who no
    · rw [if_neg (by decide)]
    · have := (fx_yes hh).1
      omega
  generalize (if hasO D who no = true then (fxO D who no : Int) else -1) = r at hY hN ⊢
  have HY := Lib.hid hY
  have HN := Lib.hid hN
  clear hY hN
  generalize fxO D who no = m at hle HL HA HY HN
  clear hw1 up1 h
  go_enter Try.func31, Try.ntmps31
  go_wp2_with fail
  rw [HW1.out]
  go_loop [7] (fun i => ∃ k : Nat, k ≤ m ∧ i = .int .i64 k) (fun i => m - (intOf i).toNat)
  case atStart => exact ⟨0, Nat.zero_le _, rfl⟩
  case round =>
    obtain ⟨k, hk, rfl⟩ := hrel
    have c1 := hB.cell 1 _ rfl
    by_cases hkD : k < D.length
    · have hx : D[k]? = some D[k] := List.getElem?_eq_getElem hkD
      obtain ⟨bA, oA, rfl, hlb, a0, a1, a2, a3, a4, a5⟩ := HRD.out.off k _ hx hkD
      by_cases hkm : k < m
      · have HE := Lib.hid (HL.out k _ hkm hx)
        generalize D[k] = x at a0 a1 a2 a3 a4 a5 HE
        clear hx
        cases tw : (x.w == who)
        · go_wp2_with fail
          go_round
          case rel => exact ⟨k + 1, by omega, by go_num⟩
          case measure => simp [intOf]; omega
        · have tn : (x.g.n == no) = false := by
            have := HE.out
            unfold isWN at this
            rw [tw, Bool.true_and] at this
            exact this
          go_wp2_with fail
          go_round
          case rel => exact ⟨k + 1, by omega, by go_num⟩
          case measure => simp [intOf]; omega
      · obtain rfl : k = m := by omega
        have he := HA.out _ hx
        have hY := HY.out hkD
        generalize D[k] = x at a0 a1 a2 a3 a4 a5 he
        unfold isWN at he
        rw [Bool.and_eq_true] at he
        obtain ⟨tw, tn⟩ := he
        have HYY := Lib.hid hY
        clear hx hY
        go_wp2_with fail
        go_ret
        exact ⟨ret_int HYY.out.symm, HU.out⟩
    · obtain rfl : k = D.length := by omega
      obtain rfl : D.length = m := by omega
      have HYY := Lib.hid (HN.out rfl)
      go_wp2_with fail
      go_ret
      exact ⟨ret_int HYY.out.symm, HU.out⟩
end Go.Proofs.Ytgigcjhggpknnaa

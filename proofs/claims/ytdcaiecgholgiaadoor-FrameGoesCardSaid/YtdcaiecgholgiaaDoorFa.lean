/- A frame's box in memory; contracts of package frame's small functions and of each. -/
import Derived.Test.YtdcaiecgholgiaaDoorWe
import Derived.Test.YtdcaiecgholgiaaDoorFm
import Derived.Test.YtdcaiecgholgiaaDoorM
import Derived.WalkLawsBesides
import Derived.BigQuiet
import Derived.Deep.QuietTactic
import Derived.Deep.MidRow
namespace Go.Proofs.YtdcaiecgholgiaaDoor
open Go.RowKit

set_option maxHeartbeats 400000 in
theorem c_within (n many : Int) (w : World) :
    Calls Tryd.prog 38 #[.int .i64 n, .int .i64 many] w fun e w' => e = .returned (.bool (decide (0 ≤ n ∧ n < many))) ∧ w = w' := by
  by_cases h : 0 ≤ n
  · go_enter Tryd.func38, Tryd.ntmps38
    go_wp2
    go_ret
    exact ⟨ret_bool (by simp [h]), rfl⟩
  · go_enter Tryd.func38, Tryd.ntmps38
    go_wp2
    go_ret
    exact ⟨ret_bool (by simp; omega), rfl⟩
theorem place_lt (n : Int) : (decide (0 ≤ n) && decide (n < 65)) = placeB n := by
  unfold placeB
  by_cases h : 0 ≤ n <;> by_cases h1 : n ≤ 64 <;> simp [h, h1] <;> omega
set_option maxHeartbeats 400000 in
theorem c_isPlace (n : Int) (w : World) :
    Calls Tryd.prog 30 #[.int .i64 n] w fun e w' => e = .returned (.bool (placeB n)) ∧ w = w' := by
  have HP := Lib.hid (place_lt n)
  go_enter Tryd.func30, Tryd.ntmps30
  go_wp2_with (go_at_call 38; refine (c_within _ _ _).mono ?_; rintro e w' ⟨rfl, rfl⟩)
  go_ret
  exact ⟨ret_bool (by rw [← HP.out]), rfl⟩
set_option maxHeartbeats 400000 in
theorem c_isNought (n : Int) (w : World) :
    Calls Tryd.prog 32 #[.int .i64 n] w fun e w' => e = .returned (.bool (zeroB n)) ∧ w = w' := by
  go_enter Tryd.func32, Tryd.ntmps32
  go_wp2
  go_ret
  exact ⟨ret_bool (by simp [zeroB]), rfl⟩

/-- The closure of each says of a number that it is not such. -/
def One (p : Int → Bool) (w : World) (B : Nat) : Prop := ∀ n : Int, Calls Tryd.prog 40 #[.int .i64 n, .pointer (some ⟨B, 0, none⟩)] w fun e w' => e = .returned (.bool (!p n)) ∧ w = w'
set_option maxHeartbeats 400000 in
theorem one_fine {w : World} {B : Nat} (hc : w.cell? ⟨B, 0, none⟩ = some (.func (.func 28) #[] #[])) : One fineW w B := fun n => by
  go_enter Tryd.func40, Tryd.ntmps40
  go_wp2_with (go_at_call 28; refine (c_wfine _ _).mono ?_; rintro e w' ⟨rfl, rfl⟩)
  go_ret
  exact ⟨rfl, rfl⟩
set_option maxHeartbeats 400000 in
theorem one_place {w : World} {B : Nat} (hc : w.cell? ⟨B, 0, none⟩ = some (.func (.func 30) #[] #[])) : One placeB w B := fun n => by
  go_enter Tryd.func40, Tryd.ntmps40
  go_wp2_with (go_at_call 30; refine (c_isPlace _ _).mono ?_; rintro e w' ⟨rfl, rfl⟩)
  go_ret
  exact ⟨rfl, rfl⟩
set_option maxHeartbeats 400000 in
theorem one_nought {w : World} {B : Nat} (hc : w.cell? ⟨B, 0, none⟩ = some (.func (.func 32) #[] #[])) : One zeroB w B := fun n => by
  go_enter Tryd.func40, Tryd.ntmps40
  go_wp2_with (go_at_call 32; refine (c_isNought _ _).mono ?_; rintro e w' ⟨rfl, rfl⟩)
  go_ret
  exact ⟨rfl, rfl⟩

/-- A slice reads as these numbers. -/
def RI (w : World) (A : Option Addr) (xs : List Int) : Prop := ∀ (j : Nat) (x : Int), xs[j]? = some x → ∃ b o, A = some ⟨b, o, none⟩ ∧ b < w.heap.size ∧ w.cell? ⟨b, o + j, none⟩ = some (.int .i64 x)
theorem RI.below {w w' : World} {A : Option Addr} {xs : List Int} (h : RI w A xs) (hb : Below w.heap.size w w') : RI w' A xs := fun j x hx => by
  obtain ⟨b, o, e, h1, h2⟩ := h j x hx
  exact ⟨b, o, e, Nat.lt_of_lt_of_le h1 hb.size, (hb.cell (p := ⟨b, o + j, none⟩) h1).trans h2⟩

set_option maxHeartbeats 1000000 in
theorem c_ixf {p : Int → Bool} {w : World} {A : Option Addr} {xs : List Int} {c B : Nat} (h : RI w A xs) (hf : xs.length ≤ 2000)
    (hc : One p w B) :
    Calls Tryd.prog 46 #[.slice A xs.length c, .func (.func 40) #[] #[.pointer (some ⟨B, 0, none⟩)]] w fun e w' => (∃ j : Int, e = .returned (.int .i64 j) ∧ decide (0 ≤ j) = !xs.all p) ∧ w = w' := by
  have H := Lib.hid h
  have HE := Lib.hid hc
  obtain ⟨n, hn⟩ : ∃ n, n = xs.length := ⟨_, rfl⟩
  have HN := Lib.hid hn
  rw [← hn]
  have hfn : n ≤ 2000 := by omega
  clear h hc hn hf
  go_enter Tryd.func46, Tryd.ntmps46
  go_wp2
  go_loopw [8] (fun i wr => ∃ k : Nat, k ≤ n ∧ i = .int .i64 k ∧ (xs.take k).all p = true ∧ w = wr) (fun i _ => n - (intOf i).toNat)
  case atStart => exact ⟨0, by omega, rfl, rfl, rfl⟩
  case round =>
    obtain ⟨k, hk, rfl, hp, rfl⟩ := hrel
    have HP := Lib.hid hp
    clear hp
    by_cases hlt : k < n
    · obtain ⟨x, hx⟩ : ∃ x, xs[k]? = some x := ⟨xs[k]'(by rw [← HN.out]; exact hlt), List.getElem?_eq_getElem _⟩
      obtain ⟨b, o, rfl, _, i0⟩ := H.out k x hx
      have HX := Lib.hid hx
      clear hx
      have hT : (xs.take (k + 1)).all p = p x := by
        rw [List.take_add_one, HX.out, List.all_append, HP.out]; simp
      have HT := Lib.hid hT
      clear hT
      cases hno : p x
      · have CI := Lib.hid (HE.out x)
        rw [hno] at CI
        have HNO := Lib.hid hno
        clear hno
        go_wp2_with (go_at_call 40; refine CI.out.mono ?_; rintro e w2 ⟨rfl, rfl⟩)
        go_ret
        refine ⟨⟨_, rfl, ?_⟩, by first | rfl | trivial⟩
        have : xs.all p = false := by
          rw [List.all_eq_false]
          exact ⟨x, List.mem_of_getElem? HX.out, by rw [HNO.out]; decide⟩
        rw [this]
        simp
      · have CI := Lib.hid (HE.out x)
        rw [hno] at CI
        have HNO := Lib.hid hno
        clear hno
        go_wp2_with (go_at_call 40; refine CI.out.mono ?_; rintro e w2 ⟨rfl, rfl⟩)
        go_roundw
        case rel => exact ⟨k + 1, by omega, by go_num, by rw [HT.out, HNO.out], by first | rfl | trivial⟩
        case measure => simp [intOf]; omega
    · have hk' : n ≤ k := by omega
      go_wp2
      go_ret
      refine ⟨⟨_, rfl, ?_⟩, by first | rfl | trivial⟩
      have := HP.out
      rw [List.take_of_length_le (by rw [← HN.out]; exact hk')] at this
      rw [this]
      rfl

set_option maxHeartbeats 400000 in
theorem c_cont {p : Int → Bool} {w : World} {A : Option Addr} {xs : List Int} {c B : Nat} (h : RI w A xs) (hf : xs.length ≤ 2000)
    (hc : One p w B) :
    Calls Tryd.prog 39 #[.slice A xs.length c, .func (.func 40) #[] #[.pointer (some ⟨B, 0, none⟩)]] w fun e w' => e = .returned (.bool (!xs.all p)) ∧ w = w' := by
  have H := Lib.hid (c_ixf (c := c) h hf hc)
  clear h hf hc
  go_enter Tryd.func39, Tryd.ntmps39
  go_wp2_with fail
  refine H.out.mono ?_
  rintro e w' ⟨⟨j, rfl, hj⟩, rfl⟩
  have HJ := Lib.hid hj
  clear hj
  go_wp2
  go_ret
  exact ⟨ret_bool HJ.out, rfl⟩

set_option maxHeartbeats 400000 in
theorem e_fine {w : World} {A : Option Addr} {xs : List Int} {c : Nat} (h : RI w A xs) (hf : xs.length ≤ 2000) :
    Calls Tryd.prog 31 #[.slice A xs.length c, .func (.func 28) #[] #[]] w fun e w' => e = .returned (.bool (xs.all fineW)) ∧ Below w.heap.size w w' := by
  have hb := up_alloc w (.cells #[.func (.func 28) #[] #[]] 51)
  have H := Lib.hid (c_cont (c := c) (h.below hb) hf (one_fine ((Blk.new w [.func (.func 28) #[] #[]] 51).cell 0 _ rfl)))
  clear h hf
  go_enter Tryd.func31, Tryd.ntmps31
  go_wp2_with fail
  refine H.out.mono ?_
  rintro e w' ⟨rfl, rfl⟩
  go_wp2
  go_ret
  exact ⟨ret_bool (by simp), hb⟩
set_option maxHeartbeats 400000 in
theorem e_place {w : World} {A : Option Addr} {xs : List Int} {c : Nat} (h : RI w A xs) (hf : xs.length ≤ 2000) :
    Calls Tryd.prog 31 #[.slice A xs.length c, .func (.func 30) #[] #[]] w fun e w' => e = .returned (.bool (xs.all placeB)) ∧ Below w.heap.size w w' := by
  have hb := up_alloc w (.cells #[.func (.func 30) #[] #[]] 51)
  have H := Lib.hid (c_cont (c := c) (h.below hb) hf (one_place ((Blk.new w [.func (.func 30) #[] #[]] 51).cell 0 _ rfl)))
  clear h hf
  go_enter Tryd.func31, Tryd.ntmps31
  go_wp2_with fail
  refine H.out.mono ?_
  rintro e w' ⟨rfl, rfl⟩
  go_wp2
  go_ret
  exact ⟨ret_bool (by simp), hb⟩
set_option maxHeartbeats 400000 in
theorem e_nought {w : World} {A : Option Addr} {xs : List Int} {c : Nat} (h : RI w A xs) (hf : xs.length ≤ 2000) :
    Calls Tryd.prog 31 #[.slice A xs.length c, .func (.func 32) #[] #[]] w fun e w' => e = .returned (.bool (xs.all zeroB)) ∧ Below w.heap.size w w' := by
  have hb := up_alloc w (.cells #[.func (.func 32) #[] #[]] 51)
  have H := Lib.hid (c_cont (c := c) (h.below hb) hf (one_nought ((Blk.new w [.func (.func 32) #[] #[]] 51).cell 0 _ rfl)))
  clear h hf
  go_enter Tryd.func31, Tryd.ntmps31
  go_wp2_with fail
  refine H.out.mono ?_
  rintro e w' ⟨rfl, rfl⟩
  go_wp2
  go_ret
  exact ⟨ret_bool (by simp), hb⟩
end Go.Proofs.YtdcaiecgholgiaaDoor

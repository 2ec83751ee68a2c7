/- The contract of the document's Words: the numbers of a list's set. -/
import Derived.Test.YtlplfnfaoaomkaaDoorBe
import Derived.Test.YtlplfnfaoaomkaaDoorI
import Derived.BigRegion
namespace Go.Proofs.YtlplfnfaoaomkaaDoor
open Go.RowKit

theorem c_fine (x : Int) (h0 : 0 ≤ x) (h1 : x < 256) (w : World) :
    Calls Tryd.prog 39 #[.int .i64 x] w fun e w' => e = .returned (.bool true) ∧ w = w' := by
  have h2 : x ≤ 255 := by omega
  go_enter Tryd.func39, Tryd.ntmps39
  go_wp2
  go_ret
  exact ⟨rfl, rfl⟩

theorem or_set0 (S : S4) (x : Int) (r : Nat) (h0 : 0 ≤ x) (h1 : x < 256) (hq : x / 64 = 0) (hr : x % 64 = (r : Int)) :
    (S.uni (S4.only x)).cs = S.cs.set 0 (.int .u64 (bits .or .u64 (S.a.toNat : Int) (IntKind.u64.wrap (2 ^ r)))) := by
  obtain ⟨k, rfl⟩ : ∃ k : Nat, x = k := ⟨x.toNat, by omega⟩
  have e1 : k / 64 = 0 := by omega
  have e2 : k % 64 = r := by omega
  rw [pow_bv r (by omega), or_bv]
  unfold S4.only
  rw [if_pos ⟨h0, h1⟩, Int.toNat_natCast]
  simp [S4.cs, S4.uni, S4.one, e1, e2]
theorem or_set1 (S : S4) (x : Int) (r : Nat) (h0 : 0 ≤ x) (h1 : x < 256) (hq : x / 64 = 1) (hr : x % 64 = (r : Int)) :
    (S.uni (S4.only x)).cs = S.cs.set 1 (.int .u64 (bits .or .u64 (S.b.toNat : Int) (IntKind.u64.wrap (2 ^ r)))) := by
  obtain ⟨k, rfl⟩ : ∃ k : Nat, x = k := ⟨x.toNat, by omega⟩
  have e1 : k / 64 = 1 := by omega
  have e2 : k % 64 = r := by omega
  rw [pow_bv r (by omega), or_bv]
  unfold S4.only
  rw [if_pos ⟨h0, h1⟩, Int.toNat_natCast]
  simp [S4.cs, S4.uni, S4.one, e1, e2]
theorem or_set2 (S : S4) (x : Int) (r : Nat) (h0 : 0 ≤ x) (h1 : x < 256) (hq : x / 64 = 2) (hr : x % 64 = (r : Int)) :
    (S.uni (S4.only x)).cs = S.cs.set 2 (.int .u64 (bits .or .u64 (S.c.toNat : Int) (IntKind.u64.wrap (2 ^ r)))) := by
  obtain ⟨k, rfl⟩ : ∃ k : Nat, x = k := ⟨x.toNat, by omega⟩
  have e1 : k / 64 = 2 := by omega
  have e2 : k % 64 = r := by omega
  rw [pow_bv r (by omega), or_bv]
  unfold S4.only
  rw [if_pos ⟨h0, h1⟩, Int.toNat_natCast]
  simp [S4.cs, S4.uni, S4.one, e1, e2]
theorem or_set3 (S : S4) (x : Int) (r : Nat) (h0 : 0 ≤ x) (h1 : x < 256) (hq : x / 64 = 3) (hr : x % 64 = (r : Int)) :
    (S.uni (S4.only x)).cs = S.cs.set 3 (.int .u64 (bits .or .u64 (S.d.toNat : Int) (IntKind.u64.wrap (2 ^ r)))) := by
  obtain ⟨k, rfl⟩ : ∃ k : Nat, x = k := ⟨x.toNat, by omega⟩
  have e1 : k / 64 = 3 := by omega
  have e2 : k % 64 = r := by omega
  rw [pow_bv r (by omega), or_bv]
  unfold S4.only
  rw [if_pos ⟨h0, h1⟩, Int.toNat_natCast]
  simp [S4.cs, S4.uni, S4.one, e1, e2]

set_option maxHeartbeats 2000000 in
theorem c_words {w : World} {pl : Nat → Prop} {A : Option Addr} {c : Nat} {L : List Int} (h0 : RD w pl 1 A L.length (L.map (Value.int .i64))) (hlen : L.length ≤ 1000) (hin : ∀ x ∈ L, 0 ≤ x ∧ x < 256) :
    Calls Tryd.prog 25 #[.slice A L.length c] w fun e w' => e = .returned (ofS L).val ∧ Below w.heap.size w w' := by
  have HIN := Lib.hid hin
  clear hin
  go_enter Tryd.func25, Tryd.ntmps25
  go_wp2
  go_loopw [4] (fun i wr => ∃ k : Nat, k ≤ L.length ∧ i = .int .i64 k ∧ Below w.heap.size w wr ∧ Blk wr (w.heap.size + 1) (ofS (L.take k)).cs 28 ∧ Blk wr w.heap.size S4.zero.cs 28) (fun i _ => L.length - (intOf i).toNat)
  case atStart => exact ⟨0, Nat.zero_le _, rfl, (((Below.refl _ _).alloc (Nat.le_refl _) _).alloc (by simp) _), Blk.new' _ S4.zero.cs _ _ (by simp), (Blk.new w S4.zero.cs 28).alloc _⟩
  case round =>
    obtain ⟨k, hk, rfl, hb, hB, hR⟩ := hrel
    have h := h0.below hb
    have hz := hB.lt
    by_cases hlt : k < L.length
    · obtain ⟨bA, oA, rfl, _, hlA, hcA⟩ := h.at_ (by omega)
      have h1 := hcA k (.int .i64 L[k]) (by simp [hlt])
      have HN := Lib.hid (ofS_take L k hlt)
      obtain ⟨hx0, hx1⟩ := HIN.out _ (List.getElem_mem hlt)
      clear h hcA h0
      generalize L[k] = x at h1 HN hx0 hx1
      generalize ofS (L.take k) = S at hB HN
      have c0 := hB.cell 0 _ rfl
      have c1 := hB.cell 1 _ rfl
      have c2 := hB.cell 2 _ rfl
      have c3 := hB.cell 3 _ rfl
      have f0 := hB.free 0
      have f1 := hB.free 1
      have f2 := hB.free 2
      have f3 := hB.free 3
      obtain ⟨r, hr⟩ : ∃ r : Nat, x % 64 = r := ⟨(x % 64).toNat, by omega⟩
      have hr1 : r < 64 := by omega
      rcases (by omega : x / 64 = 0 ∨ x / 64 = 1 ∨ x / 64 = 2 ∨ x / 64 = 3) with hq | hq | hq | hq
      · have HO := Lib.hid (or_set0 S x r hx0 hx1 hq hr)
        go_wp2_with (go_at_call 39; refine (c_fine x hx0 hx1 _).mono ?_; rintro e w' ⟨rfl, rfl⟩)
        go_region
        go_wp2
        go_roundw
        case rel => exact ⟨k + 1, by omega, by go_num, (hb.setCell (by simp) _).drew, by rw [HN.out, HO.out]; exact hB.set 0 _, hR.other _ (by simp) _⟩
        case measure => simp [intOf]; omega
      · have HO := Lib.hid (or_set1 S x r hx0 hx1 hq hr)
        go_wp2_with (go_at_call 39; refine (c_fine x hx0 hx1 _).mono ?_; rintro e w' ⟨rfl, rfl⟩)
        go_region
        go_wp2
        go_roundw
        case rel => exact ⟨k + 1, by omega, by go_num, (hb.setCell (by simp) _).drew, by rw [HN.out, HO.out]; exact hB.set 1 _, hR.other _ (by simp) _⟩
        case measure => simp [intOf]; omega
      · have HO := Lib.hid (or_set2 S x r hx0 hx1 hq hr)
        go_wp2_with (go_at_call 39; refine (c_fine x hx0 hx1 _).mono ?_; rintro e w' ⟨rfl, rfl⟩)
        go_region
        go_wp2
        go_roundw
        case rel => exact ⟨k + 1, by omega, by go_num, (hb.setCell (by simp) _).drew, by rw [HN.out, HO.out]; exact hB.set 2 _, hR.other _ (by simp) _⟩
        case measure => simp [intOf]; omega
      · have HO := Lib.hid (or_set3 S x r hx0 hx1 hq hr)
        go_wp2_with (go_at_call 39; refine (c_fine x hx0 hx1 _).mono ?_; rintro e w' ⟨rfl, rfl⟩)
        go_region
        go_wp2
        go_roundw
        case rel => exact ⟨k + 1, by omega, by go_num, (hb.setCell (by simp) _).drew, by rw [HN.out, HO.out]; exact hB.set 3 _, hR.other _ (by simp) _⟩
        case measure => simp [intOf]; omega
    · obtain rfl : k = L.length := by omega
      rw [List.take_length] at hB
      have c0 := hB.cell 0 _ rfl
      have c1 := hB.cell 1 _ rfl
      have c2 := hB.cell 2 _ rfl
      have c3 := hB.cell 3 _ rfl
      have r0 := hR.cell 0 _ rfl
      have r1 := hR.cell 1 _ rfl
      have r2 := hR.cell 2 _ rfl
      have r3 := hR.cell 3 _ rfl
      have g0 := hR.free 0
      have g1 := hR.free 1
      have g2 := hR.free 2
      have g3 := hR.free 3
      clear h h0
      go_wp2
      exact bodyPost_ret (v := (ofS L).val) (by simp [results, Tryd.results25, go_sem, r0, r1, r2, r3]) rfl ⟨rfl, (((hb.setCell (by simp) _).setCell (by simp) _).setCell (by simp) _).setCell (by simp) _⟩
end Go.Proofs.YtlplfnfaoaomkaaDoor

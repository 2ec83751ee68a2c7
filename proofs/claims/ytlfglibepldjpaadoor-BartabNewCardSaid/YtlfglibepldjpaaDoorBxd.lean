/- The contract of the document's Has (layer 4). The contract of the document's Of (layer 4). The contract of the document's Add (layer 4). The contract of the document's Drop (layer 4). The contract of the document's Less (layer 4). The contract of the document's Words: the numbers of a list's set. The document's sets (layer 4), of lists that are sets: their answers are sets' lists. -/
import Derived.Test.YtlfglibepldjpaaDoorBxa
import Derived.Test.YtlfglibepldjpaaDoorI
import Derived.Test.YtlfglibepldjpaaDoorIs
import Derived.BigRegion
namespace Go.Proofs.YtlfglibepldjpaaDoor
open Go.RowKit

/-- The first that is not below x, of a list. -/
theorem hasL_cons_no {L : List Int} {x : Int} (h : ∀ y ∈ L, y ≠ x) : hasL L x = false := by
  unfold hasL
  rw [decide_eq_false_iff_not]
  exact fun hx => h x hx rfl
set_option maxHeartbeats 1000000 in
theorem c_rhas {w : World} {pl : Nat → Prop} {A : Option Addr} {c : Nat} {L : List Int} (h : RD w pl 1 A L.length (L.map (Value.int .i64))) (hlen : L.length ≤ 1000) (x : Int) :
    Calls Tryd.prog 97 #[.slice A L.length c, .int .i64 x] w fun e w' => e = .returned (.bool (hasL L x)) ∧ w = w' := by
  go_enter Tryd.func97, Tryd.ntmps97
  go_wp2
  go_loop [5] (fun i => ∃ k : Nat, k ≤ L.length ∧ i = .int .i64 k ∧ Hid (∀ y ∈ L.take k, y ≠ x)) (fun i => L.length - (intOf i).toNat)
  case atStart => exact ⟨0, Nat.zero_le _, rfl, Lib.hid (by simp)⟩
  case round =>
    obtain ⟨k, hk, rfl, hno⟩ := hrel
    by_cases hlt : k < L.length
    · obtain ⟨bA, oA, rfl, _, _, hcA⟩ := h.at_ (by omega)
      have h1 := hcA k (.int .i64 L[k]) (by simp [hlt])
      have HN := Lib.hid (take_next L k L[k] (List.getElem?_eq_getElem hlt))
      have HM := Lib.hid (List.getElem_mem hlt)
      clear h hcA
      generalize L[k] = y at h1 HN HM
      by_cases hy : y = x
      · subst hy
        have hb : (y == y) = true := by simp
        have HR := Lib.hid (show hasL L y = true by unfold hasL; rw [decide_eq_true_iff]; exact HM.out)
        go_wp2
        go_ret
        exact ⟨by rw [HR.out]; rfl, rfl⟩
      · have hb : (y == x) = false := by simpa using hy
        have HY := Lib.hid hy
        clear hy
        go_wp2
        go_round
        case rel => exact ⟨k + 1, by omega, by go_num, Lib.hid (by
          rw [HN.out]
          intro z hz
          rcases List.mem_append.1 hz with hz | hz
          · exact hno.out z hz
          · rw [List.mem_singleton.1 hz]
            exact HY.out)⟩
        case measure => simp [intOf]; omega
    · obtain rfl : k = L.length := by omega
      have HR := Lib.hid (show hasL L x = false from hasL_cons_no (by have := hno.out; rwa [List.take_length] at this))
      clear h
      go_wp2
      go_ret
      exact ⟨by rw [HR.out]; rfl, rfl⟩

end Go.Proofs.YtlfglibepldjpaaDoor

namespace Go.Proofs.YtlfglibepldjpaaDoor
open Go.RowKit

def ofK (L : List Int) (k : Nat) : List Int := ((List.range k).filter fun i : Nat => hasL L i).map fun i : Nat => (i : Int)
theorem ofK_all (L : List Int) : ofK L 256 = ofL L := rfl
theorem ofK_len (L : List Int) (k : Nat) : (ofK L k).length ≤ k := by
  unfold ofK
  rw [List.length_map]
  have := List.length_filter_le (fun i : Nat => hasL L i) (List.range k)
  simpa using this
theorem ofK_yes {L : List Int} {k : Nat} (h : hasL L k = true) : ofK L (k + 1) = ofK L k ++ [(k : Int)] := by
  unfold ofK
  rw [List.range_succ, List.filter_append, List.map_append]
  simp [h]
theorem ofK_no {L : List Int} {k : Nat} (h : hasL L k = false) : ofK L (k + 1) = ofK L k := by
  unfold ofK
  rw [List.range_succ, List.filter_append, List.map_append]
  simp [h]
set_option maxHeartbeats 1000000 in
theorem c_rof {w : World} {pl : Nat → Prop} {A : Option Addr} {c : Nat} {L : List Int} (h0 : RD w pl 1 A L.length (L.map (Value.int .i64))) (hlen : L.length ≤ 1000) :
    Calls Tryd.prog 90 #[.slice A L.length c] w (IntsPost w (ofL L)) := by
  go_enter Tryd.func90, Tryd.ntmps90
  go_wp2
  go_loopw [3, 4] (fun v i wr => ∃ k : Nat, k ≤ 256 ∧ i = .int .i64 k ∧ wr.ownsRow w.heap.size 3 1 v (ofK L k).length ((ofK L k).map (Value.int .i64)) ∧ Below w.heap.size w wr) (fun _ i _ => 256 - (intOf i).toNat)
  case atStart => exact ⟨0, Nat.zero_le _, rfl, World.ownsRow_nil _ _ _ _, Below.refl _ _⟩
  case round =>
    obtain ⟨k, hk, rfl, hown, hb⟩ := hrel
    have h := h0.below hb
    have hlk := ofK_len L k
    have hsz := hb.size
    by_cases hlt : k < 256
    · by_cases hh : hasL L k = true
      · have cH := c_rhas (c := c) h hlen k
        rw [hh] at cH
        have HN := Lib.hid (ofK_yes hh)
        have CH := Lib.hid cH
        clear h0 h hh cH
        go_wp2_with (first | (go_at_call 97; refine Calls.mono CH.out ?_; rintro e w' ⟨rfl, rfl⟩) | (at_builtin; refine wpList_app ei_int rfl (.tmp 12) (.tmp 14) rfl _ _ rfl (hown.alloc _) rfl (RD.one (by simp)) (by simp [Value.oneCell']) (by omega) (by simp; omega) ?_; intro v' w2 hown1 hb1))
        go_roundw
        case rel => exact ⟨k + 1, by omega, by go_num, by rw [HN.out, List.map_append, List.length_append]; exact hown1, (up_trans hb (up_alloc _ _)).trans hb1⟩
        case measure => simp [intOf]; omega
      · have hh' : hasL L k = false := by simpa using hh
        have cH := c_rhas (c := c) h hlen k
        rw [hh'] at cH
        have HN := Lib.hid (ofK_no hh')
        have CH := Lib.hid cH
        clear h0 h hh hh' cH
        go_wp2_with (first | (go_at_call 97; refine Calls.mono CH.out ?_; rintro e w' ⟨rfl, rfl⟩))
        go_roundw
        case rel => exact ⟨k + 1, by omega, by go_num, by rw [HN.out]; exact hown, hb⟩
        case measure => simp [intOf]; omega
    · obtain rfl : k = 256 := by omega
      rw [ofK_all] at hown
      rw [show ((256 : Nat) : Int) = 256 from rfl]
      clear h h0
      go_wp2
      go_ret
      exact IntsPost.of hown hb

theorem ofL_len (L : List Int) : (ofL L).length ≤ 256 := rise_le _
/-- Below the call's start, from a later world. -/
theorem IntsPost.later {w w1 : World} {zs : List Int} {e : Ending} {w' : World} (hb : Below w.heap.size w w1) (h : IntsPost w1 zs e w') : IntsPost w zs e w' := by
  obtain ⟨A, c, h1, h2, h3, h4, h5⟩ := h
  exact ⟨A, c, h1, h2, h3, h4.lo fun b hb' => Nat.le_trans hb.size hb', up_trans hb h5⟩

theorem c_rof' {w : World} {pl : Nat → Prop} {A : Option Addr} {c n : Nat} (L : List Int) (hn : n = L.length) (h0 : RD w pl 1 A n (L.map (Value.int .i64))) (hlen : n ≤ 1000) :
    Calls Tryd.prog 90 #[.slice A n c] w (IntsPost w (ofL L)) := by
  subst hn
  exact c_rof h0 hlen
end Go.Proofs.YtlfglibepldjpaaDoor

namespace Go.Proofs.YtlfglibepldjpaaDoor
open Go.RowKit

set_option maxHeartbeats 1000000 in
theorem c_radd {w : World} {pl : Nat → Prop} {A : Option Addr} {c : Nat} {L : List Int} (h : RD w pl 1 A L.length (L.map (Value.int .i64))) (hlen : L.length ≤ 400) (x : Int) :
    Calls Tryd.prog 98 #[.slice A L.length c, .int .i64 x] w (IntsPost w (ofL (L ++ [x]))) := by
  have HL := Lib.hid (show L.length + 1 = (L ++ [x]).length by simp)
  have HM := Lib.hid (show (L ++ [x]).map (Value.int .i64) = L.map (Value.int .i64) ++ [.int .i64 x] by simp)
  generalize L ++ [x] = M at HL HM
  have HX := Lib.hid (int_cells .i64 L)
  generalize L.map (Value.int .i64) = xs at h HM HX
  generalize L.length = n at h hlen HL
  go_enter Tryd.func98, Tryd.ntmps98
  go_wp2_with (first
    | (at_builtin; refine wpList_app ei_int rfl (.const (.slice none 0 0)) (.tmp 5) rfl (.slice none 0 0) [] rfl (World.ownsRow_nil _ w.heap.size _ _) rfl h HX.out (by omega) (Nat.le_refl _) ?_; intro v' w2 hown hb2; simp only [Nat.zero_add, List.nil_append] at hown; have hz2 := hb2.size)
    | (at_builtin; refine wpList_app ei_int rfl (.tmp 6) (.tmp 8) rfl _ _ rfl (hown.alloc _) rfl (RD.one (by simp)) (by simp [Value.oneCell']) (by omega) (by simp; omega) ?_; intro v'' w3 hown3 hb3; obtain ⟨A3, c3, rfl, hn3, hc3, hr3⟩ := own_slice hown3)
    | (go_at_call 90; refine Calls.mono (c_rof' M HL.out (by rw [HM.out]; exact hr3) (by omega)) ?_; rintro e w4 ⟨A4, c4, rfl, h41, h42, h43, h44⟩))
  go_ret
  exact ⟨A4, c4, rfl, h41, h42, h43.lo fun b hb => by have := hb3.size; simp at this; omega, ((hb2.trans ((up_alloc _ _).mono hz2)).trans (hb3.mono (Nat.le_refl _))).trans (h44.mono (by have := hb3.size; simp at this; omega))⟩
end Go.Proofs.YtlfglibepldjpaaDoor

namespace Go.Proofs.YtlfglibepldjpaaDoor
open Go.RowKit

set_option maxHeartbeats 1000000 in
theorem c_rdrop {w : World} {pl : Nat → Prop} {A : Option Addr} {c : Nat} {L : List Int} (h0 : RD w pl 1 A L.length (L.map (Value.int .i64))) (hlen : L.length ≤ 1000) (x : Int) :
    Calls Tryd.prog 101 #[.slice A L.length c, .int .i64 x] w (IntsPost w (L.filter fun y => y != x)) := by
  go_enter Tryd.func101, Tryd.ntmps101
  go_wp2
  go_loopw [5, 6] (fun v i wr => ∃ k : Nat, k ≤ L.length ∧ i = .int .i64 k ∧ wr.ownsRow w.heap.size 3 1 v ((L.take k).filter (fun y : Int => y != x)).length (((L.take k).filter (fun y : Int => y != x)).map (Value.int .i64)) ∧ Below w.heap.size w wr) (fun _ i _ => L.length - (intOf i).toNat)
  case atStart => exact ⟨0, Nat.zero_le _, rfl, World.ownsRow_nil _ _ _ _, Below.refl _ _⟩
  case round =>
    obtain ⟨k, hk, rfl, hown, hb⟩ := hrel
    have h := h0.below hb
    have hsz := hb.size
    have hlk : ((L.take k).filter (fun y : Int => y != x)).length ≤ 1000 := by
      have := List.length_filter_le (fun y : Int => y != x) (L.take k)
      rw [List.length_take] at this
      omega
    by_cases hlt : k < L.length
    · obtain ⟨bA, oA, rfl, _, _, hcA⟩ := h.at_ (by omega)
      have h1 := hcA k (.int .i64 L[k]) (by simp [hlt])
      have hn := take_next L k L[k] (List.getElem?_eq_getElem hlt)
      clear h hcA h0
      generalize L[k] = y at h1 hn
      by_cases hy : y ≠ x
      · have hb1 : (y != x) = true := by simpa using hy
        have HN := Lib.hid (show (L.take (k + 1)).filter (fun y : Int => y != x) = (L.take k).filter (fun y : Int => y != x) ++ [y] by rw [hn, List.filter_append]; simp [hb1])
        clear hn hy
        go_wp2_with (first | (at_builtin; refine wpList_app ei_int rfl (.tmp 19) (.tmp 24) rfl _ _ rfl (hown.alloc _) rfl (RD.one (by simp)) (by simp [Value.oneCell']) (by omega) (by simp; omega) ?_; intro v' w2 hown1 hb1))
        go_roundw
        case rel => exact ⟨k + 1, by omega, by go_num, by rw [HN.out, List.map_append, List.length_append]; exact hown1, (up_trans hb (up_alloc _ _)).trans hb1⟩
        case measure => simp [intOf]; omega
      · have hb1 : (y != x) = false := by simpa using hy
        have HN := Lib.hid (show (L.take (k + 1)).filter (fun y : Int => y != x) = (L.take k).filter (fun y : Int => y != x) by rw [hn, List.filter_append]; simp [hb1])
        clear hn hy
        go_wp2
        go_roundw
        case rel => exact ⟨k + 1, by omega, by go_num, by rw [HN.out]; exact hown, hb⟩
        case measure => simp [intOf]; omega
    · obtain rfl : k = L.length := by omega
      rw [List.take_length] at hown
      clear h h0
      go_wp2
      go_ret
      exact IntsPost.of hown hb
end Go.Proofs.YtlfglibepldjpaaDoor

namespace Go.Proofs.YtlfglibepldjpaaDoor
open Go.RowKit

set_option maxHeartbeats 1000000 in
theorem c_rless {w : World} {pl : Nat → Prop} {A : Option Addr} {c : Nat} {L : List Int} (h0 : RD w pl 1 A L.length (L.map (Value.int .i64))) (hlen : L.length ≤ 1000) {pl2 : Nat → Prop} {A2 : Option Addr} {c2 : Nat} {M : List Int} (hM : RD w pl2 1 A2 M.length (M.map (Value.int .i64))) (hlenM : M.length ≤ 1000) :
    Calls Tryd.prog 107 #[.slice A L.length c, .slice A2 M.length c2] w (IntsPost w (L.filter fun y => !hasL M y)) := by
  go_enter Tryd.func107, Tryd.ntmps107
  go_wp2
  go_loopw [5, 6] (fun v i wr => ∃ k : Nat, k ≤ L.length ∧ i = .int .i64 k ∧ wr.ownsRow w.heap.size 3 1 v ((L.take k).filter (fun y : Int => !hasL M y)).length (((L.take k).filter (fun y : Int => !hasL M y)).map (Value.int .i64)) ∧ Below w.heap.size w wr) (fun _ i _ => L.length - (intOf i).toNat)
  case atStart => exact ⟨0, Nat.zero_le _, rfl, World.ownsRow_nil _ _ _ _, Below.refl _ _⟩
  case round =>
    obtain ⟨k, hk, rfl, hown, hb⟩ := hrel
    have h := h0.below hb
    have hsz := hb.size
    have hlk : ((L.take k).filter (fun y : Int => !hasL M y)).length ≤ 1000 := by
      have := List.length_filter_le (fun y : Int => !hasL M y) (L.take k)
      rw [List.length_take] at this
      omega
    by_cases hlt : k < L.length
    · obtain ⟨bA, oA, rfl, _, _, hcA⟩ := h.at_ (by omega)
      have h1 := hcA k (.int .i64 L[k]) (by simp [hlt])
      have hn := take_next L k L[k] (List.getElem?_eq_getElem hlt)
      have cH := c_rhas (c := c2) (hM.below hb) hlenM L[k]
      clear h hcA h0
      generalize L[k] = y at h1 hn cH
      by_cases hy : hasL M y = false
      · have hb1 := hy
        have HN := Lib.hid (show (L.take (k + 1)).filter (fun y : Int => !hasL M y) = (L.take k).filter (fun y : Int => !hasL M y) ++ [y] by rw [hn, List.filter_append]; simp [hb1])
        rw [hb1] at cH
        have CH := Lib.hid cH
        clear cH
        clear hn hy hb1
        go_wp2_with (first | (go_at_call 97; refine Calls.mono CH.out ?_; rintro e w' ⟨rfl, rfl⟩) | (at_builtin; refine wpList_app ei_int rfl (.tmp 20) (.tmp 25) rfl _ _ rfl (hown.alloc _) rfl (RD.one (by simp)) (by simp [Value.oneCell']) (by omega) (by simp; omega) ?_; intro v' w2 hown1 hb1))
        go_roundw
        case rel => exact ⟨k + 1, by omega, by go_num, by rw [HN.out, List.map_append, List.length_append]; exact hown1, (up_trans hb (up_alloc _ _)).trans hb1⟩
        case measure => simp [intOf]; omega
      · have hb1 : hasL M y = true := by simpa using hy
        have HN := Lib.hid (show (L.take (k + 1)).filter (fun y : Int => !hasL M y) = (L.take k).filter (fun y : Int => !hasL M y) by rw [hn, List.filter_append]; simp [hb1])
        rw [hb1] at cH
        have CH := Lib.hid cH
        clear cH
        clear hn hy hb1
        go_wp2_with (first | (go_at_call 97; refine Calls.mono CH.out ?_; rintro e w' ⟨rfl, rfl⟩))
        go_roundw
        case rel => exact ⟨k + 1, by omega, by go_num, by rw [HN.out]; exact hown, hb⟩
        case measure => simp [intOf]; omega
    · obtain rfl : k = L.length := by omega
      rw [List.take_length] at hown
      clear h h0
      go_wp2
      go_ret
      exact IntsPost.of hown hb
end Go.Proofs.YtlfglibepldjpaaDoor

namespace Go.Proofs.YtlfglibepldjpaaDoor
open Go.RowKit

theorem c_fine (x : Int) (h0 : 0 ≤ x) (h1 : x < 256) (w : World) :
    Calls Tryd.prog 105 #[.int .i64 x] w fun e w' => e = .returned (.bool true) ∧ w = w' := by
  have h2 : x ≤ 255 := by omega
  go_enter Tryd.func105, Tryd.ntmps105
  go_wp2
  go_ret
  exact ⟨rfl, rfl⟩

theorem or_set0 (S : S4) (x : Int) (r : Nat) (h0 : 0 ≤ x) (h1 : x < 256) (hq : x / 64 = 0) (hr : x % 64 = (r : Int)) :
    (S.uni (S4.only x)).cs = S.cs.set 0 (.int .u64 (bits .or .u64 (S.a.toNat : Int) (IntKind.u64.wrap (2 ^ r)))) := by
  obtain ⟨k, rfl⟩ : ∃ k : Nat, x = k := ⟨x.toNat, by omega⟩
  have e1 : k / 64 = 0 := by omega
  have e2 : k % 64 = r := by omega
  rw [pow_bv r (by omega), or_bv]
  unfold S4.only
  rw [if_pos ⟨h0, h1⟩, Int.toNat_natCast]
  simp [S4.cs, S4.uni, S4.one, e1, e2]
theorem or_set1 (S : S4) (x : Int) (r : Nat) (h0 : 0 ≤ x) (h1 : x < 256) (hq : x / 64 = 1) (hr : x % 64 = (r : Int)) :
    (S.uni (S4.only x)).cs = S.cs.set 1 (.int .u64 (bits .or .u64 (S.b.toNat : Int) (IntKind.u64.wrap (2 ^ r)))) := by
  obtain ⟨k, rfl⟩ : ∃ k : Nat, x = k := ⟨x.toNat, by omega⟩
  have e1 : k / 64 = 1 := by omega
  have e2 : k % 64 = r := by omega
  rw [pow_bv r (by omega), or_bv]
  unfold S4.only
  rw [if_pos ⟨h0, h1⟩, Int.toNat_natCast]
  simp [S4.cs, S4.uni, S4.one, e1, e2]
theorem or_set2 (S : S4) (x : Int) (r : Nat) (h0 : 0 ≤ x) (h1 : x < 256) (hq : x / 64 = 2) (hr : x % 64 = (r : Int)) :
    (S.uni (S4.only x)).cs = S.cs.set 2 (.int .u64 (bits .or .u64 (S.c.toNat : Int) (IntKind.u64.wrap (2 ^ r)))) := by
  obtain ⟨k, rfl⟩ : ∃ k : Nat, x = k := ⟨x.toNat, by omega⟩
  have e1 : k / 64 = 2 := by omega
  have e2 : k % 64 = r := by omega
  rw [pow_bv r (by omega), or_bv]
  unfold S4.only
  rw [if_pos ⟨h0, h1⟩, Int.toNat_natCast]
  simp [S4.cs, S4.uni, S4.one, e1, e2]
theorem or_set3 (S : S4) (x : Int) (r : Nat) (h0 : 0 ≤ x) (h1 : x < 256) (hq : x / 64 = 3) (hr : x % 64 = (r : Int)) :
    (S.uni (S4.only x)).cs = S.cs.set 3 (.int .u64 (bits .or .u64 (S.d.toNat : Int) (IntKind.u64.wrap (2 ^ r)))) := by
  obtain ⟨k, rfl⟩ : ∃ k : Nat, x = k := ⟨x.toNat, by omega⟩
  have e1 : k / 64 = 3 := by omega
  have e2 : k % 64 = r := by omega
  rw [pow_bv r (by omega), or_bv]
  unfold S4.only
  rw [if_pos ⟨h0, h1⟩, Int.toNat_natCast]
  simp [S4.cs, S4.uni, S4.one, e1, e2]

set_option maxHeartbeats 2000000 in
theorem c_words {w : World} {pl : Nat → Prop} {A : Option Addr} {c : Nat} {L : List Int} (h0 : RD w pl 1 A L.length (L.map (Value.int .i64))) (hlen : L.length ≤ 1000) (hin : ∀ x ∈ L, 0 ≤ x ∧ x < 256) :
    Calls Tryd.prog 91 #[.slice A L.length c] w fun e w' => e = .returned (ofS L).val ∧ Below w.heap.size w w' := by
  have HIN := Lib.hid hin
  clear hin
  go_enter Tryd.func91, Tryd.ntmps91
  go_wp2
  go_loopw [4] (fun i wr => ∃ k : Nat, k ≤ L.length ∧ i = .int .i64 k ∧ Below w.heap.size w wr ∧ Blk wr (w.heap.size + 1) (ofS (L.take k)).cs 61 ∧ Blk wr w.heap.size S4.zero.cs 61) (fun i _ => L.length - (intOf i).toNat)
  case atStart => exact ⟨0, Nat.zero_le _, rfl, (((Below.refl _ _).alloc (Nat.le_refl _) _).alloc (by simp) _), Blk.new' _ S4.zero.cs _ _ (by simp), (Blk.new w S4.zero.cs 61).alloc _⟩
  case round =>
    obtain ⟨k, hk, rfl, hb, hB, hR⟩ := hrel
    have h := h0.below hb
    have hz := hB.lt
    by_cases hlt : k < L.length
    · obtain ⟨bA, oA, rfl, _, hlA, hcA⟩ := h.at_ (by omega)
      have h1 := hcA k (.int .i64 L[k]) (by simp [hlt])
      have HN := Lib.hid (ofS_take L k hlt)
      obtain ⟨hx0, hx1⟩ := HIN.out _ (List.getElem_mem hlt)
      clear h hcA h0
      generalize L[k] = x at h1 HN hx0 hx1
      generalize ofS (L.take k) = S at hB HN
      have c0 := hB.cell 0 _ rfl
      have c1 := hB.cell 1 _ rfl
      have c2 := hB.cell 2 _ rfl
      have c3 := hB.cell 3 _ rfl
      have f0 := hB.free 0
      have f1 := hB.free 1
      have f2 := hB.free 2
      have f3 := hB.free 3
      obtain ⟨r, hr⟩ : ∃ r : Nat, x % 64 = r := ⟨(x % 64).toNat, by omega⟩
      have hr1 : r < 64 := by omega
      rcases (by omega : x / 64 = 0 ∨ x / 64 = 1 ∨ x / 64 = 2 ∨ x / 64 = 3) with hq | hq | hq | hq
      · have HO := Lib.hid (or_set0 S x r hx0 hx1 hq hr)
        go_wp2_with (go_at_call 105; refine (c_fine x hx0 hx1 _).mono ?_; rintro e w' ⟨rfl, rfl⟩)
        go_region
        go_wp2
        go_roundw
        case rel => exact ⟨k + 1, by omega, by go_num, (hb.setCell (by simp) _).drew, by rw [HN.out, HO.out]; exact hB.set 0 _, hR.other _ (by simp) _⟩
        case measure => simp [intOf]; omega
      · have HO := Lib.hid (or_set1 S x r hx0 hx1 hq hr)
        go_wp2_with (go_at_call 105; refine (c_fine x hx0 hx1 _).mono ?_; rintro e w' ⟨rfl, rfl⟩)
        go_region
        go_wp2
        go_roundw
        case rel => exact ⟨k + 1, by omega, by go_num, (hb.setCell (by simp) _).drew, by rw [HN.out, HO.out]; exact hB.set 1 _, hR.other _ (by simp) _⟩
        case measure => simp [intOf]; omega
      · have HO := Lib.hid (or_set2 S x r hx0 hx1 hq hr)
        go_wp2_with (go_at_call 105; refine (c_fine x hx0 hx1 _).mono ?_; rintro e w' ⟨rfl, rfl⟩)
        go_region
        go_wp2
        go_roundw
        case rel => exact ⟨k + 1, by omega, by go_num, (hb.setCell (by simp) _).drew, by rw [HN.out, HO.out]; exact hB.set 2 _, hR.other _ (by simp) _⟩
        case measure => simp [intOf]; omega
      · have HO := Lib.hid (or_set3 S x r hx0 hx1 hq hr)
        go_wp2_with (go_at_call 105; refine (c_fine x hx0 hx1 _).mono ?_; rintro e w' ⟨rfl, rfl⟩)
        go_region
        go_wp2
        go_roundw
        case rel => exact ⟨k + 1, by omega, by go_num, (hb.setCell (by simp) _).drew, by rw [HN.out, HO.out]; exact hB.set 3 _, hR.other _ (by simp) _⟩
        case measure => simp [intOf]; omega
    · obtain rfl : k = L.length := by omega
      rw [List.take_length] at hB
      have c0 := hB.cell 0 _ rfl
      have c1 := hB.cell 1 _ rfl
      have c2 := hB.cell 2 _ rfl
      have c3 := hB.cell 3 _ rfl
      have r0 := hR.cell 0 _ rfl
      have r1 := hR.cell 1 _ rfl
      have r2 := hR.cell 2 _ rfl
      have r3 := hR.cell 3 _ rfl
      have g0 := hR.free 0
      have g1 := hR.free 1
      have g2 := hR.free 2
      have g3 := hR.free 3
      clear h h0
      go_wp2
      exact bodyPost_ret (v := (ofS L).val) (by simp [results, Tryd.results91, go_sem, r0, r1, r2, r3]) rfl ⟨rfl, (((hb.setCell (by simp) _).setCell (by simp) _).setCell (by simp) _).setCell (by simp) _⟩
end Go.Proofs.YtlfglibepldjpaaDoor

namespace Go.Proofs.YtlfglibepldjpaaDoor
open Go.RowKit

theorem c_rofS {w : World} {pl : Nat → Prop} {A : Option Addr} {c : Nat} {L : List Int} (h0 : RD w pl 1 A L.length (L.map (Value.int .i64))) (hlen : L.length ≤ 1000) :
    Calls Tryd.prog 90 #[.slice A L.length c] w (IntsPost w (ofS L).ints) := by
  rw [ofS_ints]
  exact c_rof h0 hlen
theorem c_rlessS {w : World} {pl pl2 : Nat → Prop} {A A2 : Option Addr} {c c2 : Nat} {s t : S4} (h : RD w pl 1 A s.ints.length (s.ints.map (Value.int .i64))) (k : RD w pl2 1 A2 t.ints.length (t.ints.map (Value.int .i64))) :
    Calls Tryd.prog 107 #[.slice A s.ints.length c, .slice A2 t.ints.length c2] w (IntsPost w (s.les t).ints) := by
  have h1 := len_le s
  have h2 := len_le t
  unfold S4.len at h1 h2
  have := c_rless (c := c) (c2 := c2) h (by omega) k (by omega)
  unfold S4.ints at this
  rw [rise_less] at this
  rw [les_ints]
  exact this
theorem c_raddS {w : World} {pl : Nat → Prop} {A : Option Addr} {c : Nat} {s : S4} (h : RD w pl 1 A s.ints.length (s.ints.map (Value.int .i64))) (x : Int) :
    Calls Tryd.prog 98 #[.slice A s.ints.length c, .int .i64 x] w (IntsPost w (s.uni (S4.only x)).ints) := by
  have h1 := len_le s
  unfold S4.len at h1
  have := c_radd (c := c) h (by omega) x
  unfold S4.ints at this
  rw [ofL_add] at this
  rw [add_ints]
  exact this
theorem c_rdropS {w : World} {pl : Nat → Prop} {A : Option Addr} {c : Nat} {s : S4} (h : RD w pl 1 A s.ints.length (s.ints.map (Value.int .i64))) (x : Int) :
    Calls Tryd.prog 101 #[.slice A s.ints.length c, .int .i64 x] w (IntsPost w (s.les (S4.only x)).ints) := by
  have h1 := len_le s
  unfold S4.len at h1
  have := c_rdrop (c := c) h (by omega) x
  unfold S4.ints at this
  rw [rise_drop] at this
  rw [drop_ints]
  exact this
theorem c_sameS {w : World} {pl pl' : Nat → Prop} {A B : Option Addr} {c d : Nat} {s : S4} (hA : RD w pl 1 A s.ints.length (s.ints.map (Value.int .i64))) (hB : RD w pl' 1 B s.ints.length (s.ints.map (Value.int .i64))) :
    Calls Tryd.prog 25 #[.slice A s.ints.length c, .slice B s.ints.length d] w fun e w' => e = .returned (.bool true) ∧ Below w.heap.size w w' := by
  have h1 := len_le s
  unfold S4.len at h1
  exact (c_same hA hB (by omega)).mono fun _ _ h => ⟨h.1, h.2.below⟩
theorem c_wordsS {w : World} {pl : Nat → Prop} {A : Option Addr} {c : Nat} {s : S4} (h0 : RD w pl 1 A s.ints.length (s.ints.map (Value.int .i64))) :
    Calls Tryd.prog 91 #[.slice A s.ints.length c] w fun e w' => e = .returned s.val ∧ Below w.heap.size w w' := by
  have h1 := len_le s
  unfold S4.len at h1
  have := c_words (c := c) h0 (by omega) (fun x hx => rise_range s.has x hx)
  rw [ofS_of_ints] at this
  exact this
theorem c_rhasS {w : World} {pl : Nat → Prop} {A : Option Addr} {c : Nat} {s : S4} (h0 : RD w pl 1 A s.ints.length (s.ints.map (Value.int .i64))) (x : Int) :
    Calls Tryd.prog 97 #[.slice A s.ints.length c, .int .i64 x] w fun e w' => e = .returned (.bool (hasL s.ints x)) ∧ Below w.heap.size w w' := by
  have h1 := len_le s
  unfold S4.len at h1
  exact same_below (c_rhas h0 (by omega) x)
theorem c_rhasB {w : World} {pl : Nat → Prop} {A : Option Addr} {c : Nat} {s : S4} (h0 : RD w pl 1 A s.ints.length (s.ints.map (Value.int .i64))) (x : Int) {b : Bool} (h : hasL s.ints x = b) :
    Calls Tryd.prog 97 #[.slice A s.ints.length c, .int .i64 x] w fun e w' => e = .returned (.bool b) ∧ Below w.heap.size w w' := by
  rw [← h]
  exact c_rhasS h0 x
end Go.Proofs.YtlfglibepldjpaaDoor

/- The contracts of the document's Has, Of, Add, Drop, Next, Union, Inter, Less. -/
import Derived.Test.YtknlkkigiommhaaDoorBb
import Derived.Test.YtknlkkigiommhaaDoorI
import Derived.Test.YtknlkkigiommhaaDoorIs
namespace Go.Proofs.YtknlkkigiommhaaDoor
open Go.RowKit

/-- The first that is not below x, of a list. -/
theorem hasL_cons_no {L : List Int} {x : Int} (h : ∀ y ∈ L, y ≠ x) : hasL L x = false := by
  unfold hasL
  rw [decide_eq_false_iff_not]
  exact fun hx => h x hx rfl
set_option maxHeartbeats 1000000 in
theorem c_rhas {w : World} {pl : Nat → Prop} {A : Option Addr} {c : Nat} {L : List Int} (h : RD w pl 1 A L.length (L.map (Value.int .i64))) (hlen : L.length ≤ 1000) (x : Int) :
    Calls Tryd.prog 17 #[.slice A L.length c, .int .i64 x] w fun e w' => e = .returned (.bool (hasL L x)) ∧ w = w' := by
  go_enter Tryd.func17, Tryd.ntmps17
  go_wp2
  go_loop [5] (fun i => ∃ k : Nat, k ≤ L.length ∧ i = .int .i64 k ∧ Hid (∀ y ∈ L.take k, y ≠ x)) (fun i => L.length - (intOf i).toNat)
  case atStart => exact ⟨0, Nat.zero_le _, rfl, Lib.hid (by simp)⟩
  case round =>
    obtain ⟨k, hk, rfl, hno⟩ := hrel
    by_cases hlt : k < L.length
    · obtain ⟨bA, oA, rfl, _, _, hcA⟩ := h.at_ (by omega)
      have h1 := hcA k (.int .i64 L[k]) (by simp [hlt])
      have HN := Lib.hid (take_next L k L[k] (List.getElem?_eq_getElem hlt))
      have HM := Lib.hid (List.getElem_mem hlt)
      clear h hcA
      generalize L[k] = y at h1 HN HM
      by_cases hy : y = x
      · subst hy
        have hb : (y == y) = true := by simp
        have HR := Lib.hid (show hasL L y = true by unfold hasL; rw [decide_eq_true_iff]; exact HM.out)
        go_wp2
        go_ret
        exact ⟨by rw [HR.out]; rfl, rfl⟩
      · have hb : (y == x) = false := by simpa using hy
        have HY := Lib.hid hy
        clear hy
        go_wp2
        go_round
        case rel => exact ⟨k + 1, by omega, by go_num, Lib.hid (by
          rw [HN.out]
          intro z hz
          rcases List.mem_append.1 hz with hz | hz
          · exact hno.out z hz
          · rw [List.mem_singleton.1 hz]
            exact HY.out)⟩
        case measure => simp [intOf]; omega
    · obtain rfl : k = L.length := by omega
      have HR := Lib.hid (show hasL L x = false from hasL_cons_no (by have := hno.out; rwa [List.take_length] at this))
      clear h
      go_wp2
      go_ret
      exact ⟨by rw [HR.out]; rfl, rfl⟩

/-- The ids below k that are in the list. -/
def ofK (L : List Int) (k : Nat) : List Int := ((List.range k).filter fun i : Nat => hasL L i).map fun i : Nat => (i : Int)
theorem ofK_all (L : List Int) : ofK L 256 = ofL L := rfl
theorem ofK_len (L : List Int) (k : Nat) : (ofK L k).length ≤ k := by
  unfold ofK
  rw [List.length_map]
  have := List.length_filter_le (fun i : Nat => hasL L i) (List.range k)
  simpa using this
theorem ofK_yes {L : List Int} {k : Nat} (h : hasL L k = true) : ofK L (k + 1) = ofK L k ++ [(k : Int)] := by
  unfold ofK
  rw [List.range_succ, List.filter_append, List.map_append]
  simp [h]
theorem ofK_no {L : List Int} {k : Nat} (h : hasL L k = false) : ofK L (k + 1) = ofK L k := by
  unfold ofK
  rw [List.range_succ, List.filter_append, List.map_append]
  simp [h]
set_option maxHeartbeats 1000000 in
theorem c_rof {w : World} {pl : Nat → Prop} {A : Option Addr} {c : Nat} {L : List Int} (h0 : RD w pl 1 A L.length (L.map (Value.int .i64))) (hlen : L.length ≤ 1000) :
    Calls Tryd.prog 9 #[.slice A L.length c] w (IntsPost w (ofL L)) := by
  go_enter Tryd.func9, Tryd.ntmps9
  go_wp2
  go_loopw [3, 4] (fun v i wr => ∃ k : Nat, k ≤ 256 ∧ i = .int .i64 k ∧ wr.ownsRow w.heap.size 3 1 v (ofK L k).length ((ofK L k).map (Value.int .i64)) ∧ Below w.heap.size w wr) (fun _ i _ => 256 - (intOf i).toNat)
  case atStart => exact ⟨0, Nat.zero_le _, rfl, World.ownsRow_nil _ _ _ _, Below.refl _ _⟩
  case round =>
    obtain ⟨k, hk, rfl, hown, hb⟩ := hrel
    have h := h0.below hb
    have hlk := ofK_len L k
    have hsz := hb.size
    by_cases hlt : k < 256
    · by_cases hh : hasL L k = true
      · have cH := c_rhas (c := c) h hlen k
        rw [hh] at cH
        have HN := Lib.hid (ofK_yes hh)
        have CH := Lib.hid cH
        clear h0 h hh cH
        go_wp2_with (first | (go_at_call 17; refine Calls.mono CH.out ?_; rintro e w' ⟨rfl, rfl⟩) | (at_builtin; refine wpList_app ei_int rfl (.tmp 12) (.tmp 14) rfl _ _ rfl (hown.alloc _) rfl (RD.one (by simp)) (by simp [Value.oneCell']) (by omega) (by simp; omega) ?_; intro v' w2 hown1 hb1))
        go_roundw
        case rel => exact ⟨k + 1, by omega, by go_num, by rw [HN.out, List.map_append, List.length_append]; exact hown1, (up_trans hb (up_alloc _ _)).trans hb1⟩
        case measure => simp [intOf]; omega
      · have hh' : hasL L k = false := by simpa using hh
        have cH := c_rhas (c := c) h hlen k
        rw [hh'] at cH
        have HN := Lib.hid (ofK_no hh')
        have CH := Lib.hid cH
        clear h0 h hh hh' cH
        go_wp2_with (first | (go_at_call 17; refine Calls.mono CH.out ?_; rintro e w' ⟨rfl, rfl⟩))
        go_roundw
        case rel => exact ⟨k + 1, by omega, by go_num, by rw [HN.out]; exact hown, hb⟩
        case measure => simp [intOf]; omega
    · obtain rfl : k = 256 := by omega
      rw [ofK_all] at hown
      rw [show ((256 : Nat) : Int) = 256 from rfl]
      clear h h0
      go_wp2
      go_ret
      exact IntsPost.of hown hb

theorem ofL_len (L : List Int) : (ofL L).length ≤ 256 := rise_le _
/-- Below the call's start, from a later world. -/
theorem IntsPost.later {w w1 : World} {zs : List Int} {e : Ending} {w' : World} (hb : Below w.heap.size w w1) (h : IntsPost w1 zs e w') : IntsPost w zs e w' := by
  obtain ⟨A, c, h1, h2, h3, h4, h5⟩ := h
  exact ⟨A, c, h1, h2, h3, h4.lo fun b hb' => Nat.le_trans hb.size hb', up_trans hb h5⟩

def NextSame (L : List Int) (x : Int) (w : World) (e : Ending) (w' : World) : Prop := e = .returned (.tuple #[.int .i64 (nextL L x).1, .bool (nextL L x).2]) ∧ w = w'
set_option maxHeartbeats 1000000 in
theorem c_rnext {w : World} {pl : Nat → Prop} {A : Option Addr} {c : Nat} {L : List Int} (h : RD w pl 1 A L.length (L.map (Value.int .i64))) (hlen : L.length ≤ 1000) (x : Int) :
    Calls Tryd.prog 11 #[.slice A L.length c, .int .i64 x] w (NextSame L x w) := by
  go_enter Tryd.func11, Tryd.ntmps11
  go_wp2
  go_loop [6] (fun i => ∃ k : Nat, k ≤ L.length ∧ i = .int .i64 k ∧ Hid (∀ y ∈ L.take k, y < x)) (fun i => L.length - (intOf i).toNat)
  case atStart => exact ⟨0, Nat.zero_le _, rfl, Lib.hid (by simp)⟩
  case round =>
    obtain ⟨k, hk, rfl, hlo⟩ := hrel
    by_cases hlt : k < L.length
    · obtain ⟨bA, oA, rfl, _, _, hcA⟩ := h.at_ (by omega)
      have h1 := hcA k (.int .i64 L[k]) (by simp [hlt])
      have HN := Lib.hid (take_next L k L[k] (List.getElem?_eq_getElem hlt))
      have HS := Lib.hid (show L = L.take k ++ L[k] :: L.drop (k + 1) by rw [← List.drop_eq_getElem_cons hlt, List.take_append_drop])
      clear h hcA
      generalize L[k] = y at h1 HN HS
      by_cases hy : x ≤ y
      · have HR := Lib.hid (show nextL L x = (y, true) by
          have := nextL_yes (r := L.drop (k + 1)) hlo.out hy
          rwa [← HS.out] at this)
        go_wp2
        go_ret2
        exact ⟨by rw [HR.out]; rfl, rfl⟩
      · have hy' : y < x := by omega
        clear hy
        go_wp2
        go_round
        case rel => exact ⟨k + 1, by omega, by go_num, Lib.hid (by
          rw [HN.out]
          intro z hz
          rcases List.mem_append.1 hz with hz | hz
          · exact hlo.out z hz
          · rw [List.mem_singleton.1 hz]
            exact hy')⟩
        case measure => simp [intOf]; omega
    · obtain rfl : k = L.length := by omega
      have HR := Lib.hid (nextL_no (L := L) (x := x) (by have := hlo.out; rwa [List.take_length] at this))
      clear h
      go_wp2
      go_ret2
      exact ⟨by rw [HR.out]; rfl, rfl⟩

theorem c_rof' {w : World} {pl : Nat → Prop} {A : Option Addr} {c n : Nat} (L : List Int) (hn : n = L.length) (h0 : RD w pl 1 A n (L.map (Value.int .i64))) (hlen : n ≤ 1000) :
    Calls Tryd.prog 9 #[.slice A n c] w (IntsPost w (ofL L)) := by
  subst hn
  exact c_rof h0 hlen
set_option maxHeartbeats 1000000 in
theorem c_radd {w : World} {pl : Nat → Prop} {A : Option Addr} {c : Nat} {L : List Int} (h : RD w pl 1 A L.length (L.map (Value.int .i64))) (hlen : L.length ≤ 400) (x : Int) :
    Calls Tryd.prog 19 #[.slice A L.length c, .int .i64 x] w (IntsPost w (ofL (L ++ [x]))) := by
  have HL := Lib.hid (show L.length + 1 = (L ++ [x]).length by simp)
  have HM := Lib.hid (show (L ++ [x]).map (Value.int .i64) = L.map (Value.int .i64) ++ [.int .i64 x] by simp)
  generalize L ++ [x] = M at HL HM
  have HX := Lib.hid (int_cells .i64 L)
  generalize L.map (Value.int .i64) = xs at h HM HX
  generalize L.length = n at h hlen HL
  go_enter Tryd.func19, Tryd.ntmps19
  go_wp2_with (first
    | (at_builtin; refine wpList_app ei_int rfl (.const (.slice none 0 0)) (.tmp 5) rfl (.slice none 0 0) [] rfl (World.ownsRow_nil _ w.heap.size _ _) rfl h HX.out (by omega) (Nat.le_refl _) ?_; intro v' w2 hown hb2; simp only [Nat.zero_add, List.nil_append] at hown; have hz2 := hb2.size)
    | (at_builtin; refine wpList_app ei_int rfl (.tmp 6) (.tmp 8) rfl _ _ rfl (hown.alloc _) rfl (RD.one (by simp)) (by simp [Value.oneCell']) (by omega) (by simp; omega) ?_; intro v'' w3 hown3 hb3; obtain ⟨A3, c3, rfl, hn3, hc3, hr3⟩ := own_slice hown3)
    | (go_at_call 9; refine Calls.mono (c_rof' M HL.out (by rw [HM.out]; exact hr3) (by omega)) ?_; rintro e w4 ⟨A4, c4, rfl, h41, h42, h43, h44⟩))
  go_ret
  exact ⟨A4, c4, rfl, h41, h42, h43.lo fun b hb => by have := hb3.size; simp at this; omega, ((hb2.trans ((up_alloc _ _).mono hz2)).trans (hb3.mono (Nat.le_refl _))).trans (h44.mono (by have := hb3.size; simp at this; omega))⟩
set_option maxHeartbeats 1000000 in
theorem c_runion {w : World} {pl pl2 : Nat → Prop} {A A2 : Option Addr} {c c2 : Nat} {L M : List Int} (h : RD w pl 1 A L.length (L.map (Value.int .i64))) (hlen : L.length ≤ 400) (k : RD w pl2 1 A2 M.length (M.map (Value.int .i64))) (hlenM : M.length ≤ 400) :
    Calls Tryd.prog 23 #[.slice A L.length c, .slice A2 M.length c2] w (IntsPost w (ofL (L ++ M))) := by
  have HL := Lib.hid (show L.length + M.length = (L ++ M).length by simp)
  have HM := Lib.hid (show (L ++ M).map (Value.int .i64) = L.map (Value.int .i64) ++ M.map (Value.int .i64) by simp)
  generalize L ++ M = U at HL HM
  have HX := Lib.hid (int_cells .i64 L)
  have HY := Lib.hid (int_cells .i64 M)
  generalize L.map (Value.int .i64) = xs at h HM HX
  generalize L.length = n at h hlen HL
  generalize M.map (Value.int .i64) = ys at k HM HY
  generalize M.length = m at k hlenM HL
  go_enter Tryd.func23, Tryd.ntmps23
  go_wp2_with (first
    | (at_builtin; refine wpList_app ei_int rfl (.const (.slice none 0 0)) (.tmp 5) rfl (.slice none 0 0) [] rfl (World.ownsRow_nil _ w.heap.size _ _) rfl h HX.out (by omega) (Nat.le_refl _) ?_; intro v' w2 hown hb2; simp only [Nat.zero_add, List.nil_append] at hown; have hz2 := hb2.size; have k2 := k.below hb2)
    | (at_builtin; refine wpList_app ei_int rfl (.tmp 6) (.tmp 7) rfl _ _ rfl hown rfl k2 HY.out (by omega) (by omega) ?_; intro v'' w3 hown3 hb3; obtain ⟨A3, c3, rfl, hn3, hc3, hr3⟩ := own_slice hown3)
    | (go_at_call 9; refine Calls.mono (c_rof' U HL.out (by rw [HM.out]; exact hr3) (by omega)) ?_; rintro e w4 ⟨A4, c4, rfl, h41, h42, h43, h44⟩))
  go_ret
  exact ⟨A4, c4, rfl, h41, h42, h43.lo fun b hb => by have := hb3.size; omega, (hb2.trans hb3).trans (h44.mono (by have := hb3.size; omega))⟩

set_option maxHeartbeats 1000000 in
theorem c_rdrop {w : World} {pl : Nat → Prop} {A : Option Addr} {c : Nat} {L : List Int} (h0 : RD w pl 1 A L.length (L.map (Value.int .i64))) (hlen : L.length ≤ 1000) (x : Int) :
    Calls Tryd.prog 21 #[.slice A L.length c, .int .i64 x] w (IntsPost w (L.filter fun y => y != x)) := by
  go_enter Tryd.func21, Tryd.ntmps21
  go_wp2
  go_loopw [5, 6] (fun v i wr => ∃ k : Nat, k ≤ L.length ∧ i = .int .i64 k ∧ wr.ownsRow w.heap.size 3 1 v ((L.take k).filter (fun y : Int => y != x)).length (((L.take k).filter (fun y : Int => y != x)).map (Value.int .i64)) ∧ Below w.heap.size w wr) (fun _ i _ => L.length - (intOf i).toNat)
  case atStart => exact ⟨0, Nat.zero_le _, rfl, World.ownsRow_nil _ _ _ _, Below.refl _ _⟩
  case round =>
    obtain ⟨k, hk, rfl, hown, hb⟩ := hrel
    have h := h0.below hb
    have hsz := hb.size
    have hlk : ((L.take k).filter (fun y : Int => y != x)).length ≤ 1000 := by
      have := List.length_filter_le (fun y : Int => y != x) (L.take k)
      rw [List.length_take] at this
      omega
    by_cases hlt : k < L.length
    · obtain ⟨bA, oA, rfl, _, _, hcA⟩ := h.at_ (by omega)
      have h1 := hcA k (.int .i64 L[k]) (by simp [hlt])
      have hn := take_next L k L[k] (List.getElem?_eq_getElem hlt)
      clear h hcA h0
      generalize L[k] = y at h1 hn
      by_cases hy : y ≠ x
      · have hb1 : (y != x) = true := by simpa using hy
        have HN := Lib.hid (show (L.take (k + 1)).filter (fun y : Int => y != x) = (L.take k).filter (fun y : Int => y != x) ++ [y] by rw [hn, List.filter_append]; simp [hb1])
        clear hn hy
        go_wp2_with (first | (at_builtin; refine wpList_app ei_int rfl (.tmp 19) (.tmp 24) rfl _ _ rfl (hown.alloc _) rfl (RD.one (by simp)) (by simp [Value.oneCell']) (by omega) (by simp; omega) ?_; intro v' w2 hown1 hb1))
        go_roundw
        case rel => exact ⟨k + 1, by omega, by go_num, by rw [HN.out, List.map_append, List.length_append]; exact hown1, (up_trans hb (up_alloc _ _)).trans hb1⟩
        case measure => simp [intOf]; omega
      · have hb1 : (y != x) = false := by simpa using hy
        have HN := Lib.hid (show (L.take (k + 1)).filter (fun y : Int => y != x) = (L.take k).filter (fun y : Int => y != x) by rw [hn, List.filter_append]; simp [hb1])
        clear hn hy
        go_wp2
        go_roundw
        case rel => exact ⟨k + 1, by omega, by go_num, by rw [HN.out]; exact hown, hb⟩
        case measure => simp [intOf]; omega
    · obtain rfl : k = L.length := by omega
      rw [List.take_length] at hown
      clear h h0
      go_wp2
      go_ret
      exact IntsPost.of hown hb

set_option maxHeartbeats 1000000 in
theorem c_rinter {w : World} {pl : Nat → Prop} {A : Option Addr} {c : Nat} {L : List Int} (h0 : RD w pl 1 A L.length (L.map (Value.int .i64))) (hlen : L.length ≤ 1000) {pl2 : Nat → Prop} {A2 : Option Addr} {c2 : Nat} {M : List Int} (hM : RD w pl2 1 A2 M.length (M.map (Value.int .i64))) (hlenM : M.length ≤ 1000) :
    Calls Tryd.prog 25 #[.slice A L.length c, .slice A2 M.length c2] w (IntsPost w (L.filter fun y => hasL M y)) := by
  go_enter Tryd.func25, Tryd.ntmps25
  go_wp2
  go_loopw [5, 6] (fun v i wr => ∃ k : Nat, k ≤ L.length ∧ i = .int .i64 k ∧ wr.ownsRow w.heap.size 3 1 v ((L.take k).filter (fun y : Int => hasL M y)).length (((L.take k).filter (fun y : Int => hasL M y)).map (Value.int .i64)) ∧ Below w.heap.size w wr) (fun _ i _ => L.length - (intOf i).toNat)
  case atStart => exact ⟨0, Nat.zero_le _, rfl, World.ownsRow_nil _ _ _ _, Below.refl _ _⟩
  case round =>
    obtain ⟨k, hk, rfl, hown, hb⟩ := hrel
    have h := h0.below hb
    have hsz := hb.size
    have hlk : ((L.take k).filter (fun y : Int => hasL M y)).length ≤ 1000 := by
      have := List.length_filter_le (fun y : Int => hasL M y) (L.take k)
      rw [List.length_take] at this
      omega
    by_cases hlt : k < L.length
    · obtain ⟨bA, oA, rfl, _, _, hcA⟩ := h.at_ (by omega)
      have h1 := hcA k (.int .i64 L[k]) (by simp [hlt])
      have hn := take_next L k L[k] (List.getElem?_eq_getElem hlt)
      have cH := c_rhas (c := c2) (hM.below hb) hlenM L[k]
      clear h hcA h0
      generalize L[k] = y at h1 hn cH
      by_cases hy : hasL M y = true
      · have hb1 := hy
        have HN := Lib.hid (show (L.take (k + 1)).filter (fun y : Int => hasL M y) = (L.take k).filter (fun y : Int => hasL M y) ++ [y] by rw [hn, List.filter_append]; simp [hb1])
        rw [hb1] at cH
        have CH := Lib.hid cH
        clear cH
        clear hn hy hb1
        go_wp2_with (first | (go_at_call 17; refine Calls.mono CH.out ?_; rintro e w' ⟨rfl, rfl⟩) | (at_builtin; refine wpList_app ei_int rfl (.tmp 19) (.tmp 24) rfl _ _ rfl (hown.alloc _) rfl (RD.one (by simp)) (by simp [Value.oneCell']) (by omega) (by simp; omega) ?_; intro v' w2 hown1 hb1))
        go_roundw
        case rel => exact ⟨k + 1, by omega, by go_num, by rw [HN.out, List.map_append, List.length_append]; exact hown1, (up_trans hb (up_alloc _ _)).trans hb1⟩
        case measure => simp [intOf]; omega
      · have hb1 : hasL M y = false := by simpa using hy
        have HN := Lib.hid (show (L.take (k + 1)).filter (fun y : Int => hasL M y) = (L.take k).filter (fun y : Int => hasL M y) by rw [hn, List.filter_append]; simp [hb1])
        rw [hb1] at cH
        have CH := Lib.hid cH
        clear cH
        clear hn hy hb1
        go_wp2_with (first | (go_at_call 17; refine Calls.mono CH.out ?_; rintro e w' ⟨rfl, rfl⟩))
        go_roundw
        case rel => exact ⟨k + 1, by omega, by go_num, by rw [HN.out]; exact hown, hb⟩
        case measure => simp [intOf]; omega
    · obtain rfl : k = L.length := by omega
      rw [List.take_length] at hown
      clear h h0
      go_wp2
      go_ret
      exact IntsPost.of hown hb

set_option maxHeartbeats 1000000 in
theorem c_rless {w : World} {pl : Nat → Prop} {A : Option Addr} {c : Nat} {L : List Int} (h0 : RD w pl 1 A L.length (L.map (Value.int .i64))) (hlen : L.length ≤ 1000) {pl2 : Nat → Prop} {A2 : Option Addr} {c2 : Nat} {M : List Int} (hM : RD w pl2 1 A2 M.length (M.map (Value.int .i64))) (hlenM : M.length ≤ 1000) :
    Calls Tryd.prog 27 #[.slice A L.length c, .slice A2 M.length c2] w (IntsPost w (L.filter fun y => !hasL M y)) := by
  go_enter Tryd.func27, Tryd.ntmps27
  go_wp2
  go_loopw [5, 6] (fun v i wr => ∃ k : Nat, k ≤ L.length ∧ i = .int .i64 k ∧ wr.ownsRow w.heap.size 3 1 v ((L.take k).filter (fun y : Int => !hasL M y)).length (((L.take k).filter (fun y : Int => !hasL M y)).map (Value.int .i64)) ∧ Below w.heap.size w wr) (fun _ i _ => L.length - (intOf i).toNat)
  case atStart => exact ⟨0, Nat.zero_le _, rfl, World.ownsRow_nil _ _ _ _, Below.refl _ _⟩
  case round =>
    obtain ⟨k, hk, rfl, hown, hb⟩ := hrel
    have h := h0.below hb
    have hsz := hb.size
    have hlk : ((L.take k).filter (fun y : Int => !hasL M y)).length ≤ 1000 := by
      have := List.length_filter_le (fun y : Int => !hasL M y) (L.take k)
      rw [List.length_take] at this
      omega
    by_cases hlt : k < L.length
    · obtain ⟨bA, oA, rfl, _, _, hcA⟩ := h.at_ (by omega)
      have h1 := hcA k (.int .i64 L[k]) (by simp [hlt])
      have hn := take_next L k L[k] (List.getElem?_eq_getElem hlt)
      have cH := c_rhas (c := c2) (hM.below hb) hlenM L[k]
      clear h hcA h0
      generalize L[k] = y at h1 hn cH
      by_cases hy : hasL M y = false
      · have hb1 := hy
        have HN := Lib.hid (show (L.take (k + 1)).filter (fun y : Int => !hasL M y) = (L.take k).filter (fun y : Int => !hasL M y) ++ [y] by rw [hn, List.filter_append]; simp [hb1])
        rw [hb1] at cH
        have CH := Lib.hid cH
        clear cH
        clear hn hy hb1
        go_wp2_with (first | (go_at_call 17; refine Calls.mono CH.out ?_; rintro e w' ⟨rfl, rfl⟩) | (at_builtin; refine wpList_app ei_int rfl (.tmp 20) (.tmp 25) rfl _ _ rfl (hown.alloc _) rfl (RD.one (by simp)) (by simp [Value.oneCell']) (by omega) (by simp; omega) ?_; intro v' w2 hown1 hb1))
        go_roundw
        case rel => exact ⟨k + 1, by omega, by go_num, by rw [HN.out, List.map_append, List.length_append]; exact hown1, (up_trans hb (up_alloc _ _)).trans hb1⟩
        case measure => simp [intOf]; omega
      · have hb1 : hasL M y = true := by simpa using hy
        have HN := Lib.hid (show (L.take (k + 1)).filter (fun y : Int => !hasL M y) = (L.take k).filter (fun y : Int => !hasL M y) by rw [hn, List.filter_append]; simp [hb1])
        rw [hb1] at cH
        have CH := Lib.hid cH
        clear cH
        clear hn hy hb1
        go_wp2_with (first | (go_at_call 17; refine Calls.mono CH.out ?_; rintro e w' ⟨rfl, rfl⟩))
        go_roundw
        case rel => exact ⟨k + 1, by omega, by go_num, by rw [HN.out]; exact hown, hb⟩
        case measure => simp [intOf]; omega
    · obtain rfl : k = L.length := by omega
      rw [List.take_length] at hown
      clear h h0
      go_wp2
      go_ret
      exact IntsPost.of hown hb
end Go.Proofs.YtknlkkigiommhaaDoor

/- The law RingsOrder: its loop. -/
import Derived.Test.YtaokojjjihinhaaGm
namespace Go.Proofs.Ytaokojjjihinhaa
open Go.RowKit

theorem bool_cell {w : World} {pl : Nat → Prop} {A : Option Addr} {n : Nat} {ps : List Bool} (h : RD w pl 1 A n (ps.map Value.bool)) {k : Nat} (hk : k < n) : ∃ b o, A = some ⟨b, o, none⟩ ∧ w.cell? ⟨b, o + k, none⟩ = some (.bool (ps.getD k false)) := by
  obtain ⟨b, o, e, _, _, h3⟩ := h.at_ (by omega)
  have hl : ps.length = n := by have := h.1; simpa using this
  refine ⟨b, o, e, h3 k _ ?_⟩
  simp [List.getD, hl, hk]
set_option maxHeartbeats 8000000 in
set_option maxRecDepth 100000 in
theorem l_order_few (room : Int) (hr0 : 0 ≤ room) (hr1 : room ≤ 255) (A B : Option Addr) (n cp m cq : Nat) (zs : List Int) (ps : List Bool) (w : World) (hR : RD w (fun _ => True) 1 A n (zs.map (Value.int .u8))) (hl : zs.length = n) (hz : ∀ z ∈ zs, 0 ≤ z ∧ z ≤ 255)
    (hR2 : RD w (fun _ => True) 1 B m (ps.map Value.bool)) (hn : n ≤ 200) (hm : m ≤ 200) :
    Calls Try.prog 4 #[.int .u8 room, .slice A n cp, .slice B m cq] w (Alive w) := by
  obtain ⟨rm, hrm⟩ : ∃ rm : Nat, (rm : Int) = 1 + room % 16 := ⟨(1 + room % 16).toNat, by omega⟩
  have C1 := Lib.hid (rv_new rm w (by omega))
  rw [hrm] at C1
  have hrm1 : rm ≤ 16 := by omega
  have hrm0 : 0 < rm := by omega
  have HR := Lib.hid hR
  have HR2 := Lib.hid hR2
  have HL := Lib.hid hl
  have HZ := Lib.hid hz
  clear hR hl hz hR2 hrm
  go_enter Try.func4, Try.ntmps4
  go_wp2_with fail
  refine Calls.mono C1.out ?_
  rintro e w1 ⟨rfl, hv1⟩
  have H1 : Hid (IR w w1 rm 0 0 0 (.slice none 0 0) (.slice none 0 0) []) := Lib.hid ⟨hv1, World.ownsRow_nil _ _ _ _, fun g e => by simp [Value.ownBlock] at e, Nat.le_refl _, Nat.le_refl _⟩
  clear hv1
  go_wp2_with fail
  go_loopw [9, 10, 46] (fun u9 o9 i wr => ∃ (k q out : Nat) (v : Value) (Au : Option Addr) (cu : Nat) (I : List Int), k ≤ n ∧ i = .int .i64 k ∧ o9 = .int .i64 out ∧ u9 = .slice Au q cu ∧ IR w wr rm k q out v (.slice Au q cu) I) (fun _ _ i _ => n - (intOf i).toNat)
  case atStart => exact ⟨0, 0, 0, _, none, 0, [], Nat.zero_le _, rfl, rfl, rfl, H1.out⟩
  case round =>
    obtain ⟨k, q, out, v, Au, cu, I, hk, rfl, rfl, rfl, hI⟩ := hrel
    have HI := Lib.hid hI
    have hq := hI.le
    have hout := hI.out
    have hll := hI.len
    clear hI
    by_cases hlt : k < n
    · obtain ⟨b, o, rfl, _⟩ := HR.out.at_ (by omega)
      have hc := u8_cell (HR.out.below HI.out.rv.up) (k := k) (by rw [HL.out]; exact hlt) (by omega)
      have hzb := HZ.out _ (getD_mem (k := k) (by rw [HL.out]; exact hlt))
      obtain ⟨z, hzz⟩ : ∃ z, z = zs.getD k 0 := ⟨_, rfl⟩
      rw [← hzz] at hc hzb
      obtain ⟨hz0, hz1⟩ := hzb
      clear hzz
      have hways : m ≤ k ∨ k < m ∧ ∃ (b2 o2 : Nat) (p : Bool), B = some ⟨b2, o2, none⟩ ∧ ∀ W, Below w.heap.size w W → W.cell? ⟨b2, o2 + k, none⟩ = some (.bool p) := by
        by_cases h : k < m
        · obtain ⟨b2, o2, e2, _⟩ := bool_cell HR2.out h
          refine .inr ⟨h, b2, o2, ps.getD k false, e2, fun W hW => ?_⟩
          obtain ⟨b3, o3, e3, h3⟩ := bool_cell (HR2.out.below hW) h
          rw [e2] at e3
          cases e3
          exact h3
        · exact .inl (by omega)
      have hdl : (I.drop out).length = q - out := by rw [List.length_drop, hll]
      have hle := HI.out.rv.le.1
      rw [hdl] at hle
      have hq200 : q ≤ 199 := by omega
      rcases hways with hkm | ⟨hkm, b2, o2, p, rfl, hp⟩
      · have t0 : ¬ ((k : Int) < (m : Int)) := by omega
        by_cases hfull : q - out = rm
        · have CA := Lib.hid (rv_full HI.out.rv z (by rw [hdl]; exact hfull))
          have hq0 : out < q := by omega
          clear hdl hll
          go_wp2_with fail
          refine Calls.mono CA.out ?_
          rintro e w4 ⟨v4, rfl, hv4, hk4, _⟩
          have H4 : Hid (IR w w4 rm (k + 1) q out v4 (.slice Au q cu) I) := Lib.hid (HI.out.post hv4 hk4 rfl (by omega) hout)
          clear hv4 hk4 hc
          go_wp2_with fail
          have H5 := Lib.hid H4.out
          have CL := Lib.hid (k_len (m := ((q : Nat) : Int) - (out : Int)) H5.out.rv (by have h1 := H5.out.len; have h2 := H5.out.out; rw [List.length_drop, h1]; omega))
          have CM := Lib.hid (rv_room H5.out.rv)
          have hle5 := H5.out.rv.le.1
          have hl5 := H5.out.len
          rw [List.length_drop, hl5] at hle5
          have hout5 := H5.out.out
          have e1 : (((q : Nat) : Int) - (out : Int) != ((q : Nat) : Int) - (out : Int)) = false := by simp
          have e2 : ¬ ((rm : Int) < ((q : Nat) : Int) - (out : Int)) := by omega
          clear hl5
          refine Calls.mono CL.out ?_
          rintro e w' ⟨rfl, rfl⟩
          go_wp2_with fail
          refine Calls.mono CL.out ?_
          rintro e w' ⟨rfl, rfl⟩
          go_wp2_with fail
          refine Calls.mono CM.out ?_
          rintro e w' ⟨rfl, rfl⟩
          go_wp2_with fail
          go_roundw
          case rel => exact ⟨k + 1, q, out, _, _, _, I, by omega, by go_num, by go_num, rfl, H5.out⟩
          case measure => simp [intOf]; omega
        · have hlr : q - out < rm := by omega
          have CA := Lib.hid (rv_push HI.out.rv z (by rw [hdl]; exact hlr))
          clear hdl hll hfull
          go_wp2_with fail
          refine Calls.mono CA.out ?_
          rintro e w2 ⟨v2, rfl, hv2, hk2, hs2⟩
          have HV2 := Lib.hid hv2
          have HK2 := Lib.hid hk2
          have HROW := Lib.hid (own_keep HI.out.row hk2.1 (fun g e s => by rcases s with s | s; exact (HI.out.apart g e).1 s; exact (HI.out.apart g e).2 s))
          have hlo2 : w.heap.size ≤ w2.heap.size := hv2.up.size
          clear hv2 hk2 hc
          go_wp2_with (at_builtin; refine wpList_app3 ei_int rfl (.tmp 56) (.tmp 59) rfl (.slice Au q cu) _ rfl (HROW.out.alloc _) rfl (RD.one rfl) (by simp [Value.oneCell']) (by omega) (by simp; omega) ?_; intro v4 w4 hown4 hg4 hn4; obtain ⟨q1, hq1⟩ : ∃ q1, q1 = q + 1 := ⟨_, rfl⟩; rw [← hq1] at hown4; obtain ⟨A4, c4, rfl, _, _, _⟩ := own_slice hown4; have H4 := Lib.hid (HI.out.app HV2.out HK2.out hown4 hg4 hn4 hq1); have hqa : q1 ≤ 200 := (by omega); have hqb : out < q1 := (by omega); clear hown4 hg4 hn4 hq1)
          have H5 := Lib.hid H4.out
          have CL := Lib.hid (k_len (m := ((q1 : Nat) : Int) - (out : Int)) H5.out.rv (by have h1 := H5.out.len; have h2 := H5.out.out; rw [List.length_drop, h1]; omega))
          have CM := Lib.hid (rv_room H5.out.rv)
          have hle5 := H5.out.rv.le.1
          have hl5 := H5.out.len
          rw [List.length_drop, hl5] at hle5
          have hout5 := H5.out.out
          have e1 : (((q1 : Nat) : Int) - (out : Int) != ((q1 : Nat) : Int) - (out : Int)) = false := by simp
          have e2 : ¬ ((rm : Int) < ((q1 : Nat) : Int) - (out : Int)) := by omega
          clear hl5
          refine Calls.mono CL.out ?_
          rintro e w' ⟨rfl, rfl⟩
          go_wp2_with fail
          refine Calls.mono CL.out ?_
          rintro e w' ⟨rfl, rfl⟩
          go_wp2_with fail
          refine Calls.mono CM.out ?_
          rintro e w' ⟨rfl, rfl⟩
          go_wp2_with fail
          go_roundw
          case rel => exact ⟨k + 1, q1, out, _, _, _, (I ++ [z]), by omega, by go_num, by go_num, rfl, H5.out⟩
          case measure => simp [intOf]; omega
      · have t0 : (k : Int) < (m : Int) := by omega
        have HP := Lib.hid hp
        clear hp
        cases p
        · skip
          by_cases hfull : q - out = rm
          · have CA := Lib.hid (rv_full HI.out.rv z (by rw [hdl]; exact hfull))
            have hq0 : out < q := by omega
            clear hdl hll
            go_wp2_with fail
            refine Calls.mono CA.out ?_
            rintro e w4 ⟨v4, rfl, hv4, hk4, _⟩
            have H4 : Hid (IR w w4 rm (k + 1) q out v4 (.slice Au q cu) I) := Lib.hid (HI.out.post hv4 hk4 rfl (by omega) hout)
            clear hv4 hk4 hc
            have hp4 := HP.out _ H4.out.rv.up
            go_wp2_with fail
            have H5 := Lib.hid H4.out
            clear hp4
            have CL := Lib.hid (k_len (m := ((q : Nat) : Int) - (out : Int)) H5.out.rv (by have h1 := H5.out.len; have h2 := H5.out.out; rw [List.length_drop, h1]; omega))
            have CM := Lib.hid (rv_room H5.out.rv)
            have hle5 := H5.out.rv.le.1
            have hl5 := H5.out.len
            rw [List.length_drop, hl5] at hle5
            have hout5 := H5.out.out
            have e1 : (((q : Nat) : Int) - (out : Int) != ((q : Nat) : Int) - (out : Int)) = false := by simp
            have e2 : ¬ ((rm : Int) < ((q : Nat) : Int) - (out : Int)) := by omega
            clear hl5
            refine Calls.mono CL.out ?_
            rintro e w' ⟨rfl, rfl⟩
            go_wp2_with fail
            refine Calls.mono CL.out ?_
            rintro e w' ⟨rfl, rfl⟩
            go_wp2_with fail
            refine Calls.mono CM.out ?_
            rintro e w' ⟨rfl, rfl⟩
            go_wp2_with fail
            go_roundw
            case rel => exact ⟨k + 1, q, out, _, _, _, I, by omega, by go_num, by go_num, rfl, H5.out⟩
            case measure => simp [intOf]; omega
          · have hlr : q - out < rm := by omega
            have CA := Lib.hid (rv_push HI.out.rv z (by rw [hdl]; exact hlr))
            clear hdl hll hfull
            go_wp2_with fail
            refine Calls.mono CA.out ?_
            rintro e w2 ⟨v2, rfl, hv2, hk2, hs2⟩
            have HV2 := Lib.hid hv2
            have HK2 := Lib.hid hk2
            have HROW := Lib.hid (own_keep HI.out.row hk2.1 (fun g e s => by rcases s with s | s; exact (HI.out.apart g e).1 s; exact (HI.out.apart g e).2 s))
            have hlo2 : w.heap.size ≤ w2.heap.size := hv2.up.size
            clear hv2 hk2 hc
            go_wp2_with (at_builtin; refine wpList_app3 ei_int rfl (.tmp 56) (.tmp 59) rfl (.slice Au q cu) _ rfl (HROW.out.alloc _) rfl (RD.one rfl) (by simp [Value.oneCell']) (by omega) (by simp; omega) ?_; intro v4 w4 hown4 hg4 hn4; obtain ⟨q1, hq1⟩ : ∃ q1, q1 = q + 1 := ⟨_, rfl⟩; rw [← hq1] at hown4; obtain ⟨A4, c4, rfl, _, _, _⟩ := own_slice hown4; have H4 := Lib.hid (HI.out.app HV2.out HK2.out hown4 hg4 hn4 hq1); have hqa : q1 ≤ 200 := (by omega); have hqb : out < q1 := (by omega); clear hown4 hg4 hn4 hq1; have hp4 := HP.out _ H4.out.rv.up)
            have H5 := Lib.hid H4.out
            clear hp4
            have CL := Lib.hid (k_len (m := ((q1 : Nat) : Int) - (out : Int)) H5.out.rv (by have h1 := H5.out.len; have h2 := H5.out.out; rw [List.length_drop, h1]; omega))
            have CM := Lib.hid (rv_room H5.out.rv)
            have hle5 := H5.out.rv.le.1
            have hl5 := H5.out.len
            rw [List.length_drop, hl5] at hle5
            have hout5 := H5.out.out
            have e1 : (((q1 : Nat) : Int) - (out : Int) != ((q1 : Nat) : Int) - (out : Int)) = false := by simp
            have e2 : ¬ ((rm : Int) < ((q1 : Nat) : Int) - (out : Int)) := by omega
            clear hl5
            refine Calls.mono CL.out ?_
            rintro e w' ⟨rfl, rfl⟩
            go_wp2_with fail
            refine Calls.mono CL.out ?_
            rintro e w' ⟨rfl, rfl⟩
            go_wp2_with fail
            refine Calls.mono CM.out ?_
            rintro e w' ⟨rfl, rfl⟩
            go_wp2_with fail
            go_roundw
            case rel => exact ⟨k + 1, q1, out, _, _, _, (I ++ [z]), by omega, by go_num, by go_num, rfl, H5.out⟩
            case measure => simp [intOf]; omega
        · skip
          by_cases hfull : q - out = rm
          · have CA := Lib.hid (rv_full HI.out.rv z (by rw [hdl]; exact hfull))
            have hq0 : out < q := by omega
            clear hdl hll
            go_wp2_with fail
            refine Calls.mono CA.out ?_
            rintro e w4 ⟨v4, rfl, hv4, hk4, _⟩
            have H4 : Hid (IR w w4 rm (k + 1) q out v4 (.slice Au q cu) I) := Lib.hid (HI.out.post hv4 hk4 rfl (by omega) hout)
            clear hv4 hk4 hc
            have hp4 := HP.out _ H4.out.rv.up
            go_wp2_with fail
            have hqo : out < q := by omega
            have hl4 := H4.out.len
            obtain ⟨x, hx⟩ : ∃ x, I[out]? = some x := ⟨_, List.getElem?_eq_getElem (by rw [hl4]; exact hqo)⟩
            have hxd : I.drop out = x :: I.drop (out + 1) := by
              rw [List.drop_eq_getElem_cons (by rw [hl4]; exact hqo)]
              congr 1
              have := List.getElem?_eq_getElem (show out < I.length by rw [hl4]; exact hqo)
              rw [hx] at this
              exact (Option.some.inj this).symm
            have hv4 := H4.out.rv
            rw [hxd] at hv4
            have CP := Lib.hid (rv_pop hv4)
            have HX := Lib.hid hx
            clear hv4 hxd hl4 hx hp4
            refine Calls.mono CP.out ?_
            rintro e w5 ⟨v5, rfl, hv5, hk5, _⟩
            have H5 := Lib.hid (H4.out.post (out2 := out + 1) (k2 := k + 1) hv5 hk5 rfl H4.out.le (by omega))
            obtain ⟨g, cx, ex, _, _, _, _⟩ := own_form H5.out.row (by omega)
            have eA : Au = some ⟨g, 0, none⟩ := by injection ex
            subst eA
            have hxc : w5.cell? ⟨g, out, none⟩ = some (.int .i64 x) := by
              rw [H5.out.row.cellAt out (by omega), List.getElem?_map, HX.out]
              rfl
            have hxx : (x != x) = false := by simp
            have e0 : ¬ ((q : Int) ≤ (out : Int)) := by omega
            have hq200 : q ≤ 200 := by have := H4.out.le; omega
            clear hv5 hk5 ex
            go_wp2_with fail
            clear hxc e0
            have CL := Lib.hid (k_len (m := ((q : Nat) : Int) - ((out : Int) + 1)) H5.out.rv (by have h1 := H5.out.len; have h2 := H5.out.out; rw [List.length_drop, h1]; omega))
            have CM := Lib.hid (rv_room H5.out.rv)
            have hle5 := H5.out.rv.le.1
            have hl5 := H5.out.len
            rw [List.length_drop, hl5] at hle5
            have hout5 := H5.out.out
            have e1 : (((q : Nat) : Int) - ((out : Int) + 1) != ((q : Nat) : Int) - ((out : Int) + 1)) = false := by simp
            have e2 : ¬ ((rm : Int) < ((q : Nat) : Int) - ((out : Int) + 1)) := by omega
            clear hl5
            refine Calls.mono CL.out ?_
            rintro e w' ⟨rfl, rfl⟩
            go_wp2_with fail
            refine Calls.mono CL.out ?_
            rintro e w' ⟨rfl, rfl⟩
            go_wp2_with fail
            refine Calls.mono CM.out ?_
            rintro e w' ⟨rfl, rfl⟩
            go_wp2_with fail
            go_roundw
            case rel => exact ⟨k + 1, q, out + 1, _, _, _, I, by omega, by go_num, by go_num, rfl, H5.out⟩
            case measure => simp [intOf]; omega
          · have hlr : q - out < rm := by omega
            have CA := Lib.hid (rv_push HI.out.rv z (by rw [hdl]; exact hlr))
            clear hdl hll hfull
            go_wp2_with fail
            refine Calls.mono CA.out ?_
            rintro e w2 ⟨v2, rfl, hv2, hk2, hs2⟩
            have HV2 := Lib.hid hv2
            have HK2 := Lib.hid hk2
            have HROW := Lib.hid (own_keep HI.out.row hk2.1 (fun g e s => by rcases s with s | s; exact (HI.out.apart g e).1 s; exact (HI.out.apart g e).2 s))
            have hlo2 : w.heap.size ≤ w2.heap.size := hv2.up.size
            clear hv2 hk2 hc
            go_wp2_with (at_builtin; refine wpList_app3 ei_int rfl (.tmp 56) (.tmp 59) rfl (.slice Au q cu) _ rfl (HROW.out.alloc _) rfl (RD.one rfl) (by simp [Value.oneCell']) (by omega) (by simp; omega) ?_; intro v4 w4 hown4 hg4 hn4; obtain ⟨q1, hq1⟩ : ∃ q1, q1 = q + 1 := ⟨_, rfl⟩; rw [← hq1] at hown4; obtain ⟨A4, c4, rfl, _, _, _⟩ := own_slice hown4; have H4 := Lib.hid (HI.out.app HV2.out HK2.out hown4 hg4 hn4 hq1); have hqa : q1 ≤ 200 := (by omega); have hqb : out < q1 := (by omega); clear hown4 hg4 hn4 hq1; have hp4 := HP.out _ H4.out.rv.up)
            have hqo : out < q1 := by omega
            have hl4 := H4.out.len
            obtain ⟨x, hx⟩ : ∃ x, (I ++ [z])[out]? = some x := ⟨_, List.getElem?_eq_getElem (by rw [hl4]; exact hqo)⟩
            have hxd : (I ++ [z]).drop out = x :: (I ++ [z]).drop (out + 1) := by
              rw [List.drop_eq_getElem_cons (by rw [hl4]; exact hqo)]
              congr 1
              have := List.getElem?_eq_getElem (show out < (I ++ [z]).length by rw [hl4]; exact hqo)
              rw [hx] at this
              exact (Option.some.inj this).symm
            have hv4 := H4.out.rv
            rw [hxd] at hv4
            have CP := Lib.hid (rv_pop hv4)
            have HX := Lib.hid hx
            clear hv4 hxd hl4 hx hp4
            refine Calls.mono CP.out ?_
            rintro e w5 ⟨v5, rfl, hv5, hk5, _⟩
            have H5 := Lib.hid (H4.out.post (out2 := out + 1) (k2 := k + 1) hv5 hk5 rfl H4.out.le (by omega))
            obtain ⟨g, cx, ex, _, _, _, _⟩ := own_form H5.out.row (by omega)
            have eA : A4 = some ⟨g, 0, none⟩ := by injection ex
            subst eA
            have hxc : w5.cell? ⟨g, out, none⟩ = some (.int .i64 x) := by
              rw [H5.out.row.cellAt out (by omega), List.getElem?_map, HX.out]
              rfl
            have hxx : (x != x) = false := by simp
            have e0 : ¬ ((q1 : Int) ≤ (out : Int)) := by omega
            have hq200 : q1 ≤ 200 := by have := H4.out.le; omega
            clear hv5 hk5 ex
            go_wp2_with fail
            clear hxc e0
            have CL := Lib.hid (k_len (m := ((q1 : Nat) : Int) - ((out : Int) + 1)) H5.out.rv (by have h1 := H5.out.len; have h2 := H5.out.out; rw [List.length_drop, h1]; omega))
            have CM := Lib.hid (rv_room H5.out.rv)
            have hle5 := H5.out.rv.le.1
            have hl5 := H5.out.len
            rw [List.length_drop, hl5] at hle5
            have hout5 := H5.out.out
            have e1 : (((q1 : Nat) : Int) - ((out : Int) + 1) != ((q1 : Nat) : Int) - ((out : Int) + 1)) = false := by simp
            have e2 : ¬ ((rm : Int) < ((q1 : Nat) : Int) - ((out : Int) + 1)) := by omega
            clear hl5
            refine Calls.mono CL.out ?_
            rintro e w' ⟨rfl, rfl⟩
            go_wp2_with fail
            refine Calls.mono CL.out ?_
            rintro e w' ⟨rfl, rfl⟩
            go_wp2_with fail
            refine Calls.mono CM.out ?_
            rintro e w' ⟨rfl, rfl⟩
            go_wp2_with fail
            go_roundw
            case rel => exact ⟨k + 1, q1, out + 1, _, _, _, (I ++ [z]), by omega, by go_num, by go_num, rfl, H5.out⟩
            case measure => simp [intOf]; omega
    · have hkn : k = n := by omega
      subst hkn
      have C9 := Lib.hid (c_alive wr)
      have HU9 := Lib.hid HI.out.rv.up
      clear hlt hk
      go_wp2_with fail
      refine Calls.mono C9.out ?_
      rintro e w9 ⟨rfl, hb9⟩
      have HU10 := Lib.hid (up_trans HU9.out hb9)
      clear hb9
      go_wp2_with fail
      go_ret
      exact ⟨rfl, HU10.out⟩
end Go.Proofs.Ytaokojjjihinhaa

/- The walk of the law QueueOrder. -/
import Derived.Test.YthakcjabeekihaaRd
namespace Go.Proofs.Ythakcjabeekihaa
open Go.RowKit

set_option maxRecDepth 100000 in
set_option maxHeartbeats 4000000 in
theorem l_order_run (A : Option Addr) (n cp : Nat) (L : List Pr) (w : World) (hR : RD w (fun _ => True) 2 A n (L.flatMap prV)) (hn : L.length = n) (hL : ∀ p ∈ L, PrOk p) (h60 : n ≤ 60) :
    Calls Try.prog 4 #[.slice A n cp] w fun e w' => e = .returned (.bool true) ∧ Below w.heap.size w w' := by
  have HL := Lib.hid hL
  have HN := Lib.hid hn
  clear hL hn
  go_enter Try.func4, Try.ntmps4
  go_wp2_with fail
  refine (z_new 4 60 4 60 rfl rfl (by omega) (by omega) (by omega) w).mono ?_
  rintro e w1 ⟨b, rfl, H1, hS, hb1⟩
  have hrel0 : OrdRel w b (fun j => ofQ j (L.take 0)) w1 := ⟨60, H1, rfl, hb1⟩
  have HREL := Lib.hid hrel0
  have h0 : sumlen (qsOf fun j => ofQ j (L.take 0)) = 0 := rfl
  have H0 := Lib.hid h0
  clear hrel0 H1 h0 hb1
  go_wp2_with fail
  go_loopw [6, 36] (fun _ i wr => ∃ k : Nat, k ≤ n ∧ i = .int .i64 k ∧ OrdRel w b (fun j => ofQ j (L.take k)) wr ∧ sumlen (qsOf fun j => ofQ j (L.take k)) = k) (fun _ i _ => n - (intOf i).toNat)
  case atStart => exact ⟨0, Nat.zero_le _, rfl, HREL.out, H0.out⟩
  case round =>
    clear HREL H0
    obtain ⟨k, hk, rfl, hO, hs⟩ := hrel
    have hbw := hO.up
    by_cases hlt : k < n
    · obtain ⟨bL, oL, p, rfl, hbL, hp, a0, a1⟩ := (hR.below hbw).pr HN.out k hlt
      obtain ⟨d0, d1, d2, d3⟩ := HL.out _ (List.mem_of_getElem? hp)
      have ups := up_alloc wr (.cells #[.int .u8 p.1, .int .u8 p.2] 47)
      have hbs := box2c wr (.int .u8 p.1) (.int .u8 p.2) 47
      have cP := fun W (hW : OrdRel w b (fun j => ofQ j (L.take k)) W) => ord_push hW hS p (by omega)
      rw [← take_next L k p hp] at cP
      generalize hws : wr.alloc (.cells #[.int .u8 p.1, .int .u8 p.2] 47) = ws at ups hbs
      have HWS := Lib.hid hws
      have CP := Lib.hid (cP ws (hO.below ups))
      have HSU := Lib.hid hs
      obtain ⟨pa, pv⟩ := p
      simp only at a0 a1 d0 d1 d2 d3 CP
      clear hws cP hO hs hp hbs
      go_wp2_with fail
      rw [HWS.out]
      refine Calls.mono CP.out ?_
      rintro e w3 ⟨rfl, hO3, hs3⟩
      rw [HSU.out] at hs3
      go_wp2_with fail
      go_roundw
      case rel => exact ⟨k + 1, by omega, by go_num, hO3, hs3⟩
      case measure => simp [intOf]; omega
    · obtain rfl : k = n := by omega
      rw [List.take_of_length_le (by rw [HN.out]; exact Nat.le_refl _)] at hO
      rw [← atQ_start L] at hO
      have HO := Lib.hid hO
      clear hO hs hlt hk hbw
      go_wp2_with fail
      go_loopw [7, 9, 10, 11, 12, 13, 51] (fun _ _ _ _ _ _ i wr => ∃ q : Nat, q ≤ 4 ∧ i = .int .i64 q ∧ OrdRel w b (atQ L q 0) wr) (fun _ _ _ _ _ _ i _ => 4 - (intOf i).toNat)
      case atStart => exact ⟨0, by omega, rfl, HO.out⟩
      case round =>
        clear HO
        obtain ⟨q, hq, rfl, hO⟩ := hrel
        by_cases hlt : q < 4
        · have HO := Lib.hid hO
          have hq4 : decide ((q : Int) < 4) = true := decide_eq_true (by omega)
          clear hO
          go_wp2_with fail
          go_loopw [9, 10, 11, 56] (fun _ _ _ i wr => ∃ j : Nat, j ≤ L.length ∧ i = .int .i64 j ∧ OrdRel w b (atQ L q j) wr) (fun _ _ _ i _ => L.length - (intOf i).toNat)
          case atStart => exact ⟨0, by omega, rfl, HO.out⟩
          case round =>
            clear HO
            obtain ⟨j, hj, rfl, hO⟩ := hrel
            have hln := HN.out
            have hbw := hO.up
            have hbl := hO.lt
            by_cases hjl : j < L.length
            · obtain ⟨bL, oL, p, rfl, hbL, hp, a0, a1⟩ := (hR.below hbw).pr HN.out j (by omega)
              obtain ⟨d0, d1, d2, d3⟩ := HL.out _ (List.mem_of_getElem? hp)
              have ups := up_alloc wr (.cells #[.int .u8 p.1, .int .u8 p.2] 47)
              have hbs := box2c wr (.int .u8 p.1) (.int .u8 p.2) 47
              have hcons : ofQ q (L.drop j) = if p.1 % 4 = (q : Int) then p.2 :: ofQ q (L.drop (j + 1)) else ofQ q (L.drop (j + 1)) := by
                have hd := drop_at L j hjl
                have hp' : L[j] = p := by
                  have := List.getElem?_eq_getElem hjl
                  rw [this] at hp
                  exact Option.some.inj hp
                rw [hd, hp', ofQ_cons]
              generalize hws : wr.alloc (.cells #[.int .u8 p.1, .int .u8 p.2] 47) = ws at ups hbs
              have HWS := Lib.hid hws
              have hOs := hO.below ups
              by_cases hkq : p.1 % 4 = (q : Int)
              · rw [if_pos hkq] at hcons
                have CP := Lib.hid (ord_pop hOs hS q hlt p.2 _ ((atQ_self L q j).trans hcons) (atQ L q (j + 1)) (atQ_self L q (j + 1)) (fun i hi => atQ_ne L q _ _ i hi))
                obtain ⟨pa, pv⟩ := p
                simp only at a0 a1 d0 d1 d2 d3 CP hkq
                have ht : (pa % 4 != (q : Int)) = false := by simp [hkq]
                have hv : (pv != pv) = false := by simp
                have e1 := hbs.cell 1 _ rfl
                have hz := hbs.lt
                simp only at e1
                have HBS := Lib.hid hbs
                clear hws hO hOs hp hbs hcons hkq e1
                go_wp2_with fail
                rw [HWS.out]
                refine Calls.mono CP.out ?_
                rintro e w3 ⟨rfl, hO3, ho3⟩
                have e1 := (HBS.out.only ho3 (by omega)).cell 1 _ rfl
                go_wp2_with fail
                go_roundw
                case rel => exact ⟨j + 1, by omega, by go_num, hO3⟩
                case measure => simp [intOf]; omega
              · rw [if_neg hkq] at hcons
                have hg : atQ L q j = atQ L q (j + 1) := by
                  funext i
                  by_cases hi : i = q
                  · subst hi
                    rw [atQ_self, atQ_self, hcons]
                  · exact atQ_ne L q _ _ i hi
                rw [hg] at hOs
                obtain ⟨pa, pv⟩ := p
                simp only at a0 a1 d0 d1 d2 d3 hkq
                have ht : (pa % 4 != (q : Int)) = true := by simp [hkq]
                have HOS := Lib.hid hOs
                clear hws hO hOs hp hbs hcons hkq hg
                go_wp2_with fail
                rw [HWS.out]
                go_roundw
                case rel => exact ⟨j + 1, by omega, by go_num, HOS.out⟩
                case measure => simp [intOf]; omega
            · obtain rfl : j = L.length := by omega
              rw [atQ_end L q] at hO
              have CE := Lib.hid (ord_empty hO q hlt (by simp [atQ]))
              clear hO
              go_wp2_with fail
              refine Calls.mono CE.out ?_
              rintro e w3 ⟨rfl, hO3⟩
              go_wp2_with fail
              go_roundw
              case rel => exact ⟨q + 1, by omega, by go_num, hO3⟩
              case measure => simp [intOf]; omega
        · obtain rfl : q = 4 := by omega
          have CF := Lib.hid (ord_free hO)
          have hbw := hO.up
          clear hO
          go_wp2_with fail
          refine Calls.mono CF.out ?_
          rintro e w' ⟨rfl, rfl⟩
          go_wp2_with fail
          refine (c_alive _).mono ?_
          rintro e w7 ⟨rfl, hb7⟩
          go_wp2_with fail
          go_ret
          exact ⟨rfl, up_trans hbw hb7⟩

set_option maxHeartbeats 1000000 in
theorem l_order (A : Option Addr) (n cp : Nat) (L : List Pr) (w : World) (hR : RD w (fun _ => True) 2 A n (L.flatMap prV)) (hn : L.length = n) (hL : ∀ p ∈ L, PrOk p) :
    Calls Try.prog 4 #[.slice A n cp] w fun e w' => e = .returned (.bool true) ∧ Below w.heap.size w w' := by
  by_cases hb : 60 < n
  · clear hR hn hL
    go_enter Try.func4, Try.ntmps4
    go_wp2_with fail
    refine (z_new 4 60 4 60 rfl rfl (by omega) (by omega) (by omega) w).mono ?_
    rintro e w1 ⟨b, rfl, _, _, hb1⟩
    go_wp2_with fail
    refine (c_alive _).mono ?_
    rintro e w2 ⟨rfl, hb2⟩
    go_wp2_with fail
    go_ret
    exact ⟨rfl, up_trans hb1 hb2⟩
  · exact l_order_run A n cp L w hR hn hL (by omega)
end Go.Proofs.Ythakcjabeekihaa

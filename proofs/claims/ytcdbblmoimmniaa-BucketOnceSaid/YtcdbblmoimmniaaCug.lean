/- Steps that do the same to a table and to the document's: the law BucketPlays. -/
import Derived.Test.YtcdbblmoimmniaaCuf
namespace Go.Proofs.Ytcdbblmoimmniaa
open Go.RowKit

abbrev Step := Bool × Int × Int
def stepV (s : Step) : List Value := [.bool s.1, .int .i64 s.2.1, .int .i64 s.2.2]
theorem stepV_len (s : Step) : (stepV s).length = 3 := rfl
theorem RD.step {w : World} {pl : Nat → Prop} {A : Option Addr} {n : Nat} {L : List Step} (h : RD w pl 3 A n (L.flatMap stepV)) (hn : L.length = n) (k : Nat) (hk : k < n) :
    ∃ b o s, A = some ⟨b, o, none⟩ ∧ b < w.heap.size ∧ L[k]? = some s ∧ w.cell? ⟨b, o + k * 3, none⟩ = some (.bool s.1) ∧ w.cell? ⟨b, o + k * 3 + 1, none⟩ = some (.int .i64 s.2.1) ∧ w.cell? ⟨b, o + k * 3 + 2, none⟩ = some (.int .i64 s.2.2) := by
  obtain ⟨b, o, e, _, h2, h3⟩ := h.at_ (by omega)
  have hg : L[k]? = some (L[k]'(by omega)) := List.getElem?_eq_getElem (by omega)
  refine ⟨b, o, _, e, h2, hg, ?_, ?_, ?_⟩
  · exact h3 (k * 3) _ (by rw [show k * 3 = k * 3 + 0 from rfl, flat_get stepV 3 stepV_len L k 0 _ hg (by omega)]; rfl)
  · have := h3 (k * 3 + 1) _ (by rw [flat_get stepV 3 stepV_len L k 1 _ hg (by omega)]; rfl)
    rwa [← Nat.add_assoc] at this
  · have := h3 (k * 3 + 2) _ (by rw [flat_get stepV 3 stepV_len L k 2 _ hg (by omega)]; rfl)
    rwa [← Nat.add_assoc] at this
theorem li_few {L : List (List Int)} (h : BG L) (k : Int) : (liL L k).length ≤ 16 := by
  by_cases hk : k < 0 ∨ (L.length : Int) ≤ k
  · rw [li_no hk]; simp
  · obtain ⟨j, rfl⟩ : ∃ j : Nat, k = j := ⟨k.toNat, by omega⟩
    have hl : L[j]? = some (L[j]'(by omega)) := List.getElem?_eq_getElem (by omega)
    rw [li_at hl]
    exact h.lens hl
theorem bx_S {w W : World} {b : Nat} {t : TypeId} {x u v : Value} (h : Blk w b [x, u, v] t) (hb : Below w.heap.size w W) : Below w.heap.size w W ∧ W.cell? ⟨b, 1, none⟩ = some u := ⟨hb, (h.up hb h.lt).cell 1 _ rfl⟩
theorem bx_next {w W W' : World} {b : Nat} {t : TypeId} {x u v : Value} (h : Blk w b [x, u, v] t) (k : Below W.heap.size W W') (hb : Below w.heap.size w W ∧ W.cell? ⟨b, 1, none⟩ = some u) : Below w.heap.size w W' ∧ W'.cell? ⟨b, 1, none⟩ = some u := bx_S h (up_trans hb.1 k)

/-- What holds while the law plays. -/
def PlayRel (w : World) (t s b m : Nat) (x : Value) (wr : World) : Prop :=
  ∃ D A c, x = .slice A D.length c ∧ TB wr t s b (numsD D) ∧ RL wr (fun k => k ≠ b) D A c ∧ D.length = m ∧ Below w.heap.size w wr

set_option maxRecDepth 100000 in
set_option maxHeartbeats 4000000 in
theorem l_plays_run (m : Nat) (h4 : m ≤ 4) (A : Option Addr) (n cp : Nat) (L : List Step) (w : World) (hR : RD w (fun _ => True) 3 A n (L.flatMap stepV)) (hn : L.length = n) (h80 : n ≤ 80) :
    Calls Try.prog 3 #[.int .i64 (m : Int), .slice A n cp] w fun e w' => e = .returned (.bool true) ∧ Below w.heap.size w w' := by
  have HN := Lib.hid hn
  have HR := Lib.hid hR
  clear hn hR
  go_enter Try.func3, Try.ntmps3
  go_wp2_with fail
  refine (c_bnew m h4 w).mono ?_
  rintro e w1 ⟨t, s, b, rfl, T1, hb, hs, ht, up1⟩
  have hz1 := T1.lt
  go_wp2_with fail
  refine (c_dnew m h4 (fun k => k ≠ b) w1 (fun k hk => by omega)).mono ?_
  rintro e w2 ⟨D2, A2, c2, rfl, hD2, R2, up2⟩
  have hl2 : D2.length = m := by rw [← nums_len, hD2]; simp
  have HREL := Lib.hid (show PlayRel w t s b m (.slice A2 D2.length c2) w2 from ⟨D2, A2, c2, rfl, by rw [hD2]; exact T1.below up2, R2, hl2, up_trans up1 up2⟩)
  clear T1 R2 hD2 hz1 hl2
  go_wp2_with fail
  go_loopw [7, 56] (fun x i wr => ∃ k : Nat, k ≤ n ∧ i = .int .i64 k ∧ PlayRel w t s b m x wr) (fun _ i _ => n - (intOf i).toNat)
  case atStart => exact ⟨0, Nat.zero_le _, rfl, HREL.out⟩
  case round =>
    clear HREL
    obtain ⟨k, hk, rfl, D, A', c, rfl, T, R, hm, upr⟩ := hrel
    have HM := Lib.hid hm
    clear hm
    by_cases hlt : k < n
    · obtain ⟨bL, oL, ⟨ff, kk, pp⟩, rfl, hbL, _, a0, a1, a2⟩ := (HR.out.below upr).step HN.out k hlt
      simp only at a0 a1 a2
      have ups := up_alloc wr (.cells #[.bool ff, .int .i64 kk, .int .i64 pp] 32)
      have hbs : Blk (wr.alloc (.cells #[.bool ff, .int .i64 kk, .int .i64 pp] 32)) wr.heap.size [.bool ff, .int .i64 kk, .int .i64 pp] 32 := Blk.new wr [.bool ff, .int .i64 kk, .int .i64 pp] _
      generalize hws : wr.alloc (.cells #[.bool ff, .int .i64 kk, .int .i64 pp] 32) = ws at ups hbs
      have HWS := Lib.hid hws
      have Ts := T.below ups
      have Rs := R.below ups
      have upws := up_trans upr ups
      have hzs := hbs.lt
      have hzb : b < wr.heap.size := T.lt
      clear hws T R upr
      have e0 := hbs.cell 0 _ rfl
      have e1 := hbs.cell 1 _ rfl
      have e2 := hbs.cell 2 _ rfl
      cases ff
      · go_wp2_with fail
        rw [HWS.out]
        refine (c_bfall Ts kk pp).mono ?_
        rintro e w3 ⟨rfl, T3, ho3⟩
        have R3 := Rs.only ho3 (fun _ e hp => hp e)
        have hbs3 := hbs.only ho3 (by omega)
        have up3 := upws.trans (ho3.toBelow upws.size (fun i e => e ▸ hb))
        clear e0 e1 e2
        have e1 := hbs3.cell 1 _ rfl
        have e2 := hbs3.cell 2 _ rfl
        have hz3 := ho3.size
        go_wp2_with fail
        refine (c_dfall R3 (fun k hk => by omega) Ts.gd kk pp).mono ?_
        rintro e w6 ⟨D', A', c', rfl, hD', R6, hb6⟩
        have T6 := T3.below hb6
        rw [← hD'] at T6
        have hBG := T6.gd
        have hbs6 := hbs3.up hb6 hbs3.lt
        have hm' : D'.length = m := by rw [← nums_len, hD', flL_len, nums_len, HM.out]
        have HM' := Lib.hid hm'
        have HM7 := Lib.hid (show ((numsD D').length : Int) = m by rw [nums_len, hm'])
        have HD' := Lib.hid hD'
        clear hm' hD'
        clear e1 e2
        have e1 := hbs6.cell 1 _ rfl
        have e2 := hbs6.cell 2 _ rfl
        have e0 := hbs6.cell 0 _ rfl
        generalize flE (numsD D) kk pp = er
        have hex : (er != er) = false := by simp
        obtain ⟨wk, hwk⟩ : ∃ x, whK (numsD D') pp = x := ⟨_, rfl⟩
        replace hwk := Lib.hid hwk
        obtain ⟨wb, hwb⟩ : ∃ x, whB (numsD D') pp = x := ⟨_, rfl⟩
        replace hwb := Lib.hid hwb
        go_wp2_with fail
        refine (z_where T6 pp wk wb hwk.out hwb.out).mono ?_
        rintro e w7 ⟨rfl, hb7⟩
        have up7 := up_trans up3 (up_trans hb6 hb7)
        have T7 := T6.below hb7
        have R7 := R6.below hb7
        have hbs7 := hbs6.up hb7 hbs6.lt
        clear e0 e1 e2
        have e1 := hbs7.cell 1 _ rfl
        have e2 := hbs7.cell 2 _ rfl
        have CW2 := c_dwhere R7 pp
        rw [hwk.out, hwb.out] at CW2
        go_wp2_with fail
        refine CW2.mono ?_
        rintro e w' ⟨rfl, rfl⟩
        obtain ⟨B, dB, rdB, CQ⟩ := dl_at R7 kk
        have CL := Lib.hid (fun W (hW : Below w7.heap.size w7 W) => c_blist (T7.below hW) kk)
        have CM := Lib.hid (fun W (hW : Below w7.heap.size w7 W) => same_below (z_many (T7.below hW) m HM7.out))
        have CQ := Lib.hid CQ
        have hkx : (wk != wk) = false := by simp
        have hbx : (wb != wb) = false := by simp
        have hmx : ((m : Int) != m) = false := by simp
        have hlz : (liL (numsD D') kk).length ≤ 100000 := by have := li_few hBG kk; omega
        generalize liL (numsD D') kk = zs at rdB CQ CL hlz
        go_wp2_with fail
        go_region_held3 (fun W => Below w7.heap.size w7 W ∧ W.cell? ⟨wr.heap.size, 1, none⟩ = some (.int .i64 kk))
          (first | exact bx_S hbs7 ((Below.refl _ _).drew) | exact bx_next hbs7 (by assumption) (by assumption))
          (first
            | (go_at_call 16; refine Calls.mono (CL.out _ (And.left (by assumption))) ?_; rintro e w' ⟨Ah, ch, rfl, _, _, rdh, hbh⟩)
            | (go_at_call 17; refine Calls.mono (CQ.out _ (And.left (by assumption))) ?_; rintro e w' ⟨rfl, hbr⟩)
            | (go_at_call 11; refine (c_same (rdh.below (by assumption)) (rdB.below (And.left (by assumption))) hlz).mono ?_; rintro e w' ⟨rfl, hds⟩; have hbs := hds.below; clear hds)
            | (go_at_call 18; refine Calls.mono (CM.out _ (And.left (by assumption))) ?_; rintro e w' ⟨rfl, hbl⟩))
        go_wp2
        go_roundw
        case rel =>
          have hup : Below w7.heap.size w7 _ := And.left (by assumption)
          exact ⟨k + 1, by omega, by go_num, D', A', c', rfl, T7.below hup, R7.below hup, HM'.out, up_trans up7 hup⟩
        case measure => simp [intOf]; omega
      · go_wp2_with fail
        rw [HWS.out]
        refine (c_bflush Ts kk).mono ?_
        rintro e w3 ⟨Af, cf, rfl, rdf, T3, ho3⟩
        have R3 := Rs.only ho3 (fun _ e hp => hp e)
        have hbs3 := hbs.only ho3 (by omega)
        have up3 := upws.trans (ho3.toBelow upws.size (fun i e => e ▸ hb))
        clear e0 e1 e2
        have e1 := hbs3.cell 1 _ rfl
        have e2 := hbs3.cell 2 _ rfl
        have hz3 := ho3.size
        go_wp2_with fail
        refine (c_dflush R3 (fun k hk => by omega) kk).mono ?_
        rintro e w4 ⟨D', A', c', B4, d4, rfl, hD', R4, rd4, hb4⟩
        have T4 := T3.below hb4
        rw [← hD'] at T4
        have hBG := T4.gd
        have hbs4 := hbs3.up hb4 hbs3.lt
        have hm' : D'.length = m := by rw [← nums_len, hD', fuL_len, nums_len, HM.out]
        have HM' := Lib.hid hm'
        have HM7 := Lib.hid (show ((numsD D').length : Int) = m by rw [nums_len, hm'])
        have HD' := Lib.hid hD'
        clear hm' hD'
        clear e1 e2
        have e1 := hbs4.cell 1 _ rfl
        have e2 := hbs4.cell 2 _ rfl
        have hlf := li_few Ts.gd kk
        have rdf4 := rdf.below hb4
        generalize lkE (numsD D).length kk = er
        have hex : (er != er) = false := by simp
        generalize liL (numsD D) kk = ys at rdf rdf4 rd4 hlf
        clear rdf
        go_wp2_with fail
        refine (c_same rdf4 rd4 (by omega)).mono ?_
        rintro e w6 ⟨rfl, hd6⟩
        have hb6' := hd6.below
        have T6 := T4.below hb6'
        have R6 := R4.below hb6'
        have hbs6 := hbs4.up hb6' hbs4.lt
        have hb6 := up_trans hb4 hb6'
        clear e1 e2 hd6 rdf4 rd4
        have e1 := hbs6.cell 1 _ rfl
        have e2 := hbs6.cell 2 _ rfl
        have e0 := hbs6.cell 0 _ rfl
        obtain ⟨wk, hwk⟩ : ∃ x, whK (numsD D') pp = x := ⟨_, rfl⟩
        replace hwk := Lib.hid hwk
        obtain ⟨wb, hwb⟩ : ∃ x, whB (numsD D') pp = x := ⟨_, rfl⟩
        replace hwb := Lib.hid hwb
        go_wp2_with fail
        refine (z_where T6 pp wk wb hwk.out hwb.out).mono ?_
        rintro e w7 ⟨rfl, hb7⟩
        have up7 := up_trans up3 (up_trans hb6 hb7)
        have T7 := T6.below hb7
        have R7 := R6.below hb7
        have hbs7 := hbs6.up hb7 hbs6.lt
        clear e0 e1 e2
        have e1 := hbs7.cell 1 _ rfl
        have e2 := hbs7.cell 2 _ rfl
        have CW2 := c_dwhere R7 pp
        rw [hwk.out, hwb.out] at CW2
        go_wp2_with fail
        refine CW2.mono ?_
        rintro e w' ⟨rfl, rfl⟩
        obtain ⟨B, dB, rdB, CQ⟩ := dl_at R7 kk
        have CL := Lib.hid (fun W (hW : Below w7.heap.size w7 W) => c_blist (T7.below hW) kk)
        have CM := Lib.hid (fun W (hW : Below w7.heap.size w7 W) => same_below (z_many (T7.below hW) m HM7.out))
        have CQ := Lib.hid CQ
        have hkx : (wk != wk) = false := by simp
        have hbx : (wb != wb) = false := by simp
        have hmx : ((m : Int) != m) = false := by simp
        have hlz : (liL (numsD D') kk).length ≤ 100000 := by have := li_few hBG kk; omega
        generalize liL (numsD D') kk = zs at rdB CQ CL hlz
        go_wp2_with fail
        go_region_held3 (fun W => Below w7.heap.size w7 W ∧ W.cell? ⟨wr.heap.size, 1, none⟩ = some (.int .i64 kk))
          (first | exact bx_S hbs7 ((Below.refl _ _).drew) | exact bx_next hbs7 (by assumption) (by assumption))
          (first
            | (go_at_call 16; refine Calls.mono (CL.out _ (And.left (by assumption))) ?_; rintro e w' ⟨Ah, ch, rfl, _, _, rdh, hbh⟩)
            | (go_at_call 17; refine Calls.mono (CQ.out _ (And.left (by assumption))) ?_; rintro e w' ⟨rfl, hbr⟩)
            | (go_at_call 11; refine (c_same (rdh.below (by assumption)) (rdB.below (And.left (by assumption))) hlz).mono ?_; rintro e w' ⟨rfl, hds⟩; have hbs := hds.below; clear hds)
            | (go_at_call 18; refine Calls.mono (CM.out _ (And.left (by assumption))) ?_; rintro e w' ⟨rfl, hbl⟩))
        go_wp2
        go_roundw
        case rel =>
          have hup : Below w7.heap.size w7 _ := And.left (by assumption)
          exact ⟨k + 1, by omega, by go_num, D', A', c', rfl, T7.below hup, R7.below hup, HM'.out, up_trans up7 hup⟩
        case measure => simp [intOf]; omega
    · obtain rfl : k = n := by omega
      go_wp2_with fail
      refine (c_alive _).mono ?_
      rintro e w7 ⟨rfl, hb7⟩
      go_wp2_with fail
      go_ret
      exact ⟨rfl, up_trans upr hb7⟩

set_option maxHeartbeats 1000000 in
theorem l_plays (many : Int) (A : Option Addr) (n cp : Nat) (L : List Step) (w : World) (hR : RD w (fun _ => True) 3 A n (L.flatMap stepV)) (hn : L.length = n) :
    Calls Try.prog 3 #[.int .i64 many, .slice A n cp] w fun e w' => e = .returned (.bool true) ∧ Below w.heap.size w w' := by
  by_cases hb : 80 < n
  · clear hR hn
    go_enter Try.func3, Try.ntmps3
    go_wp2_with (go_at_call 6; refine (c_alive _).mono ?_; rintro e w1 ⟨rfl, hb1⟩)
    go_ret
    exact ⟨rfl, hb1⟩
  · by_cases hok : 0 ≤ many ∧ many ≤ 4
    · obtain ⟨q0, q1⟩ := hok
      obtain ⟨m, rfl⟩ : ∃ m : Nat, many = m := ⟨many.toNat, by omega⟩
      exact l_plays_run m (by omega) A n cp L w hR hn (by omega)
    · have hno : many < 0 ∨ 4 < many := by omega
      have HNo := Lib.hid hno
      have hb' : n ≤ 80 := by omega
      clear hR hn hok hno hb
      go_enter Try.func3, Try.ntmps3
      go_wp2_with (first | (go_at_call 7; refine (c_bnew_no _ HNo.out _).mono ?_; rintro e w' ⟨rfl, rfl⟩) | (go_at_call 8; refine (c_dnew_no _ HNo.out _).mono ?_; rintro e w1 ⟨rfl, rfl⟩) | (go_at_call 6; refine (c_alive _).mono ?_; rintro e w2 ⟨rfl, hb2⟩))
      go_ret
      exact ⟨rfl, hb2⟩
end Go.Proofs.Ytcdbblmoimmniaa

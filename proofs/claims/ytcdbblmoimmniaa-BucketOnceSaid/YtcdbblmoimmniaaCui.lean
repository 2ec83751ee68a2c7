/- The law BucketOnce. -/
import Derived.Test.YtcdbblmoimmniaaCuh
import Derived.IntWalk
namespace Go.Proofs.Ytcdbblmoimmniaa
open Go.RowKit

abbrev Tr := Int × Int × Int
def trV (p : Tr) : List Value := [.int .u8 p.1, .int .u8 p.2.1, .int .u8 p.2.2]
theorem trV_len (p : Tr) : (trV p).length = 3 := rfl
def TrOk (p : Tr) : Prop := (0 ≤ p.1 ∧ p.1 ≤ 255) ∧ (0 ≤ p.2.1 ∧ p.2.1 ≤ 255) ∧ 0 ≤ p.2.2 ∧ p.2.2 ≤ 255
theorem RD.tr {w : World} {pl : Nat → Prop} {A : Option Addr} {n : Nat} {L : List Tr} (h : RD w pl 3 A n (L.flatMap trV)) (hn : L.length = n) (k : Nat) (hk : k < n) :
    ∃ b o s, A = some ⟨b, o, none⟩ ∧ b < w.heap.size ∧ L[k]? = some s ∧ w.cell? ⟨b, o + k * 3, none⟩ = some (.int .u8 s.1) ∧ w.cell? ⟨b, o + k * 3 + 1, none⟩ = some (.int .u8 s.2.1) ∧ w.cell? ⟨b, o + k * 3 + 2, none⟩ = some (.int .u8 s.2.2) := by
  obtain ⟨b, o, e, _, h2, h3⟩ := h.at_ (by omega)
  have hg : L[k]? = some (L[k]'(by omega)) := List.getElem?_eq_getElem (by omega)
  refine ⟨b, o, _, e, h2, hg, ?_, ?_, ?_⟩
  · exact h3 (k * 3) _ (by rw [show k * 3 = k * 3 + 0 from rfl, flat_get trV 3 trV_len L k 0 _ hg (by omega)]; rfl)
  · have := h3 (k * 3 + 1) _ (by rw [flat_get trV 3 trV_len L k 1 _ hg (by omega)]; rfl)
    rwa [← Nat.add_assoc] at this
  · have := h3 (k * 3 + 2) _ (by rw [flat_get trV 3 trV_len L k 2 _ hg (by omega)]; rfl)
    rwa [← Nat.add_assoc] at this

set_option maxRecDepth 100000 in
set_option maxHeartbeats 16000000 in
theorem l_once_run (A : Option Addr) (n cp : Nat) (P : List Tr) (w : World) (hR : RD w (fun _ => True) 3 A n (P.flatMap trV)) (hn : P.length = n) (hP : ∀ p ∈ P, TrOk p) (h80 : n ≤ 80) :
    Calls Try.prog 4 #[.slice A n cp] w fun e w' => e = .returned (.bool true) ∧ Below w.heap.size w w' := by
  have HN := Lib.hid hn
  have HR := Lib.hid hR
  have HP := Lib.hid hP
  clear hn hR hP
  go_enter Try.func4, Try.ntmps4
  go_wp2_with fail
  refine (z_new 4 4 rfl (by omega) w).mono ?_
  rintro e w1 ⟨t, s, b, rfl, T1, hb, hs, ht, up1⟩
  have hbA := Blk.new w1 (iC fun _ => 0) 49
  have upA := up_alloc w1 (.cells (iC fun _ => 0).toArray 49)
  have hsA : (w1.alloc (.cells (iC fun _ => 0).toArray 49)).heap.size = w1.heap.size + 1 := by simp
  have hbI := Blk.new (w1.alloc (.cells (iC fun _ => 0).toArray 49)) (iC fun _ => 0) 49
  have upI := up_alloc (w1.alloc (.cells (iC fun _ => 0).toArray 49)) (.cells (iC fun _ => 0).toArray 49)
  rw [hsA] at hbI
  have hw1 := up1.size
  have HOW : Hid (OW w ((w1.alloc (.cells (iC fun _ => 0).toArray 49)).alloc (.cells (iC fun _ => 0).toArray 49)) t s b w1.heap.size [[], [], [], []] (fun _ => 0) (fun _ => 0)) := Lib.hid ⟨T1.below (up_trans upA upI), hbA.up upI hbA.lt, hbI, up_trans up1 (up_trans upA upI)⟩
  obtain ⟨z, hz⟩ : ∃ z, z = w1.heap.size := ⟨_, rfl⟩
  rw [← hz] at HOW hw1
  have HOI := Lib.hid (OI.new 4)
  generalize hw2 : (w1.alloc (.cells (iC fun _ => 0).toArray 49)).alloc (.cells (iC fun _ => 0).toArray 49) = w2 at HOW
  rw [iC_zero] at hw2
  have HW := Lib.hid hw2
  have HZ := Lib.hid hz
  clear hbA upA hsA hbI upI T1 up1 hw2 hz
  go_wp2_with fail
  rw [HW.out, ← HZ.out]
  go_loopw [40] (fun i wr => ∃ (k : Nat) (L : List (List Int)) (f g : Nat → Int), k ≤ n ∧ i = .int .i64 k ∧ OW w wr t s b z L f g ∧ OI k L f g ∧ L.length = 4) (fun i _ => n - (intOf i).toNat)
  case atStart => exact ⟨0, _, _, _, Nat.zero_le _, rfl, HOW.out, HOI.out, rfl⟩
  case round =>
    clear HOW HOI
    obtain ⟨k, L, f, g, hk, rfl, hO, hI, hL4⟩ := hrel
    have HO := Lib.hid hO
    have HI := Lib.hid hI
    have HL4 := Lib.hid hL4
    clear hO hI hL4
    by_cases hlt : k < n
    · obtain ⟨bL, oL, ⟨d0, d1, d2⟩, rfl, hbL, hp, a0, a1, a2⟩ := (HR.out.below HO.out.up).tr HN.out k hlt
      obtain ⟨⟨x0, y0⟩, ⟨x1, y1⟩, x2, y2⟩ := HP.out _ (List.mem_of_getElem? hp)
      simp only at a0 a1 a2 x0 y0 x1 y1 x2 y2
      obtain ⟨c, hc⟩ : ∃ c : Nat, d1 % 4 = c := ⟨(d1 % 4).toNat, by omega⟩
      obtain ⟨q, hq⟩ : ∃ q : Nat, d2 % 16 = q := ⟨(d2 % 16).toNat, by omega⟩
      have hc4 : (c : Int) < 4 := by omega
      have hq16 : (q : Int) < 16 := by omega
      have hc0 : (0 : Int) ≤ c := by omega
      have hq0 : (0 : Int) ≤ q := by omega
      have ups := up_alloc wr (.cells #[.int .u8 d0, .int .u8 d1, .int .u8 d2] 50)
      have hbs : Blk (wr.alloc (.cells #[.int .u8 d0, .int .u8 d1, .int .u8 d2] 50)) wr.heap.size [.int .u8 d0, .int .u8 d1, .int .u8 d2] 50 := Blk.new wr [.int .u8 d0, .int .u8 d1, .int .u8 d2] _
      have HOs := Lib.hid (HO.out.below ups)
      generalize hws : wr.alloc (.cells #[.int .u8 d0, .int .u8 d1, .int .u8 d2] 50) = ws at ups hbs HOs
      have HWS := Lib.hid hws
      have e0 := hbs.cell 0 _ rfl
      have e1 := hbs.cell 1 _ rfl
      have e2 := hbs.cell 2 _ rfl
      clear hws hp ups
      go_wp2_with fail
      rw [HWS.out]
      go_quiet (fail)
      clear a0 a1 a2 hbL
      have HOq := Lib.hid (HOs.out.below (up_drewN ws nq))
      clear hbs e1 e2
      have hcl : c < L.length := by rw [HL4.out]; omega
      have hex : ∃ l, L[c]? = some l := ⟨_, List.getElem?_eq_getElem hcl⟩
      obtain ⟨l, hl⟩ := hex
      have HL := Lib.hid hl
      have hln := HOq.out.T.gd.lens hl
      clear hl
      have hq16' : q < 16 := by omega
      cases hd : decide (0 < d0 % 3)
      · have CE := Lib.hid (z_flush HOq.out.T c 0 l (L.set c []) (lk_at hcl) (li_at HL.out) (flush_ok hcl))
        go_wp2_with fail
        refine Calls.mono CE.out ?_
        rintro e w3 ⟨Aw, cw, rfl, rdw, hp3⟩
        have HO3 := Lib.hid (HOq.out.turn hb hp3)
        have hzq := HOq.out.att.lt
        have HRD := Lib.hid rdw
        clear hp3 CE rdw
        go_wp2_with fail
        go_loopw [14, 87] (fun la i w4 => ∃ j : Nat, j ≤ l.length ∧ i = .int .i64 j ∧ la = .int .i64 (lsN f l j) ∧ OW w w4 t s b z (L.set c []) (clN f l j) g ∧ Only (· = z) w3 w4) (fun _ i _ => l.length - (intOf i).toNat)
        case atStart => exact ⟨0, Nat.zero_le _, rfl, rfl, by rw [clN_zero]; exact HO3.out, Only.refl _ _⟩
        case round =>
          clear HO3
          rename World => w4
          obtain ⟨j, hj, rfl, rfl, hO4, ho4⟩ := hrel
          have HO4 := Lib.hid hO4
          have HON := Lib.hid ho4
          clear hO4 ho4
          by_cases hjl : j < l.length
          · have hex : ∃ v, l[j]? = some v := ⟨_, List.getElem?_eq_getElem hjl⟩
            obtain ⟨v, hv⟩ := hex
            have hrng := HOq.out.T.gd.rng l (List.mem_of_getElem? HL.out) v (List.mem_of_getElem? hv)
            obtain ⟨r, rfl⟩ : ∃ r : Nat, v = r := ⟨v.toNat, by omega⟩
            obtain ⟨hr16, s1, s2, s3, s4⟩ := HI.out.seen HOq.out.T.gd HL.out hv
            obtain ⟨b2, o2, rfl, _, _, hc2⟩ := (HRD.out.only HON.out (fun k e h => by omega)).at_ (by omega)
            replace hc2 := hc2 j (.int .i64 r) (by simp [hv])
            have ca := HO4.out.att.cell r _ (iC_get _ r hr16)
            have ci := HO4.out.inn.cell r _ (iC_get _ r hr16)
            have fa := HO4.out.att.free r
            rw [s1] at ca
            rw [s3] at ci
            have hcc : ((c : Int) != c) = false := by simp
            have HP4 := Lib.hid (HO4.out.putA hw1 r 0)
            have HCN := Lib.hid (clN_next f l j r hv)
            have HS4 := Lib.hid s4
            have hr0 : (0 : Int) ≤ r := by omega
            have hr1 : (r : Int) < 16 := by omega
            have hj0 : (0 : Int) ≤ j := by omega
            have hj1 : (j : Int) < l.length := by omega
            clear s1 s3 s4 hv hrng
            generalize f r = y at ca s2 HS4
            have hyl : ¬ y ≤ lsN f l j := by omega
            generalize lsN f l j = la at hyl s2
            go_wp2_with fail
            go_roundw
            case rel => exact ⟨j + 1, by omega, by go_num, by rw [HS4.out], by rw [← HCN.out]; exact HP4.out, HON.out.put _ _⟩
            case measure => simp [intOf]; omega
          · obtain rfl : j = l.length := by omega
            have HI2 := Lib.hid (HI.out.flush HOq.out.T.gd HL.out)
            have HLc := Lib.hid (show (L.set c [])[c]? = some [] from List.getElem?_set_self hcl)
            generalize clN f l l.length = f2 at HO4 HI2
            go_wp2_with fail
            go_loopw [117] (fun i w5 => ∃ r : Nat, r ≤ 16 ∧ i = .int .i64 r ∧ OW w w5 t s b z (L.set c []) f2 g) (fun i _ => 16 - (intOf i).toNat)
            case atStart => exact ⟨0, by omega, rfl, HO4.out⟩
            case round =>
              clear HO4 HON
              rename World => w5
              obtain ⟨r, hr, rfl, hO5⟩ := hrel
              have HO5 := Lib.hid hO5
              clear hO5
              by_cases hr16 : r < 16
              · have ca := HO5.out.att.cell r _ (iC_get _ r hr16)
                have ci := HO5.out.inn.cell r _ (iC_get _ r hr16)
                have hno := HI2.out.none HLc.out hr16
                have hr0 : (0 : Int) ≤ r := by omega
                have hr1 : (r : Int) < 16 := by omega
                generalize f2 r = y at ca hno
                generalize g r = x at ci hno
                by_cases hy : 0 < y
                · have hx : (x == (c : Int)) = false := beq_eq_false_iff_ne.2 (by rcases hno with h | h <;> omega)
                  clear hno
                  go_wp2_with fail
                  go_roundw
                  case rel => exact ⟨r + 1, by omega, by go_num, HO5.out⟩
                  case measure => simp [intOf]; omega
                · clear hno
                  go_wp2_with fail
                  go_roundw
                  case rel => exact ⟨r + 1, by omega, by go_num, HO5.out⟩
                  case measure => simp [intOf]; omega
              · have hr16' : ¬ (r : Int) < 16 := by omega
                go_wp2_with fail
                go_roundw
                case rel => exact ⟨k + 1, L.set c [], f2, g, by omega, by go_num, HO5.out, HI2.out.mono (by omega), by rw [List.length_set]; exact HL4.out⟩
                case measure => simp [intOf]; omega
      · have hrr : ¬ ((c : Int) < 0 ∨ (L.length : Int) ≤ c ∨ (q : Int) < 0 ∨ 16 ≤ (q : Int)) := by omega
        cases hw : whB L q
        · obtain ⟨h1, h2⟩ := fall_ok hrr hw HL.out
          have CE := Lib.hid (z_fall HOq.out.T c q 0 _ h1 h2)
          have hn := whB_no hw
          have hfq := (HI.out.zero q hq16').2 hn
          have HI2 := Lib.hid (HI.out.fall HOq.out.T.gd HL.out hq16' hn)
          clear h1 h2 hw hn hrr
          go_wp2_with fail
          refine Calls.mono CE.out ?_
          rintro e w3 ⟨rfl, hp3⟩
          have HO3 := Lib.hid (HOq.out.turn hb hp3)
          clear hp3 CE
          have ca := HO3.out.att.cell q _ (iC_get _ q hq16')
          have ci := HO3.out.inn.cell q _ (iC_get _ q hq16')
          have fa := HO3.out.att.free q
          have fi := HO3.out.inn.free q
          rw [hfq] at ca
          clear hfq
          have HO4 := Lib.hid ((HO3.out.putA hw1 q ((k : Int) + 1)).putI hw1 q c)
          go_wp2_with fail
          go_roundw
          case rel => exact ⟨k + 1, _, _, _, by omega, by go_num, HO4.out, HI2.out, by rw [List.length_set]; exact HL4.out⟩
          case measure => simp [intOf]; omega
        · obtain ⟨h1, h2⟩ := fall_there hrr hw
          have CE := Lib.hid (z_fall HOq.out.T c q 7 _ h1 h2)
          obtain ⟨m, hm, hqm⟩ := whB_yes hw
          have hfq : (f q == 0) = false := beq_eq_false_iff_ne.2 fun e => (HI.out.zero q hq16').1 e m hm hqm
          clear h1 h2 hw hm hqm hrr
          go_wp2_with fail
          refine Calls.mono CE.out ?_
          rintro e w3 ⟨rfl, hp3⟩
          have HO3 := Lib.hid (HOq.out.turn hb hp3)
          clear hp3 CE
          have ca := HO3.out.att.cell q _ (iC_get _ q hq16')
          generalize f q = y at ca hfq
          go_wp2_with fail
          go_roundw
          case rel => exact ⟨k + 1, L, f, g, by omega, by go_num, HO3.out, HI.out.mono (by omega), HL4.out⟩
          case measure => simp [intOf]; omega
    · obtain rfl : k = n := by omega
      go_wp2_with fail
      refine (c_alive _).mono ?_
      rintro e w7 ⟨rfl, hb7⟩
      go_wp2_with fail
      go_ret
      exact ⟨rfl, up_trans HO.out.up hb7⟩

set_option maxHeartbeats 1000000 in
theorem l_once (A : Option Addr) (n cp : Nat) (P : List Tr) (w : World) (hR : RD w (fun _ => True) 3 A n (P.flatMap trV)) (hn : P.length = n) (hP : ∀ p ∈ P, TrOk p) :
    Calls Try.prog 4 #[.slice A n cp] w fun e w' => e = .returned (.bool true) ∧ Below w.heap.size w w' := by
  by_cases hb : 80 < n
  · clear hR hn hP
    go_enter Try.func4, Try.ntmps4
    go_wp2_with fail
    refine (z_new 4 4 rfl (by omega) w).mono ?_
    rintro e w1 ⟨t, s, b, rfl, _, _, _, _, up1⟩
    go_wp2_with fail
    refine (c_alive _).mono ?_
    rintro e w2 ⟨rfl, hb2⟩
    go_wp2_with fail
    go_ret
    exact ⟨rfl, up_trans up1 hb2⟩
  · exact l_once_run A n cp P w hR hn hP (by omega)
end Go.Proofs.Ytcdbblmoimmniaa

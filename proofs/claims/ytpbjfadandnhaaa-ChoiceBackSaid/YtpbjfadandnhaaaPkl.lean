/- The document's Read of choices. -/
import Derived.Test.YtpbjfadandnhaaaPkj
namespace Go.Proofs.Ytpbjfadandnhaaa
open Go.RowKit

def RReadPost (w : World) (x : List CH × Int × Int) (e : Ending) (w' : World) : Prop :=
  ∃ A c, e = .returned (.tuple #[.slice A x.1.length c, .int .i64 x.2.1, .int .i64 x.2.2]) ∧ x.1.length ≤ c ∧ RD w' (w.heap.size ≤ ·) 3 A x.1.length (x.1.flatMap chC) ∧ Below w.heap.size w w'
theorem RReadPost.bad {w w' : World} (e : Int) (hb : Below w.heap.size w w') : RReadPost w ([], 0, e) (.returned (.tuple #[.slice none 0 0, .int .i64 0, .int .i64 e])) w' :=
  ⟨none, 0, rfl, Nat.le_refl _, RD.nil _ _ _ _, hb⟩

set_option maxHeartbeats 1000000 in
set_option maxRecDepth 100000 in
theorem c_rread_range (l : List UInt8) (at_ : Int) (h : at_ < 0 ∨ (l.length : Int) < at_) (w : World) :
    Calls Try.prog 15 #[.string ⟨l.toArray⟩, .int .i64 at_] w (RReadPost w (chRead l at_)) := by
  have HX : Hid (chRead l at_ = ([], 0, 8)) := Lib.hid (if_pos h)
  have HE : Hid (∀ e w', RReadPost w ([], 0, 8) e w' → RReadPost w (chRead l at_) e w') := Lib.hid fun e w' => by rw [HX.out]; exact id
  by_cases h0 : at_ < 0
  · clear h
    go_enter Try.func15, Try.ntmps15
    go_wp2
    refine bodyPost_ret (v := .tuple #[.slice none 0 0, .int .i64 0, .int .i64 8]) (by simp [results, Try.results15, go_sem]) rfl (HE.out _ _ (.bad 8 (Below.refl _ _)))
  · have h1 : (l.length : Int) < at_ := h.elim (fun h => absurd h h0) id
    clear h
    go_enter Try.func15, Try.ntmps15
    go_wp2
    refine bodyPost_ret (v := .tuple #[.slice none 0 0, .int .i64 0, .int .i64 8]) (by simp [results, Try.results15, go_sem]) rfl (HE.out _ _ (.bad 8 (Below.refl _ _)))

set_option maxHeartbeats 1000000 in
set_option maxRecDepth 100000 in
theorem c_rread_short (l : List UInt8) (k : Nat) (hk : k ≤ l.length) (h : (l.drop k).length < 2) (w : World) :
    Calls Try.prog 15 #[.string ⟨l.toArray⟩, .int .i64 k] w (RReadPost w (chRd (l.drop k) k)) := by
  have h2 : (l.length : Int) - k < 2 := by rw [List.length_drop] at h; omega
  have HX : Hid (chRd (l.drop k) k = ([], 0, 4)) := Lib.hid (by
    generalize l.drop k = t at h
    match t, h with
    | [], _ => rfl
    | [_], _ => rfl)
  have HE : Hid (∀ e w', RReadPost w ([], 0, 4) e w' → RReadPost w (chRd (l.drop k) k) e w') := Lib.hid fun e w' => by rw [HX.out]; exact id
  have h0 : ¬ (k : Int) < 0 := by omega
  have h1 : (k : Int) ≤ l.length := by omega
  clear h
  go_enter Try.func15, Try.ntmps15
  go_wp2
  refine bodyPost_ret (v := .tuple #[.slice none 0 0, .int .i64 0, .int .i64 4]) (by simp [results, Try.results15, go_sem]) rfl (HE.out _ _ (.bad 4 (Below.refl _ _)))

theorem byte_at {l r : List UInt8} {P : Nat} {a : UInt8} (h : l.drop P = a :: r) (hh : P < (⟨l.toArray⟩ : ByteArray).size) : wrap64 ((((⟨l.toArray⟩ : ByteArray)[P]'hh).toNat : Nat) : Int) = a.toNat := by
  have h1 : l[P]? = some a := by
    rw [← List.head?_drop, h]
    rfl
  have h2 : P < l.length := hh
  have h3 : (⟨l.toArray⟩ : ByteArray)[P]'hh = l[P] := rfl
  rw [List.getElem?_eq_getElem h2] at h1
  rw [h3, Option.some.inj h1]
  exact byte_w a
theorem drop_next {l r : List UInt8} {P : Nat} {a : UInt8} (h : l.drop P = a :: r) : l.drop (P + 1) = r := by
  rw [← List.drop_drop, h]
  rfl
set_option maxHeartbeats 4000000 in
set_option maxRecDepth 100000 in
theorem c_rread_long (l : List UInt8) (hl : l.length ≤ 1000000) (k : Nat) (hk : k ≤ l.length) (a b : UInt8) (r : List UInt8) (h : l.drop k = a :: b :: r) (w : World) :
    Calls Try.prog 15 #[.string ⟨l.toArray⟩, .int .i64 k] w (RReadPost w (chRd (a :: b :: r) k)) := by
  have hlen : l.length = k + 2 + r.length := by
    have := congrArg List.length h
    rw [List.length_drop] at this
    simp at this
    omega
  have h0 : ¬ (k : Int) < 0 := by omega
  have h1 : (k : Int) ≤ l.length := by omega
  have h2 : ¬ (l.length : Int) - k < 2 := by omega
  have i0 : (k : Int) < l.length := by omega
  have i1 : (k : Int) + 1 < l.length := by omega
  have i2 : (0 : Int) ≤ (k : Int) + 1 := by omega
  have ha := a.toNat_lt
  have hb := b.toNat_lt
  have HLEN := Lib.hid hlen
  have BA := Lib.hid (byte_at h)
  have BB := Lib.hid (byte_at (drop_next h))
  have HDR := Lib.hid (drop_next (drop_next h))
  clear hlen h
  go_enter Try.func15, Try.ntmps15
  go_upto_region 5 with fail
  go_cut [7] (fun s7 wx => s7 = .int .i64 (256 * (a.toNat : Int) + b.toNat) ∧ Drew w wx)
  case first =>
    go_region
    go_wp2
    go_meet
    case rel =>
      rw [BA.out, BB.out, IntWalk.wrap64_in (256 * (a.toNat : Int)) (by omega), IntWalk.wrap64_in _ (by omega)]
      exact ⟨rfl, Drew.of w 1⟩
  case rest =>
    obtain ⟨rfl, hD⟩ := hcut
    have hU0 := hD.below
    have HU0 := Lib.hid hU0
    have HM : Hid (256 * (a.toNat : Int) + b.toNat = ((256 * a.toNat + b.toNat : Nat) : Int)) := Lib.hid (by omega)
    have HX : Hid (chRd (a :: b :: r) k = if 2000 < 256 * (a.toNat : Int) + b.toNat then ([], 0, 5) else
      if chErr (chTold (256 * a.toNat + b.toNat) r) = 0 then ((chTold (256 * a.toNat + b.toNat) r).map Prod.fst, (k : Int) + 2 + 3 * (256 * (a.toNat : Int) + b.toNat), 0) else ([], 0, chErr (chTold (256 * a.toNat + b.toNat) r))) := Lib.hid rfl
    rw [HM.out] at HX ⊢
    generalize chRd (a :: b :: r) k = X at *
    generalize hT : chTold (256 * a.toNat + b.toNat) r = T at *
    generalize 256 * a.toNat + b.toNat = m at *
    clear ha hb HM BA BB hD hU0
    by_cases hm : 2000 < m
    · have hm' : (2000 : Int) < m := by omega
      have HE : Hid (∀ e w', RReadPost w ([], 0, 5) e w' → RReadPost w X e w') := Lib.hid (by rw [HX.out, if_pos hm']; exact fun _ _ => id)
      clear hT
      go_wp2
      refine bodyPost_ret (v := .tuple #[.slice none 0 0, .int .i64 0, .int .i64 5]) (by simp [results, Try.results15, go_sem]) rfl (HE.out _ _ (.bad 5 HU0.out))
    · have hm' : (m : Int) ≤ 2000 := by omega
      rw [if_neg (by omega)] at HX
      have HTT := Lib.hid hT
      clear hT
      go_wp2
      go_loopw [1, 8, 9] (fun p v i wr => ∃ (j P : Nat) (q : List (CH × Int)) (t : List UInt8), j ≤ m ∧ P = k + 2 + 3 * j ∧ p = .int .i64 P ∧ i = .int .i64 j ∧ q.length = j ∧ (∀ y ∈ q, y.2 = 0) ∧ P + t.length = l.length ∧ l.drop P = t ∧ q ++ chTold (m - j) t = T ∧ wr.ownsRow w.heap.size 24 3 v q.length ((q.map Prod.fst).flatMap chC) ∧ Below w.heap.size w wr) (fun _ _ i _ => m - (intOf i).toNat)
      case atStart => exact ⟨0, k + 2, [], r, Nat.zero_le _, rfl, rfl, rfl, rfl, by simp, HLEN.out.symm, HDR.out, HTT.out, World.ownsRow_nil _ _ _ _, HU0.out⟩
      case round =>
        obtain ⟨j, P, q, t, hj, hP, rfl, rfl, hq, hok, hPl, hPt, hTq, hown, hb⟩ := hrel
        have HB := Lib.hid hb
        have HOWN := Lib.hid hown
        have HOK := Lib.hid hok
        have HP := Lib.hid hP
        have hsz := hb.size
        by_cases hlt : j < m
        · have hj0 : (0 : Int) ≤ j := by omega
          have hj1 : (j : Int) < m := by omega
          rw [show m - j = (m - j - 1) + 1 by omega] at hTq
          by_cases h3 : t.length < 3
          · have hs : (l.length : Int) - P < 3 := by omega
            have pl : (P : Int) ≤ l.length := by omega
            rw [told_no (by rw [one_short h3]; decide), one_short h3] at hTq
            have HXX : Hid (X = ([], 0, 4)) := Lib.hid (by
              have := err_stop q (⟨0, 0, 0⟩, 4) [] hok (by decide)
              rw [HX.out, ← hTq, this]
              rfl)
            have HE : Hid (∀ e w', RReadPost w ([], 0, 4) e w' → RReadPost w X e w') := Lib.hid (by rw [HXX.out]; exact fun _ _ => id)
            clear hok hP hPt hTq hown hb hPl
            go_wp2
            all_goals first | (exfalso; omega) | skip
            refine bodyPost_ret (v := .tuple #[.slice none 0 0, .int .i64 0, .int .i64 4]) (by simp [results, Try.results15, go_sem]) rfl (HE.out _ _ (.bad 4 HB.out))
          · obtain ⟨x, y, z, t', rfl⟩ : ∃ x y z t', t = x :: y :: z :: t' := by
              match t, h3 with
              | [], h3 => exact absurd (by simp) h3
              | [_], h3 => exact absurd (by simp) h3
              | [_, _], h3 => exact absurd (by simp) h3
              | x :: y :: z :: t', _ => exact ⟨x, y, z, t', rfl⟩
            have hPl' : P + (t'.length + 3) = l.length := hPl
            have hs : ¬ (l.length : Int) - P < 3 := by omega
            have p0 : (P : Int) < l.length := by omega
            have p1 : (P : Int) + 1 < l.length := by omega
            have p2 : (P : Int) + 2 < l.length := by omega
            have n1 : (0 : Int) ≤ (P : Int) + 1 := by omega
            have n2 : (0 : Int) ≤ (P : Int) + 2 := by omega
            have BX := Lib.hid (byte_at hPt)
            have BY := Lib.hid (byte_at (drop_next hPt))
            have BZ := Lib.hid (byte_at (drop_next (drop_next hPt)))
            have HDP := Lib.hid (drop_next (drop_next (drop_next hPt)))
            have HPL := Lib.hid hPl'
            have hTq' : q ++ ((chRaw x y z, (chRaw x y z).chk) :: if (chRaw x y z).chk = 0 then chTold (m - j - 1) t' else []) = T := hTq
            have HT := Lib.hid hTq'
            have hb1 := Lib.hid (up_alloc wr (.cells #[.int .i64 x.toNat, .int .i64 y.toNat, .int .i64 z.toNat] 24))
            have hB1 := Lib.hid (Blk.new wr [.int .i64 x.toNat, .int .i64 y.toNat, .int .i64 z.toNat] 24)
            clear hok hP hPt hTq hTq' hown hb hPl hPl' h3
            go_upto_region 15 with fail
            go_cut [10] (fun s10 wx => s10 = .pointer (some ⟨wr.heap.size, 0, none⟩) ∧ Blk wx wr.heap.size [.int .i64 x.toNat, .int .i64 y.toNat, .int .i64 z.toNat] 24 ∧ Below wr.heap.size wr wx)
            case first =>
              go_region
              go_wp2
              go_meet
              case rel =>
                rw [BX.out, BY.out, BZ.out]
                exact ⟨rfl, hB1.out, hb1.out.drew⟩
            case rest =>
              obtain ⟨rfl, hC, hbc⟩ := hcut
              have HC := Lib.hid hC
              have HBC := Lib.hid hbc
              have q0 := hC.cell 0 _ rfl
              have q1 := hC.cell 1 _ rfl
              have q2 := hC.cell 2 _ rfl
              have f0 := hC.free 0
              have f1 := hC.free 1
              have f2 := hC.free 2
              clear hC hbc hb1 hB1
              have hy := y.toNat_lt
              have hz := z.toNat_lt
              go_upto_if 67 with fail
              go_cut [] (fun wx => Blk wx wr.heap.size [.int .i64 (chRaw x y z).k, .int .i64 (chRaw x y z).v, .int .i64 (chRaw x y z).w] 24 ∧ Below wr.heap.size wr wx)
              case first =>
                by_cases hx : x = 1
                · subst hx
                  have HR1 : Hid (chRaw 1 y z = ⟨1, 256 * (y.toNat : Int) + z.toNat, 0⟩) := Lib.hid (if_pos rfl)
                  have HS := Lib.hid (((HC.out.set 0 (.int .i64 1)).set 1 (.int .i64 (256 * (y.toNat : Int) + z.toNat))).set 2 (.int .i64 0))
                  have HSB := Lib.hid (((HBC.out.setCell (p := ⟨wr.heap.size, 0, none⟩) (Nat.le_refl _) (.int .i64 1)).setCell (p := ⟨wr.heap.size, 1, none⟩) (Nat.le_refl _) (.int .i64 (256 * (y.toNat : Int) + z.toNat))).setCell (p := ⟨wr.heap.size, 2, none⟩) (Nat.le_refl _) (.int .i64 0))
                  have one1 : (((1 : UInt8).toNat : Int) == 1) = true := by decide
                  go_wp2
                  go_meet
                  case rel =>
                    rw [HR1.out]
                    exact ⟨HS.out, HSB.out⟩
                · have t1 : ((x.toNat : Int) == 1) = false := beq_eq_false_iff_ne.2 fun e => hx (UInt8.toNat_inj.1 (by simpa using (by omega : x.toNat = 1)))
                  have HR1 : Hid (chRaw x y z = ⟨x.toNat, y.toNat, z.toNat⟩) := Lib.hid (if_neg hx)
                  go_wp2
                  go_meet
                  case rel =>
                    rw [HR1.out]
                    exact ⟨HC.out, HBC.out⟩
              case rest =>
                obtain ⟨hC2, hBC2⟩ := hcut
                have HT2 := HT
                clear HT HC HBC BX BY BZ q0 q1 q2 f0 f1 f2 hy hz
                generalize chRaw x y z = ch at *
                have HC2 := Lib.hid hC2
                have HBC2 := Lib.hid hBC2
                have q0 := hC2.cell 0 _ rfl
                have q1 := hC2.cell 1 _ rfl
                have q2 := hC2.cell 2 _ rfl
                have CC := Lib.hid (fun W => c_pkrchk ch.k ch.v ch.w W)
                change Hid (∀ W, Calls _ _ _ W fun e w' => e = .returned (.int .i64 ch.chk) ∧ Below W.heap.size W w') at CC
                clear hC2 hBC2
                go_wp2_with fail
                refine (CC.out _).mono ?_
                rintro e w2 ⟨rfl, hb2⟩
                have hC3 := HC2.out.up hb2 HC2.out.lt
                have hu3 := HBC2.out.trans (hb2.mono HBC2.out.size)
                have HU3 := Lib.hid (HB.out.trans (hu3.mono hsz))
                have HOWN3 := Lib.hid (own_below HOWN.out hu3)
                have hsz3 := HU3.out.size
                have q0 := hC3.cell 0 _ rfl
                have q1 := hC3.cell 1 _ rfl
                have q2 := hC3.cell 2 _ rfl
                clear hC3 hu3 hb2 CC HC2 HBC2
                by_cases hz : ch.chk = 0
                · rw [hz, if_pos rfl] at HT2
                  have hql : q.length + 1 ≤ 1000000 := by omega
                  rw [hz]
                  clear hz
                  go_wp2_with (at_builtin; refine wpList_app ei_rch rfl (.tmp 80) (.tmp 82) rfl _ _ rfl (HOWN3.out.alloc _) rfl (rd_new rfl rfl) (fun u hu => chC_one ch u hu) (by omega) (by simp; omega) ?_; intro v' w4 hown4 hb4)
                  go_roundw
                  case rel => exact ⟨j + 1, P + 3, q ++ [(ch, 0)], t', by omega, by rw [HP.out]; omega, by go_num, by go_num, by rw [List.length_append, hq]; rfl, by
                    intro p hp
                    rcases List.mem_append.1 hp with hp | hp
                    · exact HOK.out p hp
                    · simp only [List.mem_singleton] at hp
                      subst hp
                      rfl, by have := HPL.out; omega, HDP.out, by rw [show m - (j + 1) = m - j - 1 by omega, List.append_assoc]; exact HT2.out, by rw [List.map_append, List.map_cons, List.map_nil, ch_flat1, List.length_append]; exact hown4, (HU3.out.alloc hsz3 _).trans hb4⟩
                  case measure => simp [intOf]; omega
                · have hzn : (ch.chk != 0) = true := by simp [hz]
                  have HXX : Hid (X = ([], 0, ch.chk)) := Lib.hid (by
                    have := err_stop q (ch, ch.chk) (if ch.chk = 0 then chTold (m - j - 1) t' else []) HOK.out hz
                    rw [HX.out, ← HT2.out, this, if_neg hz])
                  have HE : Hid (∀ e w', RReadPost w ([], 0, ch.chk) e w' → RReadPost w X e w') := Lib.hid (by rw [HXX.out]; exact fun _ _ => id)
                  clear HT2 HXX
                  generalize ch.chk = z at *
                  go_wp2
                  refine bodyPost_ret (v := .tuple #[.slice none 0 0, .int .i64 0, .int .i64 z]) (by simp [results, Try.results15, go_sem]) rfl (HE.out _ _ (.bad z HU3.out))
        · obtain rfl : j = m := by omega
          rw [Nat.sub_self, chTold, List.append_nil] at hTq
          subst hTq
          obtain ⟨A', c', rfl, hc1, _, hrd⟩ := own_slice hown
          have HRD := Lib.hid hrd
          have HXX := HX
          rw [err_none q hok, if_pos rfl] at HXX
          clear hok hown hb hPt hPl hrd
          go_wp2
          refine bodyPost_ret (v := .tuple #[.slice A' q.length c', .int .i64 P, .int .i64 0]) (by simp [results, Try.results15, go_sem]) rfl ?_
          rw [HXX.out]
          exact ⟨A', c', by rw [List.length_map, hP]; simp, by rw [List.length_map]; exact hc1, by rw [List.length_map]; exact HRD.out, HB.out⟩
theorem c_rread (l : List UInt8) (hl : l.length ≤ 1000000) (at_ : Int) (w : World) :
    Calls Try.prog 15 #[.string ⟨l.toArray⟩, .int .i64 at_] w (RReadPost w (chRead l at_)) := by
  by_cases h : at_ < 0 ∨ (l.length : Int) < at_
  · exact c_rread_range l at_ h w
  · obtain ⟨k, rfl⟩ : ∃ k : Nat, at_ = k := ⟨at_.toNat, by omega⟩
    have e : chRead l k = chRd (l.drop k) k := by
      unfold chRead
      rw [if_neg h, Int.toNat_natCast]
    rw [e]
    by_cases h2 : (l.drop k).length < 2
    · exact c_rread_short l k (by omega) h2 w
    · match hd : l.drop k, h2 with
      | [], h2 => exact absurd (by simp) h2
      | [_], h2 => exact absurd (by simp) h2
      | a :: b :: r, _ => exact c_rread_long l hl k (by omega) a b r hd w
end Go.Proofs.Ytpbjfadandnhaaa

/- The document's Spawn of layer 31. -/
import Derived.Test.YtflpjpdgacjlcaaPsd
import Derived.Test.YtflpjpdgacjlcaaPrk
import Derived.Test.YtflpjpdgacjlcaaP5
namespace Go.Proofs.Ytflpjpdgacjlcaa
open Go.RowKit

set_option maxRecDepth 100000 in
set_option maxHeartbeats 8000000 in
theorem c_rprspawn {w : World} {pl : Nat → Prop} {A : Option Addr} {n c : Nat} {L : List PR} (h : TW prK w pl A n L) (pg arg : Int) :
    Calls Try.prog 21 #[.slice A n c, .int .i64 pg, .int .i64 arg] w (SpPost w pl n (spawnT L pg arg)) := by
  have CF := fun W (hb : Below w.heap.size w W) => c_rprfine (c := c) (h.below hb)
  have HR := Lib.hid h
  have hl := h.len
  cases hf : fineT L
  · have HE : Hid (spawnT L pg arg = (L, 0, 1)) := Lib.hid (if_pos hf)
    rw [hf] at CF
    have CF := Lib.hid CF
    clear h hl hf
    go_enter Try.func21, Try.ntmps21
    go_wp2_with fail
    refine (CF.out _ (Below.refl _ _)).mono ?_; rintro e w2 ⟨rfl, hb2⟩
    go_wp2
    refine bodyPost_ret (v := .tuple #[.slice A n c, .int .i64 0, .int .i64 1]) (by simp [results, Try.results21, go_sem]) rfl ?_
    exact ⟨A, c, by rw [HE.out], by rw [HE.out]; exact (HR.out.below hb2).lo (fun b hb => .inl hb), hb2⟩
  rw [hf] at CF
  have CF := Lib.hid CF
  have CV := fun W => c_vfine arg W
  obtain ⟨F, okF, hF1, hF2⟩ := newF_is arg
  have CN := fun W => c_rnew arg W
  rw [hF1, newF_2] at CN
  have HP := Lib.hid hF2
  have HN : Hid (n ≤ 100000) := Lib.hid (by have := fineT_len hf; omega)
  cases hw : fineW arg
  · have HE : Hid (spawnT L pg arg = (L, 0, 8)) := Lib.hid (by unfold spawnT; rw [if_neg (by rw [hf]; decide), if_pos hw])
    rw [hw] at CV
    have CV := Lib.hid CV
    clear h hl hf hF1 hF2 hw CN
    go_enter Try.func21, Try.ntmps21
    go_wp2_with fail
    refine (CF.out _ (Below.refl _ _)).mono ?_; rintro e w2 ⟨rfl, hb2⟩
    have HB := Lib.hid hb2
    clear hb2
    go_wp2_with fail
    refine (CV.out _).mono ?_; rintro e w3 ⟨rfl, rfl⟩
    go_wp2
    refine bodyPost_ret (v := .tuple #[.slice A n c, .int .i64 0, .int .i64 8]) (by simp [results, Try.results21, go_sem]) rfl ?_
    exact ⟨A, c, by rw [HE.out], by rw [HE.out]; exact (HR.out.below HB.out).lo (fun b hb => .inl hb), HB.out⟩
  rw [hw, if_pos rfl] at CN
  rw [hw] at CV
  have CN := Lib.hid CN
  have CV := Lib.hid CV
  have HV0 := Lib.hid (fun W => Blk.new W F.cells 63)
  have H16 := Lib.hid (show n = 16 by have := fineT_len hf; omega)
  have HLL := Lib.hid hl
  have HE1 : Hid (prIdx isFree L < 0 → spawnT L pg arg = (L, 0, 10)) := Lib.hid (fun hi => by unfold spawnT; rw [if_neg (by rw [hf]; decide), if_neg (by rw [hw]; decide), if_pos hi])
  have HE2 : Hid (∀ k : Nat, prIdx isFree L = k → spawnT L pg arg = (L.set k (PR.new ((getP L (k : Nat)).gen + 1) pg arg), makeH k ((getP L (k : Nat)).gen + 1), 0)) := Lib.hid (fun k hk => by
    unfold spawnT
    rw [if_neg (by rw [hf]; decide), if_neg (by rw [hw]; decide), if_neg (by omega), hk, Int.toNat_natCast])
  have HM := Lib.hid (fineT_all hf)
  clear h hl hf hF1 hF2 hw
  go_enter Try.func21, Try.ntmps21
  go_wp2_with fail
  refine (CF.out _ (Below.refl _ _)).mono ?_; rintro e w2 ⟨rfl, hb2⟩
  have HB0 := Lib.hid hb2
  clear hb2
  go_wp2_with fail
  refine (CV.out _).mono ?_; rintro e w3 ⟨rfl, rfl⟩
  go_wp2_with fail
  go_loopw [9] (fun i wr => ∃ k : Nat, k ≤ 16 ∧ i = .int .i64 k ∧ (L.take k).any isFree = false ∧ Below w.heap.size w wr) (fun i _ => 16 - (intOf i).toNat)
  case atStart => exact ⟨0, Nat.zero_le _, rfl, rfl, HB0.out⟩
  case round =>
    obtain ⟨k, hk, rfl, hany, hbw⟩ := hrel
    have HA := Lib.hid hany
    have HB := Lib.hid hbw
    by_cases hlt : k < 16
    · obtain ⟨b, o, q, rfl, hbl, hq, hrg, c0, c1, c38, c39⟩ := pr_at (HR.out.below hbw) k (by have := H16.out; omega)
      have HQ := Lib.hid hq
      have hk0 : (0 : Int) ≤ k := by omega
      have hk1 : (k : Int) < (n : Int) := by have := H16.out; omega
      have HKN := Lib.hid (show k < n by have := H16.out; omega)
      have hge := (may_gen (HM.out q (List.mem_of_getElem? hq))).1
      have HFR := Lib.hid (show isFree q = (!q.live && decide (q.gen < 65535)) from rfl)
      obtain ⟨lv, hlv⟩ : ∃ x, q.live = x := ⟨_, rfl⟩
      rw [hlv] at c1 HFR
      have HC : Hid (∀ W, Below wr.heap.size wr W → W.cell? ⟨b, o + k * 42, none⟩ = some (.int .i64 q.gen)) := Lib.hid (fun W hW => (hW.cell (p := ⟨b, o + k * 42, none⟩) hbl).trans c0)
      clear hbl hq hrg c38 c39 hbw hany hlv
      cases lv
      · cases hg : decide (q.gen < 65535)
        · have HN2 : Hid ((L.take (k + 1)).any isFree = false) := Lib.hid (any_next' HQ.out HA.out (by rw [HFR.out, hg]; rfl))
          go_wp2
          go_roundw
          case rel => exact ⟨k + 1, by omega, by go_num, HN2.out, HB.out⟩
          case measure => simp [intOf]; omega
        · have hgl : q.gen < 65535 := of_decide_eq_true hg
          have HI := Lib.hid (HE2.out k (prIdx_at HQ.out HA.out (by rw [HFR.out, hg]; rfl)))
          have HGP := Lib.hid (getP_of HQ.out)
          have CM := fun W => c_rmake (k : Int) (q.gen + 1) W
          have HWR : Hid (IntKind.i64.wrap (q.gen + 1) = q.gen + 1) := Lib.hid (by rw [IntWalk.i64_left, IntWalk.wrap64_in _ (by omega)])
          have HBD := Lib.hid (built4_r (q.gen + 1) pg F okF)
          obtain ⟨hh, hhh⟩ : ∃ hh, makeH (k : Int) (q.gen + 1) = hh := ⟨_, rfl⟩
          generalize makeE (k : Int) (q.gen + 1) = xe at CM
          rw [hhh] at CM
          have CM := Lib.hid CM
          have HHH := Lib.hid hhh
          clear hhh
          go_wp2_with fail
          refine (CN.out _).mono ?_; rintro e w4 ⟨rfl, hb4⟩
          have HB4 := Lib.hid hb4
          clear hb4
          go_upto_region 10 with (refine snr (t := 63) (W := w4) (cs := F.cells) (zs := FR.zero.cells) (.tmp 10) (.tmp 43) rfl rfl rfl rfl (info_fr okF) (by rw [FR.cells_len okF]; rfl) F.cells_one ?_ ?_ ?_; (· rfl); (· rfl))
          have HVB := Lib.hid (HV0.out w4)
          have HB5 := Lib.hid (up_trans HB4.out (up_alloc w4 (.cells F.cells.toArray 63)))
          obtain ⟨wv, hwv⟩ : ∃ wv, w4.alloc (.cells F.cells.toArray 63) = wv := ⟨_, rfl⟩
          rw [hwv] at HVB HB5
          have HWV := Lib.hid hwv
          clear hwv c0 c1
          rw [HWV.out]
          have c0 := HC.out wv HB5.out
          go_wp2_with fail
          refine (CM.out _).mono ?_; rintro e w6 ⟨rfl, rfl⟩
          have HB6 := Lib.hid (up_trans HB.out HB5.out)
          have HC2 : Hid (∀ W, Below wv.heap.size wv W → W.cell? ⟨b, o + k * 42, none⟩ = some (.int .i64 q.gen)) := Lib.hid (fun W hW => HC.out W (up_trans HB5.out hW))
          have HVW : Hid (∀ W, Below wv.heap.size wv W → Blk W w4.heap.size F.cells 63) := Lib.hid (fun W hW => HVB.out.up hW HVB.out.lt)
          have CW := Lib.hid (fun W (hW : Below wv.heap.size wv W) => c_rprput (c := c) (HR.out.below (up_trans HB6.out hW)) HN.out k HKN.out ⟨q.gen + 1, true, pg, F, okF, 0, 0, 0, none, 0, 0, []⟩ ⟨rfl, RD.nil _ _ _ _⟩)
          clear c0
          go_wp2_with fail
          refine wp_region_held_drew (S := (fun W => Below wv.heap.size wv W)) (by kernel_rfl) (up_drewN _ 1) (fun hHeld => ?_)
          refine wpAnyH_take (i := 0) (oi := ?_) (v := ?_) ?_ (by kernel_rfl) (by kernel_rfl) (by kernel_rfl) ?_ (Or.inl ⟨?_, ?_⟩) hHeld ?_
          rotate_left 2
          · conv => lhs; simp only [List.getElem?_toArray, List.getElem?_cons_succ, List.getElem?_cons_zero]
          · exact fun _ _ _ h => h
          · rfl
          · intro W hSw
            go_simp
            try with_reducible rfl
          try simp only [Act.put, List.setIfInBounds_toArray, List.set_cons_zero, List.set_cons_succ]
          refine wpAnyH_take (i := 1) (oi := ?_) (v := ?_) ?_ (by kernel_rfl) (by kernel_rfl) (by kernel_rfl) ?_ (Or.inl ⟨?_, ?_⟩) hHeld ?_
          rotate_left 2
          · conv => lhs; simp only [List.getElem?_toArray, List.getElem?_cons_succ, List.getElem?_cons_zero]
          · exact fun _ _ _ h => h
          · rfl
          · intro W hSw
            go_simp
            try with_reducible rfl
          try simp only [Act.put, List.setIfInBounds_toArray, List.set_cons_zero, List.set_cons_succ]
          refine wpAnyH_take (i := 2) (oi := ?_) (v := ?_) ?_ (by kernel_rfl) (by kernel_rfl) (by kernel_rfl) ?_ (Or.inl ⟨?_, ?_⟩) hHeld ?_
          rotate_left 2
          · conv => lhs; simp only [List.getElem?_toArray, List.getElem?_cons_succ, List.getElem?_cons_zero]
          · exact fun _ _ _ h => h
          · rfl
          · intro W hSw
            go_simp
            try with_reducible rfl
          try simp only [Act.put, List.setIfInBounds_toArray, List.set_cons_zero, List.set_cons_succ]
          refine wpAnyH_take (i := 3) (oi := ?_) (v := ?_) ?_ (by kernel_rfl) (by kernel_rfl) (by kernel_rfl) ?_ (Or.inl ⟨?_, ?_⟩) hHeld ?_
          rotate_left 2
          · conv => lhs; simp only [List.getElem?_toArray, List.getElem?_cons_succ, List.getElem?_cons_zero]
          · exact fun _ _ _ h => h
          · rfl
          · intro W hSw
            go_simp
            try with_reducible rfl
          try simp only [Act.put, List.setIfInBounds_toArray, List.set_cons_zero, List.set_cons_succ]
          refine wpAnyH_take (i := 4) (oi := ?_) (v := ?_) ?_ (by kernel_rfl) (by kernel_rfl) (by kernel_rfl) ?_ (Or.inl ⟨?_, ?_⟩) hHeld ?_
          rotate_left 2
          · conv => lhs; simp only [List.getElem?_toArray, List.getElem?_cons_succ, List.getElem?_cons_zero]
          · exact fun _ _ _ h => h
          · rfl
          · intro W hSw
            go_simp
            try with_reducible rfl
          try simp only [Act.put, List.setIfInBounds_toArray, List.set_cons_zero, List.set_cons_succ]
          refine wpAnyH_take (i := 5) (oi := ?_) (v := ?_) ?_ (by kernel_rfl) (by kernel_rfl) (by kernel_rfl) ?_ (Or.inl ⟨?_, ?_⟩) hHeld ?_
          rotate_left 2
          · conv => lhs; simp only [List.getElem?_toArray, List.getElem?_cons_succ, List.getElem?_cons_zero]
          · exact fun _ _ _ h => h
          · rfl
          · intro W hSw
            go_simp
            try with_reducible rfl
          try simp only [Act.put, List.setIfInBounds_toArray, List.set_cons_zero, List.set_cons_succ]
          refine wpAnyH_take (i := 6) (oi := ?_) (v := ?_) ?_ (by kernel_rfl) (by kernel_rfl) (by kernel_rfl) ?_ (Or.inl ⟨?_, ?_⟩) hHeld ?_
          rotate_left 2
          · conv => lhs; simp only [List.getElem?_toArray, List.getElem?_cons_succ, List.getElem?_cons_zero]
          · exact fun _ _ _ h => h
          · rfl
          · intro W hSw
            have f0 := HC2.out W hSw
            go_simp
            try with_reducible rfl
          try simp only [Act.put, List.setIfInBounds_toArray, List.set_cons_zero, List.set_cons_succ]
          refine wpAnyH_take (i := 7) (oi := ?_) (v := (.int .i64 (q.gen + 1))) ?_ (by kernel_rfl) (by kernel_rfl) (by kernel_rfl) ?_ (Or.inl ⟨?_, ?_⟩) hHeld ?_
          rotate_left 1
          · conv => lhs; simp only [List.getElem?_toArray, List.getElem?_cons_succ, List.getElem?_cons_zero]
          · exact fun _ _ _ h => h
          · rfl
          · intro W hSw
            exact tk_add1 rfl rfl rfl HWR.out
          try simp only [Act.put, List.setIfInBounds_toArray, List.set_cons_zero, List.set_cons_succ]
          refine wpAnyH_take (i := 8) (oi := ?_) (v := ?_) ?_ (by kernel_rfl) (by kernel_rfl) (by kernel_rfl) ?_ (Or.inl ⟨?_, ?_⟩) hHeld ?_
          rotate_left 2
          · conv => lhs; simp only [List.getElem?_toArray, List.getElem?_cons_succ, List.getElem?_cons_zero]
          · exact fun _ _ _ h => h
          · rfl
          · intro W hSw
            go_simp
            try with_reducible rfl
          try simp only [Act.put, List.setIfInBounds_toArray, List.set_cons_zero, List.set_cons_succ]
          refine wpAnyH_take (i := 9) (oi := ?_) (v := (.agg F.cells.toArray)) ?_ (by kernel_rfl) (by kernel_rfl) (by kernel_rfl) ?_ (Or.inl ⟨?_, ?_⟩) hHeld ?_
          rotate_left 1
          · conv => lhs; simp only [List.getElem?_toArray, List.getElem?_cons_succ, List.getElem?_cons_zero]
          · exact fun _ _ _ h => h
          · rfl
          · intro W hSw
            exact tk_load rfl rfl (load_row (HVW.out W hSw) Try.underlying63 rfl (info_fr okF))
          try simp only [Act.put, List.setIfInBounds_toArray, List.set_cons_zero, List.set_cons_succ]
          refine wpAnyH_take (i := 10) (oi := ?_) (v := (.agg (prC ⟨q.gen + 1, true, pg, F, okF, 0, 0, 0, none, 0, 0, []⟩).toArray)) ?_ (by kernel_rfl) (by kernel_rfl) (by kernel_rfl) ?_ (Or.inl ⟨?_, ?_⟩) hHeld ?_
          rotate_left 1
          · conv => lhs; simp only [List.getElem?_toArray, List.getElem?_cons_succ, List.getElem?_cons_zero]
          · exact fun _ _ _ h => h
          · rfl
          · intro W hSw
            exact tk_build rfl (by simpa [Act.eval] using HBD.out)
          try simp only [Act.put, List.setIfInBounds_toArray, List.set_cons_zero, List.set_cons_succ]
          refine wpAnyH_take (i := 12) (oi := ?_) (v := ?_) ?_ (by kernel_rfl) (by kernel_rfl) (by kernel_rfl) ?_ (Or.inl ⟨?_, ?_⟩) hHeld ?_
          rotate_left 2
          · conv => lhs; simp only [List.getElem?_toArray, List.getElem?_cons_succ, List.getElem?_cons_zero]
          · exact fun _ _ _ h => h
          · rfl
          · intro W hSw
            go_simp
            try with_reducible rfl
          try simp only [Act.put, List.setIfInBounds_toArray, List.set_cons_zero, List.set_cons_succ]
          refine wpAnyH_ready (rs := [11]) (by kernel_rfl) (by simp) ?_
          refine AllReadyH.cons (o := ?_) ?_ (fun K hK => ?_) AllReadyH.nil
          rotate_left 1
          · conv => lhs; simp only [List.getElem?_toArray, List.getElem?_cons_succ, List.getElem?_cons_zero]
          go_simp
          refine (CW.out _ hHeld).mono ?_
          rintro e wA hp
          obtain ⟨A', c', rfl, h1, h2⟩ := hp.up (up_trans HB6.out hHeld)
          have H1 := Lib.hid h1
          have H2 := Lib.hid h2
          obtain ⟨_, _, _, _, hb⟩ := hp
          clear h1 h2
          go_wp2_with fail
          refine hK.out _ _ (up_trans hHeld hb) (fun hHeld => ?_)
          clear hK K
          try simp only [Act.put, List.setIfInBounds_toArray, List.set_cons_zero, List.set_cons_succ]
          refine wpAnyH_take (i := 13) (oi := ?_) (v := ?_) ?_ (by kernel_rfl) (by kernel_rfl) (by kernel_rfl) ?_ (Or.inl ⟨?_, ?_⟩) hHeld ?_
          rotate_left 2
          · conv => lhs; simp only [List.getElem?_toArray, List.getElem?_cons_succ, List.getElem?_cons_zero]
          · exact fun _ _ _ h => h
          · rfl
          · intro W hSw
            go_simp
            try with_reducible rfl
          try simp only [Act.put, List.setIfInBounds_toArray, List.set_cons_zero, List.set_cons_succ]
          refine wpAnyH_take (i := 14) (oi := ?_) (v := ?_) ?_ (by kernel_rfl) (by kernel_rfl) (by kernel_rfl) ?_ (Or.inl ⟨?_, ?_⟩) hHeld ?_
          rotate_left 2
          · conv => lhs; simp only [List.getElem?_toArray, List.getElem?_cons_succ, List.getElem?_cons_zero]
          · exact fun _ _ _ h => h
          · rfl
          · intro W hSw
            go_simp
            try with_reducible rfl
          try simp only [Act.put, List.setIfInBounds_toArray, List.set_cons_zero, List.set_cons_succ]
          refine wpAnyH_take (i := 15) (oi := ?_) (v := ?_) ?_ (by kernel_rfl) (by kernel_rfl) (by kernel_rfl) ?_ (Or.inl ⟨?_, ?_⟩) hHeld ?_
          rotate_left 2
          · conv => lhs; simp only [List.getElem?_toArray, List.getElem?_cons_succ, List.getElem?_cons_zero]
          · exact fun _ _ _ h => h
          · rfl
          · intro W hSw
            go_simp
            try with_reducible rfl
          try simp only [Act.put, List.setIfInBounds_toArray, List.set_cons_zero, List.set_cons_succ]
          refine wpAnyH_done (by kernel_rfl) ?_ _
          go_wp2
          refine bodyPost_ret (v := .tuple #[.slice A' n c', .int .i64 hh, .int .i64 0]) (by simp [results, Try.results21, go_sem]) rfl ?_
          exact ⟨A', c', by rw [HI.out, HGP.out, HHH.out], by rw [HI.out, HGP.out, HP.out]; exact H1.out, H2.out⟩
      · have HN2 : Hid ((L.take (k + 1)).any isFree = false) := Lib.hid (any_next' HQ.out HA.out (by rw [HFR.out]; rfl))
        go_wp2
        go_roundw
        case rel => exact ⟨k + 1, by omega, by go_num, HN2.out, HB.out⟩
        case measure => simp [intOf]; omega
    · obtain rfl : k = 16 := by omega
      have HI := Lib.hid (HE1.out (by rw [prIdx_no (by have := HA.out; rwa [List.take_of_length_le (by rw [HLL.out, H16.out]; exact Nat.le_refl _)] at this)]; decide))
      rw [show ((16 : Nat) : Int) = 16 from rfl]
      clear hany hbw
      go_wp2
      refine bodyPost_ret (v := .tuple #[.slice A n c, .int .i64 0, .int .i64 10]) (by simp [results, Try.results21, go_sem]) rfl ?_
      exact ⟨A, c, by rw [HI.out], by rw [HI.out]; exact (HR.out.below HB.out).lo (fun b hb => .inl hb), HB.out⟩
end Go.Proofs.Ytflpjpdgacjlcaa

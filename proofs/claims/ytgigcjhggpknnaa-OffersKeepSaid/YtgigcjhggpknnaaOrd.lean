/- The law OffersKeep. (Written by wip/tools/gen26/genkeep.py.) -/
import Derived.Test.YtgigcjhggpknnaaOrc
import Derived.IntWalk
import Derived.Deep.DeepCutAuto
import Derived.Deep.CutBlock
namespace Go.Proofs.Ytgigcjhggpknnaa
open Go.RowKit

abbrev Tr := Int × Int × Int
def trV (p : Tr) : List Value := [.int .u8 p.1, .int .u8 p.2.1, .int .u8 p.2.2]
theorem trV_len (p : Tr) : (trV p).length = 3 := rfl
def TrOk (p : Tr) : Prop := (0 ≤ p.1 ∧ p.1 ≤ 255) ∧ (0 ≤ p.2.1 ∧ p.2.1 ≤ 255) ∧ 0 ≤ p.2.2 ∧ p.2.2 ≤ 255
theorem RD.tr {w : World} {pl : Nat → Prop} {A : Option Addr} {n : Nat} {L : List Tr} (h : RD w pl 3 A n (L.flatMap trV)) (hn : L.length = n) (k : Nat) (hk : k < n) :
    ∃ b o s, A = some ⟨b, o, none⟩ ∧ b < w.heap.size ∧ L[k]? = some s ∧ w.cell? ⟨b, o + k * 3, none⟩ = some (.int .u8 s.1) ∧ w.cell? ⟨b, o + k * 3 + 1, none⟩ = some (.int .u8 s.2.1) ∧ w.cell? ⟨b, o + k * 3 + 2, none⟩ = some (.int .u8 s.2.2) := by
  obtain ⟨b, o, e, _, h2, h3⟩ := h.at_ (by omega)
  have hg : L[k]? = some (L[k]'(by omega)) := List.getElem?_eq_getElem (by omega)
  refine ⟨b, o, _, e, h2, hg, ?_, ?_, ?_⟩
  · exact h3 (k * 3) _ (by rw [show k * 3 = k * 3 + 0 from rfl, flat_get trV 3 trV_len L k 0 _ hg (by omega)]; rfl)
  · have := h3 (k * 3 + 1) _ (by rw [flat_get trV 3 trV_len L k 1 _ hg (by omega)]; rfl)
    rwa [← Nat.add_assoc] at this
  · have := h3 (k * 3 + 2) _ (by rw [flat_get trV 3 trV_len L k 2 _ hg (by omega)]; rfl)
    rwa [← Nat.add_assoc] at this

/-- An append onto a process's row leaves the table as it is. -/
theorem OT.turn {w3 w4 : World} {t s a S b room M : Nat} {D : List OF} {v : Value} {o : Obj} (h : OT w3 t s a S b room M D) (hg : (w3.alloc o).grownBy w4 v.ownBlock) (hi : ∀ g cs T, v.ownBlock = some g → Blk w3 g cs T → T = 3) : OT w4 t s a S b room M D := by
  have key : ∀ {g : Nat} {cs : List Value} {T : TypeId}, Blk w3 g cs T → T ≠ 3 → Blk w4 g cs T := fun {g cs T} hB hT => (hB.alloc o).grown hg (fun e => hT (hi g cs T e.symm hB))
  obtain ⟨τ, Hs, fr, X⟩ := h
  obtain ⟨L, P, C, V, hq⟩ := X.pa
  refine ⟨τ, Hs, fr, key X.tb (by decide), key X.sb (by decide), ⟨key X.at_.tab (by decide), key X.at_.row (by decide), fun y hy c e f => key (X.at_.one y hy c e f) (by decide), X.at_.pos, X.at_.few⟩, ⟨L, P, C, V, ⟨key hq.H.blk (by decide), hq.H.ll, hq.H.lp⟩, hq.S, hq.vals, hq.spare, hq.q1, hq.q2, hq.few⟩, X.iv, X.rm, X.len, X.r2⟩
set_option maxRecDepth 100000 in
set_option maxHeartbeats 32000000 in
theorem l_keep_run (A : Option Addr) (n cp : Nat) (P : List Tr) (w : World) (hR : RD w (fun _ => True) 3 A n (P.flatMap trV)) (hn : P.length = n) (hP : ∀ p ∈ P, TrOk p) (h60 : n ≤ 60) :
    Calls Try.prog 4 #[.slice A n cp] w fun e w' => e = .returned (.bool true) ∧ Below w.heap.size w w' := by
  have HN := Lib.hid hn
  have HR := Lib.hid hR
  have HP := Lib.hid hP
  have h60' : ¬ (60 : Int) < n := by omega
  clear hn hR hP
  go_enter Try.func4, Try.ntmps4
  go_wp2_with fail
  refine (c_onew 60 (by omega) (by omega) w).mono ?_
  rintro e w1 ⟨t, s, a, S, b, rfl, H1, hS, hb, up1⟩
  have upz := up_alloc w1 (.cells (noQ.map sliceV).toArray 56)
  have hB : Blk (w1.alloc (.cells (noQ.map sliceV).toArray 56)) w1.heap.size (noQ.map sliceV) 56 := Blk.new w1 _ _
  have hK0 := KW.new (H1.below upz) hB (up_trans up1 upz) up1.size hS hb
  obtain ⟨z, hz⟩ : ∃ z, w1.heap.size = z := ⟨_, rfl⟩
  rw [hz] at hK0
  generalize hw2 : w1.alloc (.cells (noQ.map sliceV).toArray 56) = w2 at hK0
  rw [noQ_cells] at hw2
  have HW2 := Lib.hid hw2
  have HZ := Lib.hid hz
  have HK0 := Lib.hid hK0
  clear hw2 hz hK0 hB upz H1 up1
  go_wp2_with fail
  rw [HW2.out, HZ.out]
  go_loopw [40] (fun i wr => ∃ (k : Nat) (D : List OF) (Q : List DQ), k ≤ n ∧ i = .int .i64 k ∧ KW w wr t s a S b z k D Q) (fun i _ => n - (intOf i).toNat)
  case atStart => exact ⟨0, _, _, Nat.zero_le _, rfl, HK0.out⟩
  case round =>
    clear HK0 HW2 HZ
    obtain ⟨k, D, Q, hk, rfl, hKr⟩ := hrel
    by_cases hlt : k < n
    · obtain ⟨bL, oL, ⟨d0, d1, d2⟩, rfl, hbL, hp, a0, a1, a2⟩ := (HR.out.below hKr.up).tr HN.out k hlt
      obtain ⟨⟨x0, y0⟩, ⟨x1, y1⟩, x2, y2⟩ := HP.out _ (List.mem_of_getElem? hp)
      simp only at a0 a1 a2 x0 y0 x1 y1 x2 y2
      obtain ⟨q, hq⟩ : ∃ q : Nat, d0 % 16 = q := ⟨(d0 % 16).toNat, by omega⟩
      obtain ⟨no, hno⟩ : ∃ no : Int, d1 % 6 = no := ⟨_, rfl⟩
      have hq16 : (q : Int) < 16 := by omega
      have hq0 : (0 : Int) ≤ q := by omega
      have hno0 : 0 ≤ no := by omega
      have hno6 : no < 6 := by omega
      have hq16' : q < 16 := by omega
      have ups := up_alloc wr (.cells #[.int .u8 d0, .int .u8 d1, .int .u8 d2] 57)
      have hbs : Blk (wr.alloc (.cells #[.int .u8 d0, .int .u8 d1, .int .u8 d2] 57)) wr.heap.size [.int .u8 d0, .int .u8 d1, .int .u8 d2] 57 := Blk.new wr [.int .u8 d0, .int .u8 d1, .int .u8 d2] _
      have HKs := Lib.hid (hKr.below ups)
      generalize hws : wr.alloc (.cells #[.int .u8 d0, .int .u8 d1, .int .u8 d2] 57) = ws at ups hbs HKs
      have HWS := Lib.hid hws
      have e0 := hbs.cell 0 _ rfl
      have e1 := hbs.cell 1 _ rfl
      have e2 := hbs.cell 2 _ rfl
      clear hws hp ups hKr
      go_wp2_with fail
      rw [HWS.out]
      go_quiet (fail)
      clear a0 a1 a2 hbL
      have HKq := Lib.hid (HKs.out.below (up_drewN ws nq))
      clear HKs
      go_upto_block 2 with fail
      generalize ws.drewN nq = wd at HKq ⊢
      generalize d2 % 8 = x8
      clear e0 e1 e2 hbs hq hno
      go_cut [10, 11, 13] (fun s10 s11 s13 wx => ∃ (D' : List OF) (Q' : List DQ), KW w wx t s a S b z (k + 1) D' Q')
      case first =>
        obtain ⟨dq, hdq, cq, hnq, _⟩ := HKq.out.at_ hq16'
        obtain ⟨Aq, cpq, lq⟩ := dq
        simp only at cq hnq
        have hlq : lq.length ≤ 1024 := by
          rw [hnq]
          unfold numO
          rw [List.length_map]
          have h1 := who_len D q
          have h2 := HKq.out.T.room_
          omega
        have HDQ := Lib.hid hdq
        have HNQ := Lib.hid hnq
        have hNS := HKq.out.nz
        have HOWN := Lib.hid (fun W (o : Only (two S b) wd W) => own_keep (HKq.out.own q _ HDQ.out) o fun g hg hk => (HKq.out.blk HDQ.out hg).2.1 hk)
        have HBZ := Lib.hid (fun W (o : Only (two S b) wd W) => HKq.out.B.only o hNS)
        have HGZ : Hid ((Q.map sliceV)[q]? = some (.slice Aq lq.length cpq)) := Lib.hid (by rw [List.getElem?_map, HDQ.out]; rfl)
        obtain ⟨nl, hnl⟩ : ∃ nl, nl = lq.length := ⟨_, rfl⟩
        clear hdq hnq
        by_cases h0 : x8 = 0
        · have t0 : (x8 == 0) = true := by simpa using h0
          clear h0
          have KS : Hid (∀ W, Only (two S b) wd W → Only (two S b) wd W ∧ W.cell? ⟨z, q, none⟩ = some (.slice Aq nl cpq)) := Lib.hid fun W o => ⟨o, by rw [hnl]; exact (HBZ.out W o).cell q _ HGZ.out⟩
          have hcl : ((D.length : Int) - (clO D q).length) = (nl : Int) := by
            have h1 := cl_len D q
            have h2 := congrArg List.length HNQ.out
            unfold numO at h2
            rw [List.length_map] at h2
            omega
          have CE := Lib.hid (fun r => z_clr (HKq.out.T.below (up_drewN wd r)) q nl _ hcl rfl)
          have hne : ((nl : Int) != nl) = false := by simp
          clear cq hcl
          go_wp2_with fail
          refine wp_region_held_drew (S := fun W => Only (two S b) wd W ∧ W.cell? ⟨z, q, none⟩ = some (.slice Aq nl cpq)) (by kernel_rfl) (KS.out _ ((Only.refl _ wd).drewN 1)) (fun hHeld => ?_)
          refine wpAnyH_take (i := 0) (oi := ?_) (v := ?_) ?_ (by kernel_rfl) (by kernel_rfl) (by kernel_rfl) ?_ (Or.inl ⟨?_, ?_⟩) hHeld ?_
          rotate_left 2
          · conv => lhs; simp only [List.getElem?_toArray, List.getElem?_cons_succ, List.getElem?_cons_zero]
          · exact fun _ _ _ h => h
          · rfl
          · intro W hSw
            go_simp
            try with_reducible rfl
          try simp only [Act.put, List.setIfInBounds_toArray, List.set_cons_zero, List.set_cons_succ]
          refine wpAnyH_take (i := 1) (oi := ?_) (v := ?_) ?_ (by kernel_rfl) (by kernel_rfl) (by kernel_rfl) ?_ (Or.inl ⟨?_, ?_⟩) hHeld ?_
          rotate_left 2
          · conv => lhs; simp only [List.getElem?_toArray, List.getElem?_cons_succ, List.getElem?_cons_zero]
          · exact fun _ _ _ h => h
          · rfl
          · intro W hSw
            go_simp
            try with_reducible rfl
          try simp only [Act.put, List.setIfInBounds_toArray, List.set_cons_zero, List.set_cons_succ]
          refine wpAnyH_take (i := 3) (oi := ?_) (v := ?_) ?_ (by kernel_rfl) (by kernel_rfl) (by kernel_rfl) ?_ (Or.inl ⟨?_, ?_⟩) hHeld ?_
          rotate_left 2
          · conv => lhs; simp only [List.getElem?_toArray, List.getElem?_cons_succ, List.getElem?_cons_zero]
          · exact fun _ _ _ h => h
          · rfl
          · intro W hSw
            go_simp
            try with_reducible rfl
          try simp only [Act.put, List.setIfInBounds_toArray, List.set_cons_zero, List.set_cons_succ]
          refine wpAnyH_take (i := 4) (oi := ?_) (v := ?_) ?_ (by kernel_rfl) (by kernel_rfl) (by kernel_rfl) ?_ (Or.inl ⟨?_, ?_⟩) hHeld ?_
          rotate_left 2
          · conv => lhs; simp only [List.getElem?_toArray, List.getElem?_cons_succ, List.getElem?_cons_zero]
          · exact fun _ _ _ h => h
          · rfl
          · intro W hSw
            go_simp
            try with_reducible rfl
          try simp only [Act.put, List.setIfInBounds_toArray, List.set_cons_zero, List.set_cons_succ]
          refine wpAnyH_take (i := 5) (oi := ?_) (v := ?_) ?_ (by kernel_rfl) (by kernel_rfl) (by kernel_rfl) ?_ (Or.inl ⟨?_, ?_⟩) hHeld ?_
          rotate_left 2
          · conv => lhs; simp only [List.getElem?_toArray, List.getElem?_cons_succ, List.getElem?_cons_zero]
          · exact fun _ _ _ h => h
          · rfl
          · intro W hSw
            go_simp
            try with_reducible rfl
          try simp only [Act.put, List.setIfInBounds_toArray, List.set_cons_zero, List.set_cons_succ]
          refine wpAnyH_take (i := 6) (oi := ?_) (v := ?_) ?_ (by kernel_rfl) (by kernel_rfl) (by kernel_rfl) ?_ (Or.inl ⟨?_, ?_⟩) hHeld ?_
          rotate_left 2
          · conv => lhs; simp only [List.getElem?_toArray, List.getElem?_cons_succ, List.getElem?_cons_zero]
          · exact fun _ _ _ h => h
          · rfl
          · intro W hSw
            go_simp
            try with_reducible rfl
          try simp only [Act.put, List.setIfInBounds_toArray, List.set_cons_zero, List.set_cons_succ]
          refine wpAnyH_ready (rs := [2]) (by kernel_rfl) (by simp) ?_
          refine AllReadyH.cons (o := ?_) ?_ (fun K hK => ?_) AllReadyH.nil
          rotate_left 1
          · conv => lhs; simp only [List.getElem?_toArray, List.getElem?_cons_succ, List.getElem?_cons_zero]
          go_simp
          refine Calls.mono (CE.out 1) ?_
          rintro e w3 ⟨rfl, hT3, ho3⟩
          have ho3 := ((Only.refl (two S b) wd).drewN 1).trans ho3
          go_wp2_with fail
          refine hK.out _ _ (KS.out _ ho3) (fun hHeld => ?_)
          clear hK K
          try simp only [Act.put, List.setIfInBounds_toArray, List.set_cons_zero, List.set_cons_succ]
          refine wpAnyH_take (i := 7) (oi := ?_) (v := ?_) ?_ (by kernel_rfl) (by kernel_rfl) (by kernel_rfl) ?_ (Or.inl ⟨?_, ?_⟩) hHeld ?_
          rotate_left 2
          · conv => lhs; simp only [List.getElem?_toArray, List.getElem?_cons_succ, List.getElem?_cons_zero]
          · exact fun _ _ _ h => h
          · rfl
          · intro W hSw
            go_simp
            try with_reducible rfl
          try simp only [Act.put, List.setIfInBounds_toArray, List.set_cons_zero, List.set_cons_succ]
          refine wpAnyH_done (by kernel_rfl) ?_ _
          clear hHeld
          have hB3 := HBZ.out _ ho3
          have cz := hB3.cell q _ HGZ.out
          have fz := hB3.free q
          have HT3 := Lib.hid hT3
          have HO3 := Lib.hid ho3
          clear hB3 hT3 ho3
          go_wp2_with fail
          go_meet
          case rel =>
            have h := (HKq.out.mono (Nat.le_succ k)).put HDQ.out (d' := (none, 0, [])) (HT3.out.mono (Nat.le_succ k)) (HO3.out.mono fun _ _ e => .inl e) (World.ownsRow_nil _ _ _ _) (fun g e => by simp [sliceV, Value.ownBlock] at e) (by rw [num_clear, if_pos rfl]) (fun p hp => by rw [num_clear, if_neg hp]) (by rw [num_clear, if_pos rfl]; exact List.nodup_nil) (fun x hx => HKq.out.g5 x (List.mem_filter.1 hx).1)
            exact ⟨_, _, h⟩
        · have t0 : (x8 == 0) = false := by simpa using h0
          by_cases h1 : x8 = 1
          · have t1 : (x8 == 1) = true := by simpa using h1
            clear h0 h1
            rcases (num_drop (no := no) (HKq.out.nd q)).2.2 with ⟨hh, hlen⟩ | ⟨hh, hlen⟩
            · have HER := Lib.hid (show drpE D q no = 0 by unfold drpE; rw [oRng_at hq16', hh]; rfl)
              rw [← HNQ.out] at hlen
              have HLEN := Lib.hid hlen
              clear hh hlen
              have CE := c_odrp HKq.out.T q no
              rw [HER.out] at CE
              have CE := Lib.hid CE
              have HNL := Lib.hid hnl
              clear hnl
              go_wp2_with fail
              refine Calls.mono CE.out ?_
              rintro e w3 ⟨rfl, hT3, ho3⟩
              have hB3 := HBZ.out _ ho3
              have cz := hB3.cell q _ HGZ.out
              rw [← HNL.out] at cz
              have HB3 := Lib.hid hB3
              have HT3 := Lib.hid hT3
              have HO3 := Lib.hid ho3
              have hown := HOWN.out _ ho3
              have HR3 := Lib.hid (RD.of_own hown)
              clear hT3 ho3 hB3 hown cq
              go_wp2_with fail
              go_loopw [11, 13, 91] (fun v _ i w4 => ∃ j : Nat, j ≤ nl ∧ i = .int .i64 j ∧ w4.ownsRow w3.heap.size 3 1 v ((lq.take j).filter fun m => m != no).length (((lq.take j).filter fun m => m != no).map (Value.int .i64)) ∧ Below w3.heap.size w3 w4) (fun _ _ i _ => nl - (intOf i).toNat)
              case atStart => exact ⟨0, Nat.zero_le _, rfl, World.ownsRow_nil _ _ _ _, Below.refl _ _⟩
              case round =>
                rename World => w4
                obtain ⟨j, hj, rfl, hown4, hb4⟩ := hrel
                have HOWN4 := Lib.hid hown4
                have HB4 := Lib.hid hb4
                have hs4 := hb4.size
                clear hown4 hb4
                by_cases hjl : j < lq.length
                · have hx : lq[j]? = some lq[j] := List.getElem?_eq_getElem hjl
                  obtain ⟨bA, oA, rfl, _, hlb, hcA⟩ := (HR3.out.below HB4.out).at_ (by omega)
                  replace hcA := hcA j (.int .i64 lq[j]) (by simp [hjl])
                  have HNX := Lib.hid (take_next lq j _ hx)
                  have htl : ((lq.take j).filter fun m => m != no).length ≤ 1024 := by
                    have h1 := List.length_filter_le (fun m => m != no) (lq.take j)
                    rw [List.length_take] at h1
                    omega
                  have hjn : (j : Int) < nl := by have := HNL.out; omega
                  have hj0 : (0 : Int) ≤ j := by omega
                  generalize lq[j] = y at hcA HNX
                  clear hx
                  cases ty : (y != no)
                  · have HF := Lib.hid (show (lq.take (j + 1)).filter (fun m => m != no) = (lq.take j).filter (fun m => m != no) by rw [HNX.out, List.filter_append, List.filter_cons, ty]; simp)
                    go_wp2_with fail
                    go_roundw
                    case rel => exact ⟨j + 1, by omega, by go_num, by rw [HF.out]; exact HOWN4.out, HB4.out⟩
                    case measure => have := HNL.out; simp [intOf]; omega
                  · have HF := Lib.hid (show (lq.take (j + 1)).filter (fun m => m != no) = (lq.take j).filter (fun m => m != no) ++ [y] by rw [HNX.out, List.filter_append, List.filter_cons, ty]; simp)
                    go_wp2_with (at_builtin; refine wpList_app ei_int rfl (.tmp 98) (.tmp 100) rfl _ _ rfl (HOWN4.out.alloc _) rfl (RD.one (by simp)) (by simp [Value.oneCell']) (by omega) (by simp; omega) ?_; intro v' w5 hown5 hb5)
                    go_roundw
                    case rel => exact ⟨j + 1, by omega, by go_num, by rw [HF.out, List.map_append, List.length_append]; exact hown5, (HB4.out.trans ((up_alloc _ _).mono hs4)).trans hb5⟩
                    case measure => have := HNL.out; simp [intOf]; omega
                · have htn : ¬ (j : Int) < nl := by have := HNL.out; omega
                  have hown := HOWN4.out
                  rw [List.take_of_length_le (by omega)] at hown
                  obtain ⟨A5, c5, hv5, _, _, _⟩ := own_slice hown
                  rw [List.take_of_length_le (l := lq) (i := j) (by omega)] at HOWN4
                  rw [hv5] at hown
                  have HO5 := Lib.hid hown
                  have HE5 := Lib.hid (show ∀ g, (Value.slice A5 (lq.filter fun m => m != no).length c5).ownBlock = some g → w3.heap.size ≤ g from fun g e => (own_blk HO5.out g e).1)
                  subst hv5
                  obtain ⟨fl, hfl⟩ : ∃ fl, (lq.filter fun m => m != no).length = fl := ⟨_, rfl⟩
                  have HFL := Lib.hid hfl
                  have hcm := (show (fl : Int) < nl by have := HLEN.out; rw [hfl] at this; have := HNL.out; omega)
                  have hcm2 := (show decide ((fl : Int) < (nl : Int)) = true from decide_eq_true hcm)
                  have hzb := HB3.out.up HB4.out HB3.out.lt
                  have cz4 := hzb.cell q _ HGZ.out
                  rw [← HNL.out] at cz4
                  have fz4 := hzb.free q
                  rw [hfl]
                  clear hown hfl hzb cz
                  go_wp2_with fail
                  go_meet
                  case rel =>
                    have hnd := num_drop (no := no) (HKq.out.nd q)
                    have h := (HKq.out.mono (Nat.le_succ k)).put HDQ.out (d' := (A5, c5, lq.filter fun m => m != no)) ((HT3.out.below HB4.out).mono (Nat.le_succ k)) ((HO3.out.mono fun _ _ e => .inl e).below_trans HB4.out) (own_lo HO5.out (Nat.le_trans HKq.out.up.size HO3.out.size)) (fun g e => .inr (Nat.le_trans HO3.out.size (HE5.out g e))) (by rw [hnd.1, ← HNQ.out]) hnd.2.1 (by rw [hnd.1]; exact (HKq.out.nd q).filter _) (fun x hx => HKq.out.g5 x (List.mem_of_mem_eraseP hx))
                    unfold sliceV at h
                    rw [HFL.out] at h
                    exact ⟨_, _, h⟩
            · have HER := Lib.hid (show drpE D q no = 6 by unfold drpE; rw [oRng_at hq16', hh]; rfl)
              rw [← HNQ.out] at hlen
              have HLEN := Lib.hid hlen
              clear hh hlen
              have CE := c_odrp HKq.out.T q no
              rw [HER.out] at CE
              have CE := Lib.hid CE
              have HNL := Lib.hid hnl
              clear hnl
              go_wp2_with fail
              refine Calls.mono CE.out ?_
              rintro e w3 ⟨rfl, hT3, ho3⟩
              have hB3 := HBZ.out _ ho3
              have cz := hB3.cell q _ HGZ.out
              rw [← HNL.out] at cz
              have HB3 := Lib.hid hB3
              have HT3 := Lib.hid hT3
              have HO3 := Lib.hid ho3
              have hown := HOWN.out _ ho3
              have HR3 := Lib.hid (RD.of_own hown)
              clear hT3 ho3 hB3 hown cq
              go_wp2_with fail
              go_loopw [11, 13, 91] (fun v _ i w4 => ∃ j : Nat, j ≤ nl ∧ i = .int .i64 j ∧ w4.ownsRow w3.heap.size 3 1 v ((lq.take j).filter fun m => m != no).length (((lq.take j).filter fun m => m != no).map (Value.int .i64)) ∧ Below w3.heap.size w3 w4) (fun _ _ i _ => nl - (intOf i).toNat)
              case atStart => exact ⟨0, Nat.zero_le _, rfl, World.ownsRow_nil _ _ _ _, Below.refl _ _⟩
              case round =>
                rename World => w4
                obtain ⟨j, hj, rfl, hown4, hb4⟩ := hrel
                have HOWN4 := Lib.hid hown4
                have HB4 := Lib.hid hb4
                have hs4 := hb4.size
                clear hown4 hb4
                by_cases hjl : j < lq.length
                · have hx : lq[j]? = some lq[j] := List.getElem?_eq_getElem hjl
                  obtain ⟨bA, oA, rfl, _, hlb, hcA⟩ := (HR3.out.below HB4.out).at_ (by omega)
                  replace hcA := hcA j (.int .i64 lq[j]) (by simp [hjl])
                  have HNX := Lib.hid (take_next lq j _ hx)
                  have htl : ((lq.take j).filter fun m => m != no).length ≤ 1024 := by
                    have h1 := List.length_filter_le (fun m => m != no) (lq.take j)
                    rw [List.length_take] at h1
                    omega
                  have hjn : (j : Int) < nl := by have := HNL.out; omega
                  have hj0 : (0 : Int) ≤ j := by omega
                  generalize lq[j] = y at hcA HNX
                  clear hx
                  cases ty : (y != no)
                  · have HF := Lib.hid (show (lq.take (j + 1)).filter (fun m => m != no) = (lq.take j).filter (fun m => m != no) by rw [HNX.out, List.filter_append, List.filter_cons, ty]; simp)
                    go_wp2_with fail
                    go_roundw
                    case rel => exact ⟨j + 1, by omega, by go_num, by rw [HF.out]; exact HOWN4.out, HB4.out⟩
                    case measure => have := HNL.out; simp [intOf]; omega
                  · have HF := Lib.hid (show (lq.take (j + 1)).filter (fun m => m != no) = (lq.take j).filter (fun m => m != no) ++ [y] by rw [HNX.out, List.filter_append, List.filter_cons, ty]; simp)
                    go_wp2_with (at_builtin; refine wpList_app ei_int rfl (.tmp 98) (.tmp 100) rfl _ _ rfl (HOWN4.out.alloc _) rfl (RD.one (by simp)) (by simp [Value.oneCell']) (by omega) (by simp; omega) ?_; intro v' w5 hown5 hb5)
                    go_roundw
                    case rel => exact ⟨j + 1, by omega, by go_num, by rw [HF.out, List.map_append, List.length_append]; exact hown5, (HB4.out.trans ((up_alloc _ _).mono hs4)).trans hb5⟩
                    case measure => have := HNL.out; simp [intOf]; omega
                · have htn : ¬ (j : Int) < nl := by have := HNL.out; omega
                  have hown := HOWN4.out
                  rw [List.take_of_length_le (by omega)] at hown
                  obtain ⟨A5, c5, hv5, _, _, _⟩ := own_slice hown
                  rw [List.take_of_length_le (l := lq) (i := j) (by omega)] at HOWN4
                  rw [hv5] at hown
                  have HO5 := Lib.hid hown
                  have HE5 := Lib.hid (show ∀ g, (Value.slice A5 (lq.filter fun m => m != no).length c5).ownBlock = some g → w3.heap.size ≤ g from fun g e => (own_blk HO5.out g e).1)
                  subst hv5
                  obtain ⟨fl, hfl⟩ : ∃ fl, (lq.filter fun m => m != no).length = fl := ⟨_, rfl⟩
                  have HFL := Lib.hid hfl
                  have hcm := (show ¬ (fl : Int) < nl by have := congrArg List.length HLEN.out; rw [hfl] at this; have := HNL.out; omega)
                  have hcm2 := (show decide ((fl : Int) < (nl : Int)) = false from decide_eq_false hcm)
                  have hzb := HB3.out.up HB4.out HB3.out.lt
                  have cz4 := hzb.cell q _ HGZ.out
                  rw [← HNL.out] at cz4
                  have fz4 := hzb.free q
                  rw [hfl]
                  clear hown hfl hzb cz
                  go_wp2_with fail
                  go_meet
                  case rel =>
                    have hnd := num_drop (no := no) (HKq.out.nd q)
                    have h := (HKq.out.mono (Nat.le_succ k)).put HDQ.out (d' := (A5, c5, lq.filter fun m => m != no)) ((HT3.out.below HB4.out).mono (Nat.le_succ k)) ((HO3.out.mono fun _ _ e => .inl e).below_trans HB4.out) (own_lo HO5.out (Nat.le_trans HKq.out.up.size HO3.out.size)) (fun g e => .inr (Nat.le_trans HO3.out.size (HE5.out g e))) (by rw [hnd.1, ← HNQ.out]) hnd.2.1 (by rw [hnd.1]; exact (HKq.out.nd q).filter _) (fun x hx => HKq.out.g5 x (List.mem_of_mem_eraseP hx))
                    unfold sliceV at h
                    rw [HFL.out] at h
                    exact ⟨_, _, h⟩
          · have t1 : (x8 == 1) = false := by simpa using h1
            clear h0 h1
            have hk6 : k < 65535 := by omega
            have CE := c_opsh HKq.out.T hk6 q 5 0 0 0 no
            obtain ⟨er, her⟩ : ∃ er, putE 60 D q no = er := ⟨_, rfl⟩
            rw [her] at CE
            by_cases he0 : er = 0
            · have te : (er == 0) = true := by simpa using he0
              have hE : putE 60 D q no = 0 := her.trans he0
              rw [putL_ok (g := ⟨5, 0, 0, 0, no⟩) hE] at CE
              have hh : hasO D q no = false := by
                cases hh : hasO D q no
                · rfl
                · rw [put_there (oRng_at hq16') hh] at hE
                  cases hE
              have HH := Lib.hid hh
              have CE := Lib.hid CE
              clear he0 her hE hh
              go_wp2_with fail
              refine Calls.mono CE.out ?_
              rintro e w3 ⟨rfl, hT3, ho3⟩
              have hB3 := HBZ.out _ ho3
              have cz := hB3.cell q _ HGZ.out
              have HB3 := Lib.hid hB3
              have HT3 := Lib.hid hT3
              have HO3 := Lib.hid ho3
              have HOW := Lib.hid (HOWN.out _ ho3)
              have HNB := Lib.hid (fun g (e : (Value.slice Aq lq.length cpq).ownBlock = some g) => HKq.out.blk HDQ.out e)
              have hs3 := ho3.size
              have hsw := HKq.out.up.size
              clear hT3 ho3 hB3 cq hnl
              go_wp2_with (at_builtin; refine wpList_app3 ei_int rfl (.tmp 64) (.tmp 66) rfl (.slice Aq lq.length cpq) _ rfl (HOW.out.alloc _) rfl (RD.one (by simp)) (by simp [Value.oneCell']) (by omega) (by simp; omega) ?_; intro v' w4 hown4 hg4 hv4; obtain ⟨A5, c5, rfl, _, _, _⟩ := own_slice hown4; have HO4 := Lib.hid hown4; have HV4 := Lib.hid hv4; have HG4 := Lib.hid hg4; have hz4 := Blk.grown (HB3.out.alloc (.cells #[.int .i64 no] 3)) hg4 (fun e => (HNB.out _ e.symm).2.2 rfl); have cz4 := hz4.cell q _ HGZ.out; have fz4 := hz4.free q; clear hown4 hv4 hg4 hz4)
              go_meet
              case rel =>
                have hnp := fun p => num_put D q ⟨5, 0, 0, 0, no⟩ p
                have ho4 : Only (fun k => two S b k ∨ (Value.slice Aq lq.length cpq).ownBlock = some k) wd w4 := ((HO3.out.mono fun _ _ e => .inl e).alloc _).grown HG4.out fun k e => .inl (.inr e)
                have h := (HKq.out.mono (Nat.le_succ k)).put HDQ.out (d' := (A5, c5, lq ++ [no])) (M' := k + 1) (E := D ++ [⟨(q : Int), 5, 0, 0, 0, no⟩]) ?_ ho4 (by show World.ownsRow _ _ _ _ (.slice A5 (lq ++ [no]).length c5) _ _; rw [List.length_append, List.map_append]; exact HO4.out) (fun g e => ?_) (by rw [hnp, if_pos rfl, ← HNQ.out]) (fun p hp => by rw [hnp, if_neg hp]) (by rw [hnp, if_pos rfl]; exact nodup_snoc (HKq.out.nd q) (num_fresh HH.out)) (fun x hx => ?_)
                · unfold sliceV at h
                  rw [List.length_append, List.length_singleton] at h
                  exact ⟨_, _, h⟩
                · exact HT3.out.turn HG4.out (fun g cs T e hB => by obtain ⟨_, cs', hB'⟩ := own_blk HOW.out g e; unfold Blk at hB hB'; rw [hB] at hB'; injection hB' with hB'; injection hB' with _ hT _)
                · unfold sliceV at e
                  rw [List.length_append, List.length_singleton] at e
                  rcases HV4.out g e with h1 | h1
                  · exact .inl h1
                  · exact .inr (by simp at h1; omega)
                · rcases List.mem_append.1 hx with hx | hx
                  · exact HKq.out.g5 x hx
                  · obtain rfl : x = _ := List.mem_singleton.1 hx
                    exact ⟨rfl, rfl⟩
            · have te : (er == 0) = false := by simpa using he0
              have hE : putE 60 D q no ≠ 0 := by rw [her]; exact he0
              rw [putL_no (g := ⟨5, 0, 0, 0, no⟩) hE] at CE
              have CE := Lib.hid CE
              clear he0 her hE
              go_wp2_with fail
              refine Calls.mono CE.out ?_
              rintro e w3 ⟨rfl, hT3⟩
              have HT3 := Lib.hid hT3
              clear hT3 cq
              go_wp2_with fail
              go_meet
              case rel => exact ⟨D, Q, HKq.out.same HT3.out⟩
      case rest =>
        obtain ⟨D1, Q1, hK1⟩ := hcut
        have HK1 := Lib.hid hK1
        have HW1 := Lib.hid hK1.T.who
        have hD1 := hK1.T.room_.1
        clear hK1 HKq
        go_wp2_with fail
        go_loopw [14, 15, 16, 116] (fun m _ _ i wq => ∃ p : Nat, p ≤ 16 ∧ i = .int .i64 p ∧ m = .int .i64 (cntO D1 p : Nat) ∧ Below wc.heap.size wc wq) (fun _ _ _ i _ => 16 - (intOf i).toNat)
        case atStart => exact ⟨0, by omega, rfl, rfl, Below.refl _ _⟩
        case round =>
          rename World => wq
          obtain ⟨p, hp, rfl, rfl, hbq⟩ := hrel
          have HBQ := Lib.hid hbq
          clear hbq
          by_cases hp16 : p < 16
          · obtain ⟨⟨Ap, cpp, lp⟩, hdp, cp0, hnp, rdp⟩ := (HK1.out.below HBQ.out).at_ hp16
            simp only at cp0 hnp rdp
            have hzl := (HK1.out.below HBQ.out).B.lt
            have hcl := cnt_le HW1.out (q := p + 1) (by omega)
            have HCN := Lib.hid (cnt_next D1 p)
            rw [cnt_next] at hcl
            have CG := c_oOf (HK1.out.T.below HBQ.out) p
            have HGM : Hid ((ofL D1 p).map (·.n) = lp) := Lib.hid (by rw [num_of, hnp])
            have HGL : Hid ((ofL D1 p).length = (whoO D1 p).length) := Lib.hid (by unfold ofL; rw [List.length_map])
            have hwl := who_len D1 p
            have hgl := of_few3 D1 p
            generalize ofL D1 p = gs at CG HGM HGL hgl
            have hll : lp.length = gs.length := by rw [← HGM.out, List.length_map]
            rw [hll] at cp0 rdp
            have HRP := Lib.hid rdp
            have CG := Lib.hid CG
            have HBZ1 := Lib.hid (HK1.out.below HBQ.out).B
            have HGZ1 : Hid ((Q1.map sliceV)[p]? = some (.slice Ap gs.length cpp)) := Lib.hid (by rw [List.getElem?_map, hdp]; show some (sliceV (Ap, cpp, lp)) = _; unfold sliceV; rw [hll])
            clear hdp hnp rdp hll
            have hpp0 : (0 : Int) ≤ p := by omega
            have hpp1 : (p : Int) < 16 := by omega
            have hne : ((gs.length : Int) != gs.length) = false := by simp
            go_wp2_with fail
            refine Calls.mono CG.out ?_
            rintro e w3 ⟨A3, c3, rfl, rd3, hb3⟩
            have HRD3 := Lib.hid rd3
            have HRP3 := Lib.hid (HRP.out.below hb3)
            have HB3 := Lib.hid hb3
            have hBZ3 := HBZ1.out.up hb3 HBZ1.out.lt
            have cp0 := hBZ3.cell p _ HGZ1.out
            clear rd3 hb3 CG HRP hBZ3
            go_wp2_with fail
            go_loopw [17, 131] (fun _ i w4 => ∃ j : Nat, j ≤ gs.length ∧ i = .int .i64 j ∧ Drew w3 w4) (fun _ i _ => gs.length - (intOf i).toNat)
            case atStart => exact ⟨0, Nat.zero_le _, rfl, Drew.refl _⟩
            case round =>
              rename World => w4
              obtain ⟨j, hj, rfl, dd, rfl⟩ := hrel
              by_cases hjl : j < gs.length
              · have hx : gs[j]? = some gs[j] := List.getElem?_eq_getElem hjl
                obtain ⟨b5, o5, rfl, _, _, _, _, _, g4⟩ := HRD3.out.gd j _ hx hjl
                obtain ⟨b6, o6, rfl, _, _, hc6⟩ := HRP3.out.at_ (by omega)
                replace hc6 := hc6 j (.int .i64 gs[j].n) (by rw [List.getElem?_map, ← HGM.out, List.getElem?_map, hx]; rfl)
                have hj0 : (0 : Int) ≤ j := by omega
                have hj1 : (j : Int) < gs.length := by omega
                have hnn : (gs[j].n != gs[j].n) = false := by simp
                clear hx
                generalize gs[j].n = y at g4 hc6 hnn
                go_wp2_with fail
                go_quiet (fail)
                go_wp2
                go_roundw
                case rel => exact ⟨j + 1, by omega, by go_num, _, rfl⟩
                case measure => simp [intOf]; omega
              · obtain rfl : j = gs.length := by omega
                have hgw := HGL.out
                go_wp2_with fail
                go_roundw
                case rel => exact ⟨p + 1, by omega, by go_num, by rw [HCN.out, ← HGL.out]; go_num, up_trans (up_trans HBQ.out HB3.out) (up_drewN _ _)⟩
                case measure => simp [intOf]; omega
          · obtain rfl : p = 16 := by omega
            have hc16 := cnt_all D1 HW1.out
            rw [hc16]
            have CL := Lib.hid (c_olen (HK1.out.T.below HBQ.out))
            have COn := c_oOn (D := D1) (HK1.out.T.below HBQ.out)
            have hoa := on_all HW1.out HK1.out.g5
            have hdd : ((D1.length : Int) != D1.length) = false := by simp
            clear hc16
            go_wp2_with fail
            refine Calls.mono CL.out ?_
            rintro e w5 ⟨rfl, hb5⟩
            go_wp2_with fail
            refine Calls.mono (c_oOn ((HK1.out.T.below HBQ.out).below hb5) 5 0) ?_
            rintro e w6 ⟨A6, c6, rfl, _, hb6⟩
            rw [hoa]
            go_wp2_with fail
            go_roundw
            case rel => exact ⟨k + 1, D1, Q1, by omega, by go_num, HK1.out.below (up_trans (up_trans HBQ.out hb5) hb6)⟩
            case measure => simp [intOf]; omega
    · obtain rfl : k = n := by omega
      go_wp2_with fail
      refine (c_alive _).mono ?_
      rintro e w7 ⟨rfl, hb7⟩
      go_wp2_with fail
      go_ret
      exact ⟨rfl, up_trans hKr.up hb7⟩
end Go.Proofs.Ytgigcjhggpknnaa

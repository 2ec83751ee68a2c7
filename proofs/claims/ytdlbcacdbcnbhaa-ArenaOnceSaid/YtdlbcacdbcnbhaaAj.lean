/- The contract of the law ArenaOnce. -/
import Derived.Test.YtdlbcacdbcnbhaaAi
namespace Go.Proofs.Ytdlbcacdbcnbhaa
open Go.RowKit

theorem c_newI (room last : Int) (h0 : 1 ≤ room) (h1 : room ≤ 4096) (l0 : 1 ≤ last) (l1 : last ≤ 65535) (w : World) :
    Calls Try.prog 7 #[.int .i64 room, .int .i64 last] w (NewPost w room.toNat last) := by
  obtain ⟨n, rfl⟩ := Int.eq_ofNat_of_zero_le (show 0 ≤ room by omega)
  exact c_new n (by omega) (by omega) last l0 l1 w
theorem AT.asideT {w : World} {t S b9 : Nat} {last : Int} {τ : List Slot} {cs : List Value} {T : TypeId} (h : AT w t S last τ) (hB : Blk w b9 cs T) (h1 : 51 ≠ T) (h2 : 60 ≠ T) (h3 : 3 ≠ T) (j : Nat) (u : Value) : AT (w.setCell ⟨b9, j, none⟩ u) t S last τ :=
  ⟨h.tab.other _ (h.tab.ne hB h1) u, h.row.other _ (h.row.ne hB h2) u, fun s hs b x e => (h.one s hs b x e).other _ ((h.one s hs b x e).ne hB h3) u, h.pos, h.few⟩
theorem Blk.grownT {w w' : World} {b : Nat} {cs : List Value} {t T : TypeId} {row : Option Nat} (h : Blk w b cs t) (hg : w.grownBy w' row) (hr : ∀ g, row = some g → ∃ cs, Blk w g cs T) (hne : t ≠ T) : Blk w' b cs t :=
  h.grown hg fun e => by
    obtain ⟨cs', hB⟩ := hr b e.symm
    exact h.ne hB hne rfl
theorem AT.grownT {w w' : World} {t S : Nat} {last : Int} {τ : List Slot} {row : Option Nat} {T : TypeId} (h : AT w t S last τ) (hg : w.grownBy w' row) (hr : ∀ g, row = some g → ∃ cs, Blk w g cs T) (h1 : 51 ≠ T) (h2 : 60 ≠ T) (h3 : 3 ≠ T) : AT w' t S last τ :=
  ⟨h.tab.grownT hg hr h1, h.row.grownT hg hr h2, fun s hs b x e => (h.one s hs b x e).grownT hg hr h3, h.pos, h.few⟩

/-- What holds at the head of each round. -/
structure OR (w : World) (t S lo : Nat) (last : Int) (G : List Step) (τ : List Slot) (v : Value) (wr : World) : Prop where
  H : AT wr t S last τ
  gb : GB last τ
  inv : Inv τ G
  own : wr.ownsRow lo 35 3 v G.length (G.flatMap stepV)
  up : Below w.heap.size w wr
  big : lo ≤ wr.heap.size
theorem OR.below {w wr wr' : World} {t S lo : Nat} {last : Int} {G : List Step} {τ : List Slot} {v : Value} (h : OR w t S lo last G τ v wr) (hb : Below wr.heap.size wr wr') : OR w t S lo last G τ v wr' :=
  ⟨h.H.below hb, h.gb, h.inv, own_below h.own hb, up_trans h.up hb, Nat.le_trans h.big hb.size⟩

theorem ei_step : EI Try.prog 22 35 (.agg #[.int .u8 0, .int .i64 0, .int .i64 0]) 3 24 := ⟨Try.underlying22, by kernel_rfl, rfl, by omega, by omega⟩

set_option maxRecDepth 100000 in
set_option maxHeartbeats 4000000 in
theorem l_once_run (r l : Int) (r0 : 0 ≤ r) (r1 : r ≤ 255) (l0 : 0 ≤ l) (l1 : l ≤ 255) (A : Option Addr) (n cp : Nat) (L : List Step) (w : World) (hR : RD w (fun _ => True) 3 A n (L.flatMap stepV)) (hn : L.length = n) (hL : ∀ p ∈ L, StepOk p) (h80 : n ≤ 80) :
    Calls Try.prog 4 #[.int .u8 r, .int .u8 l, .slice A n cp] w fun e w' => e = .returned (.bool true) ∧ Below w.heap.size w w' := by
  have HL := Lib.hid hL
  have HN := Lib.hid hn
  clear hL hn
  go_enter Try.func4, Try.ntmps4
  go_wp2_with fail
  refine (c_newI _ _ (by omega) (by omega) (by omega) (by omega) w).mono ?_
  rintro e w1 ⟨t, S, rfl, H1, ht, hS, hb1⟩
  have hz1 := H1.row.lt
  have hlast : ∃ last, last = 1 + l % 5 := ⟨_, rfl⟩
  obtain ⟨last, hlast⟩ := hlast
  rw [← hlast] at H1
  have hl0 : 1 ≤ last := by omega
  have hl1 : last ≤ 5 := by omega
  have HLA := Lib.hid hlast
  clear hlast
  have hrel0 : OR w t S w1.heap.size last [] _ (.slice none 0 0) w1 := ⟨H1, GB.rep last (by omega) _, Inv.nil _, World.ownsRow_nil _ _ _ _, hb1, Nat.le_refl _⟩
  have HREL := Lib.hid hrel0
  clear hrel0 H1
  go_wp2_with fail
  go_loopw [9, 11, 12, 13, 14, 15, 17, 53] (fun v _ _ _ _ _ _ i wr => ∃ k : Nat, k ≤ n ∧ i = .int .i64 k ∧ ∃ G τ, G.length ≤ k ∧ OR w t S w1.heap.size last G τ v wr) (fun _ _ _ _ _ _ _ i _ => n - (intOf i).toNat)
  case atStart => exact ⟨0, Nat.zero_le _, rfl, [], _, Nat.le_refl _, HREL.out⟩
  case round =>
    clear HREL
    obtain ⟨k, hk, rfl, G, τ, hGk, O⟩ := hrel
    by_cases hlt : k < n
    · obtain ⟨bL, oL, rfl, hbL, ⟨dd, hh, xx⟩, hp, a0, a1, a2⟩ := (hR.below O.up).step HN.out k hlt
      have hok := HL.out _ (List.mem_of_getElem? hp)
      obtain ⟨⟨d0, d1⟩, hI, _⟩ := hok
      simp only at a0 a1 a2 d0 d1 hI
      have HI := Lib.hid hI
      have hI0 := hI.1
      have hI1 := hI.2
      clear hp hI
      have hS9 : S < wr.heap.size := O.H.row.lt
      obtain ⟨AG, cG, rfl, hcG, hmG, _⟩ := own_slice O.own
      have hlo := O.up.size
      have hbig := O.big
      have hownr := O.own
      have ups := up_alloc wr (.cells #[.int .u8 dd, .int .i64 hh, .int .i64 xx] 35)
      have hbs : Blk (wr.alloc (.cells #[.int .u8 dd, .int .i64 hh, .int .i64 xx] 35)) wr.heap.size [.int .u8 dd, .int .i64 hh, .int .i64 xx] 35 := Blk.new wr [.int .u8 dd, .int .i64 hh, .int .i64 xx] _
      generalize hws : wr.alloc (.cells #[.int .u8 dd, .int .i64 hh, .int .i64 xx] 35) = ws at ups hbs
      have HWS := Lib.hid hws
      have Os := O.below ups
      have hzs := hbs.lt
      clear hws O
      by_cases hA : dd % 2 = 0 ∧ 0 < G.length
      · obtain ⟨hd2, hG0⟩ := hA
        have q0 : (dd % 2 == 0) = true := by simp [hd2]
        have hgi : (0 : Int) < (G.length : Int) := by omega
        clear hd2
        obtain ⟨gB, cap, eG, _, _, hgB, hgB2⟩ := own_form hownr hG0
        cases eG
        obtain ⟨ki, hki, hkl⟩ := pick_ix hh G.length hG0 (by omega)
        obtain ⟨gd, gh, gx, hGi⟩ : ∃ gd gh gx, G[ki]? = some (gd, gh, gx) := ⟨_, _, _, List.getElem?_eq_getElem hkl⟩
        have e0 : (G.flatMap stepV)[ki * 3]? = some (.int .u8 gd) := by
          rw [show ki * 3 = ki * 3 + 0 from rfl, flat_get stepV 3 stepV_len G ki 0 _ hGi (by omega)]
          rfl
        have e1 : (G.flatMap stepV)[ki * 3 + 1]? = some (.int .i64 gh) := by
          rw [flat_get stepV 3 stepV_len G ki 1 _ hGi (by omega)]
          rfl
        have g1 := (hownr.cellAt (ki * 3 + 1) (by omega)).trans e1
        have E0 := Lib.hid e0
        have HGI := Lib.hid hGi
        obtain ⟨er, τ', hcase, I', gb', CD⟩ := drop_given Os.H Os.gb Os.inv ki gd gh gx hGi
        have CD := Lib.hid CD
        have hne1 : gB ≠ wr.heap.size := by omega
        have hne2 : wr.heap.size ≠ gB := by omega
        have hki0 : (0 : Int) ≤ (ki : Int) := by omega
        clear e0 e1 hGi hownr
        rcases hcase with ⟨rfl, rfl⟩ | ⟨rfl, rfl⟩
        all_goals
          go_wp2_with fail
          rw [HWS.out]
          refine Calls.mono CD.out ?_
          rintro e w3 ⟨rfl, H3, hb3⟩
          have own3 := own_only Os.own hb3 (fun k e => by omega)
          have g0 := (own3.cellAt (ki * 3) (by omega)).trans E0.out
          have gf := own3.frozenAt (ki * 3)
          have up3 := Os.up.trans (hb3.toBelow Os.up.size (fun i e => e ▸ hS))
          obtain ⟨_, cs, hBg⟩ := own_blk own3 gB rfl
          have own4 := (own3.stored (ki * 3) (.int .u8 0)).1
          have H4 := H3.asideT hBg (by decide) (by decide) (by decide) (ki * 3) (.int .u8 0)
          have up4 : Below w.heap.size w (w3.setCell ⟨gB, ki * 3, none⟩ (.int .u8 0)) := up3.setCell (by simp; omega) _
          go_wp2_with fail
          go_roundw
          case rel =>
            refine ⟨k + 1, by omega, by go_num, G.set ki (0, gh, gx), τ', by simp; omega, H4, gb', I', ?_, up4, by have := hb3.size; simp [World.setCell]; omega⟩
            rw [List.length_set, ← flat_set stepV 3 stepV_len G ki _ (0, gh, gx) (.int .u8 0) 0 HGI.out (by omega) rfl]
            exact own4
          case measure => simp [intOf]; omega
      · have hq : (dd % 2 == 0) = false ∨ ((dd % 2 == 0) = true ∧ ¬ (0 : Int) < (G.length : Int)) := by
          by_cases h2 : dd % 2 = 0
          · exact .inr ⟨by simp [h2], by omega⟩
          · exact .inl (beq_eq_false_iff_ne.2 h2)
        have hGb : G.length ≤ 80 := by omega
        clear hA hownr
        rcases add_given Os.H Os.gb Os.inv (by omega) xx with ⟨hd, τ', I', hnew, gb', CA⟩ | CA
        · have CA := Lib.hid CA
          have HNW := Lib.hid hnew
          clear hnew
          rcases hq with q0 | ⟨q0, hgi⟩
          all_goals
            go_wp2_with fail
            try clear hgi
            rw [HWS.out]
            refine Calls.mono CA.out ?_
            rintro e w3 ⟨rfl, H3, hb3⟩
            have own3 := own_only Os.own hb3 (fun k e => by omega)
            have hbs3 := hbs.only hb3 (by omega)
            have up3 := Os.up.trans (hb3.toBelow Os.up.size (fun i e => e ▸ hS))
            have hz3 := hb3.size
            clear hbs
            go_wp2_with fail
            go_loopw [17, 105] (fun _ i wi => ∃ q : Nat, q ≤ G.length ∧ i = .int .i64 q ∧ Below w3.heap.size w3 wi) (fun _ i _ => G.length - (intOf i).toNat)
            case atStart => exact ⟨0, Nat.zero_le _, rfl, Below.refl _ _⟩
            case round =>
              obtain ⟨q, hq, rfl, hbi⟩ := hrel
              have owni := own_below own3 hbi
              by_cases hql : q < G.length
              · first
                | (exfalso; omega)
                | (obtain ⟨gB, cap, eG, _, _, hgB, hgB2⟩ := own_form owni (by omega)
                   cases eG
                   obtain ⟨gd, gh, gx, hGi⟩ : ∃ gd gh gx, G[q]? = some (gd, gh, gx) := ⟨_, _, _, List.getElem?_eq_getElem hql⟩
                   have e0 : (G.flatMap stepV)[q * 3]? = some (.int .u8 gd) := by
                     rw [show q * 3 = q * 3 + 0 from rfl, flat_get stepV 3 stepV_len G q 0 _ hGi (by omega)]
                     rfl
                   have e1 : (G.flatMap stepV)[q * 3 + 1]? = some (.int .i64 gh) := by
                     rw [flat_get stepV 3 stepV_len G q 1 _ hGi (by omega)]
                     rfl
                   have e2 : (G.flatMap stepV)[q * 3 + 2]? = some (.int .i64 gx) := by
                     rw [flat_get stepV 3 stepV_len G q 2 _ hGi (by omega)]
                     rfl
                   have g0 := (owni.cellAt (q * 3) (by omega)).trans e0
                   have g1 := (owni.cellAt (q * 3 + 1) (by omega)).trans e1
                   have g2 := (owni.cellAt (q * 3 + 2) (by omega)).trans e2
                   have hne : (gh == hd) = false := beq_eq_false_iff_ne.2 (HNW.out _ (List.mem_of_getElem? hGi))
                   clear e0 e1 e2 hGi
                   go_wp2_with fail
                   go_roundw
                   case rel => exact ⟨q + 1, by omega, by go_num, up_trans hbi (up_alloc _ _)⟩
                   case measure => simp [intOf]; omega)
              · obtain rfl : q = G.length := by omega
                have hbsi := hbs3.up hbi hbs3.lt
                have x2 := hbsi.cell 2 _ rfl
                have hzi := hbi.size
                go_wp2_with (at_builtin; refine wpList_app2 ei_step rfl (.tmp 114) (.tmp 119) rfl _ _ rfl (owni.alloc _) rfl (RD.one3 (by simp)) (by simp [Value.oneCell']) (by omega) (by simp; omega) ?_; intro v' w5 hown5 hgr5)
                have upi := (up_trans up3 hbi).alloc (by have := up3.size; omega) (.cells #[.int .u8 1, .int .i64 hd, .int .i64 xx] 35)
                have hwi := up3.size
                have hbk := own_blk (owni.alloc (.cells #[.int .u8 1, .int .i64 hd, .int .i64 xx] 35))
                have H5 := ((H3.below hbi).alloc (.cells #[.int .u8 1, .int .i64 hd, .int .i64 xx] 35)).grownT hgr5 (fun g e => (hbk g e).2) (by decide) (by decide) (by decide)
                have up5 := upi.grown hgr5 (by simp; omega) (fun g e => by have := (hbk g e).1; have := hb1.size; omega)
                go_roundw
                case rel =>
                  refine ⟨k + 1, by omega, by go_num, G ++ [(1, hd, xx)], τ', by simp; omega, H5, gb', I', ?_, up5, by have := hgr5.size; simp at this; omega⟩
                  rw [List.length_append, List.flatMap_append]
                  exact hown5
                case measure => simp [intOf]; omega
        · have CA := Lib.hid CA
          rcases hq with q0 | ⟨q0, hgi⟩
          all_goals
            go_wp2_with fail
            try clear hgi
            rw [HWS.out]
            refine Calls.mono CA.out ?_
            rintro e w3 ⟨rfl, hb3⟩
            go_wp2_with fail
            go_roundw
            case rel => exact ⟨k + 1, by omega, by go_num, G, τ, by omega, Os.below hb3⟩
            case measure => simp [intOf]; omega
    · obtain rfl : k = n := by omega
      obtain ⟨AG, cG, rfl, hcG, hmG, _⟩ := own_slice O.own
      have hb01 := sumQ_bd G O.inv.do01
      have hGb : G.length ≤ 80 := by omega
      have HB := Lib.hid hb01
      have hcnt : (sumQ G G.length : Int) = (lenT τ : Int) := by rw [sumQ_all, O.inv.cnt]
      have HC := Lib.hid hcnt
      clear hb01 hcnt
      go_wp2_with fail
      go_loopw [18, 20, 21, 22, 124] (fun m _ _ _ i wi => ∃ q : Nat, q ≤ G.length ∧ i = .int .i64 q ∧ m = .int .i64 (sumQ G q) ∧ Below wr.heap.size wr wi) (fun _ _ _ _ i _ => G.length - (intOf i).toNat)
      case atStart => exact ⟨0, Nat.zero_le _, rfl, rfl, Below.refl _ _⟩
      case round =>
        obtain ⟨q, hq, rfl, rfl, hbi⟩ := hrel
        have owni := own_below O.own hbi
        have Hi := O.H.below hbi
        obtain ⟨sb0, sb1⟩ := HB.out q
        by_cases hql : q < G.length
        · obtain ⟨gB, cap, eG, _, _, hgB, hgB2⟩ := own_form owni (by omega)
          cases eG
          obtain ⟨gd, gh, gx, hGi⟩ : ∃ gd gh gx, G[q]? = some (gd, gh, gx) := ⟨_, _, _, List.getElem?_eq_getElem hql⟩
          have e0 : (G.flatMap stepV)[q * 3]? = some (.int .u8 gd) := by
            rw [show q * 3 = q * 3 + 0 from rfl, flat_get stepV 3 stepV_len G q 0 _ hGi (by omega)]
            rfl
          have e1 : (G.flatMap stepV)[q * 3 + 1]? = some (.int .i64 gh) := by
            rw [flat_get stepV 3 stepV_len G q 1 _ hGi (by omega)]
            rfl
          have e2 : (G.flatMap stepV)[q * 3 + 2]? = some (.int .i64 gx) := by
            rw [flat_get stepV 3 stepV_len G q 2 _ hGi (by omega)]
            rfl
          have g0 := (owni.cellAt (q * 3) (by omega)).trans e0
          have g1 := (owni.cellAt (q * 3 + 1) (by omega)).trans e1
          have g2 := (owni.cellAt (q * 3 + 2) (by omega)).trans e2
          have HS := Lib.hid (sumQ_next G q _ hGi)
          obtain ⟨y, er, hcase, CG⟩ := get_given (t := t) (S := S) (last := last) O.inv q gd gh gx hGi
          have CG := Lib.hid CG
          have hyy : (gx != gx) = false := by simp
          clear e0 e1 e2 hGi
          rcases hcase with ⟨rfl, rfl, rfl⟩ | ⟨rfl, rfl⟩
          · go_wp2_with fail
            refine Calls.mono (CG.out _ (Hi.alloc _)) ?_
            rintro e w' ⟨rfl, n7, rfl⟩
            go_wp2_with fail
            go_roundw
            case rel => exact ⟨q + 1, by omega, by go_num, by rw [HS.out]; try go_num, up_trans hbi (up_trans (up_alloc _ _) (up_drewN _ _))⟩
            case measure => simp [intOf]; omega
          · go_wp2_with fail
            refine Calls.mono (CG.out _ (Hi.alloc _)) ?_
            rintro e w' ⟨rfl, n7, rfl⟩
            go_wp2_with fail
            go_roundw
            case rel => exact ⟨q + 1, by omega, by go_num, by rw [HS.out]; try go_num, up_trans hbi (up_trans (up_alloc _ _) (up_drewN _ _))⟩
            case measure => simp [intOf]; omega
        · obtain rfl : q = G.length := by omega
          rw [HC.out]
          have hll : ((lenT τ : Int) == (lenT τ : Int)) = true := by simp
          go_wp2_with fail
          refine (c_len Hi).mono ?_
          rintro e w6 ⟨rfl, hb6⟩
          go_wp2_with fail
          refine (c_alive _).mono ?_
          rintro e w7 ⟨rfl, hb7⟩
          go_wp2_with fail
          go_ret
          exact ⟨rfl, up_trans O.up (up_trans hbi (up_trans hb6 hb7))⟩

set_option maxRecDepth 100000 in
set_option maxHeartbeats 1000000 in
theorem l_once (r l : Int) (r0 : 0 ≤ r) (r1 : r ≤ 255) (l0 : 0 ≤ l) (l1 : l ≤ 255) (A : Option Addr) (n cp : Nat) (L : List Step) (w : World) (hR : RD w (fun _ => True) 3 A n (L.flatMap stepV)) (hn : L.length = n) (hL : ∀ p ∈ L, StepOk p) :
    Calls Try.prog 4 #[.int .u8 r, .int .u8 l, .slice A n cp] w fun e w' => e = .returned (.bool true) ∧ Below w.heap.size w w' := by
  by_cases h80 : n ≤ 80
  · exact l_once_run r l r0 r1 l0 l1 A n cp L w hR hn hL h80
  · have h80' : 80 < n := by omega
    clear hR hn hL h80
    go_enter Try.func4, Try.ntmps4
    go_wp2_with fail
    refine (c_newI _ _ (by omega) (by omega) (by omega) (by omega) w).mono ?_
    rintro e w1 ⟨t, S, rfl, H1, ht, hS, hb1⟩
    go_wp2_with fail
    refine (c_alive _).mono ?_
    rintro e w7 ⟨rfl, hb7⟩
    go_wp2_with fail
    go_ret
    exact ⟨rfl, up_trans hb1 hb7⟩
end Go.Proofs.Ytdlbcacdbcnbhaa

/- Tables of the document's barriers whose lists all lie in given places; Offer keeps them there. -/
import Derived.Test.YtdiiilnebepfdaaGreatDoorD5
namespace Go.Proofs.YtdiiilnebepfdaaGreatDoor
open Go.RowKit

/-- A slice that reads as a table of these, all in places of Y. -/
def DY (w : World) (Y : Nat → Prop) (A : Option Addr) (n : Nat) (L : List BR) : Prop := ∃ Q : List (BR × DM), TW dB w Y A n Q ∧ Q.map Prod.fst = L
theorem DY.below {w w' : World} {Y : Nat → Prop} {A : Option Addr} {n : Nat} {L : List BR} (h : DY w Y A n L) (hb : Below w.heap.size w w') : DY w' Y A n L := by
  obtain ⟨Q, h1, h2⟩ := h
  exact ⟨Q, h1.below hb, h2⟩
theorem DY.only {s : Nat → Prop} {w w' : World} {Y : Nat → Prop} {A : Option Addr} {n : Nat} {L : List BR} (h : DY w Y A n L) (o : Only s w w') (hs : ∀ k, s k → ¬ Y k) : DY w' Y A n L := by
  obtain ⟨Q, h1, h2⟩ := h
  exact ⟨Q, h1.only o hs, h2⟩
theorem DY.lo {w : World} {Y Z : Nat → Prop} {A : Option Addr} {n : Nat} {L : List BR} (h : DY w Y A n L) (hl : ∀ b, Y b → Z b) : DY w Z A n L := by
  obtain ⟨Q, h1, h2⟩ := h
  exact ⟨Q, h1.lo hl, h2⟩
theorem DY.d {w : World} {Y : Nat → Prop} {A : Option Addr} {n : Nat} {L : List BR} (h : DY w Y A n L) : DT w A n L := by
  obtain ⟨Q, h1, h2⟩ := h
  exact ⟨Q, h1.lo (fun _ _ => trivial), h2⟩
theorem DY.of {w : World} {A : Option Addr} {n : Nat} {L : List BR} (h : DT w A n L) : DY w (fun b => b < w.heap.size) A n L := by
  obtain ⟨Q, h1, h2⟩ := h
  exact ⟨Q, ⟨h1.rd.lt.lo (fun _ h => h.2), h1.len, fun q hq => dB.lo (dB.lt (h1.each q hq)) (fun _ h => h.2)⟩, h2⟩
theorem DY.len {w : World} {Y : Nat → Prop} {A : Option Addr} {n : Nat} {L : List BR} (h : DY w Y A n L) : L.length = n := h.d.len
theorem DY.at_ {w : World} {Y : Nat → Prop} {A : Option Addr} {n : Nat} {L : List BR} (h : DY w Y A n L) (k : Nat) (hk : k < n) :
    ∃ b o q M, A = some ⟨b, o, Option.none⟩ ∧ b < w.heap.size ∧ L[k]? = some q ∧ w.rangeAt b (o + k * 5) (dbC q M) ∧ DW w Y q.r M := by
  obtain ⟨Q, h1, rfl⟩ := h
  obtain ⟨b, o, q, e, _, h3, h4, h5, h6⟩ := h1.at_ k hk
  exact ⟨b, o, q.1, q.2, e, h3, by rw [List.getElem?_map, h4]; rfl, h5, h6⟩
theorem own_tw {α : Type} {K : Mk α} {w : World} {Y : Nat → Prop} {T : TypeId} {lo n : Nat} {v : Value} {L : List α} (hl : L.length = n) (h : w.ownsRow lo T K.m v n (L.flatMap K.f)) (hY : ∀ b, lo ≤ b → Y b) (he : ∀ q ∈ L, K.E Y q w) : ∃ A c, v = .slice A n c ∧ TW K w Y A n L := by
  obtain ⟨A, c, rfl, h1, h2, h3⟩ := own_slice h
  exact ⟨A, c, rfl, h3.lo hY, hl, he⟩
def UPY (w : World) (Y : Nat → Prop) (n : Nat) (Q : List (BR × DM)) (e : Ending) (w' : World) : Prop := ∃ A' c', e = .returned (.tuple #[.slice A' n c', .int .i64 0]) ∧ TW dB w' Y A' n Q ∧ Below w.heap.size w w'
def UOfY (w : World) (Y : Nat → Prop) (n : Nat) (x : List BR × Nat × Int) (e : Ending) (w' : World) : Prop :=
  ∃ A' c', e = .returned (.tuple #[.slice A' n c', .int .i64 (x.2.1 : Nat), .int .i64 x.2.2]) ∧ DY w' Y A' n x.1 ∧ Below w.heap.size w w'
set_option maxRecDepth 100000 in
set_option maxHeartbeats 4000000 in
theorem c_uputY {w : World} {Y : Nat → Prop} {A : Option Addr} {n c : Nat} {Q : List (BR × DM)} (h : TW dB w Y A n Q) (hY : ∀ b, w.heap.size ≤ b → Y b) (hn : n ≤ 100000) (k : Nat) (hk : k < n) {b : BR} {M : DM} (hd : DW w Y b.r M) :
    Calls Tryz.prog 72 #[.slice A n c, .int .i64 (k : Int), .agg (dbC b M).toArray, .int .i64 0] w (UPY w Y n (Q.set k (b, M))) := by
  have up := up_alloc w (.cells (dbC b M).toArray 113)
  have K := Blk.new w (dbC b M) 113
  generalize hw1 : w.alloc (.cells (dbC b M).toArray 113) = w1 at up K
  have HW := Lib.hid hw1
  have UP := Lib.hid up
  have KB := Lib.hid K
  have HD := Lib.hid (hd.below up)
  have h1 := h.below up
  have HT := Lib.hid h1
  have HY := Lib.hid (fun b hb => hY b (Nat.le_trans up.size hb))
  have hown := World.ownsRow_nil w1 w1.heap.size 113 5
  have HRD : Hid (RD w1 Y 5 A n (Q.flatMap dB.f)) := Lib.hid h1.rd
  have HON := Lib.hid (dB.oneL Q)
  have hkn : (k : Int) < (n : Int) := by omega
  clear h hY hd up K hw1 h1
  · skip
    go_enter Tryz.func72, Tryz.ntmps72
    go_upto_region 1 with fail
    rw [HW.out]
    go_upto_region 4 with (at_builtin; refine wpList_app ei_dt rfl (.const (.slice none 0 0)) (.tmp 15) rfl _ [] rfl hown rfl HRD.out HON.out (by omega) (Nat.le_refl _) ?_; intro v2 w2 hown2 hb2; simp only [Nat.zero_add, List.nil_append] at hown2)
    have ho : OT dB w2 113 w1.heap.size v2 n Q := OT.of (K := dB) hown2 (fun q hq => (HT.out.each q hq).lo (fun _ _ => trivial)) hb2
    obtain ⟨g, c2, q, rfl, hlo, hgl, _, _, hth, _⟩ := ho.at_ k hk
    have KB2 := Lib.hid (KB.out.up hb2 KB.out.lt)
    have HTH : Hid (w2.there g (k * 5) (dbC b M).length) := Lib.hid hth
    have HDN : DW w2 (nOwn (.slice (some ⟨g, 0, none⟩) n c2)) b.r M := (HD.out.lt.below hb2).lo (fun j hj e => by
      have := (ho.own.lt j e).1
      omega)
    have HP := Lib.hid (ho.put k hk (b, M) HDN)
    have HBX := Lib.hid (Only.later hb2 (only_cells (dbC b M) (k * 5) w2) (by rintro i rfl; exact hlo))
    have HB := Lib.hid (up_trans UP.out (Only.later hb2 (only_cells (dbC b M) (k * 5) w2) (by rintro i rfl; exact hlo)))
    clear hown hown2 hb2 ho hlo hgl hth HDN
    go_wp2_with (first | (refine ldr (b := w.heap.size) (t := 113) (cs := dbC b M) (.tmp 6) rfl rfl Tryz.underlying113 rfl info_db rfl ?_ ?_; (· exact KB2.out)) | (refine smr (b := g) (q := k * 5) (cs := dbC b M) (.tmp 20) (.tmp 19) rfl rfl rfl rfl info_db dbC_one ?_ ?_; (· exact HTH.out)))
    go_ret2
    obtain ⟨A', c', e', ht⟩ := own_tw (K := dB) (by rw [List.length_set]; exact HT.out.len) HP.out.own HY.out (fun q hq => (List.mem_or_eq_of_mem_set hq).elim (fun h => (dB.below (HT.out.each q h) HBX.out)) (fun h => by rw [h]; exact dB.below (q := (b, M)) HD.out HBX.out))
    injection e' with e1 e2 e3
    subst e1 e3
    exact ⟨_, _, rfl, ht, HB.out⟩
def UPD (w : World) (Y : Nat → Prop) (n : Nat) (L : List BR) (e : Ending) (w' : World) : Prop := ∃ A' c', e = .returned (.tuple #[.slice A' n c', .int .i64 0]) ∧ DY w' Y A' n L ∧ Below w.heap.size w w'
theorem c_uputD {w : World} {Y : Nat → Prop} {A : Option Addr} {n c : Nat} {L : List BR} (h : DY w Y A n L) (hY : ∀ b, w.heap.size ≤ b → Y b) (hn : n ≤ 100000) (k : Nat) (hk : k < n) {b : BR} {M : DM} (hd : DW w Y b.r M) :
    Calls Tryz.prog 72 #[.slice A n c, .int .i64 (k : Int), .agg (dbC b M).toArray, .int .i64 0] w (UPD w Y n (L.set k b)) := by
  obtain ⟨Q, h1, rfl⟩ := h
  refine (c_uputY h1 hY hn k hk hd).mono ?_
  rintro e w' ⟨A', c', rfl, ht, hb⟩
  exact ⟨A', c', rfl, ⟨_, ht, by rw [List.map_set]⟩, hb⟩
set_option maxRecDepth 100000 in
set_option maxHeartbeats 4000000 in
theorem c_uofferY {w : World} {pl Y : Nat → Prop} {A G : Option Addr} {n c m d : Nat} {L : List BR} {gs : List GD} (h : DY w Y A n L) (hY : ∀ b, w.heap.size ≤ b → Y b) (hn : n ≤ 100000) (hG : RD w pl 5 G m (gs.flatMap gdC)) (hm : gs.length = m) (hm2 : m ≤ 100000) (p : Int) (al : Bool) :
    Calls Tryz.prog 34 #[.slice A n c, .int .i64 p, .slice G m d, .bool al] w (UOfY w Y n (offR p al L L 0 gs)) := by
  have HT := Lib.hid h
  have HY := Lib.hid hY
  have HG := Lib.hid hG
  have HM := Lib.hid hm
  obtain ⟨r, hr⟩ : ∃ r, offR p al L L 0 gs = r := ⟨_, rfl⟩
  have HR := Lib.hid hr
  rw [hr]
  clear h hY hG hm hr
  go_enter Tryz.func34, Tryz.ntmps34
  go_wp2_with fail
  go_loopw [11, 12] (fun s i wr => ∃ k : Nat, k ≤ m ∧ i = .int .i64 k ∧ ∃ A' c' Lk, s = .slice A' n c' ∧ DY wr Y A' n Lk ∧ offR p al L Lk k (gs.drop k) = r ∧ Below w.heap.size w wr) (fun _ i _ => m - (intOf i).toNat)
  case atStart => exact ⟨0, Nat.zero_le _, rfl, A, c, L, rfl, HT.out, HR.out, Below.refl _ _⟩
  case round =>
    obtain ⟨k, hk, rfl, A1, c1, Lk, rfl, hd, hrun, hbw⟩ := hrel
    by_cases hlt : k < m
    · have hkl : k < gs.length := by rw [HM.out]; exact hlt
      obtain ⟨b, o, rfl, _, hbl, hrg⟩ := RD.row' gdC_len (HG.out.below hbw) (List.getElem?_eq_getElem hkl) hlt
      have hdr : gs.drop k = gs[k] :: gs.drop (k + 1) := List.drop_eq_getElem_cons hkl
      generalize gs[k] = g at hrg hdr
      rw [hdr] at hrun
      have HCE := Lib.hid (fun W (hW : Below wr.heap.size wr W) => (range_below hrg hW hbl) : ∀ W, Below wr.heap.size wr W → W.rangeAt b (o + k * 5) (gdC g))
      have HRN := Lib.hid hrun
      have HB := Lib.hid hbw
      have HD := Lib.hid hd
      have HLK := Lib.hid hd.len
      have HYW := Lib.hid (fun b hb => HY.out b (Nat.le_trans hbw.size hb))
      have hkm : (k : Int) < (m : Int) := by omega
      have c0 : wr.cell? ⟨b, o + k * 5, none⟩ = some (.int .i64 g.k) := hrg 0 _ rfl
      have c1' : wr.cell? ⟨b, o + k * 5 + 1, none⟩ = some (.int .i64 g.o) := hrg 1 _ rfl
      clear hrg hdr hrun hbw hbl hkl hd
      by_cases h3 : g.k = 3
      · have g3 : (g.k != 3) = false := by rw [h3]; rfl
        have H3 := Lib.hid h3
        have CI := Lib.hid (c_uis A n c g.o wr)
        clear h3
        rcases tIn_cases n g.o with ho | ⟨ho, ho2⟩ | ⟨j, hj, hjn⟩
        · rw [tIn_neg ho] at CI
          have HN : Hid (r = (L, k, 8)) := Lib.hid (by rw [← HRN.out, offR_err H3.out (tOne_no (f := (brOffer · p al)) (L := Lk) (by rw [HLK.out]; exact tIn_neg ho)) (by decide)])
          clear ho
          go_wp2_with fail
          refine CI.out.mono ?_; rintro e w2 ⟨rfl, rfl⟩
          go_wp2
          go_ret3
          exact ⟨A, c, by rw [HN.out]; rfl, by rw [HN.out]; exact HT.out.below HB.out, HB.out⟩
        · rw [tIn_over ho2] at CI
          have HN : Hid (r = (L, k, 8)) := Lib.hid (by rw [← HRN.out, offR_err H3.out (tOne_no (f := (brOffer · p al)) (L := Lk) (by rw [HLK.out]; exact tIn_over ho2)) (by decide)])
          clear ho ho2
          go_wp2_with fail
          refine CI.out.mono ?_; rintro e w2 ⟨rfl, rfl⟩
          go_wp2
          go_ret3
          exact ⟨A, c, by rw [HN.out]; rfl, by rw [HN.out]; exact HT.out.below HB.out, HB.out⟩
        · rw [hj, tIn_at hjn] at CI
          rw [hj] at c1'
          obtain ⟨u, v, q, M, rfl, hul, hq, hrq, hdq⟩ := HD.out.at_ j hjn
          have HRQ := Lib.hid hrq
          have CE := Lib.hid (c_voffer hdq p al)
          obtain ⟨R, x, hR⟩ : ∃ R x, brOffer q p al = (R, x) := ⟨_, _, rfl⟩
          rw [hR] at CE
          have HJ := Lib.hid hj
          have HQ := Lib.hid hq
          have HRR := Lib.hid hR
          have hjn' : (j : Int) < (n : Int) := by omega
          clear hj hul hq hrq hdq hR
          go_wp2_with fail
          refine CI.out.mono ?_; rintro e w2 ⟨rfl, rfl⟩
          go_wp2_with (refine lmr (b := u) (q := v + j * 5) (cs := dbC q M) (.tmp 45) rfl rfl Tryz.underlying113 rfl info_db rfl ?_ ?_; (· exact HRQ.out))
          refine CE.out.mono ?_; rintro e w3 ⟨N, rfl, hd3, hb3⟩
          have hq := up_alloc w3 (.cells (dbC R N).toArray 113)
          have K := Lib.hid (Blk.new w3 (dbC R N) 113)
          have HB3 := Lib.hid (up_trans hb3 hq)
          have HD3 := Lib.hid ((hd3.lo (pl' := Y) (fun b hb => hb.elim id (HYW.out b))).below hq)
          clear hd3 hb3 hq c0 c1'
          by_cases h0 : x = 0
          · subst h0
            have HN : Hid (offR p al L (Lk.set j R) (k + 1) (gs.drop (k + 1)) = r) := Lib.hid (by rw [← HRN.out, offR_ok H3.out (by rw [HJ.out]; exact tOne_ok (f := (brOffer · p al)) HQ.out HRR.out)])
            go_upto_region 11 with (refine snr (W := w3) (cs := dbC R N) (zs := dbZ) (t := 113) (.tmp 13) (.tmp 50) rfl rfl rfl rfl info_db rfl dbC_one ?_ ?_ ?_; (· rfl); (· rfl))
            generalize hbx : w3.heap.size = bx at K ⊢
            generalize w3.alloc (.cells (dbC R N).toArray 113) = w4 at K HB3 HD3 ⊢
            clear hbx
            refine wp_region_held_drew (S := fun W => Below w4.heap.size w4 W) (by kernel_rfl) (up_drewN _ 1) (fun hHeld => ?_)
            refine wpAnyH_take (i := 0) (oi := ?_) (v := ?_) ?_ (by kernel_rfl) (by kernel_rfl) (by kernel_rfl) ?_ (Or.inl ⟨?_, ?_⟩) hHeld ?_
            rotate_left 2
            · conv => lhs; simp only [List.getElem?_toArray, List.getElem?_cons_succ, List.getElem?_cons_zero]
            · exact fun _ _ _ h => h
            · rfl
            · intro W hSw
              go_simp
              try with_reducible rfl
            try simp only [Act.put, List.setIfInBounds_toArray, List.set_cons_zero, List.set_cons_succ]
            refine wpAnyH_take (i := 1) (oi := ?_) (v := ?_) ?_ (by kernel_rfl) (by kernel_rfl) (by kernel_rfl) ?_ (Or.inl ⟨?_, ?_⟩) hHeld ?_
            rotate_left 2
            · conv => lhs; simp only [List.getElem?_toArray, List.getElem?_cons_succ, List.getElem?_cons_zero]
            · exact fun _ _ _ h => h
            · rfl
            · intro W hSw
              go_simp
              try with_reducible rfl
            try simp only [Act.put, List.setIfInBounds_toArray, List.set_cons_zero, List.set_cons_succ]
            refine wpAnyH_take (i := 2) (oi := ?_) (v := ?_) ?_ (by kernel_rfl) (by kernel_rfl) (by kernel_rfl) ?_ (Or.inl ⟨?_, ?_⟩) hHeld ?_
            rotate_left 2
            · conv => lhs; simp only [List.getElem?_toArray, List.getElem?_cons_succ, List.getElem?_cons_zero]
            · exact fun _ _ _ h => h
            · rfl
            · intro W hSw
              go_simp
              try with_reducible rfl
            try simp only [Act.put, List.setIfInBounds_toArray, List.set_cons_zero, List.set_cons_succ]
            refine wpAnyH_take (i := 3) (oi := ?_) (v := ?_) ?_ (by kernel_rfl) (by kernel_rfl) (by kernel_rfl) ?_ (Or.inl ⟨?_, ?_⟩) hHeld ?_
            rotate_left 2
            · conv => lhs; simp only [List.getElem?_toArray, List.getElem?_cons_succ, List.getElem?_cons_zero]
            · exact fun _ _ _ h => h
            · rfl
            · intro W hSw
              go_simp
              try with_reducible rfl
            try simp only [Act.put, List.setIfInBounds_toArray, List.set_cons_zero, List.set_cons_succ]
            refine wpAnyH_take (i := 4) (oi := ?_) (v := ?_) ?_ (by kernel_rfl) (by kernel_rfl) (by kernel_rfl) ?_ (Or.inl ⟨?_, ?_⟩) hHeld ?_
            rotate_left 2
            · conv => lhs; simp only [List.getElem?_toArray, List.getElem?_cons_succ, List.getElem?_cons_zero]
            · exact fun _ _ _ h => h
            · rfl
            · intro W hSw
              go_simp
              try with_reducible rfl
            try simp only [Act.put, List.setIfInBounds_toArray, List.set_cons_zero, List.set_cons_succ]
            refine wpAnyH_take (i := 5) (oi := ?_) (v := ?_) ?_ (by kernel_rfl) (by kernel_rfl) (by kernel_rfl) ?_ (Or.inl ⟨?_, ?_⟩) hHeld ?_
            rotate_left 2
            · conv => lhs; simp only [List.getElem?_toArray, List.getElem?_cons_succ, List.getElem?_cons_zero]
            · exact fun _ _ _ h => h
            · rfl
            · intro W hSw
              have cc : W.cell? ⟨b, o + k * 5 + 1, none⟩ = some (.int .i64 g.o) := (HCE.out _ (up_trans HB3.out hSw)) 1 _ rfl
              rw [HJ.out] at cc
              go_simp
              try with_reducible rfl
            try simp only [Act.put, List.setIfInBounds_toArray, List.set_cons_zero, List.set_cons_succ]
            refine wpAnyH_take (i := 6) (oi := ?_) (v := (.agg (dbC R N).toArray)) ?_ (by kernel_rfl) (by kernel_rfl) (by kernel_rfl) ?_ (Or.inl ⟨?_, ?_⟩) hHeld ?_
            rotate_left 1
            · conv => lhs; simp only [List.getElem?_toArray, List.getElem?_cons_succ, List.getElem?_cons_zero]
            · exact fun _ _ _ h => h
            · rfl
            · intro W hSw
              exact tk_load rfl rfl (load_row (K.out.up hSw K.out.lt) Tryz.underlying113 rfl info_db)
            try simp only [Act.put, List.setIfInBounds_toArray, List.set_cons_zero, List.set_cons_succ]
            refine wpAnyH_ready (rs := [7]) (by kernel_rfl) (by simp) ?_
            refine AllReadyH.cons (o := ?_) ?_ (fun K hK => ?_) AllReadyH.nil
            rotate_left 1
            · conv => lhs; simp only [List.getElem?_toArray, List.getElem?_cons_succ, List.getElem?_cons_zero]
            go_simp
            have cp := c_uputD (c := c1) (HD.out.below (up_trans HB3.out hHeld)) (fun b hb => HYW.out b (Nat.le_trans (up_trans HB3.out hHeld).size hb)) hn j hjn (HD3.out.below hHeld)
            refine cp.mono ?_
            rintro e w5 ⟨A5, c5, rfl, ht, hb⟩
            have HT5 := Lib.hid ht
            clear ht
            go_wp2_with fail
            refine hK.out _ _ (up_trans hHeld hb) (fun hHeld => ?_)
            clear hK K
            try simp only [Act.put, List.setIfInBounds_toArray, List.set_cons_zero, List.set_cons_succ]
            refine wpAnyH_take (i := 8) (oi := ?_) (v := ?_) ?_ (by kernel_rfl) (by kernel_rfl) (by kernel_rfl) ?_ (Or.inl ⟨?_, ?_⟩) hHeld ?_
            rotate_left 2
            · conv => lhs; simp only [List.getElem?_toArray, List.getElem?_cons_succ, List.getElem?_cons_zero]
            · exact fun _ _ _ h => h
            · rfl
            · intro W hSw
              go_simp
              try with_reducible rfl
            try simp only [Act.put, List.setIfInBounds_toArray, List.set_cons_zero, List.set_cons_succ]
            refine wpAnyH_take (i := 9) (oi := ?_) (v := ?_) ?_ (by kernel_rfl) (by kernel_rfl) (by kernel_rfl) ?_ (Or.inl ⟨?_, ?_⟩) hHeld ?_
            rotate_left 2
            · conv => lhs; simp only [List.getElem?_toArray, List.getElem?_cons_succ, List.getElem?_cons_zero]
            · exact fun _ _ _ h => h
            · rfl
            · intro W hSw
              go_simp
              try with_reducible rfl
            try simp only [Act.put, List.setIfInBounds_toArray, List.set_cons_zero, List.set_cons_succ]
            refine wpAnyH_take (i := 10) (oi := ?_) (v := ?_) ?_ (by kernel_rfl) (by kernel_rfl) (by kernel_rfl) ?_ (Or.inl ⟨?_, ?_⟩) hHeld ?_
            rotate_left 2
            · conv => lhs; simp only [List.getElem?_toArray, List.getElem?_cons_succ, List.getElem?_cons_zero]
            · exact fun _ _ _ h => h
            · rfl
            · intro W hSw
              go_simp
              try with_reducible rfl
            try simp only [Act.put, List.setIfInBounds_toArray, List.set_cons_zero, List.set_cons_succ]
            refine wpAnyH_take (i := 11) (oi := ?_) (v := ?_) ?_ (by kernel_rfl) (by kernel_rfl) (by kernel_rfl) ?_ (Or.inl ⟨?_, ?_⟩) hHeld ?_
            rotate_left 2
            · conv => lhs; simp only [List.getElem?_toArray, List.getElem?_cons_succ, List.getElem?_cons_zero]
            · exact fun _ _ _ h => h
            · rfl
            · intro W hSw
              go_simp
              try with_reducible rfl
            try simp only [Act.put, List.setIfInBounds_toArray, List.set_cons_zero, List.set_cons_succ]
            refine wpAnyH_done (by kernel_rfl) ?_ _
            go_wp2_with fail
            go_roundw
            case rel => exact ⟨k + 1, by omega, by go_num, A5, c5, _, rfl, HT5.out, HN.out, up_trans HB.out (up_trans HB3.out hHeld)⟩
            case measure => simp [intOf]; omega
          · have hx1 : (x != 0) = true := by simp [bne, h0]
            have HN : Hid (r = (L, k, x)) := Lib.hid (by rw [← HRN.out, offR_err H3.out (by rw [HJ.out]; exact tOne_err (f := (brOffer · p al)) HQ.out HRR.out h0) h0])
            clear h0
            go_wp2_with (refine snr (W := w3) (cs := dbC R N) (zs := dbZ) (t := 113) (.tmp 13) (.tmp 50) rfl rfl rfl rfl info_db rfl dbC_one ?_ ?_ ?_; (· rfl); (· rfl))
            go_ret3
            exact ⟨A, c, by rw [HN.out]; rfl, by rw [HN.out]; exact HT.out.below (up_trans HB.out HB3.out), up_trans HB.out HB3.out⟩
      · have g3 : (g.k != 3) = true := by simp [bne, h3]
        have HN : Hid (offR p al L Lk (k + 1) (gs.drop (k + 1)) = r) := Lib.hid (by rw [← HRN.out, offR_skip h3])
        clear h3
        go_wp2_with fail
        go_roundw
        case rel => exact ⟨k + 1, by omega, by go_num, A1, c1, Lk, rfl, HD.out, HN.out, HB.out⟩
        case measure => simp [intOf]; omega
    · obtain rfl : k = m := by omega
      have HN : Hid (r = (Lk, 0, 0)) := Lib.hid (by rw [← hrun, List.drop_of_length_le (by rw [HM.out]; exact Nat.le_refl _)]; rfl)
      have HD := Lib.hid hd
      have HB := Lib.hid hbw
      clear hrun hd hbw
      go_wp2
      go_ret3
      exact ⟨A1, c1, by rw [HN.out]; rfl, by rw [HN.out]; exact HD.out, HB.out⟩
end Go.Proofs.YtdiiilnebepfdaaGreatDoor

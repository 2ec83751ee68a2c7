/- Steps that do the same to a table and to the document's: the law OffersPlay. (Written by wip/tools/gen26/genplays.py.) -/
import Derived.Test.YtgigcjhggpknnaaOra
import Derived.IntWalk
namespace Go.Proofs.Ytgigcjhggpknnaa
open Go.RowKit

/-- A step: which, who, a guard (as an offer has them). -/
abbrev Step := Int × OF
def stepV (s : Step) : List Value := .int .u8 s.1 :: ofC s.2
theorem stepV_len (s : Step) : (stepV s).length = 7 := rfl
theorem RD.step {w : World} {pl : Nat → Prop} {A : Option Addr} {n : Nat} {L : List Step} (h : RD w pl 7 A n (L.flatMap stepV)) (hn : L.length = n) (k : Nat) (hk : k < n) :
    ∃ b o s, A = some ⟨b, o, none⟩ ∧ b < w.heap.size ∧ L[k]? = some s ∧ w.cell? ⟨b, o + k * 7, none⟩ = some (.int .u8 s.1) ∧ w.cell? ⟨b, o + k * 7 + 1, none⟩ = some (.int .i64 s.2.w) ∧ w.cell? ⟨b, o + k * 7 + 2, none⟩ = some (.int .i64 s.2.g.k) ∧ w.cell? ⟨b, o + k * 7 + 3, none⟩ = some (.int .i64 s.2.g.o) ∧ w.cell? ⟨b, o + k * 7 + 4, none⟩ = some (.int .i64 s.2.g.v) ∧ w.cell? ⟨b, o + k * 7 + 5, none⟩ = some (.int .i64 s.2.g.r) ∧ w.cell? ⟨b, o + k * 7 + 6, none⟩ = some (.int .i64 s.2.g.n) := by
  obtain ⟨b, o, e, _, h2, h3⟩ := h.at_ (by omega)
  have hg : L[k]? = some (L[k]'(by omega)) := List.getElem?_eq_getElem (by omega)
  have key : ∀ j u, j < 7 → (stepV (L[k]'(by omega)))[j]? = some u → w.cell? ⟨b, o + k * 7 + j, none⟩ = some u := fun j u hj hu => by
    have := h3 (k * 7 + j) u (by rw [flat_get stepV 7 stepV_len L k j _ hg hj]; exact hu)
    rwa [← Nat.add_assoc] at this
  exact ⟨b, o, _, e, h2, hg, key 0 _ (by omega) rfl, key 1 _ (by omega) rfl, key 2 _ (by omega) rfl, key 3 _ (by omega) rfl, key 4 _ (by omega) rfl, key 5 _ (by omega) rfl, key 6 _ (by omega) rfl⟩
def StOk (s : Step) : Prop := 0 ≤ s.1 ∧ s.1 ≤ 255
theorem on_few {D : List OF} (h : ∀ x ∈ D, 0 ≤ x.w ∧ x.w < 16) (k o : Int) : (onO D k o).length ≤ D.length := by
  have h1 := row_len D k o 16
  rw [cnt_all D h] at h1
  exact h1
theorem of_few (D : List OF) (who : Int) : (ofL D who).length ≤ D.length := by
  unfold ofL
  rw [List.length_map]
  exact who_len D who

/-- What the law holds: both tables; the document's is a variable at block z. -/
structure PL (w wr : World) (t s a S b z m M : Nat) (D : List OF) (A : Option Addr) (c : Nat) : Prop where
  T : OT wr t s a S b m M D
  B : Blk wr z [.int .i64 (m : Int), .slice A D.length c] 30
  R : DO wr (fun k => ¬ two S b k ∧ k ≠ z) D A c
  up : Below w.heap.size w wr
  hz : w.heap.size ≤ z
  hS : w.heap.size ≤ S
  hb : w.heap.size ≤ b
section
variable {w wr w' : World} {t s a S b z m M : Nat} {D : List OF} {A : Option Addr} {c : Nat}
theorem PL.below (h : PL w wr t s a S b z m M D A c) (o : Below wr.heap.size wr w') : PL w w' t s a S b z m M D A c :=
  ⟨h.T.below o, h.B.up o h.B.lt, h.R.below o, up_trans h.up o, h.hz, h.hS, h.hb⟩
theorem PL.nz (h : PL w wr t s a S b z m M D A c) : ¬ two S b z := h.T.nb h.B (by decide) (by decide)
/-- The program's table has another list, then the document's has, and is put into its variable. -/
theorem PL.step {w1 w2 : World} {M' : Nat} {E : List OF} {A' : Option Addr} {c' : Nat} (h : PL w wr t s a S b z m M D A c) (hp : OPost wr t s a S b m M' E w1) (hd : DO w2 (fun k => ¬ two S b k ∧ k ≠ z) E A' c') (hb : Below w1.heap.size w1 w2) (x : Value) (hx : x = .int .i64 (m : Int)) :
    PL w ((w2.setCell ⟨z, 0, none⟩ x).setCell ⟨z, 1, none⟩ (.slice A' E.length c')) t s a S b z m M' E A' c' := by
  subst hx
  have hB2 := (h.B.only hp.2 h.nz).up hb (h.B.only hp.2 h.nz).lt
  have hT2 := hp.1.below hb
  have ho : Only (· = z) w2 ((w2.setCell ⟨z, 0, none⟩ (.int .i64 (m : Int))).setCell ⟨z, 1, none⟩ (.slice A' E.length c')) := ((Only.refl _ _).put _ _).put _ _
  have hzs := hB2.lt
  refine ⟨?_, ?_, hd.only ho (fun k e hk => hk.2 e), ?_, h.hz, h.hS, h.hb⟩
  · obtain ⟨τ, Hs, fr, X⟩ := hT2
    obtain ⟨_, _, _, _, hq⟩ := X.pa
    refine ⟨τ, Hs, fr, X.tb.only ho (X.tb.ne hB2 (by decide)), X.sb.only ho (X.sb.ne hB2 (by decide)), ?_, X.pa.only ho (hq.H.blk.ne hB2 (by decide)), X.iv, X.rm, X.len, X.r2⟩
    exact ⟨X.at_.tab.only ho (X.at_.tab.ne hB2 (by decide)), X.at_.row.only ho (X.at_.row.ne hB2 (by decide)), fun y hy c e f => (X.at_.one y hy c e f).only ho ((X.at_.one y hy c e f).ne hB2 (by decide)), X.at_.pos, X.at_.few⟩
  · exact (hB2.set 0 (.int .i64 (m : Int))).set 1 (.slice A' E.length c')
  · exact ((h.up.trans (hp.2.toBelow h.up.size (fun i e => by rcases e with e | e <;> (subst e; first | exact h.hS | exact h.hb)))).trans (hb.mono (Nat.le_trans h.up.size hp.2.size))).trans (ho.toBelow (Nat.le_trans h.up.size (Nat.le_trans hp.2.size hb.size)) (fun i e => e ▸ h.hz))
end

set_option maxRecDepth 100000 in
set_option maxHeartbeats 32000000 in
theorem l_plays_run (m : Nat) (m1 : 1 ≤ m) (m2 : m ≤ 1024) (A : Option Addr) (n cp : Nat) (L : List Step) (w : World) (hR : RD w (fun _ => True) 7 A n (L.flatMap stepV)) (hn : L.length = n) (hok : ∀ s ∈ L, StOk s) (h80 : n ≤ 80) :
    Calls Try.prog 3 #[.int .i64 (m : Int), .slice A n cp] w fun e w' => e = .returned (.bool true) ∧ Below w.heap.size w w' := by
  have HN := Lib.hid hn
  have HR := Lib.hid hR
  have HOK := Lib.hid hok
  clear hn hR hok
  go_enter Try.func3, Try.ntmps3
  go_wp2_with fail
  refine (c_onew m m1 m2 w).mono ?_
  rintro e w1 ⟨t, s, a, S, b, rfl, H1, hS, hb, up1⟩
  go_wp2_with fail
  refine (d_new m (by omega) (by omega) w1).mono ?_
  rintro e w2 ⟨rfl, hb2⟩
  have H2 := H1.below hb2
  have upz := up_alloc w2 (.cells #[.int .i64 (m : Int), .slice none 0 0] 30)
  have hB : Blk (w2.alloc (.cells #[.int .i64 (m : Int), .slice none 0 0] 30)) w2.heap.size [.int .i64 (m : Int), .slice none 0 0] 30 := Blk.new w2 _ _
  have hz2 := up_trans up1 hb2
  have hP0 : PL w (w2.alloc (.cells #[.int .i64 (m : Int), .slice none 0 0] 30)) t s a S b w2.heap.size m 0 [] none 0 := ⟨H2.below upz, hB, ⟨RD.nil _ _ _ _, Nat.le_refl _, by unfold maxLen; omega, by simp⟩, up_trans hz2 upz, hz2.size, hS, hb⟩
  generalize hw3 : w2.alloc (.cells #[.int .i64 (m : Int), .slice none 0 0] 30) = w3 at hP0
  obtain ⟨z, hz⟩ : ∃ z, w2.heap.size = z := ⟨_, rfl⟩
  rw [hz] at hP0
  have HW3 := Lib.hid hw3
  have HP0 := Lib.hid hP0
  have HZ := Lib.hid hz
  clear hw3 hP0 hz H1 H2 upz hB hz2 up1 hb2
  go_wp2_with fail
  rw [HW3.out, HZ.out]
  go_loopw [10, 11, 12, 47] (fun _ _ _ i wr => ∃ (k M : Nat) (D : List OF) (A : Option Addr) (c : Nat), k ≤ n ∧ M ≤ k ∧ i = .int .i64 k ∧ PL w wr t s a S b z m M D A c) (fun _ _ _ i _ => n - (intOf i).toNat)
  case atStart => exact ⟨0, 0, [], none, 0, Nat.zero_le _, Nat.le_refl _, rfl, HP0.out⟩
  case round =>
    clear HP0 HW3 HZ
    obtain ⟨k, M, D, A', c', hk, hMk, rfl, hPLr⟩ := hrel
    by_cases hlt : k < n
    · obtain ⟨bL, oL, ⟨d, x⟩, rfl, hbL, hp, a0, a1, a2, a3, a4, a5, a6⟩ := (HR.out.below hPLr.up).step HN.out k hlt
      obtain ⟨x0, y0⟩ := HOK.out _ (List.mem_of_getElem? hp)
      obtain ⟨ww, gk, go, gv, gr, gn⟩ := x
      simp only at a0 a1 a2 a3 a4 a5 a6 x0 y0
      have ups := up_alloc wr (.cells #[.int .u8 d, .int .i64 ww, .int .i64 gk, .int .i64 go, .int .i64 gv, .int .i64 gr, .int .i64 gn] 36)
      have hbs : Blk (wr.alloc (.cells #[.int .u8 d, .int .i64 ww, .int .i64 gk, .int .i64 go, .int .i64 gv, .int .i64 gr, .int .i64 gn] 36)) wr.heap.size [.int .u8 d, .int .i64 ww, .int .i64 gk, .int .i64 go, .int .i64 gv, .int .i64 gr, .int .i64 gn] 36 := Blk.new wr _ _
      have hPL := hPLr.below ups
      generalize hws : wr.alloc (.cells #[.int .u8 d, .int .i64 ww, .int .i64 gk, .int .i64 go, .int .i64 gv, .int .i64 gr, .int .i64 gn] 36) = ws at ups hbs hPL
      have HWS := Lib.hid hws
      have HNS := Lib.hid (hPL.T.nb hbs (by decide) (by decide))
      have e0 := hbs.cell 0 _ rfl
      have e1 := hbs.cell 1 _ rfl
      have e2 := hbs.cell 2 _ rfl
      have e3 := hbs.cell 3 _ rfl
      have e4 := hbs.cell 4 _ rfl
      have e5 := hbs.cell 5 _ rfl
      have e6 := hbs.cell 6 _ rfl
      have hzr := hPLr.B.lt
      have HP := Lib.hid hPLr
      clear hws hp hPLr ups
      cases t0 : (d == 0)
      · cases t4 : (d % 4 == 0)
        · skip
          go_wp2_with fail
          rw [HWS.out]
          refine Calls.mono (c_opsh hPL.T (by omega) ww gk go gv gr gn) ?_
          rintro e w3 ⟨rfl, hp3⟩
          have hst3 := hbs.only hp3.2 HNS.out
          have e1 := hst3.cell 1 _ rfl
          have e2 := hst3.cell 2 _ rfl
          have e3 := hst3.cell 3 _ rfl
          have e4 := hst3.cell 4 _ rfl
          have e5 := hst3.cell 5 _ rfl
          have e6 := hst3.cell 6 _ rfl
          have hZ3 := hPL.B.only hp3.2 hPL.nz
          have z0 := hZ3.cell 0 _ rfl
          have z1 := hZ3.cell 1 _ rfl
          have R3 := hPL.R.only hp3.2 (fun k e hk => hk.1 e)
          have hnew : ∀ k, w3.heap.size ≤ k → ¬ two S b k ∧ k ≠ z := fun k hk => by
            have h1 := hPL.T.lt
            have h2 := hPL.B.lt
            have h3 := hp3.2.size
            exact ⟨fun e => by rcases e with e | e <;> omega, by omega⟩
          go_wp2_with fail
          refine Calls.mono (d_put R3 hnew m hPL.T.room_.1 hPL.T.room_.2 ww gk go gv gr gn) ?_
          rintro e w4 ⟨A4, c4, rfl, R4, hb4⟩
          obtain ⟨er, her⟩ : ∃ er, putE m D ww gn = er := ⟨_, rfl⟩
          rw [her]
          obtain ⟨E, hE⟩ : ∃ E, putL m D ww ⟨gk, go, gv, gr, gn⟩ = E := ⟨_, rfl⟩
          rw [hE] at hp3 R4 ⊢
          clear hst3 hZ3 R3 hnew e1 e2 e3 e4 e5 e6 z0 z1 hE her

          have HP7 := Lib.hid (hPL.step hp3 R4 hb4 _ rfl)
          generalize hw7 : (w4.setCell ⟨z, 0, none⟩ (.int .i64 (m : Int))).setCell ⟨z, 1, none⟩ (.slice A4 E.length c4) = w7 at HP7
          have HW7 := Lib.hid hw7
          have hZ4 := (hPL.B.only hp3.2 hPL.nz).up hb4 (hPL.B.only hp3.2 hPL.nz).lt
          have q0 := hZ4.cell 0 _ rfl
          have q1 := hZ4.cell 1 _ rfl
          have qf0 := hZ4.free 0
          have qf1 := hZ4.free 1
          have hst4 := (hbs.only hp3.2 HNS.out).up hb4 (hbs.only hp3.2 HNS.out).lt
          have hzs : z ≠ wr.heap.size := by have := hPL.B.lt; omega
          have HST7 : Hid (Blk w7 wr.heap.size [.int .u8 d, .int .i64 ww, .int .i64 gk, .int .i64 go, .int .i64 gv, .int .i64 gr, .int .i64 gn] 36) := Lib.hid (by
            rw [← hw7]
            exact (hst4.other ⟨z, 0, none⟩ (Ne.symm hzs) _).other ⟨z, 1, none⟩ (Ne.symm hzs) _)
          have hEf : E.length ≤ 1024 := HP7.out.R.few
          have hEw := HP7.out.T.who
          have hEr := HP7.out.T.room_
          obtain ⟨fr, hfr⟩ : ∃ fr, fr + E.length = m := ⟨m - E.length, by omega⟩
          have KP := Lib.hid (fun W (hW : Below w7.heap.size w7 W) => (HP7.out.T.mono (M' := M + 1) (by omega)).below hW)
          have KR := Lib.hid (fun W (hW : Below w7.heap.size w7 W) => HP7.out.R.below hW)
          have KS : Hid (∀ W, Below w7.heap.size w7 W → Below w7.heap.size w7 W ∧ W.cell? ⟨wr.heap.size, 1, none⟩ = some (.int .i64 ww) ∧ W.cell? ⟨wr.heap.size, 2, none⟩ = some (.int .i64 gk) ∧ W.cell? ⟨wr.heap.size, 3, none⟩ = some (.int .i64 go) ∧ W.cell? ⟨z, 0, none⟩ = some (.int .i64 (m : Int)) ∧ W.cell? ⟨z, 1, none⟩ = some (.slice A4 E.length c4)) := Lib.hid fun W hW => by
            have h1 := HST7.out.up hW HST7.out.lt
            have h2 := HP7.out.B.up hW HP7.out.B.lt
            exact ⟨hW, h1.cell 1 _ rfl, h1.cell 2 _ rfl, h1.cell 3 _ rfl, h2.cell 0 _ rfl, h2.cell 1 _ rfl⟩
          have hgl := of_few E ww
          have hol := on_few hEw gk go
          have CG := Lib.hid (fun W (hW : Below w7.heap.size w7 W) => c_oOf (KP.out W hW) ww)
          have CD := Lib.hid (fun W (hW : Below w7.heap.size w7 W) => d_of (KR.out W hW) m ww)
          have CN := Lib.hid (fun W (hW : Below w7.heap.size w7 W) => c_oOn (KP.out W hW) gk go)
          have CE := Lib.hid (fun W (hW : Below w7.heap.size w7 W) => d_on (KR.out W hW) m gk go)
          have CL := Lib.hid (fun W (hW : Below w7.heap.size w7 W) => c_olen (KP.out W hW))
          have CF := Lib.hid (fun W (hW : Below w7.heap.size w7 W) => c_ofree (KP.out W hW) fr hfr)
          generalize ofL E ww = gs at CG CD hgl
          generalize onO E gk go = os at CN CE hol
          have hEx : ((E.length : Int) != E.length) = false := by simp
          have hwr : IntKind.i64.wrap ((m : Int) - E.length) = (fr : Int) := (IntWalk.i64_in _ (by omega)).trans (by omega)
          have hFx : ((fr : Int) != fr) = false := by simp
          have hxx : (er != er) = false := by simp
          clear HP hPL hp3 R4 hb4 hbs hw7 hst4 hZ4 hEw hEr hfr
          go_wp2_with fail
          rw [HW7.out]
          clear q0 q1 qf0 qf1
          refine wp_region_held_drew (S := fun W => Below w7.heap.size w7 W ∧ W.cell? ⟨wr.heap.size, 1, none⟩ = some (.int .i64 ww) ∧ W.cell? ⟨wr.heap.size, 2, none⟩ = some (.int .i64 gk) ∧ W.cell? ⟨wr.heap.size, 3, none⟩ = some (.int .i64 go) ∧ W.cell? ⟨z, 0, none⟩ = some (.int .i64 (m : Int)) ∧ W.cell? ⟨z, 1, none⟩ = some (.slice A4 E.length c4)) (by kernel_rfl) (KS.out _ (up_drewN w7 1)) (fun hHeld => ?_)
          refine wpAnyH_take (i := 0) (oi := ?_) (v := ?_) ?_ (by kernel_rfl) (by kernel_rfl) (by kernel_rfl) ?_ (Or.inl ⟨?_, ?_⟩) hHeld ?_
          rotate_left 2
          · conv => lhs; simp only [List.getElem?_toArray, List.getElem?_cons_succ, List.getElem?_cons_zero]
          · exact fun _ _ _ h => h
          · rfl
          · intro W hSw
            go_simp
            try with_reducible rfl
          try simp only [Act.put, List.setIfInBounds_toArray, List.set_cons_zero, List.set_cons_succ]
          refine wpAnyH_take (i := 1) (oi := ?_) (v := ?_) ?_ (by kernel_rfl) (by kernel_rfl) (by kernel_rfl) ?_ (Or.inl ⟨?_, ?_⟩) hHeld ?_
          rotate_left 2
          · conv => lhs; simp only [List.getElem?_toArray, List.getElem?_cons_succ, List.getElem?_cons_zero]
          · exact fun _ _ _ h => h
          · rfl
          · intro W hSw
            go_simp
            try with_reducible rfl
          try simp only [Act.put, List.setIfInBounds_toArray, List.set_cons_zero, List.set_cons_succ]
          refine wpAnyH_take (i := 2) (oi := ?_) (v := ?_) ?_ (by kernel_rfl) (by kernel_rfl) (by kernel_rfl) ?_ (Or.inl ⟨?_, ?_⟩) hHeld ?_
          rotate_left 2
          · conv => lhs; simp only [List.getElem?_toArray, List.getElem?_cons_succ, List.getElem?_cons_zero]
          · exact fun _ _ _ h => h
          · rfl
          · intro W hSw
            go_simp
            try with_reducible rfl
          try simp only [Act.put, List.setIfInBounds_toArray, List.set_cons_zero, List.set_cons_succ]
          refine wpAnyH_take (i := 3) (oi := ?_) (v := ?_) ?_ (by kernel_rfl) (by kernel_rfl) (by kernel_rfl) ?_ (Or.inl ⟨?_, ?_⟩) hHeld ?_
          rotate_left 2
          · conv => lhs; simp only [List.getElem?_toArray, List.getElem?_cons_succ, List.getElem?_cons_zero]
          · exact fun _ _ _ h => h
          · rfl
          · intro W hSw
            go_simp
            try with_reducible rfl
          try simp only [Act.put, List.setIfInBounds_toArray, List.set_cons_zero, List.set_cons_succ]
          refine wpAnyH_take (i := 4) (oi := ?_) (v := ?_) ?_ (by kernel_rfl) (by kernel_rfl) (by kernel_rfl) ?_ (Or.inl ⟨?_, ?_⟩) hHeld ?_
          rotate_left 2
          · conv => lhs; simp only [List.getElem?_toArray, List.getElem?_cons_succ, List.getElem?_cons_zero]
          · exact fun _ _ _ h => h
          · rfl
          · intro W hSw
            go_simp
            try with_reducible rfl
          try simp only [Act.put, List.setIfInBounds_toArray, List.set_cons_zero, List.set_cons_succ]
          refine wpAnyH_take (i := 5) (oi := ?_) (v := ?_) ?_ (by kernel_rfl) (by kernel_rfl) (by kernel_rfl) ?_ (Or.inl ⟨?_, ?_⟩) hHeld ?_
          rotate_left 2
          · conv => lhs; simp only [List.getElem?_toArray, List.getElem?_cons_succ, List.getElem?_cons_zero]
          · exact fun _ _ _ h => h
          · rfl
          · intro W hSw
            go_simp
            try with_reducible rfl
          try simp only [Act.put, List.setIfInBounds_toArray, List.set_cons_zero, List.set_cons_succ]
          refine wpAnyH_take (i := 6) (oi := ?_) (v := ?_) ?_ (by kernel_rfl) (by kernel_rfl) (by kernel_rfl) ?_ (Or.inl ⟨?_, ?_⟩) hHeld ?_
          rotate_left 2
          · conv => lhs; simp only [List.getElem?_toArray, List.getElem?_cons_succ, List.getElem?_cons_zero]
          · exact fun _ _ _ h => h
          · rfl
          · intro W hSw
            go_simp
            try with_reducible rfl
          try simp only [Act.put, List.setIfInBounds_toArray, List.set_cons_zero, List.set_cons_succ]
          refine wpAnyH_take (i := 8) (oi := ?_) (v := ?_) ?_ (by kernel_rfl) (by kernel_rfl) (by kernel_rfl) ?_ (Or.inl ⟨?_, ?_⟩) hHeld ?_
          rotate_left 2
          · conv => lhs; simp only [List.getElem?_toArray, List.getElem?_cons_succ, List.getElem?_cons_zero]
          · exact fun _ _ _ h => h
          · rfl
          · intro W hSw
            go_simp
            try with_reducible rfl
          try simp only [Act.put, List.setIfInBounds_toArray, List.set_cons_zero, List.set_cons_succ]
          refine wpAnyH_take (i := 9) (oi := ?_) (v := ?_) ?_ (by kernel_rfl) (by kernel_rfl) (by kernel_rfl) ?_ (Or.inl ⟨?_, ?_⟩) hHeld ?_
          rotate_left 2
          · conv => lhs; simp only [List.getElem?_toArray, List.getElem?_cons_succ, List.getElem?_cons_zero]
          · exact fun _ _ _ h => h
          · rfl
          · intro W hSw
            go_simp
            try with_reducible rfl
          try simp only [Act.put, List.setIfInBounds_toArray, List.set_cons_zero, List.set_cons_succ]
          refine wpAnyH_take (i := 10) (oi := ?_) (v := ?_) ?_ (by kernel_rfl) (by kernel_rfl) (by kernel_rfl) ?_ (Or.inl ⟨?_, ?_⟩) hHeld ?_
          rotate_left 2
          · conv => lhs; simp only [List.getElem?_toArray, List.getElem?_cons_succ, List.getElem?_cons_zero]
          · exact fun _ _ _ h => h
          · rfl
          · intro W hSw
            go_simp
            try with_reducible rfl
          try simp only [Act.put, List.setIfInBounds_toArray, List.set_cons_zero, List.set_cons_succ]
          refine wpAnyH_ready (rs := [7]) (by kernel_rfl) (by simp) ?_
          refine AllReadyH.cons (o := ?_) ?_ (fun K hK => ?_) AllReadyH.nil
          rotate_left 1
          · conv => lhs; simp only [List.getElem?_toArray, List.getElem?_cons_succ, List.getElem?_cons_zero]
          go_simp
          refine Calls.mono (CG.out _ hHeld.1) ?_
          rintro e wA ⟨AA, cA, rfl, rdA, hbA⟩
          go_wp2_with fail
          refine hK.out _ _ (KS.out _ (up_trans hHeld.1 hbA)) (fun hHeld => ?_)
          clear hK K
          try simp only [Act.put, List.setIfInBounds_toArray, List.set_cons_zero, List.set_cons_succ]
          refine wpAnyH_ready (rs := [11]) (by kernel_rfl) (by simp) ?_
          refine AllReadyH.cons (o := ?_) ?_ (fun K hK => ?_) AllReadyH.nil
          rotate_left 1
          · conv => lhs; simp only [List.getElem?_toArray, List.getElem?_cons_succ, List.getElem?_cons_zero]
          go_simp
          refine Calls.mono (CD.out _ hHeld.1) ?_
          rintro e wB ⟨AB, cB, rfl, rdB, hbB⟩
          go_wp2_with fail
          refine hK.out _ _ (KS.out _ (up_trans hHeld.1 hbB)) (fun hHeld => ?_)
          clear hK K
          try simp only [Act.put, List.setIfInBounds_toArray, List.set_cons_zero, List.set_cons_succ]
          refine wpAnyH_ready (rs := [12]) (by kernel_rfl) (by simp) ?_
          refine AllReadyH.cons (o := ?_) ?_ (fun K hK => ?_) AllReadyH.nil
          rotate_left 1
          · conv => lhs; simp only [List.getElem?_toArray, List.getElem?_cons_succ, List.getElem?_cons_zero]
          go_simp
          refine Calls.mono (d_sameG (rdA.below hbB) rdB (by omega)) ?_
          rintro e wC ⟨rfl, hdC⟩
          go_wp2_with fail
          refine hK.out _ _ (KS.out _ (up_trans hHeld.1 hdC.below)) (fun hHeld => ?_)
          clear hK K
          try simp only [Act.put, List.setIfInBounds_toArray, List.set_cons_zero, List.set_cons_succ]
          refine wpAnyH_take (i := 13) (oi := ?_) (v := ?_) ?_ (by kernel_rfl) (by kernel_rfl) (by kernel_rfl) ?_ (Or.inl ⟨?_, ?_⟩) hHeld ?_
          rotate_left 2
          · conv => lhs; simp only [List.getElem?_toArray, List.getElem?_cons_succ, List.getElem?_cons_zero]
          · exact fun _ _ _ h => h
          · rfl
          · intro W hSw
            go_simp
            try with_reducible rfl
          try simp only [Act.put, List.setIfInBounds_toArray, List.set_cons_zero, List.set_cons_succ]
          refine wpAnyH_take (i := 14) (oi := ?_) (v := ?_) ?_ (by kernel_rfl) (by kernel_rfl) (by kernel_rfl) ?_ (Or.inl ⟨?_, ?_⟩) hHeld ?_
          rotate_left 2
          · conv => lhs; simp only [List.getElem?_toArray, List.getElem?_cons_succ, List.getElem?_cons_zero]
          · exact fun _ _ _ h => h
          · rfl
          · intro W hSw
            go_simp
            try with_reducible rfl
          try simp only [Act.put, List.setIfInBounds_toArray, List.set_cons_zero, List.set_cons_succ]
          refine wpAnyH_take (i := 15) (oi := ?_) (v := ?_) ?_ (by kernel_rfl) (by kernel_rfl) (by kernel_rfl) ?_ (Or.inl ⟨?_, ?_⟩) hHeld ?_
          rotate_left 2
          · conv => lhs; simp only [List.getElem?_toArray, List.getElem?_cons_succ, List.getElem?_cons_zero]
          · exact fun _ _ _ h => h
          · rfl
          · intro W hSw
            go_simp
            try with_reducible rfl
          try simp only [Act.put, List.setIfInBounds_toArray, List.set_cons_zero, List.set_cons_succ]
          refine wpAnyH_take (i := 16) (oi := ?_) (v := ?_) ?_ (by kernel_rfl) (by kernel_rfl) (by kernel_rfl) ?_ (Or.inl ⟨?_, ?_⟩) hHeld ?_
          rotate_left 2
          · conv => lhs; simp only [List.getElem?_toArray, List.getElem?_cons_succ, List.getElem?_cons_zero]
          · exact fun _ _ _ h => h
          · rfl
          · intro W hSw
            go_simp
            try with_reducible rfl
          try simp only [Act.put, List.setIfInBounds_toArray, List.set_cons_zero, List.set_cons_succ]
          refine wpAnyH_take (i := 17) (oi := ?_) (v := ?_) ?_ (by kernel_rfl) (by kernel_rfl) (by kernel_rfl) ?_ (Or.inl ⟨?_, ?_⟩) hHeld ?_
          rotate_left 2
          · conv => lhs; simp only [List.getElem?_toArray, List.getElem?_cons_succ, List.getElem?_cons_zero]
          · exact fun _ _ _ h => h
          · rfl
          · intro W hSw
            go_simp
            try with_reducible rfl
          try simp only [Act.put, List.setIfInBounds_toArray, List.set_cons_zero, List.set_cons_succ]
          refine wpAnyH_take (i := 18) (oi := ?_) (v := ?_) ?_ (by kernel_rfl) (by kernel_rfl) (by kernel_rfl) ?_ (Or.inl ⟨?_, ?_⟩) hHeld ?_
          rotate_left 2
          · conv => lhs; simp only [List.getElem?_toArray, List.getElem?_cons_succ, List.getElem?_cons_zero]
          · exact fun _ _ _ h => h
          · rfl
          · intro W hSw
            go_simp
            try with_reducible rfl
          try simp only [Act.put, List.setIfInBounds_toArray, List.set_cons_zero, List.set_cons_succ]
          refine wpAnyH_take (i := 19) (oi := ?_) (v := ?_) ?_ (by kernel_rfl) (by kernel_rfl) (by kernel_rfl) ?_ (Or.inl ⟨?_, ?_⟩) hHeld ?_
          rotate_left 2
          · conv => lhs; simp only [List.getElem?_toArray, List.getElem?_cons_succ, List.getElem?_cons_zero]
          · exact fun _ _ _ h => h
          · rfl
          · intro W hSw
            go_simp
            try with_reducible rfl
          try simp only [Act.put, List.setIfInBounds_toArray, List.set_cons_zero, List.set_cons_succ]
          refine wpAnyH_take (i := 20) (oi := ?_) (v := ?_) ?_ (by kernel_rfl) (by kernel_rfl) (by kernel_rfl) ?_ (Or.inl ⟨?_, ?_⟩) hHeld ?_
          rotate_left 2
          · conv => lhs; simp only [List.getElem?_toArray, List.getElem?_cons_succ, List.getElem?_cons_zero]
          · exact fun _ _ _ h => h
          · rfl
          · intro W hSw
            go_simp
            try with_reducible rfl
          try simp only [Act.put, List.setIfInBounds_toArray, List.set_cons_zero, List.set_cons_succ]
          refine wpAnyH_take (i := 21) (oi := ?_) (v := ?_) ?_ (by kernel_rfl) (by kernel_rfl) (by kernel_rfl) ?_ (Or.inl ⟨?_, ?_⟩) hHeld ?_
          rotate_left 2
          · conv => lhs; simp only [List.getElem?_toArray, List.getElem?_cons_succ, List.getElem?_cons_zero]
          · exact fun _ _ _ h => h
          · rfl
          · intro W hSw
            go_simp
            try with_reducible rfl
          try simp only [Act.put, List.setIfInBounds_toArray, List.set_cons_zero, List.set_cons_succ]
          refine wpAnyH_take (i := 22) (oi := ?_) (v := ?_) ?_ (by kernel_rfl) (by kernel_rfl) (by kernel_rfl) ?_ (Or.inl ⟨?_, ?_⟩) hHeld ?_
          rotate_left 2
          · conv => lhs; simp only [List.getElem?_toArray, List.getElem?_cons_succ, List.getElem?_cons_zero]
          · exact fun _ _ _ h => h
          · rfl
          · intro W hSw
            go_simp
            try with_reducible rfl
          try simp only [Act.put, List.setIfInBounds_toArray, List.set_cons_zero, List.set_cons_succ]
          refine wpAnyH_take (i := 25) (oi := ?_) (v := ?_) ?_ (by kernel_rfl) (by kernel_rfl) (by kernel_rfl) ?_ (Or.inl ⟨?_, ?_⟩) hHeld ?_
          rotate_left 2
          · conv => lhs; simp only [List.getElem?_toArray, List.getElem?_cons_succ, List.getElem?_cons_zero]
          · exact fun _ _ _ h => h
          · rfl
          · intro W hSw
            go_simp
            try with_reducible rfl
          try simp only [Act.put, List.setIfInBounds_toArray, List.set_cons_zero, List.set_cons_succ]
          refine wpAnyH_take (i := 26) (oi := ?_) (v := ?_) ?_ (by kernel_rfl) (by kernel_rfl) (by kernel_rfl) ?_ (Or.inl ⟨?_, ?_⟩) hHeld ?_
          rotate_left 2
          · conv => lhs; simp only [List.getElem?_toArray, List.getElem?_cons_succ, List.getElem?_cons_zero]
          · exact fun _ _ _ h => h
          · rfl
          · intro W hSw
            go_simp
            try with_reducible rfl
          try simp only [Act.put, List.setIfInBounds_toArray, List.set_cons_zero, List.set_cons_succ]
          refine wpAnyH_take (i := 27) (oi := ?_) (v := ?_) ?_ (by kernel_rfl) (by kernel_rfl) (by kernel_rfl) ?_ (Or.inl ⟨?_, ?_⟩) hHeld ?_
          rotate_left 2
          · conv => lhs; simp only [List.getElem?_toArray, List.getElem?_cons_succ, List.getElem?_cons_zero]
          · exact fun _ _ _ h => h
          · rfl
          · intro W hSw
            go_simp
            try with_reducible rfl
          try simp only [Act.put, List.setIfInBounds_toArray, List.set_cons_zero, List.set_cons_succ]
          refine wpAnyH_take (i := 28) (oi := ?_) (v := ?_) ?_ (by kernel_rfl) (by kernel_rfl) (by kernel_rfl) ?_ (Or.inl ⟨?_, ?_⟩) hHeld ?_
          rotate_left 2
          · conv => lhs; simp only [List.getElem?_toArray, List.getElem?_cons_succ, List.getElem?_cons_zero]
          · exact fun _ _ _ h => h
          · rfl
          · intro W hSw
            go_simp
            try with_reducible rfl
          try simp only [Act.put, List.setIfInBounds_toArray, List.set_cons_zero, List.set_cons_succ]
          refine wpAnyH_take (i := 29) (oi := ?_) (v := ?_) ?_ (by kernel_rfl) (by kernel_rfl) (by kernel_rfl) ?_ (Or.inl ⟨?_, ?_⟩) hHeld ?_
          rotate_left 2
          · conv => lhs; simp only [List.getElem?_toArray, List.getElem?_cons_succ, List.getElem?_cons_zero]
          · exact fun _ _ _ h => h
          · rfl
          · intro W hSw
            go_simp
            try with_reducible rfl
          try simp only [Act.put, List.setIfInBounds_toArray, List.set_cons_zero, List.set_cons_succ]
          refine wpAnyH_take (i := 30) (oi := ?_) (v := ?_) ?_ (by kernel_rfl) (by kernel_rfl) (by kernel_rfl) ?_ (Or.inl ⟨?_, ?_⟩) hHeld ?_
          rotate_left 2
          · conv => lhs; simp only [List.getElem?_toArray, List.getElem?_cons_succ, List.getElem?_cons_zero]
          · exact fun _ _ _ h => h
          · rfl
          · intro W hSw
            go_simp
            try with_reducible rfl
          try simp only [Act.put, List.setIfInBounds_toArray, List.set_cons_zero, List.set_cons_succ]
          refine wpAnyH_take (i := 31) (oi := ?_) (v := ?_) ?_ (by kernel_rfl) (by kernel_rfl) (by kernel_rfl) ?_ (Or.inl ⟨?_, ?_⟩) hHeld ?_
          rotate_left 2
          · conv => lhs; simp only [List.getElem?_toArray, List.getElem?_cons_succ, List.getElem?_cons_zero]
          · exact fun _ _ _ h => h
          · rfl
          · intro W hSw
            go_simp
            try with_reducible rfl
          try simp only [Act.put, List.setIfInBounds_toArray, List.set_cons_zero, List.set_cons_succ]
          refine wpAnyH_ready (rs := [23]) (by kernel_rfl) (by simp) ?_
          refine AllReadyH.cons (o := ?_) ?_ (fun K hK => ?_) AllReadyH.nil
          rotate_left 1
          · conv => lhs; simp only [List.getElem?_toArray, List.getElem?_cons_succ, List.getElem?_cons_zero]
          go_simp
          refine Calls.mono (CN.out _ hHeld.1) ?_
          rintro e wE ⟨AE, cE, rfl, rdE, hbE⟩
          go_wp2_with fail
          refine hK.out _ _ (KS.out _ (up_trans hHeld.1 hbE)) (fun hHeld => ?_)
          clear hK K
          try simp only [Act.put, List.setIfInBounds_toArray, List.set_cons_zero, List.set_cons_succ]
          refine wpAnyH_ready (rs := [24]) (by kernel_rfl) (by simp) ?_
          refine AllReadyH.cons (o := ?_) ?_ (fun K hK => ?_) AllReadyH.nil
          rotate_left 1
          · conv => lhs; simp only [List.getElem?_toArray, List.getElem?_cons_succ, List.getElem?_cons_zero]
          go_simp
          refine Calls.mono (d_back rdE (by omega)) ?_
          rintro e wF ⟨AF, cF, rfl, rdF, hbF⟩
          go_wp2_with fail
          refine hK.out _ _ (KS.out _ (up_trans hHeld.1 hbF)) (fun hHeld => ?_)
          clear hK K
          try simp only [Act.put, List.setIfInBounds_toArray, List.set_cons_zero, List.set_cons_succ]
          refine wpAnyH_ready (rs := [32]) (by kernel_rfl) (by simp) ?_
          refine AllReadyH.cons (o := ?_) ?_ (fun K hK => ?_) AllReadyH.nil
          rotate_left 1
          · conv => lhs; simp only [List.getElem?_toArray, List.getElem?_cons_succ, List.getElem?_cons_zero]
          go_simp
          refine Calls.mono (CE.out _ hHeld.1) ?_
          rintro e wG ⟨AG, cG, rfl, rdG, hbG⟩
          go_wp2_with fail
          refine hK.out _ _ (KS.out _ (up_trans hHeld.1 hbG)) (fun hHeld => ?_)
          clear hK K
          try simp only [Act.put, List.setIfInBounds_toArray, List.set_cons_zero, List.set_cons_succ]
          refine wpAnyH_ready (rs := [33]) (by kernel_rfl) (by simp) ?_
          refine AllReadyH.cons (o := ?_) ?_ (fun K hK => ?_) AllReadyH.nil
          rotate_left 1
          · conv => lhs; simp only [List.getElem?_toArray, List.getElem?_cons_succ, List.getElem?_cons_zero]
          go_simp
          refine Calls.mono (d_same (rdF.below hbG) rdG (by omega)) ?_
          rintro e wH ⟨rfl, hdH⟩
          go_wp2_with fail
          refine hK.out _ _ (KS.out _ (up_trans hHeld.1 hdH.below)) (fun hHeld => ?_)
          clear hK K
          try simp only [Act.put, List.setIfInBounds_toArray, List.set_cons_zero, List.set_cons_succ]
          refine wpAnyH_take (i := 34) (oi := ?_) (v := ?_) ?_ (by kernel_rfl) (by kernel_rfl) (by kernel_rfl) ?_ (Or.inl ⟨?_, ?_⟩) hHeld ?_
          rotate_left 2
          · conv => lhs; simp only [List.getElem?_toArray, List.getElem?_cons_succ, List.getElem?_cons_zero]
          · exact fun _ _ _ h => h
          · rfl
          · intro W hSw
            go_simp
            try with_reducible rfl
          try simp only [Act.put, List.setIfInBounds_toArray, List.set_cons_zero, List.set_cons_succ]
          refine wpAnyH_take (i := 35) (oi := ?_) (v := ?_) ?_ (by kernel_rfl) (by kernel_rfl) (by kernel_rfl) ?_ (Or.inl ⟨?_, ?_⟩) hHeld ?_
          rotate_left 2
          · conv => lhs; simp only [List.getElem?_toArray, List.getElem?_cons_succ, List.getElem?_cons_zero]
          · exact fun _ _ _ h => h
          · rfl
          · intro W hSw
            go_simp
            try with_reducible rfl
          try simp only [Act.put, List.setIfInBounds_toArray, List.set_cons_zero, List.set_cons_succ]
          refine wpAnyH_take (i := 36) (oi := ?_) (v := ?_) ?_ (by kernel_rfl) (by kernel_rfl) (by kernel_rfl) ?_ (Or.inl ⟨?_, ?_⟩) hHeld ?_
          rotate_left 2
          · conv => lhs; simp only [List.getElem?_toArray, List.getElem?_cons_succ, List.getElem?_cons_zero]
          · exact fun _ _ _ h => h
          · rfl
          · intro W hSw
            go_simp
            try with_reducible rfl
          try simp only [Act.put, List.setIfInBounds_toArray, List.set_cons_zero, List.set_cons_succ]
          refine wpAnyH_take (i := 37) (oi := ?_) (v := ?_) ?_ (by kernel_rfl) (by kernel_rfl) (by kernel_rfl) ?_ (Or.inl ⟨?_, ?_⟩) hHeld ?_
          rotate_left 2
          · conv => lhs; simp only [List.getElem?_toArray, List.getElem?_cons_succ, List.getElem?_cons_zero]
          · exact fun _ _ _ h => h
          · rfl
          · intro W hSw
            go_simp
            try with_reducible rfl
          try simp only [Act.put, List.setIfInBounds_toArray, List.set_cons_zero, List.set_cons_succ]
          refine wpAnyH_take (i := 39) (oi := ?_) (v := ?_) ?_ (by kernel_rfl) (by kernel_rfl) (by kernel_rfl) ?_ (Or.inl ⟨?_, ?_⟩) hHeld ?_
          rotate_left 2
          · conv => lhs; simp only [List.getElem?_toArray, List.getElem?_cons_succ, List.getElem?_cons_zero]
          · exact fun _ _ _ h => h
          · rfl
          · intro W hSw
            go_simp
            try with_reducible rfl
          try simp only [Act.put, List.setIfInBounds_toArray, List.set_cons_zero, List.set_cons_succ]
          refine wpAnyH_take (i := 40) (oi := ?_) (v := ?_) ?_ (by kernel_rfl) (by kernel_rfl) (by kernel_rfl) ?_ (Or.inl ⟨?_, ?_⟩) hHeld ?_
          rotate_left 2
          · conv => lhs; simp only [List.getElem?_toArray, List.getElem?_cons_succ, List.getElem?_cons_zero]
          · exact fun _ _ _ h => h
          · rfl
          · intro W hSw
            go_simp
            try with_reducible rfl
          try simp only [Act.put, List.setIfInBounds_toArray, List.set_cons_zero, List.set_cons_succ]
          refine wpAnyH_take (i := 41) (oi := ?_) (v := ?_) ?_ (by kernel_rfl) (by kernel_rfl) (by kernel_rfl) ?_ (Or.inl ⟨?_, ?_⟩) hHeld ?_
          rotate_left 2
          · conv => lhs; simp only [List.getElem?_toArray, List.getElem?_cons_succ, List.getElem?_cons_zero]
          · exact fun _ _ _ h => h
          · rfl
          · intro W hSw
            go_simp
            try with_reducible rfl
          try simp only [Act.put, List.setIfInBounds_toArray, List.set_cons_zero, List.set_cons_succ]
          refine wpAnyH_ready (rs := [38]) (by kernel_rfl) (by simp) ?_
          refine AllReadyH.cons (o := ?_) ?_ (fun K hK => ?_) AllReadyH.nil
          rotate_left 1
          · conv => lhs; simp only [List.getElem?_toArray, List.getElem?_cons_succ, List.getElem?_cons_zero]
          go_simp
          refine Calls.mono (CL.out _ hHeld.1) ?_
          rintro e wI ⟨rfl, hbI⟩
          go_wp2_with fail
          refine hK.out _ _ (KS.out _ (up_trans hHeld.1 hbI)) (fun hHeld => ?_)
          clear hK K
          try simp only [Act.put, List.setIfInBounds_toArray, List.set_cons_zero, List.set_cons_succ]
          refine wpAnyH_take (i := 42) (oi := ?_) (v := ?_) ?_ (by kernel_rfl) (by kernel_rfl) (by kernel_rfl) ?_ (Or.inl ⟨?_, ?_⟩) hHeld ?_
          rotate_left 2
          · conv => lhs; simp only [List.getElem?_toArray, List.getElem?_cons_succ, List.getElem?_cons_zero]
          · exact fun _ _ _ h => h
          · rfl
          · intro W hSw
            go_simp
            try with_reducible rfl
          try simp only [Act.put, List.setIfInBounds_toArray, List.set_cons_zero, List.set_cons_succ]
          refine wpAnyH_take (i := 43) (oi := ?_) (v := ?_) ?_ (by kernel_rfl) (by kernel_rfl) (by kernel_rfl) ?_ (Or.inl ⟨?_, ?_⟩) hHeld ?_
          rotate_left 2
          · conv => lhs; simp only [List.getElem?_toArray, List.getElem?_cons_succ, List.getElem?_cons_zero]
          · exact fun _ _ _ h => h
          · rfl
          · intro W hSw
            go_simp
            try with_reducible rfl
          try simp only [Act.put, List.setIfInBounds_toArray, List.set_cons_zero, List.set_cons_succ]
          refine wpAnyH_take (i := 44) (oi := ?_) (v := ?_) ?_ (by kernel_rfl) (by kernel_rfl) (by kernel_rfl) ?_ (Or.inl ⟨?_, ?_⟩) hHeld ?_
          rotate_left 2
          · conv => lhs; simp only [List.getElem?_toArray, List.getElem?_cons_succ, List.getElem?_cons_zero]
          · exact fun _ _ _ h => h
          · rfl
          · intro W hSw
            go_simp
            try with_reducible rfl
          try simp only [Act.put, List.setIfInBounds_toArray, List.set_cons_zero, List.set_cons_succ]
          refine wpAnyH_take (i := 45) (oi := ?_) (v := ?_) ?_ (by kernel_rfl) (by kernel_rfl) (by kernel_rfl) ?_ (Or.inl ⟨?_, ?_⟩) hHeld ?_
          rotate_left 2
          · conv => lhs; simp only [List.getElem?_toArray, List.getElem?_cons_succ, List.getElem?_cons_zero]
          · exact fun _ _ _ h => h
          · rfl
          · intro W hSw
            go_simp
            try with_reducible rfl
          try simp only [Act.put, List.setIfInBounds_toArray, List.set_cons_zero, List.set_cons_succ]
          refine wpAnyH_take (i := 47) (oi := ?_) (v := ?_) ?_ (by kernel_rfl) (by kernel_rfl) (by kernel_rfl) ?_ (Or.inl ⟨?_, ?_⟩) hHeld ?_
          rotate_left 2
          · conv => lhs; simp only [List.getElem?_toArray, List.getElem?_cons_succ, List.getElem?_cons_zero]
          · exact fun _ _ _ h => h
          · rfl
          · intro W hSw
            go_simp
            try with_reducible rfl
          try simp only [Act.put, List.setIfInBounds_toArray, List.set_cons_zero, List.set_cons_succ]
          refine wpAnyH_take (i := 48) (oi := ?_) (v := ?_) ?_ (by kernel_rfl) (by kernel_rfl) (by kernel_rfl) ?_ (Or.inl ⟨?_, ?_⟩) hHeld ?_
          rotate_left 2
          · conv => lhs; simp only [List.getElem?_toArray, List.getElem?_cons_succ, List.getElem?_cons_zero]
          · exact fun _ _ _ h => h
          · rfl
          · intro W hSw
            go_simp
            try with_reducible rfl
          try simp only [Act.put, List.setIfInBounds_toArray, List.set_cons_zero, List.set_cons_succ]
          refine wpAnyH_take (i := 49) (oi := ?_) (v := ?_) ?_ (by kernel_rfl) (by kernel_rfl) (by kernel_rfl) ?_ (Or.inl ⟨?_, ?_⟩) hHeld ?_
          rotate_left 2
          · conv => lhs; simp only [List.getElem?_toArray, List.getElem?_cons_succ, List.getElem?_cons_zero]
          · exact fun _ _ _ h => h
          · rfl
          · intro W hSw
            go_simp
            try with_reducible rfl
          try simp only [Act.put, List.setIfInBounds_toArray, List.set_cons_zero, List.set_cons_succ]
          refine wpAnyH_take (i := 50) (oi := ?_) (v := ?_) ?_ (by kernel_rfl) (by kernel_rfl) (by kernel_rfl) ?_ (Or.inl ⟨?_, ?_⟩) hHeld ?_
          rotate_left 2
          · conv => lhs; simp only [List.getElem?_toArray, List.getElem?_cons_succ, List.getElem?_cons_zero]
          · exact fun _ _ _ h => h
          · rfl
          · intro W hSw
            go_simp
            try with_reducible rfl
          try simp only [Act.put, List.setIfInBounds_toArray, List.set_cons_zero, List.set_cons_succ]
          refine wpAnyH_take (i := 51) (oi := ?_) (v := ?_) ?_ (by kernel_rfl) (by kernel_rfl) (by kernel_rfl) ?_ (Or.inl ⟨?_, ?_⟩) hHeld ?_
          rotate_left 2
          · conv => lhs; simp only [List.getElem?_toArray, List.getElem?_cons_succ, List.getElem?_cons_zero]
          · exact fun _ _ _ h => h
          · rfl
          · intro W hSw
            go_simp
            try with_reducible rfl
          try simp only [Act.put, List.setIfInBounds_toArray, List.set_cons_zero, List.set_cons_succ]
          refine wpAnyH_ready (rs := [46]) (by kernel_rfl) (by simp) ?_
          refine AllReadyH.cons (o := ?_) ?_ (fun K hK => ?_) AllReadyH.nil
          rotate_left 1
          · conv => lhs; simp only [List.getElem?_toArray, List.getElem?_cons_succ, List.getElem?_cons_zero]
          go_simp
          refine Calls.mono (CF.out _ hHeld.1) ?_
          rintro e w' ⟨rfl, rfl⟩
          go_wp2_with fail
          refine hK.out _ _ (KS.out _ hHeld.1) (fun hHeld => ?_)
          clear hK K
          try simp only [Act.put, List.setIfInBounds_toArray, List.set_cons_zero, List.set_cons_succ]
          refine wpAnyH_take (i := 52) (oi := ?_) (v := ?_) ?_ (by kernel_rfl) (by kernel_rfl) (by kernel_rfl) ?_ (Or.inl ⟨?_, ?_⟩) hHeld ?_
          rotate_left 2
          · conv => lhs; simp only [List.getElem?_toArray, List.getElem?_cons_succ, List.getElem?_cons_zero]
          · exact fun _ _ _ h => h
          · rfl
          · intro W hSw
            go_simp
            try with_reducible rfl
          try simp only [Act.put, List.setIfInBounds_toArray, List.set_cons_zero, List.set_cons_succ]
          refine wpAnyH_take (i := 53) (oi := ?_) (v := ?_) ?_ (by kernel_rfl) (by kernel_rfl) (by kernel_rfl) ?_ (Or.inl ⟨?_, ?_⟩) hHeld ?_
          rotate_left 2
          · conv => lhs; simp only [List.getElem?_toArray, List.getElem?_cons_succ, List.getElem?_cons_zero]
          · exact fun _ _ _ h => h
          · rfl
          · intro W hSw
            go_simp
            try with_reducible rfl
          try simp only [Act.put, List.setIfInBounds_toArray, List.set_cons_zero, List.set_cons_succ]
          refine wpAnyH_done (by kernel_rfl) ?_ _
          have hup := hHeld.1
          clear hHeld
          go_wp2_with fail
          go_roundw
          case rel => exact ⟨k + 1, M + 1, E, A4, c4, by omega, by omega, by go_num, ⟨(HP7.out.below hup).T.mono (by omega), (HP7.out.below hup).B, (HP7.out.below hup).R, (HP7.out.below hup).up, HP7.out.hz, HP7.out.hS, HP7.out.hb⟩⟩
          case measure => simp [intOf]; omega
        · skip
          go_wp2_with fail
          rw [HWS.out]
          refine Calls.mono (c_odrp hPL.T ww gn) ?_
          rintro e w3 ⟨rfl, hp3⟩
          have hst3 := hbs.only hp3.2 HNS.out
          have e1 := hst3.cell 1 _ rfl
          have e2 := hst3.cell 2 _ rfl
          have e3 := hst3.cell 3 _ rfl
          have e4 := hst3.cell 4 _ rfl
          have e5 := hst3.cell 5 _ rfl
          have e6 := hst3.cell 6 _ rfl
          have hZ3 := hPL.B.only hp3.2 hPL.nz
          have z0 := hZ3.cell 0 _ rfl
          have z1 := hZ3.cell 1 _ rfl
          have R3 := hPL.R.only hp3.2 (fun k e hk => hk.1 e)
          have hnew : ∀ k, w3.heap.size ≤ k → ¬ two S b k ∧ k ≠ z := fun k hk => by
            have h1 := hPL.T.lt
            have h2 := hPL.B.lt
            have h3 := hp3.2.size
            exact ⟨fun e => by rcases e with e | e <;> omega, by omega⟩
          go_wp2_with fail
          refine Calls.mono (d_drop R3 hPL.T.who hnew m ww gn) ?_
          rintro e w4 ⟨A4, c4, rfl, R4, hb4⟩
          obtain ⟨er, her⟩ : ∃ er, drpE D ww gn = er := ⟨_, rfl⟩
          rw [her]
          obtain ⟨E, hE⟩ : ∃ E, drpO D ww gn = E := ⟨_, rfl⟩
          rw [hE] at hp3 R4 ⊢
          clear hst3 hZ3 R3 hnew e1 e2 e3 e4 e5 e6 z0 z1 hE her

          have HP7 := Lib.hid (hPL.step hp3 R4 hb4 _ rfl)
          generalize hw7 : (w4.setCell ⟨z, 0, none⟩ (.int .i64 (m : Int))).setCell ⟨z, 1, none⟩ (.slice A4 E.length c4) = w7 at HP7
          have HW7 := Lib.hid hw7
          have hZ4 := (hPL.B.only hp3.2 hPL.nz).up hb4 (hPL.B.only hp3.2 hPL.nz).lt
          have q0 := hZ4.cell 0 _ rfl
          have q1 := hZ4.cell 1 _ rfl
          have qf0 := hZ4.free 0
          have qf1 := hZ4.free 1
          have hst4 := (hbs.only hp3.2 HNS.out).up hb4 (hbs.only hp3.2 HNS.out).lt
          have hzs : z ≠ wr.heap.size := by have := hPL.B.lt; omega
          have HST7 : Hid (Blk w7 wr.heap.size [.int .u8 d, .int .i64 ww, .int .i64 gk, .int .i64 go, .int .i64 gv, .int .i64 gr, .int .i64 gn] 36) := Lib.hid (by
            rw [← hw7]
            exact (hst4.other ⟨z, 0, none⟩ (Ne.symm hzs) _).other ⟨z, 1, none⟩ (Ne.symm hzs) _)
          have hEf : E.length ≤ 1024 := HP7.out.R.few
          have hEw := HP7.out.T.who
          have hEr := HP7.out.T.room_
          obtain ⟨fr, hfr⟩ : ∃ fr, fr + E.length = m := ⟨m - E.length, by omega⟩
          have KP := Lib.hid (fun W (hW : Below w7.heap.size w7 W) => (HP7.out.T.mono (M' := M + 1) (by omega)).below hW)
          have KR := Lib.hid (fun W (hW : Below w7.heap.size w7 W) => HP7.out.R.below hW)
          have KS : Hid (∀ W, Below w7.heap.size w7 W → Below w7.heap.size w7 W ∧ W.cell? ⟨wr.heap.size, 1, none⟩ = some (.int .i64 ww) ∧ W.cell? ⟨wr.heap.size, 2, none⟩ = some (.int .i64 gk) ∧ W.cell? ⟨wr.heap.size, 3, none⟩ = some (.int .i64 go) ∧ W.cell? ⟨z, 0, none⟩ = some (.int .i64 (m : Int)) ∧ W.cell? ⟨z, 1, none⟩ = some (.slice A4 E.length c4)) := Lib.hid fun W hW => by
            have h1 := HST7.out.up hW HST7.out.lt
            have h2 := HP7.out.B.up hW HP7.out.B.lt
            exact ⟨hW, h1.cell 1 _ rfl, h1.cell 2 _ rfl, h1.cell 3 _ rfl, h2.cell 0 _ rfl, h2.cell 1 _ rfl⟩
          have hgl := of_few E ww
          have hol := on_few hEw gk go
          have CG := Lib.hid (fun W (hW : Below w7.heap.size w7 W) => c_oOf (KP.out W hW) ww)
          have CD := Lib.hid (fun W (hW : Below w7.heap.size w7 W) => d_of (KR.out W hW) m ww)
          have CN := Lib.hid (fun W (hW : Below w7.heap.size w7 W) => c_oOn (KP.out W hW) gk go)
          have CE := Lib.hid (fun W (hW : Below w7.heap.size w7 W) => d_on (KR.out W hW) m gk go)
          have CL := Lib.hid (fun W (hW : Below w7.heap.size w7 W) => c_olen (KP.out W hW))
          have CF := Lib.hid (fun W (hW : Below w7.heap.size w7 W) => c_ofree (KP.out W hW) fr hfr)
          generalize ofL E ww = gs at CG CD hgl
          generalize onO E gk go = os at CN CE hol
          have hEx : ((E.length : Int) != E.length) = false := by simp
          have hwr : IntKind.i64.wrap ((m : Int) - E.length) = (fr : Int) := (IntWalk.i64_in _ (by omega)).trans (by omega)
          have hFx : ((fr : Int) != fr) = false := by simp
          have hxx : (er != er) = false := by simp
          clear HP hPL hp3 R4 hb4 hbs hw7 hst4 hZ4 hEw hEr hfr
          go_wp2_with fail
          rw [HW7.out]
          clear q0 q1 qf0 qf1
          refine wp_region_held_drew (S := fun W => Below w7.heap.size w7 W ∧ W.cell? ⟨wr.heap.size, 1, none⟩ = some (.int .i64 ww) ∧ W.cell? ⟨wr.heap.size, 2, none⟩ = some (.int .i64 gk) ∧ W.cell? ⟨wr.heap.size, 3, none⟩ = some (.int .i64 go) ∧ W.cell? ⟨z, 0, none⟩ = some (.int .i64 (m : Int)) ∧ W.cell? ⟨z, 1, none⟩ = some (.slice A4 E.length c4)) (by kernel_rfl) (KS.out _ (up_drewN w7 1)) (fun hHeld => ?_)
          refine wpAnyH_take (i := 0) (oi := ?_) (v := ?_) ?_ (by kernel_rfl) (by kernel_rfl) (by kernel_rfl) ?_ (Or.inl ⟨?_, ?_⟩) hHeld ?_
          rotate_left 2
          · conv => lhs; simp only [List.getElem?_toArray, List.getElem?_cons_succ, List.getElem?_cons_zero]
          · exact fun _ _ _ h => h
          · rfl
          · intro W hSw
            go_simp
            try with_reducible rfl
          try simp only [Act.put, List.setIfInBounds_toArray, List.set_cons_zero, List.set_cons_succ]
          refine wpAnyH_take (i := 1) (oi := ?_) (v := ?_) ?_ (by kernel_rfl) (by kernel_rfl) (by kernel_rfl) ?_ (Or.inl ⟨?_, ?_⟩) hHeld ?_
          rotate_left 2
          · conv => lhs; simp only [List.getElem?_toArray, List.getElem?_cons_succ, List.getElem?_cons_zero]
          · exact fun _ _ _ h => h
          · rfl
          · intro W hSw
            go_simp
            try with_reducible rfl
          try simp only [Act.put, List.setIfInBounds_toArray, List.set_cons_zero, List.set_cons_succ]
          refine wpAnyH_take (i := 2) (oi := ?_) (v := ?_) ?_ (by kernel_rfl) (by kernel_rfl) (by kernel_rfl) ?_ (Or.inl ⟨?_, ?_⟩) hHeld ?_
          rotate_left 2
          · conv => lhs; simp only [List.getElem?_toArray, List.getElem?_cons_succ, List.getElem?_cons_zero]
          · exact fun _ _ _ h => h
          · rfl
          · intro W hSw
            go_simp
            try with_reducible rfl
          try simp only [Act.put, List.setIfInBounds_toArray, List.set_cons_zero, List.set_cons_succ]
          refine wpAnyH_take (i := 3) (oi := ?_) (v := ?_) ?_ (by kernel_rfl) (by kernel_rfl) (by kernel_rfl) ?_ (Or.inl ⟨?_, ?_⟩) hHeld ?_
          rotate_left 2
          · conv => lhs; simp only [List.getElem?_toArray, List.getElem?_cons_succ, List.getElem?_cons_zero]
          · exact fun _ _ _ h => h
          · rfl
          · intro W hSw
            go_simp
            try with_reducible rfl
          try simp only [Act.put, List.setIfInBounds_toArray, List.set_cons_zero, List.set_cons_succ]
          refine wpAnyH_take (i := 4) (oi := ?_) (v := ?_) ?_ (by kernel_rfl) (by kernel_rfl) (by kernel_rfl) ?_ (Or.inl ⟨?_, ?_⟩) hHeld ?_
          rotate_left 2
          · conv => lhs; simp only [List.getElem?_toArray, List.getElem?_cons_succ, List.getElem?_cons_zero]
          · exact fun _ _ _ h => h
          · rfl
          · intro W hSw
            go_simp
            try with_reducible rfl
          try simp only [Act.put, List.setIfInBounds_toArray, List.set_cons_zero, List.set_cons_succ]
          refine wpAnyH_take (i := 5) (oi := ?_) (v := ?_) ?_ (by kernel_rfl) (by kernel_rfl) (by kernel_rfl) ?_ (Or.inl ⟨?_, ?_⟩) hHeld ?_
          rotate_left 2
          · conv => lhs; simp only [List.getElem?_toArray, List.getElem?_cons_succ, List.getElem?_cons_zero]
          · exact fun _ _ _ h => h
          · rfl
          · intro W hSw
            go_simp
            try with_reducible rfl
          try simp only [Act.put, List.setIfInBounds_toArray, List.set_cons_zero, List.set_cons_succ]
          refine wpAnyH_take (i := 6) (oi := ?_) (v := ?_) ?_ (by kernel_rfl) (by kernel_rfl) (by kernel_rfl) ?_ (Or.inl ⟨?_, ?_⟩) hHeld ?_
          rotate_left 2
          · conv => lhs; simp only [List.getElem?_toArray, List.getElem?_cons_succ, List.getElem?_cons_zero]
          · exact fun _ _ _ h => h
          · rfl
          · intro W hSw
            go_simp
            try with_reducible rfl
          try simp only [Act.put, List.setIfInBounds_toArray, List.set_cons_zero, List.set_cons_succ]
          refine wpAnyH_take (i := 8) (oi := ?_) (v := ?_) ?_ (by kernel_rfl) (by kernel_rfl) (by kernel_rfl) ?_ (Or.inl ⟨?_, ?_⟩) hHeld ?_
          rotate_left 2
          · conv => lhs; simp only [List.getElem?_toArray, List.getElem?_cons_succ, List.getElem?_cons_zero]
          · exact fun _ _ _ h => h
          · rfl
          · intro W hSw
            go_simp
            try with_reducible rfl
          try simp only [Act.put, List.setIfInBounds_toArray, List.set_cons_zero, List.set_cons_succ]
          refine wpAnyH_take (i := 9) (oi := ?_) (v := ?_) ?_ (by kernel_rfl) (by kernel_rfl) (by kernel_rfl) ?_ (Or.inl ⟨?_, ?_⟩) hHeld ?_
          rotate_left 2
          · conv => lhs; simp only [List.getElem?_toArray, List.getElem?_cons_succ, List.getElem?_cons_zero]
          · exact fun _ _ _ h => h
          · rfl
          · intro W hSw
            go_simp
            try with_reducible rfl
          try simp only [Act.put, List.setIfInBounds_toArray, List.set_cons_zero, List.set_cons_succ]
          refine wpAnyH_take (i := 10) (oi := ?_) (v := ?_) ?_ (by kernel_rfl) (by kernel_rfl) (by kernel_rfl) ?_ (Or.inl ⟨?_, ?_⟩) hHeld ?_
          rotate_left 2
          · conv => lhs; simp only [List.getElem?_toArray, List.getElem?_cons_succ, List.getElem?_cons_zero]
          · exact fun _ _ _ h => h
          · rfl
          · intro W hSw
            go_simp
            try with_reducible rfl
          try simp only [Act.put, List.setIfInBounds_toArray, List.set_cons_zero, List.set_cons_succ]
          refine wpAnyH_ready (rs := [7]) (by kernel_rfl) (by simp) ?_
          refine AllReadyH.cons (o := ?_) ?_ (fun K hK => ?_) AllReadyH.nil
          rotate_left 1
          · conv => lhs; simp only [List.getElem?_toArray, List.getElem?_cons_succ, List.getElem?_cons_zero]
          go_simp
          refine Calls.mono (CG.out _ hHeld.1) ?_
          rintro e wA ⟨AA, cA, rfl, rdA, hbA⟩
          go_wp2_with fail
          refine hK.out _ _ (KS.out _ (up_trans hHeld.1 hbA)) (fun hHeld => ?_)
          clear hK K
          try simp only [Act.put, List.setIfInBounds_toArray, List.set_cons_zero, List.set_cons_succ]
          refine wpAnyH_ready (rs := [11]) (by kernel_rfl) (by simp) ?_
          refine AllReadyH.cons (o := ?_) ?_ (fun K hK => ?_) AllReadyH.nil
          rotate_left 1
          · conv => lhs; simp only [List.getElem?_toArray, List.getElem?_cons_succ, List.getElem?_cons_zero]
          go_simp
          refine Calls.mono (CD.out _ hHeld.1) ?_
          rintro e wB ⟨AB, cB, rfl, rdB, hbB⟩
          go_wp2_with fail
          refine hK.out _ _ (KS.out _ (up_trans hHeld.1 hbB)) (fun hHeld => ?_)
          clear hK K
          try simp only [Act.put, List.setIfInBounds_toArray, List.set_cons_zero, List.set_cons_succ]
          refine wpAnyH_ready (rs := [12]) (by kernel_rfl) (by simp) ?_
          refine AllReadyH.cons (o := ?_) ?_ (fun K hK => ?_) AllReadyH.nil
          rotate_left 1
          · conv => lhs; simp only [List.getElem?_toArray, List.getElem?_cons_succ, List.getElem?_cons_zero]
          go_simp
          refine Calls.mono (d_sameG (rdA.below hbB) rdB (by omega)) ?_
          rintro e wC ⟨rfl, hdC⟩
          go_wp2_with fail
          refine hK.out _ _ (KS.out _ (up_trans hHeld.1 hdC.below)) (fun hHeld => ?_)
          clear hK K
          try simp only [Act.put, List.setIfInBounds_toArray, List.set_cons_zero, List.set_cons_succ]
          refine wpAnyH_take (i := 13) (oi := ?_) (v := ?_) ?_ (by kernel_rfl) (by kernel_rfl) (by kernel_rfl) ?_ (Or.inl ⟨?_, ?_⟩) hHeld ?_
          rotate_left 2
          · conv => lhs; simp only [List.getElem?_toArray, List.getElem?_cons_succ, List.getElem?_cons_zero]
          · exact fun _ _ _ h => h
          · rfl
          · intro W hSw
            go_simp
            try with_reducible rfl
          try simp only [Act.put, List.setIfInBounds_toArray, List.set_cons_zero, List.set_cons_succ]
          refine wpAnyH_take (i := 14) (oi := ?_) (v := ?_) ?_ (by kernel_rfl) (by kernel_rfl) (by kernel_rfl) ?_ (Or.inl ⟨?_, ?_⟩) hHeld ?_
          rotate_left 2
          · conv => lhs; simp only [List.getElem?_toArray, List.getElem?_cons_succ, List.getElem?_cons_zero]
          · exact fun _ _ _ h => h
          · rfl
          · intro W hSw
            go_simp
            try with_reducible rfl
          try simp only [Act.put, List.setIfInBounds_toArray, List.set_cons_zero, List.set_cons_succ]
          refine wpAnyH_take (i := 15) (oi := ?_) (v := ?_) ?_ (by kernel_rfl) (by kernel_rfl) (by kernel_rfl) ?_ (Or.inl ⟨?_, ?_⟩) hHeld ?_
          rotate_left 2
          · conv => lhs; simp only [List.getElem?_toArray, List.getElem?_cons_succ, List.getElem?_cons_zero]
          · exact fun _ _ _ h => h
          · rfl
          · intro W hSw
            go_simp
            try with_reducible rfl
          try simp only [Act.put, List.setIfInBounds_toArray, List.set_cons_zero, List.set_cons_succ]
          refine wpAnyH_take (i := 16) (oi := ?_) (v := ?_) ?_ (by kernel_rfl) (by kernel_rfl) (by kernel_rfl) ?_ (Or.inl ⟨?_, ?_⟩) hHeld ?_
          rotate_left 2
          · conv => lhs; simp only [List.getElem?_toArray, List.getElem?_cons_succ, List.getElem?_cons_zero]
          · exact fun _ _ _ h => h
          · rfl
          · intro W hSw
            go_simp
            try with_reducible rfl
          try simp only [Act.put, List.setIfInBounds_toArray, List.set_cons_zero, List.set_cons_succ]
          refine wpAnyH_take (i := 17) (oi := ?_) (v := ?_) ?_ (by kernel_rfl) (by kernel_rfl) (by kernel_rfl) ?_ (Or.inl ⟨?_, ?_⟩) hHeld ?_
          rotate_left 2
          · conv => lhs; simp only [List.getElem?_toArray, List.getElem?_cons_succ, List.getElem?_cons_zero]
          · exact fun _ _ _ h => h
          · rfl
          · intro W hSw
            go_simp
            try with_reducible rfl
          try simp only [Act.put, List.setIfInBounds_toArray, List.set_cons_zero, List.set_cons_succ]
          refine wpAnyH_take (i := 18) (oi := ?_) (v := ?_) ?_ (by kernel_rfl) (by kernel_rfl) (by kernel_rfl) ?_ (Or.inl ⟨?_, ?_⟩) hHeld ?_
          rotate_left 2
          · conv => lhs; simp only [List.getElem?_toArray, List.getElem?_cons_succ, List.getElem?_cons_zero]
          · exact fun _ _ _ h => h
          · rfl
          · intro W hSw
            go_simp
            try with_reducible rfl
          try simp only [Act.put, List.setIfInBounds_toArray, List.set_cons_zero, List.set_cons_succ]
          refine wpAnyH_take (i := 19) (oi := ?_) (v := ?_) ?_ (by kernel_rfl) (by kernel_rfl) (by kernel_rfl) ?_ (Or.inl ⟨?_, ?_⟩) hHeld ?_
          rotate_left 2
          · conv => lhs; simp only [List.getElem?_toArray, List.getElem?_cons_succ, List.getElem?_cons_zero]
          · exact fun _ _ _ h => h
          · rfl
          · intro W hSw
            go_simp
            try with_reducible rfl
          try simp only [Act.put, List.setIfInBounds_toArray, List.set_cons_zero, List.set_cons_succ]
          refine wpAnyH_take (i := 20) (oi := ?_) (v := ?_) ?_ (by kernel_rfl) (by kernel_rfl) (by kernel_rfl) ?_ (Or.inl ⟨?_, ?_⟩) hHeld ?_
          rotate_left 2
          · conv => lhs; simp only [List.getElem?_toArray, List.getElem?_cons_succ, List.getElem?_cons_zero]
          · exact fun _ _ _ h => h
          · rfl
          · intro W hSw
            go_simp
            try with_reducible rfl
          try simp only [Act.put, List.setIfInBounds_toArray, List.set_cons_zero, List.set_cons_succ]
          refine wpAnyH_take (i := 21) (oi := ?_) (v := ?_) ?_ (by kernel_rfl) (by kernel_rfl) (by kernel_rfl) ?_ (Or.inl ⟨?_, ?_⟩) hHeld ?_
          rotate_left 2
          · conv => lhs; simp only [List.getElem?_toArray, List.getElem?_cons_succ, List.getElem?_cons_zero]
          · exact fun _ _ _ h => h
          · rfl
          · intro W hSw
            go_simp
            try with_reducible rfl
          try simp only [Act.put, List.setIfInBounds_toArray, List.set_cons_zero, List.set_cons_succ]
          refine wpAnyH_take (i := 22) (oi := ?_) (v := ?_) ?_ (by kernel_rfl) (by kernel_rfl) (by kernel_rfl) ?_ (Or.inl ⟨?_, ?_⟩) hHeld ?_
          rotate_left 2
          · conv => lhs; simp only [List.getElem?_toArray, List.getElem?_cons_succ, List.getElem?_cons_zero]
          · exact fun _ _ _ h => h
          · rfl
          · intro W hSw
            go_simp
            try with_reducible rfl
          try simp only [Act.put, List.setIfInBounds_toArray, List.set_cons_zero, List.set_cons_succ]
          refine wpAnyH_take (i := 25) (oi := ?_) (v := ?_) ?_ (by kernel_rfl) (by kernel_rfl) (by kernel_rfl) ?_ (Or.inl ⟨?_, ?_⟩) hHeld ?_
          rotate_left 2
          · conv => lhs; simp only [List.getElem?_toArray, List.getElem?_cons_succ, List.getElem?_cons_zero]
          · exact fun _ _ _ h => h
          · rfl
          · intro W hSw
            go_simp
            try with_reducible rfl
          try simp only [Act.put, List.setIfInBounds_toArray, List.set_cons_zero, List.set_cons_succ]
          refine wpAnyH_take (i := 26) (oi := ?_) (v := ?_) ?_ (by kernel_rfl) (by kernel_rfl) (by kernel_rfl) ?_ (Or.inl ⟨?_, ?_⟩) hHeld ?_
          rotate_left 2
          · conv => lhs; simp only [List.getElem?_toArray, List.getElem?_cons_succ, List.getElem?_cons_zero]
          · exact fun _ _ _ h => h
          · rfl
          · intro W hSw
            go_simp
            try with_reducible rfl
          try simp only [Act.put, List.setIfInBounds_toArray, List.set_cons_zero, List.set_cons_succ]
          refine wpAnyH_take (i := 27) (oi := ?_) (v := ?_) ?_ (by kernel_rfl) (by kernel_rfl) (by kernel_rfl) ?_ (Or.inl ⟨?_, ?_⟩) hHeld ?_
          rotate_left 2
          · conv => lhs; simp only [List.getElem?_toArray, List.getElem?_cons_succ, List.getElem?_cons_zero]
          · exact fun _ _ _ h => h
          · rfl
          · intro W hSw
            go_simp
            try with_reducible rfl
          try simp only [Act.put, List.setIfInBounds_toArray, List.set_cons_zero, List.set_cons_succ]
          refine wpAnyH_take (i := 28) (oi := ?_) (v := ?_) ?_ (by kernel_rfl) (by kernel_rfl) (by kernel_rfl) ?_ (Or.inl ⟨?_, ?_⟩) hHeld ?_
          rotate_left 2
          · conv => lhs; simp only [List.getElem?_toArray, List.getElem?_cons_succ, List.getElem?_cons_zero]
          · exact fun _ _ _ h => h
          · rfl
          · intro W hSw
            go_simp
            try with_reducible rfl
          try simp only [Act.put, List.setIfInBounds_toArray, List.set_cons_zero, List.set_cons_succ]
          refine wpAnyH_take (i := 29) (oi := ?_) (v := ?_) ?_ (by kernel_rfl) (by kernel_rfl) (by kernel_rfl) ?_ (Or.inl ⟨?_, ?_⟩) hHeld ?_
          rotate_left 2
          · conv => lhs; simp only [List.getElem?_toArray, List.getElem?_cons_succ, List.getElem?_cons_zero]
          · exact fun _ _ _ h => h
          · rfl
          · intro W hSw
            go_simp
            try with_reducible rfl
          try simp only [Act.put, List.setIfInBounds_toArray, List.set_cons_zero, List.set_cons_succ]
          refine wpAnyH_take (i := 30) (oi := ?_) (v := ?_) ?_ (by kernel_rfl) (by kernel_rfl) (by kernel_rfl) ?_ (Or.inl ⟨?_, ?_⟩) hHeld ?_
          rotate_left 2
          · conv => lhs; simp only [List.getElem?_toArray, List.getElem?_cons_succ, List.getElem?_cons_zero]
          · exact fun _ _ _ h => h
          · rfl
          · intro W hSw
            go_simp
            try with_reducible rfl
          try simp only [Act.put, List.setIfInBounds_toArray, List.set_cons_zero, List.set_cons_succ]
          refine wpAnyH_take (i := 31) (oi := ?_) (v := ?_) ?_ (by kernel_rfl) (by kernel_rfl) (by kernel_rfl) ?_ (Or.inl ⟨?_, ?_⟩) hHeld ?_
          rotate_left 2
          · conv => lhs; simp only [List.getElem?_toArray, List.getElem?_cons_succ, List.getElem?_cons_zero]
          · exact fun _ _ _ h => h
          · rfl
          · intro W hSw
            go_simp
            try with_reducible rfl
          try simp only [Act.put, List.setIfInBounds_toArray, List.set_cons_zero, List.set_cons_succ]
          refine wpAnyH_ready (rs := [23]) (by kernel_rfl) (by simp) ?_
          refine AllReadyH.cons (o := ?_) ?_ (fun K hK => ?_) AllReadyH.nil
          rotate_left 1
          · conv => lhs; simp only [List.getElem?_toArray, List.getElem?_cons_succ, List.getElem?_cons_zero]
          go_simp
          refine Calls.mono (CN.out _ hHeld.1) ?_
          rintro e wE ⟨AE, cE, rfl, rdE, hbE⟩
          go_wp2_with fail
          refine hK.out _ _ (KS.out _ (up_trans hHeld.1 hbE)) (fun hHeld => ?_)
          clear hK K
          try simp only [Act.put, List.setIfInBounds_toArray, List.set_cons_zero, List.set_cons_succ]
          refine wpAnyH_ready (rs := [24]) (by kernel_rfl) (by simp) ?_
          refine AllReadyH.cons (o := ?_) ?_ (fun K hK => ?_) AllReadyH.nil
          rotate_left 1
          · conv => lhs; simp only [List.getElem?_toArray, List.getElem?_cons_succ, List.getElem?_cons_zero]
          go_simp
          refine Calls.mono (d_back rdE (by omega)) ?_
          rintro e wF ⟨AF, cF, rfl, rdF, hbF⟩
          go_wp2_with fail
          refine hK.out _ _ (KS.out _ (up_trans hHeld.1 hbF)) (fun hHeld => ?_)
          clear hK K
          try simp only [Act.put, List.setIfInBounds_toArray, List.set_cons_zero, List.set_cons_succ]
          refine wpAnyH_ready (rs := [32]) (by kernel_rfl) (by simp) ?_
          refine AllReadyH.cons (o := ?_) ?_ (fun K hK => ?_) AllReadyH.nil
          rotate_left 1
          · conv => lhs; simp only [List.getElem?_toArray, List.getElem?_cons_succ, List.getElem?_cons_zero]
          go_simp
          refine Calls.mono (CE.out _ hHeld.1) ?_
          rintro e wG ⟨AG, cG, rfl, rdG, hbG⟩
          go_wp2_with fail
          refine hK.out _ _ (KS.out _ (up_trans hHeld.1 hbG)) (fun hHeld => ?_)
          clear hK K
          try simp only [Act.put, List.setIfInBounds_toArray, List.set_cons_zero, List.set_cons_succ]
          refine wpAnyH_ready (rs := [33]) (by kernel_rfl) (by simp) ?_
          refine AllReadyH.cons (o := ?_) ?_ (fun K hK => ?_) AllReadyH.nil
          rotate_left 1
          · conv => lhs; simp only [List.getElem?_toArray, List.getElem?_cons_succ, List.getElem?_cons_zero]
          go_simp
          refine Calls.mono (d_same (rdF.below hbG) rdG (by omega)) ?_
          rintro e wH ⟨rfl, hdH⟩
          go_wp2_with fail
          refine hK.out _ _ (KS.out _ (up_trans hHeld.1 hdH.below)) (fun hHeld => ?_)
          clear hK K
          try simp only [Act.put, List.setIfInBounds_toArray, List.set_cons_zero, List.set_cons_succ]
          refine wpAnyH_take (i := 34) (oi := ?_) (v := ?_) ?_ (by kernel_rfl) (by kernel_rfl) (by kernel_rfl) ?_ (Or.inl ⟨?_, ?_⟩) hHeld ?_
          rotate_left 2
          · conv => lhs; simp only [List.getElem?_toArray, List.getElem?_cons_succ, List.getElem?_cons_zero]
          · exact fun _ _ _ h => h
          · rfl
          · intro W hSw
            go_simp
            try with_reducible rfl
          try simp only [Act.put, List.setIfInBounds_toArray, List.set_cons_zero, List.set_cons_succ]
          refine wpAnyH_take (i := 35) (oi := ?_) (v := ?_) ?_ (by kernel_rfl) (by kernel_rfl) (by kernel_rfl) ?_ (Or.inl ⟨?_, ?_⟩) hHeld ?_
          rotate_left 2
          · conv => lhs; simp only [List.getElem?_toArray, List.getElem?_cons_succ, List.getElem?_cons_zero]
          · exact fun _ _ _ h => h
          · rfl
          · intro W hSw
            go_simp
            try with_reducible rfl
          try simp only [Act.put, List.setIfInBounds_toArray, List.set_cons_zero, List.set_cons_succ]
          refine wpAnyH_take (i := 36) (oi := ?_) (v := ?_) ?_ (by kernel_rfl) (by kernel_rfl) (by kernel_rfl) ?_ (Or.inl ⟨?_, ?_⟩) hHeld ?_
          rotate_left 2
          · conv => lhs; simp only [List.getElem?_toArray, List.getElem?_cons_succ, List.getElem?_cons_zero]
          · exact fun _ _ _ h => h
          · rfl
          · intro W hSw
            go_simp
            try with_reducible rfl
          try simp only [Act.put, List.setIfInBounds_toArray, List.set_cons_zero, List.set_cons_succ]
          refine wpAnyH_take (i := 37) (oi := ?_) (v := ?_) ?_ (by kernel_rfl) (by kernel_rfl) (by kernel_rfl) ?_ (Or.inl ⟨?_, ?_⟩) hHeld ?_
          rotate_left 2
          · conv => lhs; simp only [List.getElem?_toArray, List.getElem?_cons_succ, List.getElem?_cons_zero]
          · exact fun _ _ _ h => h
          · rfl
          · intro W hSw
            go_simp
            try with_reducible rfl
          try simp only [Act.put, List.setIfInBounds_toArray, List.set_cons_zero, List.set_cons_succ]
          refine wpAnyH_take (i := 39) (oi := ?_) (v := ?_) ?_ (by kernel_rfl) (by kernel_rfl) (by kernel_rfl) ?_ (Or.inl ⟨?_, ?_⟩) hHeld ?_
          rotate_left 2
          · conv => lhs; simp only [List.getElem?_toArray, List.getElem?_cons_succ, List.getElem?_cons_zero]
          · exact fun _ _ _ h => h
          · rfl
          · intro W hSw
            go_simp
            try with_reducible rfl
          try simp only [Act.put, List.setIfInBounds_toArray, List.set_cons_zero, List.set_cons_succ]
          refine wpAnyH_take (i := 40) (oi := ?_) (v := ?_) ?_ (by kernel_rfl) (by kernel_rfl) (by kernel_rfl) ?_ (Or.inl ⟨?_, ?_⟩) hHeld ?_
          rotate_left 2
          · conv => lhs; simp only [List.getElem?_toArray, List.getElem?_cons_succ, List.getElem?_cons_zero]
          · exact fun _ _ _ h => h
          · rfl
          · intro W hSw
            go_simp
            try with_reducible rfl
          try simp only [Act.put, List.setIfInBounds_toArray, List.set_cons_zero, List.set_cons_succ]
          refine wpAnyH_take (i := 41) (oi := ?_) (v := ?_) ?_ (by kernel_rfl) (by kernel_rfl) (by kernel_rfl) ?_ (Or.inl ⟨?_, ?_⟩) hHeld ?_
          rotate_left 2
          · conv => lhs; simp only [List.getElem?_toArray, List.getElem?_cons_succ, List.getElem?_cons_zero]
          · exact fun _ _ _ h => h
          · rfl
          · intro W hSw
            go_simp
            try with_reducible rfl
          try simp only [Act.put, List.setIfInBounds_toArray, List.set_cons_zero, List.set_cons_succ]
          refine wpAnyH_ready (rs := [38]) (by kernel_rfl) (by simp) ?_
          refine AllReadyH.cons (o := ?_) ?_ (fun K hK => ?_) AllReadyH.nil
          rotate_left 1
          · conv => lhs; simp only [List.getElem?_toArray, List.getElem?_cons_succ, List.getElem?_cons_zero]
          go_simp
          refine Calls.mono (CL.out _ hHeld.1) ?_
          rintro e wI ⟨rfl, hbI⟩
          go_wp2_with fail
          refine hK.out _ _ (KS.out _ (up_trans hHeld.1 hbI)) (fun hHeld => ?_)
          clear hK K
          try simp only [Act.put, List.setIfInBounds_toArray, List.set_cons_zero, List.set_cons_succ]
          refine wpAnyH_take (i := 42) (oi := ?_) (v := ?_) ?_ (by kernel_rfl) (by kernel_rfl) (by kernel_rfl) ?_ (Or.inl ⟨?_, ?_⟩) hHeld ?_
          rotate_left 2
          · conv => lhs; simp only [List.getElem?_toArray, List.getElem?_cons_succ, List.getElem?_cons_zero]
          · exact fun _ _ _ h => h
          · rfl
          · intro W hSw
            go_simp
            try with_reducible rfl
          try simp only [Act.put, List.setIfInBounds_toArray, List.set_cons_zero, List.set_cons_succ]
          refine wpAnyH_take (i := 43) (oi := ?_) (v := ?_) ?_ (by kernel_rfl) (by kernel_rfl) (by kernel_rfl) ?_ (Or.inl ⟨?_, ?_⟩) hHeld ?_
          rotate_left 2
          · conv => lhs; simp only [List.getElem?_toArray, List.getElem?_cons_succ, List.getElem?_cons_zero]
          · exact fun _ _ _ h => h
          · rfl
          · intro W hSw
            go_simp
            try with_reducible rfl
          try simp only [Act.put, List.setIfInBounds_toArray, List.set_cons_zero, List.set_cons_succ]
          refine wpAnyH_take (i := 44) (oi := ?_) (v := ?_) ?_ (by kernel_rfl) (by kernel_rfl) (by kernel_rfl) ?_ (Or.inl ⟨?_, ?_⟩) hHeld ?_
          rotate_left 2
          · conv => lhs; simp only [List.getElem?_toArray, List.getElem?_cons_succ, List.getElem?_cons_zero]
          · exact fun _ _ _ h => h
          · rfl
          · intro W hSw
            go_simp
            try with_reducible rfl
          try simp only [Act.put, List.setIfInBounds_toArray, List.set_cons_zero, List.set_cons_succ]
          refine wpAnyH_take (i := 45) (oi := ?_) (v := ?_) ?_ (by kernel_rfl) (by kernel_rfl) (by kernel_rfl) ?_ (Or.inl ⟨?_, ?_⟩) hHeld ?_
          rotate_left 2
          · conv => lhs; simp only [List.getElem?_toArray, List.getElem?_cons_succ, List.getElem?_cons_zero]
          · exact fun _ _ _ h => h
          · rfl
          · intro W hSw
            go_simp
            try with_reducible rfl
          try simp only [Act.put, List.setIfInBounds_toArray, List.set_cons_zero, List.set_cons_succ]
          refine wpAnyH_take (i := 47) (oi := ?_) (v := ?_) ?_ (by kernel_rfl) (by kernel_rfl) (by kernel_rfl) ?_ (Or.inl ⟨?_, ?_⟩) hHeld ?_
          rotate_left 2
          · conv => lhs; simp only [List.getElem?_toArray, List.getElem?_cons_succ, List.getElem?_cons_zero]
          · exact fun _ _ _ h => h
          · rfl
          · intro W hSw
            go_simp
            try with_reducible rfl
          try simp only [Act.put, List.setIfInBounds_toArray, List.set_cons_zero, List.set_cons_succ]
          refine wpAnyH_take (i := 48) (oi := ?_) (v := ?_) ?_ (by kernel_rfl) (by kernel_rfl) (by kernel_rfl) ?_ (Or.inl ⟨?_, ?_⟩) hHeld ?_
          rotate_left 2
          · conv => lhs; simp only [List.getElem?_toArray, List.getElem?_cons_succ, List.getElem?_cons_zero]
          · exact fun _ _ _ h => h
          · rfl
          · intro W hSw
            go_simp
            try with_reducible rfl
          try simp only [Act.put, List.setIfInBounds_toArray, List.set_cons_zero, List.set_cons_succ]
          refine wpAnyH_take (i := 49) (oi := ?_) (v := ?_) ?_ (by kernel_rfl) (by kernel_rfl) (by kernel_rfl) ?_ (Or.inl ⟨?_, ?_⟩) hHeld ?_
          rotate_left 2
          · conv => lhs; simp only [List.getElem?_toArray, List.getElem?_cons_succ, List.getElem?_cons_zero]
          · exact fun _ _ _ h => h
          · rfl
          · intro W hSw
            go_simp
            try with_reducible rfl
          try simp only [Act.put, List.setIfInBounds_toArray, List.set_cons_zero, List.set_cons_succ]
          refine wpAnyH_take (i := 50) (oi := ?_) (v := ?_) ?_ (by kernel_rfl) (by kernel_rfl) (by kernel_rfl) ?_ (Or.inl ⟨?_, ?_⟩) hHeld ?_
          rotate_left 2
          · conv => lhs; simp only [List.getElem?_toArray, List.getElem?_cons_succ, List.getElem?_cons_zero]
          · exact fun _ _ _ h => h
          · rfl
          · intro W hSw
            go_simp
            try with_reducible rfl
          try simp only [Act.put, List.setIfInBounds_toArray, List.set_cons_zero, List.set_cons_succ]
          refine wpAnyH_take (i := 51) (oi := ?_) (v := ?_) ?_ (by kernel_rfl) (by kernel_rfl) (by kernel_rfl) ?_ (Or.inl ⟨?_, ?_⟩) hHeld ?_
          rotate_left 2
          · conv => lhs; simp only [List.getElem?_toArray, List.getElem?_cons_succ, List.getElem?_cons_zero]
          · exact fun _ _ _ h => h
          · rfl
          · intro W hSw
            go_simp
            try with_reducible rfl
          try simp only [Act.put, List.setIfInBounds_toArray, List.set_cons_zero, List.set_cons_succ]
          refine wpAnyH_ready (rs := [46]) (by kernel_rfl) (by simp) ?_
          refine AllReadyH.cons (o := ?_) ?_ (fun K hK => ?_) AllReadyH.nil
          rotate_left 1
          · conv => lhs; simp only [List.getElem?_toArray, List.getElem?_cons_succ, List.getElem?_cons_zero]
          go_simp
          refine Calls.mono (CF.out _ hHeld.1) ?_
          rintro e w' ⟨rfl, rfl⟩
          go_wp2_with fail
          refine hK.out _ _ (KS.out _ hHeld.1) (fun hHeld => ?_)
          clear hK K
          try simp only [Act.put, List.setIfInBounds_toArray, List.set_cons_zero, List.set_cons_succ]
          refine wpAnyH_take (i := 52) (oi := ?_) (v := ?_) ?_ (by kernel_rfl) (by kernel_rfl) (by kernel_rfl) ?_ (Or.inl ⟨?_, ?_⟩) hHeld ?_
          rotate_left 2
          · conv => lhs; simp only [List.getElem?_toArray, List.getElem?_cons_succ, List.getElem?_cons_zero]
          · exact fun _ _ _ h => h
          · rfl
          · intro W hSw
            go_simp
            try with_reducible rfl
          try simp only [Act.put, List.setIfInBounds_toArray, List.set_cons_zero, List.set_cons_succ]
          refine wpAnyH_take (i := 53) (oi := ?_) (v := ?_) ?_ (by kernel_rfl) (by kernel_rfl) (by kernel_rfl) ?_ (Or.inl ⟨?_, ?_⟩) hHeld ?_
          rotate_left 2
          · conv => lhs; simp only [List.getElem?_toArray, List.getElem?_cons_succ, List.getElem?_cons_zero]
          · exact fun _ _ _ h => h
          · rfl
          · intro W hSw
            go_simp
            try with_reducible rfl
          try simp only [Act.put, List.setIfInBounds_toArray, List.set_cons_zero, List.set_cons_succ]
          refine wpAnyH_done (by kernel_rfl) ?_ _
          have hup := hHeld.1
          clear hHeld
          go_wp2_with fail
          go_roundw
          case rel => exact ⟨k + 1, M + 1, E, A4, c4, by omega, by omega, by go_num, ⟨(HP7.out.below hup).T.mono (by omega), (HP7.out.below hup).B, (HP7.out.below hup).R, (HP7.out.below hup).up, HP7.out.hz, HP7.out.hS, HP7.out.hb⟩⟩
          case measure => simp [intOf]; omega
      · skip
        go_wp2_with fail
        rw [HWS.out]
        refine Calls.mono (c_oclr hPL.T ww) ?_
        rintro e w3 ⟨rfl, hp3⟩
        have hst3 := hbs.only hp3.2 HNS.out
        have e1 := hst3.cell 1 _ rfl
        have e2 := hst3.cell 2 _ rfl
        have e3 := hst3.cell 3 _ rfl
        have e4 := hst3.cell 4 _ rfl
        have e5 := hst3.cell 5 _ rfl
        have e6 := hst3.cell 6 _ rfl
        have hZ3 := hPL.B.only hp3.2 hPL.nz
        have z0 := hZ3.cell 0 _ rfl
        have z1 := hZ3.cell 1 _ rfl
        have R3 := hPL.R.only hp3.2 (fun k e hk => hk.1 e)
        have hnew : ∀ k, w3.heap.size ≤ k → ¬ two S b k ∧ k ≠ z := fun k hk => by
          have h1 := hPL.T.lt
          have h2 := hPL.B.lt
          have h3 := hp3.2.size
          exact ⟨fun e => by rcases e with e | e <;> omega, by omega⟩
        go_wp2_with fail
        refine Calls.mono (d_clear R3 hnew m ww) ?_
        rintro e w4 ⟨A4, c4, rfl, R4, hb4⟩
        obtain ⟨er, her⟩ : ∃ er, ((D.length : Int) - (clO D ww).length) = er := ⟨_, rfl⟩
        rw [her]
        obtain ⟨E, hE⟩ : ∃ E, clO D ww = E := ⟨_, rfl⟩
        rw [hE] at hp3 R4 ⊢
        clear hst3 hZ3 R3 hnew e1 e2 e3 e4 e5 e6 z0 z1 hE her

        have HP7 := Lib.hid (hPL.step hp3 R4 hb4 _ rfl)
        generalize hw7 : (w4.setCell ⟨z, 0, none⟩ (.int .i64 (m : Int))).setCell ⟨z, 1, none⟩ (.slice A4 E.length c4) = w7 at HP7
        have HW7 := Lib.hid hw7
        have hZ4 := (hPL.B.only hp3.2 hPL.nz).up hb4 (hPL.B.only hp3.2 hPL.nz).lt
        have q0 := hZ4.cell 0 _ rfl
        have q1 := hZ4.cell 1 _ rfl
        have qf0 := hZ4.free 0
        have qf1 := hZ4.free 1
        have hst4 := (hbs.only hp3.2 HNS.out).up hb4 (hbs.only hp3.2 HNS.out).lt
        have hzs : z ≠ wr.heap.size := by have := hPL.B.lt; omega
        have HST7 : Hid (Blk w7 wr.heap.size [.int .u8 d, .int .i64 ww, .int .i64 gk, .int .i64 go, .int .i64 gv, .int .i64 gr, .int .i64 gn] 36) := Lib.hid (by
          rw [← hw7]
          exact (hst4.other ⟨z, 0, none⟩ (Ne.symm hzs) _).other ⟨z, 1, none⟩ (Ne.symm hzs) _)
        have hEf : E.length ≤ 1024 := HP7.out.R.few
        have hEw := HP7.out.T.who
        have hEr := HP7.out.T.room_
        obtain ⟨fr, hfr⟩ : ∃ fr, fr + E.length = m := ⟨m - E.length, by omega⟩
        have KP := Lib.hid (fun W (hW : Below w7.heap.size w7 W) => (HP7.out.T.mono (M' := M + 1) (by omega)).below hW)
        have KR := Lib.hid (fun W (hW : Below w7.heap.size w7 W) => HP7.out.R.below hW)
        have KS : Hid (∀ W, Below w7.heap.size w7 W → Below w7.heap.size w7 W ∧ W.cell? ⟨wr.heap.size, 1, none⟩ = some (.int .i64 ww) ∧ W.cell? ⟨wr.heap.size, 2, none⟩ = some (.int .i64 gk) ∧ W.cell? ⟨wr.heap.size, 3, none⟩ = some (.int .i64 go) ∧ W.cell? ⟨z, 0, none⟩ = some (.int .i64 (m : Int)) ∧ W.cell? ⟨z, 1, none⟩ = some (.slice A4 E.length c4)) := Lib.hid fun W hW => by
          have h1 := HST7.out.up hW HST7.out.lt
          have h2 := HP7.out.B.up hW HP7.out.B.lt
          exact ⟨hW, h1.cell 1 _ rfl, h1.cell 2 _ rfl, h1.cell 3 _ rfl, h2.cell 0 _ rfl, h2.cell 1 _ rfl⟩
        have hgl := of_few E ww
        have hol := on_few hEw gk go
        have CG := Lib.hid (fun W (hW : Below w7.heap.size w7 W) => c_oOf (KP.out W hW) ww)
        have CD := Lib.hid (fun W (hW : Below w7.heap.size w7 W) => d_of (KR.out W hW) m ww)
        have CN := Lib.hid (fun W (hW : Below w7.heap.size w7 W) => c_oOn (KP.out W hW) gk go)
        have CE := Lib.hid (fun W (hW : Below w7.heap.size w7 W) => d_on (KR.out W hW) m gk go)
        have CL := Lib.hid (fun W (hW : Below w7.heap.size w7 W) => c_olen (KP.out W hW))
        have CF := Lib.hid (fun W (hW : Below w7.heap.size w7 W) => c_ofree (KP.out W hW) fr hfr)
        generalize ofL E ww = gs at CG CD hgl
        generalize onO E gk go = os at CN CE hol
        have hEx : ((E.length : Int) != E.length) = false := by simp
        have hwr : IntKind.i64.wrap ((m : Int) - E.length) = (fr : Int) := (IntWalk.i64_in _ (by omega)).trans (by omega)
        have hFx : ((fr : Int) != fr) = false := by simp
        have hxx : (er != er) = false := by simp
        clear HP hPL hp3 R4 hb4 hbs hw7 hst4 hZ4 hEw hEr hfr
        go_wp2_with fail
        rw [HW7.out]
        clear q0 q1 qf0 qf1
        refine wp_region_held_drew (S := fun W => Below w7.heap.size w7 W ∧ W.cell? ⟨wr.heap.size, 1, none⟩ = some (.int .i64 ww) ∧ W.cell? ⟨wr.heap.size, 2, none⟩ = some (.int .i64 gk) ∧ W.cell? ⟨wr.heap.size, 3, none⟩ = some (.int .i64 go) ∧ W.cell? ⟨z, 0, none⟩ = some (.int .i64 (m : Int)) ∧ W.cell? ⟨z, 1, none⟩ = some (.slice A4 E.length c4)) (by kernel_rfl) (KS.out _ (up_drewN w7 1)) (fun hHeld => ?_)
        refine wpAnyH_take (i := 0) (oi := ?_) (v := ?_) ?_ (by kernel_rfl) (by kernel_rfl) (by kernel_rfl) ?_ (Or.inl ⟨?_, ?_⟩) hHeld ?_
        rotate_left 2
        · conv => lhs; simp only [List.getElem?_toArray, List.getElem?_cons_succ, List.getElem?_cons_zero]
        · exact fun _ _ _ h => h
        · rfl
        · intro W hSw
          go_simp
          try with_reducible rfl
        try simp only [Act.put, List.setIfInBounds_toArray, List.set_cons_zero, List.set_cons_succ]
        refine wpAnyH_take (i := 1) (oi := ?_) (v := ?_) ?_ (by kernel_rfl) (by kernel_rfl) (by kernel_rfl) ?_ (Or.inl ⟨?_, ?_⟩) hHeld ?_
        rotate_left 2
        · conv => lhs; simp only [List.getElem?_toArray, List.getElem?_cons_succ, List.getElem?_cons_zero]
        · exact fun _ _ _ h => h
        · rfl
        · intro W hSw
          go_simp
          try with_reducible rfl
        try simp only [Act.put, List.setIfInBounds_toArray, List.set_cons_zero, List.set_cons_succ]
        refine wpAnyH_take (i := 2) (oi := ?_) (v := ?_) ?_ (by kernel_rfl) (by kernel_rfl) (by kernel_rfl) ?_ (Or.inl ⟨?_, ?_⟩) hHeld ?_
        rotate_left 2
        · conv => lhs; simp only [List.getElem?_toArray, List.getElem?_cons_succ, List.getElem?_cons_zero]
        · exact fun _ _ _ h => h
        · rfl
        · intro W hSw
          go_simp
          try with_reducible rfl
        try simp only [Act.put, List.setIfInBounds_toArray, List.set_cons_zero, List.set_cons_succ]
        refine wpAnyH_take (i := 3) (oi := ?_) (v := ?_) ?_ (by kernel_rfl) (by kernel_rfl) (by kernel_rfl) ?_ (Or.inl ⟨?_, ?_⟩) hHeld ?_
        rotate_left 2
        · conv => lhs; simp only [List.getElem?_toArray, List.getElem?_cons_succ, List.getElem?_cons_zero]
        · exact fun _ _ _ h => h
        · rfl
        · intro W hSw
          go_simp
          try with_reducible rfl
        try simp only [Act.put, List.setIfInBounds_toArray, List.set_cons_zero, List.set_cons_succ]
        refine wpAnyH_take (i := 4) (oi := ?_) (v := ?_) ?_ (by kernel_rfl) (by kernel_rfl) (by kernel_rfl) ?_ (Or.inl ⟨?_, ?_⟩) hHeld ?_
        rotate_left 2
        · conv => lhs; simp only [List.getElem?_toArray, List.getElem?_cons_succ, List.getElem?_cons_zero]
        · exact fun _ _ _ h => h
        · rfl
        · intro W hSw
          go_simp
          try with_reducible rfl
        try simp only [Act.put, List.setIfInBounds_toArray, List.set_cons_zero, List.set_cons_succ]
        refine wpAnyH_take (i := 5) (oi := ?_) (v := ?_) ?_ (by kernel_rfl) (by kernel_rfl) (by kernel_rfl) ?_ (Or.inl ⟨?_, ?_⟩) hHeld ?_
        rotate_left 2
        · conv => lhs; simp only [List.getElem?_toArray, List.getElem?_cons_succ, List.getElem?_cons_zero]
        · exact fun _ _ _ h => h
        · rfl
        · intro W hSw
          go_simp
          try with_reducible rfl
        try simp only [Act.put, List.setIfInBounds_toArray, List.set_cons_zero, List.set_cons_succ]
        refine wpAnyH_take (i := 6) (oi := ?_) (v := ?_) ?_ (by kernel_rfl) (by kernel_rfl) (by kernel_rfl) ?_ (Or.inl ⟨?_, ?_⟩) hHeld ?_
        rotate_left 2
        · conv => lhs; simp only [List.getElem?_toArray, List.getElem?_cons_succ, List.getElem?_cons_zero]
        · exact fun _ _ _ h => h
        · rfl
        · intro W hSw
          go_simp
          try with_reducible rfl
        try simp only [Act.put, List.setIfInBounds_toArray, List.set_cons_zero, List.set_cons_succ]
        refine wpAnyH_take (i := 8) (oi := ?_) (v := ?_) ?_ (by kernel_rfl) (by kernel_rfl) (by kernel_rfl) ?_ (Or.inl ⟨?_, ?_⟩) hHeld ?_
        rotate_left 2
        · conv => lhs; simp only [List.getElem?_toArray, List.getElem?_cons_succ, List.getElem?_cons_zero]
        · exact fun _ _ _ h => h
        · rfl
        · intro W hSw
          go_simp
          try with_reducible rfl
        try simp only [Act.put, List.setIfInBounds_toArray, List.set_cons_zero, List.set_cons_succ]
        refine wpAnyH_take (i := 9) (oi := ?_) (v := ?_) ?_ (by kernel_rfl) (by kernel_rfl) (by kernel_rfl) ?_ (Or.inl ⟨?_, ?_⟩) hHeld ?_
        rotate_left 2
        · conv => lhs; simp only [List.getElem?_toArray, List.getElem?_cons_succ, List.getElem?_cons_zero]
        · exact fun _ _ _ h => h
        · rfl
        · intro W hSw
          go_simp
          try with_reducible rfl
        try simp only [Act.put, List.setIfInBounds_toArray, List.set_cons_zero, List.set_cons_succ]
        refine wpAnyH_take (i := 10) (oi := ?_) (v := ?_) ?_ (by kernel_rfl) (by kernel_rfl) (by kernel_rfl) ?_ (Or.inl ⟨?_, ?_⟩) hHeld ?_
        rotate_left 2
        · conv => lhs; simp only [List.getElem?_toArray, List.getElem?_cons_succ, List.getElem?_cons_zero]
        · exact fun _ _ _ h => h
        · rfl
        · intro W hSw
          go_simp
          try with_reducible rfl
        try simp only [Act.put, List.setIfInBounds_toArray, List.set_cons_zero, List.set_cons_succ]
        refine wpAnyH_ready (rs := [7]) (by kernel_rfl) (by simp) ?_
        refine AllReadyH.cons (o := ?_) ?_ (fun K hK => ?_) AllReadyH.nil
        rotate_left 1
        · conv => lhs; simp only [List.getElem?_toArray, List.getElem?_cons_succ, List.getElem?_cons_zero]
        go_simp
        refine Calls.mono (CG.out _ hHeld.1) ?_
        rintro e wA ⟨AA, cA, rfl, rdA, hbA⟩
        go_wp2_with fail
        refine hK.out _ _ (KS.out _ (up_trans hHeld.1 hbA)) (fun hHeld => ?_)
        clear hK K
        try simp only [Act.put, List.setIfInBounds_toArray, List.set_cons_zero, List.set_cons_succ]
        refine wpAnyH_ready (rs := [11]) (by kernel_rfl) (by simp) ?_
        refine AllReadyH.cons (o := ?_) ?_ (fun K hK => ?_) AllReadyH.nil
        rotate_left 1
        · conv => lhs; simp only [List.getElem?_toArray, List.getElem?_cons_succ, List.getElem?_cons_zero]
        go_simp
        refine Calls.mono (CD.out _ hHeld.1) ?_
        rintro e wB ⟨AB, cB, rfl, rdB, hbB⟩
        go_wp2_with fail
        refine hK.out _ _ (KS.out _ (up_trans hHeld.1 hbB)) (fun hHeld => ?_)
        clear hK K
        try simp only [Act.put, List.setIfInBounds_toArray, List.set_cons_zero, List.set_cons_succ]
        refine wpAnyH_ready (rs := [12]) (by kernel_rfl) (by simp) ?_
        refine AllReadyH.cons (o := ?_) ?_ (fun K hK => ?_) AllReadyH.nil
        rotate_left 1
        · conv => lhs; simp only [List.getElem?_toArray, List.getElem?_cons_succ, List.getElem?_cons_zero]
        go_simp
        refine Calls.mono (d_sameG (rdA.below hbB) rdB (by omega)) ?_
        rintro e wC ⟨rfl, hdC⟩
        go_wp2_with fail
        refine hK.out _ _ (KS.out _ (up_trans hHeld.1 hdC.below)) (fun hHeld => ?_)
        clear hK K
        try simp only [Act.put, List.setIfInBounds_toArray, List.set_cons_zero, List.set_cons_succ]
        refine wpAnyH_take (i := 13) (oi := ?_) (v := ?_) ?_ (by kernel_rfl) (by kernel_rfl) (by kernel_rfl) ?_ (Or.inl ⟨?_, ?_⟩) hHeld ?_
        rotate_left 2
        · conv => lhs; simp only [List.getElem?_toArray, List.getElem?_cons_succ, List.getElem?_cons_zero]
        · exact fun _ _ _ h => h
        · rfl
        · intro W hSw
          go_simp
          try with_reducible rfl
        try simp only [Act.put, List.setIfInBounds_toArray, List.set_cons_zero, List.set_cons_succ]
        refine wpAnyH_take (i := 14) (oi := ?_) (v := ?_) ?_ (by kernel_rfl) (by kernel_rfl) (by kernel_rfl) ?_ (Or.inl ⟨?_, ?_⟩) hHeld ?_
        rotate_left 2
        · conv => lhs; simp only [List.getElem?_toArray, List.getElem?_cons_succ, List.getElem?_cons_zero]
        · exact fun _ _ _ h => h
        · rfl
        · intro W hSw
          go_simp
          try with_reducible rfl
        try simp only [Act.put, List.setIfInBounds_toArray, List.set_cons_zero, List.set_cons_succ]
        refine wpAnyH_take (i := 15) (oi := ?_) (v := ?_) ?_ (by kernel_rfl) (by kernel_rfl) (by kernel_rfl) ?_ (Or.inl ⟨?_, ?_⟩) hHeld ?_
        rotate_left 2
        · conv => lhs; simp only [List.getElem?_toArray, List.getElem?_cons_succ, List.getElem?_cons_zero]
        · exact fun _ _ _ h => h
        · rfl
        · intro W hSw
          go_simp
          try with_reducible rfl
        try simp only [Act.put, List.setIfInBounds_toArray, List.set_cons_zero, List.set_cons_succ]
        refine wpAnyH_take (i := 16) (oi := ?_) (v := ?_) ?_ (by kernel_rfl) (by kernel_rfl) (by kernel_rfl) ?_ (Or.inl ⟨?_, ?_⟩) hHeld ?_
        rotate_left 2
        · conv => lhs; simp only [List.getElem?_toArray, List.getElem?_cons_succ, List.getElem?_cons_zero]
        · exact fun _ _ _ h => h
        · rfl
        · intro W hSw
          go_simp
          try with_reducible rfl
        try simp only [Act.put, List.setIfInBounds_toArray, List.set_cons_zero, List.set_cons_succ]
        refine wpAnyH_take (i := 17) (oi := ?_) (v := ?_) ?_ (by kernel_rfl) (by kernel_rfl) (by kernel_rfl) ?_ (Or.inl ⟨?_, ?_⟩) hHeld ?_
        rotate_left 2
        · conv => lhs; simp only [List.getElem?_toArray, List.getElem?_cons_succ, List.getElem?_cons_zero]
        · exact fun _ _ _ h => h
        · rfl
        · intro W hSw
          go_simp
          try with_reducible rfl
        try simp only [Act.put, List.setIfInBounds_toArray, List.set_cons_zero, List.set_cons_succ]
        refine wpAnyH_take (i := 18) (oi := ?_) (v := ?_) ?_ (by kernel_rfl) (by kernel_rfl) (by kernel_rfl) ?_ (Or.inl ⟨?_, ?_⟩) hHeld ?_
        rotate_left 2
        · conv => lhs; simp only [List.getElem?_toArray, List.getElem?_cons_succ, List.getElem?_cons_zero]
        · exact fun _ _ _ h => h
        · rfl
        · intro W hSw
          go_simp
          try with_reducible rfl
        try simp only [Act.put, List.setIfInBounds_toArray, List.set_cons_zero, List.set_cons_succ]
        refine wpAnyH_take (i := 19) (oi := ?_) (v := ?_) ?_ (by kernel_rfl) (by kernel_rfl) (by kernel_rfl) ?_ (Or.inl ⟨?_, ?_⟩) hHeld ?_
        rotate_left 2
        · conv => lhs; simp only [List.getElem?_toArray, List.getElem?_cons_succ, List.getElem?_cons_zero]
        · exact fun _ _ _ h => h
        · rfl
        · intro W hSw
          go_simp
          try with_reducible rfl
        try simp only [Act.put, List.setIfInBounds_toArray, List.set_cons_zero, List.set_cons_succ]
        refine wpAnyH_take (i := 20) (oi := ?_) (v := ?_) ?_ (by kernel_rfl) (by kernel_rfl) (by kernel_rfl) ?_ (Or.inl ⟨?_, ?_⟩) hHeld ?_
        rotate_left 2
        · conv => lhs; simp only [List.getElem?_toArray, List.getElem?_cons_succ, List.getElem?_cons_zero]
        · exact fun _ _ _ h => h
        · rfl
        · intro W hSw
          go_simp
          try with_reducible rfl
        try simp only [Act.put, List.setIfInBounds_toArray, List.set_cons_zero, List.set_cons_succ]
        refine wpAnyH_take (i := 21) (oi := ?_) (v := ?_) ?_ (by kernel_rfl) (by kernel_rfl) (by kernel_rfl) ?_ (Or.inl ⟨?_, ?_⟩) hHeld ?_
        rotate_left 2
        · conv => lhs; simp only [List.getElem?_toArray, List.getElem?_cons_succ, List.getElem?_cons_zero]
        · exact fun _ _ _ h => h
        · rfl
        · intro W hSw
          go_simp
          try with_reducible rfl
        try simp only [Act.put, List.setIfInBounds_toArray, List.set_cons_zero, List.set_cons_succ]
        refine wpAnyH_take (i := 22) (oi := ?_) (v := ?_) ?_ (by kernel_rfl) (by kernel_rfl) (by kernel_rfl) ?_ (Or.inl ⟨?_, ?_⟩) hHeld ?_
        rotate_left 2
        · conv => lhs; simp only [List.getElem?_toArray, List.getElem?_cons_succ, List.getElem?_cons_zero]
        · exact fun _ _ _ h => h
        · rfl
        · intro W hSw
          go_simp
          try with_reducible rfl
        try simp only [Act.put, List.setIfInBounds_toArray, List.set_cons_zero, List.set_cons_succ]
        refine wpAnyH_take (i := 25) (oi := ?_) (v := ?_) ?_ (by kernel_rfl) (by kernel_rfl) (by kernel_rfl) ?_ (Or.inl ⟨?_, ?_⟩) hHeld ?_
        rotate_left 2
        · conv => lhs; simp only [List.getElem?_toArray, List.getElem?_cons_succ, List.getElem?_cons_zero]
        · exact fun _ _ _ h => h
        · rfl
        · intro W hSw
          go_simp
          try with_reducible rfl
        try simp only [Act.put, List.setIfInBounds_toArray, List.set_cons_zero, List.set_cons_succ]
        refine wpAnyH_take (i := 26) (oi := ?_) (v := ?_) ?_ (by kernel_rfl) (by kernel_rfl) (by kernel_rfl) ?_ (Or.inl ⟨?_, ?_⟩) hHeld ?_
        rotate_left 2
        · conv => lhs; simp only [List.getElem?_toArray, List.getElem?_cons_succ, List.getElem?_cons_zero]
        · exact fun _ _ _ h => h
        · rfl
        · intro W hSw
          go_simp
          try with_reducible rfl
        try simp only [Act.put, List.setIfInBounds_toArray, List.set_cons_zero, List.set_cons_succ]
        refine wpAnyH_take (i := 27) (oi := ?_) (v := ?_) ?_ (by kernel_rfl) (by kernel_rfl) (by kernel_rfl) ?_ (Or.inl ⟨?_, ?_⟩) hHeld ?_
        rotate_left 2
        · conv => lhs; simp only [List.getElem?_toArray, List.getElem?_cons_succ, List.getElem?_cons_zero]
        · exact fun _ _ _ h => h
        · rfl
        · intro W hSw
          go_simp
          try with_reducible rfl
        try simp only [Act.put, List.setIfInBounds_toArray, List.set_cons_zero, List.set_cons_succ]
        refine wpAnyH_take (i := 28) (oi := ?_) (v := ?_) ?_ (by kernel_rfl) (by kernel_rfl) (by kernel_rfl) ?_ (Or.inl ⟨?_, ?_⟩) hHeld ?_
        rotate_left 2
        · conv => lhs; simp only [List.getElem?_toArray, List.getElem?_cons_succ, List.getElem?_cons_zero]
        · exact fun _ _ _ h => h
        · rfl
        · intro W hSw
          go_simp
          try with_reducible rfl
        try simp only [Act.put, List.setIfInBounds_toArray, List.set_cons_zero, List.set_cons_succ]
        refine wpAnyH_take (i := 29) (oi := ?_) (v := ?_) ?_ (by kernel_rfl) (by kernel_rfl) (by kernel_rfl) ?_ (Or.inl ⟨?_, ?_⟩) hHeld ?_
        rotate_left 2
        · conv => lhs; simp only [List.getElem?_toArray, List.getElem?_cons_succ, List.getElem?_cons_zero]
        · exact fun _ _ _ h => h
        · rfl
        · intro W hSw
          go_simp
          try with_reducible rfl
        try simp only [Act.put, List.setIfInBounds_toArray, List.set_cons_zero, List.set_cons_succ]
        refine wpAnyH_take (i := 30) (oi := ?_) (v := ?_) ?_ (by kernel_rfl) (by kernel_rfl) (by kernel_rfl) ?_ (Or.inl ⟨?_, ?_⟩) hHeld ?_
        rotate_left 2
        · conv => lhs; simp only [List.getElem?_toArray, List.getElem?_cons_succ, List.getElem?_cons_zero]
        · exact fun _ _ _ h => h
        · rfl
        · intro W hSw
          go_simp
          try with_reducible rfl
        try simp only [Act.put, List.setIfInBounds_toArray, List.set_cons_zero, List.set_cons_succ]
        refine wpAnyH_take (i := 31) (oi := ?_) (v := ?_) ?_ (by kernel_rfl) (by kernel_rfl) (by kernel_rfl) ?_ (Or.inl ⟨?_, ?_⟩) hHeld ?_
        rotate_left 2
        · conv => lhs; simp only [List.getElem?_toArray, List.getElem?_cons_succ, List.getElem?_cons_zero]
        · exact fun _ _ _ h => h
        · rfl
        · intro W hSw
          go_simp
          try with_reducible rfl
        try simp only [Act.put, List.setIfInBounds_toArray, List.set_cons_zero, List.set_cons_succ]
        refine wpAnyH_ready (rs := [23]) (by kernel_rfl) (by simp) ?_
        refine AllReadyH.cons (o := ?_) ?_ (fun K hK => ?_) AllReadyH.nil
        rotate_left 1
        · conv => lhs; simp only [List.getElem?_toArray, List.getElem?_cons_succ, List.getElem?_cons_zero]
        go_simp
        refine Calls.mono (CN.out _ hHeld.1) ?_
        rintro e wE ⟨AE, cE, rfl, rdE, hbE⟩
        go_wp2_with fail
        refine hK.out _ _ (KS.out _ (up_trans hHeld.1 hbE)) (fun hHeld => ?_)
        clear hK K
        try simp only [Act.put, List.setIfInBounds_toArray, List.set_cons_zero, List.set_cons_succ]
        refine wpAnyH_ready (rs := [24]) (by kernel_rfl) (by simp) ?_
        refine AllReadyH.cons (o := ?_) ?_ (fun K hK => ?_) AllReadyH.nil
        rotate_left 1
        · conv => lhs; simp only [List.getElem?_toArray, List.getElem?_cons_succ, List.getElem?_cons_zero]
        go_simp
        refine Calls.mono (d_back rdE (by omega)) ?_
        rintro e wF ⟨AF, cF, rfl, rdF, hbF⟩
        go_wp2_with fail
        refine hK.out _ _ (KS.out _ (up_trans hHeld.1 hbF)) (fun hHeld => ?_)
        clear hK K
        try simp only [Act.put, List.setIfInBounds_toArray, List.set_cons_zero, List.set_cons_succ]
        refine wpAnyH_ready (rs := [32]) (by kernel_rfl) (by simp) ?_
        refine AllReadyH.cons (o := ?_) ?_ (fun K hK => ?_) AllReadyH.nil
        rotate_left 1
        · conv => lhs; simp only [List.getElem?_toArray, List.getElem?_cons_succ, List.getElem?_cons_zero]
        go_simp
        refine Calls.mono (CE.out _ hHeld.1) ?_
        rintro e wG ⟨AG, cG, rfl, rdG, hbG⟩
        go_wp2_with fail
        refine hK.out _ _ (KS.out _ (up_trans hHeld.1 hbG)) (fun hHeld => ?_)
        clear hK K
        try simp only [Act.put, List.setIfInBounds_toArray, List.set_cons_zero, List.set_cons_succ]
        refine wpAnyH_ready (rs := [33]) (by kernel_rfl) (by simp) ?_
        refine AllReadyH.cons (o := ?_) ?_ (fun K hK => ?_) AllReadyH.nil
        rotate_left 1
        · conv => lhs; simp only [List.getElem?_toArray, List.getElem?_cons_succ, List.getElem?_cons_zero]
        go_simp
        refine Calls.mono (d_same (rdF.below hbG) rdG (by omega)) ?_
        rintro e wH ⟨rfl, hdH⟩
        go_wp2_with fail
        refine hK.out _ _ (KS.out _ (up_trans hHeld.1 hdH.below)) (fun hHeld => ?_)
        clear hK K
        try simp only [Act.put, List.setIfInBounds_toArray, List.set_cons_zero, List.set_cons_succ]
        refine wpAnyH_take (i := 34) (oi := ?_) (v := ?_) ?_ (by kernel_rfl) (by kernel_rfl) (by kernel_rfl) ?_ (Or.inl ⟨?_, ?_⟩) hHeld ?_
        rotate_left 2
        · conv => lhs; simp only [List.getElem?_toArray, List.getElem?_cons_succ, List.getElem?_cons_zero]
        · exact fun _ _ _ h => h
        · rfl
        · intro W hSw
          go_simp
          try with_reducible rfl
        try simp only [Act.put, List.setIfInBounds_toArray, List.set_cons_zero, List.set_cons_succ]
        refine wpAnyH_take (i := 35) (oi := ?_) (v := ?_) ?_ (by kernel_rfl) (by kernel_rfl) (by kernel_rfl) ?_ (Or.inl ⟨?_, ?_⟩) hHeld ?_
        rotate_left 2
        · conv => lhs; simp only [List.getElem?_toArray, List.getElem?_cons_succ, List.getElem?_cons_zero]
        · exact fun _ _ _ h => h
        · rfl
        · intro W hSw
          go_simp
          try with_reducible rfl
        try simp only [Act.put, List.setIfInBounds_toArray, List.set_cons_zero, List.set_cons_succ]
        refine wpAnyH_take (i := 36) (oi := ?_) (v := ?_) ?_ (by kernel_rfl) (by kernel_rfl) (by kernel_rfl) ?_ (Or.inl ⟨?_, ?_⟩) hHeld ?_
        rotate_left 2
        · conv => lhs; simp only [List.getElem?_toArray, List.getElem?_cons_succ, List.getElem?_cons_zero]
        · exact fun _ _ _ h => h
        · rfl
        · intro W hSw
          go_simp
          try with_reducible rfl
        try simp only [Act.put, List.setIfInBounds_toArray, List.set_cons_zero, List.set_cons_succ]
        refine wpAnyH_take (i := 37) (oi := ?_) (v := ?_) ?_ (by kernel_rfl) (by kernel_rfl) (by kernel_rfl) ?_ (Or.inl ⟨?_, ?_⟩) hHeld ?_
        rotate_left 2
        · conv => lhs; simp only [List.getElem?_toArray, List.getElem?_cons_succ, List.getElem?_cons_zero]
        · exact fun _ _ _ h => h
        · rfl
        · intro W hSw
          go_simp
          try with_reducible rfl
        try simp only [Act.put, List.setIfInBounds_toArray, List.set_cons_zero, List.set_cons_succ]
        refine wpAnyH_take (i := 39) (oi := ?_) (v := ?_) ?_ (by kernel_rfl) (by kernel_rfl) (by kernel_rfl) ?_ (Or.inl ⟨?_, ?_⟩) hHeld ?_
        rotate_left 2
        · conv => lhs; simp only [List.getElem?_toArray, List.getElem?_cons_succ, List.getElem?_cons_zero]
        · exact fun _ _ _ h => h
        · rfl
        · intro W hSw
          go_simp
          try with_reducible rfl
        try simp only [Act.put, List.setIfInBounds_toArray, List.set_cons_zero, List.set_cons_succ]
        refine wpAnyH_take (i := 40) (oi := ?_) (v := ?_) ?_ (by kernel_rfl) (by kernel_rfl) (by kernel_rfl) ?_ (Or.inl ⟨?_, ?_⟩) hHeld ?_
        rotate_left 2
        · conv => lhs; simp only [List.getElem?_toArray, List.getElem?_cons_succ, List.getElem?_cons_zero]
        · exact fun _ _ _ h => h
        · rfl
        · intro W hSw
          go_simp
          try with_reducible rfl
        try simp only [Act.put, List.setIfInBounds_toArray, List.set_cons_zero, List.set_cons_succ]
        refine wpAnyH_take (i := 41) (oi := ?_) (v := ?_) ?_ (by kernel_rfl) (by kernel_rfl) (by kernel_rfl) ?_ (Or.inl ⟨?_, ?_⟩) hHeld ?_
        rotate_left 2
        · conv => lhs; simp only [List.getElem?_toArray, List.getElem?_cons_succ, List.getElem?_cons_zero]
        · exact fun _ _ _ h => h
        · rfl
        · intro W hSw
          go_simp
          try with_reducible rfl
        try simp only [Act.put, List.setIfInBounds_toArray, List.set_cons_zero, List.set_cons_succ]
        refine wpAnyH_ready (rs := [38]) (by kernel_rfl) (by simp) ?_
        refine AllReadyH.cons (o := ?_) ?_ (fun K hK => ?_) AllReadyH.nil
        rotate_left 1
        · conv => lhs; simp only [List.getElem?_toArray, List.getElem?_cons_succ, List.getElem?_cons_zero]
        go_simp
        refine Calls.mono (CL.out _ hHeld.1) ?_
        rintro e wI ⟨rfl, hbI⟩
        go_wp2_with fail
        refine hK.out _ _ (KS.out _ (up_trans hHeld.1 hbI)) (fun hHeld => ?_)
        clear hK K
        try simp only [Act.put, List.setIfInBounds_toArray, List.set_cons_zero, List.set_cons_succ]
        refine wpAnyH_take (i := 42) (oi := ?_) (v := ?_) ?_ (by kernel_rfl) (by kernel_rfl) (by kernel_rfl) ?_ (Or.inl ⟨?_, ?_⟩) hHeld ?_
        rotate_left 2
        · conv => lhs; simp only [List.getElem?_toArray, List.getElem?_cons_succ, List.getElem?_cons_zero]
        · exact fun _ _ _ h => h
        · rfl
        · intro W hSw
          go_simp
          try with_reducible rfl
        try simp only [Act.put, List.setIfInBounds_toArray, List.set_cons_zero, List.set_cons_succ]
        refine wpAnyH_take (i := 43) (oi := ?_) (v := ?_) ?_ (by kernel_rfl) (by kernel_rfl) (by kernel_rfl) ?_ (Or.inl ⟨?_, ?_⟩) hHeld ?_
        rotate_left 2
        · conv => lhs; simp only [List.getElem?_toArray, List.getElem?_cons_succ, List.getElem?_cons_zero]
        · exact fun _ _ _ h => h
        · rfl
        · intro W hSw
          go_simp
          try with_reducible rfl
        try simp only [Act.put, List.setIfInBounds_toArray, List.set_cons_zero, List.set_cons_succ]
        refine wpAnyH_take (i := 44) (oi := ?_) (v := ?_) ?_ (by kernel_rfl) (by kernel_rfl) (by kernel_rfl) ?_ (Or.inl ⟨?_, ?_⟩) hHeld ?_
        rotate_left 2
        · conv => lhs; simp only [List.getElem?_toArray, List.getElem?_cons_succ, List.getElem?_cons_zero]
        · exact fun _ _ _ h => h
        · rfl
        · intro W hSw
          go_simp
          try with_reducible rfl
        try simp only [Act.put, List.setIfInBounds_toArray, List.set_cons_zero, List.set_cons_succ]
        refine wpAnyH_take (i := 45) (oi := ?_) (v := ?_) ?_ (by kernel_rfl) (by kernel_rfl) (by kernel_rfl) ?_ (Or.inl ⟨?_, ?_⟩) hHeld ?_
        rotate_left 2
        · conv => lhs; simp only [List.getElem?_toArray, List.getElem?_cons_succ, List.getElem?_cons_zero]
        · exact fun _ _ _ h => h
        · rfl
        · intro W hSw
          go_simp
          try with_reducible rfl
        try simp only [Act.put, List.setIfInBounds_toArray, List.set_cons_zero, List.set_cons_succ]
        refine wpAnyH_take (i := 47) (oi := ?_) (v := ?_) ?_ (by kernel_rfl) (by kernel_rfl) (by kernel_rfl) ?_ (Or.inl ⟨?_, ?_⟩) hHeld ?_
        rotate_left 2
        · conv => lhs; simp only [List.getElem?_toArray, List.getElem?_cons_succ, List.getElem?_cons_zero]
        · exact fun _ _ _ h => h
        · rfl
        · intro W hSw
          go_simp
          try with_reducible rfl
        try simp only [Act.put, List.setIfInBounds_toArray, List.set_cons_zero, List.set_cons_succ]
        refine wpAnyH_take (i := 48) (oi := ?_) (v := ?_) ?_ (by kernel_rfl) (by kernel_rfl) (by kernel_rfl) ?_ (Or.inl ⟨?_, ?_⟩) hHeld ?_
        rotate_left 2
        · conv => lhs; simp only [List.getElem?_toArray, List.getElem?_cons_succ, List.getElem?_cons_zero]
        · exact fun _ _ _ h => h
        · rfl
        · intro W hSw
          go_simp
          try with_reducible rfl
        try simp only [Act.put, List.setIfInBounds_toArray, List.set_cons_zero, List.set_cons_succ]
        refine wpAnyH_take (i := 49) (oi := ?_) (v := ?_) ?_ (by kernel_rfl) (by kernel_rfl) (by kernel_rfl) ?_ (Or.inl ⟨?_, ?_⟩) hHeld ?_
        rotate_left 2
        · conv => lhs; simp only [List.getElem?_toArray, List.getElem?_cons_succ, List.getElem?_cons_zero]
        · exact fun _ _ _ h => h
        · rfl
        · intro W hSw
          go_simp
          try with_reducible rfl
        try simp only [Act.put, List.setIfInBounds_toArray, List.set_cons_zero, List.set_cons_succ]
        refine wpAnyH_take (i := 50) (oi := ?_) (v := ?_) ?_ (by kernel_rfl) (by kernel_rfl) (by kernel_rfl) ?_ (Or.inl ⟨?_, ?_⟩) hHeld ?_
        rotate_left 2
        · conv => lhs; simp only [List.getElem?_toArray, List.getElem?_cons_succ, List.getElem?_cons_zero]
        · exact fun _ _ _ h => h
        · rfl
        · intro W hSw
          go_simp
          try with_reducible rfl
        try simp only [Act.put, List.setIfInBounds_toArray, List.set_cons_zero, List.set_cons_succ]
        refine wpAnyH_take (i := 51) (oi := ?_) (v := ?_) ?_ (by kernel_rfl) (by kernel_rfl) (by kernel_rfl) ?_ (Or.inl ⟨?_, ?_⟩) hHeld ?_
        rotate_left 2
        · conv => lhs; simp only [List.getElem?_toArray, List.getElem?_cons_succ, List.getElem?_cons_zero]
        · exact fun _ _ _ h => h
        · rfl
        · intro W hSw
          go_simp
          try with_reducible rfl
        try simp only [Act.put, List.setIfInBounds_toArray, List.set_cons_zero, List.set_cons_succ]
        refine wpAnyH_ready (rs := [46]) (by kernel_rfl) (by simp) ?_
        refine AllReadyH.cons (o := ?_) ?_ (fun K hK => ?_) AllReadyH.nil
        rotate_left 1
        · conv => lhs; simp only [List.getElem?_toArray, List.getElem?_cons_succ, List.getElem?_cons_zero]
        go_simp
        refine Calls.mono (CF.out _ hHeld.1) ?_
        rintro e w' ⟨rfl, rfl⟩
        go_wp2_with fail
        refine hK.out _ _ (KS.out _ hHeld.1) (fun hHeld => ?_)
        clear hK K
        try simp only [Act.put, List.setIfInBounds_toArray, List.set_cons_zero, List.set_cons_succ]
        refine wpAnyH_take (i := 52) (oi := ?_) (v := ?_) ?_ (by kernel_rfl) (by kernel_rfl) (by kernel_rfl) ?_ (Or.inl ⟨?_, ?_⟩) hHeld ?_
        rotate_left 2
        · conv => lhs; simp only [List.getElem?_toArray, List.getElem?_cons_succ, List.getElem?_cons_zero]
        · exact fun _ _ _ h => h
        · rfl
        · intro W hSw
          go_simp
          try with_reducible rfl
        try simp only [Act.put, List.setIfInBounds_toArray, List.set_cons_zero, List.set_cons_succ]
        refine wpAnyH_take (i := 53) (oi := ?_) (v := ?_) ?_ (by kernel_rfl) (by kernel_rfl) (by kernel_rfl) ?_ (Or.inl ⟨?_, ?_⟩) hHeld ?_
        rotate_left 2
        · conv => lhs; simp only [List.getElem?_toArray, List.getElem?_cons_succ, List.getElem?_cons_zero]
        · exact fun _ _ _ h => h
        · rfl
        · intro W hSw
          go_simp
          try with_reducible rfl
        try simp only [Act.put, List.setIfInBounds_toArray, List.set_cons_zero, List.set_cons_succ]
        refine wpAnyH_done (by kernel_rfl) ?_ _
        have hup := hHeld.1
        clear hHeld
        go_wp2_with fail
        go_roundw
        case rel => exact ⟨k + 1, M + 1, E, A4, c4, by omega, by omega, by go_num, ⟨(HP7.out.below hup).T.mono (by omega), (HP7.out.below hup).B, (HP7.out.below hup).R, (HP7.out.below hup).up, HP7.out.hz, HP7.out.hS, HP7.out.hb⟩⟩
        case measure => simp [intOf]; omega
    · obtain rfl : k = n := by omega
      go_wp2_with fail
      refine (c_alive _).mono ?_
      rintro e w7 ⟨rfl, hb7⟩
      go_wp2_with fail
      go_ret
      exact ⟨rfl, up_trans hPLr.up hb7⟩

set_option maxHeartbeats 1000000 in
theorem l_plays (room : Int) (A : Option Addr) (n cp : Nat) (L : List Step) (w : World) (hR : RD w (fun _ => True) 7 A n (L.flatMap stepV)) (hn : L.length = n) (hok : ∀ s ∈ L, StOk s) :
    Calls Try.prog 3 #[.int .i64 room, .slice A n cp] w fun e w' => e = .returned (.bool true) ∧ Below w.heap.size w w' := by
  by_cases hb : 80 < n
  · clear hR hn hok
    go_enter Try.func3, Try.ntmps3
    go_wp2_with (go_at_call 6; refine (c_alive _).mono ?_; rintro e w1 ⟨rfl, hb1⟩)
    go_ret
    exact ⟨rfl, hb1⟩
  · by_cases hr : 1 ≤ room ∧ room ≤ 1024
    · obtain ⟨q0, q1⟩ := hr
      obtain ⟨m, rfl⟩ : ∃ m : Nat, room = m := ⟨room.toNat, by omega⟩
      exact l_plays_run m (by omega) (by omega) A n cp L w hR hn hok (by omega)
    · have HNo := Lib.hid (show room < 1 ∨ 1024 < room by omega)
      have hb' : n ≤ 80 := by omega
      clear hR hn hok hr hb
      go_enter Try.func3, Try.ntmps3
      go_wp2_with fail
      refine (c_onew_no _ HNo.out _).mono ?_
      rintro e w' ⟨rfl, rfl⟩
      go_wp2_with fail
      refine (d_new_no _ HNo.out _).mono ?_
      rintro e w1 ⟨rfl, hb1⟩
      have upz := up_alloc w1 (.cells #[.int .i64 0, .slice none 0 0] 30)
      have HU := Lib.hid (up_trans hb1 upz)
      clear upz hb1
      go_wp2_with fail
      refine (c_alive _).mono ?_
      rintro e w2 ⟨rfl, hb2⟩
      go_wp2_with fail
      go_ret
      exact ⟨rfl, up_trans HU.out hb2⟩
end Go.Proofs.Ytgigcjhggpknnaa

/- Package proc: Spawn. -/
import Derived.Test.YtflpjpdgacjlcaaPrj
import Derived.Test.YtflpjpdgacjlcaaP4
namespace Go.Proofs.Ytflpjpdgacjlcaa
open Go.RowKit

theorem tk_add1 {P : Program} {o : Oper} {a : Act} {W : World} {t t' : TypeId} {x y : Operand} {j m : Int} (ho : o.op = .binOp .add t x y t') (hx : a.eval x = .int .i64 j) (hy : a.eval y = .int .i64 1) (h : IntKind.i64.wrap (j + 1) = m) :
    (execOp a.eval o).run P W = .ok (.value (.int .i64 m)) W := by
  subst h
  unfold execOp
  simp only [ho, hx, hy, eqGuard_add, binOp_add]
  rfl
theorem newF_is (arg : Int) : ∃ (F : FR) (ok : F.Ok), (newF arg).1 = F ∧ ∀ g p, PR.new g p arg = ⟨g, true, p, F, ok, 0, 0, 0, none, 0, 0, []⟩ := ⟨_, newF_ok arg, rfl, fun _ _ => rfl⟩
theorem newF_2 (arg : Int) : (newF arg).2 = if fineW arg = true then 0 else 8 := by unfold newF; split <;> rfl
/-- What Spawn comes to: a table, a handle, an error. -/
def SpPost (w : World) (pl : Nat → Prop) (n : Nat) (R : List PR × Int × Int) (e : Ending) (w' : World) : Prop := ∃ A' c', e = .returned (.tuple #[.slice A' n c', .int .i64 R.2.1, .int .i64 R.2.2]) ∧ TW prK w' (plP pl w) A' n R.1 ∧ Below w.heap.size w w'
set_option maxRecDepth 100000 in
set_option maxHeartbeats 4000000 in
theorem c_prspawn {w : World} {pl : Nat → Prop} {A : Option Addr} {n c : Nat} {L : List PR} (h : TW prK w pl A n L) (pg arg : Int) :
    Calls Try.prog 20 #[.slice A n c, .int .i64 pg, .int .i64 arg] w (SpPost w pl n (spawnT L pg arg)) := by
  have CF := fun W (hb : Below w.heap.size w W) => c_prfine (c := c) (h.below hb)
  have HR := Lib.hid h
  have hl := h.len
  cases hf : fineT L
  · have HE : Hid (spawnT L pg arg = (L, 0, 1)) := Lib.hid (if_pos hf)
    rw [hf] at CF
    have CF := Lib.hid CF
    clear h hl hf
    go_enter Try.func20, Try.ntmps20
    go_wp2_with fail
    refine (CF.out _ (Below.refl _ _)).mono ?_; rintro e w2 ⟨rfl, hb2⟩
    go_wp2
    refine bodyPost_ret (v := .tuple #[.slice A n c, .int .i64 0, .int .i64 1]) (by simp [results, Try.results20, go_sem]) rfl ?_
    exact ⟨A, c, by rw [HE.out], by rw [HE.out]; exact (HR.out.below hb2).lo (fun b hb => .inl hb), hb2⟩
  rw [hf] at CF
  have CF := Lib.hid CF
  obtain ⟨F, okF, hF1, hF2⟩ := newF_is arg
  have CN := fun W => c_fnew arg W
  rw [hF1, newF_2] at CN
  have HP := Lib.hid hF2
  have HN : Hid (n ≤ 100000) := Lib.hid (by have := fineT_len hf; omega)
  cases hw : fineW arg
  · have HE : Hid (spawnT L pg arg = (L, 0, 8)) := Lib.hid (by unfold spawnT; rw [if_neg (by rw [hf]; decide), if_pos hw])
    rw [hw, if_neg (by decide)] at CN
    have CN := Lib.hid CN
    clear h hl hf hF1 hF2 hw
    go_enter Try.func20, Try.ntmps20
    go_wp2_with fail
    refine (CF.out _ (Below.refl _ _)).mono ?_; rintro e w2 ⟨rfl, hb2⟩
    have HB := Lib.hid hb2
    clear hb2
    go_wp2_with fail
    refine (CN.out _).mono ?_; rintro e w3 ⟨rfl, hb3⟩
    have HB3 := Lib.hid (up_trans HB.out (up_trans hb3 (up_alloc w3 (.cells F.cells.toArray 67))))
    clear hb3
    go_wp2_with (refine snr (t := 67) (W := w3) (cs := F.cells) (zs := FR.zero.cells) (.tmp 9) (.tmp 20) rfl rfl rfl rfl (info_fp okF) (by rw [FR.cells_len okF]; rfl) F.cells_one ?_ ?_ ?_; (· rfl); (· rfl))
    refine bodyPost_ret (v := .tuple #[.slice A n c, .int .i64 0, .int .i64 8]) (by simp [results, Try.results20, go_sem]) rfl ?_
    exact ⟨A, c, by rw [HE.out], by rw [HE.out]; exact (HR.out.below HB3.out).lo (fun b hb => .inl hb), HB3.out⟩
  rw [hw, if_pos rfl] at CN
  have CN := Lib.hid CN
  have HV0 := Lib.hid (fun W => Blk.new W F.cells 67)
  have CX := fun W (hb : Below w.heap.size w W) => c_prixf (c := c) (h.below hb) HN.out (.inr rfl) (ps_free W)
  by_cases hi : prIdx isFree L < 0
  · have HE : Hid (spawnT L pg arg = (L, 0, 10)) := Lib.hid (by unfold spawnT; rw [if_neg (by rw [hf]; decide), if_neg (by rw [hw]; decide), if_pos hi])
    have g0 : decide (prIdx isFree L < 0) = true := decide_eq_true hi
    generalize prIdx isFree L = i at CX g0
    have CX := Lib.hid CX
    clear h hl hf hF1 hF2 hw hi
    go_enter Try.func20, Try.ntmps20
    go_wp2_with fail
    refine (CF.out _ (Below.refl _ _)).mono ?_; rintro e w2 ⟨rfl, hb2⟩
    have HB := Lib.hid hb2
    clear hb2
    go_wp2_with fail
    refine (CN.out _).mono ?_; rintro e w3 ⟨rfl, hb3⟩
    have HB3 := Lib.hid (up_trans HB.out (up_trans hb3 (up_alloc w3 (.cells F.cells.toArray 67))))
    clear hb3
    go_upto_region 6 with (refine snr (t := 67) (W := w3) (cs := F.cells) (zs := FR.zero.cells) (.tmp 9) (.tmp 20) rfl rfl rfl rfl (info_fp okF) (by rw [FR.cells_len okF]; rfl) F.cells_one ?_ ?_ ?_; (· rfl); (· rfl))
    go_wp2_with fail
    refine (CX.out _ HB3.out).mono ?_; rintro e w4 ⟨rfl, hb4⟩
    have HB4 := Lib.hid (up_trans HB3.out hb4)
    clear hb4
    go_wp2
    refine bodyPost_ret (v := .tuple #[.slice A n c, .int .i64 0, .int .i64 10]) (by simp [results, Try.results20, go_sem]) rfl ?_
    exact ⟨A, c, by rw [HE.out], by rw [HE.out]; exact (HR.out.below HB4.out).lo (fun b hb => .inl hb), HB4.out⟩
  have his := prIdx_is (p := isFree) (l := L) (by omega)
  have HE0 : spawnT L pg arg = (L.set (prIdx isFree L).toNat (PR.new ((getP L (prIdx isFree L)).gen + 1) pg arg), makeH (prIdx isFree L) ((getP L (prIdx isFree L)).gen + 1), 0) := by
    unfold spawnT
    rw [if_neg (by rw [hf]; decide), if_neg (by rw [hw]; decide), if_neg hi]
  have hm := fineT_all hf _ (getP_mem (by omega) his.1).2
  obtain ⟨k, hk⟩ : ∃ k : Nat, prIdx isFree L = k := ⟨(prIdx isFree L).toNat, by omega⟩
  rw [hk] at HE0 CX his hm
  have hg := may_gen hm
  have hkn : k < n := by omega
  have HK := Lib.hid hkn
  have hk0 : (0 : Int) ≤ k := by omega
  have hk1 : (k : Int) < (n : Int) := by omega
  have hk2 : decide ((k : Int) < 0) = false := by simp
  have hfr : (getP L (k : Nat)).gen < 65535 := by
    have := his.2
    unfold isFree at this
    simp only [Bool.and_eq_true, decide_eq_true_eq] at this
    exact this.2
  have HGE : Hid (0 ≤ (getP L (k : Nat)).gen ∧ (getP L (k : Nat)).gen < 65535) := Lib.hid ⟨hg.1, hfr⟩
  have HE : Hid (spawnT L pg arg = (L.set k (PR.new ((getP L (k : Nat)).gen + 1) pg arg), makeH k ((getP L (k : Nat)).gen + 1), 0)) := Lib.hid (by rw [HE0, Int.toNat_natCast])
  have HLL := Lib.hid (show k < L.length by omega)
  have CX := Lib.hid CX
  clear h hl hf hF1 hF2 hw hi his HE0 hm hk hg hkn hfr
  go_enter Try.func20, Try.ntmps20
  go_wp2_with fail
  refine (CF.out _ (Below.refl _ _)).mono ?_; rintro e w2 ⟨rfl, hb2⟩
  have HB := Lib.hid hb2
  clear hb2
  go_wp2_with fail
  refine (CN.out _).mono ?_; rintro e w3 ⟨rfl, hb3⟩
  have HB3 := Lib.hid (up_trans HB.out (up_trans hb3 (up_alloc w3 (.cells F.cells.toArray 67))))
  clear hb3
  go_upto_region 6 with (refine snr (t := 67) (W := w3) (cs := F.cells) (zs := FR.zero.cells) (.tmp 9) (.tmp 20) rfl rfl rfl rfl (info_fp okF) (by rw [FR.cells_len okF]; rfl) F.cells_one ?_ ?_ ?_; (· rfl); (· rfl))
  have HVB := Lib.hid (HV0.out w3)
  obtain ⟨wv, hwv⟩ : ∃ wv, w3.alloc (.cells F.cells.toArray 67) = wv := ⟨_, rfl⟩
  rw [hwv] at HB3 HVB
  have HWV := Lib.hid hwv
  clear hwv
  rw [HWV.out]
  go_wp2_with fail
  refine (CX.out _ HB3.out).mono ?_; rintro e w4 ⟨rfl, hb4⟩
  have HB4 := Lib.hid (up_trans HB3.out hb4)
  have HV4 := Lib.hid (HVB.out.up hb4 HVB.out.lt)
  obtain ⟨b, o, q, rfl, hbl, hq, hrg, c0, c1, c38, c39⟩ := pr_at (HR.out.below HB4.out) k HK.out
  rw [getP_of hq] at HE HGE
  have HC : Hid (∀ W, Below w4.heap.size w4 W → W.cell? ⟨b, o + k * 42, none⟩ = some (.int .i64 q.gen)) := Lib.hid (fun W hW => (hW.cell (p := ⟨b, o + k * 42, none⟩) hbl).trans c0)
  have HVW : Hid (∀ W, Below w4.heap.size w4 W → Blk W w3.heap.size F.cells 67) := Lib.hid (fun W hW => HV4.out.up hW HV4.out.lt)
  have HBD := Lib.hid (built4_p (q.gen + 1) pg F okF)
  have HWR : Hid (IntKind.i64.wrap (q.gen + 1) = q.gen + 1) := Lib.hid (by rw [IntWalk.i64_left, IntWalk.wrap64_in _ (by have := HGE.out; omega)])
  have CW := Lib.hid (fun W (hW : Below w4.heap.size w4 W) => c_prwith (c := c) (HR.out.below (up_trans HB4.out hW)) HN.out k HK.out ⟨q.gen + 1, true, pg, F, okF, 0, 0, 0, none, 0, 0, []⟩ ⟨rfl, RD.nil _ _ _ _⟩)
  clear hb4 hbl hq hrg c0 c1 c38 c39
  go_wp2_with fail
  refine wp_region_held_drew (S := (fun W => Below w4.heap.size w4 W)) (by kernel_rfl) (up_drewN _ 1) (fun hHeld => ?_)
  refine wpAnyH_take (i := 0) (oi := ?_) (v := ?_) ?_ (by kernel_rfl) (by kernel_rfl) (by kernel_rfl) ?_ (Or.inl ⟨?_, ?_⟩) hHeld ?_
  rotate_left 2
  · conv => lhs; simp only [List.getElem?_toArray, List.getElem?_cons_succ, List.getElem?_cons_zero]
  · exact fun _ _ _ h => h
  · rfl
  · intro W hSw
    go_simp
    try with_reducible rfl
  try simp only [Act.put, List.setIfInBounds_toArray, List.set_cons_zero, List.set_cons_succ]
  refine wpAnyH_take (i := 1) (oi := ?_) (v := ?_) ?_ (by kernel_rfl) (by kernel_rfl) (by kernel_rfl) ?_ (Or.inl ⟨?_, ?_⟩) hHeld ?_
  rotate_left 2
  · conv => lhs; simp only [List.getElem?_toArray, List.getElem?_cons_succ, List.getElem?_cons_zero]
  · exact fun _ _ _ h => h
  · rfl
  · intro W hSw
    go_simp
    try with_reducible rfl
  try simp only [Act.put, List.setIfInBounds_toArray, List.set_cons_zero, List.set_cons_succ]
  refine wpAnyH_take (i := 2) (oi := ?_) (v := ?_) ?_ (by kernel_rfl) (by kernel_rfl) (by kernel_rfl) ?_ (Or.inl ⟨?_, ?_⟩) hHeld ?_
  rotate_left 2
  · conv => lhs; simp only [List.getElem?_toArray, List.getElem?_cons_succ, List.getElem?_cons_zero]
  · exact fun _ _ _ h => h
  · rfl
  · intro W hSw
    go_simp
    try with_reducible rfl
  try simp only [Act.put, List.setIfInBounds_toArray, List.set_cons_zero, List.set_cons_succ]
  refine wpAnyH_take (i := 3) (oi := ?_) (v := ?_) ?_ (by kernel_rfl) (by kernel_rfl) (by kernel_rfl) ?_ (Or.inl ⟨?_, ?_⟩) hHeld ?_
  rotate_left 2
  · conv => lhs; simp only [List.getElem?_toArray, List.getElem?_cons_succ, List.getElem?_cons_zero]
  · exact fun _ _ _ h => h
  · rfl
  · intro W hSw
    go_simp
    try with_reducible rfl
  try simp only [Act.put, List.setIfInBounds_toArray, List.set_cons_zero, List.set_cons_succ]
  refine wpAnyH_take (i := 4) (oi := ?_) (v := ?_) ?_ (by kernel_rfl) (by kernel_rfl) (by kernel_rfl) ?_ (Or.inl ⟨?_, ?_⟩) hHeld ?_
  rotate_left 2
  · conv => lhs; simp only [List.getElem?_toArray, List.getElem?_cons_succ, List.getElem?_cons_zero]
  · exact fun _ _ _ h => h
  · rfl
  · intro W hSw
    go_simp
    try with_reducible rfl
  try simp only [Act.put, List.setIfInBounds_toArray, List.set_cons_zero, List.set_cons_succ]
  refine wpAnyH_take (i := 5) (oi := ?_) (v := ?_) ?_ (by kernel_rfl) (by kernel_rfl) (by kernel_rfl) ?_ (Or.inl ⟨?_, ?_⟩) hHeld ?_
  rotate_left 2
  · conv => lhs; simp only [List.getElem?_toArray, List.getElem?_cons_succ, List.getElem?_cons_zero]
  · exact fun _ _ _ h => h
  · rfl
  · intro W hSw
    go_simp
    try with_reducible rfl
  try simp only [Act.put, List.setIfInBounds_toArray, List.set_cons_zero, List.set_cons_succ]
  refine wpAnyH_take (i := 6) (oi := ?_) (v := ?_) ?_ (by kernel_rfl) (by kernel_rfl) (by kernel_rfl) ?_ (Or.inl ⟨?_, ?_⟩) hHeld ?_
  rotate_left 2
  · conv => lhs; simp only [List.getElem?_toArray, List.getElem?_cons_succ, List.getElem?_cons_zero]
  · exact fun _ _ _ h => h
  · rfl
  · intro W hSw
    have f0 := HC.out W hSw
    go_simp
    try with_reducible rfl
  try simp only [Act.put, List.setIfInBounds_toArray, List.set_cons_zero, List.set_cons_succ]
  refine wpAnyH_take (i := 7) (oi := ?_) (v := (.int .i64 (q.gen + 1))) ?_ (by kernel_rfl) (by kernel_rfl) (by kernel_rfl) ?_ (Or.inl ⟨?_, ?_⟩) hHeld ?_
  rotate_left 1
  · conv => lhs; simp only [List.getElem?_toArray, List.getElem?_cons_succ, List.getElem?_cons_zero]
  · exact fun _ _ _ h => h
  · rfl
  · intro W hSw
    exact tk_add1 rfl rfl rfl HWR.out
  try simp only [Act.put, List.setIfInBounds_toArray, List.set_cons_zero, List.set_cons_succ]
  refine wpAnyH_take (i := 8) (oi := ?_) (v := ?_) ?_ (by kernel_rfl) (by kernel_rfl) (by kernel_rfl) ?_ (Or.inl ⟨?_, ?_⟩) hHeld ?_
  rotate_left 2
  · conv => lhs; simp only [List.getElem?_toArray, List.getElem?_cons_succ, List.getElem?_cons_zero]
  · exact fun _ _ _ h => h
  · rfl
  · intro W hSw
    go_simp
    try with_reducible rfl
  try simp only [Act.put, List.setIfInBounds_toArray, List.set_cons_zero, List.set_cons_succ]
  refine wpAnyH_take (i := 9) (oi := ?_) (v := (.agg F.cells.toArray)) ?_ (by kernel_rfl) (by kernel_rfl) (by kernel_rfl) ?_ (Or.inl ⟨?_, ?_⟩) hHeld ?_
  rotate_left 1
  · conv => lhs; simp only [List.getElem?_toArray, List.getElem?_cons_succ, List.getElem?_cons_zero]
  · exact fun _ _ _ h => h
  · rfl
  · intro W hSw
    exact tk_load rfl rfl (load_row (HVW.out W hSw) Try.underlying67 rfl (info_fp okF))
  try simp only [Act.put, List.setIfInBounds_toArray, List.set_cons_zero, List.set_cons_succ]
  refine wpAnyH_take (i := 10) (oi := ?_) (v := (.agg (prC ⟨q.gen + 1, true, pg, F, okF, 0, 0, 0, none, 0, 0, []⟩).toArray)) ?_ (by kernel_rfl) (by kernel_rfl) (by kernel_rfl) ?_ (Or.inl ⟨?_, ?_⟩) hHeld ?_
  rotate_left 1
  · conv => lhs; simp only [List.getElem?_toArray, List.getElem?_cons_succ, List.getElem?_cons_zero]
  · exact fun _ _ _ h => h
  · rfl
  · intro W hSw
    exact tk_build rfl (by simpa [Act.eval] using HBD.out)
  try simp only [Act.put, List.setIfInBounds_toArray, List.set_cons_zero, List.set_cons_succ]
  refine wpAnyH_ready (rs := [11]) (by kernel_rfl) (by simp) ?_
  refine AllReadyH.cons (o := ?_) ?_ (fun K hK => ?_) AllReadyH.nil
  rotate_left 1
  · conv => lhs; simp only [List.getElem?_toArray, List.getElem?_cons_succ, List.getElem?_cons_zero]
  go_simp
  refine (CW.out _ hHeld).mono ?_
  rintro e wA hp
  obtain ⟨A', c', rfl, h1, h2⟩ := hp.up (up_trans HB4.out hHeld)
  have H1 := Lib.hid h1
  have H2 := Lib.hid h2
  obtain ⟨_, _, _, _, hb⟩ := hp
  clear h1 h2
  go_wp2_with fail
  refine hK.out _ _ (up_trans hHeld hb) (fun hHeld => ?_)
  clear hK K
  try simp only [Act.put, List.setIfInBounds_toArray, List.set_cons_zero, List.set_cons_succ]
  refine wpAnyH_take (i := 12) (oi := ?_) (v := ?_) ?_ (by kernel_rfl) (by kernel_rfl) (by kernel_rfl) ?_ (Or.inl ⟨?_, ?_⟩) hHeld ?_
  rotate_left 2
  · conv => lhs; simp only [List.getElem?_toArray, List.getElem?_cons_succ, List.getElem?_cons_zero]
  · exact fun _ _ _ h => h
  · rfl
  · intro W hSw
    go_simp
    try with_reducible rfl
  try simp only [Act.put, List.setIfInBounds_toArray, List.set_cons_zero, List.set_cons_succ]
  refine wpAnyH_done (by kernel_rfl) ?_ _
  have CTD := Lib.hid (c_prtold (c := c') H1.out k HK.out)
  have HGP : Hid ((getP (L.set k ⟨q.gen + 1, true, pg, F, okF, 0, 0, 0, none, 0, 0, []⟩) (k : Nat)).gen = q.gen + 1) := Lib.hid (by rw [getP_of (List.getElem?_set_self HLL.out)])
  go_wp2_with fail
  refine CTD.out.mono ?_; rintro e w6 ⟨rfl, rfl⟩
  go_wp2
  refine bodyPost_ret (v := .tuple #[.slice A' n c', .int .i64 (makeH k (getP (L.set k ⟨q.gen + 1, true, pg, F, okF, 0, 0, 0, none, 0, 0, []⟩) (k : Nat)).gen), .int .i64 0]) (by simp [results, Try.results20, go_sem]) rfl ?_
  exact ⟨A', c', by rw [HE.out, HGP.out], by rw [HE.out, HP.out]; exact H1.out, H2.out⟩
end Go.Proofs.Ytflpjpdgacjlcaa

/- Package chantab: with, Do. -/
import Derived.Test.YtnmjjemkaamcfaaYh
namespace Go.Proofs.Ytnmjjemkaamcfaa
open Go.RowKit

set_option maxRecDepth 100000 in
set_option maxHeartbeats 4000000 in
theorem c_with {w : World} {pl : Nat → Prop} {A : Option Addr} {n c : Nat} {L : List CQ} (h : TbW w pl A n c L) (hn : n ≤ 1000) (k : Nat) (hk : k < n) (C : CP) (M : SM) :
    Calls Try.prog 29 #[.slice A n c, .int .i64 (k : Int), .agg (chC C M).toArray] w fun e w' => ∃ v, e = .returned v ∧ Below w.heap.size w w' := by
  have hX := bx1_ch w C M
  have CC := Lib.hid (c_tclone (h.below hX.up) (by omega))
  generalize hw1 : w.alloc (.cells (chC C M).toArray 73) = w1 at hX CC
  have HW := Lib.hid hw1
  have HX := Lib.hid hX
  clear hw1 hX h
  go_enter Try.func29, Try.ntmps29
  go_upto_region 1 with fail
  rw [HW.out]
  go_wp2_with fail
  refine CC.out.mono ?_; rintro e w2 ⟨v, rfl, ho, hb2⟩
  obtain ⟨g, c2, q, rfl, hlo, hgt, _, _, hth, _⟩ := ho.at_ k hk
  have HTH : Hid (w2.there g (k * 11) (chC C M).length) := Lib.hid hth
  have HA := Lib.hid (HX.out.next hb2)
  have hle : w.heap.size ≤ g := Nat.le_trans HX.out.up.size hlo
  have HLE := Lib.hid hle
  have hkn : (k : Int) < (n : Int) := by omega
  clear ho hb2 hth hlo hle
  go_wp2_with (first | (refine ld_row' (cs := chC C M) (t := 73) (.tmp 5) rfl rfl Try.underlying73 rfl info_ch rfl ?_ ?_; (· exact HA.out.box)) | (refine sm_row (b := g) (q := k * 11) (cs := chC C M) (.tmp 13) (.tmp 12) rfl rfl rfl rfl info_ch chC_one ?_ ?_; (· exact HTH.out)))
  go_ret
  exact ⟨_, rfl, Only.later HA.out.up (only_cells _ _ _) (by rintro i rfl; exact HLE.out)⟩

/-- What a function gives back that has a slice, a cell for a struct, and a number. -/
theorem results_tce {P : Program} {fn : Func} {s p t : Tmp} {ty : TypeId} {d : TypeDesc} (hr : fn.results = #[.tmp s, .cell p ty, .tmp t]) (tmps : Array Value) (w : World) (b : Nat) {cs : List Value} {t' : TypeId}
    (hp : tmps.getD p undef = .pointer (some ⟨b, 0, none⟩)) (h : Blk w b cs t') (hu : P.underlying ty = some d) (hd : (match d with | .struct _ | .array _ _ => true | _ => false) = true) (hi : (P.info? ty).map (·.size) = some cs.length) :
    (results fn tmps).run P w = .ok (.tuple #[tmps.getD s undef, .agg cs.toArray, tmps.getD t undef]) w := by
  have hp' : tmps[p]?.getD undef = .pointer (some ⟨b, 0, none⟩) := by simpa using hp
  simp [results, hr, hp', asAddr, load_row h hu hd hi]
theorem al_blk {w1 X : World} (_ : Below w1.heap.size w1 X) (cs : List Value) (T : TypeId) : Blk (X.alloc (.cells cs.toArray T)) X.heap.size cs T := Blk.new _ _ _
theorem al_blk2 {w1 Y : World} {o : Obj} (h : Below w1.heap.size w1 (Y.alloc o)) (cs : List Value) (T : TypeId) : Blk ((Y.alloc o).alloc (.cells cs.toArray T)) (Y.heap.size + 1) cs T ∧ w1.heap.size ≤ Y.heap.size + 1 := by
  have h1 := Blk.new (Y.alloc o) cs T
  have h2 := h.size
  rw [show (Y.alloc o).heap.size = Y.heap.size + 1 by simp] at h1 h2
  exact ⟨h1, h2⟩
theorem al_blk2d {w1 Y : World} {o : Obj} (h : Below w1.heap.size w1 (Y.alloc o).drew) (cs : List Value) (T : TypeId) : Blk ((Y.alloc o).drew.alloc (.cells cs.toArray T)) (Y.heap.size + 1) cs T ∧ w1.heap.size ≤ Y.heap.size + 1 := by
  have h1 := Blk.new (Y.alloc o).drew cs T
  have h2 := h.size
  rw [show (Y.alloc o).drew.heap.size = Y.heap.size + 1 by simp] at h1 h2
  exact ⟨h1, h2⟩
/-- What Do answers: the error alone is told. -/
def DtPost (w : World) (er : Int) (e : Ending) (w' : World) : Prop := ∃ v x y z, e = .returned (.tuple #[v, .agg #[.int .i64 x, .int .i64 y, .int .i64 z], .int .i64 er]) ∧ Below w.heap.size w w'
/-- The world of Do: its box, its answer's cell. -/
structure DtB (w : World) (o m : Int) (w1 : World) : Prop where
  up : Below w.heap.size w w1
  sz : w1.heap.size = w.heap.size + 2
  box : Blk w1 w.heap.size [.int .i64 o, .int .i64 m] 38
  res : Blk w1 (w.heap.size + 1) [.int .i64 0, .int .i64 0, .int .i64 0] 34
theorem dtb (w : World) (o m : Int) : DtB w o m ((w.alloc (.cells #[.int .i64 o, .int .i64 m] 38)).alloc (.cells #[.int .i64 0, .int .i64 0, .int .i64 0] 34)) := by
  have h2 := Blk.new (w.alloc (.cells #[.int .i64 o, .int .i64 m] 38)) [.int .i64 0, .int .i64 0, .int .i64 0] 34
  rw [show (w.alloc (.cells #[.int .i64 o, .int .i64 m] 38)).heap.size = w.heap.size + 1 by simp] at h2
  exact ⟨two_up _ _ _, by simp, (Blk.new w [.int .i64 o, .int .i64 m] 38).alloc _, h2⟩
/-- What stays so at Do's end. -/
structure DtS (w w1 : World) (a1 a2 : Nat) (D : CP) (M : SM) (x y z : Int) (W : World) : Prop where
  on : Only (· = w.heap.size + 1) w1 W
  b1 : Blk W a1 (chC D M) 73
  b2 : Blk W a2 [.int .i64 x, .int .i64 y, .int .i64 z] 34
  res : ∃ ms, ms.length = 3 ∧ Blk W (w.heap.size + 1) ms 34
theorem DtS.next {w w1 : World} {a1 a2 : Nat} {D : CP} {M : SM} {x y z : Int} {W W' : World} (h : DtS w w1 a1 a2 D M x y z W) (hb : Below W.heap.size W W') : DtS w w1 a1 a2 D M x y z W' :=
  ⟨h.on.below_trans hb, h.b1.up hb h.b1.lt, h.b2.up hb h.b2.lt, by obtain ⟨ms, h1, h2⟩ := h.res; exact ⟨ms, h1, h2.up hb h2.lt⟩⟩
theorem DtS.set {w w1 : World} {a1 a2 : Nat} {D : CP} {M : SM} {x y z : Int} {W : World} (h : DtS w w1 a1 a2 D M x y z W) (h1 : w.heap.size + 2 ≤ a1) (h2 : w.heap.size + 2 ≤ a2) (cs : List Value) (hc : cs.length = 3) : DtS w w1 a1 a2 D M x y z (W.setRow (w.heap.size + 1) cs.toArray) :=
  ⟨h.on.row rfl _, h.b1.rowOther (by omega) _, h.b2.rowOther (by omega) _, by obtain ⟨ms, _, h3⟩ := h.res; exact ⟨cs, hc, h3.row cs⟩⟩

set_option maxRecDepth 100000 in
set_option maxHeartbeats 8000000 in
theorem c_tdo {w : World} {pl : Nat → Prop} {A : Option Addr} {n c : Nat} {L : List CQ} (h : TbW w pl A n c L) (hf : fewL 1000 L) (hn : n ≤ 1000) (o m : Int) :
    Calls Try.prog 11 #[.slice A n c, .agg #[.int .i64 o, .int .i64 m]] w (DtPost w (doT (L.map Prod.fst) o m)) := by
  have hlen : (L.map Prod.fst).length = n := by rw [List.length_map, h.len]
  have hin : inT (L.map Prod.fst) o = (decide (0 ≤ o) && decide (o < (n : Int))) := by unfold inT; rw [hlen]
  have hX := dtb w o m
  generalize hw1 : (w.alloc (.cells #[.int .i64 o, .int .i64 m] 38)).alloc (.cells #[.int .i64 0, .int .i64 0, .int .i64 0] 34) = w1 at hX
  have HW := Lib.hid hw1
  have HX := Lib.hid hX
  have CT := Lib.hid (fun W => c_there A n c o W)
  have c0 := hX.box.cell 0 _ rfl
  have c1 := hX.box.cell 1 _ rfl
  cases hi : inT (L.map Prod.fst) o
  · have hi0 := hin.symm.trans hi
    rw [hi0] at CT
    have HE : Hid (doT (L.map Prod.fst) o m = 8) := Lib.hid (by unfold doT; rw [hi, if_pos rfl])
    clear h hf hlen hin hX hw1 hi hi0
    go_enter Try.func11, Try.ntmps11
    go_upto_region 1 with fail
    rw [HW.out]
    go_wp2_with (first | (go_at_call 27; refine (CT.out _).mono ?_; rintro e w' ⟨rfl, rfl⟩) | (refine st_row (cs := [.int .i64 0, .int .i64 0, .int .i64 0]) HX.out.res rfl (.tmp 5) (.tmp 16) rfl rfl rfl info_mv rfl three_one ?_))
    refine bodyPost_ret (v := .tuple #[.slice A n c, .agg #[.int .i64 0, .int .i64 0, .int .i64 0], .int .i64 8]) (results_tce (fn := Try.f11) (s := 4) (p := 5) (t := 6) rfl _ _ _ rfl (HX.out.res.row [.int .i64 0, .int .i64 0, .int .i64 0]) Try.underlying34 rfl info_mv) rfl ?_
    exact ⟨_, 0, 0, 0, by rw [HE.out], below_setRow HX.out.up (by omega) _⟩
  have hi0 := hin.symm.trans hi
  have ho : 0 ≤ o ∧ o < (n : Int) := by
    rw [Bool.and_eq_true, decide_eq_true_eq, decide_eq_true_eq] at hi0
    exact hi0
  obtain ⟨k, rfl⟩ : ∃ k : Nat, o = (k : Int) := ⟨o.toNat, by omega⟩
  have hlt : k < n := by omega
  rw [hi0] at CT
  obtain ⟨b, oo, q, rfl, _, hbl, hq, hrg, hch⟩ := h.at_ k hlt
  have hkn : (k : Int) < (n : Int) := by omega
  have hfq : fewC 1000 q.1 := hf q (List.mem_of_getElem? hq)
  have CD := Lib.hid (fun W (hW : Below w.heap.size w W) => c_chdo (hch.below hW) (hfq.few (by omega) hch) (fun _ _ => trivial) m)
  have CW := Lib.hid (fun W (hW : Below w.heap.size w W) D M => c_with (h.below hW) hn k hlt D M)
  have HRG := Lib.hid (fun W (hW : Below w.heap.size w W) => range_below hrg hW hbl)
  have HE : Hid (doT (L.map Prod.fst) (k : Int) m = chDoE q.1 m) := Lib.hid (by
    unfold doT
    rw [hi, if_neg (by decide), Int.toNat_natCast, List.getD_eq_getElem?_getD, map_fst_at hq]
    rfl)
  obtain ⟨er, her⟩ : ∃ x, chDoE q.1 m = x := ⟨_, rfl⟩
  obtain ⟨D, hD⟩ : ∃ x, chDoC q.1 m = x := ⟨_, rfl⟩
  obtain ⟨x, hx⟩ : ∃ x, chDoX q.1 m = x := ⟨_, rfl⟩
  obtain ⟨y, hy⟩ : ∃ x, chDoY q.1 m = x := ⟨_, rfl⟩
  obtain ⟨z, hz⟩ : ∃ x, chDoZ q.1 m = x := ⟨_, rfl⟩
  simp only [her, hD, hx, hy, hz] at CD
  rw [her] at HE
  rw [HE.out]
  clear h hf hlen hin hX hw1 hi hi0 ho hq hrg hch hfq hbl HE her hD hx hy hz
  go_enter Try.func11, Try.ntmps11
  go_upto_region 1 with fail
  rw [HW.out]
  go_wp2_with (go_at_call 27; refine (CT.out _).mono ?_; rintro e w' ⟨rfl, rfl⟩)
  go_cut [7, 8, 9] (fun s7 s8 s9 wx => ∃ a1 a2 M2, s7 = .pointer (some ⟨a1, 0, none⟩) ∧ s8 = .pointer (some ⟨a2, 0, none⟩) ∧ s9 = .int .i64 er ∧ Below w1.heap.size w1 wx ∧ w1.heap.size ≤ a1 ∧ w1.heap.size ≤ a2 ∧ Blk wx a1 (chC D M2) 73 ∧ Blk wx a2 [.int .i64 x, .int .i64 y, .int .i64 z] 34)
  case first =>
    go_wp2_with fail
    refine wp_region_held_drew (S := fun W => Below w1.heap.size w1 W) (by kernel_rfl) (up_drewN _ 1) (fun hHeld => ?_)
    refine wpAnyH_take (i := 0) (oi := ?_) (v := ?_) ?_ (by kernel_rfl) (by kernel_rfl) (by kernel_rfl) ?_ (Or.inl ⟨?_, ?_⟩) hHeld ?_
    rotate_left 2
    · conv => lhs; simp only [List.getElem?_toArray, List.getElem?_cons_succ, List.getElem?_cons_zero]
    · exact fun _ _ _ h => h
    · rfl
    · intro W hSw
      have hQ := Blk.up HX.out.box hSw HX.out.box.lt
      have k0 := hQ.cell 0 _ rfl
      have k1 := hQ.cell 1 _ rfl
      go_simp
      try with_reducible rfl
    try simp only [Act.put, List.setIfInBounds_toArray, List.set_cons_zero, List.set_cons_succ]
    refine wpAnyH_take (i := 1) (oi := ?_) (v := ?_) ?_ (by kernel_rfl) (by kernel_rfl) (by kernel_rfl) ?_ (Or.inl ⟨?_, ?_⟩) hHeld ?_
    rotate_left 2
    · conv => lhs; simp only [List.getElem?_toArray, List.getElem?_cons_succ, List.getElem?_cons_zero]
    · exact fun _ _ _ h => h
    · rfl
    · intro W hSw
      have hQ := Blk.up HX.out.box hSw HX.out.box.lt
      have k0 := hQ.cell 0 _ rfl
      have k1 := hQ.cell 1 _ rfl
      go_simp
      try with_reducible rfl
    try simp only [Act.put, List.setIfInBounds_toArray, List.set_cons_zero, List.set_cons_succ]
    refine wpAnyH_take (i := 2) (oi := ?_) (v := ?_) ?_ (by kernel_rfl) (by kernel_rfl) (by kernel_rfl) ?_ (Or.inl ⟨?_, ?_⟩) hHeld ?_
    rotate_left 2
    · conv => lhs; simp only [List.getElem?_toArray, List.getElem?_cons_succ, List.getElem?_cons_zero]
    · exact fun _ _ _ h => h
    · rfl
    · intro W hSw
      have hQ := Blk.up HX.out.box hSw HX.out.box.lt
      have k0 := hQ.cell 0 _ rfl
      have k1 := hQ.cell 1 _ rfl
      go_simp
      try with_reducible rfl
    try simp only [Act.put, List.setIfInBounds_toArray, List.set_cons_zero, List.set_cons_succ]
    refine wpAnyH_take (i := 3) (oi := ?_) (v := ?_) ?_ (by kernel_rfl) (by kernel_rfl) (by kernel_rfl) ?_ (Or.inl ⟨?_, ?_⟩) hHeld ?_
    rotate_left 2
    · conv => lhs; simp only [List.getElem?_toArray, List.getElem?_cons_succ, List.getElem?_cons_zero]
    · exact fun _ _ _ h => h
    · rfl
    · intro W hSw
      have hQ := Blk.up HX.out.box hSw HX.out.box.lt
      have k0 := hQ.cell 0 _ rfl
      have k1 := hQ.cell 1 _ rfl
      go_simp
      try with_reducible rfl
    try simp only [Act.put, List.setIfInBounds_toArray, List.set_cons_zero, List.set_cons_succ]
    refine wpAnyH_take (i := 4) (oi := ?_) (v := (.agg (cellsQ q).toArray)) ?_ (by kernel_rfl) (by kernel_rfl) (by kernel_rfl) ?_ (Or.inl ⟨?_, ?_⟩) hHeld ?_
    rotate_left 1
    · conv => lhs; simp only [List.getElem?_toArray, List.getElem?_cons_succ, List.getElem?_cons_zero]
    · exact fun _ _ _ h => h
    · rfl
    · intro W hSw
      exact take_mid rfl rfl (run_loadVar_mid _ _ _ _ _ _ (HRG.out _ (HX.out.up.trans (hSw.mono HX.out.up.size))) Try.underlying73 rfl info_ch)
    try simp only [Act.put, List.setIfInBounds_toArray, List.set_cons_zero, List.set_cons_succ]
    refine wpAnyH_take (i := 5) (oi := ?_) (v := ?_) ?_ (by kernel_rfl) (by kernel_rfl) (by kernel_rfl) ?_ (Or.inl ⟨?_, ?_⟩) hHeld ?_
    rotate_left 2
    · conv => lhs; simp only [List.getElem?_toArray, List.getElem?_cons_succ, List.getElem?_cons_zero]
    · exact fun _ _ _ h => h
    · rfl
    · intro W hSw
      have hQ := Blk.up HX.out.box hSw HX.out.box.lt
      have k0 := hQ.cell 0 _ rfl
      have k1 := hQ.cell 1 _ rfl
      go_simp
      try with_reducible rfl
    try simp only [Act.put, List.setIfInBounds_toArray, List.set_cons_zero, List.set_cons_succ]
    refine wpAnyH_take (i := 6) (oi := ?_) (v := ?_) ?_ (by kernel_rfl) (by kernel_rfl) (by kernel_rfl) ?_ (Or.inl ⟨?_, ?_⟩) hHeld ?_
    rotate_left 2
    · conv => lhs; simp only [List.getElem?_toArray, List.getElem?_cons_succ, List.getElem?_cons_zero]
    · exact fun _ _ _ h => h
    · rfl
    · intro W hSw
      have hQ := Blk.up HX.out.box hSw HX.out.box.lt
      have k0 := hQ.cell 0 _ rfl
      have k1 := hQ.cell 1 _ rfl
      go_simp
      try with_reducible rfl
    try simp only [Act.put, List.setIfInBounds_toArray, List.set_cons_zero, List.set_cons_succ]
    refine wpAnyH_ready (rs := [7, 12, 13]) (by kernel_rfl) (by simp) ?_
    refine AllReadyH.cons (o := ?_) ?_ (fun K hK => ?_) ?_
    rotate_left 1
    · conv => lhs; simp only [List.getElem?_toArray, List.getElem?_cons_succ, List.getElem?_cons_zero]
    · go_simp
      refine (CD.out _ (HX.out.up.trans (hHeld.mono HX.out.up.size))).mono ?_
      rintro e wB ⟨M2, rfl, _, hbB⟩
      go_wp2_with fail
      refine hK.out _ _ (up_trans hHeld hbB) (fun hHeld => ?_)
      clear hK K
      try simp only [Act.put, List.setIfInBounds_toArray, List.set_cons_zero, List.set_cons_succ]
      refine wpAnyH_take (i := 8) (oi := ?_) (v := ?_) ?_ (by kernel_rfl) (by kernel_rfl) (by kernel_rfl) ?_ (Or.inl ⟨?_, ?_⟩) hHeld ?_
      rotate_left 2
      · conv => lhs; simp only [List.getElem?_toArray, List.getElem?_cons_succ, List.getElem?_cons_zero]
      · exact fun _ _ _ h => h
      · rfl
      · intro W hSw
        have hQ := Blk.up HX.out.box hSw HX.out.box.lt
        have k0 := hQ.cell 0 _ rfl
        have k1 := hQ.cell 1 _ rfl
        go_simp
        try with_reducible rfl
      try simp only [Act.put, List.setIfInBounds_toArray, List.set_cons_zero, List.set_cons_succ]
      refine wpAnyH_take (i := 9) (oi := ?_) (v := ?_) ?_ (by kernel_rfl) (by kernel_rfl) (by kernel_rfl) ?_ (Or.inl ⟨?_, ?_⟩) hHeld ?_
      rotate_left 2
      · conv => lhs; simp only [List.getElem?_toArray, List.getElem?_cons_succ, List.getElem?_cons_zero]
      · exact fun _ _ _ h => h
      · rfl
      · intro W hSw
        have hQ := Blk.up HX.out.box hSw HX.out.box.lt
        have k0 := hQ.cell 0 _ rfl
        have k1 := hQ.cell 1 _ rfl
        go_simp
        try with_reducible rfl
      try simp only [Act.put, List.setIfInBounds_toArray, List.set_cons_zero, List.set_cons_succ]
      refine wpAnyH_take (i := 10) (oi := ?_) (v := ?_) ?_ (by kernel_rfl) (by kernel_rfl) (by kernel_rfl) ?_ (Or.inl ⟨?_, ?_⟩) hHeld ?_
      rotate_left 2
      · conv => lhs; simp only [List.getElem?_toArray, List.getElem?_cons_succ, List.getElem?_cons_zero]
      · exact fun _ _ _ h => h
      · rfl
      · intro W hSw
        have hQ := Blk.up HX.out.box hSw HX.out.box.lt
        have k0 := hQ.cell 0 _ rfl
        have k1 := hQ.cell 1 _ rfl
        go_simp
        try with_reducible rfl
      try simp only [Act.put, List.setIfInBounds_toArray, List.set_cons_zero, List.set_cons_succ]
      refine wpAnyH_take (i := 11) (oi := ?_) (v := ?_) ?_ (by kernel_rfl) (by kernel_rfl) (by kernel_rfl) ?_ (Or.inl ⟨?_, ?_⟩) hHeld ?_
      rotate_left 2
      · conv => lhs; simp only [List.getElem?_toArray, List.getElem?_cons_succ, List.getElem?_cons_zero]
      · exact fun _ _ _ h => h
      · rfl
      · intro W hSw
        have hQ := Blk.up HX.out.box hSw HX.out.box.lt
        have k0 := hQ.cell 0 _ rfl
        have k1 := hQ.cell 1 _ rfl
        go_simp
        try with_reducible rfl
      try simp only [Act.put, List.setIfInBounds_toArray, List.set_cons_zero, List.set_cons_succ]
      refine wpAnyH_ready (rs := [12, 13]) (by kernel_rfl) (by simp) ?_
      refine AllReadyH.cons (o := ?_) ?_ (fun K hK => ?_) ?_
      rotate_left 1
      · conv => lhs; simp only [List.getElem?_toArray, List.getElem?_cons_succ, List.getElem?_cons_zero]
      · go_simp
        obtain ⟨z12, l12⟩ := And.intro (al_blk hHeld chZ 73) hHeld.size
        refine hK.out _ _ (up_trans hHeld (up_alloc _ _)) (fun hHeld => ?_)
        clear hK K
        try simp only [Act.put, List.setIfInBounds_toArray, List.set_cons_zero, List.set_cons_succ]
        refine wpAnyH_ready (rs := [13]) (by kernel_rfl) (by simp) ?_
        refine AllReadyH.cons (o := ?_) ?_ (fun K hK => ?_) AllReadyH.nil
        rotate_left 1
        · conv => lhs; simp only [List.getElem?_toArray, List.getElem?_cons_succ, List.getElem?_cons_zero]
        go_simp
        obtain ⟨z13, l13⟩ := al_blk2 hHeld [.int .i64 0, .int .i64 0, .int .i64 0] 34
        replace z12 := z12.alloc (.cells ([.int .i64 0, .int .i64 0, .int .i64 0] : List Value).toArray 34)
        refine hK.out _ _ (up_trans hHeld (up_alloc _ _)) (fun hHeld => ?_)
        clear hK K
        try simp only [Act.put, List.setIfInBounds_toArray, List.set_cons_zero, List.set_cons_succ]
        have n13 := z13.ne z12 (by decide)
        refine wpAnyH_ready (rs := [14]) (by kernel_rfl) (by simp) ?_
        refine AllReadyH.cons (o := ?_) ?_ (fun K hK => ?_) AllReadyH.nil
        rotate_left 1
        · conv => lhs; simp only [List.getElem?_toArray, List.getElem?_cons_succ, List.getElem?_cons_zero]
        rw [if_pos (by rfl)]
        refine wp_store_row 73 (.tmp 7) (.tmp 26) rfl _ (chC D M2).toArray rfl rfl 73 chZ.toArray z12 info_ch rfl (all_one chC_one) ?_
        refine hK.out _ _ (below_setRow hHeld l12 _) (fun hHeld => ?_)
        clear hK K
        replace z12 := z12.row (chC D M2)
        replace z13 := z13.rowOther n13 (chC D M2).toArray
        refine wpAnyH_ready (rs := [15]) (by kernel_rfl) (by simp) ?_
        refine AllReadyH.cons (o := ?_) ?_ (fun K hK => ?_) AllReadyH.nil
        rotate_left 1
        · conv => lhs; simp only [List.getElem?_toArray, List.getElem?_cons_succ, List.getElem?_cons_zero]
        rw [if_pos (by rfl)]
        refine wp_store_row 34 (.tmp 8) (.tmp 27) rfl _ [.int .i64 x, .int .i64 y, .int .i64 z].toArray rfl rfl 34 ([.int .i64 0, .int .i64 0, .int .i64 0] : List Value).toArray z13 info_mv rfl (all_one three_one) ?_
        refine hK.out _ _ (below_setRow hHeld l13 _) (fun hHeld => ?_)
        clear hK K
        replace z13 := z13.row [.int .i64 x, .int .i64 y, .int .i64 z]
        replace z12 := z12.rowOther n13.symm [.int .i64 x, .int .i64 y, .int .i64 z].toArray
        refine wpAnyH_take (i := 16) (oi := ?_) (v := ?_) ?_ (by kernel_rfl) (by kernel_rfl) (by kernel_rfl) ?_ (Or.inl ⟨?_, ?_⟩) hHeld ?_
        rotate_left 2
        · conv => lhs; simp only [List.getElem?_toArray, List.getElem?_cons_succ, List.getElem?_cons_zero]
        · exact fun _ _ _ h => h
        · rfl
        · intro W hSw
          have hQ := Blk.up HX.out.box hSw HX.out.box.lt
          have k0 := hQ.cell 0 _ rfl
          have k1 := hQ.cell 1 _ rfl
          go_simp
          try with_reducible rfl
        try simp only [Act.put, List.setIfInBounds_toArray, List.set_cons_zero, List.set_cons_succ]
        refine wpAnyH_done (by kernel_rfl) ?_ _
        go_wp2_with fail
        go_meet
        exact ⟨_, _, M2, rfl, rfl, rfl, hHeld, l12, l13, z12, z13⟩
      refine AllReadyH.cons (o := ?_) ?_ (fun K hK => ?_) AllReadyH.nil
      rotate_left 1
      · conv => lhs; simp only [List.getElem?_toArray, List.getElem?_cons_succ, List.getElem?_cons_zero]
      go_simp
      obtain ⟨z13, l13⟩ := And.intro (al_blk hHeld [.int .i64 0, .int .i64 0, .int .i64 0] 34) hHeld.size
      refine hK.out _ _ (up_trans hHeld (up_alloc _ _)) (fun hHeld => ?_)
      clear hK K
      try simp only [Act.put, List.setIfInBounds_toArray, List.set_cons_zero, List.set_cons_succ]
      refine wpAnyH_ready (rs := [12]) (by kernel_rfl) (by simp) ?_
      refine AllReadyH.cons (o := ?_) ?_ (fun K hK => ?_) AllReadyH.nil
      rotate_left 1
      · conv => lhs; simp only [List.getElem?_toArray, List.getElem?_cons_succ, List.getElem?_cons_zero]
      go_simp
      obtain ⟨z12, l12⟩ := al_blk2 hHeld chZ 73
      replace z13 := z13.alloc (.cells (chZ).toArray 73)
      refine hK.out _ _ (up_trans hHeld (up_alloc _ _)) (fun hHeld => ?_)
      clear hK K
      try simp only [Act.put, List.setIfInBounds_toArray, List.set_cons_zero, List.set_cons_succ]
      have n13 := z13.ne z12 (by decide)
      refine wpAnyH_ready (rs := [14]) (by kernel_rfl) (by simp) ?_
      refine AllReadyH.cons (o := ?_) ?_ (fun K hK => ?_) AllReadyH.nil
      rotate_left 1
      · conv => lhs; simp only [List.getElem?_toArray, List.getElem?_cons_succ, List.getElem?_cons_zero]
      rw [if_pos (by rfl)]
      refine wp_store_row 73 (.tmp 7) (.tmp 26) rfl _ (chC D M2).toArray rfl rfl 73 chZ.toArray z12 info_ch rfl (all_one chC_one) ?_
      refine hK.out _ _ (below_setRow hHeld l12 _) (fun hHeld => ?_)
      clear hK K
      replace z12 := z12.row (chC D M2)
      replace z13 := z13.rowOther n13 (chC D M2).toArray
      refine wpAnyH_ready (rs := [15]) (by kernel_rfl) (by simp) ?_
      refine AllReadyH.cons (o := ?_) ?_ (fun K hK => ?_) AllReadyH.nil
      rotate_left 1
      · conv => lhs; simp only [List.getElem?_toArray, List.getElem?_cons_succ, List.getElem?_cons_zero]
      rw [if_pos (by rfl)]
      refine wp_store_row 34 (.tmp 8) (.tmp 27) rfl _ [.int .i64 x, .int .i64 y, .int .i64 z].toArray rfl rfl 34 ([.int .i64 0, .int .i64 0, .int .i64 0] : List Value).toArray z13 info_mv rfl (all_one three_one) ?_
      refine hK.out _ _ (below_setRow hHeld l13 _) (fun hHeld => ?_)
      clear hK K
      replace z13 := z13.row [.int .i64 x, .int .i64 y, .int .i64 z]
      replace z12 := z12.rowOther n13.symm [.int .i64 x, .int .i64 y, .int .i64 z].toArray
      refine wpAnyH_take (i := 16) (oi := ?_) (v := ?_) ?_ (by kernel_rfl) (by kernel_rfl) (by kernel_rfl) ?_ (Or.inl ⟨?_, ?_⟩) hHeld ?_
      rotate_left 2
      · conv => lhs; simp only [List.getElem?_toArray, List.getElem?_cons_succ, List.getElem?_cons_zero]
      · exact fun _ _ _ h => h
      · rfl
      · intro W hSw
        have hQ := Blk.up HX.out.box hSw HX.out.box.lt
        have k0 := hQ.cell 0 _ rfl
        have k1 := hQ.cell 1 _ rfl
        go_simp
        try with_reducible rfl
      try simp only [Act.put, List.setIfInBounds_toArray, List.set_cons_zero, List.set_cons_succ]
      refine wpAnyH_done (by kernel_rfl) ?_ _
      go_wp2_with fail
      go_meet
      exact ⟨_, _, M2, rfl, rfl, rfl, hHeld, l12, l13, z12, z13⟩
    refine AllReadyH.cons (o := ?_) ?_ (fun K hK => ?_) ?_
    rotate_left 1
    · conv => lhs; simp only [List.getElem?_toArray, List.getElem?_cons_succ, List.getElem?_cons_zero]
    · go_simp
      obtain ⟨z12, l12⟩ := And.intro (al_blk hHeld chZ 73) hHeld.size
      refine hK.out _ _ (up_trans hHeld (up_alloc _ _)) (fun hHeld => ?_)
      clear hK K
      try simp only [Act.put, List.setIfInBounds_toArray, List.set_cons_zero, List.set_cons_succ]
      refine wpAnyH_ready (rs := [7, 13]) (by kernel_rfl) (by simp) ?_
      refine AllReadyH.cons (o := ?_) ?_ (fun K hK => ?_) ?_
      rotate_left 1
      · conv => lhs; simp only [List.getElem?_toArray, List.getElem?_cons_succ, List.getElem?_cons_zero]
      · go_simp
        refine (CD.out _ (HX.out.up.trans (hHeld.mono HX.out.up.size))).mono ?_
        rintro e wB ⟨M2, rfl, _, hbB⟩
        replace z12 := z12.up hbB z12.lt
        go_wp2_with fail
        refine hK.out _ _ (up_trans hHeld hbB) (fun hHeld => ?_)
        clear hK K
        try simp only [Act.put, List.setIfInBounds_toArray, List.set_cons_zero, List.set_cons_succ]
        refine wpAnyH_take (i := 8) (oi := ?_) (v := ?_) ?_ (by kernel_rfl) (by kernel_rfl) (by kernel_rfl) ?_ (Or.inl ⟨?_, ?_⟩) hHeld ?_
        rotate_left 2
        · conv => lhs; simp only [List.getElem?_toArray, List.getElem?_cons_succ, List.getElem?_cons_zero]
        · exact fun _ _ _ h => h
        · rfl
        · intro W hSw
          have hQ := Blk.up HX.out.box hSw HX.out.box.lt
          have k0 := hQ.cell 0 _ rfl
          have k1 := hQ.cell 1 _ rfl
          go_simp
          try with_reducible rfl
        try simp only [Act.put, List.setIfInBounds_toArray, List.set_cons_zero, List.set_cons_succ]
        refine wpAnyH_take (i := 9) (oi := ?_) (v := ?_) ?_ (by kernel_rfl) (by kernel_rfl) (by kernel_rfl) ?_ (Or.inl ⟨?_, ?_⟩) hHeld ?_
        rotate_left 2
        · conv => lhs; simp only [List.getElem?_toArray, List.getElem?_cons_succ, List.getElem?_cons_zero]
        · exact fun _ _ _ h => h
        · rfl
        · intro W hSw
          have hQ := Blk.up HX.out.box hSw HX.out.box.lt
          have k0 := hQ.cell 0 _ rfl
          have k1 := hQ.cell 1 _ rfl
          go_simp
          try with_reducible rfl
        try simp only [Act.put, List.setIfInBounds_toArray, List.set_cons_zero, List.set_cons_succ]
        refine wpAnyH_take (i := 10) (oi := ?_) (v := ?_) ?_ (by kernel_rfl) (by kernel_rfl) (by kernel_rfl) ?_ (Or.inl ⟨?_, ?_⟩) hHeld ?_
        rotate_left 2
        · conv => lhs; simp only [List.getElem?_toArray, List.getElem?_cons_succ, List.getElem?_cons_zero]
        · exact fun _ _ _ h => h
        · rfl
        · intro W hSw
          have hQ := Blk.up HX.out.box hSw HX.out.box.lt
          have k0 := hQ.cell 0 _ rfl
          have k1 := hQ.cell 1 _ rfl
          go_simp
          try with_reducible rfl
        try simp only [Act.put, List.setIfInBounds_toArray, List.set_cons_zero, List.set_cons_succ]
        refine wpAnyH_take (i := 11) (oi := ?_) (v := ?_) ?_ (by kernel_rfl) (by kernel_rfl) (by kernel_rfl) ?_ (Or.inl ⟨?_, ?_⟩) hHeld ?_
        rotate_left 2
        · conv => lhs; simp only [List.getElem?_toArray, List.getElem?_cons_succ, List.getElem?_cons_zero]
        · exact fun _ _ _ h => h
        · rfl
        · intro W hSw
          have hQ := Blk.up HX.out.box hSw HX.out.box.lt
          have k0 := hQ.cell 0 _ rfl
          have k1 := hQ.cell 1 _ rfl
          go_simp
          try with_reducible rfl
        try simp only [Act.put, List.setIfInBounds_toArray, List.set_cons_zero, List.set_cons_succ]
        refine wpAnyH_ready (rs := [13]) (by kernel_rfl) (by simp) ?_
        refine AllReadyH.cons (o := ?_) ?_ (fun K hK => ?_) AllReadyH.nil
        rotate_left 1
        · conv => lhs; simp only [List.getElem?_toArray, List.getElem?_cons_succ, List.getElem?_cons_zero]
        go_simp
        obtain ⟨z13, l13⟩ := And.intro (al_blk hHeld [.int .i64 0, .int .i64 0, .int .i64 0] 34) hHeld.size
        replace z12 := z12.alloc (.cells ([.int .i64 0, .int .i64 0, .int .i64 0] : List Value).toArray 34)
        refine hK.out _ _ (up_trans hHeld (up_alloc _ _)) (fun hHeld => ?_)
        clear hK K
        try simp only [Act.put, List.setIfInBounds_toArray, List.set_cons_zero, List.set_cons_succ]
        have n13 := z13.ne z12 (by decide)
        refine wpAnyH_ready (rs := [14]) (by kernel_rfl) (by simp) ?_
        refine AllReadyH.cons (o := ?_) ?_ (fun K hK => ?_) AllReadyH.nil
        rotate_left 1
        · conv => lhs; simp only [List.getElem?_toArray, List.getElem?_cons_succ, List.getElem?_cons_zero]
        rw [if_pos (by rfl)]
        refine wp_store_row 73 (.tmp 7) (.tmp 26) rfl _ (chC D M2).toArray rfl rfl 73 chZ.toArray z12 info_ch rfl (all_one chC_one) ?_
        refine hK.out _ _ (below_setRow hHeld l12 _) (fun hHeld => ?_)
        clear hK K
        replace z12 := z12.row (chC D M2)
        replace z13 := z13.rowOther n13 (chC D M2).toArray
        refine wpAnyH_ready (rs := [15]) (by kernel_rfl) (by simp) ?_
        refine AllReadyH.cons (o := ?_) ?_ (fun K hK => ?_) AllReadyH.nil
        rotate_left 1
        · conv => lhs; simp only [List.getElem?_toArray, List.getElem?_cons_succ, List.getElem?_cons_zero]
        rw [if_pos (by rfl)]
        refine wp_store_row 34 (.tmp 8) (.tmp 27) rfl _ [.int .i64 x, .int .i64 y, .int .i64 z].toArray rfl rfl 34 ([.int .i64 0, .int .i64 0, .int .i64 0] : List Value).toArray z13 info_mv rfl (all_one three_one) ?_
        refine hK.out _ _ (below_setRow hHeld l13 _) (fun hHeld => ?_)
        clear hK K
        replace z13 := z13.row [.int .i64 x, .int .i64 y, .int .i64 z]
        replace z12 := z12.rowOther n13.symm [.int .i64 x, .int .i64 y, .int .i64 z].toArray
        refine wpAnyH_take (i := 16) (oi := ?_) (v := ?_) ?_ (by kernel_rfl) (by kernel_rfl) (by kernel_rfl) ?_ (Or.inl ⟨?_, ?_⟩) hHeld ?_
        rotate_left 2
        · conv => lhs; simp only [List.getElem?_toArray, List.getElem?_cons_succ, List.getElem?_cons_zero]
        · exact fun _ _ _ h => h
        · rfl
        · intro W hSw
          have hQ := Blk.up HX.out.box hSw HX.out.box.lt
          have k0 := hQ.cell 0 _ rfl
          have k1 := hQ.cell 1 _ rfl
          go_simp
          try with_reducible rfl
        try simp only [Act.put, List.setIfInBounds_toArray, List.set_cons_zero, List.set_cons_succ]
        refine wpAnyH_done (by kernel_rfl) ?_ _
        go_wp2_with fail
        go_meet
        exact ⟨_, _, M2, rfl, rfl, rfl, hHeld, l12, l13, z12, z13⟩
      refine AllReadyH.cons (o := ?_) ?_ (fun K hK => ?_) AllReadyH.nil
      rotate_left 1
      · conv => lhs; simp only [List.getElem?_toArray, List.getElem?_cons_succ, List.getElem?_cons_zero]
      go_simp
      obtain ⟨z13, l13⟩ := al_blk2d hHeld [.int .i64 0, .int .i64 0, .int .i64 0] 34
      replace z12 := z12.alloc (.cells ([.int .i64 0, .int .i64 0, .int .i64 0] : List Value).toArray 34)
      refine hK.out _ _ (up_trans hHeld (up_alloc _ _)) (fun hHeld => ?_)
      clear hK K
      try simp only [Act.put, List.setIfInBounds_toArray, List.set_cons_zero, List.set_cons_succ]
      refine wpAnyH_ready (rs := [7]) (by kernel_rfl) (by simp) ?_
      refine AllReadyH.cons (o := ?_) ?_ (fun K hK => ?_) AllReadyH.nil
      rotate_left 1
      · conv => lhs; simp only [List.getElem?_toArray, List.getElem?_cons_succ, List.getElem?_cons_zero]
      go_simp
      refine (CD.out _ (HX.out.up.trans (hHeld.mono HX.out.up.size))).mono ?_
      rintro e wB ⟨M2, rfl, _, hbB⟩
      replace z12 := z12.up hbB z12.lt
      replace z13 := z13.up hbB z13.lt
      go_wp2_with fail
      refine hK.out _ _ (up_trans hHeld hbB) (fun hHeld => ?_)
      clear hK K
      try simp only [Act.put, List.setIfInBounds_toArray, List.set_cons_zero, List.set_cons_succ]
      refine wpAnyH_take (i := 8) (oi := ?_) (v := ?_) ?_ (by kernel_rfl) (by kernel_rfl) (by kernel_rfl) ?_ (Or.inl ⟨?_, ?_⟩) hHeld ?_
      rotate_left 2
      · conv => lhs; simp only [List.getElem?_toArray, List.getElem?_cons_succ, List.getElem?_cons_zero]
      · exact fun _ _ _ h => h
      · rfl
      · intro W hSw
        have hQ := Blk.up HX.out.box hSw HX.out.box.lt
        have k0 := hQ.cell 0 _ rfl
        have k1 := hQ.cell 1 _ rfl
        go_simp
        try with_reducible rfl
      try simp only [Act.put, List.setIfInBounds_toArray, List.set_cons_zero, List.set_cons_succ]
      refine wpAnyH_take (i := 9) (oi := ?_) (v := ?_) ?_ (by kernel_rfl) (by kernel_rfl) (by kernel_rfl) ?_ (Or.inl ⟨?_, ?_⟩) hHeld ?_
      rotate_left 2
      · conv => lhs; simp only [List.getElem?_toArray, List.getElem?_cons_succ, List.getElem?_cons_zero]
      · exact fun _ _ _ h => h
      · rfl
      · intro W hSw
        have hQ := Blk.up HX.out.box hSw HX.out.box.lt
        have k0 := hQ.cell 0 _ rfl
        have k1 := hQ.cell 1 _ rfl
        go_simp
        try with_reducible rfl
      try simp only [Act.put, List.setIfInBounds_toArray, List.set_cons_zero, List.set_cons_succ]
      refine wpAnyH_take (i := 10) (oi := ?_) (v := ?_) ?_ (by kernel_rfl) (by kernel_rfl) (by kernel_rfl) ?_ (Or.inl ⟨?_, ?_⟩) hHeld ?_
      rotate_left 2
      · conv => lhs; simp only [List.getElem?_toArray, List.getElem?_cons_succ, List.getElem?_cons_zero]
      · exact fun _ _ _ h => h
      · rfl
      · intro W hSw
        have hQ := Blk.up HX.out.box hSw HX.out.box.lt
        have k0 := hQ.cell 0 _ rfl
        have k1 := hQ.cell 1 _ rfl
        go_simp
        try with_reducible rfl
      try simp only [Act.put, List.setIfInBounds_toArray, List.set_cons_zero, List.set_cons_succ]
      refine wpAnyH_take (i := 11) (oi := ?_) (v := ?_) ?_ (by kernel_rfl) (by kernel_rfl) (by kernel_rfl) ?_ (Or.inl ⟨?_, ?_⟩) hHeld ?_
      rotate_left 2
      · conv => lhs; simp only [List.getElem?_toArray, List.getElem?_cons_succ, List.getElem?_cons_zero]
      · exact fun _ _ _ h => h
      · rfl
      · intro W hSw
        have hQ := Blk.up HX.out.box hSw HX.out.box.lt
        have k0 := hQ.cell 0 _ rfl
        have k1 := hQ.cell 1 _ rfl
        go_simp
        try with_reducible rfl
      try simp only [Act.put, List.setIfInBounds_toArray, List.set_cons_zero, List.set_cons_succ]
      have n13 := z13.ne z12 (by decide)
      refine wpAnyH_ready (rs := [14]) (by kernel_rfl) (by simp) ?_
      refine AllReadyH.cons (o := ?_) ?_ (fun K hK => ?_) AllReadyH.nil
      rotate_left 1
      · conv => lhs; simp only [List.getElem?_toArray, List.getElem?_cons_succ, List.getElem?_cons_zero]
      rw [if_pos (by rfl)]
      refine wp_store_row 73 (.tmp 7) (.tmp 26) rfl _ (chC D M2).toArray rfl rfl 73 chZ.toArray z12 info_ch rfl (all_one chC_one) ?_
      refine hK.out _ _ (below_setRow hHeld l12 _) (fun hHeld => ?_)
      clear hK K
      replace z12 := z12.row (chC D M2)
      replace z13 := z13.rowOther n13 (chC D M2).toArray
      refine wpAnyH_ready (rs := [15]) (by kernel_rfl) (by simp) ?_
      refine AllReadyH.cons (o := ?_) ?_ (fun K hK => ?_) AllReadyH.nil
      rotate_left 1
      · conv => lhs; simp only [List.getElem?_toArray, List.getElem?_cons_succ, List.getElem?_cons_zero]
      rw [if_pos (by rfl)]
      refine wp_store_row 34 (.tmp 8) (.tmp 27) rfl _ [.int .i64 x, .int .i64 y, .int .i64 z].toArray rfl rfl 34 ([.int .i64 0, .int .i64 0, .int .i64 0] : List Value).toArray z13 info_mv rfl (all_one three_one) ?_
      refine hK.out _ _ (below_setRow hHeld l13 _) (fun hHeld => ?_)
      clear hK K
      replace z13 := z13.row [.int .i64 x, .int .i64 y, .int .i64 z]
      replace z12 := z12.rowOther n13.symm [.int .i64 x, .int .i64 y, .int .i64 z].toArray
      refine wpAnyH_take (i := 16) (oi := ?_) (v := ?_) ?_ (by kernel_rfl) (by kernel_rfl) (by kernel_rfl) ?_ (Or.inl ⟨?_, ?_⟩) hHeld ?_
      rotate_left 2
      · conv => lhs; simp only [List.getElem?_toArray, List.getElem?_cons_succ, List.getElem?_cons_zero]
      · exact fun _ _ _ h => h
      · rfl
      · intro W hSw
        have hQ := Blk.up HX.out.box hSw HX.out.box.lt
        have k0 := hQ.cell 0 _ rfl
        have k1 := hQ.cell 1 _ rfl
        go_simp
        try with_reducible rfl
      try simp only [Act.put, List.setIfInBounds_toArray, List.set_cons_zero, List.set_cons_succ]
      refine wpAnyH_done (by kernel_rfl) ?_ _
      go_wp2_with fail
      go_meet
      exact ⟨_, _, M2, rfl, rfl, rfl, hHeld, l12, l13, z12, z13⟩
    refine AllReadyH.cons (o := ?_) ?_ (fun K hK => ?_) AllReadyH.nil
    rotate_left 1
    · conv => lhs; simp only [List.getElem?_toArray, List.getElem?_cons_succ, List.getElem?_cons_zero]
    go_simp
    obtain ⟨z13, l13⟩ := And.intro (al_blk hHeld [.int .i64 0, .int .i64 0, .int .i64 0] 34) hHeld.size
    refine hK.out _ _ (up_trans hHeld (up_alloc _ _)) (fun hHeld => ?_)
    clear hK K
    try simp only [Act.put, List.setIfInBounds_toArray, List.set_cons_zero, List.set_cons_succ]
    refine wpAnyH_ready (rs := [7, 12]) (by kernel_rfl) (by simp) ?_
    refine AllReadyH.cons (o := ?_) ?_ (fun K hK => ?_) ?_
    rotate_left 1
    · conv => lhs; simp only [List.getElem?_toArray, List.getElem?_cons_succ, List.getElem?_cons_zero]
    · go_simp
      refine (CD.out _ (HX.out.up.trans (hHeld.mono HX.out.up.size))).mono ?_
      rintro e wB ⟨M2, rfl, _, hbB⟩
      replace z13 := z13.up hbB z13.lt
      go_wp2_with fail
      refine hK.out _ _ (up_trans hHeld hbB) (fun hHeld => ?_)
      clear hK K
      try simp only [Act.put, List.setIfInBounds_toArray, List.set_cons_zero, List.set_cons_succ]
      refine wpAnyH_take (i := 8) (oi := ?_) (v := ?_) ?_ (by kernel_rfl) (by kernel_rfl) (by kernel_rfl) ?_ (Or.inl ⟨?_, ?_⟩) hHeld ?_
      rotate_left 2
      · conv => lhs; simp only [List.getElem?_toArray, List.getElem?_cons_succ, List.getElem?_cons_zero]
      · exact fun _ _ _ h => h
      · rfl
      · intro W hSw
        have hQ := Blk.up HX.out.box hSw HX.out.box.lt
        have k0 := hQ.cell 0 _ rfl
        have k1 := hQ.cell 1 _ rfl
        go_simp
        try with_reducible rfl
      try simp only [Act.put, List.setIfInBounds_toArray, List.set_cons_zero, List.set_cons_succ]
      refine wpAnyH_take (i := 9) (oi := ?_) (v := ?_) ?_ (by kernel_rfl) (by kernel_rfl) (by kernel_rfl) ?_ (Or.inl ⟨?_, ?_⟩) hHeld ?_
      rotate_left 2
      · conv => lhs; simp only [List.getElem?_toArray, List.getElem?_cons_succ, List.getElem?_cons_zero]
      · exact fun _ _ _ h => h
      · rfl
      · intro W hSw
        have hQ := Blk.up HX.out.box hSw HX.out.box.lt
        have k0 := hQ.cell 0 _ rfl
        have k1 := hQ.cell 1 _ rfl
        go_simp
        try with_reducible rfl
      try simp only [Act.put, List.setIfInBounds_toArray, List.set_cons_zero, List.set_cons_succ]
      refine wpAnyH_take (i := 10) (oi := ?_) (v := ?_) ?_ (by kernel_rfl) (by kernel_rfl) (by kernel_rfl) ?_ (Or.inl ⟨?_, ?_⟩) hHeld ?_
      rotate_left 2
      · conv => lhs; simp only [List.getElem?_toArray, List.getElem?_cons_succ, List.getElem?_cons_zero]
      · exact fun _ _ _ h => h
      · rfl
      · intro W hSw
        have hQ := Blk.up HX.out.box hSw HX.out.box.lt
        have k0 := hQ.cell 0 _ rfl
        have k1 := hQ.cell 1 _ rfl
        go_simp
        try with_reducible rfl
      try simp only [Act.put, List.setIfInBounds_toArray, List.set_cons_zero, List.set_cons_succ]
      refine wpAnyH_take (i := 11) (oi := ?_) (v := ?_) ?_ (by kernel_rfl) (by kernel_rfl) (by kernel_rfl) ?_ (Or.inl ⟨?_, ?_⟩) hHeld ?_
      rotate_left 2
      · conv => lhs; simp only [List.getElem?_toArray, List.getElem?_cons_succ, List.getElem?_cons_zero]
      · exact fun _ _ _ h => h
      · rfl
      · intro W hSw
        have hQ := Blk.up HX.out.box hSw HX.out.box.lt
        have k0 := hQ.cell 0 _ rfl
        have k1 := hQ.cell 1 _ rfl
        go_simp
        try with_reducible rfl
      try simp only [Act.put, List.setIfInBounds_toArray, List.set_cons_zero, List.set_cons_succ]
      refine wpAnyH_ready (rs := [12]) (by kernel_rfl) (by simp) ?_
      refine AllReadyH.cons (o := ?_) ?_ (fun K hK => ?_) AllReadyH.nil
      rotate_left 1
      · conv => lhs; simp only [List.getElem?_toArray, List.getElem?_cons_succ, List.getElem?_cons_zero]
      go_simp
      obtain ⟨z12, l12⟩ := And.intro (al_blk hHeld chZ 73) hHeld.size
      replace z13 := z13.alloc (.cells (chZ).toArray 73)
      refine hK.out _ _ (up_trans hHeld (up_alloc _ _)) (fun hHeld => ?_)
      clear hK K
      try simp only [Act.put, List.setIfInBounds_toArray, List.set_cons_zero, List.set_cons_succ]
      have n13 := z13.ne z12 (by decide)
      refine wpAnyH_ready (rs := [14]) (by kernel_rfl) (by simp) ?_
      refine AllReadyH.cons (o := ?_) ?_ (fun K hK => ?_) AllReadyH.nil
      rotate_left 1
      · conv => lhs; simp only [List.getElem?_toArray, List.getElem?_cons_succ, List.getElem?_cons_zero]
      rw [if_pos (by rfl)]
      refine wp_store_row 73 (.tmp 7) (.tmp 26) rfl _ (chC D M2).toArray rfl rfl 73 chZ.toArray z12 info_ch rfl (all_one chC_one) ?_
      refine hK.out _ _ (below_setRow hHeld l12 _) (fun hHeld => ?_)
      clear hK K
      replace z12 := z12.row (chC D M2)
      replace z13 := z13.rowOther n13 (chC D M2).toArray
      refine wpAnyH_ready (rs := [15]) (by kernel_rfl) (by simp) ?_
      refine AllReadyH.cons (o := ?_) ?_ (fun K hK => ?_) AllReadyH.nil
      rotate_left 1
      · conv => lhs; simp only [List.getElem?_toArray, List.getElem?_cons_succ, List.getElem?_cons_zero]
      rw [if_pos (by rfl)]
      refine wp_store_row 34 (.tmp 8) (.tmp 27) rfl _ [.int .i64 x, .int .i64 y, .int .i64 z].toArray rfl rfl 34 ([.int .i64 0, .int .i64 0, .int .i64 0] : List Value).toArray z13 info_mv rfl (all_one three_one) ?_
      refine hK.out _ _ (below_setRow hHeld l13 _) (fun hHeld => ?_)
      clear hK K
      replace z13 := z13.row [.int .i64 x, .int .i64 y, .int .i64 z]
      replace z12 := z12.rowOther n13.symm [.int .i64 x, .int .i64 y, .int .i64 z].toArray
      refine wpAnyH_take (i := 16) (oi := ?_) (v := ?_) ?_ (by kernel_rfl) (by kernel_rfl) (by kernel_rfl) ?_ (Or.inl ⟨?_, ?_⟩) hHeld ?_
      rotate_left 2
      · conv => lhs; simp only [List.getElem?_toArray, List.getElem?_cons_succ, List.getElem?_cons_zero]
      · exact fun _ _ _ h => h
      · rfl
      · intro W hSw
        have hQ := Blk.up HX.out.box hSw HX.out.box.lt
        have k0 := hQ.cell 0 _ rfl
        have k1 := hQ.cell 1 _ rfl
        go_simp
        try with_reducible rfl
      try simp only [Act.put, List.setIfInBounds_toArray, List.set_cons_zero, List.set_cons_succ]
      refine wpAnyH_done (by kernel_rfl) ?_ _
      go_wp2_with fail
      go_meet
      exact ⟨_, _, M2, rfl, rfl, rfl, hHeld, l12, l13, z12, z13⟩
    refine AllReadyH.cons (o := ?_) ?_ (fun K hK => ?_) AllReadyH.nil
    rotate_left 1
    · conv => lhs; simp only [List.getElem?_toArray, List.getElem?_cons_succ, List.getElem?_cons_zero]
    go_simp
    obtain ⟨z12, l12⟩ := al_blk2d hHeld chZ 73
    replace z13 := z13.alloc (.cells (chZ).toArray 73)
    refine hK.out _ _ (up_trans hHeld (up_alloc _ _)) (fun hHeld => ?_)
    clear hK K
    try simp only [Act.put, List.setIfInBounds_toArray, List.set_cons_zero, List.set_cons_succ]
    refine wpAnyH_ready (rs := [7]) (by kernel_rfl) (by simp) ?_
    refine AllReadyH.cons (o := ?_) ?_ (fun K hK => ?_) AllReadyH.nil
    rotate_left 1
    · conv => lhs; simp only [List.getElem?_toArray, List.getElem?_cons_succ, List.getElem?_cons_zero]
    go_simp
    refine (CD.out _ (HX.out.up.trans (hHeld.mono HX.out.up.size))).mono ?_
    rintro e wB ⟨M2, rfl, _, hbB⟩
    replace z13 := z13.up hbB z13.lt
    replace z12 := z12.up hbB z12.lt
    go_wp2_with fail
    refine hK.out _ _ (up_trans hHeld hbB) (fun hHeld => ?_)
    clear hK K
    try simp only [Act.put, List.setIfInBounds_toArray, List.set_cons_zero, List.set_cons_succ]
    refine wpAnyH_take (i := 8) (oi := ?_) (v := ?_) ?_ (by kernel_rfl) (by kernel_rfl) (by kernel_rfl) ?_ (Or.inl ⟨?_, ?_⟩) hHeld ?_
    rotate_left 2
    · conv => lhs; simp only [List.getElem?_toArray, List.getElem?_cons_succ, List.getElem?_cons_zero]
    · exact fun _ _ _ h => h
    · rfl
    · intro W hSw
      have hQ := Blk.up HX.out.box hSw HX.out.box.lt
      have k0 := hQ.cell 0 _ rfl
      have k1 := hQ.cell 1 _ rfl
      go_simp
      try with_reducible rfl
    try simp only [Act.put, List.setIfInBounds_toArray, List.set_cons_zero, List.set_cons_succ]
    refine wpAnyH_take (i := 9) (oi := ?_) (v := ?_) ?_ (by kernel_rfl) (by kernel_rfl) (by kernel_rfl) ?_ (Or.inl ⟨?_, ?_⟩) hHeld ?_
    rotate_left 2
    · conv => lhs; simp only [List.getElem?_toArray, List.getElem?_cons_succ, List.getElem?_cons_zero]
    · exact fun _ _ _ h => h
    · rfl
    · intro W hSw
      have hQ := Blk.up HX.out.box hSw HX.out.box.lt
      have k0 := hQ.cell 0 _ rfl
      have k1 := hQ.cell 1 _ rfl
      go_simp
      try with_reducible rfl
    try simp only [Act.put, List.setIfInBounds_toArray, List.set_cons_zero, List.set_cons_succ]
    refine wpAnyH_take (i := 10) (oi := ?_) (v := ?_) ?_ (by kernel_rfl) (by kernel_rfl) (by kernel_rfl) ?_ (Or.inl ⟨?_, ?_⟩) hHeld ?_
    rotate_left 2
    · conv => lhs; simp only [List.getElem?_toArray, List.getElem?_cons_succ, List.getElem?_cons_zero]
    · exact fun _ _ _ h => h
    · rfl
    · intro W hSw
      have hQ := Blk.up HX.out.box hSw HX.out.box.lt
      have k0 := hQ.cell 0 _ rfl
      have k1 := hQ.cell 1 _ rfl
      go_simp
      try with_reducible rfl
    try simp only [Act.put, List.setIfInBounds_toArray, List.set_cons_zero, List.set_cons_succ]
    refine wpAnyH_take (i := 11) (oi := ?_) (v := ?_) ?_ (by kernel_rfl) (by kernel_rfl) (by kernel_rfl) ?_ (Or.inl ⟨?_, ?_⟩) hHeld ?_
    rotate_left 2
    · conv => lhs; simp only [List.getElem?_toArray, List.getElem?_cons_succ, List.getElem?_cons_zero]
    · exact fun _ _ _ h => h
    · rfl
    · intro W hSw
      have hQ := Blk.up HX.out.box hSw HX.out.box.lt
      have k0 := hQ.cell 0 _ rfl
      have k1 := hQ.cell 1 _ rfl
      go_simp
      try with_reducible rfl
    try simp only [Act.put, List.setIfInBounds_toArray, List.set_cons_zero, List.set_cons_succ]
    have n13 := z13.ne z12 (by decide)
    refine wpAnyH_ready (rs := [14]) (by kernel_rfl) (by simp) ?_
    refine AllReadyH.cons (o := ?_) ?_ (fun K hK => ?_) AllReadyH.nil
    rotate_left 1
    · conv => lhs; simp only [List.getElem?_toArray, List.getElem?_cons_succ, List.getElem?_cons_zero]
    rw [if_pos (by rfl)]
    refine wp_store_row 73 (.tmp 7) (.tmp 26) rfl _ (chC D M2).toArray rfl rfl 73 chZ.toArray z12 info_ch rfl (all_one chC_one) ?_
    refine hK.out _ _ (below_setRow hHeld l12 _) (fun hHeld => ?_)
    clear hK K
    replace z12 := z12.row (chC D M2)
    replace z13 := z13.rowOther n13 (chC D M2).toArray
    refine wpAnyH_ready (rs := [15]) (by kernel_rfl) (by simp) ?_
    refine AllReadyH.cons (o := ?_) ?_ (fun K hK => ?_) AllReadyH.nil
    rotate_left 1
    · conv => lhs; simp only [List.getElem?_toArray, List.getElem?_cons_succ, List.getElem?_cons_zero]
    rw [if_pos (by rfl)]
    refine wp_store_row 34 (.tmp 8) (.tmp 27) rfl _ [.int .i64 x, .int .i64 y, .int .i64 z].toArray rfl rfl 34 ([.int .i64 0, .int .i64 0, .int .i64 0] : List Value).toArray z13 info_mv rfl (all_one three_one) ?_
    refine hK.out _ _ (below_setRow hHeld l13 _) (fun hHeld => ?_)
    clear hK K
    replace z13 := z13.row [.int .i64 x, .int .i64 y, .int .i64 z]
    replace z12 := z12.rowOther n13.symm [.int .i64 x, .int .i64 y, .int .i64 z].toArray
    refine wpAnyH_take (i := 16) (oi := ?_) (v := ?_) ?_ (by kernel_rfl) (by kernel_rfl) (by kernel_rfl) ?_ (Or.inl ⟨?_, ?_⟩) hHeld ?_
    rotate_left 2
    · conv => lhs; simp only [List.getElem?_toArray, List.getElem?_cons_succ, List.getElem?_cons_zero]
    · exact fun _ _ _ h => h
    · rfl
    · intro W hSw
      have hQ := Blk.up HX.out.box hSw HX.out.box.lt
      have k0 := hQ.cell 0 _ rfl
      have k1 := hQ.cell 1 _ rfl
      go_simp
      try with_reducible rfl
    try simp only [Act.put, List.setIfInBounds_toArray, List.set_cons_zero, List.set_cons_succ]
    refine wpAnyH_done (by kernel_rfl) ?_ _
    go_wp2_with fail
    go_meet
    exact ⟨_, _, M2, rfl, rfl, rfl, hHeld, l12, l13, z12, z13⟩
  case rest =>
    obtain ⟨a1, a2, M2, rfl, rfl, rfl, hU, l1, l2, h1, h2⟩ := hcut
    have hsz := HX.out.sz
    by_cases h0 : er = 0
    · subst h0
      have hS0 : DtS w w1 a1 a2 D M2 x y z wc := ⟨Only.of_below hU, h1, h2, ⟨_, rfl, HX.out.res.up hU HX.out.res.lt⟩⟩
      clear hU h1 h2
      go_wp2_with fail
      refine wp_region_held_drew (S := DtS w w1 a1 a2 D M2 x y z) (by kernel_rfl) (hS0.next (up_drewN _ 1)) (fun hHeld => ?_)
      refine wpAnyH_take (i := 0) (oi := ?_) (v := ?_) ?_ (by kernel_rfl) (by kernel_rfl) (by kernel_rfl) ?_ (Or.inl ⟨?_, ?_⟩) hHeld ?_
      rotate_left 2
      · conv => lhs; simp only [List.getElem?_toArray, List.getElem?_cons_succ, List.getElem?_cons_zero]
      · exact fun _ _ _ h => h
      · rfl
      · intro W hSw
        have hQ := Blk.only HX.out.box hSw.on (by omega)
        have k0 := hQ.cell 0 _ rfl
        have k1 := hQ.cell 1 _ rfl
        go_simp
        try with_reducible rfl
      try simp only [Act.put, List.setIfInBounds_toArray, List.set_cons_zero, List.set_cons_succ]
      refine wpAnyH_take (i := 1) (oi := ?_) (v := ?_) ?_ (by kernel_rfl) (by kernel_rfl) (by kernel_rfl) ?_ (Or.inl ⟨?_, ?_⟩) hHeld ?_
      rotate_left 2
      · conv => lhs; simp only [List.getElem?_toArray, List.getElem?_cons_succ, List.getElem?_cons_zero]
      · exact fun _ _ _ h => h
      · rfl
      · intro W hSw
        have hQ := Blk.only HX.out.box hSw.on (by omega)
        have k0 := hQ.cell 0 _ rfl
        have k1 := hQ.cell 1 _ rfl
        go_simp
        try with_reducible rfl
      try simp only [Act.put, List.setIfInBounds_toArray, List.set_cons_zero, List.set_cons_succ]
      refine wpAnyH_take (i := 2) (oi := ?_) (v := ?_) ?_ (by kernel_rfl) (by kernel_rfl) (by kernel_rfl) ?_ (Or.inl ⟨?_, ?_⟩) hHeld ?_
      rotate_left 2
      · conv => lhs; simp only [List.getElem?_toArray, List.getElem?_cons_succ, List.getElem?_cons_zero]
      · exact fun _ _ _ h => h
      · rfl
      · intro W hSw
        have hQ := Blk.only HX.out.box hSw.on (by omega)
        have k0 := hQ.cell 0 _ rfl
        have k1 := hQ.cell 1 _ rfl
        go_simp
        try with_reducible rfl
      try simp only [Act.put, List.setIfInBounds_toArray, List.set_cons_zero, List.set_cons_succ]
      refine wpAnyH_take (i := 3) (oi := ?_) (v := (.agg (chC D M2).toArray)) ?_ (by kernel_rfl) (by kernel_rfl) (by kernel_rfl) ?_ (Or.inl ⟨?_, ?_⟩) hHeld ?_
      rotate_left 1
      · conv => lhs; simp only [List.getElem?_toArray, List.getElem?_cons_succ, List.getElem?_cons_zero]
      · exact fun _ _ _ h => h
      · rfl
      · intro W hSw
        exact take_load rfl rfl (load_row hSw.b1 Try.underlying73 rfl info_ch)
      try simp only [Act.put, List.setIfInBounds_toArray, List.set_cons_zero, List.set_cons_succ]
      refine wpAnyH_take (i := 5) (oi := ?_) (v := (.agg ([.int .i64 x, .int .i64 y, .int .i64 z] : List Value).toArray)) ?_ (by kernel_rfl) (by kernel_rfl) (by kernel_rfl) ?_ (Or.inl ⟨?_, ?_⟩) hHeld ?_
      rotate_left 1
      · conv => lhs; simp only [List.getElem?_toArray, List.getElem?_cons_succ, List.getElem?_cons_zero]
      · exact fun _ _ _ h => h
      · rfl
      · intro W hSw
        exact take_load rfl rfl (load_row hSw.b2 Try.underlying34 rfl info_mv)
      try simp only [Act.put, List.setIfInBounds_toArray, List.set_cons_zero, List.set_cons_succ]
      refine wpAnyH_ready (rs := [4]) (by kernel_rfl) (by simp) ?_
      refine AllReadyH.cons (o := ?_) ?_ (fun K hK => ?_) AllReadyH.nil
      rotate_left 1
      · conv => lhs; simp only [List.getElem?_toArray, List.getElem?_cons_succ, List.getElem?_cons_zero]
      go_simp
      refine (CW.out _ (HX.out.up.trans (hHeld.on.toBelow HX.out.up.size (by rintro i rfl; omega))) D M2).mono ?_
      rintro e wC ⟨v, rfl, hbC⟩
      go_wp2_with fail
      refine hK.out _ _ (hHeld.next hbC) (fun hHeld => ?_)
      clear hK K
      try simp only [Act.put, List.setIfInBounds_toArray, List.set_cons_zero, List.set_cons_succ]
      refine wpAnyH_take (i := 6) (oi := ?_) (v := ?_) ?_ (by kernel_rfl) (by kernel_rfl) (by kernel_rfl) ?_ (Or.inl ⟨?_, ?_⟩) hHeld ?_
      rotate_left 2
      · conv => lhs; simp only [List.getElem?_toArray, List.getElem?_cons_succ, List.getElem?_cons_zero]
      · exact fun _ _ _ h => h
      · rfl
      · intro W hSw
        have hQ := Blk.only HX.out.box hSw.on (by omega)
        have k0 := hQ.cell 0 _ rfl
        have k1 := hQ.cell 1 _ rfl
        go_simp
        try with_reducible rfl
      try simp only [Act.put, List.setIfInBounds_toArray, List.set_cons_zero, List.set_cons_succ]
      obtain ⟨ms, hms, hres⟩ := hHeld.res
      refine wpAnyH_ready (rs := [7]) (by kernel_rfl) (by simp) ?_
      refine AllReadyH.cons (o := ?_) ?_ (fun K hK => ?_) AllReadyH.nil
      rotate_left 1
      · conv => lhs; simp only [List.getElem?_toArray, List.getElem?_cons_succ, List.getElem?_cons_zero]
      rw [if_pos (by rfl)]
      refine wp_store_row 34 (.tmp 5) (.tmp 39) rfl (w.heap.size + 1) [.int .i64 x, .int .i64 y, .int .i64 z].toArray rfl rfl 34 ms.toArray hres info_mv (by rw [List.size_toArray, List.size_toArray, hms]; rfl) (all_one three_one) ?_
      refine hK.out _ _ (hHeld.set (by omega) (by omega) [.int .i64 x, .int .i64 y, .int .i64 z] rfl) (fun hHeld => ?_)
      clear hK K
      refine wpAnyH_take (i := 8) (oi := ?_) (v := ?_) ?_ (by kernel_rfl) (by kernel_rfl) (by kernel_rfl) ?_ (Or.inl ⟨?_, ?_⟩) hHeld ?_
      rotate_left 2
      · conv => lhs; simp only [List.getElem?_toArray, List.getElem?_cons_succ, List.getElem?_cons_zero]
      · exact fun _ _ _ h => h
      · rfl
      · intro W hSw
        have hQ := Blk.only HX.out.box hSw.on (by omega)
        have k0 := hQ.cell 0 _ rfl
        have k1 := hQ.cell 1 _ rfl
        go_simp
        try with_reducible rfl
      try simp only [Act.put, List.setIfInBounds_toArray, List.set_cons_zero, List.set_cons_succ]
      refine wpAnyH_done (by kernel_rfl) ?_ _
      go_wp2_with fail
      refine bodyPost_ret (v := .tuple #[v, .agg #[.int .i64 x, .int .i64 y, .int .i64 z], .int .i64 0]) (results_tce (fn := Try.f11) (s := 4) (p := 5) (t := 6) rfl _ _ _ rfl (hres.row [.int .i64 x, .int .i64 y, .int .i64 z]) Try.underlying34 rfl info_mv) rfl ?_
      exact ⟨v, x, y, z, rfl, HX.out.up.trans (hHeld.on.toBelow HX.out.up.size (by rintro i rfl; omega))⟩
    · have hx1 : (er != 0) = true := by simp [bne, h0]
      have HR := Lib.hid (HX.out.res.up hU HX.out.res.lt)
      have HU := Lib.hid (HX.out.up.trans (hU.mono HX.out.up.size))
      clear hU h1 h2 l1 l2 hsz h0 c0 c1
      go_wp2_with (refine st_row (cs := [.int .i64 0, .int .i64 0, .int .i64 0]) HR.out rfl (.tmp 5) (.tmp 32) rfl rfl rfl info_mv rfl three_one ?_)
      refine bodyPost_ret (v := .tuple #[.slice (some ⟨b, oo, none⟩) n c, .agg #[.int .i64 0, .int .i64 0, .int .i64 0], .int .i64 er]) (results_tce (fn := Try.f11) (s := 4) (p := 5) (t := 6) rfl _ _ _ rfl (HR.out.row [.int .i64 0, .int .i64 0, .int .i64 0]) Try.underlying34 rfl info_mv) rfl ?_
      exact ⟨_, 0, 0, 0, rfl, below_setRow HU.out (by omega) _⟩
end Go.Proofs.Ytnmjjemkaamcfaa

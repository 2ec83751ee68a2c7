/- The contracts of the document's Get, Load, Set, Store and Go. -/
import Derived.Test.YtdcaiecgholgiaaDoorFe
import Derived.Test.YtdcaiecgholgiaaDoorFf
namespace Go.Proofs.YtdcaiecgholgiaaDoor
open Go.RowKit

theorem load_ref {w : World} {b : Nat} {f : FR} (hf : f.Ok) {t : TypeId} (h : Blk w b f.cells t) :
    (loadVar 25 ⟨b, 0, none⟩).run Tryd.prog w = .ok (.agg f.cells.toArray) w :=
  load_frame hf h _ _ Tryd.underlying25 rfl (by kernel_rfl)
theorem info_ref : (Tryd.prog.info? 25).map (·.size) = some 35 := by kernel_rfl
theorem ld_ref {w : World} {b : Nat} {f : FR} {t : TypeId} {ops : Array Oper} {rest : List Oper} {o : Oper} {a : Act} {Q : Exit → Act → World → Prop} (hf : f.Ok) (h : Blk w b f.cells t) (hgd : o.guard = none) (x : Operand) (ho : o.op = .load 25 x)
    (hx : a.eval x = .pointer (some ⟨b, 0, none⟩)) (hk : wpList Tryd.prog ops Q rest (a.put o.dst (.agg f.cells.toArray)) w) : wpList Tryd.prog ops Q (o :: rest) a w :=
  wpList_load_row hgd _ x ho b hx t f.cells.toArray (0, 0) _ h Tryd.underlying25 rfl (by rw [List.size_toArray, FR.cells_len hf]; exact info_ref) hk
theorem st_ref {w : World} {b : Nat} {f g : FR} {t : TypeId} {ops : Array Oper} {rest : List Oper} {o : Oper} {a : Act} {Q : Exit → Act → World → Prop} (hf : f.Ok) (hg : g.Ok) (h : Blk w b g.cells t) (hgd : o.guard = none) (x y : Operand) (ho : o.op = .store 25 x y)
    (hx : a.eval x = .pointer (some ⟨b, 0, none⟩)) (hy : a.eval y = .agg f.cells.toArray) (hk : wpList Tryd.prog ops Q rest (a.put o.dst undef) (w.setRow b f.cells.toArray)) : wpList Tryd.prog ops Q (o :: rest) a w :=
  wpList_store_row hgd _ x y ho b _ hx hy t g.cells.toArray h (by rw [List.size_toArray, FR.cells_len hf]; exact info_ref) (by rw [List.size_toArray, List.size_toArray, FR.cells_len hf, FR.cells_len hg]) (by
    rw [Array.all_eq_true_iff_forall_mem]
    intro v hv
    exact FR.one v (by simpa using hv)) hk
theorem results_re {fn : Func} {p t : Tmp} (h : fn.results = #[.cell p 25, .tmp t]) (tmps : Array Value) (w : World) (b : Nat) {f : FR} (hf : f.Ok) {ty : TypeId}
    (hp : tmps.getD p undef = .pointer (some ⟨b, 0, none⟩)) (hg : Blk w b f.cells ty) :
    (results fn tmps).run Tryd.prog w = .ok (.tuple #[.agg f.cells.toArray, tmps.getD t undef]) w := by
  have hp' : tmps[p]?.getD undef = .pointer (some ⟨b, 0, none⟩) := by simpa using hp
  simp [results, h, hp', asAddr, load_ref hf hg]
set_option maxRecDepth 100000 in
set_option maxHeartbeats 1000000 in
theorem c_rget {f : FR} (hf : f.Ok) (r : Int) (w : World) :
    Calls Tryd.prog 15 #[.agg f.cells.toArray, .int .i64 r] w fun e w' => e = .returned (.tuple #[.int .i64 (getF f r).1, .int .i64 (getF f r).2]) ∧ Below w.heap.size w w' := by
  have hX := boxed w f 25
  have HX := Lib.hid hX
  have C := Lib.hid (c_rfine hf (w.alloc (.cells f.cells.toArray 25)))
  cases hff : fineF f
  · rw [hff] at C
    have HV : getF f r = (0, 1) := if_pos hff
    rw [HV]
    clear hX hff HV
    go_enter Tryd.func15, Tryd.ntmps15
    go_wp2_with (first | (refine ld_ref hf HX.out.box rfl (.tmp 2) rfl rfl ?_) | (go_at_call 10; refine C.out.mono ?_; rintro e w2 ⟨rfl, hb2⟩))
    go_ret2
    exact ⟨rfl, up_trans HX.out.up hb2⟩
  rw [hff] at C
  by_cases hr0 : r < 0
  · have HV : getF f r = (0, 8) := by
      unfold getF
      rw [if_neg (by rw [hff]; decide), if_neg (by omega)]
    rw [HV]
    have hd1 : decide (r < 0) = true := decide_eq_true hr0
    clear hX hff HV
    go_enter Tryd.func15, Tryd.ntmps15
    go_wp2_with (first | (refine ld_ref hf HX.out.box rfl (.tmp 2) rfl rfl ?_) | (go_at_call 10; refine C.out.mono ?_; rintro e w2 ⟨rfl, hb2⟩))
    go_ret2
    exact ⟨rfl, up_trans HX.out.up hb2⟩
  have hd1 : decide (r < 0) = false := decide_eq_false hr0
  by_cases hr1 : 7 < r
  · have HV : getF f r = (0, 8) := by
      unfold getF
      rw [if_neg (by rw [hff]; decide), if_neg (by omega)]
    rw [HV]
    have hd2 : decide (7 < r) = true := decide_eq_true hr1
    clear hX hff HV
    go_enter Tryd.func15, Tryd.ntmps15
    go_wp2_with (first | (refine ld_ref hf HX.out.box rfl (.tmp 2) rfl rfl ?_) | (go_at_call 10; refine C.out.mono ?_; rintro e w2 ⟨rfl, hb2⟩))
    go_ret2
    exact ⟨rfl, up_trans HX.out.up hb2⟩
  obtain ⟨k, rfl⟩ : ∃ k : Nat, r = k := ⟨r.toNat, by omega⟩
  have hd2 : decide (7 < (k : Int)) = false := decide_eq_false hr1
  have HV : getF f k = (f.regs.getD k 0, 0) := by
    unfold getF
    rw [if_neg (by rw [hff]; decide), if_pos (by omega), Int.toNat_natCast]
  rw [HV]
  have hk : k < 8 := by omega
  have hc := hX.box.cell _ _ (FR.g_reg hf k hk)
  have hlt := hX.box.lt
  generalize f.regs.getD k 0 = x at hc
  have HC := Lib.hid hc
  have HL := Lib.hid hlt
  clear hX hff HV hr0 hr1 hc hlt
  go_enter Tryd.func15, Tryd.ntmps15
  go_wp2_with (first | (refine ld_ref hf HX.out.box rfl (.tmp 2) rfl rfl ?_) | (go_at_call 10; refine C.out.mono ?_; rintro e w2 ⟨rfl, hb2⟩; have hc2 := (hb2.cell (p := ⟨w.heap.size, 2 + k, none⟩) HL.out).trans HC.out))
  go_ret2
  exact ⟨rfl, up_trans HX.out.up hb2⟩
set_option maxRecDepth 100000 in
set_option maxHeartbeats 1000000 in
theorem c_rload {f : FR} (hf : f.Ok) (r : Int) (w : World) :
    Calls Tryd.prog 17 #[.agg f.cells.toArray, .int .i64 r] w fun e w' => e = .returned (.tuple #[.int .i64 (loadF f r).1, .int .i64 (loadF f r).2]) ∧ Below w.heap.size w w' := by
  have hX := boxed w f 25
  have HX := Lib.hid hX
  have C := Lib.hid (c_rfine hf (w.alloc (.cells f.cells.toArray 25)))
  cases hff : fineF f
  · rw [hff] at C
    have HV : loadF f r = (0, 1) := if_pos hff
    rw [HV]
    clear hX hff HV
    go_enter Tryd.func17, Tryd.ntmps17
    go_wp2_with (first | (refine ld_ref hf HX.out.box rfl (.tmp 2) rfl rfl ?_) | (go_at_call 10; refine C.out.mono ?_; rintro e w2 ⟨rfl, hb2⟩))
    go_ret2
    exact ⟨rfl, up_trans HX.out.up hb2⟩
  rw [hff] at C
  by_cases hr0 : r < 0
  · have HV : loadF f r = (0, 8) := by
      unfold loadF
      rw [if_neg (by rw [hff]; decide), if_neg (by omega)]
    rw [HV]
    have hd1 : decide (r < 0) = true := decide_eq_true hr0
    clear hX hff HV
    go_enter Tryd.func17, Tryd.ntmps17
    go_wp2_with (first | (refine ld_ref hf HX.out.box rfl (.tmp 2) rfl rfl ?_) | (go_at_call 10; refine C.out.mono ?_; rintro e w2 ⟨rfl, hb2⟩))
    go_ret2
    exact ⟨rfl, up_trans HX.out.up hb2⟩
  have hd1 : decide (r < 0) = false := decide_eq_false hr0
  by_cases hr1 : 15 < r
  · have HV : loadF f r = (0, 8) := by
      unfold loadF
      rw [if_neg (by rw [hff]; decide), if_neg (by omega)]
    rw [HV]
    have hd2 : decide (15 < r) = true := decide_eq_true hr1
    clear hX hff HV
    go_enter Tryd.func17, Tryd.ntmps17
    go_wp2_with (first | (refine ld_ref hf HX.out.box rfl (.tmp 2) rfl rfl ?_) | (go_at_call 10; refine C.out.mono ?_; rintro e w2 ⟨rfl, hb2⟩))
    go_ret2
    exact ⟨rfl, up_trans HX.out.up hb2⟩
  obtain ⟨k, rfl⟩ : ∃ k : Nat, r = k := ⟨r.toNat, by omega⟩
  have hd2 : decide (15 < (k : Int)) = false := decide_eq_false hr1
  have HV : loadF f k = (f.words.getD k 0, 0) := by
    unfold loadF
    rw [if_neg (by rw [hff]; decide), if_pos (by omega), Int.toNat_natCast]
  rw [HV]
  have hk : k < 16 := by omega
  have hc := hX.box.cell _ _ (FR.g_word hf k hk)
  have hlt := hX.box.lt
  generalize f.words.getD k 0 = x at hc
  have HC := Lib.hid hc
  have HL := Lib.hid hlt
  clear hX hff HV hr0 hr1 hc hlt
  go_enter Tryd.func17, Tryd.ntmps17
  go_wp2_with (first | (refine ld_ref hf HX.out.box rfl (.tmp 2) rfl rfl ?_) | (go_at_call 10; refine C.out.mono ?_; rintro e w2 ⟨rfl, hb2⟩; have hc2 := (hb2.cell (p := ⟨w.heap.size, 10 + k, none⟩) HL.out).trans HC.out))
  go_ret2
  exact ⟨rfl, up_trans HX.out.up hb2⟩
set_option maxRecDepth 100000 in
set_option maxHeartbeats 1000000 in
theorem c_rset {f : FR} (hf : f.Ok) (r x : Int) (w : World) :
    Calls Tryd.prog 19 #[.agg f.cells.toArray, .int .i64 r, .int .i64 x] w fun e w' => e = .returned (.tuple #[.agg (setF f r x).1.cells.toArray, .int .i64 (setF f r x).2]) ∧ Below w.heap.size w w' := by
  have HX := Lib.hid (box2 w f 25)
  have C := Lib.hid (c_rget hf r ((w.alloc (.cells f.cells.toArray 25)).alloc (.cells #[.int .i64 0, .bool false, .int .i64 0, .int .i64 0, .int .i64 0, .int .i64 0, .int .i64 0, .int .i64 0, .int .i64 0, .int .i64 0, .int .i64 0, .int .i64 0, .int .i64 0, .int .i64 0, .int .i64 0, .int .i64 0, .int .i64 0, .int .i64 0, .int .i64 0, .int .i64 0, .int .i64 0, .int .i64 0, .int .i64 0, .int .i64 0, .int .i64 0, .int .i64 0, .int .i64 0, .int .i64 0, .int .i64 0, .int .i64 0, .int .i64 0, .int .i64 0, .int .i64 0, .int .i64 0, .int .i64 0] 25)))
  cases hff : fineF f
  · have HG : getF f r = (0, 1) := if_pos hff
    have HV : setF f r x = (f, 1) := if_pos hff
    rw [HV]
    rw [HG] at C
    clear hff HV HG
    go_enter Tryd.func19, Tryd.ntmps19
    go_wp2_with (first | (refine ld_ref hf HX.out.box rfl (.tmp 3) rfl rfl ?_) | (go_at_call 15; refine C.out.mono ?_; rintro e w3 ⟨rfl, hb3⟩; have HB := Lib.hid (HX.out.box.up hb3 HX.out.box.lt); have HR := Lib.hid (HX.out.res.up hb3 HX.out.res.lt); have HQ := Lib.hid (up_trans HX.out.up hb3); clear hb3) | (refine ld_ref hf HB.out rfl (.tmp 3) rfl rfl ?_) | (refine st_ref hf FR.zero_ok HR.out rfl (.tmp 6) (.tmp 18) rfl rfl rfl ?_))
    refine bodyPost_ret (v := .tuple #[.agg f.cells.toArray, .int .i64 1]) (results_re (fn := Tryd.f19) (p := 6) (t := 7) rfl _ _ _ hf rfl (HR.out.row _)) rfl ?_
    exact ⟨rfl, below_setRow HQ.out (by omega) _⟩
  by_cases hr : 0 ≤ r ∧ r < 8
  · obtain ⟨k, rfl⟩ : ∃ k : Nat, r = k := ⟨r.toNat, by omega⟩
    have hk : k < 8 := by omega
    have HG : getF f k = (f.regs.getD k 0, 0) := by
      unfold getF
      rw [if_neg (by rw [hff]; decide), if_pos hr, Int.toNat_natCast]
    rw [HG] at C
    have C2 := fun W => c_vfine x W
    cases hc : fineW x
    · have HV : setF f k x = (f, 8) := by
        unfold setF
        rw [if_neg (by rw [hff]; decide), if_neg (by rw [hc]; simp)]
      rw [HV]
      simp only [hc] at C2
      clear hff HV HG hr
      go_enter Tryd.func19, Tryd.ntmps19
      go_wp2_with (first | (refine ld_ref hf HX.out.box rfl (.tmp 3) rfl rfl ?_) | (go_at_call 15; refine C.out.mono ?_; rintro e w3 ⟨rfl, hb3⟩; have HB := Lib.hid (HX.out.box.up hb3 HX.out.box.lt); have HR := Lib.hid (HX.out.res.up hb3 HX.out.res.lt); have HQ := Lib.hid (up_trans HX.out.up hb3); clear hb3) | (refine ld_ref hf HB.out rfl (.tmp 3) rfl rfl ?_) | (refine st_ref hf FR.zero_ok HR.out rfl (.tmp 6) (.tmp 23) rfl rfl rfl ?_) | (go_at_call 29; refine (C2 _).mono ?_; rintro e w' ⟨rfl, rfl⟩))
      refine bodyPost_ret (v := .tuple #[.agg f.cells.toArray, .int .i64 8]) (results_re (fn := Tryd.f19) (p := 6) (t := 7) rfl _ _ _ hf rfl (HR.out.row _)) rfl ?_
      exact ⟨rfl, below_setRow HQ.out (by omega) _⟩
    · have HV : setF f k x = ({ f with regs := f.regs.set k x }, 0) := by
        unfold setF
        rw [if_neg (by rw [hff]; decide), if_pos ⟨hr.1, hr.2, hc⟩, Int.toNat_natCast]
      rw [HV]
      simp only [hc] at C2
      clear hff HV HG hr
      go_enter Tryd.func19, Tryd.ntmps19
      go_wp2_with (first | (refine ld_ref hf HX.out.box rfl (.tmp 3) rfl rfl ?_) | (go_at_call 15; refine C.out.mono ?_; rintro e w3 ⟨rfl, hb3⟩; have HB := Lib.hid (HX.out.box.up hb3 HX.out.box.lt); have HR := Lib.hid (HX.out.res.up hb3 HX.out.res.lt); have HQ := Lib.hid (up_trans HX.out.up hb3); clear hb3; have hcl := HB.out.cell _ _ (FR.g_reg hf k hk); have hfr := HB.out.free (2 + k)) | (go_at_call 29; refine (C2 _).mono ?_; rintro e w' ⟨rfl, rfl⟩) | (refine ld_ref (hf.reg k x) (HB.out.sreg hf k hk x) rfl (.tmp 3) rfl rfl ?_) | (refine st_ref (hf.reg k x) FR.zero_ok (HR.out.other ⟨w.heap.size, 2 + k, none⟩ (by simp) _) rfl (.tmp 6) (.tmp 28) rfl rfl rfl ?_))
      refine bodyPost_ret (v := .tuple #[.agg ({ f with regs := f.regs.set k x } : FR).cells.toArray, .int .i64 0]) (results_re (fn := Tryd.f19) (p := 6) (t := 7) rfl _ _ _ (hf.reg k x) rfl ((HR.out.other ⟨w.heap.size, 2 + k, none⟩ (by simp) _).row _)) rfl ?_
      exact ⟨rfl, below_setRow (HQ.out.setCell (Nat.le_refl _) _) (by omega) _⟩
  · have HG : getF f r = (0, 8) := by
      unfold getF
      rw [if_neg (by rw [hff]; decide), if_neg hr]
    have HV : setF f r x = (f, 8) := by
      unfold setF
      rw [if_neg (by rw [hff]; decide), if_neg (fun h => hr ⟨h.1, h.2.1⟩)]
    rw [HV]
    rw [HG] at C
    clear hff HV HG hr
    go_enter Tryd.func19, Tryd.ntmps19
    go_wp2_with (first | (refine ld_ref hf HX.out.box rfl (.tmp 3) rfl rfl ?_) | (go_at_call 15; refine C.out.mono ?_; rintro e w3 ⟨rfl, hb3⟩; have HB := Lib.hid (HX.out.box.up hb3 HX.out.box.lt); have HR := Lib.hid (HX.out.res.up hb3 HX.out.res.lt); have HQ := Lib.hid (up_trans HX.out.up hb3); clear hb3) | (refine ld_ref hf HB.out rfl (.tmp 3) rfl rfl ?_) | (refine st_ref hf FR.zero_ok HR.out rfl (.tmp 6) (.tmp 18) rfl rfl rfl ?_))
    refine bodyPost_ret (v := .tuple #[.agg f.cells.toArray, .int .i64 8]) (results_re (fn := Tryd.f19) (p := 6) (t := 7) rfl _ _ _ hf rfl (HR.out.row _)) rfl ?_
    exact ⟨rfl, below_setRow HQ.out (by omega) _⟩
set_option maxRecDepth 100000 in
set_option maxHeartbeats 1000000 in
theorem c_rstore {f : FR} (hf : f.Ok) (r x : Int) (w : World) :
    Calls Tryd.prog 21 #[.agg f.cells.toArray, .int .i64 r, .int .i64 x] w fun e w' => e = .returned (.tuple #[.agg (storeF f r x).1.cells.toArray, .int .i64 (storeF f r x).2]) ∧ Below w.heap.size w w' := by
  have HX := Lib.hid (box2 w f 25)
  have C := Lib.hid (c_rload hf r ((w.alloc (.cells f.cells.toArray 25)).alloc (.cells #[.int .i64 0, .bool false, .int .i64 0, .int .i64 0, .int .i64 0, .int .i64 0, .int .i64 0, .int .i64 0, .int .i64 0, .int .i64 0, .int .i64 0, .int .i64 0, .int .i64 0, .int .i64 0, .int .i64 0, .int .i64 0, .int .i64 0, .int .i64 0, .int .i64 0, .int .i64 0, .int .i64 0, .int .i64 0, .int .i64 0, .int .i64 0, .int .i64 0, .int .i64 0, .int .i64 0, .int .i64 0, .int .i64 0, .int .i64 0, .int .i64 0, .int .i64 0, .int .i64 0, .int .i64 0, .int .i64 0] 25)))
  cases hff : fineF f
  · have HG : loadF f r = (0, 1) := if_pos hff
    have HV : storeF f r x = (f, 1) := if_pos hff
    rw [HV]
    rw [HG] at C
    clear hff HV HG
    go_enter Tryd.func21, Tryd.ntmps21
    go_wp2_with (first | (refine ld_ref hf HX.out.box rfl (.tmp 3) rfl rfl ?_) | (go_at_call 17; refine C.out.mono ?_; rintro e w3 ⟨rfl, hb3⟩; have HB := Lib.hid (HX.out.box.up hb3 HX.out.box.lt); have HR := Lib.hid (HX.out.res.up hb3 HX.out.res.lt); have HQ := Lib.hid (up_trans HX.out.up hb3); clear hb3) | (refine ld_ref hf HB.out rfl (.tmp 3) rfl rfl ?_) | (refine st_ref hf FR.zero_ok HR.out rfl (.tmp 6) (.tmp 18) rfl rfl rfl ?_))
    refine bodyPost_ret (v := .tuple #[.agg f.cells.toArray, .int .i64 1]) (results_re (fn := Tryd.f21) (p := 6) (t := 7) rfl _ _ _ hf rfl (HR.out.row _)) rfl ?_
    exact ⟨rfl, below_setRow HQ.out (by omega) _⟩
  by_cases hr : 0 ≤ r ∧ r < 16
  · obtain ⟨k, rfl⟩ : ∃ k : Nat, r = k := ⟨r.toNat, by omega⟩
    have hk : k < 16 := by omega
    have HG : loadF f k = (f.words.getD k 0, 0) := by
      unfold loadF
      rw [if_neg (by rw [hff]; decide), if_pos hr, Int.toNat_natCast]
    rw [HG] at C
    have C2 := fun W => c_vfine x W
    cases hc : fineW x
    · have HV : storeF f k x = (f, 8) := by
        unfold storeF
        rw [if_neg (by rw [hff]; decide), if_neg (by rw [hc]; simp)]
      rw [HV]
      simp only [hc] at C2
      clear hff HV HG hr
      go_enter Tryd.func21, Tryd.ntmps21
      go_wp2_with (first | (refine ld_ref hf HX.out.box rfl (.tmp 3) rfl rfl ?_) | (go_at_call 17; refine C.out.mono ?_; rintro e w3 ⟨rfl, hb3⟩; have HB := Lib.hid (HX.out.box.up hb3 HX.out.box.lt); have HR := Lib.hid (HX.out.res.up hb3 HX.out.res.lt); have HQ := Lib.hid (up_trans HX.out.up hb3); clear hb3) | (refine ld_ref hf HB.out rfl (.tmp 3) rfl rfl ?_) | (refine st_ref hf FR.zero_ok HR.out rfl (.tmp 6) (.tmp 23) rfl rfl rfl ?_) | (go_at_call 29; refine (C2 _).mono ?_; rintro e w' ⟨rfl, rfl⟩))
      refine bodyPost_ret (v := .tuple #[.agg f.cells.toArray, .int .i64 8]) (results_re (fn := Tryd.f21) (p := 6) (t := 7) rfl _ _ _ hf rfl (HR.out.row _)) rfl ?_
      exact ⟨rfl, below_setRow HQ.out (by omega) _⟩
    · have HV : storeF f k x = ({ f with words := f.words.set k x }, 0) := by
        unfold storeF
        rw [if_neg (by rw [hff]; decide), if_pos ⟨hr.1, hr.2, hc⟩, Int.toNat_natCast]
      rw [HV]
      simp only [hc] at C2
      clear hff HV HG hr
      go_enter Tryd.func21, Tryd.ntmps21
      go_wp2_with (first | (refine ld_ref hf HX.out.box rfl (.tmp 3) rfl rfl ?_) | (go_at_call 17; refine C.out.mono ?_; rintro e w3 ⟨rfl, hb3⟩; have HB := Lib.hid (HX.out.box.up hb3 HX.out.box.lt); have HR := Lib.hid (HX.out.res.up hb3 HX.out.res.lt); have HQ := Lib.hid (up_trans HX.out.up hb3); clear hb3; have hcl := HB.out.cell _ _ (FR.g_word hf k hk); have hfr := HB.out.free (10 + k)) | (go_at_call 29; refine (C2 _).mono ?_; rintro e w' ⟨rfl, rfl⟩) | (refine ld_ref (hf.word k x) (HB.out.sword hf k hk x) rfl (.tmp 3) rfl rfl ?_) | (refine st_ref (hf.word k x) FR.zero_ok (HR.out.other ⟨w.heap.size, 10 + k, none⟩ (by simp) _) rfl (.tmp 6) (.tmp 28) rfl rfl rfl ?_))
      refine bodyPost_ret (v := .tuple #[.agg ({ f with words := f.words.set k x } : FR).cells.toArray, .int .i64 0]) (results_re (fn := Tryd.f21) (p := 6) (t := 7) rfl _ _ _ (hf.word k x) rfl ((HR.out.other ⟨w.heap.size, 10 + k, none⟩ (by simp) _).row _)) rfl ?_
      exact ⟨rfl, below_setRow (HQ.out.setCell (Nat.le_refl _) _) (by omega) _⟩
  · have HG : loadF f r = (0, 8) := by
      unfold loadF
      rw [if_neg (by rw [hff]; decide), if_neg hr]
    have HV : storeF f r x = (f, 8) := by
      unfold storeF
      rw [if_neg (by rw [hff]; decide), if_neg (fun h => hr ⟨h.1, h.2.1⟩)]
    rw [HV]
    rw [HG] at C
    clear hff HV HG hr
    go_enter Tryd.func21, Tryd.ntmps21
    go_wp2_with (first | (refine ld_ref hf HX.out.box rfl (.tmp 3) rfl rfl ?_) | (go_at_call 17; refine C.out.mono ?_; rintro e w3 ⟨rfl, hb3⟩; have HB := Lib.hid (HX.out.box.up hb3 HX.out.box.lt); have HR := Lib.hid (HX.out.res.up hb3 HX.out.res.lt); have HQ := Lib.hid (up_trans HX.out.up hb3); clear hb3) | (refine ld_ref hf HB.out rfl (.tmp 3) rfl rfl ?_) | (refine st_ref hf FR.zero_ok HR.out rfl (.tmp 6) (.tmp 18) rfl rfl rfl ?_))
    refine bodyPost_ret (v := .tuple #[.agg f.cells.toArray, .int .i64 8]) (results_re (fn := Tryd.f21) (p := 6) (t := 7) rfl _ _ _ hf rfl (HR.out.row _)) rfl ?_
    exact ⟨rfl, below_setRow HQ.out (by omega) _⟩
set_option maxRecDepth 100000 in
set_option maxHeartbeats 1000000 in
theorem c_rgo {f : FR} (hf : f.Ok) (r : Int) (w : World) :
    Calls Tryd.prog 23 #[.agg f.cells.toArray, .int .i64 r] w fun e w' => e = .returned (.tuple #[.agg (goF f r).1.cells.toArray, .int .i64 (goF f r).2]) ∧ Below w.heap.size w w' := by
  have HX := Lib.hid (box2 w f 25)
  have C := Lib.hid (c_rfine hf ((w.alloc (.cells f.cells.toArray 25)).alloc (.cells #[.int .i64 0, .bool false, .int .i64 0, .int .i64 0, .int .i64 0, .int .i64 0, .int .i64 0, .int .i64 0, .int .i64 0, .int .i64 0, .int .i64 0, .int .i64 0, .int .i64 0, .int .i64 0, .int .i64 0, .int .i64 0, .int .i64 0, .int .i64 0, .int .i64 0, .int .i64 0, .int .i64 0, .int .i64 0, .int .i64 0, .int .i64 0, .int .i64 0, .int .i64 0, .int .i64 0, .int .i64 0, .int .i64 0, .int .i64 0, .int .i64 0, .int .i64 0, .int .i64 0, .int .i64 0, .int .i64 0] 25)))
  have C2 := fun W => c_vplace r W
  cases hff : fineF f
  · have HV : goF f r = (f, 1) := if_pos hff
    rw [HV]
    rw [hff] at C
    clear hff HV
    go_enter Tryd.func23, Tryd.ntmps23
    go_wp2_with (first | (refine ld_ref hf HX.out.box rfl (.tmp 2) rfl rfl ?_) | (go_at_call 10; refine C.out.mono ?_; rintro e w3 ⟨rfl, hb3⟩; have HB := Lib.hid (HX.out.box.up hb3 HX.out.box.lt); have HR := Lib.hid (HX.out.res.up hb3 HX.out.res.lt); have HQ := Lib.hid (up_trans HX.out.up hb3); clear hb3) | (go_at_call 33; refine (C2 _).mono ?_; rintro e w' ⟨rfl, rfl⟩) | (refine ld_ref hf HB.out rfl (.tmp 2) rfl rfl ?_) | (refine st_ref hf FR.zero_ok HR.out rfl (.tmp 4) (.tmp 9) rfl rfl rfl ?_))
    refine bodyPost_ret (v := .tuple #[.agg f.cells.toArray, .int .i64 1]) (results_re (fn := Tryd.f23) (p := 4) (t := 5) rfl _ _ _ hf rfl (HR.out.row _)) rfl ?_
    exact ⟨rfl, below_setRow HQ.out (by omega) _⟩
  rw [hff] at C
  cases hb : placeB r
  · have HV : goF f r = (f, 8) := by
      unfold goF
      rw [if_neg (by rw [hff]; decide), if_neg (by rw [hb]; decide)]
    rw [HV]
    simp only [hb] at C2
    clear hff HV
    go_enter Tryd.func23, Tryd.ntmps23
    go_wp2_with (first | (refine ld_ref hf HX.out.box rfl (.tmp 2) rfl rfl ?_) | (go_at_call 10; refine C.out.mono ?_; rintro e w3 ⟨rfl, hb3⟩; have HB := Lib.hid (HX.out.box.up hb3 HX.out.box.lt); have HR := Lib.hid (HX.out.res.up hb3 HX.out.res.lt); have HQ := Lib.hid (up_trans HX.out.up hb3); clear hb3) | (go_at_call 33; refine (C2 _).mono ?_; rintro e w' ⟨rfl, rfl⟩) | (refine ld_ref hf HB.out rfl (.tmp 2) rfl rfl ?_) | (refine st_ref hf FR.zero_ok HR.out rfl (.tmp 4) (.tmp 13) rfl rfl rfl ?_))
    refine bodyPost_ret (v := .tuple #[.agg f.cells.toArray, .int .i64 8]) (results_re (fn := Tryd.f23) (p := 4) (t := 5) rfl _ _ _ hf rfl (HR.out.row _)) rfl ?_
    exact ⟨rfl, below_setRow HQ.out (by omega) _⟩
  · have HV : goF f r = ({ f with pc := r }, 0) := by
      unfold goF
      rw [if_neg (by rw [hff]; decide), if_pos hb]
    rw [HV]
    simp only [hb] at C2
    clear hff HV
    go_enter Tryd.func23, Tryd.ntmps23
    go_wp2_with (first | (refine ld_ref hf HX.out.box rfl (.tmp 2) rfl rfl ?_) | (go_at_call 10; refine C.out.mono ?_; rintro e w3 ⟨rfl, hb3⟩; have HB := Lib.hid (HX.out.box.up hb3 HX.out.box.lt); have HR := Lib.hid (HX.out.res.up hb3 HX.out.res.lt); have HQ := Lib.hid (up_trans HX.out.up hb3); clear hb3; have hcl := HB.out.cell 0 _ (FR.c_pc f); have hfr := HB.out.free 0) | (go_at_call 33; refine (C2 _).mono ?_; rintro e w' ⟨rfl, rfl⟩) | (refine ld_ref (hf.pc r) (HB.out.spc r) rfl (.tmp 2) rfl rfl ?_) | (refine st_ref (hf.pc r) FR.zero_ok (HR.out.other ⟨w.heap.size, 0, none⟩ (by simp) _) rfl (.tmp 4) (.tmp 16) rfl rfl rfl ?_))
    refine bodyPost_ret (v := .tuple #[.agg ({ f with pc := r } : FR).cells.toArray, .int .i64 0]) (results_re (fn := Tryd.f23) (p := 4) (t := 5) rfl _ _ _ (hf.pc r) rfl ((HR.out.other ⟨w.heap.size, 0, none⟩ (by simp) _).row _)) rfl ?_
    exact ⟨rfl, below_setRow (HQ.out.setCell (Nat.le_refl _) _) (by omega) _⟩
end Go.Proofs.YtdcaiecgholgiaaDoor

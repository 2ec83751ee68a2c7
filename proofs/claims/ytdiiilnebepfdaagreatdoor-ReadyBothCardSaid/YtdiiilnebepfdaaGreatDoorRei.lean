/- Package ready: asked. -/
import Derived.Test.YtdiiilnebepfdaaGreatDoorReh
import Derived.Test.YtdiiilnebepfdaaGreatDoorA1
namespace Go.Proofs.YtdiiilnebepfdaaGreatDoor
open Go.RowKit

structure FewV (V : VQ) : Prop where
  f : Few V
  t : ∀ t ∈ V.Tq, t.who ≤ 9223372036854775807
theorem built_fire (o : Int) : Tryz.prog.built 32 [(0, Value.int .i64 1), (1, .int .i64 o)] = some (evC ⟨1, o, 0, 0⟩).toArray := by kernel_rfl

set_option maxRecDepth 100000 in
set_option maxHeartbeats 4000000 in
theorem c_asked1 {V : VQ} {w : World} (h : VW w V) (hf : FewV V) (who o v r n : Int) :
    Calls Tryz.prog 23 #[.agg (vC V).toArray, .int .i64 who, .agg (gdC ⟨1, o, v, r, n⟩).toArray] w (EvPost w (rdOf V.p who ⟨1, o, v, r, n⟩)) := by
  have hX := bl2 w (vC V) 40 (gdC ⟨1, o, v, r, n⟩) 63 evZC 32
  generalize hw1 : ((w.alloc (.cells (vC V).toArray 40)).alloc (.cells (gdC ⟨1, o, v, r, n⟩).toArray 63)).alloc (.cells evZC.toArray 32) = w1 at hX
  have HW := Lib.hid (show ((w.alloc (.cells (vC V).toArray 40)).alloc (.cells (gdC ⟨1, o, v, r, n⟩).toArray 63)).alloc (.cells #[.int .i64 0, .int .i64 0, .int .i64 0, .int .i64 0] 32) = w1 from hw1)
  have HX := Lib.hid hX
  have d0 : w1.cell? ⟨w.heap.size + 1, 0, none⟩ = some (.int .i64 1) := (hX.ka 1 rfl).cell 0 _ rfl
  rw [rdOf_chan (g := ⟨1, o, v, r, n⟩) (.inl rfl)]
  have CS := Lib.hid (fun W (hW : Below w.heap.size w W) => c_served1 (h.below hW) hf.f who o v r n)
  generalize rdServ V.p.Cs who ⟨1, o, v, r, n⟩ = R at CS ⊢
  clear h hf hX hw1
  go_enter Tryz.func23, Tryz.ntmps23
  go_upto_region 1 with fail
  rw [HW.out]
  go_wp2_with (first | (refine ldr (b := w.heap.size) (t := 40) (cs := vC V) (.tmp 3) rfl rfl Tryz.underlying40 rfl info_vw rfl ?_ ?_; (· exact HX.out.ka 0 rfl)) | (refine ldr (b := w.heap.size + 1) (t := 63) (cs := gdC ⟨1, o, v, r, n⟩) (.tmp 5) rfl rfl Tryz.underlying63 rfl info_gd5 rfl ?_ ?_; (· exact HX.out.ka 1 rfl)))
  refine (CS.out _ HX.out.up).mono ?_; rintro e w2 ⟨rfl, hb⟩
  have HE := Lib.hid (HX.out.next hb)
  clear hb
  obtain ⟨ds, hds, hres⟩ := HE.out.res
  have HR := Lib.hid hres
  have HD := Lib.hid (show ds.length = 4 from hds)
  clear hds hres
  go_wp2_with (refine str (b := w.heap.size + 2) (t := 32) (cs := evC (R.getD evZ)) (ds := ds) (.tmp 6) (.tmp 16) rfl rfl rfl rfl info_ev4 HD.out (evC_one _) ?_ ?_; (· exact HR.out))
  refine bodyPost_ret (v := .tuple #[.agg (evC (R.getD evZ)).toArray, .bool R.isSome]) (results_ce (fn := Tryz.f23) (p := 6) (t := 7) rfl _ _ _ rfl (HR.out.row _) Tryz.underlying32 rfl info_ev4) rfl ?_
  exact ⟨rfl, below_setRow HE.out.up HE.out.lo _⟩

set_option maxRecDepth 100000 in
set_option maxHeartbeats 4000000 in
theorem c_asked2 {V : VQ} {w : World} (h : VW w V) (hf : FewV V) (who o v r n : Int) :
    Calls Tryz.prog 23 #[.agg (vC V).toArray, .int .i64 who, .agg (gdC ⟨2, o, v, r, n⟩).toArray] w (EvPost w (rdOf V.p who ⟨2, o, v, r, n⟩)) := by
  have hX := bl2 w (vC V) 40 (gdC ⟨2, o, v, r, n⟩) 63 evZC 32
  generalize hw1 : ((w.alloc (.cells (vC V).toArray 40)).alloc (.cells (gdC ⟨2, o, v, r, n⟩).toArray 63)).alloc (.cells evZC.toArray 32) = w1 at hX
  have HW := Lib.hid (show ((w.alloc (.cells (vC V).toArray 40)).alloc (.cells (gdC ⟨2, o, v, r, n⟩).toArray 63)).alloc (.cells #[.int .i64 0, .int .i64 0, .int .i64 0, .int .i64 0] 32) = w1 from hw1)
  have HX := Lib.hid hX
  have d0 : w1.cell? ⟨w.heap.size + 1, 0, none⟩ = some (.int .i64 2) := (hX.ka 1 rfl).cell 0 _ rfl
  rw [rdOf_chan (g := ⟨2, o, v, r, n⟩) (.inr rfl)]
  have CS := Lib.hid (fun W (hW : Below w.heap.size w W) => c_served2 (h.below hW) hf.f who o v r n)
  generalize rdServ V.p.Cs who ⟨2, o, v, r, n⟩ = R at CS ⊢
  clear h hf hX hw1
  go_enter Tryz.func23, Tryz.ntmps23
  go_upto_region 1 with fail
  rw [HW.out]
  go_wp2_with (first | (refine ldr (b := w.heap.size) (t := 40) (cs := vC V) (.tmp 3) rfl rfl Tryz.underlying40 rfl info_vw rfl ?_ ?_; (· exact HX.out.ka 0 rfl)) | (refine ldr (b := w.heap.size + 1) (t := 63) (cs := gdC ⟨2, o, v, r, n⟩) (.tmp 5) rfl rfl Tryz.underlying63 rfl info_gd5 rfl ?_ ?_; (· exact HX.out.ka 1 rfl)))
  refine (CS.out _ HX.out.up).mono ?_; rintro e w2 ⟨rfl, hb⟩
  have HE := Lib.hid (HX.out.next hb)
  clear hb
  obtain ⟨ds, hds, hres⟩ := HE.out.res
  have HR := Lib.hid hres
  have HD := Lib.hid (show ds.length = 4 from hds)
  clear hds hres
  go_wp2_with (refine str (b := w.heap.size + 2) (t := 32) (cs := evC (R.getD evZ)) (ds := ds) (.tmp 6) (.tmp 24) rfl rfl rfl rfl info_ev4 HD.out (evC_one _) ?_ ?_; (· exact HR.out))
  refine bodyPost_ret (v := .tuple #[.agg (evC (R.getD evZ)).toArray, .bool R.isSome]) (results_ce (fn := Tryz.f23) (p := 6) (t := 7) rfl _ _ _ rfl (HR.out.row _) Tryz.underlying32 rfl info_ev4) rfl ?_
  exact ⟨rfl, below_setRow HE.out.up HE.out.lo _⟩

set_option maxRecDepth 100000 in
set_option maxHeartbeats 4000000 in
theorem c_asked3 {V : VQ} {w : World} (h : VW w V) (hf : FewV V) (hT : TabD w) (who o v r n : Int) :
    Calls Tryz.prog 23 #[.agg (vC V).toArray, .int .i64 who, .agg (gdC ⟨3, o, v, r, n⟩).toArray] w (EvPost w (rdOf V.p who ⟨3, o, v, r, n⟩)) := by
  have hX := bl2 w (vC V) 40 (gdC ⟨3, o, v, r, n⟩) 63 evZC 32
  generalize hw1 : ((w.alloc (.cells (vC V).toArray 40)).alloc (.cells (gdC ⟨3, o, v, r, n⟩).toArray 63)).alloc (.cells evZC.toArray 32) = w1 at hX
  have HW := Lib.hid (show ((w.alloc (.cells (vC V).toArray 40)).alloc (.cells (gdC ⟨3, o, v, r, n⟩).toArray 63)).alloc (.cells #[.int .i64 0, .int .i64 0, .int .i64 0, .int .i64 0] 32) = w1 from hw1)
  have HX := Lib.hid hX
  have d0 : w1.cell? ⟨w.heap.size + 1, 0, none⟩ = some (.int .i64 3) := (hX.ka 1 rfl).cell 0 _ rfl
  rw [rdOf_bar (g := ⟨3, o, v, r, n⟩) rfl]
  have CM := Lib.hid (fun W (hW : Below w.heap.size w W) => c_met (h.below hW) hf.f (hT.up hW) who o)
  have HBD := Lib.hid (built_fire o)
  change Calls _ _ _ _ (EvPost w (if rdMet V.Bq who o = true then some ⟨1, o, 0, 0⟩ else none))
  generalize rdMet V.Bq who o = m at CM ⊢
  have CWN := Lib.hid (fun W => c_when m 1 o 0 0 W)
  have hR : (if m = true then some ⟨1, o, 0, 0⟩ else none) = (bif m then some (⟨1, o, 0, 0⟩ : EV) else none) := by cases m <;> rfl
  rw [hR]
  generalize (bif m then some (⟨1, o, 0, 0⟩ : EV) else none) = R at CWN ⊢
  clear h hf hT hX hw1 hR
  go_enter Tryz.func23, Tryz.ntmps23
  go_upto_region 1 with fail
  rw [HW.out]
  go_wp2_with fail
  refine wp_region_held_drew (S := BL w [(w.heap.size, vC V, 40), (w.heap.size + 1, gdC ⟨3, o, v, r, n⟩, 63)] (w.heap.size + 2) 4 32) (by kernel_rfl) (HX.out.next (up_drewN _ 1)) (fun hHeld => ?_)
  refine wpAnyH_take (i := 0) (oi := ?_) (v := (.agg (vC V).toArray)) ?_ (by kernel_rfl) (by kernel_rfl) (by kernel_rfl) ?_ (Or.inl ⟨?_, ?_⟩) hHeld ?_
  rotate_left 1
  · conv => lhs; simp only [List.getElem?_toArray, List.getElem?_cons_succ, List.getElem?_cons_zero]
  · exact fun _ _ _ h => h
  · rfl
  · intro W hSw
    exact tk_load rfl rfl (load_row (hSw.ka 0 rfl) Tryz.underlying40 rfl info_vw)
  try simp only [Act.put, List.setIfInBounds_toArray, List.set_cons_zero, List.set_cons_succ]
  refine wpAnyH_take (i := 1) (oi := ?_) (v := ?_) ?_ (by kernel_rfl) (by kernel_rfl) (by kernel_rfl) ?_ (Or.inl ⟨?_, ?_⟩) hHeld ?_
  rotate_left 2
  · conv => lhs; simp only [List.getElem?_toArray, List.getElem?_cons_succ, List.getElem?_cons_zero]
  · exact fun _ _ _ h => h
  · rfl
  · intro W hSw
    go_simp
    try with_reducible rfl
  try simp only [Act.put, List.setIfInBounds_toArray, List.set_cons_zero, List.set_cons_succ]
  refine wpAnyH_take (i := 2) (oi := ?_) (v := ?_) ?_ (by kernel_rfl) (by kernel_rfl) (by kernel_rfl) ?_ (Or.inl ⟨?_, ?_⟩) hHeld ?_
  rotate_left 2
  · conv => lhs; simp only [List.getElem?_toArray, List.getElem?_cons_succ, List.getElem?_cons_zero]
  · exact fun _ _ _ h => h
  · rfl
  · intro W hSw
    go_simp
    try with_reducible rfl
  try simp only [Act.put, List.setIfInBounds_toArray, List.set_cons_zero, List.set_cons_succ]
  refine wpAnyH_take (i := 3) (oi := ?_) (v := ?_) ?_ (by kernel_rfl) (by kernel_rfl) (by kernel_rfl) ?_ (Or.inl ⟨?_, ?_⟩) hHeld ?_
  rotate_left 2
  · conv => lhs; simp only [List.getElem?_toArray, List.getElem?_cons_succ, List.getElem?_cons_zero]
  · exact fun _ _ _ h => h
  · rfl
  · intro W hSw
    have f0 := (hSw.ka 1 rfl).cell 1 _ rfl
    go_simp
    try with_reducible rfl
  try simp only [Act.put, List.setIfInBounds_toArray, List.set_cons_zero, List.set_cons_succ]
  refine wpAnyH_take (i := 5) (oi := ?_) (v := ?_) ?_ (by kernel_rfl) (by kernel_rfl) (by kernel_rfl) ?_ (Or.inl ⟨?_, ?_⟩) hHeld ?_
  rotate_left 2
  · conv => lhs; simp only [List.getElem?_toArray, List.getElem?_cons_succ, List.getElem?_cons_zero]
  · exact fun _ _ _ h => h
  · rfl
  · intro W hSw
    go_simp
    try with_reducible rfl
  try simp only [Act.put, List.setIfInBounds_toArray, List.set_cons_zero, List.set_cons_succ]
  refine wpAnyH_take (i := 6) (oi := ?_) (v := ?_) ?_ (by kernel_rfl) (by kernel_rfl) (by kernel_rfl) ?_ (Or.inl ⟨?_, ?_⟩) hHeld ?_
  rotate_left 2
  · conv => lhs; simp only [List.getElem?_toArray, List.getElem?_cons_succ, List.getElem?_cons_zero]
  · exact fun _ _ _ h => h
  · rfl
  · intro W hSw
    have f0 := (hSw.ka 1 rfl).cell 1 _ rfl
    go_simp
    try with_reducible rfl
  try simp only [Act.put, List.setIfInBounds_toArray, List.set_cons_zero, List.set_cons_succ]
  refine wpAnyH_take (i := 7) (oi := ?_) (v := (.agg (evC ⟨1, o, 0, 0⟩).toArray)) ?_ (by kernel_rfl) (by kernel_rfl) (by kernel_rfl) ?_ (Or.inl ⟨?_, ?_⟩) hHeld ?_
  rotate_left 1
  · conv => lhs; simp only [List.getElem?_toArray, List.getElem?_cons_succ, List.getElem?_cons_zero]
  · exact fun _ _ _ h => h
  · rfl
  · intro W hSw
    exact tk_build rfl (by simpa [Act.eval] using HBD.out)
  try simp only [Act.put, List.setIfInBounds_toArray, List.set_cons_zero, List.set_cons_succ]
  refine wpAnyH_ready (rs := [4]) (by kernel_rfl) (by simp) ?_
  refine AllReadyH.cons (o := ?_) ?_ (fun K hK => ?_) AllReadyH.nil
  rotate_left 1
  · conv => lhs; simp only [List.getElem?_toArray, List.getElem?_cons_succ, List.getElem?_cons_zero]
  go_simp
  refine (CM.out _ hHeld.up).mono ?_
  rintro e wA ⟨rfl, hb⟩
  go_wp2_with fail
  refine hK.out _ _ (hHeld.next hb) (fun hHeld => ?_)
  clear hK K
  try simp only [Act.put, List.setIfInBounds_toArray, List.set_cons_zero, List.set_cons_succ]
  refine wpAnyH_ready (rs := [8]) (by kernel_rfl) (by simp) ?_
  refine AllReadyH.cons (o := ?_) ?_ (fun K hK => ?_) AllReadyH.nil
  rotate_left 1
  · conv => lhs; simp only [List.getElem?_toArray, List.getElem?_cons_succ, List.getElem?_cons_zero]
  go_simp
  refine (CWN.out _).mono ?_
  rintro e wA ⟨rfl, hb⟩
  go_wp2_with fail
  refine hK.out _ _ (hHeld.next hb) (fun hHeld => ?_)
  clear hK K
  try simp only [Act.put, List.setIfInBounds_toArray, List.set_cons_zero, List.set_cons_succ]
  refine wpAnyH_take (i := 9) (oi := ?_) (v := ?_) ?_ (by kernel_rfl) (by kernel_rfl) (by kernel_rfl) ?_ (Or.inl ⟨?_, ?_⟩) hHeld ?_
  rotate_left 2
  · conv => lhs; simp only [List.getElem?_toArray, List.getElem?_cons_succ, List.getElem?_cons_zero]
  · exact fun _ _ _ h => h
  · rfl
  · intro W hSw
    go_simp
    try with_reducible rfl
  try simp only [Act.put, List.setIfInBounds_toArray, List.set_cons_zero, List.set_cons_succ]
  refine wpAnyH_take (i := 10) (oi := ?_) (v := ?_) ?_ (by kernel_rfl) (by kernel_rfl) (by kernel_rfl) ?_ (Or.inl ⟨?_, ?_⟩) hHeld ?_
  rotate_left 2
  · conv => lhs; simp only [List.getElem?_toArray, List.getElem?_cons_succ, List.getElem?_cons_zero]
  · exact fun _ _ _ h => h
  · rfl
  · intro W hSw
    go_simp
    try with_reducible rfl
  try simp only [Act.put, List.setIfInBounds_toArray, List.set_cons_zero, List.set_cons_succ]
  obtain ⟨ds, hds, hres⟩ := hHeld.res
  refine wpAnyH_ready (rs := [11]) (by kernel_rfl) (by simp) ?_
  refine AllReadyH.cons (o := ?_) ?_ (fun K hK => ?_) AllReadyH.nil
  rotate_left 1
  · conv => lhs; simp only [List.getElem?_toArray, List.getElem?_cons_succ, List.getElem?_cons_zero]
  rw [if_pos (by rfl)]
  refine wp_store_row 32 (.tmp 6) (.tmp 37) rfl (w.heap.size + 2) (evC (R.getD evZ)).toArray rfl rfl 32 ds.toArray hres info_ev4 (by rw [List.size_toArray, List.size_toArray, hds]; rfl) (al_one (evC_one _)) ?_
  refine hK.out _ _ (hHeld.put (evC (R.getD evZ)) rfl) (fun hHeld => ?_)
  clear hK K
  refine wpAnyH_take (i := 12) (oi := ?_) (v := ?_) ?_ (by kernel_rfl) (by kernel_rfl) (by kernel_rfl) ?_ (Or.inl ⟨?_, ?_⟩) hHeld ?_
  rotate_left 2
  · conv => lhs; simp only [List.getElem?_toArray, List.getElem?_cons_succ, List.getElem?_cons_zero]
  · exact fun _ _ _ h => h
  · rfl
  · intro W hSw
    go_simp
    try with_reducible rfl
  try simp only [Act.put, List.setIfInBounds_toArray, List.set_cons_zero, List.set_cons_succ]
  refine wpAnyH_done (by kernel_rfl) ?_ _
  go_wp2_with fail
  refine bodyPost_ret (v := .tuple #[.agg (evC (R.getD evZ)).toArray, .bool R.isSome]) (results_ce (fn := Tryz.f23) (p := 6) (t := 7) rfl _ _ _ rfl (hres.row _) Tryz.underlying32 rfl info_ev4) rfl ?_
  exact ⟨rfl, hHeld.up⟩

set_option maxRecDepth 100000 in
set_option maxHeartbeats 4000000 in
theorem c_asked4 {V : VQ} {w : World} (h : VW w V) (hf : FewV V) (who o v r n : Int) (hn : 0 ≤ n ∧ n ≤ 5) :
    Calls Tryz.prog 23 #[.agg (vC V).toArray, .int .i64 who, .agg (gdC ⟨4, o, v, r, n⟩).toArray] w (EvPost w (rdOf V.p who ⟨4, o, v, r, n⟩)) := by
  have hX := bl2 w (vC V) 40 (gdC ⟨4, o, v, r, n⟩) 63 evZC 32
  generalize hw1 : ((w.alloc (.cells (vC V).toArray 40)).alloc (.cells (gdC ⟨4, o, v, r, n⟩).toArray 63)).alloc (.cells evZC.toArray 32) = w1 at hX
  have HW := Lib.hid (show ((w.alloc (.cells (vC V).toArray 40)).alloc (.cells (gdC ⟨4, o, v, r, n⟩).toArray 63)).alloc (.cells #[.int .i64 0, .int .i64 0, .int .i64 0, .int .i64 0] 32) = w1 from hw1)
  have HX := Lib.hid hX
  have d0 : w1.cell? ⟨w.heap.size + 1, 0, none⟩ = some (.int .i64 4) := (hX.ka 1 rfl).cell 0 _ rfl
  rw [rdOf_time (g := ⟨4, o, v, r, n⟩) rfl]
  have CM := Lib.hid (fun W (hW : Below w.heap.size w W) => c_rddue (h.below hW) hf.f hf.t who n hn)
  have CW := Lib.hid (fun W => c_woken 6 who n W)
  change Calls _ _ _ _ (EvPost w (if rdDue V.now V.Tq who n = true then some ⟨6, 0, who, n⟩ else none))
  generalize rdDue V.now V.Tq who n = m at CM ⊢
  have CWN := Lib.hid (fun W => c_when m 6 0 who n W)
  have hR : (if m = true then some ⟨6, 0, who, n⟩ else none) = (bif m then some (⟨6, 0, who, n⟩ : EV) else none) := by cases m <;> rfl
  rw [hR]
  generalize (bif m then some (⟨6, 0, who, n⟩ : EV) else none) = R at CWN ⊢
  clear h hf hX hw1 hR hn
  go_enter Tryz.func23, Tryz.ntmps23
  go_upto_region 1 with fail
  rw [HW.out]
  go_wp2_with fail
  refine wp_region_held_drew (S := BL w [(w.heap.size, vC V, 40), (w.heap.size + 1, gdC ⟨4, o, v, r, n⟩, 63)] (w.heap.size + 2) 4 32) (by kernel_rfl) (HX.out.next (up_drewN _ 1)) (fun hHeld => ?_)
  refine wpAnyH_take (i := 0) (oi := ?_) (v := (.agg (vC V).toArray)) ?_ (by kernel_rfl) (by kernel_rfl) (by kernel_rfl) ?_ (Or.inl ⟨?_, ?_⟩) hHeld ?_
  rotate_left 1
  · conv => lhs; simp only [List.getElem?_toArray, List.getElem?_cons_succ, List.getElem?_cons_zero]
  · exact fun _ _ _ h => h
  · rfl
  · intro W hSw
    exact tk_load rfl rfl (load_row (hSw.ka 0 rfl) Tryz.underlying40 rfl info_vw)
  try simp only [Act.put, List.setIfInBounds_toArray, List.set_cons_zero, List.set_cons_succ]
  refine wpAnyH_take (i := 1) (oi := ?_) (v := ?_) ?_ (by kernel_rfl) (by kernel_rfl) (by kernel_rfl) ?_ (Or.inl ⟨?_, ?_⟩) hHeld ?_
  rotate_left 2
  · conv => lhs; simp only [List.getElem?_toArray, List.getElem?_cons_succ, List.getElem?_cons_zero]
  · exact fun _ _ _ h => h
  · rfl
  · intro W hSw
    go_simp
    try with_reducible rfl
  try simp only [Act.put, List.setIfInBounds_toArray, List.set_cons_zero, List.set_cons_succ]
  refine wpAnyH_take (i := 2) (oi := ?_) (v := ?_) ?_ (by kernel_rfl) (by kernel_rfl) (by kernel_rfl) ?_ (Or.inl ⟨?_, ?_⟩) hHeld ?_
  rotate_left 2
  · conv => lhs; simp only [List.getElem?_toArray, List.getElem?_cons_succ, List.getElem?_cons_zero]
  · exact fun _ _ _ h => h
  · rfl
  · intro W hSw
    go_simp
    try with_reducible rfl
  try simp only [Act.put, List.setIfInBounds_toArray, List.set_cons_zero, List.set_cons_succ]
  refine wpAnyH_take (i := 3) (oi := ?_) (v := ?_) ?_ (by kernel_rfl) (by kernel_rfl) (by kernel_rfl) ?_ (Or.inl ⟨?_, ?_⟩) hHeld ?_
  rotate_left 2
  · conv => lhs; simp only [List.getElem?_toArray, List.getElem?_cons_succ, List.getElem?_cons_zero]
  · exact fun _ _ _ h => h
  · rfl
  · intro W hSw
    have f0 := (hSw.ka 1 rfl).cell 4 _ rfl
    go_simp
    try with_reducible rfl
  try simp only [Act.put, List.setIfInBounds_toArray, List.set_cons_zero, List.set_cons_succ]
  refine wpAnyH_take (i := 5) (oi := ?_) (v := ?_) ?_ (by kernel_rfl) (by kernel_rfl) (by kernel_rfl) ?_ (Or.inl ⟨?_, ?_⟩) hHeld ?_
  rotate_left 2
  · conv => lhs; simp only [List.getElem?_toArray, List.getElem?_cons_succ, List.getElem?_cons_zero]
  · exact fun _ _ _ h => h
  · rfl
  · intro W hSw
    go_simp
    try with_reducible rfl
  try simp only [Act.put, List.setIfInBounds_toArray, List.set_cons_zero, List.set_cons_succ]
  refine wpAnyH_take (i := 6) (oi := ?_) (v := ?_) ?_ (by kernel_rfl) (by kernel_rfl) (by kernel_rfl) ?_ (Or.inl ⟨?_, ?_⟩) hHeld ?_
  rotate_left 2
  · conv => lhs; simp only [List.getElem?_toArray, List.getElem?_cons_succ, List.getElem?_cons_zero]
  · exact fun _ _ _ h => h
  · rfl
  · intro W hSw
    go_simp
    try with_reducible rfl
  try simp only [Act.put, List.setIfInBounds_toArray, List.set_cons_zero, List.set_cons_succ]
  refine wpAnyH_take (i := 7) (oi := ?_) (v := ?_) ?_ (by kernel_rfl) (by kernel_rfl) (by kernel_rfl) ?_ (Or.inl ⟨?_, ?_⟩) hHeld ?_
  rotate_left 2
  · conv => lhs; simp only [List.getElem?_toArray, List.getElem?_cons_succ, List.getElem?_cons_zero]
  · exact fun _ _ _ h => h
  · rfl
  · intro W hSw
    have f0 := (hSw.ka 1 rfl).cell 4 _ rfl
    go_simp
    try with_reducible rfl
  try simp only [Act.put, List.setIfInBounds_toArray, List.set_cons_zero, List.set_cons_succ]
  refine wpAnyH_ready (rs := [4]) (by kernel_rfl) (by simp) ?_
  refine AllReadyH.cons (o := ?_) ?_ (fun K hK => ?_) AllReadyH.nil
  rotate_left 1
  · conv => lhs; simp only [List.getElem?_toArray, List.getElem?_cons_succ, List.getElem?_cons_zero]
  go_simp
  refine (CM.out _ hHeld.up).mono ?_
  rintro e wA ⟨rfl, hb⟩
  go_wp2_with fail
  refine hK.out _ _ (hHeld.next hb) (fun hHeld => ?_)
  clear hK K
  try simp only [Act.put, List.setIfInBounds_toArray, List.set_cons_zero, List.set_cons_succ]
  refine wpAnyH_ready (rs := [8]) (by kernel_rfl) (by simp) ?_
  refine AllReadyH.cons (o := ?_) ?_ (fun K hK => ?_) AllReadyH.nil
  rotate_left 1
  · conv => lhs; simp only [List.getElem?_toArray, List.getElem?_cons_succ, List.getElem?_cons_zero]
  go_simp
  refine (CW.out _).mono ?_
  rintro e wA ⟨rfl, hb⟩
  go_wp2_with fail
  refine hK.out _ _ (hHeld.next hb) (fun hHeld => ?_)
  clear hK K
  try simp only [Act.put, List.setIfInBounds_toArray, List.set_cons_zero, List.set_cons_succ]
  refine wpAnyH_ready (rs := [9]) (by kernel_rfl) (by simp) ?_
  refine AllReadyH.cons (o := ?_) ?_ (fun K hK => ?_) AllReadyH.nil
  rotate_left 1
  · conv => lhs; simp only [List.getElem?_toArray, List.getElem?_cons_succ, List.getElem?_cons_zero]
  go_simp
  refine (CWN.out _).mono ?_
  rintro e wA ⟨rfl, hb⟩
  go_wp2_with fail
  refine hK.out _ _ (hHeld.next hb) (fun hHeld => ?_)
  clear hK K
  try simp only [Act.put, List.setIfInBounds_toArray, List.set_cons_zero, List.set_cons_succ]
  refine wpAnyH_take (i := 10) (oi := ?_) (v := ?_) ?_ (by kernel_rfl) (by kernel_rfl) (by kernel_rfl) ?_ (Or.inl ⟨?_, ?_⟩) hHeld ?_
  rotate_left 2
  · conv => lhs; simp only [List.getElem?_toArray, List.getElem?_cons_succ, List.getElem?_cons_zero]
  · exact fun _ _ _ h => h
  · rfl
  · intro W hSw
    go_simp
    try with_reducible rfl
  try simp only [Act.put, List.setIfInBounds_toArray, List.set_cons_zero, List.set_cons_succ]
  refine wpAnyH_take (i := 11) (oi := ?_) (v := ?_) ?_ (by kernel_rfl) (by kernel_rfl) (by kernel_rfl) ?_ (Or.inl ⟨?_, ?_⟩) hHeld ?_
  rotate_left 2
  · conv => lhs; simp only [List.getElem?_toArray, List.getElem?_cons_succ, List.getElem?_cons_zero]
  · exact fun _ _ _ h => h
  · rfl
  · intro W hSw
    go_simp
    try with_reducible rfl
  try simp only [Act.put, List.setIfInBounds_toArray, List.set_cons_zero, List.set_cons_succ]
  obtain ⟨ds, hds, hres⟩ := hHeld.res
  refine wpAnyH_ready (rs := [12]) (by kernel_rfl) (by simp) ?_
  refine AllReadyH.cons (o := ?_) ?_ (fun K hK => ?_) AllReadyH.nil
  rotate_left 1
  · conv => lhs; simp only [List.getElem?_toArray, List.getElem?_cons_succ, List.getElem?_cons_zero]
  rw [if_pos (by rfl)]
  refine wp_store_row 32 (.tmp 6) (.tmp 51) rfl (w.heap.size + 2) (evC (R.getD evZ)).toArray rfl rfl 32 ds.toArray hres info_ev4 (by rw [List.size_toArray, List.size_toArray, hds]; rfl) (al_one (evC_one _)) ?_
  refine hK.out _ _ (hHeld.put (evC (R.getD evZ)) rfl) (fun hHeld => ?_)
  clear hK K
  refine wpAnyH_take (i := 13) (oi := ?_) (v := ?_) ?_ (by kernel_rfl) (by kernel_rfl) (by kernel_rfl) ?_ (Or.inl ⟨?_, ?_⟩) hHeld ?_
  rotate_left 2
  · conv => lhs; simp only [List.getElem?_toArray, List.getElem?_cons_succ, List.getElem?_cons_zero]
  · exact fun _ _ _ h => h
  · rfl
  · intro W hSw
    go_simp
    try with_reducible rfl
  try simp only [Act.put, List.setIfInBounds_toArray, List.set_cons_zero, List.set_cons_succ]
  refine wpAnyH_done (by kernel_rfl) ?_ _
  go_wp2_with fail
  refine bodyPost_ret (v := .tuple #[.agg (evC (R.getD evZ)).toArray, .bool R.isSome]) (results_ce (fn := Tryz.f23) (p := 6) (t := 7) rfl _ _ _ rfl (hres.row _) Tryz.underlying32 rfl info_ev4) rfl ?_
  exact ⟨rfl, hHeld.up⟩

set_option maxRecDepth 100000 in
set_option maxHeartbeats 4000000 in
theorem c_asked6 {V : VQ} {w : World} (h : VW w V) (hf : FewV V) (who o v r n : Int) :
    Calls Tryz.prog 23 #[.agg (vC V).toArray, .int .i64 who, .agg (gdC ⟨6, o, v, r, n⟩).toArray] w (EvPost w (rdOf V.p who ⟨6, o, v, r, n⟩)) := by
  have hX := bl2 w (vC V) 40 (gdC ⟨6, o, v, r, n⟩) 63 evZC 32
  generalize hw1 : ((w.alloc (.cells (vC V).toArray 40)).alloc (.cells (gdC ⟨6, o, v, r, n⟩).toArray 63)).alloc (.cells evZC.toArray 32) = w1 at hX
  have HW := Lib.hid (show ((w.alloc (.cells (vC V).toArray 40)).alloc (.cells (gdC ⟨6, o, v, r, n⟩).toArray 63)).alloc (.cells #[.int .i64 0, .int .i64 0, .int .i64 0, .int .i64 0] 32) = w1 from hw1)
  have HX := Lib.hid hX
  have d0 : w1.cell? ⟨w.heap.size + 1, 0, none⟩ = some (.int .i64 6) := (hX.ka 1 rfl).cell 0 _ rfl
  rw [rdOf_join (g := ⟨6, o, v, r, n⟩) rfl]
  have CM := Lib.hid (fun W (hW : Below w.heap.size w W) => c_contains (c := V.Lc) (h.below hW).r.lv rfl (by have := hf.f.lv; omega) v)
  have CW := Lib.hid (fun W => c_woken 7 who n W)
  change Calls _ _ _ _ (EvPost w (if decide (v ∈ V.Lq) = true then none else some ⟨7, 0, who, n⟩))
  generalize decide (v ∈ V.Lq) = m at CM ⊢
  have CWN := Lib.hid (fun W => c_when (!m) 7 0 who n W)
  have hR : (if m = true then none else some ⟨7, 0, who, n⟩) = (bif !m then some (⟨7, 0, who, n⟩ : EV) else none) := by cases m <;> rfl
  rw [hR]
  generalize (bif !m then some (⟨7, 0, who, n⟩ : EV) else none) = R at CWN ⊢
  clear h hf hX hw1 hR
  go_enter Tryz.func23, Tryz.ntmps23
  go_upto_region 1 with fail
  rw [HW.out]
  go_wp2_with fail
  refine wp_region_held_drew (S := BL w [(w.heap.size, vC V, 40), (w.heap.size + 1, gdC ⟨6, o, v, r, n⟩, 63)] (w.heap.size + 2) 4 32) (by kernel_rfl) (HX.out.next (up_drewN _ 1)) (fun hHeld => ?_)
  refine wpAnyH_take (i := 0) (oi := ?_) (v := ?_) ?_ (by kernel_rfl) (by kernel_rfl) (by kernel_rfl) ?_ (Or.inl ⟨?_, ?_⟩) hHeld ?_
  rotate_left 2
  · conv => lhs; simp only [List.getElem?_toArray, List.getElem?_cons_succ, List.getElem?_cons_zero]
  · exact fun _ _ _ h => h
  · rfl
  · intro W hSw
    go_simp
    try with_reducible rfl
  try simp only [Act.put, List.setIfInBounds_toArray, List.set_cons_zero, List.set_cons_succ]
  refine wpAnyH_take (i := 1) (oi := ?_) (v := ?_) ?_ (by kernel_rfl) (by kernel_rfl) (by kernel_rfl) ?_ (Or.inl ⟨?_, ?_⟩) hHeld ?_
  rotate_left 2
  · conv => lhs; simp only [List.getElem?_toArray, List.getElem?_cons_succ, List.getElem?_cons_zero]
  · exact fun _ _ _ h => h
  · rfl
  · intro W hSw
    have f0 := (hSw.ka 0 rfl).cell 5 _ rfl
    go_simp
    try with_reducible rfl
  try simp only [Act.put, List.setIfInBounds_toArray, List.set_cons_zero, List.set_cons_succ]
  refine wpAnyH_take (i := 2) (oi := ?_) (v := ?_) ?_ (by kernel_rfl) (by kernel_rfl) (by kernel_rfl) ?_ (Or.inl ⟨?_, ?_⟩) hHeld ?_
  rotate_left 2
  · conv => lhs; simp only [List.getElem?_toArray, List.getElem?_cons_succ, List.getElem?_cons_zero]
  · exact fun _ _ _ h => h
  · rfl
  · intro W hSw
    go_simp
    try with_reducible rfl
  try simp only [Act.put, List.setIfInBounds_toArray, List.set_cons_zero, List.set_cons_succ]
  refine wpAnyH_take (i := 3) (oi := ?_) (v := ?_) ?_ (by kernel_rfl) (by kernel_rfl) (by kernel_rfl) ?_ (Or.inl ⟨?_, ?_⟩) hHeld ?_
  rotate_left 2
  · conv => lhs; simp only [List.getElem?_toArray, List.getElem?_cons_succ, List.getElem?_cons_zero]
  · exact fun _ _ _ h => h
  · rfl
  · intro W hSw
    have f0 := (hSw.ka 1 rfl).cell 2 _ rfl
    go_simp
    try with_reducible rfl
  try simp only [Act.put, List.setIfInBounds_toArray, List.set_cons_zero, List.set_cons_succ]
  refine wpAnyH_take (i := 6) (oi := ?_) (v := ?_) ?_ (by kernel_rfl) (by kernel_rfl) (by kernel_rfl) ?_ (Or.inl ⟨?_, ?_⟩) hHeld ?_
  rotate_left 2
  · conv => lhs; simp only [List.getElem?_toArray, List.getElem?_cons_succ, List.getElem?_cons_zero]
  · exact fun _ _ _ h => h
  · rfl
  · intro W hSw
    go_simp
    try with_reducible rfl
  try simp only [Act.put, List.setIfInBounds_toArray, List.set_cons_zero, List.set_cons_succ]
  refine wpAnyH_take (i := 7) (oi := ?_) (v := ?_) ?_ (by kernel_rfl) (by kernel_rfl) (by kernel_rfl) ?_ (Or.inl ⟨?_, ?_⟩) hHeld ?_
  rotate_left 2
  · conv => lhs; simp only [List.getElem?_toArray, List.getElem?_cons_succ, List.getElem?_cons_zero]
  · exact fun _ _ _ h => h
  · rfl
  · intro W hSw
    go_simp
    try with_reducible rfl
  try simp only [Act.put, List.setIfInBounds_toArray, List.set_cons_zero, List.set_cons_succ]
  refine wpAnyH_take (i := 8) (oi := ?_) (v := ?_) ?_ (by kernel_rfl) (by kernel_rfl) (by kernel_rfl) ?_ (Or.inl ⟨?_, ?_⟩) hHeld ?_
  rotate_left 2
  · conv => lhs; simp only [List.getElem?_toArray, List.getElem?_cons_succ, List.getElem?_cons_zero]
  · exact fun _ _ _ h => h
  · rfl
  · intro W hSw
    have f0 := (hSw.ka 1 rfl).cell 4 _ rfl
    go_simp
    try with_reducible rfl
  try simp only [Act.put, List.setIfInBounds_toArray, List.set_cons_zero, List.set_cons_succ]
  refine wpAnyH_ready (rs := [4]) (by kernel_rfl) (by simp) ?_
  refine AllReadyH.cons (o := ?_) ?_ (fun K hK => ?_) AllReadyH.nil
  rotate_left 1
  · conv => lhs; simp only [List.getElem?_toArray, List.getElem?_cons_succ, List.getElem?_cons_zero]
  go_simp
  refine (CM.out _ hHeld.up).mono ?_
  rintro e wA ⟨rfl, rfl⟩
  go_wp2_with fail
  refine hK.out _ _ (hHeld) (fun hHeld => ?_)
  clear hK K
  try simp only [Act.put, List.setIfInBounds_toArray, List.set_cons_zero, List.set_cons_succ]
  refine wpAnyH_take (i := 5) (oi := ?_) (v := ?_) ?_ (by kernel_rfl) (by kernel_rfl) (by kernel_rfl) ?_ (Or.inl ⟨?_, ?_⟩) hHeld ?_
  rotate_left 2
  · conv => lhs; simp only [List.getElem?_toArray, List.getElem?_cons_succ, List.getElem?_cons_zero]
  · exact fun _ _ _ h => h
  · rfl
  · intro W hSw
    go_simp
    try with_reducible rfl
  try simp only [Act.put, List.setIfInBounds_toArray, List.set_cons_zero, List.set_cons_succ]
  refine wpAnyH_ready (rs := [9]) (by kernel_rfl) (by simp) ?_
  refine AllReadyH.cons (o := ?_) ?_ (fun K hK => ?_) AllReadyH.nil
  rotate_left 1
  · conv => lhs; simp only [List.getElem?_toArray, List.getElem?_cons_succ, List.getElem?_cons_zero]
  go_simp
  refine (CW.out _).mono ?_
  rintro e wA ⟨rfl, hb⟩
  go_wp2_with fail
  refine hK.out _ _ (hHeld.next hb) (fun hHeld => ?_)
  clear hK K
  try simp only [Act.put, List.setIfInBounds_toArray, List.set_cons_zero, List.set_cons_succ]
  refine wpAnyH_ready (rs := [10]) (by kernel_rfl) (by simp) ?_
  refine AllReadyH.cons (o := ?_) ?_ (fun K hK => ?_) AllReadyH.nil
  rotate_left 1
  · conv => lhs; simp only [List.getElem?_toArray, List.getElem?_cons_succ, List.getElem?_cons_zero]
  go_simp
  refine (CWN.out _).mono ?_
  rintro e wA ⟨rfl, hb⟩
  go_wp2_with fail
  refine hK.out _ _ (hHeld.next hb) (fun hHeld => ?_)
  clear hK K
  try simp only [Act.put, List.setIfInBounds_toArray, List.set_cons_zero, List.set_cons_succ]
  refine wpAnyH_take (i := 11) (oi := ?_) (v := ?_) ?_ (by kernel_rfl) (by kernel_rfl) (by kernel_rfl) ?_ (Or.inl ⟨?_, ?_⟩) hHeld ?_
  rotate_left 2
  · conv => lhs; simp only [List.getElem?_toArray, List.getElem?_cons_succ, List.getElem?_cons_zero]
  · exact fun _ _ _ h => h
  · rfl
  · intro W hSw
    go_simp
    try with_reducible rfl
  try simp only [Act.put, List.setIfInBounds_toArray, List.set_cons_zero, List.set_cons_succ]
  refine wpAnyH_take (i := 12) (oi := ?_) (v := ?_) ?_ (by kernel_rfl) (by kernel_rfl) (by kernel_rfl) ?_ (Or.inl ⟨?_, ?_⟩) hHeld ?_
  rotate_left 2
  · conv => lhs; simp only [List.getElem?_toArray, List.getElem?_cons_succ, List.getElem?_cons_zero]
  · exact fun _ _ _ h => h
  · rfl
  · intro W hSw
    go_simp
    try with_reducible rfl
  try simp only [Act.put, List.setIfInBounds_toArray, List.set_cons_zero, List.set_cons_succ]
  obtain ⟨ds, hds, hres⟩ := hHeld.res
  refine wpAnyH_ready (rs := [13]) (by kernel_rfl) (by simp) ?_
  refine AllReadyH.cons (o := ?_) ?_ (fun K hK => ?_) AllReadyH.nil
  rotate_left 1
  · conv => lhs; simp only [List.getElem?_toArray, List.getElem?_cons_succ, List.getElem?_cons_zero]
  rw [if_pos (by rfl)]
  refine wp_store_row 32 (.tmp 6) (.tmp 66) rfl (w.heap.size + 2) (evC (R.getD evZ)).toArray rfl rfl 32 ds.toArray hres info_ev4 (by rw [List.size_toArray, List.size_toArray, hds]; rfl) (al_one (evC_one _)) ?_
  refine hK.out _ _ (hHeld.put (evC (R.getD evZ)) rfl) (fun hHeld => ?_)
  clear hK K
  refine wpAnyH_take (i := 14) (oi := ?_) (v := ?_) ?_ (by kernel_rfl) (by kernel_rfl) (by kernel_rfl) ?_ (Or.inl ⟨?_, ?_⟩) hHeld ?_
  rotate_left 2
  · conv => lhs; simp only [List.getElem?_toArray, List.getElem?_cons_succ, List.getElem?_cons_zero]
  · exact fun _ _ _ h => h
  · rfl
  · intro W hSw
    go_simp
    try with_reducible rfl
  try simp only [Act.put, List.setIfInBounds_toArray, List.set_cons_zero, List.set_cons_succ]
  refine wpAnyH_done (by kernel_rfl) ?_ _
  go_wp2_with fail
  refine bodyPost_ret (v := .tuple #[.agg (evC (R.getD evZ)).toArray, .bool R.isSome]) (results_ce (fn := Tryz.f23) (p := 6) (t := 7) rfl _ _ _ rfl (hres.row _) Tryz.underlying32 rfl info_ev4) rfl ?_
  exact ⟨rfl, hHeld.up⟩

set_option maxRecDepth 100000 in
set_option maxHeartbeats 4000000 in
theorem c_asked5 {V : VQ} {w : World} (who o v r n : Int) :
    Calls Tryz.prog 23 #[.agg (vC V).toArray, .int .i64 who, .agg (gdC ⟨5, o, v, r, n⟩).toArray] w (EvPost w (rdOf V.p who ⟨5, o, v, r, n⟩)) := by
  have hX := bl2 w (vC V) 40 (gdC ⟨5, o, v, r, n⟩) 63 evZC 32
  generalize hw1 : ((w.alloc (.cells (vC V).toArray 40)).alloc (.cells (gdC ⟨5, o, v, r, n⟩).toArray 63)).alloc (.cells evZC.toArray 32) = w1 at hX
  have HW := Lib.hid (show ((w.alloc (.cells (vC V).toArray 40)).alloc (.cells (gdC ⟨5, o, v, r, n⟩).toArray 63)).alloc (.cells #[.int .i64 0, .int .i64 0, .int .i64 0, .int .i64 0] 32) = w1 from hw1)
  have HX := Lib.hid hX
  have d0 : w1.cell? ⟨w.heap.size + 1, 0, none⟩ = some (.int .i64 5) := (hX.ka 1 rfl).cell 0 _ rfl
  rw [rdOf_skip (g := ⟨5, o, v, r, n⟩) rfl]
  have d4 : w1.cell? ⟨w.heap.size + 1, 4, none⟩ = some (.int .i64 n) := (hX.ka 1 rfl).cell 4 _ rfl
  have CW := Lib.hid (fun W => c_woken 8 who n W)
  clear hX hw1
  go_enter Tryz.func23, Tryz.ntmps23
  go_upto_region 1 with fail
  rw [HW.out]
  go_wp2_with fail
  refine (CW.out _).mono ?_; rintro e w2 ⟨rfl, hb⟩
  have HE := Lib.hid (HX.out.next hb)
  clear hb d0 d4
  obtain ⟨ds, hds, hres⟩ := HE.out.res
  have HR := Lib.hid hres
  have HD := Lib.hid (show ds.length = 4 from hds)
  clear hds hres
  go_wp2_with (refine str (b := w.heap.size + 2) (t := 32) (cs := evC ⟨8, 0, who, n⟩) (ds := ds) (.tmp 6) (.tmp 73) rfl rfl rfl rfl info_ev4 HD.out (evC_one _) ?_ ?_; (· exact HR.out))
  refine bodyPost_ret (v := .tuple #[.agg (evC ⟨8, 0, who, n⟩).toArray, .bool true]) (results_ce (fn := Tryz.f23) (p := 6) (t := 7) rfl _ _ _ rfl (HR.out.row _) Tryz.underlying32 rfl info_ev4) rfl ?_
  exact ⟨rfl, below_setRow HE.out.up HE.out.lo _⟩

set_option maxRecDepth 100000 in
set_option maxHeartbeats 4000000 in
theorem c_asked0 {V : VQ} {w : World} (who k o v r n : Int) (hk : k < 1 ∨ 6 < k) :
    Calls Tryz.prog 23 #[.agg (vC V).toArray, .int .i64 who, .agg (gdC ⟨k, o, v, r, n⟩).toArray] w (EvPost w (rdOf V.p who ⟨k, o, v, r, n⟩)) := by
  have hX := bl2 w (vC V) 40 (gdC ⟨k, o, v, r, n⟩) 63 evZC 32
  generalize hw1 : ((w.alloc (.cells (vC V).toArray 40)).alloc (.cells (gdC ⟨k, o, v, r, n⟩).toArray 63)).alloc (.cells evZC.toArray 32) = w1 at hX
  have HW := Lib.hid (show ((w.alloc (.cells (vC V).toArray 40)).alloc (.cells (gdC ⟨k, o, v, r, n⟩).toArray 63)).alloc (.cells #[.int .i64 0, .int .i64 0, .int .i64 0, .int .i64 0] 32) = w1 from hw1)
  have HX := Lib.hid hX
  have d0 : w1.cell? ⟨w.heap.size + 1, 0, none⟩ = some (.int .i64 k) := (hX.ka 1 rfl).cell 0 _ rfl
  rw [rdOf_no (g := ⟨k, o, v, r, n⟩) hk]
  have t1 : (k == 1) = false := beq_eq_false_iff_ne.2 (by omega)
  have t2 : (k == 2) = false := beq_eq_false_iff_ne.2 (by omega)
  have t3 : (k == 3) = false := beq_eq_false_iff_ne.2 (by omega)
  have t4 : (k == 4) = false := beq_eq_false_iff_ne.2 (by omega)
  have t5 : (k == 5) = false := beq_eq_false_iff_ne.2 (by omega)
  have t6 : (k == 6) = false := beq_eq_false_iff_ne.2 (by omega)
  have HE := Lib.hid hX
  clear hX hw1 hk
  go_enter Tryz.func23, Tryz.ntmps23
  go_upto_region 1 with fail
  rw [HW.out]
  obtain ⟨ds, hds, hres⟩ := HE.out.res
  have HR := Lib.hid hres
  have HD := Lib.hid (show ds.length = 4 from hds)
  clear hds hres
  go_wp2_with (refine str (b := w.heap.size + 2) (t := 32) (cs := evC evZ) (ds := ds) (.tmp 6) (.tmp 74) rfl rfl rfl rfl info_ev4 HD.out (evC_one _) ?_ ?_; (· exact HR.out))
  refine bodyPost_ret (v := .tuple #[.agg (evC evZ).toArray, .bool false]) (results_ce (fn := Tryz.f23) (p := 6) (t := 7) rfl _ _ _ rfl (HR.out.row _) Tryz.underlying32 rfl info_ev4) rfl ?_
  exact ⟨rfl, below_setRow HE.out.up HE.out.lo _⟩

theorem c_asked {V : VQ} {w : World} (h : VW w V) (hf : FewV V) (hT : TabD w) (who : Int) (g : GD) (hn : 0 ≤ g.n ∧ g.n ≤ 5) :
    Calls Tryz.prog 23 #[.agg (vC V).toArray, .int .i64 who, .agg (gdC g).toArray] w (EvPost w (rdOf V.p who g)) := by
  obtain ⟨k, o, v, r, n⟩ := g
  by_cases h1 : k = 1
  · subst h1; exact c_asked1 h hf who o v r n
  by_cases h2 : k = 2
  · subst h2; exact c_asked2 h hf who o v r n
  by_cases h3 : k = 3
  · subst h3; exact c_asked3 h hf hT who o v r n
  by_cases h4 : k = 4
  · subst h4; exact c_asked4 h hf who o v r n hn
  by_cases h5 : k = 5
  · subst h5; exact c_asked5 who o v r n
  by_cases h6 : k = 6
  · subst h6; exact c_asked6 h hf who o v r n
  exact c_asked0 who k o v r n (by omega)
end Go.Proofs.YtdiiilnebepfdaaGreatDoor

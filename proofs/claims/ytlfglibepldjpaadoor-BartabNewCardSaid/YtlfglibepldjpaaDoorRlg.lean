/- The law's To, Plain, From and Same (layer 21). -/
import Derived.Test.YtlfglibepldjpaaDoorRle
import Derived.Test.YtlfglibepldjpaaDoorRlf
import Derived.Test.YtlfglibepldjpaaDoorRx
namespace Go.Proofs.YtlfglibepldjpaaDoor
open Go.RowKit

/-- What a call gives that answers a document's roll. -/
def DLPost (w : World) (r : RL) (e : Ending) (w' : World) : Prop :=
  ∃ M, e = .returned (.agg (dlC r M).toArray) ∧ DW w' tt r M ∧ Below w.heap.size w w'
/-- The same, of new lists. -/
def DLPostN (w : World) (r : RL) (e : Ending) (w' : World) : Prop :=
  ∃ M, e = .returned (.agg (dlC r M).toArray) ∧ DW w' (w.heap.size ≤ ·) r M ∧ Below w.heap.size w w'
theorem DLPostN.weak {w : World} {r : RL} {e : Ending} {w' : World} (h : DLPostN w r e w') : DLPost w r e w' := by
  obtain ⟨M, h1, h2, h3⟩ := h
  exact ⟨M, h1, h2.lo (fun _ _ => trivial), h3⟩
theorem dl_fin {w wc : World} (up : Below w.heap.size w wc) {r : RL} {A B : Option Addr} {n m : Nat} (hA : RD wc (n ≤ ·) 1 A r.m.ints.length (r.m.ints.map (Value.int .i64))) (hB : RD wc (m ≤ ·) 1 B r.a.ints.length (r.a.ints.map (Value.int .i64)))
    (hn : w.heap.size + 2 ≤ n) (hm : w.heap.size + 2 ≤ m) (c d : Nat) (ds : Array Value) :
    DLPostN w r (.returned (.agg (dlC r ⟨A, c, B, d⟩).toArray)) (wc.setRow (w.heap.size + 1) ds) :=
  have ho : Only (· = w.heap.size + 1) wc (wc.setRow (w.heap.size + 1) ds) := (Only.refl (· = w.heap.size + 1) wc).row rfl ds
  ⟨⟨A, c, B, d⟩, rfl, ⟨(hA.only ho (fun k hk hl => by omega)).lo (fun b hb => by omega), (hB.only ho (fun k hk hl => by omega)).lo (fun b hb => by omega)⟩, up.trans (ho.toBelow up.size (fun k hk => by omega))⟩

set_option maxRecDepth 100000 in
set_option maxHeartbeats 4000000 in
theorem c_to21 {pl : Nat → Prop} {r : RL} {M : DM} {w : World} (h : DW w pl r M) :
    Calls Tryd.prog 69 #[.agg (dlC r M).toArray] w fun e w' => e = .returned (.agg (rlC r).toArray) ∧ Below w.heap.size w w' := by
  have hX := BS.of (bx2 w (dlC r M) 71 rlZ 64)
  generalize hw1 : (w.alloc (.cells (dlC r M).toArray 71)).alloc (.cells #[.int .u64 0, .int .u64 0, .int .u64 0, .int .u64 0, .int .u64 0, .int .u64 0, .int .u64 0, .int .u64 0] 64) = w1 at hX
  have HW := Lib.hid hw1
  have HX := Lib.hid hX
  have C1 := Lib.hid (fun W (hW : Below w.heap.size w W) => c_wordsS (c := M.c) (h.m.below hW))
  have C2 := Lib.hid (fun W (hW : Below w.heap.size w W) => c_wordsS (c := M.d) (h.a.below hW))
  clear h hX hw1
  go_enter Tryd.func69, Tryd.ntmps69
  go_upto_region 1 with fail
  rw [HW.out]
  refine wp_region_held_drew (S := BS w (dlC r M) 71 64 8) (by kernel_rfl) (HX.out.next (up_drewN _ 1)) (fun hHeld => ?_)
  refine wpAnyH_take (i := 0) (oi := ?_) (v := ?_) ?_ (by kernel_rfl) (by kernel_rfl) (by kernel_rfl) ?_ (Or.inl ⟨?_, ?_⟩) hHeld ?_
  rotate_left 2
  · conv => lhs; simp only [List.getElem?_toArray, List.getElem?_cons_succ, List.getElem?_cons_zero]
  · exact fun _ _ _ h => h
  · rfl
  · intro W hSw
    go_simp
    try with_reducible rfl
  try simp only [Act.put, List.setIfInBounds_toArray, List.set_cons_zero, List.set_cons_succ]
  refine wpAnyH_take (i := 1) (oi := ?_) (v := ?_) ?_ (by kernel_rfl) (by kernel_rfl) (by kernel_rfl) ?_ (Or.inl ⟨?_, ?_⟩) hHeld ?_
  rotate_left 2
  · conv => lhs; simp only [List.getElem?_toArray, List.getElem?_cons_succ, List.getElem?_cons_zero]
  · exact fun _ _ _ h => h
  · rfl
  · intro W hSw
    obtain ⟨m0, a0⟩ := hSw.box.dl
    go_simp
    try with_reducible rfl
  try simp only [Act.put, List.setIfInBounds_toArray, List.set_cons_zero, List.set_cons_succ]
  refine wpAnyH_take (i := 3) (oi := ?_) (v := ?_) ?_ (by kernel_rfl) (by kernel_rfl) (by kernel_rfl) ?_ (Or.inl ⟨?_, ?_⟩) hHeld ?_
  rotate_left 2
  · conv => lhs; simp only [List.getElem?_toArray, List.getElem?_cons_succ, List.getElem?_cons_zero]
  · exact fun _ _ _ h => h
  · rfl
  · intro W hSw
    go_simp
    try with_reducible rfl
  try simp only [Act.put, List.setIfInBounds_toArray, List.set_cons_zero, List.set_cons_succ]
  refine wpAnyH_take (i := 4) (oi := ?_) (v := ?_) ?_ (by kernel_rfl) (by kernel_rfl) (by kernel_rfl) ?_ (Or.inl ⟨?_, ?_⟩) hHeld ?_
  rotate_left 2
  · conv => lhs; simp only [List.getElem?_toArray, List.getElem?_cons_succ, List.getElem?_cons_zero]
  · exact fun _ _ _ h => h
  · rfl
  · intro W hSw
    obtain ⟨m0, a0⟩ := hSw.box.dl
    go_simp
    try with_reducible rfl
  try simp only [Act.put, List.setIfInBounds_toArray, List.set_cons_zero, List.set_cons_succ]
  refine wpAnyH_ready (rs := [2]) (by kernel_rfl) (by simp) ?_
  refine AllReadyH.cons (o := ?_) ?_ (fun K hK => ?_) AllReadyH.nil
  rotate_left 1
  · conv => lhs; simp only [List.getElem?_toArray, List.getElem?_cons_succ, List.getElem?_cons_zero]
  go_simp
  refine (C1.out _ hHeld.up).mono ?_
  rintro e wA ⟨rfl, hb⟩
  go_wp2_with fail
  refine hK.out _ _ (hHeld.next hb) (fun hHeld => ?_)
  clear hK K
  try simp only [Act.put, List.setIfInBounds_toArray, List.set_cons_zero, List.set_cons_succ]
  refine wpAnyH_ready (rs := [5]) (by kernel_rfl) (by simp) ?_
  refine AllReadyH.cons (o := ?_) ?_ (fun K hK => ?_) AllReadyH.nil
  rotate_left 1
  · conv => lhs; simp only [List.getElem?_toArray, List.getElem?_cons_succ, List.getElem?_cons_zero]
  go_simp
  refine (C2.out _ hHeld.up).mono ?_
  rintro e wA ⟨rfl, hb⟩
  go_wp2_with fail
  refine hK.out _ _ (hHeld.next hb) (fun hHeld => ?_)
  clear hK K
  try simp only [Act.put, List.setIfInBounds_toArray, List.set_cons_zero, List.set_cons_succ]
  refine wpAnyH_take (i := 6) (oi := ?_) (v := ?_) ?_ (by kernel_rfl) (by kernel_rfl) (by kernel_rfl) ?_ (Or.inl ⟨?_, ?_⟩) hHeld ?_
  rotate_left 2
  · conv => lhs; simp only [List.getElem?_toArray, List.getElem?_cons_succ, List.getElem?_cons_zero]
  · exact fun _ _ _ h => h
  · rfl
  · intro W hSw
    go_simp
    try with_reducible rfl
  try simp only [Act.put, List.setIfInBounds_toArray, List.set_cons_zero, List.set_cons_succ]
  obtain ⟨ds, hds, hres⟩ := hHeld.res
  refine wpAnyH_ready (rs := [7]) (by kernel_rfl) (by simp) ?_
  refine AllReadyH.cons (o := ?_) ?_ (fun K hK => ?_) AllReadyH.nil
  rotate_left 1
  · conv => lhs; simp only [List.getElem?_toArray, List.getElem?_cons_succ, List.getElem?_cons_zero]
  rw [if_pos (by rfl)]
  refine wp_store_row 64 (.tmp 2) (.tmp 9) rfl (w.heap.size + 1) (rlC r).toArray rfl rfl 64 ds.toArray hres info_roll (by rw [List.size_toArray, List.size_toArray, hds]; rfl) (al_one rlC_one) ?_
  refine hK.out _ _ (hHeld.put (rlC r) rfl) (fun hHeld => ?_)
  clear hK K
  refine wpAnyH_done (by kernel_rfl) ?_ _
  go_wp2_with fail
  refine bodyPost_ret (v := .agg (rlC r).toArray) (results_c (fn := Tryd.f69) (p := 2) rfl _ _ _ rfl (hres.row _) Tryd.underlying64 rfl info_roll) rfl ?_
  exact ⟨rfl, hHeld.up⟩

set_option maxRecDepth 100000 in
set_option maxHeartbeats 4000000 in
theorem c_plain21N {w : World} {pl pl' : Nat → Prop} {A B : Option Addr} {c d : Nat} {L N : List Int} (hA : RD w pl 1 A L.length (L.map (Value.int .i64))) (hB : RD w pl' 1 B N.length (N.map (Value.int .i64))) (hL : L.length ≤ 1000) (hN : N.length ≤ 1000) :
    Calls Tryd.prog 68 #[.agg #[.slice A L.length c, .slice B N.length d]] w (DLPostN w ⟨ofS L, ofS N⟩) := by
  have hX := BS.of (bx2 w [.slice A L.length c, .slice B N.length d] 71 dlZ 71)
  generalize hw1 : (w.alloc (.cells [.slice A L.length c, .slice B N.length d].toArray 71)).alloc (.cells #[.slice none 0 0, .slice none 0 0] 71) = w1 at hX
  have HW := Lib.hid hw1
  have HX := Lib.hid hX
  have C1 := Lib.hid (fun W (hW : Below w.heap.size w W) => c_rofS (c := c) (hA.below hW) hL)
  have C2 := Lib.hid (fun W (hW : Below w.heap.size w W) => c_rofS (c := d) (hB.below hW) hN)
  generalize ofS L = S1 at C1 ⊢
  generalize ofS N = S2 at C2 ⊢
  clear hA hB hX hw1
  go_enter Tryd.func68, Tryd.ntmps68
  go_upto_region 1 with fail
  rw [show w.alloc (.cells #[.slice A L.length c, .slice B N.length d] 71) = w.alloc (.cells [.slice A L.length c, .slice B N.length d].toArray 71) from rfl, HW.out]
  refine wp_region_held_drew (S := BS w [.slice A L.length c, .slice B N.length d] 71 71 2) (by kernel_rfl) (HX.out.next (up_drewN _ 1)) (fun hHeld => ?_)
  refine wpAnyH_take (i := 0) (oi := ?_) (v := ?_) ?_ (by kernel_rfl) (by kernel_rfl) (by kernel_rfl) ?_ (Or.inl ⟨?_, ?_⟩) hHeld ?_
  rotate_left 2
  · conv => lhs; simp only [List.getElem?_toArray, List.getElem?_cons_succ, List.getElem?_cons_zero]
  · exact fun _ _ _ h => h
  · rfl
  · intro W hSw
    go_simp
    try with_reducible rfl
  try simp only [Act.put, List.setIfInBounds_toArray, List.set_cons_zero, List.set_cons_succ]
  refine wpAnyH_take (i := 1) (oi := ?_) (v := ?_) ?_ (by kernel_rfl) (by kernel_rfl) (by kernel_rfl) ?_ (Or.inl ⟨?_, ?_⟩) hHeld ?_
  rotate_left 2
  · conv => lhs; simp only [List.getElem?_toArray, List.getElem?_cons_succ, List.getElem?_cons_zero]
  · exact fun _ _ _ h => h
  · rfl
  · intro W hSw
    have m0 := hSw.box.cell 0 _ rfl
    have a0 := hSw.box.cell 1 _ rfl
    go_simp
    try with_reducible rfl
  try simp only [Act.put, List.setIfInBounds_toArray, List.set_cons_zero, List.set_cons_succ]
  refine wpAnyH_take (i := 3) (oi := ?_) (v := ?_) ?_ (by kernel_rfl) (by kernel_rfl) (by kernel_rfl) ?_ (Or.inl ⟨?_, ?_⟩) hHeld ?_
  rotate_left 2
  · conv => lhs; simp only [List.getElem?_toArray, List.getElem?_cons_succ, List.getElem?_cons_zero]
  · exact fun _ _ _ h => h
  · rfl
  · intro W hSw
    go_simp
    try with_reducible rfl
  try simp only [Act.put, List.setIfInBounds_toArray, List.set_cons_zero, List.set_cons_succ]
  refine wpAnyH_take (i := 4) (oi := ?_) (v := ?_) ?_ (by kernel_rfl) (by kernel_rfl) (by kernel_rfl) ?_ (Or.inl ⟨?_, ?_⟩) hHeld ?_
  rotate_left 2
  · conv => lhs; simp only [List.getElem?_toArray, List.getElem?_cons_succ, List.getElem?_cons_zero]
  · exact fun _ _ _ h => h
  · rfl
  · intro W hSw
    have m0 := hSw.box.cell 0 _ rfl
    have a0 := hSw.box.cell 1 _ rfl
    go_simp
    try with_reducible rfl
  try simp only [Act.put, List.setIfInBounds_toArray, List.set_cons_zero, List.set_cons_succ]
  refine wpAnyH_ready (rs := [2]) (by kernel_rfl) (by simp) ?_
  refine AllReadyH.cons (o := ?_) ?_ (fun K hK => ?_) AllReadyH.nil
  rotate_left 1
  · conv => lhs; simp only [List.getElem?_toArray, List.getElem?_cons_succ, List.getElem?_cons_zero]
  go_simp
  refine (C1.out _ hHeld.up).mono ?_
  rintro e wA ⟨A1, c1, rfl, -, -, hr, hb⟩
  try have HLA := Lib.hid (HLA.out.below hb)
  have HG1 := Lib.hid hHeld.big
  have HLM := Lib.hid hr
  clear hr
  go_wp2_with fail
  refine hK.out _ _ (hHeld.next hb) (fun hHeld => ?_)
  clear hK K
  try simp only [Act.put, List.setIfInBounds_toArray, List.set_cons_zero, List.set_cons_succ]
  refine wpAnyH_ready (rs := [5]) (by kernel_rfl) (by simp) ?_
  refine AllReadyH.cons (o := ?_) ?_ (fun K hK => ?_) AllReadyH.nil
  rotate_left 1
  · conv => lhs; simp only [List.getElem?_toArray, List.getElem?_cons_succ, List.getElem?_cons_zero]
  go_simp
  refine (C2.out _ hHeld.up).mono ?_
  rintro e wB ⟨A2, c2, rfl, -, -, hr, hb⟩
  try have HLM := Lib.hid (HLM.out.below hb)
  have HG2 := Lib.hid hHeld.big
  have HLA := Lib.hid hr
  clear hr
  go_wp2_with fail
  refine hK.out _ _ (hHeld.next hb) (fun hHeld => ?_)
  clear hK K
  try simp only [Act.put, List.setIfInBounds_toArray, List.set_cons_zero, List.set_cons_succ]
  refine wpAnyH_take (i := 6) (oi := ?_) (v := ?_) ?_ (by kernel_rfl) (by kernel_rfl) (by kernel_rfl) ?_ (Or.inl ⟨?_, ?_⟩) hHeld ?_
  rotate_left 2
  · conv => lhs; simp only [List.getElem?_toArray, List.getElem?_cons_succ, List.getElem?_cons_zero]
  · exact fun _ _ _ h => h
  · rfl
  · intro W hSw
    go_simp
    try with_reducible rfl
  try simp only [Act.put, List.setIfInBounds_toArray, List.set_cons_zero, List.set_cons_succ]
  obtain ⟨ds, hds, hres⟩ := hHeld.res
  have HU := Lib.hid hHeld.up
  refine wpAnyH_ready (rs := [7]) (by kernel_rfl) (by simp) ?_
  refine AllReadyH.cons (o := ?_) ?_ (fun K hK => ?_) AllReadyH.nil
  rotate_left 1
  · conv => lhs; simp only [List.getElem?_toArray, List.getElem?_cons_succ, List.getElem?_cons_zero]
  rw [if_pos (by rfl)]
  refine wp_store_row 71 (.tmp 2) (.tmp 9) rfl (w.heap.size + 1) (dlC (⟨S1, S2⟩ : RL) (⟨A1, c1, A2, c2⟩ : DM)).toArray rfl rfl 71 ds.toArray hres info_dl (by rw [List.size_toArray, List.size_toArray, hds]; rfl) (al_one dlC_one) ?_
  refine hK.out _ _ (hHeld.put (dlC (⟨S1, S2⟩ : RL) (⟨A1, c1, A2, c2⟩ : DM)) rfl) (fun hHeld => ?_)
  clear hK K
  refine wpAnyH_done (by kernel_rfl) ?_ _
  go_wp2_with fail
  refine bodyPost_ret (v := .agg (dlC (⟨S1, S2⟩ : RL) (⟨A1, c1, A2, c2⟩ : DM)).toArray) (results_c (fn := Tryd.f68) (p := 2) rfl _ _ _ rfl (hres.row _) Tryd.underlying71 rfl info_dl) rfl ?_
  exact dl_fin HU.out HLM.out HLA.out HG1.out HG2.out _ _ _

set_option maxRecDepth 100000 in
set_option maxHeartbeats 4000000 in
theorem c_from21N (r : RL) (w : World) (hT : TabD w) :
    Calls Tryd.prog 76 #[.agg (rlC r).toArray] w (DLPostN w r) := by
  have hX := BS.of (bx2 w (rlC r) 64 dlZ 71)
  generalize hw1 : (w.alloc (.cells (rlC r).toArray 64)).alloc (.cells #[.slice none 0 0, .slice none 0 0] 71) = w1 at hX
  have HW := Lib.hid hw1
  have HX := Lib.hid hX
  have C1 := Lib.hid (fun W (hW : Below w.heap.size w W) => c_list r.m W (hT.up hW))
  have C2 := Lib.hid (fun W (hW : Below w.heap.size w W) => c_list r.a W (hT.up hW))
  clear hT hX hw1
  go_enter Tryd.func76, Tryd.ntmps76
  go_upto_region 1 with fail
  rw [HW.out]
  refine wp_region_held_drew (S := BS w (rlC r) 64 71 2) (by kernel_rfl) (HX.out.next (up_drewN _ 1)) (fun hHeld => ?_)
  refine wpAnyH_take (i := 0) (oi := ?_) (v := ?_) ?_ (by kernel_rfl) (by kernel_rfl) (by kernel_rfl) ?_ (Or.inl ⟨?_, ?_⟩) hHeld ?_
  rotate_left 2
  · conv => lhs; simp only [List.getElem?_toArray, List.getElem?_cons_succ, List.getElem?_cons_zero]
  · exact fun _ _ _ h => h
  · rfl
  · intro W hSw
    go_simp
    try with_reducible rfl
  try simp only [Act.put, List.setIfInBounds_toArray, List.set_cons_zero, List.set_cons_succ]
  refine wpAnyH_take (i := 1) (oi := ?_) (v := ?_) ?_ (by kernel_rfl) (by kernel_rfl) (by kernel_rfl) ?_ (Or.inl ⟨?_, ?_⟩) hHeld ?_
  rotate_left 2
  · conv => lhs; simp only [List.getElem?_toArray, List.getElem?_cons_succ, List.getElem?_cons_zero]
  · exact fun _ _ _ h => h
  · rfl
  · intro W hSw
    obtain ⟨m0, m1, m2, m3, a0, a1, a2, a3⟩ := hSw.box.rl
    go_simp
    try with_reducible rfl
  try simp only [Act.put, List.setIfInBounds_toArray, List.set_cons_zero, List.set_cons_succ]
  refine wpAnyH_take (i := 3) (oi := ?_) (v := ?_) ?_ (by kernel_rfl) (by kernel_rfl) (by kernel_rfl) ?_ (Or.inl ⟨?_, ?_⟩) hHeld ?_
  rotate_left 2
  · conv => lhs; simp only [List.getElem?_toArray, List.getElem?_cons_succ, List.getElem?_cons_zero]
  · exact fun _ _ _ h => h
  · rfl
  · intro W hSw
    go_simp
    try with_reducible rfl
  try simp only [Act.put, List.setIfInBounds_toArray, List.set_cons_zero, List.set_cons_succ]
  refine wpAnyH_take (i := 4) (oi := ?_) (v := ?_) ?_ (by kernel_rfl) (by kernel_rfl) (by kernel_rfl) ?_ (Or.inl ⟨?_, ?_⟩) hHeld ?_
  rotate_left 2
  · conv => lhs; simp only [List.getElem?_toArray, List.getElem?_cons_succ, List.getElem?_cons_zero]
  · exact fun _ _ _ h => h
  · rfl
  · intro W hSw
    obtain ⟨m0, m1, m2, m3, a0, a1, a2, a3⟩ := hSw.box.rl
    go_simp
    try with_reducible rfl
  try simp only [Act.put, List.setIfInBounds_toArray, List.set_cons_zero, List.set_cons_succ]
  refine wpAnyH_ready (rs := [2]) (by kernel_rfl) (by simp) ?_
  refine AllReadyH.cons (o := ?_) ?_ (fun K hK => ?_) AllReadyH.nil
  rotate_left 1
  · conv => lhs; simp only [List.getElem?_toArray, List.getElem?_cons_succ, List.getElem?_cons_zero]
  go_simp
  refine (C1.out _ hHeld.up).mono ?_
  rintro e wA ⟨A1, c1, rfl, -, -, hr, hb⟩
  try have HLA := Lib.hid (HLA.out.below hb)
  have HG1 := Lib.hid hHeld.big
  have HLM := Lib.hid hr
  clear hr
  go_wp2_with fail
  refine hK.out _ _ (hHeld.next hb) (fun hHeld => ?_)
  clear hK K
  try simp only [Act.put, List.setIfInBounds_toArray, List.set_cons_zero, List.set_cons_succ]
  refine wpAnyH_ready (rs := [5]) (by kernel_rfl) (by simp) ?_
  refine AllReadyH.cons (o := ?_) ?_ (fun K hK => ?_) AllReadyH.nil
  rotate_left 1
  · conv => lhs; simp only [List.getElem?_toArray, List.getElem?_cons_succ, List.getElem?_cons_zero]
  go_simp
  refine (C2.out _ hHeld.up).mono ?_
  rintro e wB ⟨A2, c2, rfl, -, -, hr, hb⟩
  try have HLM := Lib.hid (HLM.out.below hb)
  have HG2 := Lib.hid hHeld.big
  have HLA := Lib.hid hr
  clear hr
  go_wp2_with fail
  refine hK.out _ _ (hHeld.next hb) (fun hHeld => ?_)
  clear hK K
  try simp only [Act.put, List.setIfInBounds_toArray, List.set_cons_zero, List.set_cons_succ]
  refine wpAnyH_take (i := 6) (oi := ?_) (v := ?_) ?_ (by kernel_rfl) (by kernel_rfl) (by kernel_rfl) ?_ (Or.inl ⟨?_, ?_⟩) hHeld ?_
  rotate_left 2
  · conv => lhs; simp only [List.getElem?_toArray, List.getElem?_cons_succ, List.getElem?_cons_zero]
  · exact fun _ _ _ h => h
  · rfl
  · intro W hSw
    go_simp
    try with_reducible rfl
  try simp only [Act.put, List.setIfInBounds_toArray, List.set_cons_zero, List.set_cons_succ]
  obtain ⟨ds, hds, hres⟩ := hHeld.res
  have HU := Lib.hid hHeld.up
  refine wpAnyH_ready (rs := [7]) (by kernel_rfl) (by simp) ?_
  refine AllReadyH.cons (o := ?_) ?_ (fun K hK => ?_) AllReadyH.nil
  rotate_left 1
  · conv => lhs; simp only [List.getElem?_toArray, List.getElem?_cons_succ, List.getElem?_cons_zero]
  rw [if_pos (by rfl)]
  refine wp_store_row 71 (.tmp 2) (.tmp 9) rfl (w.heap.size + 1) (dlC (r) (⟨A1, c1, A2, c2⟩ : DM)).toArray rfl rfl 71 ds.toArray hres info_dl (by rw [List.size_toArray, List.size_toArray, hds]; rfl) (al_one dlC_one) ?_
  refine hK.out _ _ (hHeld.put (dlC (r) (⟨A1, c1, A2, c2⟩ : DM)) rfl) (fun hHeld => ?_)
  clear hK K
  refine wpAnyH_done (by kernel_rfl) ?_ _
  go_wp2_with fail
  refine bodyPost_ret (v := .agg (dlC (r) (⟨A1, c1, A2, c2⟩ : DM)).toArray) (results_c (fn := Tryd.f76) (p := 2) rfl _ _ _ rfl (hres.row _) Tryd.underlying71 rfl info_dl) rfl ?_
  exact dl_fin HU.out HLM.out HLA.out HG1.out HG2.out _ _ _

set_option maxRecDepth 100000 in
set_option maxHeartbeats 4000000 in
theorem c_same21 {pl pl' : Nat → Prop} {r : RL} {M N : DM} {w : World} (h : DW w pl r M) (k : DW w pl' r N) :
    Calls Tryd.prog 75 #[.agg (dlC r M).toArray, .agg (dlC r N).toArray] w fun e w' => e = .returned (.bool true) ∧ Below w.heap.size w w' := by
  have hX := bx2 w (dlC r M) 71 (dlC r N) 71
  generalize hw1 : (w.alloc (.cells (dlC r M).toArray 71)).alloc (.cells (dlC r N).toArray 71) = w1 at hX
  have HW := Lib.hid hw1
  have HX := Lib.hid hX
  have C1 := Lib.hid (fun W (hW : Below w.heap.size w W) => c_sameS (c := M.c) (d := N.c) (h.m.below hW) (k.m.below hW))
  have C2 := Lib.hid (fun W (hW : Below w.heap.size w W) => c_sameS (c := M.d) (d := N.d) (h.a.below hW) (k.a.below hW))
  clear h k hX hw1
  obtain ⟨m0, a0⟩ := HX.out.box.dl
  obtain ⟨n0, b0⟩ := HX.out.res.dl
  go_enter Tryd.func75, Tryd.ntmps75
  go_upto_region 1 with fail
  rw [HW.out]
  go_wp2_with fail
  refine (C1.out _ HX.out.up).mono ?_; rintro e w2 ⟨rfl, hb⟩
  have HA := Lib.hid (HX.out.next hb)
  clear hb m0 a0 n0 b0
  obtain ⟨m0, a0⟩ := HA.out.box.dl
  obtain ⟨n0, b0⟩ := HA.out.res.dl
  go_wp2_with fail
  refine (C2.out _ HA.out.up).mono ?_; rintro e w3 ⟨rfl, hb⟩
  go_wp2
  go_ret
  exact ⟨rfl, up_trans HA.out.up hb⟩

theorem c_plain21 {w : World} {pl pl' : Nat → Prop} {A B : Option Addr} {c d : Nat} {L N : List Int} (hA : RD w pl 1 A L.length (L.map (Value.int .i64))) (hB : RD w pl' 1 B N.length (N.map (Value.int .i64))) (hL : L.length ≤ 1000) (hN : N.length ≤ 1000) :
    Calls Tryd.prog 68 #[.agg #[.slice A L.length c, .slice B N.length d]] w (DLPost w ⟨ofS L, ofS N⟩) := (c_plain21N hA hB hL hN).mono fun _ _ h => h.weak
theorem c_from21 (r : RL) (w : World) (hT : TabD w) : Calls Tryd.prog 76 #[.agg (rlC r).toArray] w (DLPost w r) := (c_from21N r w hT).mono fun _ _ h => h.weak
end Go.Proofs.YtlfglibepldjpaaDoor

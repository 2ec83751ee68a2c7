/- The law's To, Plain, From and Same (layer 21). The law's To, Plain, From, Same and Small (layer 22). The law's To, From, Plain, Same, Small of layer 23. -/
import Derived.Test.YtdiiilnebepfdaaGreatDoorD4
import Derived.Test.YtdiiilnebepfdaaGreatDoorD2
import Derived.Test.YtdiiilnebepfdaaGreatDoorA1
import Derived.Test.YtdiiilnebepfdaaGreatDoorD5
namespace Go.Proofs.YtdiiilnebepfdaaGreatDoor
open Go.RowKit

/-- The same, of new lists. -/
def DLPostN (w : World) (r : RL) (e : Ending) (w' : World) : Prop :=
  ∃ M, e = .returned (.agg (dlC r M).toArray) ∧ DW w' (w.heap.size ≤ ·) r M ∧ Below w.heap.size w w'
theorem dl_fin {w wc : World} (up : Below w.heap.size w wc) {r : RL} {A B : Option Addr} {n m : Nat} (hA : RD wc (n ≤ ·) 1 A r.m.ints.length (r.m.ints.map (Value.int .i64))) (hB : RD wc (m ≤ ·) 1 B r.a.ints.length (r.a.ints.map (Value.int .i64)))
    (hn : w.heap.size + 2 ≤ n) (hm : w.heap.size + 2 ≤ m) (c d : Nat) (ds : Array Value) :
    DLPostN w r (.returned (.agg (dlC r ⟨A, c, B, d⟩).toArray)) (wc.setRow (w.heap.size + 1) ds) :=
  have ho : Only (· = w.heap.size + 1) wc (wc.setRow (w.heap.size + 1) ds) := (Only.refl (· = w.heap.size + 1) wc).row rfl ds
  ⟨⟨A, c, B, d⟩, rfl, ⟨(hA.only ho (fun k hk hl => by omega)).lo (fun b hb => by omega), (hB.only ho (fun k hk hl => by omega)).lo (fun b hb => by omega)⟩, up.trans (ho.toBelow up.size (fun k hk => by omega))⟩

set_option maxRecDepth 100000 in
set_option maxHeartbeats 4000000 in
theorem c_to21 {pl : Nat → Prop} {r : RL} {M : DM} {w : World} (h : DW w pl r M) :
    Calls Tryz.prog 102 #[.agg (dlC r M).toArray] w fun e w' => e = .returned (.agg (rlC r).toArray) ∧ Below w.heap.size w w' := by
  have hX := BS.of (bx2 w (dlC r M) 111 rlZ 137)
  generalize hw1 : (w.alloc (.cells (dlC r M).toArray 111)).alloc (.cells #[.int .u64 0, .int .u64 0, .int .u64 0, .int .u64 0, .int .u64 0, .int .u64 0, .int .u64 0, .int .u64 0] 137) = w1 at hX
  have HW := Lib.hid hw1
  have HX := Lib.hid hX
  have C1 := Lib.hid (fun W (hW : Below w.heap.size w W) => c_wordsS (c := M.c) (h.m.below hW))
  have C2 := Lib.hid (fun W (hW : Below w.heap.size w W) => c_wordsS (c := M.d) (h.a.below hW))
  clear h hX hw1
  go_enter Tryz.func102, Tryz.ntmps102
  go_upto_region 1 with fail
  rw [HW.out]
  refine wp_region_held_drew (S := BS w (dlC r M) 111 137 8) (by kernel_rfl) (HX.out.next (up_drewN _ 1)) (fun hHeld => ?_)
  refine wpAnyH_take (i := 0) (oi := ?_) (v := ?_) ?_ (by kernel_rfl) (by kernel_rfl) (by kernel_rfl) ?_ (Or.inl ⟨?_, ?_⟩) hHeld ?_
  rotate_left 2
  · conv => lhs; simp only [List.getElem?_toArray, List.getElem?_cons_succ, List.getElem?_cons_zero]
  · exact fun _ _ _ h => h
  · rfl
  · intro W hSw
    go_simp
    try with_reducible rfl
  try simp only [Act.put, List.setIfInBounds_toArray, List.set_cons_zero, List.set_cons_succ]
  refine wpAnyH_take (i := 1) (oi := ?_) (v := ?_) ?_ (by kernel_rfl) (by kernel_rfl) (by kernel_rfl) ?_ (Or.inl ⟨?_, ?_⟩) hHeld ?_
  rotate_left 2
  · conv => lhs; simp only [List.getElem?_toArray, List.getElem?_cons_succ, List.getElem?_cons_zero]
  · exact fun _ _ _ h => h
  · rfl
  · intro W hSw
    obtain ⟨m0, a0⟩ := hSw.box.dl
    go_simp
    try with_reducible rfl
  try simp only [Act.put, List.setIfInBounds_toArray, List.set_cons_zero, List.set_cons_succ]
  refine wpAnyH_take (i := 3) (oi := ?_) (v := ?_) ?_ (by kernel_rfl) (by kernel_rfl) (by kernel_rfl) ?_ (Or.inl ⟨?_, ?_⟩) hHeld ?_
  rotate_left 2
  · conv => lhs; simp only [List.getElem?_toArray, List.getElem?_cons_succ, List.getElem?_cons_zero]
  · exact fun _ _ _ h => h
  · rfl
  · intro W hSw
    go_simp
    try with_reducible rfl
  try simp only [Act.put, List.setIfInBounds_toArray, List.set_cons_zero, List.set_cons_succ]
  refine wpAnyH_take (i := 4) (oi := ?_) (v := ?_) ?_ (by kernel_rfl) (by kernel_rfl) (by kernel_rfl) ?_ (Or.inl ⟨?_, ?_⟩) hHeld ?_
  rotate_left 2
  · conv => lhs; simp only [List.getElem?_toArray, List.getElem?_cons_succ, List.getElem?_cons_zero]
  · exact fun _ _ _ h => h
  · rfl
  · intro W hSw
    obtain ⟨m0, a0⟩ := hSw.box.dl
    go_simp
    try with_reducible rfl
  try simp only [Act.put, List.setIfInBounds_toArray, List.set_cons_zero, List.set_cons_succ]
  refine wpAnyH_ready (rs := [2]) (by kernel_rfl) (by simp) ?_
  refine AllReadyH.cons (o := ?_) ?_ (fun K hK => ?_) AllReadyH.nil
  rotate_left 1
  · conv => lhs; simp only [List.getElem?_toArray, List.getElem?_cons_succ, List.getElem?_cons_zero]
  go_simp
  refine (C1.out _ hHeld.up).mono ?_
  rintro e wA ⟨rfl, hb⟩
  go_wp2_with fail
  refine hK.out _ _ (hHeld.next hb) (fun hHeld => ?_)
  clear hK K
  try simp only [Act.put, List.setIfInBounds_toArray, List.set_cons_zero, List.set_cons_succ]
  refine wpAnyH_ready (rs := [5]) (by kernel_rfl) (by simp) ?_
  refine AllReadyH.cons (o := ?_) ?_ (fun K hK => ?_) AllReadyH.nil
  rotate_left 1
  · conv => lhs; simp only [List.getElem?_toArray, List.getElem?_cons_succ, List.getElem?_cons_zero]
  go_simp
  refine (C2.out _ hHeld.up).mono ?_
  rintro e wA ⟨rfl, hb⟩
  go_wp2_with fail
  refine hK.out _ _ (hHeld.next hb) (fun hHeld => ?_)
  clear hK K
  try simp only [Act.put, List.setIfInBounds_toArray, List.set_cons_zero, List.set_cons_succ]
  refine wpAnyH_take (i := 6) (oi := ?_) (v := ?_) ?_ (by kernel_rfl) (by kernel_rfl) (by kernel_rfl) ?_ (Or.inl ⟨?_, ?_⟩) hHeld ?_
  rotate_left 2
  · conv => lhs; simp only [List.getElem?_toArray, List.getElem?_cons_succ, List.getElem?_cons_zero]
  · exact fun _ _ _ h => h
  · rfl
  · intro W hSw
    go_simp
    try with_reducible rfl
  try simp only [Act.put, List.setIfInBounds_toArray, List.set_cons_zero, List.set_cons_succ]
  obtain ⟨ds, hds, hres⟩ := hHeld.res
  refine wpAnyH_ready (rs := [7]) (by kernel_rfl) (by simp) ?_
  refine AllReadyH.cons (o := ?_) ?_ (fun K hK => ?_) AllReadyH.nil
  rotate_left 1
  · conv => lhs; simp only [List.getElem?_toArray, List.getElem?_cons_succ, List.getElem?_cons_zero]
  rw [if_pos (by rfl)]
  refine wp_store_row 137 (.tmp 2) (.tmp 9) rfl (w.heap.size + 1) (rlC r).toArray rfl rfl 137 ds.toArray hres info_roll (by rw [List.size_toArray, List.size_toArray, hds]; rfl) (al_one rlC_one) ?_
  refine hK.out _ _ (hHeld.put (rlC r) rfl) (fun hHeld => ?_)
  clear hK K
  refine wpAnyH_done (by kernel_rfl) ?_ _
  go_wp2_with fail
  refine bodyPost_ret (v := .agg (rlC r).toArray) (results_c (fn := Tryz.f102) (p := 2) rfl _ _ _ rfl (hres.row _) Tryz.underlying137 rfl info_roll) rfl ?_
  exact ⟨rfl, hHeld.up⟩

set_option maxRecDepth 100000 in
set_option maxHeartbeats 4000000 in
theorem c_plain21N {w : World} {pl pl' : Nat → Prop} {A B : Option Addr} {c d : Nat} {L N : List Int} (hA : RD w pl 1 A L.length (L.map (Value.int .i64))) (hB : RD w pl' 1 B N.length (N.map (Value.int .i64))) (hL : L.length ≤ 1000) (hN : N.length ≤ 1000) :
    Calls Tryz.prog 103 #[.agg #[.slice A L.length c, .slice B N.length d]] w (DLPostN w ⟨ofS L, ofS N⟩) := by
  have hX := BS.of (bx2 w [.slice A L.length c, .slice B N.length d] 111 dlZ 111)
  generalize hw1 : (w.alloc (.cells [.slice A L.length c, .slice B N.length d].toArray 111)).alloc (.cells #[.slice none 0 0, .slice none 0 0] 111) = w1 at hX
  have HW := Lib.hid hw1
  have HX := Lib.hid hX
  have C1 := Lib.hid (fun W (hW : Below w.heap.size w W) => c_rofS (c := c) (hA.below hW) hL)
  have C2 := Lib.hid (fun W (hW : Below w.heap.size w W) => c_rofS (c := d) (hB.below hW) hN)
  generalize ofS L = S1 at C1 ⊢
  generalize ofS N = S2 at C2 ⊢
  clear hA hB hX hw1
  go_enter Tryz.func103, Tryz.ntmps103
  go_upto_region 1 with fail
  rw [show w.alloc (.cells #[.slice A L.length c, .slice B N.length d] 111) = w.alloc (.cells [.slice A L.length c, .slice B N.length d].toArray 111) from rfl, HW.out]
  refine wp_region_held_drew (S := BS w [.slice A L.length c, .slice B N.length d] 111 111 2) (by kernel_rfl) (HX.out.next (up_drewN _ 1)) (fun hHeld => ?_)
  refine wpAnyH_take (i := 0) (oi := ?_) (v := ?_) ?_ (by kernel_rfl) (by kernel_rfl) (by kernel_rfl) ?_ (Or.inl ⟨?_, ?_⟩) hHeld ?_
  rotate_left 2
  · conv => lhs; simp only [List.getElem?_toArray, List.getElem?_cons_succ, List.getElem?_cons_zero]
  · exact fun _ _ _ h => h
  · rfl
  · intro W hSw
    go_simp
    try with_reducible rfl
  try simp only [Act.put, List.setIfInBounds_toArray, List.set_cons_zero, List.set_cons_succ]
  refine wpAnyH_take (i := 1) (oi := ?_) (v := ?_) ?_ (by kernel_rfl) (by kernel_rfl) (by kernel_rfl) ?_ (Or.inl ⟨?_, ?_⟩) hHeld ?_
  rotate_left 2
  · conv => lhs; simp only [List.getElem?_toArray, List.getElem?_cons_succ, List.getElem?_cons_zero]
  · exact fun _ _ _ h => h
  · rfl
  · intro W hSw
    have m0 := hSw.box.cell 0 _ rfl
    have a0 := hSw.box.cell 1 _ rfl
    go_simp
    try with_reducible rfl
  try simp only [Act.put, List.setIfInBounds_toArray, List.set_cons_zero, List.set_cons_succ]
  refine wpAnyH_take (i := 3) (oi := ?_) (v := ?_) ?_ (by kernel_rfl) (by kernel_rfl) (by kernel_rfl) ?_ (Or.inl ⟨?_, ?_⟩) hHeld ?_
  rotate_left 2
  · conv => lhs; simp only [List.getElem?_toArray, List.getElem?_cons_succ, List.getElem?_cons_zero]
  · exact fun _ _ _ h => h
  · rfl
  · intro W hSw
    go_simp
    try with_reducible rfl
  try simp only [Act.put, List.setIfInBounds_toArray, List.set_cons_zero, List.set_cons_succ]
  refine wpAnyH_take (i := 4) (oi := ?_) (v := ?_) ?_ (by kernel_rfl) (by kernel_rfl) (by kernel_rfl) ?_ (Or.inl ⟨?_, ?_⟩) hHeld ?_
  rotate_left 2
  · conv => lhs; simp only [List.getElem?_toArray, List.getElem?_cons_succ, List.getElem?_cons_zero]
  · exact fun _ _ _ h => h
  · rfl
  · intro W hSw
    have m0 := hSw.box.cell 0 _ rfl
    have a0 := hSw.box.cell 1 _ rfl
    go_simp
    try with_reducible rfl
  try simp only [Act.put, List.setIfInBounds_toArray, List.set_cons_zero, List.set_cons_succ]
  refine wpAnyH_ready (rs := [2]) (by kernel_rfl) (by simp) ?_
  refine AllReadyH.cons (o := ?_) ?_ (fun K hK => ?_) AllReadyH.nil
  rotate_left 1
  · conv => lhs; simp only [List.getElem?_toArray, List.getElem?_cons_succ, List.getElem?_cons_zero]
  go_simp
  refine (C1.out _ hHeld.up).mono ?_
  rintro e wA ⟨A1, c1, rfl, -, -, hr, hb⟩
  try have HLA := Lib.hid (HLA.out.below hb)
  have HG1 := Lib.hid hHeld.big
  have HLM := Lib.hid hr
  clear hr
  go_wp2_with fail
  refine hK.out _ _ (hHeld.next hb) (fun hHeld => ?_)
  clear hK K
  try simp only [Act.put, List.setIfInBounds_toArray, List.set_cons_zero, List.set_cons_succ]
  refine wpAnyH_ready (rs := [5]) (by kernel_rfl) (by simp) ?_
  refine AllReadyH.cons (o := ?_) ?_ (fun K hK => ?_) AllReadyH.nil
  rotate_left 1
  · conv => lhs; simp only [List.getElem?_toArray, List.getElem?_cons_succ, List.getElem?_cons_zero]
  go_simp
  refine (C2.out _ hHeld.up).mono ?_
  rintro e wB ⟨A2, c2, rfl, -, -, hr, hb⟩
  try have HLM := Lib.hid (HLM.out.below hb)
  have HG2 := Lib.hid hHeld.big
  have HLA := Lib.hid hr
  clear hr
  go_wp2_with fail
  refine hK.out _ _ (hHeld.next hb) (fun hHeld => ?_)
  clear hK K
  try simp only [Act.put, List.setIfInBounds_toArray, List.set_cons_zero, List.set_cons_succ]
  refine wpAnyH_take (i := 6) (oi := ?_) (v := ?_) ?_ (by kernel_rfl) (by kernel_rfl) (by kernel_rfl) ?_ (Or.inl ⟨?_, ?_⟩) hHeld ?_
  rotate_left 2
  · conv => lhs; simp only [List.getElem?_toArray, List.getElem?_cons_succ, List.getElem?_cons_zero]
  · exact fun _ _ _ h => h
  · rfl
  · intro W hSw
    go_simp
    try with_reducible rfl
  try simp only [Act.put, List.setIfInBounds_toArray, List.set_cons_zero, List.set_cons_succ]
  obtain ⟨ds, hds, hres⟩ := hHeld.res
  have HU := Lib.hid hHeld.up
  refine wpAnyH_ready (rs := [7]) (by kernel_rfl) (by simp) ?_
  refine AllReadyH.cons (o := ?_) ?_ (fun K hK => ?_) AllReadyH.nil
  rotate_left 1
  · conv => lhs; simp only [List.getElem?_toArray, List.getElem?_cons_succ, List.getElem?_cons_zero]
  rw [if_pos (by rfl)]
  refine wp_store_row 111 (.tmp 2) (.tmp 9) rfl (w.heap.size + 1) (dlC (⟨S1, S2⟩ : RL) (⟨A1, c1, A2, c2⟩ : DM)).toArray rfl rfl 111 ds.toArray hres info_dl (by rw [List.size_toArray, List.size_toArray, hds]; rfl) (al_one dlC_one) ?_
  refine hK.out _ _ (hHeld.put (dlC (⟨S1, S2⟩ : RL) (⟨A1, c1, A2, c2⟩ : DM)) rfl) (fun hHeld => ?_)
  clear hK K
  refine wpAnyH_done (by kernel_rfl) ?_ _
  go_wp2_with fail
  refine bodyPost_ret (v := .agg (dlC (⟨S1, S2⟩ : RL) (⟨A1, c1, A2, c2⟩ : DM)).toArray) (results_c (fn := Tryz.f103) (p := 2) rfl _ _ _ rfl (hres.row _) Tryz.underlying111 rfl info_dl) rfl ?_
  exact dl_fin HU.out HLM.out HLA.out HG1.out HG2.out _ _ _

end Go.Proofs.YtdiiilnebepfdaaGreatDoor

namespace Go.Proofs.YtdiiilnebepfdaaGreatDoor
open Go.RowKit

/-- What a call gives that answers a document's barrier of new lists. -/
def EPostN (w : World) (b : BR) (e : Ending) (w' : World) : Prop :=
  ∃ M, e = .returned (.agg (dbC b M).toArray) ∧ DW w' (w.heap.size ≤ ·) b.r M ∧ Below w.heap.size w w'
/-- The cells of an argument. -/
abbrev dbI (al : Bool) (l : Int) (A : Option Addr) (n c : Nat) (B : Option Addr) (m d : Nat) (ph : Int) : List Value := [.bool al, .int .i64 l, .slice A n c, .slice B m d, .int .i64 ph]
theorem built_db (al : Bool) (l : Int) (R : RL) (M : DM) (y : Int) : Tryz.prog.built 113 [(0, .agg #[.bool al, .int .i64 l]), (1, .agg (dlC R M).toArray), (2, .int .i64 y)] = some (dbC ⟨al, l, R, y⟩ M).toArray := by kernel_rfl
theorem e_fin {w wc : World} (up : Below w.heap.size w wc) {b : BR} {M : DM} {n : Nat} (hd : DW wc (n ≤ ·) b.r M) (hn : w.heap.size + 2 ≤ n) (ds : Array Value) :
    EPostN w b (.returned (.agg (dbC b M).toArray)) (wc.setRow (w.heap.size + 1) ds) :=
  have ho : Only (· = w.heap.size + 1) wc (wc.setRow (w.heap.size + 1) ds) := (Only.refl (· = w.heap.size + 1) wc).row rfl ds
  ⟨M, rfl, (hd.only ho (fun k hk hl => by omega)).lo (fun b hb => by omega), up.trans (ho.toBelow up.size (fun k hk => by omega))⟩
theorem plain_roll {w : World} {pl : Nat → Prop} {r : RL} {M : DM} (h : DW w pl r M) : Calls Tryz.prog 103 #[.agg (dlC r M).toArray] w (DLPostN w r) := by
  have hm := len_le r.m
  have ha := len_le r.a
  unfold S4.len at hm ha
  have := c_plain21N (c := M.c) (d := M.d) h.m h.a (by omega) (by omega)
  rwa [ofS_of_ints, ofS_of_ints] at this

set_option maxRecDepth 100000 in
set_option maxHeartbeats 4000000 in
theorem c_plain22 {w : World} {pl pl' : Nat → Prop} {A B : Option Addr} {c d : Nat} {L N : List Int} (al : Bool) (l ph : Int) (hA : RD w pl 1 A L.length (L.map (Value.int .i64))) (hB : RD w pl' 1 B N.length (N.map (Value.int .i64))) (hL : L.length ≤ 1000) (hN : N.length ≤ 1000) :
    Calls Tryz.prog 63 #[.agg (dbI al l A L.length c B N.length d ph).toArray] w (EPostN w ⟨al, l, ⟨ofS L, ofS N⟩, ph⟩) := by
  have hX := BS.of (bx2 w (dbI al l A L.length c B N.length d ph) 113 dbZ 113)
  generalize hw1 : (w.alloc (.cells (dbI al l A L.length c B N.length d ph).toArray 113)).alloc (.cells dbZ.toArray 113) = w1 at hX
  have HW := Lib.hid (show (w.alloc (.cells #[.bool al, .int .i64 l, .slice A L.length c, .slice B N.length d, .int .i64 ph] 113)).alloc (.cells #[.bool false, .int .i64 0, .slice none 0 0, .slice none 0 0, .int .i64 0] 113) = w1 from hw1)
  have HX := Lib.hid hX
  have C1 := Lib.hid (fun W (hW : Below w.heap.size w W) => c_plain21N (c := c) (d := d) (hA.below hW) (hB.below hW) hL hN)
  generalize (⟨ofS L, ofS N⟩ : RL) = R at C1 ⊢
  clear hA hB hX hw1
  go_enter Tryz.func63, Tryz.ntmps63
  go_upto_region 1 with fail
  rw [HW.out]
  refine wp_region_held_drew (S := BS w (dbI al l A L.length c B N.length d ph) 113 113 5) (by kernel_rfl) (HX.out.next (up_drewN _ 1)) (fun hHeld => ?_)
  refine wpAnyH_take (i := 0) (oi := ?_) (v := ?_) ?_ (by kernel_rfl) (by kernel_rfl) (by kernel_rfl) ?_ (Or.inl ⟨?_, ?_⟩) hHeld ?_
  rotate_left 2
  · conv => lhs; simp only [List.getElem?_toArray, List.getElem?_cons_succ, List.getElem?_cons_zero]
  · exact fun _ _ _ h => h
  · rfl
  · intro W hSw
    go_simp
    try with_reducible rfl
  try simp only [Act.put, List.setIfInBounds_toArray, List.set_cons_zero, List.set_cons_succ]
  refine wpAnyH_take (i := 1) (oi := ?_) (v := ?_) ?_ (by kernel_rfl) (by kernel_rfl) (by kernel_rfl) ?_ (Or.inl ⟨?_, ?_⟩) hHeld ?_
  rotate_left 2
  · conv => lhs; simp only [List.getElem?_toArray, List.getElem?_cons_succ, List.getElem?_cons_zero]
  · exact fun _ _ _ h => h
  · rfl
  · intro W hSw
    have c0 := hSw.box.cell 0 _ rfl
    have c1 := hSw.box.cell 1 _ rfl
    have c2 := hSw.box.cell 2 _ rfl
    have c3 := hSw.box.cell 3 _ rfl
    have c4 := hSw.box.cell 4 _ rfl
    go_simp
    try with_reducible rfl
  try simp only [Act.put, List.setIfInBounds_toArray, List.set_cons_zero, List.set_cons_succ]
  refine wpAnyH_take (i := 2) (oi := ?_) (v := ?_) ?_ (by kernel_rfl) (by kernel_rfl) (by kernel_rfl) ?_ (Or.inl ⟨?_, ?_⟩) hHeld ?_
  rotate_left 2
  · conv => lhs; simp only [List.getElem?_toArray, List.getElem?_cons_succ, List.getElem?_cons_zero]
  · exact fun _ _ _ h => h
  · rfl
  · intro W hSw
    go_simp
    try with_reducible rfl
  try simp only [Act.put, List.setIfInBounds_toArray, List.set_cons_zero, List.set_cons_succ]
  refine wpAnyH_take (i := 3) (oi := ?_) (v := ?_) ?_ (by kernel_rfl) (by kernel_rfl) (by kernel_rfl) ?_ (Or.inl ⟨?_, ?_⟩) hHeld ?_
  rotate_left 2
  · conv => lhs; simp only [List.getElem?_toArray, List.getElem?_cons_succ, List.getElem?_cons_zero]
  · exact fun _ _ _ h => h
  · rfl
  · intro W hSw
    have c0 := hSw.box.cell 0 _ rfl
    have c1 := hSw.box.cell 1 _ rfl
    have c2 := hSw.box.cell 2 _ rfl
    have c3 := hSw.box.cell 3 _ rfl
    have c4 := hSw.box.cell 4 _ rfl
    go_simp
    try with_reducible rfl
  try simp only [Act.put, List.setIfInBounds_toArray, List.set_cons_zero, List.set_cons_succ]
  refine wpAnyH_take (i := 5) (oi := ?_) (v := ?_) ?_ (by kernel_rfl) (by kernel_rfl) (by kernel_rfl) ?_ (Or.inl ⟨?_, ?_⟩) hHeld ?_
  rotate_left 2
  · conv => lhs; simp only [List.getElem?_toArray, List.getElem?_cons_succ, List.getElem?_cons_zero]
  · exact fun _ _ _ h => h
  · rfl
  · intro W hSw
    go_simp
    try with_reducible rfl
  try simp only [Act.put, List.setIfInBounds_toArray, List.set_cons_zero, List.set_cons_succ]
  refine wpAnyH_take (i := 6) (oi := ?_) (v := ?_) ?_ (by kernel_rfl) (by kernel_rfl) (by kernel_rfl) ?_ (Or.inl ⟨?_, ?_⟩) hHeld ?_
  rotate_left 2
  · conv => lhs; simp only [List.getElem?_toArray, List.getElem?_cons_succ, List.getElem?_cons_zero]
  · exact fun _ _ _ h => h
  · rfl
  · intro W hSw
    have c0 := hSw.box.cell 0 _ rfl
    have c1 := hSw.box.cell 1 _ rfl
    have c2 := hSw.box.cell 2 _ rfl
    have c3 := hSw.box.cell 3 _ rfl
    have c4 := hSw.box.cell 4 _ rfl
    go_simp
    try with_reducible rfl
  try simp only [Act.put, List.setIfInBounds_toArray, List.set_cons_zero, List.set_cons_succ]
  refine wpAnyH_ready (rs := [4]) (by kernel_rfl) (by simp) ?_
  refine AllReadyH.cons (o := ?_) ?_ (fun K hK => ?_) AllReadyH.nil
  rotate_left 1
  · conv => lhs; simp only [List.getElem?_toArray, List.getElem?_cons_succ, List.getElem?_cons_zero]
  go_simp
  refine (C1.out _ hHeld.up).mono ?_
  rintro e wA ⟨M, rfl, hd, hb⟩
  have HG := Lib.hid hHeld.big
  have HD := Lib.hid hd
  clear hd
  go_wp2_with fail
  refine hK.out _ _ (hHeld.next hb) (fun hHeld => ?_)
  clear hK K
  try simp only [Act.put, List.setIfInBounds_toArray, List.set_cons_zero, List.set_cons_succ]
  have HBD := Lib.hid (built_db al l R M ph)
  refine wpAnyH_take (i := 7) (oi := ?_) (v := (.agg (dbC ⟨al, l, R, ph⟩ M).toArray)) ?_ (by kernel_rfl) (by kernel_rfl) (by kernel_rfl) ?_ (Or.inl ⟨?_, ?_⟩) hHeld ?_
  rotate_left 1
  · conv => lhs; simp only [List.getElem?_toArray, List.getElem?_cons_succ, List.getElem?_cons_zero]
  · exact fun _ _ _ h => h
  · rfl
  · intro W hSw
    exact tk_build rfl (by simpa [Act.eval] using HBD.out)
  try simp only [Act.put, List.setIfInBounds_toArray, List.set_cons_zero, List.set_cons_succ]
  obtain ⟨ds, hds, hres⟩ := hHeld.res
  have HU := Lib.hid hHeld.up
  refine wpAnyH_ready (rs := [8]) (by kernel_rfl) (by simp) ?_
  refine AllReadyH.cons (o := ?_) ?_ (fun K hK => ?_) AllReadyH.nil
  rotate_left 1
  · conv => lhs; simp only [List.getElem?_toArray, List.getElem?_cons_succ, List.getElem?_cons_zero]
  rw [if_pos (by rfl)]
  refine wp_store_row 113 (.tmp 2) (.tmp 10) rfl (w.heap.size + 1) (dbC ⟨al, l, R, ph⟩ M).toArray rfl rfl 113 ds.toArray hres info_db (by rw [List.size_toArray, List.size_toArray, hds]; rfl) (al_one dbC_one) ?_
  refine hK.out _ _ (hHeld.put (dbC ⟨al, l, R, ph⟩ M) rfl) (fun hHeld => ?_)
  clear hK K
  refine wpAnyH_done (by kernel_rfl) ?_ _
  go_wp2_with fail
  refine bodyPost_ret (v := .agg (dbC ⟨al, l, R, ph⟩ M).toArray) (results_c (fn := Tryz.f63) (p := 2) rfl _ _ _ rfl (hres.row _) Tryz.underlying113 rfl info_db) rfl ?_
  exact e_fin (b := ⟨al, l, R, ph⟩) HU.out HD.out HG.out _

set_option maxRecDepth 100000 in
set_option maxHeartbeats 4000000 in
theorem c_to22 {pl : Nat → Prop} {b : BR} {M : DM} {w : World} (h : DW w pl b.r M) :
    Calls Tryz.prog 62 #[.agg (dbC b M).toArray] w fun e w' => e = .returned (.agg (brC b).toArray) ∧ Below w.heap.size w w' := by
  have hX := BS.of (bx2 w (dbC b M) 113 brZ 139)
  generalize hw1 : (w.alloc (.cells (dbC b M).toArray 113)).alloc (.cells brZ.toArray 139) = w1 at hX
  have HW := Lib.hid (show (w.alloc (.cells (dbC b M).toArray 113)).alloc (.cells #[.bool false, .int .i64 0, .int .u64 0, .int .u64 0, .int .u64 0, .int .u64 0, .int .u64 0, .int .u64 0, .int .u64 0, .int .u64 0, .int .i64 0] 139) = w1 from hw1)
  have HX := Lib.hid hX
  have C1 := Lib.hid (fun W (hW : Below w.heap.size w W) => plain_roll (h.below hW))
  have HBD := Lib.hid (built_bar b.al b.lim b.r b.ph)
  clear h hX hw1
  go_enter Tryz.func62, Tryz.ntmps62
  go_upto_region 1 with fail
  rw [HW.out]
  refine wp_region_held_drew (S := BS w (dbC b M) 113 139 11) (by kernel_rfl) (HX.out.next (up_drewN _ 1)) (fun hHeld => ?_)
  refine wpAnyH_take (i := 0) (oi := ?_) (v := ?_) ?_ (by kernel_rfl) (by kernel_rfl) (by kernel_rfl) ?_ (Or.inl ⟨?_, ?_⟩) hHeld ?_
  rotate_left 2
  · conv => lhs; simp only [List.getElem?_toArray, List.getElem?_cons_succ, List.getElem?_cons_zero]
  · exact fun _ _ _ h => h
  · rfl
  · intro W hSw
    go_simp
    try with_reducible rfl
  try simp only [Act.put, List.setIfInBounds_toArray, List.set_cons_zero, List.set_cons_succ]
  refine wpAnyH_take (i := 1) (oi := ?_) (v := ?_) ?_ (by kernel_rfl) (by kernel_rfl) (by kernel_rfl) ?_ (Or.inl ⟨?_, ?_⟩) hHeld ?_
  rotate_left 2
  · conv => lhs; simp only [List.getElem?_toArray, List.getElem?_cons_succ, List.getElem?_cons_zero]
  · exact fun _ _ _ h => h
  · rfl
  · intro W hSw
    obtain ⟨c0, c1, c4⟩ := hSw.box.db
    have c2 := hSw.box.cell 2 _ rfl
    have c3 := hSw.box.cell 3 _ rfl
    go_simp
    try with_reducible rfl
  try simp only [Act.put, List.setIfInBounds_toArray, List.set_cons_zero, List.set_cons_succ]
  refine wpAnyH_take (i := 2) (oi := ?_) (v := ?_) ?_ (by kernel_rfl) (by kernel_rfl) (by kernel_rfl) ?_ (Or.inl ⟨?_, ?_⟩) hHeld ?_
  rotate_left 2
  · conv => lhs; simp only [List.getElem?_toArray, List.getElem?_cons_succ, List.getElem?_cons_zero]
  · exact fun _ _ _ h => h
  · rfl
  · intro W hSw
    go_simp
    try with_reducible rfl
  try simp only [Act.put, List.setIfInBounds_toArray, List.set_cons_zero, List.set_cons_succ]
  refine wpAnyH_take (i := 3) (oi := ?_) (v := (.agg (dlC b.r M).toArray)) ?_ (by kernel_rfl) (by kernel_rfl) (by kernel_rfl) ?_ (Or.inl ⟨?_, ?_⟩) hHeld ?_
  rotate_left 1
  · conv => lhs; simp only [List.getElem?_toArray, List.getElem?_cons_succ, List.getElem?_cons_zero]
  · exact fun _ _ _ h => h
  · rfl
  · intro W hSw
    exact tk_part (q := 2) rfl rfl Tryz.underlying111 rfl info_dl (hSw.box.part 2 2 rfl)
  try simp only [Act.put, List.setIfInBounds_toArray, List.set_cons_zero, List.set_cons_succ]
  refine wpAnyH_take (i := 6) (oi := ?_) (v := ?_) ?_ (by kernel_rfl) (by kernel_rfl) (by kernel_rfl) ?_ (Or.inl ⟨?_, ?_⟩) hHeld ?_
  rotate_left 2
  · conv => lhs; simp only [List.getElem?_toArray, List.getElem?_cons_succ, List.getElem?_cons_zero]
  · exact fun _ _ _ h => h
  · rfl
  · intro W hSw
    go_simp
    try with_reducible rfl
  try simp only [Act.put, List.setIfInBounds_toArray, List.set_cons_zero, List.set_cons_succ]
  refine wpAnyH_take (i := 7) (oi := ?_) (v := ?_) ?_ (by kernel_rfl) (by kernel_rfl) (by kernel_rfl) ?_ (Or.inl ⟨?_, ?_⟩) hHeld ?_
  rotate_left 2
  · conv => lhs; simp only [List.getElem?_toArray, List.getElem?_cons_succ, List.getElem?_cons_zero]
  · exact fun _ _ _ h => h
  · rfl
  · intro W hSw
    obtain ⟨c0, c1, c4⟩ := hSw.box.db
    have c2 := hSw.box.cell 2 _ rfl
    have c3 := hSw.box.cell 3 _ rfl
    go_simp
    try with_reducible rfl
  try simp only [Act.put, List.setIfInBounds_toArray, List.set_cons_zero, List.set_cons_succ]
  refine wpAnyH_ready (rs := [4]) (by kernel_rfl) (by simp) ?_
  refine AllReadyH.cons (o := ?_) ?_ (fun K hK => ?_) AllReadyH.nil
  rotate_left 1
  · conv => lhs; simp only [List.getElem?_toArray, List.getElem?_cons_succ, List.getElem?_cons_zero]
  go_simp
  refine (C1.out _ hHeld.up).mono ?_
  rintro e wA ⟨N, rfl, hd, hb⟩
  have HD := Lib.hid hd
  clear hd
  go_wp2_with fail
  refine hK.out _ _ (hHeld.next hb) (fun hHeld => ?_)
  clear hK K
  try simp only [Act.put, List.setIfInBounds_toArray, List.set_cons_zero, List.set_cons_succ]
  refine wpAnyH_ready (rs := [5]) (by kernel_rfl) (by simp) ?_
  refine AllReadyH.cons (o := ?_) ?_ (fun K hK => ?_) AllReadyH.nil
  rotate_left 1
  · conv => lhs; simp only [List.getElem?_toArray, List.getElem?_cons_succ, List.getElem?_cons_zero]
  go_simp
  refine (c_to21 HD.out).mono ?_
  rintro e wB ⟨rfl, hb⟩
  go_wp2_with fail
  refine hK.out _ _ (hHeld.next hb) (fun hHeld => ?_)
  clear hK K
  try simp only [Act.put, List.setIfInBounds_toArray, List.set_cons_zero, List.set_cons_succ]
  refine wpAnyH_take (i := 8) (oi := ?_) (v := (.agg (brC b).toArray)) ?_ (by kernel_rfl) (by kernel_rfl) (by kernel_rfl) ?_ (Or.inl ⟨?_, ?_⟩) hHeld ?_
  rotate_left 1
  · conv => lhs; simp only [List.getElem?_toArray, List.getElem?_cons_succ, List.getElem?_cons_zero]
  · exact fun _ _ _ h => h
  · rfl
  · intro W hSw
    exact tk_build rfl (by simpa [Act.eval] using HBD.out)
  try simp only [Act.put, List.setIfInBounds_toArray, List.set_cons_zero, List.set_cons_succ]
  obtain ⟨ds, hds, hres⟩ := hHeld.res
  refine wpAnyH_ready (rs := [9]) (by kernel_rfl) (by simp) ?_
  refine AllReadyH.cons (o := ?_) ?_ (fun K hK => ?_) AllReadyH.nil
  rotate_left 1
  · conv => lhs; simp only [List.getElem?_toArray, List.getElem?_cons_succ, List.getElem?_cons_zero]
  rw [if_pos (by rfl)]
  refine wp_store_row 139 (.tmp 2) (.tmp 11) rfl (w.heap.size + 1) (brC b).toArray rfl rfl 139 ds.toArray hres info_bar (by rw [List.size_toArray, List.size_toArray, hds]; rfl) (al_one brC_one) ?_
  refine hK.out _ _ (hHeld.put (brC b) rfl) (fun hHeld => ?_)
  clear hK K
  refine wpAnyH_done (by kernel_rfl) ?_ _
  go_wp2_with fail
  refine bodyPost_ret (v := .agg (brC b).toArray) (results_c (fn := Tryz.f62) (p := 2) rfl _ _ _ rfl (hres.row _) Tryz.underlying139 rfl info_bar) rfl ?_
  exact ⟨rfl, hHeld.up⟩

set_option maxRecDepth 100000 in
set_option maxHeartbeats 4000000 in
theorem c_small22 (al : Bool) (l ph : Int) (A : Option Addr) (n c : Nat) (B : Option Addr) (m d : Nat) (w : World) :
    Calls Tryz.prog 45 #[.agg (dbI al l A n c B m d ph).toArray] w fun e w' => e = .returned (.bool (decide (n ≤ 40) && decide (m ≤ 40))) ∧ Below w.heap.size w w' := by
  have hX := bx1 w (dbI al l A n c B m d ph) 113
  generalize hw1 : w.alloc (.cells (dbI al l A n c B m d ph).toArray 113) = w1 at hX
  have HW := Lib.hid (show w.alloc (.cells #[.bool al, .int .i64 l, .slice A n c, .slice B m d, .int .i64 ph] 113) = w1 from hw1)
  have HX := Lib.hid hX
  have c2 := hX.box.cell 2 _ rfl
  have c3 := hX.box.cell 3 _ rfl
  clear hX hw1
  rcases (by omega : 40 < (n : Int) ∨ ((n : Int) ≤ 40 ∧ 40 < (m : Int)) ∨ ((n : Int) ≤ 40 ∧ (m : Int) ≤ 40)) with h1 | ⟨h1, h2⟩ | ⟨h1, h2⟩
  · have HE : Hid ((decide (n ≤ 40) && decide (m ≤ 40)) = false) := Lib.hid (by rw [decide_eq_false (by omega)]; rfl)
    rw [HE.out]
    go_enter Tryz.func45, Tryz.ntmps45
    go_upto_region 1 with fail
    rw [HW.out]
    go_wp2
    go_ret
    exact ⟨ret_bool (by first | rfl | (simp; done) | (simp; omega)), HX.out.up⟩
  · have HE : Hid ((decide (n ≤ 40) && decide (m ≤ 40)) = false) := Lib.hid (by rw [decide_eq_false (show ¬ m ≤ 40 by omega), Bool.and_false])
    rw [HE.out]
    go_enter Tryz.func45, Tryz.ntmps45
    go_upto_region 1 with fail
    rw [HW.out]
    go_wp2
    go_ret
    exact ⟨ret_bool (by first | rfl | (simp; done) | (simp; omega)), HX.out.up⟩
  · have HE : Hid ((decide (n ≤ 40) && decide (m ≤ 40)) = true) := Lib.hid (by rw [decide_eq_true (show n ≤ 40 by omega), decide_eq_true (show m ≤ 40 by omega)]; rfl)
    rw [HE.out]
    go_enter Tryz.func45, Tryz.ntmps45
    go_upto_region 1 with fail
    rw [HW.out]
    go_wp2
    go_ret
    exact ⟨ret_bool (by first | rfl | (simp; done) | (simp; omega)), HX.out.up⟩
end Go.Proofs.YtdiiilnebepfdaaGreatDoor

namespace Go.Proofs.YtdiiilnebepfdaaGreatDoor
open Go.RowKit

/-- A slice literal of one of the program's barriers. -/
theorem wpList_oneP {P : Program} {w : World} {ops : Array Oper} {rest : List Oper} {o : Oper} {a : Act} {Q : Exit → Act → World → Prop} {t e : TypeId} {bytes : Nat} (E : EI P t e (.agg brZ.toArray) 11 bytes) (hg : o.guard = none) (x : Operand)
    (ho : o.op = .buildSlice t 1 #[(0, x)]) (b : BR) (hx : a.eval x = .agg (brC b).toArray)
    (h : wpList P ops Q rest (a.put o.dst (.slice (some ⟨w.heap.size, 0, none⟩) 1 1)) (w.alloc (.cells (brC b).toArray e))) : wpList P ops Q (o :: rest) a w := by
  obtain ⟨i, hi, hz, hs, hb⟩ := info_parts E.info
  refine wpList_buildSlice hg t e 1 _ ho (brC b).toArray i _ E.under hi hz (by rw [hs]; decide) (by rw [hs]; decide) ?_ h
  rw [hs]
  have e1 : ((#[(0, x)] : Array (Nat × Operand)).map fun (i, x) => (i, a.eval x)).toList = [(0, .agg (brC b).toArray)] := by simp [hx]
  rw [e1]
  have e2 : Instr.fill (fun i => some (i * 11, 11)) ((Array.range (1 * 11)).map ((Value.agg brZ.toArray).cells[· % (Value.agg brZ.toArray).cells.size]!)) [(0, .agg (brC b).toArray)] = some (brC b).toArray := by kernel_rfl
  exact e2
/-- A barrier as it comes in: its lists hold any numbers. -/
structure RB where
  al : Bool
  lim : Int
  A : Option Addr
  c : Nat
  L : List Int
  B : Option Addr
  d : Nat
  N : List Int
  ph : Int
def rbC (r : RB) : List Value := dbI r.al r.lim r.A r.L.length r.c r.B r.N.length r.d r.ph
theorem rbC_one {r : RB} : ∀ v ∈ rbC r, v.oneCell' = true := by
  intro v hv
  unfold rbC at hv
  simp only [List.mem_cons, List.not_mem_nil, or_false] at hv
  rcases hv with rfl | rfl | rfl | rfl | rfl <;> rfl
def rB : Mk RB := ⟨rbC, 5, fun _ => rfl, by omega, fun _ => rbC_one, fun pl r w => RD w pl 1 r.A r.L.length (r.L.map (Value.int .i64)) ∧ RD w pl 1 r.B r.N.length (r.N.map (Value.int .i64)),
  fun h o hs => ⟨h.1.only o hs, h.2.only o hs⟩, fun h hl => ⟨h.1.lo hl, h.2.lo hl⟩, fun h => ⟨h.1.lt, h.2.lt⟩⟩
def rbP (r : RB) : BR := ⟨r.al, r.lim, ⟨ofS r.L, ofS r.N⟩, r.ph⟩
def rbS (r : RB) : Bool := decide (r.L.length ≤ 40) && decide (r.N.length ≤ 40)
def smallT (Q : List RB) : Bool := decide (Q.length ≤ 10) && Q.all rbS
theorem smallT_iff {Q : List RB} (h : smallT Q = true) : Q.length ≤ 10 ∧ ∀ r ∈ Q, r.L.length ≤ 40 ∧ r.N.length ≤ 40 := by
  unfold smallT at h
  rw [Bool.and_eq_true, decide_eq_true_iff, List.all_eq_true] at h
  refine ⟨h.1, fun r hr => ?_⟩
  have := h.2 r hr
  unfold rbS at this
  rwa [Bool.and_eq_true, decide_eq_true_iff, decide_eq_true_iff] at this

set_option maxRecDepth 100000 in
set_option maxHeartbeats 4000000 in
theorem c_plain23 {w : World} {A : Option Addr} {n c : Nat} {Q : List RB} (h : TW rB w tt A n Q) (hs : smallT Q = true) :
    Calls Tryz.prog 26 #[.slice A n c] w (EPT1 w n (Q.map rbP)) := by
  have hn : n ≤ 10 := by rw [← h.len]; exact (smallT_iff hs).1
  have HT := Lib.hid h
  have HSM := Lib.hid (smallT_iff hs).2
  have hl : (Q.map rbP).length = n := by rw [List.length_map, h.len]
  have HL := Lib.hid hl
  clear h hs hl
  go_enter Tryz.func26, Tryz.ntmps26
  go_wp2_with fail
  go_loopw [3, 8] (fun s i wr => ∃ k : Nat, k ≤ n ∧ i = .int .i64 k ∧ ∃ Z, OT dB wr 113 w.heap.size s k Z ∧ Z.map Prod.fst = (Q.map rbP).take k ∧ Below w.heap.size w wr) (fun _ i _ => n - (intOf i).toNat)
  case atStart => exact ⟨0, Nat.zero_le _, rfl, [], OT.nil _ _ _ _, rfl, Below.refl _ _⟩
  case round =>
    obtain ⟨k, hk, rfl, Z, hown, hZ, hbw⟩ := hrel
    by_cases hlt : k < n
    · obtain ⟨b, o, q, rfl, _, _, hq, hrg, hE⟩ := (HT.out.below hbw).at_ k hlt
      have HS : Hid ((Q.map rbP).take (k + 1) = (Q.map rbP).take k ++ [rbP q]) := Lib.hid (by rw [List.take_add_one, List.getElem?_map, hq]; rfl)
      have HRG : Hid (wr.rangeAt b (o + k * 5) (dbI q.al q.lim q.A q.L.length q.c q.B q.N.length q.d q.ph)) := Lib.hid hrg
      have HB := Lib.hid hbw
      have HO := Lib.hid hown
      have HZ := Lib.hid hZ
      have hup := up_alloc wr (.cells (dbI q.al q.lim q.A q.L.length q.c q.B q.N.length q.d q.ph).toArray 113)
      have HBX := Lib.hid (Blk.new wr (dbI q.al q.lim q.A q.L.length q.c q.B q.N.length q.d q.ph) 113)
      have hsm := HSM.out q (List.mem_of_getElem? hq)
      have CT : Hid (Calls Tryz.prog 63 #[.agg (dbI q.al q.lim q.A q.L.length q.c q.B q.N.length q.d q.ph).toArray] (wr.alloc (.cells (dbI q.al q.lim q.A q.L.length q.c q.B q.N.length q.d q.ph).toArray 113)) (EPostN (wr.alloc (.cells (dbI q.al q.lim q.A q.L.length q.c q.B q.N.length q.d q.ph).toArray 113)) (rbP q))) := Lib.hid (c_plain22 q.al q.lim q.ph (hE.1.below hup) (hE.2.below hup) (by omega) (by omega))
      generalize rbP q = qp at CT HS
      have HUP := Lib.hid hup
      clear hq hrg hown hbw hup hZ hE hsm
      go_wp2_with (first | (refine lmr (b := b) (q := o + k * 5) (cs := dbI q.al q.lim q.A q.L.length q.c q.B q.N.length q.d q.ph) (.tmp 10) rfl rfl Tryz.underlying113 rfl info_db rfl ?_ ?_; (· exact HRG.out)) | (refine snr (t := 113) (W := wr) (cs := dbI q.al q.lim q.A q.L.length q.c q.B q.N.length q.d q.ph) (zs := dbZ) (.tmp 5) (.tmp 11) rfl rfl rfl rfl info_db rfl (rbC_one (r := q)) ?_ ?_ ?_; (· rfl); (· rfl)) | (refine ldr (b := wr.heap.size) (cs := dbI q.al q.lim q.A q.L.length q.c q.B q.N.length q.d q.ph) (t := 113) (.tmp 5) rfl rfl Tryz.underlying113 rfl info_db rfl ?_ ?_; (· exact HBX.out)))
      refine CT.out.mono ?_; rintro e w2 ⟨M, rfl, hd, hb2⟩
      have hb3 := up_trans HUP.out hb2
      have hq3 := up_alloc w2 (.cells (dbC qp M).toArray 113)
      have HB3 := Lib.hid (up_trans hb3 hq3)
      have HO3 := Lib.hid (own_below HO.out.own (up_trans hb3 hq3))
      have HY : Hid (w.heap.size ≤ (w2.alloc (.cells (dbC qp M).toArray 113)).heap.size) := Lib.hid (by have h1 := HB.out.size; have h2 := hb3.size; simp; omega)
      have HD : Hid (DW (w2.alloc (.cells (dbC qp M).toArray 113)) (nOwn u3) (qp).r M) := Lib.hid ((hd.below hq3).lo (fun j hj => HO.out.new j (by have := HUP.out.size; omega)))
      clear hb2 hb3 hq3 hd
      go_wp2_with (first | (refine wpList_oneD ei_dt rfl (.tmp 14) rfl qp M rfl ?_) | (at_builtin; refine wpList_app3 ei_dt rfl (.tmp 12) (.tmp 15) rfl u3 _ rfl HO3.out rfl (RD.oneK dB (q := (qp, M)) rfl) (dB.oneL [(qp, M)]) (by omega) HY.out ?_; intro v4 w4 hown4 hg4 hn4; have HO4 := Lib.hid (HO.out.app (q := (qp, M)) HB3.out (by rw [List.flatMap_append]; exact hown4) hg4 hn4 HD.out); have HB4 : Hid (Below w.heap.size w w4) := Lib.hid ((up_trans HB.out HB3.out).grown hg4 HY.out (fun k' e => (HO3.out.lt k' e).1)); clear hown4 hg4 hn4))
      go_roundw
      case rel => exact ⟨k + 1, by omega, by go_num, Z ++ [(qp, M)], HO4.out, by rw [List.map_append, HZ.out, HS.out]; rfl, HB4.out⟩
      case measure => simp [intOf]; omega
    · obtain rfl : k = n := by omega
      have HO := Lib.hid hown
      have HB := Lib.hid hbw
      have HZ := Lib.hid hZ
      clear hown hbw hZ
      go_wp2
      go_ret
      obtain ⟨A', c', rfl, ht⟩ := HO.out.tw
      exact ⟨A', c', rfl, ⟨Z, ht, by rw [HZ.out]; exact List.take_of_length_le (by rw [HL.out]; exact Nat.le_refl _)⟩, HB.out⟩

set_option maxRecDepth 100000 in
set_option maxHeartbeats 4000000 in
theorem c_tsmall {w : World} {A : Option Addr} {n c : Nat} {Q : List RB} (h : TW rB w tt A n Q) (hn : n ≤ maxLen) :
    Calls Tryz.prog 17 #[.slice A n c] w fun e w' => e = .returned (.bool (smallT Q)) ∧ Below w.heap.size w w' := by
  have hnn : (n : Int) ≤ 9223372036854775807 := by
    unfold maxLen at hn
    omega
  have HT := Lib.hid h
  have HL := Lib.hid h.len
  clear h
  go_enter Tryz.func17, Tryz.ntmps17
  go_wp2_with fail
  go_loopw [7] (fun i wr => ∃ k : Nat, k ≤ n ∧ i = .int .i64 k ∧ (Q.take k).all rbS = true ∧ Below w.heap.size w wr) (fun i _ => n - (intOf i).toNat)
  case atStart => exact ⟨0, Nat.zero_le _, rfl, rfl, Below.refl _ _⟩
  case round =>
    obtain ⟨k, hk, rfl, hall, hbw⟩ := hrel
    by_cases hlt : k < n
    · obtain ⟨b, o, q, rfl, _, _, hq, hrg, _⟩ := (HT.out.below hbw).at_ k hlt
      have HS : Hid ((Q.take (k + 1)).all rbS = rbS q) := Lib.hid (by rw [List.take_add_one, hq, List.all_append, hall]; simp)
      have HN : Hid (rbS q = false → smallT Q = false) := Lib.hid (fun e => by
        unfold smallT
        have h1 : Q.all rbS = false := by
          rw [List.all_eq_false]
          exact ⟨q, List.mem_of_getElem? hq, by simp [e]⟩
        rw [h1, Bool.and_false])
      have HRG : Hid (wr.rangeAt b (o + k * 5) (dbI q.al q.lim q.A q.L.length q.c q.B q.N.length q.d q.ph)) := Lib.hid hrg
      have HB := Lib.hid hbw
      have HBX := Lib.hid (Blk.new wr (dbI q.al q.lim q.A q.L.length q.c q.B q.N.length q.d q.ph) 113)
      have CS : Hid (∀ W, Calls Tryz.prog 45 #[.agg (dbI q.al q.lim q.A q.L.length q.c q.B q.N.length q.d q.ph).toArray] W fun e w' => e = .returned (.bool (rbS q)) ∧ Below W.heap.size W w') := Lib.hid (fun W => c_small22 q.al q.lim q.ph q.A q.L.length q.c q.B q.N.length q.d W)
      clear hq hrg hbw hall
      generalize rbS q = bq at CS HS HN
      have HUP := Lib.hid (up_alloc wr (.cells (dbI q.al q.lim q.A q.L.length q.c q.B q.N.length q.d q.ph).toArray 113))
      cases bq
      all_goals
        go_wp2_with (first | (refine lmr (b := b) (q := o + k * 5) (cs := dbI q.al q.lim q.A q.L.length q.c q.B q.N.length q.d q.ph) (.tmp 9) rfl rfl Tryz.underlying113 rfl info_db rfl ?_ ?_; (· exact HRG.out)) | (refine snr (t := 113) (W := wr) (cs := dbI q.al q.lim q.A q.L.length q.c q.B q.N.length q.d q.ph) (zs := dbZ) (.tmp 4) (.tmp 10) rfl rfl rfl rfl info_db rfl (rbC_one (r := q)) ?_ ?_ ?_; (· rfl); (· rfl)) | (refine ldr (b := wr.heap.size) (cs := dbI q.al q.lim q.A q.L.length q.c q.B q.N.length q.d q.ph) (t := 113) (.tmp 4) rfl rfl Tryz.underlying113 rfl info_db rfl ?_ ?_; (· exact HBX.out)))
        refine (CS.out _).mono ?_; rintro e w2 ⟨rfl, hb2⟩
        have HB2 := Lib.hid (up_trans HUP.out hb2)
        clear hb2
        go_wp2_with fail
      · go_ret
        exact ⟨ret_bool (by first | exact (HN.out rfl).symm | exact (HN.out trivial).symm), up_trans HB.out HB2.out⟩
      · go_roundw
        case rel => exact ⟨k + 1, by omega, by go_num, HS.out, up_trans HB.out HB2.out⟩
        case measure => simp [intOf]; omega
    · obtain rfl : k = n := by omega
      have HB := Lib.hid hbw
      have HE : Hid (smallT Q = decide (k ≤ 10)) := Lib.hid (by
        unfold smallT
        rw [List.take_of_length_le (by rw [HL.out]; exact Nat.le_refl _)] at hall
        rw [hall, Bool.and_true, HL.out])
      clear hbw hall
      go_wp2
      go_ret
      exact ⟨ret_bool (by rw [HE.out]; first | rfl | (simp; done) | (simp; omega)), HB.out⟩

end Go.Proofs.YtdiiilnebepfdaaGreatDoor

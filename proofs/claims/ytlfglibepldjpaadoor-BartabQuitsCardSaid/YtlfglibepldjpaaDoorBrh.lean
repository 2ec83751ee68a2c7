/- The law's To, Plain, From, Same and Small (layer 22). -/
import Derived.Test.YtlfglibepldjpaaDoorRlg
import Derived.Test.YtlfglibepldjpaaDoorBre
import Derived.Test.YtlfglibepldjpaaDoorBrg
import Derived.Test.YtlfglibepldjpaaDoorRn
namespace Go.Proofs.YtlfglibepldjpaaDoor
open Go.RowKit

/-- What a call gives that answers a document's barrier of new lists. -/
def EPostN (w : World) (b : BR) (e : Ending) (w' : World) : Prop :=
  ∃ M, e = .returned (.agg (dbC b M).toArray) ∧ DW w' (w.heap.size ≤ ·) b.r M ∧ Below w.heap.size w w'
/-- The cells of an argument. -/
abbrev dbI (al : Bool) (l : Int) (A : Option Addr) (n c : Nat) (B : Option Addr) (m d : Nat) (ph : Int) : List Value := [.bool al, .int .i64 l, .slice A n c, .slice B m d, .int .i64 ph]
theorem built_db (al : Bool) (l : Int) (R : RL) (M : DM) (y : Int) : Tryd.prog.built 73 [(0, .agg #[.bool al, .int .i64 l]), (1, .agg (dlC R M).toArray), (2, .int .i64 y)] = some (dbC ⟨al, l, R, y⟩ M).toArray := by kernel_rfl
theorem e_fin {w wc : World} (up : Below w.heap.size w wc) {b : BR} {M : DM} {n : Nat} (hd : DW wc (n ≤ ·) b.r M) (hn : w.heap.size + 2 ≤ n) (ds : Array Value) :
    EPostN w b (.returned (.agg (dbC b M).toArray)) (wc.setRow (w.heap.size + 1) ds) :=
  have ho : Only (· = w.heap.size + 1) wc (wc.setRow (w.heap.size + 1) ds) := (Only.refl (· = w.heap.size + 1) wc).row rfl ds
  ⟨M, rfl, (hd.only ho (fun k hk hl => by omega)).lo (fun b hb => by omega), up.trans (ho.toBelow up.size (fun k hk => by omega))⟩
theorem plain_roll {w : World} {pl : Nat → Prop} {r : RL} {M : DM} (h : DW w pl r M) : Calls Tryd.prog 68 #[.agg (dlC r M).toArray] w (DLPostN w r) := by
  have hm := len_le r.m
  have ha := len_le r.a
  unfold S4.len at hm ha
  have := c_plain21N (c := M.c) (d := M.d) h.m h.a (by omega) (by omega)
  rwa [ofS_of_ints, ofS_of_ints] at this

set_option maxRecDepth 100000 in
set_option maxHeartbeats 4000000 in
theorem c_plain22 {w : World} {pl pl' : Nat → Prop} {A B : Option Addr} {c d : Nat} {L N : List Int} (al : Bool) (l ph : Int) (hA : RD w pl 1 A L.length (L.map (Value.int .i64))) (hB : RD w pl' 1 B N.length (N.map (Value.int .i64))) (hL : L.length ≤ 1000) (hN : N.length ≤ 1000) :
    Calls Tryd.prog 33 #[.agg (dbI al l A L.length c B N.length d ph).toArray] w (EPostN w ⟨al, l, ⟨ofS L, ofS N⟩, ph⟩) := by
  have hX := BS.of (bx2 w (dbI al l A L.length c B N.length d ph) 73 dbZ 73)
  generalize hw1 : (w.alloc (.cells (dbI al l A L.length c B N.length d ph).toArray 73)).alloc (.cells dbZ.toArray 73) = w1 at hX
  have HW := Lib.hid (show (w.alloc (.cells #[.bool al, .int .i64 l, .slice A L.length c, .slice B N.length d, .int .i64 ph] 73)).alloc (.cells #[.bool false, .int .i64 0, .slice none 0 0, .slice none 0 0, .int .i64 0] 73) = w1 from hw1)
  have HX := Lib.hid hX
  have C1 := Lib.hid (fun W (hW : Below w.heap.size w W) => c_plain21N (c := c) (d := d) (hA.below hW) (hB.below hW) hL hN)
  generalize (⟨ofS L, ofS N⟩ : RL) = R at C1 ⊢
  clear hA hB hX hw1
  go_enter Tryd.func33, Tryd.ntmps33
  go_upto_region 1 with fail
  rw [HW.out]
  refine wp_region_held_drew (S := BS w (dbI al l A L.length c B N.length d ph) 73 73 5) (by kernel_rfl) (HX.out.next (up_drewN _ 1)) (fun hHeld => ?_)
  refine wpAnyH_take (i := 0) (oi := ?_) (v := ?_) ?_ (by kernel_rfl) (by kernel_rfl) (by kernel_rfl) ?_ (Or.inl ⟨?_, ?_⟩) hHeld ?_
  rotate_left 2
  · conv => lhs; simp only [List.getElem?_toArray, List.getElem?_cons_succ, List.getElem?_cons_zero]
  · exact fun _ _ _ h => h
  · rfl
  · intro W hSw
    go_simp
    try with_reducible rfl
  try simp only [Act.put, List.setIfInBounds_toArray, List.set_cons_zero, List.set_cons_succ]
  refine wpAnyH_take (i := 1) (oi := ?_) (v := ?_) ?_ (by kernel_rfl) (by kernel_rfl) (by kernel_rfl) ?_ (Or.inl ⟨?_, ?_⟩) hHeld ?_
  rotate_left 2
  · conv => lhs; simp only [List.getElem?_toArray, List.getElem?_cons_succ, List.getElem?_cons_zero]
  · exact fun _ _ _ h => h
  · rfl
  · intro W hSw
    have c0 := hSw.box.cell 0 _ rfl
    have c1 := hSw.box.cell 1 _ rfl
    have c2 := hSw.box.cell 2 _ rfl
    have c3 := hSw.box.cell 3 _ rfl
    have c4 := hSw.box.cell 4 _ rfl
    go_simp
    try with_reducible rfl
  try simp only [Act.put, List.setIfInBounds_toArray, List.set_cons_zero, List.set_cons_succ]
  refine wpAnyH_take (i := 2) (oi := ?_) (v := ?_) ?_ (by kernel_rfl) (by kernel_rfl) (by kernel_rfl) ?_ (Or.inl ⟨?_, ?_⟩) hHeld ?_
  rotate_left 2
  · conv => lhs; simp only [List.getElem?_toArray, List.getElem?_cons_succ, List.getElem?_cons_zero]
  · exact fun _ _ _ h => h
  · rfl
  · intro W hSw
    go_simp
    try with_reducible rfl
  try simp only [Act.put, List.setIfInBounds_toArray, List.set_cons_zero, List.set_cons_succ]
  refine wpAnyH_take (i := 3) (oi := ?_) (v := ?_) ?_ (by kernel_rfl) (by kernel_rfl) (by kernel_rfl) ?_ (Or.inl ⟨?_, ?_⟩) hHeld ?_
  rotate_left 2
  · conv => lhs; simp only [List.getElem?_toArray, List.getElem?_cons_succ, List.getElem?_cons_zero]
  · exact fun _ _ _ h => h
  · rfl
  · intro W hSw
    have c0 := hSw.box.cell 0 _ rfl
    have c1 := hSw.box.cell 1 _ rfl
    have c2 := hSw.box.cell 2 _ rfl
    have c3 := hSw.box.cell 3 _ rfl
    have c4 := hSw.box.cell 4 _ rfl
    go_simp
    try with_reducible rfl
  try simp only [Act.put, List.setIfInBounds_toArray, List.set_cons_zero, List.set_cons_succ]
  refine wpAnyH_take (i := 5) (oi := ?_) (v := ?_) ?_ (by kernel_rfl) (by kernel_rfl) (by kernel_rfl) ?_ (Or.inl ⟨?_, ?_⟩) hHeld ?_
  rotate_left 2
  · conv => lhs; simp only [List.getElem?_toArray, List.getElem?_cons_succ, List.getElem?_cons_zero]
  · exact fun _ _ _ h => h
  · rfl
  · intro W hSw
    go_simp
    try with_reducible rfl
  try simp only [Act.put, List.setIfInBounds_toArray, List.set_cons_zero, List.set_cons_succ]
  refine wpAnyH_take (i := 6) (oi := ?_) (v := ?_) ?_ (by kernel_rfl) (by kernel_rfl) (by kernel_rfl) ?_ (Or.inl ⟨?_, ?_⟩) hHeld ?_
  rotate_left 2
  · conv => lhs; simp only [List.getElem?_toArray, List.getElem?_cons_succ, List.getElem?_cons_zero]
  · exact fun _ _ _ h => h
  · rfl
  · intro W hSw
    have c0 := hSw.box.cell 0 _ rfl
    have c1 := hSw.box.cell 1 _ rfl
    have c2 := hSw.box.cell 2 _ rfl
    have c3 := hSw.box.cell 3 _ rfl
    have c4 := hSw.box.cell 4 _ rfl
    go_simp
    try with_reducible rfl
  try simp only [Act.put, List.setIfInBounds_toArray, List.set_cons_zero, List.set_cons_succ]
  refine wpAnyH_ready (rs := [4]) (by kernel_rfl) (by simp) ?_
  refine AllReadyH.cons (o := ?_) ?_ (fun K hK => ?_) AllReadyH.nil
  rotate_left 1
  · conv => lhs; simp only [List.getElem?_toArray, List.getElem?_cons_succ, List.getElem?_cons_zero]
  go_simp
  refine (C1.out _ hHeld.up).mono ?_
  rintro e wA ⟨M, rfl, hd, hb⟩
  have HG := Lib.hid hHeld.big
  have HD := Lib.hid hd
  clear hd
  go_wp2_with fail
  refine hK.out _ _ (hHeld.next hb) (fun hHeld => ?_)
  clear hK K
  try simp only [Act.put, List.setIfInBounds_toArray, List.set_cons_zero, List.set_cons_succ]
  have HBD := Lib.hid (built_db al l R M ph)
  refine wpAnyH_take (i := 7) (oi := ?_) (v := (.agg (dbC ⟨al, l, R, ph⟩ M).toArray)) ?_ (by kernel_rfl) (by kernel_rfl) (by kernel_rfl) ?_ (Or.inl ⟨?_, ?_⟩) hHeld ?_
  rotate_left 1
  · conv => lhs; simp only [List.getElem?_toArray, List.getElem?_cons_succ, List.getElem?_cons_zero]
  · exact fun _ _ _ h => h
  · rfl
  · intro W hSw
    exact tk_build rfl (by simpa [Act.eval] using HBD.out)
  try simp only [Act.put, List.setIfInBounds_toArray, List.set_cons_zero, List.set_cons_succ]
  obtain ⟨ds, hds, hres⟩ := hHeld.res
  have HU := Lib.hid hHeld.up
  refine wpAnyH_ready (rs := [8]) (by kernel_rfl) (by simp) ?_
  refine AllReadyH.cons (o := ?_) ?_ (fun K hK => ?_) AllReadyH.nil
  rotate_left 1
  · conv => lhs; simp only [List.getElem?_toArray, List.getElem?_cons_succ, List.getElem?_cons_zero]
  rw [if_pos (by rfl)]
  refine wp_store_row 73 (.tmp 2) (.tmp 10) rfl (w.heap.size + 1) (dbC ⟨al, l, R, ph⟩ M).toArray rfl rfl 73 ds.toArray hres info_db (by rw [List.size_toArray, List.size_toArray, hds]; rfl) (al_one dbC_one) ?_
  refine hK.out _ _ (hHeld.put (dbC ⟨al, l, R, ph⟩ M) rfl) (fun hHeld => ?_)
  clear hK K
  refine wpAnyH_done (by kernel_rfl) ?_ _
  go_wp2_with fail
  refine bodyPost_ret (v := .agg (dbC ⟨al, l, R, ph⟩ M).toArray) (results_c (fn := Tryd.f33) (p := 2) rfl _ _ _ rfl (hres.row _) Tryd.underlying73 rfl info_db) rfl ?_
  exact e_fin (b := ⟨al, l, R, ph⟩) HU.out HD.out HG.out _

set_option maxRecDepth 100000 in
set_option maxHeartbeats 4000000 in
theorem c_to22 {pl : Nat → Prop} {b : BR} {M : DM} {w : World} (h : DW w pl b.r M) :
    Calls Tryd.prog 34 #[.agg (dbC b M).toArray] w fun e w' => e = .returned (.agg (brC b).toArray) ∧ Below w.heap.size w w' := by
  have hX := BS.of (bx2 w (dbC b M) 73 brZ 66)
  generalize hw1 : (w.alloc (.cells (dbC b M).toArray 73)).alloc (.cells brZ.toArray 66) = w1 at hX
  have HW := Lib.hid (show (w.alloc (.cells (dbC b M).toArray 73)).alloc (.cells #[.bool false, .int .i64 0, .int .u64 0, .int .u64 0, .int .u64 0, .int .u64 0, .int .u64 0, .int .u64 0, .int .u64 0, .int .u64 0, .int .i64 0] 66) = w1 from hw1)
  have HX := Lib.hid hX
  have C1 := Lib.hid (fun W (hW : Below w.heap.size w W) => plain_roll (h.below hW))
  have HBD := Lib.hid (built_bar b.al b.lim b.r b.ph)
  clear h hX hw1
  go_enter Tryd.func34, Tryd.ntmps34
  go_upto_region 1 with fail
  rw [HW.out]
  refine wp_region_held_drew (S := BS w (dbC b M) 73 66 11) (by kernel_rfl) (HX.out.next (up_drewN _ 1)) (fun hHeld => ?_)
  refine wpAnyH_take (i := 0) (oi := ?_) (v := ?_) ?_ (by kernel_rfl) (by kernel_rfl) (by kernel_rfl) ?_ (Or.inl ⟨?_, ?_⟩) hHeld ?_
  rotate_left 2
  · conv => lhs; simp only [List.getElem?_toArray, List.getElem?_cons_succ, List.getElem?_cons_zero]
  · exact fun _ _ _ h => h
  · rfl
  · intro W hSw
    go_simp
    try with_reducible rfl
  try simp only [Act.put, List.setIfInBounds_toArray, List.set_cons_zero, List.set_cons_succ]
  refine wpAnyH_take (i := 1) (oi := ?_) (v := ?_) ?_ (by kernel_rfl) (by kernel_rfl) (by kernel_rfl) ?_ (Or.inl ⟨?_, ?_⟩) hHeld ?_
  rotate_left 2
  · conv => lhs; simp only [List.getElem?_toArray, List.getElem?_cons_succ, List.getElem?_cons_zero]
  · exact fun _ _ _ h => h
  · rfl
  · intro W hSw
    obtain ⟨c0, c1, c4⟩ := hSw.box.db
    have c2 := hSw.box.cell 2 _ rfl
    have c3 := hSw.box.cell 3 _ rfl
    go_simp
    try with_reducible rfl
  try simp only [Act.put, List.setIfInBounds_toArray, List.set_cons_zero, List.set_cons_succ]
  refine wpAnyH_take (i := 2) (oi := ?_) (v := ?_) ?_ (by kernel_rfl) (by kernel_rfl) (by kernel_rfl) ?_ (Or.inl ⟨?_, ?_⟩) hHeld ?_
  rotate_left 2
  · conv => lhs; simp only [List.getElem?_toArray, List.getElem?_cons_succ, List.getElem?_cons_zero]
  · exact fun _ _ _ h => h
  · rfl
  · intro W hSw
    go_simp
    try with_reducible rfl
  try simp only [Act.put, List.setIfInBounds_toArray, List.set_cons_zero, List.set_cons_succ]
  refine wpAnyH_take (i := 3) (oi := ?_) (v := (.agg (dlC b.r M).toArray)) ?_ (by kernel_rfl) (by kernel_rfl) (by kernel_rfl) ?_ (Or.inl ⟨?_, ?_⟩) hHeld ?_
  rotate_left 1
  · conv => lhs; simp only [List.getElem?_toArray, List.getElem?_cons_succ, List.getElem?_cons_zero]
  · exact fun _ _ _ h => h
  · rfl
  · intro W hSw
    exact tk_part (q := 2) rfl rfl Tryd.underlying71 rfl info_dl (hSw.box.part 2 2 rfl)
  try simp only [Act.put, List.setIfInBounds_toArray, List.set_cons_zero, List.set_cons_succ]
  refine wpAnyH_take (i := 6) (oi := ?_) (v := ?_) ?_ (by kernel_rfl) (by kernel_rfl) (by kernel_rfl) ?_ (Or.inl ⟨?_, ?_⟩) hHeld ?_
  rotate_left 2
  · conv => lhs; simp only [List.getElem?_toArray, List.getElem?_cons_succ, List.getElem?_cons_zero]
  · exact fun _ _ _ h => h
  · rfl
  · intro W hSw
    go_simp
    try with_reducible rfl
  try simp only [Act.put, List.setIfInBounds_toArray, List.set_cons_zero, List.set_cons_succ]
  refine wpAnyH_take (i := 7) (oi := ?_) (v := ?_) ?_ (by kernel_rfl) (by kernel_rfl) (by kernel_rfl) ?_ (Or.inl ⟨?_, ?_⟩) hHeld ?_
  rotate_left 2
  · conv => lhs; simp only [List.getElem?_toArray, List.getElem?_cons_succ, List.getElem?_cons_zero]
  · exact fun _ _ _ h => h
  · rfl
  · intro W hSw
    obtain ⟨c0, c1, c4⟩ := hSw.box.db
    have c2 := hSw.box.cell 2 _ rfl
    have c3 := hSw.box.cell 3 _ rfl
    go_simp
    try with_reducible rfl
  try simp only [Act.put, List.setIfInBounds_toArray, List.set_cons_zero, List.set_cons_succ]
  refine wpAnyH_ready (rs := [4]) (by kernel_rfl) (by simp) ?_
  refine AllReadyH.cons (o := ?_) ?_ (fun K hK => ?_) AllReadyH.nil
  rotate_left 1
  · conv => lhs; simp only [List.getElem?_toArray, List.getElem?_cons_succ, List.getElem?_cons_zero]
  go_simp
  refine (C1.out _ hHeld.up).mono ?_
  rintro e wA ⟨N, rfl, hd, hb⟩
  have HD := Lib.hid hd
  clear hd
  go_wp2_with fail
  refine hK.out _ _ (hHeld.next hb) (fun hHeld => ?_)
  clear hK K
  try simp only [Act.put, List.setIfInBounds_toArray, List.set_cons_zero, List.set_cons_succ]
  refine wpAnyH_ready (rs := [5]) (by kernel_rfl) (by simp) ?_
  refine AllReadyH.cons (o := ?_) ?_ (fun K hK => ?_) AllReadyH.nil
  rotate_left 1
  · conv => lhs; simp only [List.getElem?_toArray, List.getElem?_cons_succ, List.getElem?_cons_zero]
  go_simp
  refine (c_to21 HD.out).mono ?_
  rintro e wB ⟨rfl, hb⟩
  go_wp2_with fail
  refine hK.out _ _ (hHeld.next hb) (fun hHeld => ?_)
  clear hK K
  try simp only [Act.put, List.setIfInBounds_toArray, List.set_cons_zero, List.set_cons_succ]
  refine wpAnyH_take (i := 8) (oi := ?_) (v := (.agg (brC b).toArray)) ?_ (by kernel_rfl) (by kernel_rfl) (by kernel_rfl) ?_ (Or.inl ⟨?_, ?_⟩) hHeld ?_
  rotate_left 1
  · conv => lhs; simp only [List.getElem?_toArray, List.getElem?_cons_succ, List.getElem?_cons_zero]
  · exact fun _ _ _ h => h
  · rfl
  · intro W hSw
    exact tk_build rfl (by simpa [Act.eval] using HBD.out)
  try simp only [Act.put, List.setIfInBounds_toArray, List.set_cons_zero, List.set_cons_succ]
  obtain ⟨ds, hds, hres⟩ := hHeld.res
  refine wpAnyH_ready (rs := [9]) (by kernel_rfl) (by simp) ?_
  refine AllReadyH.cons (o := ?_) ?_ (fun K hK => ?_) AllReadyH.nil
  rotate_left 1
  · conv => lhs; simp only [List.getElem?_toArray, List.getElem?_cons_succ, List.getElem?_cons_zero]
  rw [if_pos (by rfl)]
  refine wp_store_row 66 (.tmp 2) (.tmp 11) rfl (w.heap.size + 1) (brC b).toArray rfl rfl 66 ds.toArray hres info_bar (by rw [List.size_toArray, List.size_toArray, hds]; rfl) (al_one brC_one) ?_
  refine hK.out _ _ (hHeld.put (brC b) rfl) (fun hHeld => ?_)
  clear hK K
  refine wpAnyH_done (by kernel_rfl) ?_ _
  go_wp2_with fail
  refine bodyPost_ret (v := .agg (brC b).toArray) (results_c (fn := Tryd.f34) (p := 2) rfl _ _ _ rfl (hres.row _) Tryd.underlying66 rfl info_bar) rfl ?_
  exact ⟨rfl, hHeld.up⟩

set_option maxRecDepth 100000 in
set_option maxHeartbeats 4000000 in
theorem c_from22 (b : BR) (w : World) (hT : TabD w) :
    Calls Tryd.prog 43 #[.agg (brC b).toArray] w (EPostN w b) := by
  have hX := BS.of (bx2 w (brC b) 66 dbZ 73)
  generalize hw1 : (w.alloc (.cells (brC b).toArray 66)).alloc (.cells dbZ.toArray 73) = w1 at hX
  have HW := Lib.hid (show (w.alloc (.cells (brC b).toArray 66)).alloc (.cells #[.bool false, .int .i64 0, .slice none 0 0, .slice none 0 0, .int .i64 0] 73) = w1 from hw1)
  have HX := Lib.hid hX
  have C1 := Lib.hid (fun W (hW : Below w.heap.size w W) => c_from21N b.r W (hT.up hW))
  clear hT hX hw1
  go_enter Tryd.func43, Tryd.ntmps43
  go_upto_region 1 with fail
  rw [HW.out]
  refine wp_region_held_drew (S := BS w (brC b) 66 73 5) (by kernel_rfl) (HX.out.next (up_drewN _ 1)) (fun hHeld => ?_)
  refine wpAnyH_take (i := 0) (oi := ?_) (v := ?_) ?_ (by kernel_rfl) (by kernel_rfl) (by kernel_rfl) ?_ (Or.inl ⟨?_, ?_⟩) hHeld ?_
  rotate_left 2
  · conv => lhs; simp only [List.getElem?_toArray, List.getElem?_cons_succ, List.getElem?_cons_zero]
  · exact fun _ _ _ h => h
  · rfl
  · intro W hSw
    go_simp
    try with_reducible rfl
  try simp only [Act.put, List.setIfInBounds_toArray, List.set_cons_zero, List.set_cons_succ]
  refine wpAnyH_take (i := 1) (oi := ?_) (v := ?_) ?_ (by kernel_rfl) (by kernel_rfl) (by kernel_rfl) ?_ (Or.inl ⟨?_, ?_⟩) hHeld ?_
  rotate_left 2
  · conv => lhs; simp only [List.getElem?_toArray, List.getElem?_cons_succ, List.getElem?_cons_zero]
  · exact fun _ _ _ h => h
  · rfl
  · intro W hSw
    obtain ⟨c0, c1, c4⟩ := hSw.box.br
    go_simp
    try with_reducible rfl
  try simp only [Act.put, List.setIfInBounds_toArray, List.set_cons_zero, List.set_cons_succ]
  refine wpAnyH_take (i := 2) (oi := ?_) (v := ?_) ?_ (by kernel_rfl) (by kernel_rfl) (by kernel_rfl) ?_ (Or.inl ⟨?_, ?_⟩) hHeld ?_
  rotate_left 2
  · conv => lhs; simp only [List.getElem?_toArray, List.getElem?_cons_succ, List.getElem?_cons_zero]
  · exact fun _ _ _ h => h
  · rfl
  · intro W hSw
    go_simp
    try with_reducible rfl
  try simp only [Act.put, List.setIfInBounds_toArray, List.set_cons_zero, List.set_cons_succ]
  refine wpAnyH_take (i := 3) (oi := ?_) (v := (.agg (rlC b.r).toArray)) ?_ (by kernel_rfl) (by kernel_rfl) (by kernel_rfl) ?_ (Or.inl ⟨?_, ?_⟩) hHeld ?_
  rotate_left 1
  · conv => lhs; simp only [List.getElem?_toArray, List.getElem?_cons_succ, List.getElem?_cons_zero]
  · exact fun _ _ _ h => h
  · rfl
  · intro W hSw
    exact tk_part (q := 2) rfl rfl Tryd.underlying64 rfl info_roll (hSw.box.part 2 8 rfl)
  try simp only [Act.put, List.setIfInBounds_toArray, List.set_cons_zero, List.set_cons_succ]
  refine wpAnyH_take (i := 5) (oi := ?_) (v := ?_) ?_ (by kernel_rfl) (by kernel_rfl) (by kernel_rfl) ?_ (Or.inl ⟨?_, ?_⟩) hHeld ?_
  rotate_left 2
  · conv => lhs; simp only [List.getElem?_toArray, List.getElem?_cons_succ, List.getElem?_cons_zero]
  · exact fun _ _ _ h => h
  · rfl
  · intro W hSw
    go_simp
    try with_reducible rfl
  try simp only [Act.put, List.setIfInBounds_toArray, List.set_cons_zero, List.set_cons_succ]
  refine wpAnyH_take (i := 6) (oi := ?_) (v := ?_) ?_ (by kernel_rfl) (by kernel_rfl) (by kernel_rfl) ?_ (Or.inl ⟨?_, ?_⟩) hHeld ?_
  rotate_left 2
  · conv => lhs; simp only [List.getElem?_toArray, List.getElem?_cons_succ, List.getElem?_cons_zero]
  · exact fun _ _ _ h => h
  · rfl
  · intro W hSw
    obtain ⟨c0, c1, c4⟩ := hSw.box.br
    go_simp
    try with_reducible rfl
  try simp only [Act.put, List.setIfInBounds_toArray, List.set_cons_zero, List.set_cons_succ]
  refine wpAnyH_ready (rs := [4]) (by kernel_rfl) (by simp) ?_
  refine AllReadyH.cons (o := ?_) ?_ (fun K hK => ?_) AllReadyH.nil
  rotate_left 1
  · conv => lhs; simp only [List.getElem?_toArray, List.getElem?_cons_succ, List.getElem?_cons_zero]
  go_simp
  refine (C1.out _ hHeld.up).mono ?_
  rintro e wA ⟨M, rfl, hd, hb⟩
  have HG := Lib.hid hHeld.big
  have HD := Lib.hid hd
  clear hd
  go_wp2_with fail
  refine hK.out _ _ (hHeld.next hb) (fun hHeld => ?_)
  clear hK K
  try simp only [Act.put, List.setIfInBounds_toArray, List.set_cons_zero, List.set_cons_succ]
  have HBD := Lib.hid (built_db b.al b.lim b.r M b.ph)
  refine wpAnyH_take (i := 7) (oi := ?_) (v := (.agg (dbC b M).toArray)) ?_ (by kernel_rfl) (by kernel_rfl) (by kernel_rfl) ?_ (Or.inl ⟨?_, ?_⟩) hHeld ?_
  rotate_left 1
  · conv => lhs; simp only [List.getElem?_toArray, List.getElem?_cons_succ, List.getElem?_cons_zero]
  · exact fun _ _ _ h => h
  · rfl
  · intro W hSw
    exact tk_build rfl (by simpa [Act.eval] using HBD.out)
  try simp only [Act.put, List.setIfInBounds_toArray, List.set_cons_zero, List.set_cons_succ]
  obtain ⟨ds, hds, hres⟩ := hHeld.res
  have HU := Lib.hid hHeld.up
  refine wpAnyH_ready (rs := [8]) (by kernel_rfl) (by simp) ?_
  refine AllReadyH.cons (o := ?_) ?_ (fun K hK => ?_) AllReadyH.nil
  rotate_left 1
  · conv => lhs; simp only [List.getElem?_toArray, List.getElem?_cons_succ, List.getElem?_cons_zero]
  rw [if_pos (by rfl)]
  refine wp_store_row 73 (.tmp 2) (.tmp 10) rfl (w.heap.size + 1) (dbC b M).toArray rfl rfl 73 ds.toArray hres info_db (by rw [List.size_toArray, List.size_toArray, hds]; rfl) (al_one dbC_one) ?_
  refine hK.out _ _ (hHeld.put (dbC b M) rfl) (fun hHeld => ?_)
  clear hK K
  refine wpAnyH_done (by kernel_rfl) ?_ _
  go_wp2_with fail
  refine bodyPost_ret (v := .agg (dbC b M).toArray) (results_c (fn := Tryd.f43) (p := 2) rfl _ _ _ rfl (hres.row _) Tryd.underlying73 rfl info_db) rfl ?_
  exact e_fin HU.out HD.out HG.out _

set_option maxRecDepth 100000 in
set_option maxHeartbeats 4000000 in
theorem c_same22 {pl pl' : Nat → Prop} {b : BR} {M N : DM} {w : World} (h : DW w pl b.r M) (k : DW w pl' b.r N) :
    Calls Tryd.prog 42 #[.agg (dbC b M).toArray, .agg (dbC b N).toArray] w fun e w' => e = .returned (.bool true) ∧ Below w.heap.size w w' := by
  have hX := bx2 w (dbC b M) 73 (dbC b N) 73
  generalize hw1 : (w.alloc (.cells (dbC b M).toArray 73)).alloc (.cells (dbC b N).toArray 73) = w1 at hX
  have HW := Lib.hid hw1
  have HX := Lib.hid hX
  have C1 := Lib.hid (fun W (hW : Below w.heap.size w W) => c_same21 (h.below hW) (k.below hW))
  have hq : ∀ W, (Op.equalIn 10000 59 (.agg #[.bool b.al, .int .i64 b.lim]) (.agg #[.bool b.al, .int .i64 b.lim])).run Tryd.prog W = .ok true W := fun W => by
    have := eq_conf 9998 b.al b.al b.lim b.lim W
    simpa using this
  have g : (b.ph == b.ph) = true := beq_self_eq_true _
  clear h k hX hw1
  obtain ⟨a0, a1, a4⟩ := HX.out.box.db
  obtain ⟨d0, d1, d4⟩ := HX.out.res.db
  go_enter Tryd.func42, Tryd.ntmps42
  go_upto_region 1 with fail
  rw [HW.out]
  go_wp2_with (first | (refine lmr (b := w.heap.size) (q := 2) (cs := dlC b.r M) (.tmp 11) rfl rfl Tryd.underlying71 rfl info_dl rfl ?_ ?_; (· exact HX.out.box.part 2 2 rfl)) | (refine lmr (b := w.heap.size + 1) (q := 2) (cs := dlC b.r N) (.tmp 13) rfl rfl Tryd.underlying71 rfl info_dl rfl ?_ ?_; (· exact HX.out.res.part 2 2 rfl)) | rw [hq])
  refine (C1.out _ HX.out.up).mono ?_; rintro e w2 ⟨rfl, hb⟩
  have HA := Lib.hid (HX.out.next hb)
  clear hb a0 a1 a4 d0 d1 d4
  obtain ⟨a0, a1, a4⟩ := HA.out.box.db
  obtain ⟨d0, d1, d4⟩ := HA.out.res.db
  go_wp2
  go_ret
  exact ⟨rfl, HA.out.up⟩

set_option maxRecDepth 100000 in
set_option maxHeartbeats 4000000 in
theorem c_small22 (al : Bool) (l ph : Int) (A : Option Addr) (n c : Nat) (B : Option Addr) (m d : Nat) (w : World) :
    Calls Tryd.prog 32 #[.agg (dbI al l A n c B m d ph).toArray] w fun e w' => e = .returned (.bool (decide (n ≤ 40) && decide (m ≤ 40))) ∧ Below w.heap.size w w' := by
  have hX := bx1 w (dbI al l A n c B m d ph) 73
  generalize hw1 : w.alloc (.cells (dbI al l A n c B m d ph).toArray 73) = w1 at hX
  have HW := Lib.hid (show w.alloc (.cells #[.bool al, .int .i64 l, .slice A n c, .slice B m d, .int .i64 ph] 73) = w1 from hw1)
  have HX := Lib.hid hX
  have c2 := hX.box.cell 2 _ rfl
  have c3 := hX.box.cell 3 _ rfl
  clear hX hw1
  rcases (by omega : 40 < (n : Int) ∨ ((n : Int) ≤ 40 ∧ 40 < (m : Int)) ∨ ((n : Int) ≤ 40 ∧ (m : Int) ≤ 40)) with h1 | ⟨h1, h2⟩ | ⟨h1, h2⟩
  · have HE : Hid ((decide (n ≤ 40) && decide (m ≤ 40)) = false) := Lib.hid (by rw [decide_eq_false (by omega)]; rfl)
    rw [HE.out]
    go_enter Tryd.func32, Tryd.ntmps32
    go_upto_region 1 with fail
    rw [HW.out]
    go_wp2
    go_ret
    exact ⟨ret_bool (by first | rfl | (simp; done) | (simp; omega)), HX.out.up⟩
  · have HE : Hid ((decide (n ≤ 40) && decide (m ≤ 40)) = false) := Lib.hid (by rw [decide_eq_false (show ¬ m ≤ 40 by omega), Bool.and_false])
    rw [HE.out]
    go_enter Tryd.func32, Tryd.ntmps32
    go_upto_region 1 with fail
    rw [HW.out]
    go_wp2
    go_ret
    exact ⟨ret_bool (by first | rfl | (simp; done) | (simp; omega)), HX.out.up⟩
  · have HE : Hid ((decide (n ≤ 40) && decide (m ≤ 40)) = true) := Lib.hid (by rw [decide_eq_true (show n ≤ 40 by omega), decide_eq_true (show m ≤ 40 by omega)]; rfl)
    rw [HE.out]
    go_enter Tryd.func32, Tryd.ntmps32
    go_upto_region 1 with fail
    rw [HW.out]
    go_wp2
    go_ret
    exact ⟨ret_bool (by first | rfl | (simp; done) | (simp; omega)), HX.out.up⟩
end Go.Proofs.YtlfglibepldjpaaDoor

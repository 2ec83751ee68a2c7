/- The law's To, From, Same and Small. -/
import Derived.Test.YtnmjjemkaamcfaaYc
import Derived.Test.YtnmjjemkaamcfaaKa
import Derived.Test.YtnmjjemkaamcfaaYh
import Derived.Great.BuildSlice
namespace Go.Proofs.Ytnmjjemkaamcfaa
open Go.RowKit

/-- A slice literal of one channel. -/
theorem wpList_oneQ {P : Program} {w : World} {ops : Array Oper} {rest : List Oper} {o : Oper} {a : Act} {Q : Exit → Act → World → Prop} {t e : TypeId} {bytes : Nat} (E : EI P t e (.agg chZ.toArray) 11 bytes) (hg : o.guard = none) (x : Operand)
    (ho : o.op = .buildSlice t 1 #[(0, x)]) (C : CP) (M : SM) (hx : a.eval x = .agg (chC C M).toArray)
    (h : wpList P ops Q rest (a.put o.dst (.slice (some ⟨w.heap.size, 0, none⟩) 1 1)) (w.alloc (.cells (chC C M).toArray e))) : wpList P ops Q (o :: rest) a w := by
  obtain ⟨i, hi, hz, hs, hb⟩ := info_parts E.info
  refine wpList_buildSlice hg t e 1 _ ho (chC C M).toArray i _ E.under hi hz (by rw [hs]; decide) (by rw [hs]; decide) ?_ h
  rw [hs]
  have e1 : ((#[(0, x)] : Array (Nat × Operand)).map fun (i, x) => (i, a.eval x)).toList = [(0, .agg (chC C M).toArray)] := by simp [hx]
  rw [e1]
  have e2 : Instr.fill (fun i => some (i * 11, 11)) ((Array.range (1 * 11)).map ((Value.agg chZ.toArray).cells[· % (Value.agg chZ.toArray).cells.size]!)) [(0, .agg (chC C M).toArray)] = some (chC C M).toArray := by kernel_rfl
  exact e2
theorem ei_rt : EI Try.prog 22 78 (.agg chZ.toArray) 11 152 := ⟨Try.underlying22, by kernel_rfl, rfl, by omega, by omega⟩
/-- A table that reads so, in new memory. -/
def TbPost (w : World) (n : Nat) (L : List CQ) (e : Ending) (w' : World) : Prop := ∃ A c, e = .returned (.slice A n c) ∧ TbW w' (w.heap.size ≤ ·) A n c L ∧ Below w.heap.size w w'
theorem TbPost.of {w w' : World} {T : TypeId} {v : Value} {n : Nat} {L : List CQ} (h : w'.ownsRow w.heap.size T 11 v n (L.flatMap cellsQ)) (hl : L.length = n) (k : ∀ q ∈ L, ChW w tt q.1 q.2) (hb : Below w.heap.size w w') : TbPost w n L (.returned v) w' := by
  obtain ⟨A, c, rfl, h1, h2, h3⟩ := own_slice h
  exact ⟨A, c, rfl, ⟨h3, hl, h1, h2, fun q hq => (k q hq).below hb⟩, hb⟩

set_option maxRecDepth 100000 in
set_option maxHeartbeats 4000000 in
theorem c_tto {w : World} {pl : Nat → Prop} {A : Option Addr} {n c : Nat} {L : List CQ} (h : TbW w pl A n c L) (hn : n ≤ 1000) :
    Calls Try.prog 8 #[.slice A n c] w (TbPost w n L) := by
  have HT := Lib.hid h
  have HL := Lib.hid h.len
  clear h
  go_enter Try.func8, Try.ntmps8
  go_wp2_with fail
  go_loopw [3, 8] (fun s i wr => ∃ k : Nat, k ≤ n ∧ i = .int .i64 k ∧ wr.ownsRow w.heap.size 73 11 s k ((L.take k).flatMap cellsQ) ∧ Below w.heap.size w wr) (fun _ i _ => n - (intOf i).toNat)
  case atStart => exact ⟨0, Nat.zero_le _, rfl, World.ownsRow_nil _ _ _ _, Below.refl _ _⟩
  case round =>
    obtain ⟨k, hk, rfl, hown, hbw⟩ := hrel
    by_cases hlt : k < n
    · obtain ⟨b, o, q, rfl, _, _, hq, hrg, _⟩ := (HT.out.below hbw).at_ k hlt
      have HS : Hid (L.take (k + 1) = L.take k ++ [q]) := Lib.hid (by rw [List.take_add_one, hq]; rfl)
      have HRG := Lib.hid hrg
      have HB := Lib.hid hbw
      have HO := Lib.hid hown
      have HBX := Lib.hid (Blk.new wr (cellsQ q) 78)
      clear hq hrg hown hbw
      go_wp2_with (first | (refine lm_row' (cs := cellsQ q) (.tmp 10) rfl rfl Try.underlying78 rfl info_rch rfl ?_ ?_; (· exact HRG.out)) | (refine sn_row' (t := 78) (W := wr) (cs := cellsQ q) (zs := chZ) (.tmp 5) (.tmp 11) rfl rfl rfl rfl info_rch rfl chC_one ?_ ?_ ?_; (· rfl); (· rfl)) | (refine ld_row' (cs := cellsQ q) (t := 78) (.tmp 5) rfl rfl Try.underlying78 rfl info_rch rfl ?_ ?_; (· exact HBX.out)))
      refine (c_to _ q.1 q.2).mono ?_; rintro e w2 ⟨rfl, hb2⟩
      have hb3 := up_trans (up_alloc wr (.cells (cellsQ q).toArray 78)) hb2
      have HB3 := Lib.hid hb3
      have HO3 := Lib.hid (own_below (own_below HO.out hb3) (up_alloc w2 (.cells (chC q.1 q.2).toArray 73)))
      have HY : Hid (w.heap.size ≤ (w2.alloc (.cells (chC q.1 q.2).toArray 73)).heap.size) := Lib.hid (by have h1 := HB.out.size; have h2 := hb3.size; simp; omega)
      clear hb2 hb3
      go_wp2_with (first | (refine wpList_oneQ ei_ct rfl (.tmp 14) rfl q.1 q.2 rfl ?_) | (at_builtin; refine wpList_app ei_ct rfl (.tmp 12) (.tmp 15) rfl _ _ rfl HO3.out rfl (RD.oneQ (q := q) rfl) (cellsQ_one [q]) (by omega) HY.out ?_; intro v4 w4 hown4 hb4; have HO4 := Lib.hid hown4; have HB4 := Lib.hid hb4; clear hown4 hb4))
      go_roundw
      case rel => exact ⟨k + 1, by omega, by go_num, by rw [HS.out, List.flatMap_append]; exact HO4.out, (up_trans HB.out (up_trans HB3.out (up_alloc _ _))).trans HB4.out⟩
      case measure => simp [intOf]; omega
    · obtain rfl : k = n := by omega
      have HO := Lib.hid hown
      have HB := Lib.hid hbw
      clear hown hbw
      go_wp2
      go_ret
      have h1 := HO.out
      rw [List.take_of_length_le (by rw [HL.out]; exact Nat.le_refl _)] at h1
      exact TbPost.of h1 HL.out HT.out.each HB.out

set_option maxRecDepth 100000 in
set_option maxHeartbeats 4000000 in
theorem c_tfrom {w : World} {pl : Nat → Prop} {A : Option Addr} {n c : Nat} {L : List CQ} (h : TbW w pl A n c L) (hn : n ≤ 1000) :
    Calls Try.prog 14 #[.slice A n c] w (TbPost w n L) := by
  have HT := Lib.hid h
  have HL := Lib.hid h.len
  clear h
  go_enter Try.func14, Try.ntmps14
  go_wp2_with fail
  go_loopw [3, 8] (fun s i wr => ∃ k : Nat, k ≤ n ∧ i = .int .i64 k ∧ wr.ownsRow w.heap.size 78 11 s k ((L.take k).flatMap cellsQ) ∧ Below w.heap.size w wr) (fun _ i _ => n - (intOf i).toNat)
  case atStart => exact ⟨0, Nat.zero_le _, rfl, World.ownsRow_nil _ _ _ _, Below.refl _ _⟩
  case round =>
    obtain ⟨k, hk, rfl, hown, hbw⟩ := hrel
    by_cases hlt : k < n
    · obtain ⟨b, o, q, rfl, _, _, hq, hrg, _⟩ := (HT.out.below hbw).at_ k hlt
      have HS : Hid (L.take (k + 1) = L.take k ++ [q]) := Lib.hid (by rw [List.take_add_one, hq]; rfl)
      have HRG := Lib.hid hrg
      have HB := Lib.hid hbw
      have HO := Lib.hid hown
      have HBX := Lib.hid (Blk.new wr (cellsQ q) 73)
      clear hq hrg hown hbw
      go_wp2_with (first | (refine lm_row' (cs := cellsQ q) (.tmp 10) rfl rfl Try.underlying73 rfl info_ch rfl ?_ ?_; (· exact HRG.out)) | (refine sn_row' (t := 73) (W := wr) (cs := cellsQ q) (zs := chZ) (.tmp 5) (.tmp 11) rfl rfl rfl rfl info_ch rfl chC_one ?_ ?_ ?_; (· rfl); (· rfl)) | (refine ld_row' (cs := cellsQ q) (t := 73) (.tmp 5) rfl rfl Try.underlying73 rfl info_ch rfl ?_ ?_; (· exact HBX.out)))
      refine (c_from _ q.1 q.2).mono ?_; rintro e w2 ⟨rfl, hb2⟩
      have hb3 := up_trans (up_alloc wr (.cells (cellsQ q).toArray 73)) hb2
      have HB3 := Lib.hid hb3
      have HO3 := Lib.hid (own_below (own_below HO.out hb3) (up_alloc w2 (.cells (chC q.1 q.2).toArray 78)))
      have HY : Hid (w.heap.size ≤ (w2.alloc (.cells (chC q.1 q.2).toArray 78)).heap.size) := Lib.hid (by have h1 := HB.out.size; have h2 := hb3.size; simp; omega)
      clear hb2 hb3
      go_wp2_with (first | (refine wpList_oneQ ei_rt rfl (.tmp 14) rfl q.1 q.2 rfl ?_) | (at_builtin; refine wpList_app ei_rt rfl (.tmp 12) (.tmp 15) rfl _ _ rfl HO3.out rfl (RD.oneQ (q := q) rfl) (cellsQ_one [q]) (by omega) HY.out ?_; intro v4 w4 hown4 hb4; have HO4 := Lib.hid hown4; have HB4 := Lib.hid hb4; clear hown4 hb4))
      go_roundw
      case rel => exact ⟨k + 1, by omega, by go_num, by rw [HS.out, List.flatMap_append]; exact HO4.out, (up_trans HB.out (up_trans HB3.out (up_alloc _ _))).trans HB4.out⟩
      case measure => simp [intOf]; omega
    · obtain rfl : k = n := by omega
      have HO := Lib.hid hown
      have HB := Lib.hid hbw
      clear hown hbw
      go_wp2
      go_ret
      have h1 := HO.out
      rw [List.take_of_length_le (by rw [HL.out]; exact Nat.le_refl _)] at h1
      exact TbPost.of h1 HL.out HT.out.each HB.out

set_option maxRecDepth 100000 in
set_option maxHeartbeats 4000000 in
theorem c_tsame {w : World} {pl pl' : Nat → Prop} {A B : Option Addr} {n m c d : Nat} {L L2 : List CQ} (h : TbW w pl A n c L) (k : TbW w pl' B m d L2) (he : L.map Prod.fst = L2.map Prod.fst) (hf : fewL 1000 L) (hn : n ≤ 1000) :
    Calls Try.prog 13 #[.slice A n c, .slice B m d] w fun e w' => e = .returned (.bool true) ∧ Below w.heap.size w w' := by
  have hlen : m = n := by
    have h1 := congrArg List.length he
    rw [List.length_map, List.length_map, h.len, k.len] at h1
    exact h1.symm
  subst hlen
  have HT := Lib.hid h
  have HK := Lib.hid k
  have HE := Lib.hid he
  have HF := Lib.hid hf
  clear h k he hf
  go_enter Try.func13, Try.ntmps13
  go_wp2_with fail
  go_loopw [5, 13] (fun _ i wr => ∃ k : Nat, k ≤ m ∧ i = .int .i64 k ∧ Below w.heap.size w wr) (fun _ i _ => m - (intOf i).toNat)
  case atStart => exact ⟨0, Nat.zero_le _, rfl, Below.refl _ _⟩
  case round =>
    obtain ⟨k, hk, rfl, hbw⟩ := hrel
    by_cases hlt : k < m
    · obtain ⟨b, o, q, rfl, _, hbl, hq, hrg, hch⟩ := (HT.out.below hbw).at_ k hlt
      obtain ⟨b', o', q', rfl, _, hbl', hq', hrg', hch'⟩ := (HK.out.below hbw).at_ k hlt
      have hqq : q'.1 = q.1 := by
        have h1 := map_fst_at hq
        have h2 := map_fst_at hq'
        rw [HE.out, h2] at h1
        injection h1
      obtain ⟨C, M⟩ := q
      obtain ⟨C', M'⟩ := q'
      simp only at hqq hch hch'
      subst hqq
      have hfm := (HF.out _ (List.mem_of_getElem? hq)).few (by omega) hch
      have CS := Lib.hid (fun W (hW : Below wr.heap.size wr W) => c_csame (hch.below hW) (hch'.below hW) hfm)
      have HR1 := Lib.hid (fun W (hW : Below wr.heap.size wr W) => range_below hrg hW hbl)
      have HR2 := Lib.hid (fun W (hW : Below wr.heap.size wr W) => range_below hrg' hW hbl')
      have HB := Lib.hid hbw
      have hkm : (k : Int) < (m : Int) := by omega
      clear hq hq' hrg hrg' hch hch' hfm hbl hbl' hbw
      go_wp2_with fail
      refine wp_region_held_drew (S := fun W => Below wr.heap.size wr W) (by kernel_rfl) (up_drewN _ 1) (fun hHeld => ?_)
      refine wpAnyH_take (i := 0) (oi := ?_) (v := ?_) ?_ (by kernel_rfl) (by kernel_rfl) (by kernel_rfl) ?_ (Or.inl ⟨?_, ?_⟩) hHeld ?_
      rotate_left 2
      · conv => lhs; simp only [List.getElem?_toArray, List.getElem?_cons_succ, List.getElem?_cons_zero]
      · exact fun _ _ _ h => h
      · rfl
      · intro W hSw
        go_simp
        try with_reducible rfl
      try simp only [Act.put, List.setIfInBounds_toArray, List.set_cons_zero, List.set_cons_succ]
      refine wpAnyH_take (i := 1) (oi := ?_) (v := ?_) ?_ (by kernel_rfl) (by kernel_rfl) (by kernel_rfl) ?_ (Or.inl ⟨?_, ?_⟩) hHeld ?_
      rotate_left 2
      · conv => lhs; simp only [List.getElem?_toArray, List.getElem?_cons_succ, List.getElem?_cons_zero]
      · exact fun _ _ _ h => h
      · rfl
      · intro W hSw
        go_simp
        try with_reducible rfl
      try simp only [Act.put, List.setIfInBounds_toArray, List.set_cons_zero, List.set_cons_succ]
      refine wpAnyH_take (i := 2) (oi := ?_) (v := ?_) ?_ (by kernel_rfl) (by kernel_rfl) (by kernel_rfl) ?_ (Or.inl ⟨?_, ?_⟩) hHeld ?_
      rotate_left 2
      · conv => lhs; simp only [List.getElem?_toArray, List.getElem?_cons_succ, List.getElem?_cons_zero]
      · exact fun _ _ _ h => h
      · rfl
      · intro W hSw
        go_simp
        try with_reducible rfl
      try simp only [Act.put, List.setIfInBounds_toArray, List.set_cons_zero, List.set_cons_succ]
      refine wpAnyH_take (i := 3) (oi := ?_) (v := (.agg (chC C' M).toArray)) ?_ (by kernel_rfl) (by kernel_rfl) (by kernel_rfl) ?_ (Or.inl ⟨?_, ?_⟩) hHeld ?_
      rotate_left 1
      · conv => lhs; simp only [List.getElem?_toArray, List.getElem?_cons_succ, List.getElem?_cons_zero]
      · exact fun _ _ _ h => h
      · rfl
      · intro W hSw
        exact take_mid rfl rfl (run_loadVar_mid _ _ _ _ _ _ (HR1.out _ hSw) Try.underlying78 rfl info_rch)
      try simp only [Act.put, List.setIfInBounds_toArray, List.set_cons_zero, List.set_cons_succ]
      refine wpAnyH_take (i := 4) (oi := ?_) (v := ?_) ?_ (by kernel_rfl) (by kernel_rfl) (by kernel_rfl) ?_ (Or.inl ⟨?_, ?_⟩) hHeld ?_
      rotate_left 2
      · conv => lhs; simp only [List.getElem?_toArray, List.getElem?_cons_succ, List.getElem?_cons_zero]
      · exact fun _ _ _ h => h
      · rfl
      · intro W hSw
        go_simp
        try with_reducible rfl
      try simp only [Act.put, List.setIfInBounds_toArray, List.set_cons_zero, List.set_cons_succ]
      refine wpAnyH_take (i := 5) (oi := ?_) (v := ?_) ?_ (by kernel_rfl) (by kernel_rfl) (by kernel_rfl) ?_ (Or.inl ⟨?_, ?_⟩) hHeld ?_
      rotate_left 2
      · conv => lhs; simp only [List.getElem?_toArray, List.getElem?_cons_succ, List.getElem?_cons_zero]
      · exact fun _ _ _ h => h
      · rfl
      · intro W hSw
        go_simp
        try with_reducible rfl
      try simp only [Act.put, List.setIfInBounds_toArray, List.set_cons_zero, List.set_cons_succ]
      refine wpAnyH_take (i := 6) (oi := ?_) (v := ?_) ?_ (by kernel_rfl) (by kernel_rfl) (by kernel_rfl) ?_ (Or.inl ⟨?_, ?_⟩) hHeld ?_
      rotate_left 2
      · conv => lhs; simp only [List.getElem?_toArray, List.getElem?_cons_succ, List.getElem?_cons_zero]
      · exact fun _ _ _ h => h
      · rfl
      · intro W hSw
        go_simp
        try with_reducible rfl
      try simp only [Act.put, List.setIfInBounds_toArray, List.set_cons_zero, List.set_cons_succ]
      refine wpAnyH_take (i := 7) (oi := ?_) (v := (.agg (chC C' M').toArray)) ?_ (by kernel_rfl) (by kernel_rfl) (by kernel_rfl) ?_ (Or.inl ⟨?_, ?_⟩) hHeld ?_
      rotate_left 1
      · conv => lhs; simp only [List.getElem?_toArray, List.getElem?_cons_succ, List.getElem?_cons_zero]
      · exact fun _ _ _ h => h
      · rfl
      · intro W hSw
        exact take_mid rfl rfl (run_loadVar_mid _ _ _ _ _ _ (HR2.out _ hSw) Try.underlying78 rfl info_rch)
      try simp only [Act.put, List.setIfInBounds_toArray, List.set_cons_zero, List.set_cons_succ]
      refine wpAnyH_ready (rs := [8]) (by kernel_rfl) (by simp) ?_
      refine AllReadyH.cons (o := ?_) ?_ (fun K hK => ?_) AllReadyH.nil
      rotate_left 1
      · conv => lhs; simp only [List.getElem?_toArray, List.getElem?_cons_succ, List.getElem?_cons_zero]
      go_simp
      refine (CS.out _ hHeld).mono ?_
      rintro e wA ⟨rfl, hbA⟩
      go_wp2_with fail
      refine hK.out _ _ (up_trans hHeld hbA) (fun hHeld => ?_)
      clear hK K
      try simp only [Act.put, List.setIfInBounds_toArray, List.set_cons_zero, List.set_cons_succ]
      refine wpAnyH_take (i := 9) (oi := ?_) (v := ?_) ?_ (by kernel_rfl) (by kernel_rfl) (by kernel_rfl) ?_ (Or.inl ⟨?_, ?_⟩) hHeld ?_
      rotate_left 2
      · conv => lhs; simp only [List.getElem?_toArray, List.getElem?_cons_succ, List.getElem?_cons_zero]
      · exact fun _ _ _ h => h
      · rfl
      · intro W hSw
        go_simp
        try with_reducible rfl
      try simp only [Act.put, List.setIfInBounds_toArray, List.set_cons_zero, List.set_cons_succ]
      refine wpAnyH_done (by kernel_rfl) ?_ _
      go_wp2_with fail
      go_roundw
      case rel => exact ⟨k + 1, by omega, by go_num, up_trans HB.out hHeld⟩
      case measure => simp [intOf]; omega
    · obtain rfl : k = m := by omega
      have HB := Lib.hid hbw
      clear hbw
      go_wp2
      go_ret
      exact ⟨rfl, HB.out⟩

/-- The channel's lists are longer than the law takes. -/
def bigB (M : SM) : Bool := decide (20 < (M.V.n : Int)) || (decide (20 < (M.W.n : Int)) || (decide (20 < (M.S.n : Int)) || decide (20 < (M.G.n : Int))))
def smallT (L : List CQ) : Bool := decide (L.length ≤ 10) && L.all fun q => !bigB q.2
theorem smallT_few {w : World} {pl : Nat → Prop} {A : Option Addr} {n c : Nat} {L : List CQ} (h : TbW w pl A n c L) (hs : smallT L = true) : n ≤ 10 ∧ fewL 20 L := by
  unfold smallT at hs
  rw [Bool.and_eq_true, decide_eq_true_eq, List.all_eq_true] at hs
  refine ⟨by rw [← h.len]; exact hs.1, fun q hq => ?_⟩
  have h1 := hs.2 q hq
  have k := h.each q hq
  have k1 := k.v.len
  have k2 := k.w_.len
  have k3 := k.s.len
  have k4 := k.g.len
  unfold bigB at h1
  simp only [Bool.not_eq_true', Bool.or_eq_false_iff, decide_eq_false_iff_not] at h1
  unfold fewC
  omega
set_option maxRecDepth 100000 in
set_option maxHeartbeats 4000000 in
theorem c_tsmall {w : World} {pl : Nat → Prop} {A : Option Addr} {n c : Nat} {L : List CQ} (h : TbW w pl A n c L) :
    Calls Try.prog 6 #[.slice A n c] w fun e w' => e = .returned (.bool (smallT L)) ∧ Below w.heap.size w w' := by
  have HT := Lib.hid h
  have HL := Lib.hid h.len
  clear h
  by_cases h10 : (10 : Int) < n
  · have HE : Hid (smallT L = false) := Lib.hid (by unfold smallT; rw [decide_eq_false (by rw [HL.out]; omega)]; rfl)
    rw [HE.out]
    go_enter Try.func6, Try.ntmps6
    go_wp2
    go_ret
    exact ⟨rfl, Below.refl _ _⟩
  have hn : n ≤ 1000 := by omega
  go_enter Try.func6, Try.ntmps6
  go_wp2_with fail
  go_loopw [10] (fun i wr => ∃ k : Nat, k ≤ n ∧ i = .int .i64 k ∧ ((L.take k).all fun q => !bigB q.2) = true ∧ Below w.heap.size w wr) (fun i _ => n - (intOf i).toNat)
  case atStart => exact ⟨0, Nat.zero_le _, rfl, rfl, Below.refl _ _⟩
  case round =>
    obtain ⟨k, hk, rfl, hall, hbw⟩ := hrel
    by_cases hlt : k < n
    · obtain ⟨b, o, q, rfl, _, _, hq, hrg, _⟩ := (HT.out.below hbw).at_ k hlt
      have HS : Hid (((L.take (k + 1)).all fun q => !bigB q.2) = !bigB q.2) := Lib.hid (by rw [List.take_add_one, hq, List.all_append, hall]; simp)
      have HN : Hid (bigB q.2 = true → smallT L = false) := Lib.hid (fun e => by
        unfold smallT
        have h1 : (L.all fun q => !bigB q.2) = false := by
          rw [List.all_eq_false]
          exact ⟨q, List.mem_of_getElem? hq, by simp [e]⟩
        rw [h1, Bool.and_false])
      have HRG := Lib.hid hrg
      have HB := Lib.hid hbw
      have hbx : Blk (wr.alloc (.cells (cellsQ q).toArray 78)) wr.heap.size (chC q.1 q.2) 78 := Blk.new wr (cellsQ q) 78
      have c5 := hbx.cV
      have c7 := hbx.cW
      have c8 := hbx.cS
      have c10 := hbx.cG
      have HEB : Hid (bigB q.2 = (decide (20 < (q.2.V.n : Int)) || (decide (20 < (q.2.W.n : Int)) || (decide (20 < (q.2.S.n : Int)) || decide (20 < (q.2.G.n : Int)))))) := Lib.hid rfl
      clear hq hrg hbw hbx hall
      by_cases hV : (20 : Int) < q.2.V.n
      · rw [decide_eq_true hV] at HEB
        have HE : Hid (smallT L = false) := Lib.hid (HN.out (by rw [HEB.out]; simp))
        go_wp2_with (first | (refine lm_row' (cs := cellsQ q) (.tmp 12) rfl rfl Try.underlying78 rfl info_rch rfl ?_ ?_; (· exact HRG.out)) | (refine sn_row' (t := 78) (W := wr) (cs := cellsQ q) (zs := chZ) (.tmp 4) (.tmp 13) rfl rfl rfl rfl info_rch rfl chC_one ?_ ?_ ?_; (· rfl); (· rfl)))
        go_ret
        exact ⟨ret_bool HE.out.symm, up_trans HB.out (up_alloc _ _)⟩
      · rw [decide_eq_false hV] at HEB
        by_cases hW : (20 : Int) < q.2.W.n
        · rw [decide_eq_true hW] at HEB
          have HE : Hid (smallT L = false) := Lib.hid (HN.out (by rw [HEB.out]; simp))
          go_wp2_with (first | (refine lm_row' (cs := cellsQ q) (.tmp 12) rfl rfl Try.underlying78 rfl info_rch rfl ?_ ?_; (· exact HRG.out)) | (refine sn_row' (t := 78) (W := wr) (cs := cellsQ q) (zs := chZ) (.tmp 4) (.tmp 13) rfl rfl rfl rfl info_rch rfl chC_one ?_ ?_ ?_; (· rfl); (· rfl)))
          go_ret
          exact ⟨ret_bool HE.out.symm, up_trans HB.out (up_alloc _ _)⟩
        · rw [decide_eq_false hW] at HEB
          by_cases hS : (20 : Int) < q.2.S.n
          · rw [decide_eq_true hS] at HEB
            have HE : Hid (smallT L = false) := Lib.hid (HN.out (by rw [HEB.out]; simp))
            go_wp2_with (first | (refine lm_row' (cs := cellsQ q) (.tmp 12) rfl rfl Try.underlying78 rfl info_rch rfl ?_ ?_; (· exact HRG.out)) | (refine sn_row' (t := 78) (W := wr) (cs := cellsQ q) (zs := chZ) (.tmp 4) (.tmp 13) rfl rfl rfl rfl info_rch rfl chC_one ?_ ?_ ?_; (· rfl); (· rfl)))
            go_ret
            exact ⟨ret_bool HE.out.symm, up_trans HB.out (up_alloc _ _)⟩
          · rw [decide_eq_false hS] at HEB
            by_cases hG : (20 : Int) < q.2.G.n
            · rw [decide_eq_true hG] at HEB
              have HE : Hid (smallT L = false) := Lib.hid (HN.out (by rw [HEB.out]; simp))
              go_wp2_with (first | (refine lm_row' (cs := cellsQ q) (.tmp 12) rfl rfl Try.underlying78 rfl info_rch rfl ?_ ?_; (· exact HRG.out)) | (refine sn_row' (t := 78) (W := wr) (cs := cellsQ q) (zs := chZ) (.tmp 4) (.tmp 13) rfl rfl rfl rfl info_rch rfl chC_one ?_ ?_ ?_; (· rfl); (· rfl)))
              go_ret
              exact ⟨ret_bool HE.out.symm, up_trans HB.out (up_alloc _ _)⟩
            · rw [decide_eq_false hG] at HEB
              have HS2 : Hid (((L.take (k + 1)).all fun q => !bigB q.2) = true) := Lib.hid (by rw [HS.out, HEB.out]; rfl)
              go_wp2_with (first | (refine lm_row' (cs := cellsQ q) (.tmp 12) rfl rfl Try.underlying78 rfl info_rch rfl ?_ ?_; (· exact HRG.out)) | (refine sn_row' (t := 78) (W := wr) (cs := cellsQ q) (zs := chZ) (.tmp 4) (.tmp 13) rfl rfl rfl rfl info_rch rfl chC_one ?_ ?_ ?_; (· rfl); (· rfl)))
              go_roundw
              case rel => exact ⟨k + 1, by omega, by go_num, HS2.out, up_trans HB.out (up_alloc _ _)⟩
              case measure => simp [intOf]; omega
    · obtain rfl : k = n := by omega
      have HB := Lib.hid hbw
      have HE : Hid (smallT L = true) := Lib.hid (by
        unfold smallT
        rw [List.take_of_length_le (by rw [HL.out]; exact Nat.le_refl _)] at hall
        rw [hall, decide_eq_true (by rw [HL.out]; omega)]
        rfl)
      clear hbw hall
      go_wp2
      go_ret
      exact ⟨ret_bool HE.out.symm, HB.out⟩
end Go.Proofs.Ytnmjjemkaamcfaa

/- The document's Sort of events: each put ahead of the first one that it stands ahead of. -/
import Derived.Test.YtajbpplklmhfmaaDoorEvj
import Derived.Test.YtajbpplklmhfmaaDoorEvi
import Derived.Deep.CutBlock
import Derived.Deep.Onto
import Derived.Deep.DeepCutAuto
namespace Go.Proofs.YtajbpplklmhfmaaDoor
open Go.RowKit

theorem ei_rev : EI Tryd.prog 39 23 (.agg #[.int .i64 0, .int .i64 0, .int .i64 0, .int .i64 0]) 4 32 := ⟨Tryd.underlying39, by kernel_rfl, rfl, by omega, by omega⟩
theorem rd_new {w : World} {cs : Array Value} {t : TypeId} {n m : Nat} (hn : n = w.heap.size) (hm : cs.size = m) : RD (w.alloc (.cells cs t)) (fun _ => True) m (some ⟨n, 0, none⟩) 1 cs.toList := by
  subst hn
  have h := Blk.new w cs.toList t
  rw [Array.toArray_toList] at h
  exact RD.of_blk (xs := cs.toList) h (by rw [Array.length_toList, hm, Nat.one_mul]) trivial
theorem rd_drop0 {w : World} {pl : Nat → Prop} {n b : Nat} {xs : List Value} (h : RD w pl 4 (some ⟨b, 0, none⟩) n xs) (k : Nat) (hk : k ≤ n) : RD w pl 4 (some ⟨b, k * 4, none⟩) (n - k) (xs.drop (k * 4)) := by
  have h2 := h.drop k hk
  rwa [Nat.zero_add] at h2
theorem while_at {p : EV → Bool} : ∀ {a b : List EV}, a.all p = true → (b = [] ∨ ∃ y r, b = y :: r ∧ p y = false) → (a ++ b).takeWhile p = a ∧ (a ++ b).dropWhile p = b
  | [], b, _, hb => by
    rcases hb with rfl | ⟨y, r, rfl, hy⟩
    · exact ⟨rfl, rfl⟩
    · simp [hy]
  | x :: a, b, ha, hb => by
    rw [List.all_cons, Bool.and_eq_true] at ha
    obtain ⟨h1, h2⟩ := while_at ha.2 hb
    simp [ha.1, h1, h2]
theorem ins_at {x : EV} {D : List EV} {j : Nat} (hall : (D.take j).all (fun y => !evLess x y) = true) (hend : D.drop j = [] ∨ ∃ y r, D.drop j = y :: r ∧ (!evLess x y) = false) : evIns x D = D.take j ++ x :: D.drop j := by
  have h := while_at hall hend
  rw [List.take_append_drop] at h
  unfold evIns
  rw [h.1, h.2]
theorem flat_take : ∀ (D : List EV) (j : Nat), (D.flatMap evC).take (j * 4) = (D.take j).flatMap evC
  | D, 0 => by simp
  | [], j + 1 => by simp
  | x :: D, j + 1 => by
    rw [List.flatMap_cons, List.take_succ_cons, List.flatMap_cons, ← flat_take D j, List.take_append, evC_len, List.take_of_length_le (by rw [evC_len]; omega)]
    congr 2
    omega
theorem flat_drop : ∀ (D : List EV) (j : Nat), (D.flatMap evC).drop (j * 4) = (D.drop j).flatMap evC
  | D, 0 => by simp
  | [], j + 1 => by simp
  | x :: D, j + 1 => by
    rw [List.flatMap_cons, List.drop_succ_cons, ← flat_drop D j, List.drop_append, evC_len, List.drop_of_length_le (by rw [evC_len]; omega), List.nil_append]
    congr 1
    omega
theorem flat_one (L : List EV) : ∀ u ∈ L.flatMap evC, u.oneCell' = true := fun u hu => by
  obtain ⟨x, _, hx⟩ := List.mem_flatMap.1 hu
  exact evC_one x u hx
theorem take_one {L : List EV} {k : Nat} : ∀ u ∈ (L.flatMap evC).take k, u.oneCell' = true := fun u hu => flat_one L u (List.mem_of_mem_take hu)
theorem drop_one {L : List EV} {k : Nat} : ∀ u ∈ (L.flatMap evC).drop k, u.oneCell' = true := fun u hu => flat_one L u (List.mem_of_mem_drop hu)
theorem ins_flat {x : EV} {D : List EV} {j : Nat} (h : evIns x D = D.take j ++ x :: D.drop j) : (([] ++ (D.flatMap evC).take (j * 4)) ++ [.int .i64 x.k, .int .i64 x.o, .int .i64 x.h, .int .i64 x.n]) ++ (D.flatMap evC).drop (j * 4) = (evIns x D).flatMap evC := by
  rw [h, flat_take, flat_drop, List.flatMap_append, List.flatMap_cons, List.nil_append, List.append_assoc]
  rfl
/-- An event's cells, in whatever has grown out of the world in which they lay. -/
theorem cells_up {w : World} {b o k : Nat} {x : EV} (hb : b < w.heap.size) (h : w.cell? ⟨b, o + k * 4, none⟩ = some (.int .i64 x.k) ∧ w.cell? ⟨b, o + k * 4 + 1, none⟩ = some (.int .i64 x.o) ∧ w.cell? ⟨b, o + k * 4 + 2, none⟩ = some (.int .i64 x.h) ∧ w.cell? ⟨b, o + k * 4 + 3, none⟩ = some (.int .i64 x.n)) {W : World} (hW : Below w.heap.size w W) :
    W.cell? ⟨b, o + k * 4, none⟩ = some (.int .i64 x.k) ∧ W.cell? ⟨b, o + k * 4 + 1, none⟩ = some (.int .i64 x.o) ∧ W.cell? ⟨b, o + k * 4 + 2, none⟩ = some (.int .i64 x.h) ∧ W.cell? ⟨b, o + k * 4 + 3, none⟩ = some (.int .i64 x.n) :=
  ⟨(hW.cell (p := ⟨b, o + k * 4, none⟩) hb).trans h.1, (hW.cell (p := ⟨b, o + k * 4 + 1, none⟩) hb).trans h.2.1, (hW.cell (p := ⟨b, o + k * 4 + 2, none⟩) hb).trans h.2.2.1, (hW.cell (p := ⟨b, o + k * 4 + 3, none⟩) hb).trans h.2.2.2⟩
theorem EvsPost.of {w w' : World} {v : Value} {L : List EV} {n : Nat} {t : TypeId} (h : w'.ownsRow w.heap.size t 4 v n (L.flatMap evC)) (hb : Below w.heap.size w w') : EvsPost w L (.returned v) w' := by
  obtain ⟨A, c, rfl, h1, h2, h3⟩ := own_slice h
  obtain rfl : n = L.length := by have := h.1; rw [ev_len] at this; omega
  exact ⟨A, c, rfl, h3, hb⟩

set_option maxRecDepth 100000 in
set_option maxHeartbeats 4000000 in
theorem c_rsort {w : World} {pl : Nat → Prop} {A : Option Addr} {c : Nat} {L : List EV} (hR : RD w pl 4 A L.length (L.flatMap evC)) (hL : L.length ≤ 100000) :
    Calls Tryd.prog 17 #[.slice A L.length c] w (EvsPost w (evSort L)) := by
  have HR := Lib.hid hR
  clear hR
  go_enter Tryd.func17, Tryd.ntmps17
  go_wp2
  go_loopw [3, 4] (fun v i wr => ∃ (k : Nat) (D : List EV), k ≤ L.length ∧ i = .int .i64 k ∧ Hid (D = evSort (L.take k)) ∧ Hid (D.length = k) ∧ (k = 0 → v = .slice none 0 0) ∧ wr.ownsRow w.heap.size 23 4 v k (D.flatMap evC) ∧ Below w.heap.size w wr) (fun _ i _ => L.length - (intOf i).toNat)
  case atStart => exact ⟨0, [], Nat.zero_le _, rfl, Lib.hid rfl, Lib.hid rfl, fun _ => rfl, World.ownsRow_nil _ _ _ _, Below.refl _ _⟩
  case round =>
    obtain ⟨k, D, hk, rfl, HD, HDL, hv0, hown, hb⟩ := hrel
    have HB := Lib.hid hb
    have HOWN := Lib.hid hown
    have hsz := hb.size
    by_cases hlt : k < L.length
    · have hx : L[k]? = some L[k] := List.getElem?_eq_getElem hlt
      obtain ⟨bL, oL, rfl, hbl, hcells⟩ := HR.out.ev k _ hx hlt
      have HN : Hid (evSort (L.take (k + 1)) = evIns L[k] D) := Lib.hid (by rw [ev_take L k _ hx, evSort_snoc, HD.out])
      generalize L[k] = x at hcells HN
      have HC := Lib.hid (fun W (hW : Below w.heap.size w W) => cells_up hbl hcells hW)
      have hk0 : (0 : Int) ≤ k := by omega
      have hk1 : (k : Int) < L.length := by omega
      obtain ⟨A2, c2, rfl, hkc, hcm, hrd⟩ := own_slice hown
      have HV := Lib.hid hv0
      have HRD := Lib.hid hrd
      unfold maxLen at hcm
      clear hx hcells hb hown hv0 hrd HD
      go_upto_block 2 with fail
      go_cut [5] (fun s5 wx => ∃ j : Nat, j ≤ k ∧ s5 = .int .i64 j ∧ Hid (evIns x D = D.take j ++ x :: D.drop j) ∧ Below wr.heap.size wr wx)
      case first =>
        go_wp2
        go_loopw [5] (fun i wx => ∃ j : Nat, j ≤ k ∧ i = .int .i64 j ∧ Hid ((D.take j).all (fun y => !evLess x y) = true) ∧ Below wr.heap.size wr wx) (fun i _ => k - (intOf i).toNat)
        case atStart => exact ⟨0, Nat.zero_le _, rfl, Lib.hid rfl, Below.refl _ _⟩
        case round =>
          rename World => wx
          obtain ⟨j, hj, rfl, HA, hbx⟩ := hrel
          have HBX := Lib.hid hbx
          clear hbx
          by_cases hjk : j < k
          · have hjD : j < D.length := by rw [HDL.out]; exact hjk
            have hy : D[j]? = some D[j] := List.getElem?_eq_getElem hjD
            have HT := Lib.hid (ev_take D j _ hy)
            have HDR := Lib.hid (List.drop_eq_getElem_cons hjD)
            obtain ⟨bD, oD, rfl, _, d0, d1, d2, d3⟩ := (HRD.out.below HBX.out).ev j _ hy hjk
            generalize D[j] = y at d0 d1 d2 d3 HT HDR
            obtain ⟨x0, x1, x2, x3⟩ := HC.out wx (HB.out.trans (HBX.out.mono hsz))
            have X0 := cell_regrown x0
            have X1 := cell_regrown x1
            have X2 := cell_regrown x2
            have X3 := cell_regrown x3
            have D0 := cell_regrown d0
            have D1 := cell_regrown d1
            have D2 := cell_regrown d2
            have D3 := cell_regrown d3
            have hj0 : (0 : Int) ≤ j := by omega
            have hj1 : (j : Int) < k := by omega
            have cL := grown_call (w := wx) fun W _ => c_rless x y W
            clear x0 x1 x2 x3 d0 d1 d2 d3 hy
            cases hly : evLess x y
            · have HE := Lib.hid hly
              rw [hly] at cL
              clear hly
              go_wp2_with fail
              refine wp_region_quiet_below (by kernel_rfl) (by kernel_rfl) ?_
              repeat (go_big_quiet_step (with_reducible exact cL _ _))
              refine wpQuiet_nil ?_
              intro _ hw'
              obtain ⟨⟨dq, osq⟩, hw''⟩ := hw'
              have HQ := Lib.hid (up_trans HBX.out (hw'' ▸ below_regrown wx dq osq))
              clear hw'' X0 X1 X2 X3 D0 D1 D2 D3 cL
              go_wp2
              go_roundw
              case rel => exact ⟨j + 1, by omega, by go_num, Lib.hid (by rw [HT.out, List.all_append, HA.out]; simp [HE.out]), HQ.out⟩
              case measure => simp [intOf]; omega
            · have HE := Lib.hid hly
              rw [hly] at cL
              clear hly
              go_wp2_with fail
              refine wp_region_quiet_below (by kernel_rfl) (by kernel_rfl) ?_
              repeat (go_big_quiet_step (with_reducible exact cL _ _))
              refine wpQuiet_nil ?_
              intro _ hw'
              obtain ⟨⟨dq, osq⟩, hw''⟩ := hw'
              have HQ := Lib.hid (up_trans HBX.out (hw'' ▸ below_regrown wx dq osq))
              clear hw'' X0 X1 X2 X3 D0 D1 D2 D3 cL
              go_wp2
              go_meet
              exact ⟨j, by omega, rfl, Lib.hid (ins_at HA.out (.inr ⟨y, _, HDR.out, by rw [HE.out]; rfl⟩)), HQ.out⟩
          · have hjk2 : j = k := by omega
            have HI := Lib.hid (ins_at HA.out (.inl (List.drop_of_length_le (by rw [HDL.out]; omega))))
            have tj : decide ((j : Int) < k) = false := by simp; omega
            have tj2 : ¬ (j : Int) < k := by omega
            clear hjk2
            go_wp2_with fail
            refine wp_region_quiet_below (by kernel_rfl) (by kernel_rfl) ?_
            repeat (go_big_quiet_step (fail))
            refine wpQuiet_nil ?_
            intro _ hw'
            obtain ⟨⟨dq, osq⟩, hw''⟩ := hw'
            have HQ := Lib.hid (up_trans HBX.out (hw'' ▸ below_regrown wx dq osq))
            clear hw''
            go_wp2
            go_meet
            exact ⟨j, hj, rfl, HI, HQ.out⟩
      case rest =>
        obtain ⟨j, hj, rfl, HI, hbc⟩ := hcut
        have HBC := Lib.hid (HB.out.trans (hbc.mono hsz))
        have hlc := HBC.out.size
        have HRC := Lib.hid (HRD.out.below hbc)
        have hj0 : (0 : Int) ≤ j := by omega
        have hj1 : (j : Int) ≤ k := by omega
        have HF := Lib.hid (ins_flat HI.out)
        have HLEN : Hid ((evIns x D).length = k + 1) := Lib.hid (by rw [evIns_len, HDL.out])
        have HR0 : Hid (k ≤ j → ∀ w' A n', n' = 0 → RD w' (wc.heap.size ≤ ·) 4 A n' ((D.flatMap evC).drop (j * 4))) := Lib.hid (fun h w' A n' e => by
          subst e
          rw [List.drop_of_length_le (by rw [ev_len, HDL.out]; omega)]
          exact RD.nil _ _ _ _)
        clear hbc
        rcases Nat.eq_zero_or_pos k with hkz | hkz
        · have hj00 : j = 0 := by omega
          have hnil := HV.out hkz
          injection hnil with e1 e2 e3
          subst e1 e3 hj00 hkz
          clear hk0 hk1 hj0 hj1 hkc hj
          have HK := Lib.hid (HR0.out (Nat.le_refl _))
          rw [show ((0 : Nat) : Int) = 0 from rfl]
          go_wp2_with (first
            | (at_builtin; refine wpList_app ei_rev rfl (.const (.slice none 0 0)) (.tmp 33) rfl _ [] rfl (World.ownsRow_nil wc wc.heap.size _ _) rfl (HRC.out.take 0 (Nat.le_refl _)) take_one (by omega) (Nat.le_refl _) ?_; intro v4 w4 hown4 hb4; obtain ⟨x0, x1, x2, x3⟩ := HC.out w4 (HBC.out.trans (hb4.mono hlc)); simp only [Nat.zero_mul, Nat.add_zero] at x0 x1 x2 x3)
            | (at_builtin; refine wpList_app ei_rev rfl (.tmp 35) (.tmp 40) rfl _ _ rfl (hown4.alloc _) rfl (rd_new rfl rfl) (fun u hu => evC_one x u hu) (by omega) (by have := hb4.size; simp; omega) ?_; intro v5 w5 hown5 hb5; have hb35 := (hb4.trans ((up_alloc _ _).mono hb4.size)).trans hb5)
            | (at_builtin; refine wpList_app ei_rev rfl (.tmp 42) (.tmp 45) rfl _ _ rfl hown5 rfl (HK.out _ _ _ (by omega)) drop_one (by omega) (by have := hb35.size; omega) ?_; intro v6 w6 hown6 hb6; have hb36 := HBC.out.trans ((hb35.trans hb6).mono hlc); have HB36 := Lib.hid hb36; have HOWN6 := Lib.hid (hown6.mono hlc); clear hb36 hb35 hb6 hb5 hb4 hown4 hown5 hown6 x0 x1 x2 x3))
          go_wp2_with fail
          go_roundw
          case rel => exact ⟨1, evIns x D, by omega, by go_num, Lib.hid HN.out.symm, HLEN, fun h => absurd h (by omega), by rw [← HF.out]; exact HOWN6.out, HB36.out⟩
          case measure => simp [intOf]; omega
        · obtain ⟨g, cap, hv, _, _, _, _⟩ := own_form HOWN.out hkz
          injection hv with e1 e2 e3
          subst e1 e3
          by_cases hjk : j < k
          · go_wp2_with (first
              | (at_builtin; refine wpList_app ei_rev rfl (.const (.slice none 0 0)) (.tmp 33) rfl _ [] rfl (World.ownsRow_nil wc wc.heap.size _ _) rfl (HRC.out.take j (by omega)) take_one (by omega) (Nat.le_refl _) ?_; intro v4 w4 hown4 hb4; obtain ⟨x0, x1, x2, x3⟩ := HC.out w4 (HBC.out.trans (hb4.mono hlc)))
              | (at_builtin; refine wpList_app ei_rev rfl (.tmp 35) (.tmp 40) rfl _ _ rfl (hown4.alloc _) rfl (rd_new rfl rfl) (fun u hu => evC_one x u hu) (by omega) (by have := hb4.size; simp; omega) ?_; intro v5 w5 hown5 hb5; have hb35 := (hb4.trans ((up_alloc _ _).mono hb4.size)).trans hb5)
              | (at_builtin; refine wpList_app ei_rev rfl (.tmp 42) (.tmp 45) rfl _ _ rfl hown5 rfl (rd_drop0 (HRC.out.below hb35) j (by omega)) drop_one (by omega) (by have := hb35.size; omega) ?_; intro v6 w6 hown6 hb6; have hb36 := HBC.out.trans ((hb35.trans hb6).mono hlc); have HB36 := Lib.hid hb36; obtain ⟨n6, hn6⟩ : ∃ n6, 0 + j + 1 + (k - j) = n6 := ⟨_, rfl⟩; rw [hn6] at hown6; have HOWN6 := Lib.hid (hown6.mono hlc); have HN6 : Hid (n6 = k + 1) := Lib.hid (by omega); clear hn6 hb36 hb35 hb6 hb5 hb4 hown4 hown5 hown6 x0 x1 x2 x3))
            go_wp2_with fail
            go_roundw
            case rel => exact ⟨k + 1, evIns x D, by omega, by go_num, Lib.hid HN.out.symm, HLEN, fun h => absurd h (by omega), by rw [← HF.out, ← HN6.out]; exact HOWN6.out, HB36.out⟩
            case measure => simp [intOf]; omega
          · have hkj : k ≤ j := by omega
            have HK := Lib.hid (HR0.out hkj)
            rcases (show j = c2 ∨ ¬ c2 = j by omega) with rfl | hcne
            all_goals
              go_wp2_with (first
                | (at_builtin; refine wpList_app ei_rev rfl (.const (.slice none 0 0)) (.tmp 33) rfl _ [] rfl (World.ownsRow_nil wc wc.heap.size _ _) rfl (HRC.out.take j (by omega)) take_one (by omega) (Nat.le_refl _) ?_; intro v4 w4 hown4 hb4; obtain ⟨x0, x1, x2, x3⟩ := HC.out w4 (HBC.out.trans (hb4.mono hlc)))
                | (at_builtin; refine wpList_app ei_rev rfl (.tmp 35) (.tmp 40) rfl _ _ rfl (hown4.alloc _) rfl (rd_new rfl rfl) (fun u hu => evC_one x u hu) (by omega) (by have := hb4.size; simp; omega) ?_; intro v5 w5 hown5 hb5; have hb35 := (hb4.trans ((up_alloc _ _).mono hb4.size)).trans hb5)
                | (at_builtin; refine wpList_app ei_rev rfl (.tmp 42) (.tmp 45) rfl _ _ rfl hown5 rfl (HK.out _ _ 0 rfl) drop_one (by omega) (by have := hb35.size; omega) ?_; intro v6 w6 hown6 hb6; have hb36 := HBC.out.trans ((hb35.trans hb6).mono hlc); have HB36 := Lib.hid hb36; obtain ⟨n6, hn6⟩ : ∃ n6, 0 + j + 1 + 0 = n6 := ⟨_, rfl⟩; rw [hn6] at hown6; have HOWN6 := Lib.hid (hown6.mono hlc); have HN6 : Hid (n6 = k + 1) := Lib.hid (by omega); clear hn6 hb36 hb35 hb6 hb5 hb4 hown4 hown5 hown6 x0 x1 x2 x3))
              go_wp2_with fail
              go_roundw
              case rel => exact ⟨k + 1, evIns x D, by omega, by go_num, Lib.hid HN.out.symm, HLEN, fun h => absurd h (by omega), by rw [← HF.out, ← HN6.out]; exact HOWN6.out, HB36.out⟩
              case measure => simp [intOf]; omega
    · obtain rfl : k = L.length := by omega
      have HX : Hid (D = evSort L) := Lib.hid (by rw [HD.out, List.take_length])
      clear hown hb
      go_wp2
      go_ret
      exact EvsPost.of (by rw [← HX.out]; exact HOWN.out) HB.out
end Go.Proofs.YtajbpplklmhfmaaDoor

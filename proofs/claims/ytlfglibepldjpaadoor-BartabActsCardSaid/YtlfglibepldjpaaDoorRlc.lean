/- Package roll: Enrol, Resign, Offer, Withdraw. -/
import Derived.Test.YtlfglibepldjpaaDoorRlb
namespace Go.Proofs.YtlfglibepldjpaaDoor
open Go.RowKit

set_option maxRecDepth 100000 in
set_option maxHeartbeats 4000000 in
theorem c_rlenrol (r : RL) (p : Int) (w : World) (hT : TabD w) :
    Calls Tryd.prog 81 #[.agg (rlC r).toArray, .int .i64 p] w fun e w' => e = .returned (.tuple #[.agg (rlC (rlEnrol r p).1).toArray, .int .i64 (rlEnrol r p).2]) ∧ Below w.heap.size w w' := by
  have hX := bx2_rl w r
  generalize hw1 : (w.alloc (.cells (rlC r).toArray 64)).alloc (.cells #[.int .u64 0, .int .u64 0, .int .u64 0, .int .u64 0, .int .u64 0, .int .u64 0, .int .u64 0, .int .u64 0] 64) = w1 at hX
  have HW := Lib.hid hw1
  have HX := Lib.hid hX
  have CK := Lib.hid (fun W (hW : Below w.heap.size w W) => c_rlcheck r p W (hT.up hW))
  clear hT hX hw1
  obtain ⟨x, hx⟩ : ∃ x, rlErr r p = x := ⟨_, rfl⟩
  rw [hx] at CK
  by_cases h0 : x = 0
  case neg =>
    have HE : Hid (rlEnrol r p = (⟨r.m, r.a⟩, x)) := Lib.hid (by unfold rlEnrol; rw [if_pos (by rw [hx]; exact h0), hx])
    have hx1 : (x != 0) = true := by simp [bne, h0]
    clear hx h0
    go_enter Tryd.func81, Tryd.ntmps81
    go_upto_region 1 with fail
    rw [HW.out]
    go_wp2_with (refine ldr (b := w.heap.size) (t := 64) (cs := rlC r) (.tmp 2) rfl rfl Tryd.underlying64 rfl info_roll rfl ?_ ?_; (· exact HX.out.box))
    refine (CK.out _ HX.out.up).mono ?_; rintro e w3 ⟨rfl, hb⟩
    have H2 := Lib.hid (HX.out.next hb)
    clear hb
    go_wp2_with (first | (refine ldr (b := w.heap.size) (t := 64) (cs := rlC r) (.tmp 2) rfl rfl Tryd.underlying64 rfl info_roll rfl ?_ ?_; (· exact H2.out.box)) | (refine str (b := w.heap.size + 1) (t := 64) (cs := rlC r) (ds := rlZ) (.tmp 4) (.tmp 12) rfl rfl rfl rfl info_roll rfl rlC_one ?_ ?_; (· exact H2.out.res)))
    refine bodyPost_ret (v := .tuple #[.agg (rlC r).toArray, .int .i64 (x)]) (results_ce (fn := Tryd.f81) (p := 4) (t := 5) rfl _ _ _ rfl (H2.out.res.row _) Tryd.underlying64 rfl info_roll) rfl ?_
    rw [HE.out]
    exact ⟨rfl, below_setRow H2.out.up (by omega) _⟩
  subst h0
  cases hm : hasL r.m.ints p
  case true =>
    have HE : Hid (rlEnrol r p = (⟨r.m, r.a⟩, 7)) := Lib.hid (by unfold rlEnrol; rw [if_neg (by rw [hx]; decide), if_pos hm])
    have CHM := Lib.hid (fun W => c_hasB r.m p W hm)
    clear hx hm
    go_enter Tryd.func81, Tryd.ntmps81
    go_upto_region 1 with fail
    rw [HW.out]
    go_wp2_with (refine ldr (b := w.heap.size) (t := 64) (cs := rlC r) (.tmp 2) rfl rfl Tryd.underlying64 rfl info_roll rfl ?_ ?_; (· exact HX.out.box))
    refine (CK.out _ HX.out.up).mono ?_; rintro e w3 ⟨rfl, hb⟩
    have H2 := Lib.hid (HX.out.next hb)
    clear hb
    obtain ⟨m0, m1, m2, m3, a0, a1, a2, a3⟩ := H2.out.box.rl
    go_wp2_with fail
    refine (CHM.out _).mono ?_; rintro e w4 ⟨rfl, hb⟩
    clear m0 m1 m2 m3 a0 a1 a2 a3
    have H3 := Lib.hid (H2.out.next hb)
    clear hb
    go_wp2_with (first | (refine ldr (b := w.heap.size) (t := 64) (cs := rlC r) (.tmp 2) rfl rfl Tryd.underlying64 rfl info_roll rfl ?_ ?_; (· exact H3.out.box)) | (refine str (b := w.heap.size + 1) (t := 64) (cs := rlC r) (ds := rlZ) (.tmp 4) (.tmp 18) rfl rfl rfl rfl info_roll rfl rlC_one ?_ ?_; (· exact H3.out.res)))
    refine bodyPost_ret (v := .tuple #[.agg (rlC r).toArray, .int .i64 (7)]) (results_ce (fn := Tryd.f81) (p := 4) (t := 5) rfl _ _ _ rfl (H3.out.res.row _) Tryd.underlying64 rfl info_roll) rfl ?_
    rw [HE.out]
    exact ⟨rfl, below_setRow H3.out.up (by omega) _⟩
  case false =>
    have HE : Hid (rlEnrol r p = (⟨r.m.uni (S4.only p), r.a⟩, 0)) := Lib.hid (by unfold rlEnrol; rw [if_neg (by rw [hx]; decide), if_neg (by rw [hm]; decide)])
    have CHM := Lib.hid (fun W => c_hasB r.m p W hm)
    clear hx hm
    go_enter Tryd.func81, Tryd.ntmps81
    go_upto_region 1 with fail
    rw [HW.out]
    go_wp2_with (refine ldr (b := w.heap.size) (t := 64) (cs := rlC r) (.tmp 2) rfl rfl Tryd.underlying64 rfl info_roll rfl ?_ ?_; (· exact HX.out.box))
    refine (CK.out _ HX.out.up).mono ?_; rintro e w3 ⟨rfl, hb⟩
    have H2 := Lib.hid (HX.out.next hb)
    clear hb
    obtain ⟨m0, m1, m2, m3, a0, a1, a2, a3⟩ := H2.out.box.rl
    go_wp2_with fail
    refine (CHM.out _).mono ?_; rintro e w4 ⟨rfl, hb⟩
    clear m0 m1 m2 m3 a0 a1 a2 a3
    have H3 := Lib.hid (H2.out.next hb)
    clear hb
    obtain ⟨m0, m1, m2, m3, a0, a1, a2, a3⟩ := H3.out.box.rl
    go_wp2_with fail
    refine (c_add r.m p _).mono ?_; rintro e w5 ⟨rfl, hb⟩
    clear m0 m1 m2 m3 a0 a1 a2 a3
    have H4 := Lib.hid (H3.out.next hb)
    clear hb
    obtain ⟨m0, m1, m2, m3, a0, a1, a2, a3⟩ := H4.out.box.rl
    have f0 := H4.out.box.free 0
    have f1 := H4.out.box.free 1
    have f2 := H4.out.box.free 2
    have f3 := H4.out.box.free 3
    have H5 := Lib.hid (H4.out.putM (r.m.uni (S4.only p)))
    go_wp2_with (first | (refine ldr (b := w.heap.size) (t := 64) (cs := rlC (⟨r.m.uni (S4.only p), r.a⟩ : RL)) (.tmp 2) rfl rfl Tryd.underlying64 rfl info_roll rfl ?_ ?_; (· exact H5.out.box)) | (refine str (b := w.heap.size + 1) (t := 64) (cs := rlC (⟨r.m.uni (S4.only p), r.a⟩ : RL)) (ds := rlZ) (.tmp 4) (.tmp 24) rfl rfl rfl rfl info_roll rfl rlC_one ?_ ?_; (· exact H5.out.res)))
    refine bodyPost_ret (v := .tuple #[.agg (rlC (⟨r.m.uni (S4.only p), r.a⟩ : RL)).toArray, .int .i64 (0)]) (results_ce (fn := Tryd.f81) (p := 4) (t := 5) rfl _ _ _ rfl (H5.out.res.row _) Tryd.underlying64 rfl info_roll) rfl ?_
    rw [HE.out]
    exact ⟨rfl, below_setRow H5.out.up (by omega) _⟩

set_option maxRecDepth 100000 in
set_option maxHeartbeats 4000000 in
theorem c_rlresign (r : RL) (p : Int) (w : World) (hT : TabD w) :
    Calls Tryd.prog 79 #[.agg (rlC r).toArray, .int .i64 p] w fun e w' => e = .returned (.tuple #[.agg (rlC (rlResign r p).1).toArray, .int .i64 (rlResign r p).2]) ∧ Below w.heap.size w w' := by
  have hX := bx2_rl w r
  generalize hw1 : (w.alloc (.cells (rlC r).toArray 64)).alloc (.cells #[.int .u64 0, .int .u64 0, .int .u64 0, .int .u64 0, .int .u64 0, .int .u64 0, .int .u64 0, .int .u64 0] 64) = w1 at hX
  have HW := Lib.hid hw1
  have HX := Lib.hid hX
  have CK := Lib.hid (fun W (hW : Below w.heap.size w W) => c_rlcheck r p W (hT.up hW))
  clear hT hX hw1
  obtain ⟨x, hx⟩ : ∃ x, rlErr r p = x := ⟨_, rfl⟩
  rw [hx] at CK
  by_cases h0 : x = 0
  case neg =>
    have HE : Hid (rlResign r p = (⟨r.m, r.a⟩, x)) := Lib.hid (by unfold rlResign; rw [if_pos (by rw [hx]; exact h0), hx])
    have hx1 : (x != 0) = true := by simp [bne, h0]
    clear hx h0
    go_enter Tryd.func79, Tryd.ntmps79
    go_upto_region 1 with fail
    rw [HW.out]
    go_wp2_with (refine ldr (b := w.heap.size) (t := 64) (cs := rlC r) (.tmp 2) rfl rfl Tryd.underlying64 rfl info_roll rfl ?_ ?_; (· exact HX.out.box))
    refine (CK.out _ HX.out.up).mono ?_; rintro e w3 ⟨rfl, hb⟩
    have H2 := Lib.hid (HX.out.next hb)
    clear hb
    go_wp2_with (first | (refine ldr (b := w.heap.size) (t := 64) (cs := rlC r) (.tmp 2) rfl rfl Tryd.underlying64 rfl info_roll rfl ?_ ?_; (· exact H2.out.box)) | (refine str (b := w.heap.size + 1) (t := 64) (cs := rlC r) (ds := rlZ) (.tmp 4) (.tmp 12) rfl rfl rfl rfl info_roll rfl rlC_one ?_ ?_; (· exact H2.out.res)))
    refine bodyPost_ret (v := .tuple #[.agg (rlC r).toArray, .int .i64 (x)]) (results_ce (fn := Tryd.f79) (p := 4) (t := 5) rfl _ _ _ rfl (H2.out.res.row _) Tryd.underlying64 rfl info_roll) rfl ?_
    rw [HE.out]
    exact ⟨rfl, below_setRow H2.out.up (by omega) _⟩
  subst h0
  cases hm : hasL r.m.ints p
  case false =>
    have HE : Hid (rlResign r p = (⟨r.m, r.a⟩, 6)) := Lib.hid (by unfold rlResign; rw [if_neg (by rw [hx]; decide), if_pos hm])
    have CHM := Lib.hid (fun W => c_hasB r.m p W hm)
    clear hx hm
    go_enter Tryd.func79, Tryd.ntmps79
    go_upto_region 1 with fail
    rw [HW.out]
    go_wp2_with (refine ldr (b := w.heap.size) (t := 64) (cs := rlC r) (.tmp 2) rfl rfl Tryd.underlying64 rfl info_roll rfl ?_ ?_; (· exact HX.out.box))
    refine (CK.out _ HX.out.up).mono ?_; rintro e w3 ⟨rfl, hb⟩
    have H2 := Lib.hid (HX.out.next hb)
    clear hb
    obtain ⟨m0, m1, m2, m3, a0, a1, a2, a3⟩ := H2.out.box.rl
    go_wp2_with fail
    refine (CHM.out _).mono ?_; rintro e w4 ⟨rfl, hb⟩
    clear m0 m1 m2 m3 a0 a1 a2 a3
    have H3 := Lib.hid (H2.out.next hb)
    clear hb
    go_wp2_with (first | (refine ldr (b := w.heap.size) (t := 64) (cs := rlC r) (.tmp 2) rfl rfl Tryd.underlying64 rfl info_roll rfl ?_ ?_; (· exact H3.out.box)) | (refine str (b := w.heap.size + 1) (t := 64) (cs := rlC r) (ds := rlZ) (.tmp 4) (.tmp 19) rfl rfl rfl rfl info_roll rfl rlC_one ?_ ?_; (· exact H3.out.res)))
    refine bodyPost_ret (v := .tuple #[.agg (rlC r).toArray, .int .i64 (6)]) (results_ce (fn := Tryd.f79) (p := 4) (t := 5) rfl _ _ _ rfl (H3.out.res.row _) Tryd.underlying64 rfl info_roll) rfl ?_
    rw [HE.out]
    exact ⟨rfl, below_setRow H3.out.up (by omega) _⟩
  case true =>
    have HE : Hid (rlResign r p = (⟨r.m.les (S4.only p), r.a.les (S4.only p)⟩, 0)) := Lib.hid (by unfold rlResign; rw [if_neg (by rw [hx]; decide), if_neg (by rw [hm]; decide)])
    have CHM := Lib.hid (fun W => c_hasB r.m p W hm)
    clear hx hm
    go_enter Tryd.func79, Tryd.ntmps79
    go_upto_region 1 with fail
    rw [HW.out]
    go_wp2_with (refine ldr (b := w.heap.size) (t := 64) (cs := rlC r) (.tmp 2) rfl rfl Tryd.underlying64 rfl info_roll rfl ?_ ?_; (· exact HX.out.box))
    refine (CK.out _ HX.out.up).mono ?_; rintro e w3 ⟨rfl, hb⟩
    have H2 := Lib.hid (HX.out.next hb)
    clear hb
    obtain ⟨m0, m1, m2, m3, a0, a1, a2, a3⟩ := H2.out.box.rl
    go_wp2_with fail
    refine (CHM.out _).mono ?_; rintro e w4 ⟨rfl, hb⟩
    clear m0 m1 m2 m3 a0 a1 a2 a3
    have H3 := Lib.hid (H2.out.next hb)
    clear hb
    obtain ⟨m0, m1, m2, m3, a0, a1, a2, a3⟩ := H3.out.box.rl
    go_wp2_with fail
    refine (c_drop r.m p _).mono ?_; rintro e w5 ⟨rfl, hb⟩
    clear m0 m1 m2 m3 a0 a1 a2 a3
    have H4 := Lib.hid (H3.out.next hb)
    clear hb
    obtain ⟨m0, m1, m2, m3, a0, a1, a2, a3⟩ := H4.out.box.rl
    have f0 := H4.out.box.free 0
    have f1 := H4.out.box.free 1
    have f2 := H4.out.box.free 2
    have f3 := H4.out.box.free 3
    have H5 := Lib.hid (H4.out.putM (r.m.les (S4.only p)))
    obtain ⟨m0, m1, m2, m3, a0, a1, a2, a3⟩ := H5.out.box.rl
    go_wp2_with fail
    refine (c_drop r.a p _).mono ?_; rintro e w7 ⟨rfl, hb⟩
    clear m0 m1 m2 m3 a0 a1 a2 a3
    have H6 := Lib.hid (H5.out.next hb)
    clear hb
    obtain ⟨m0, m1, m2, m3, a0, a1, a2, a3⟩ := H6.out.box.rl
    have f4 := H6.out.box.free 4
    have f5 := H6.out.box.free 5
    have f6 := H6.out.box.free 6
    have f7 := H6.out.box.free 7
    have H7 := Lib.hid (H6.out.putA (r.a.les (S4.only p)))
    go_wp2_with (first | (refine ldr (b := w.heap.size) (t := 64) (cs := rlC (⟨r.m.les (S4.only p), r.a.les (S4.only p)⟩ : RL)) (.tmp 2) rfl rfl Tryd.underlying64 rfl info_roll rfl ?_ ?_; (· exact H7.out.box)) | (refine str (b := w.heap.size + 1) (t := 64) (cs := rlC (⟨r.m.les (S4.only p), r.a.les (S4.only p)⟩ : RL)) (ds := rlZ) (.tmp 4) (.tmp 30) rfl rfl rfl rfl info_roll rfl rlC_one ?_ ?_; (· exact H7.out.res)))
    refine bodyPost_ret (v := .tuple #[.agg (rlC (⟨r.m.les (S4.only p), r.a.les (S4.only p)⟩ : RL)).toArray, .int .i64 (0)]) (results_ce (fn := Tryd.f79) (p := 4) (t := 5) rfl _ _ _ rfl (H7.out.res.row _) Tryd.underlying64 rfl info_roll) rfl ?_
    rw [HE.out]
    exact ⟨rfl, below_setRow H7.out.up (by omega) _⟩

set_option maxRecDepth 100000 in
set_option maxHeartbeats 4000000 in
theorem c_rloffer (r : RL) (p : Int) (w : World) (hT : TabD w) :
    Calls Tryd.prog 72 #[.agg (rlC r).toArray, .int .i64 p] w fun e w' => e = .returned (.tuple #[.agg (rlC (rlOffer r p).1).toArray, .int .i64 (rlOffer r p).2]) ∧ Below w.heap.size w w' := by
  have hX := bx2_rl w r
  generalize hw1 : (w.alloc (.cells (rlC r).toArray 64)).alloc (.cells #[.int .u64 0, .int .u64 0, .int .u64 0, .int .u64 0, .int .u64 0, .int .u64 0, .int .u64 0, .int .u64 0] 64) = w1 at hX
  have HW := Lib.hid hw1
  have HX := Lib.hid hX
  have CK := Lib.hid (fun W (hW : Below w.heap.size w W) => c_rlcheck r p W (hT.up hW))
  clear hT hX hw1
  obtain ⟨x, hx⟩ : ∃ x, rlErr r p = x := ⟨_, rfl⟩
  rw [hx] at CK
  by_cases h0 : x = 0
  case neg =>
    have HE : Hid (rlOffer r p = (⟨r.m, r.a⟩, x)) := Lib.hid (by unfold rlOffer; rw [if_pos (by rw [hx]; exact h0), hx])
    have hx1 : (x != 0) = true := by simp [bne, h0]
    clear hx h0
    go_enter Tryd.func72, Tryd.ntmps72
    go_upto_region 1 with fail
    rw [HW.out]
    go_wp2_with (refine ldr (b := w.heap.size) (t := 64) (cs := rlC r) (.tmp 2) rfl rfl Tryd.underlying64 rfl info_roll rfl ?_ ?_; (· exact HX.out.box))
    refine (CK.out _ HX.out.up).mono ?_; rintro e w3 ⟨rfl, hb⟩
    have H2 := Lib.hid (HX.out.next hb)
    clear hb
    go_wp2_with (first | (refine ldr (b := w.heap.size) (t := 64) (cs := rlC r) (.tmp 2) rfl rfl Tryd.underlying64 rfl info_roll rfl ?_ ?_; (· exact H2.out.box)) | (refine str (b := w.heap.size + 1) (t := 64) (cs := rlC r) (ds := rlZ) (.tmp 4) (.tmp 12) rfl rfl rfl rfl info_roll rfl rlC_one ?_ ?_; (· exact H2.out.res)))
    refine bodyPost_ret (v := .tuple #[.agg (rlC r).toArray, .int .i64 (x)]) (results_ce (fn := Tryd.f72) (p := 4) (t := 5) rfl _ _ _ rfl (H2.out.res.row _) Tryd.underlying64 rfl info_roll) rfl ?_
    rw [HE.out]
    exact ⟨rfl, below_setRow H2.out.up (by omega) _⟩
  subst h0
  cases hm : hasL r.m.ints p
  case false =>
    have HE : Hid (rlOffer r p = (⟨r.m, r.a⟩, 6)) := Lib.hid (by unfold rlOffer; rw [if_neg (by rw [hx]; decide), if_pos hm])
    have CHM := Lib.hid (fun W => c_hasB r.m p W hm)
    clear hx hm
    go_enter Tryd.func72, Tryd.ntmps72
    go_upto_region 1 with fail
    rw [HW.out]
    go_wp2_with (refine ldr (b := w.heap.size) (t := 64) (cs := rlC r) (.tmp 2) rfl rfl Tryd.underlying64 rfl info_roll rfl ?_ ?_; (· exact HX.out.box))
    refine (CK.out _ HX.out.up).mono ?_; rintro e w3 ⟨rfl, hb⟩
    have H2 := Lib.hid (HX.out.next hb)
    clear hb
    obtain ⟨m0, m1, m2, m3, a0, a1, a2, a3⟩ := H2.out.box.rl
    go_wp2_with fail
    refine (CHM.out _).mono ?_; rintro e w4 ⟨rfl, hb⟩
    clear m0 m1 m2 m3 a0 a1 a2 a3
    have H3 := Lib.hid (H2.out.next hb)
    clear hb
    go_wp2_with (first | (refine ldr (b := w.heap.size) (t := 64) (cs := rlC r) (.tmp 2) rfl rfl Tryd.underlying64 rfl info_roll rfl ?_ ?_; (· exact H3.out.box)) | (refine str (b := w.heap.size + 1) (t := 64) (cs := rlC r) (ds := rlZ) (.tmp 4) (.tmp 20) rfl rfl rfl rfl info_roll rfl rlC_one ?_ ?_; (· exact H3.out.res)))
    refine bodyPost_ret (v := .tuple #[.agg (rlC r).toArray, .int .i64 (6)]) (results_ce (fn := Tryd.f72) (p := 4) (t := 5) rfl _ _ _ rfl (H3.out.res.row _) Tryd.underlying64 rfl info_roll) rfl ?_
    rw [HE.out]
    exact ⟨rfl, below_setRow H3.out.up (by omega) _⟩
  case true =>
    cases ha : hasL r.a.ints p
    case true =>
      have HE : Hid (rlOffer r p = (⟨r.m, r.a⟩, 7)) := Lib.hid (by unfold rlOffer; rw [if_neg (by rw [hx]; decide), if_neg (by rw [hm]; decide), if_pos ha])
      have CHM := Lib.hid (fun W => c_hasB r.m p W hm)
      have CHA := Lib.hid (fun W => c_hasB r.a p W ha)
      clear hx hm ha
      go_enter Tryd.func72, Tryd.ntmps72
      go_upto_region 1 with fail
      rw [HW.out]
      go_wp2_with (refine ldr (b := w.heap.size) (t := 64) (cs := rlC r) (.tmp 2) rfl rfl Tryd.underlying64 rfl info_roll rfl ?_ ?_; (· exact HX.out.box))
      refine (CK.out _ HX.out.up).mono ?_; rintro e w3 ⟨rfl, hb⟩
      have H2 := Lib.hid (HX.out.next hb)
      clear hb
      obtain ⟨m0, m1, m2, m3, a0, a1, a2, a3⟩ := H2.out.box.rl
      go_wp2_with fail
      refine (CHM.out _).mono ?_; rintro e w4 ⟨rfl, hb⟩
      clear m0 m1 m2 m3 a0 a1 a2 a3
      have H3 := Lib.hid (H2.out.next hb)
      clear hb
      obtain ⟨m0, m1, m2, m3, a0, a1, a2, a3⟩ := H3.out.box.rl
      go_wp2_with fail
      refine (CHA.out _).mono ?_; rintro e w5 ⟨rfl, hb⟩
      clear m0 m1 m2 m3 a0 a1 a2 a3
      have H4 := Lib.hid (H3.out.next hb)
      clear hb
      go_wp2_with (first | (refine ldr (b := w.heap.size) (t := 64) (cs := rlC r) (.tmp 2) rfl rfl Tryd.underlying64 rfl info_roll rfl ?_ ?_; (· exact H4.out.box)) | (refine str (b := w.heap.size + 1) (t := 64) (cs := rlC r) (ds := rlZ) (.tmp 4) (.tmp 26) rfl rfl rfl rfl info_roll rfl rlC_one ?_ ?_; (· exact H4.out.res)))
      refine bodyPost_ret (v := .tuple #[.agg (rlC r).toArray, .int .i64 (7)]) (results_ce (fn := Tryd.f72) (p := 4) (t := 5) rfl _ _ _ rfl (H4.out.res.row _) Tryd.underlying64 rfl info_roll) rfl ?_
      rw [HE.out]
      exact ⟨rfl, below_setRow H4.out.up (by omega) _⟩
    case false =>
      have HE : Hid (rlOffer r p = (⟨r.m, r.a.uni (S4.only p)⟩, 0)) := Lib.hid (by unfold rlOffer; rw [if_neg (by rw [hx]; decide), if_neg (by rw [hm]; decide), if_neg (by rw [ha]; decide)])
      have CHM := Lib.hid (fun W => c_hasB r.m p W hm)
      have CHA := Lib.hid (fun W => c_hasB r.a p W ha)
      clear hx hm ha
      go_enter Tryd.func72, Tryd.ntmps72
      go_upto_region 1 with fail
      rw [HW.out]
      go_wp2_with (refine ldr (b := w.heap.size) (t := 64) (cs := rlC r) (.tmp 2) rfl rfl Tryd.underlying64 rfl info_roll rfl ?_ ?_; (· exact HX.out.box))
      refine (CK.out _ HX.out.up).mono ?_; rintro e w3 ⟨rfl, hb⟩
      have H2 := Lib.hid (HX.out.next hb)
      clear hb
      obtain ⟨m0, m1, m2, m3, a0, a1, a2, a3⟩ := H2.out.box.rl
      go_wp2_with fail
      refine (CHM.out _).mono ?_; rintro e w4 ⟨rfl, hb⟩
      clear m0 m1 m2 m3 a0 a1 a2 a3
      have H3 := Lib.hid (H2.out.next hb)
      clear hb
      obtain ⟨m0, m1, m2, m3, a0, a1, a2, a3⟩ := H3.out.box.rl
      go_wp2_with fail
      refine (CHA.out _).mono ?_; rintro e w5 ⟨rfl, hb⟩
      clear m0 m1 m2 m3 a0 a1 a2 a3
      have H4 := Lib.hid (H3.out.next hb)
      clear hb
      obtain ⟨m0, m1, m2, m3, a0, a1, a2, a3⟩ := H4.out.box.rl
      go_wp2_with fail
      refine (c_add r.a p _).mono ?_; rintro e w6 ⟨rfl, hb⟩
      clear m0 m1 m2 m3 a0 a1 a2 a3
      have H5 := Lib.hid (H4.out.next hb)
      clear hb
      obtain ⟨m0, m1, m2, m3, a0, a1, a2, a3⟩ := H5.out.box.rl
      have f4 := H5.out.box.free 4
      have f5 := H5.out.box.free 5
      have f6 := H5.out.box.free 6
      have f7 := H5.out.box.free 7
      have H6 := Lib.hid (H5.out.putA (r.a.uni (S4.only p)))
      go_wp2_with (first | (refine ldr (b := w.heap.size) (t := 64) (cs := rlC (⟨r.m, r.a.uni (S4.only p)⟩ : RL)) (.tmp 2) rfl rfl Tryd.underlying64 rfl info_roll rfl ?_ ?_; (· exact H6.out.box)) | (refine str (b := w.heap.size + 1) (t := 64) (cs := rlC (⟨r.m, r.a.uni (S4.only p)⟩ : RL)) (ds := rlZ) (.tmp 4) (.tmp 32) rfl rfl rfl rfl info_roll rfl rlC_one ?_ ?_; (· exact H6.out.res)))
      refine bodyPost_ret (v := .tuple #[.agg (rlC (⟨r.m, r.a.uni (S4.only p)⟩ : RL)).toArray, .int .i64 (0)]) (results_ce (fn := Tryd.f72) (p := 4) (t := 5) rfl _ _ _ rfl (H6.out.res.row _) Tryd.underlying64 rfl info_roll) rfl ?_
      rw [HE.out]
      exact ⟨rfl, below_setRow H6.out.up (by omega) _⟩

set_option maxRecDepth 100000 in
set_option maxHeartbeats 4000000 in
theorem c_rlwith (r : RL) (p : Int) (w : World) (hT : TabD w) :
    Calls Tryd.prog 77 #[.agg (rlC r).toArray, .int .i64 p] w fun e w' => e = .returned (.tuple #[.agg (rlC (rlWith r p).1).toArray, .bool (rlWith r p).2]) ∧ Below w.heap.size w w' := by
  have hX := bx2_rl w r
  generalize hw1 : (w.alloc (.cells (rlC r).toArray 64)).alloc (.cells #[.int .u64 0, .int .u64 0, .int .u64 0, .int .u64 0, .int .u64 0, .int .u64 0, .int .u64 0, .int .u64 0] 64) = w1 at hX
  have HW := Lib.hid hw1
  have HX := Lib.hid hX
  have CK := Lib.hid (fun W (hW : Below w.heap.size w W) => c_rlfine r W (hT.up hW))
  clear hT hX hw1
  obtain ⟨q, hq⟩ : ∃ q, rlFine r = q := ⟨_, rfl⟩
  rw [hq] at CK
  cases q
  case false =>
    have HE : Hid (rlWith r p = (⟨r.m, r.a⟩, false)) := Lib.hid (by unfold rlWith; rw [if_pos hq])
    clear hq
    go_enter Tryd.func77, Tryd.ntmps77
    go_upto_region 1 with fail
    rw [HW.out]
    go_wp2_with (refine ldr (b := w.heap.size) (t := 64) (cs := rlC r) (.tmp 2) rfl rfl Tryd.underlying64 rfl info_roll rfl ?_ ?_; (· exact HX.out.box))
    refine (CK.out _ HX.out.up).mono ?_; rintro e w3 ⟨rfl, hb⟩
    have H2 := Lib.hid (HX.out.next hb)
    clear hb
    go_wp2_with (first | (refine ldr (b := w.heap.size) (t := 64) (cs := rlC r) (.tmp 2) rfl rfl Tryd.underlying64 rfl info_roll rfl ?_ ?_; (· exact H2.out.box)) | (refine str (b := w.heap.size + 1) (t := 64) (cs := rlC r) (ds := rlZ) (.tmp 4) (.tmp 16) rfl rfl rfl rfl info_roll rfl rlC_one ?_ ?_; (· exact H2.out.res)))
    refine bodyPost_ret (v := .tuple #[.agg (rlC r).toArray, .bool (false)]) (results_ce (fn := Tryd.f77) (p := 4) (t := 5) rfl _ _ _ rfl (H2.out.res.row _) Tryd.underlying64 rfl info_roll) rfl ?_
    rw [HE.out]
    exact ⟨rfl, below_setRow H2.out.up (by omega) _⟩
  case true =>
    cases ha : hasL r.a.ints p
    case false =>
      have HE : Hid (rlWith r p = (⟨r.m, r.a⟩, false)) := Lib.hid (by unfold rlWith; rw [if_neg (by rw [hq]; decide), if_pos ha])
      have CHA := Lib.hid (fun W => c_hasB r.a p W ha)
      clear hq ha
      go_enter Tryd.func77, Tryd.ntmps77
      go_upto_region 1 with fail
      rw [HW.out]
      go_wp2_with (refine ldr (b := w.heap.size) (t := 64) (cs := rlC r) (.tmp 2) rfl rfl Tryd.underlying64 rfl info_roll rfl ?_ ?_; (· exact HX.out.box))
      refine (CK.out _ HX.out.up).mono ?_; rintro e w3 ⟨rfl, hb⟩
      have H2 := Lib.hid (HX.out.next hb)
      clear hb
      obtain ⟨m0, m1, m2, m3, a0, a1, a2, a3⟩ := H2.out.box.rl
      go_wp2_with fail
      refine (CHA.out _).mono ?_; rintro e w4 ⟨rfl, hb⟩
      clear m0 m1 m2 m3 a0 a1 a2 a3
      have H3 := Lib.hid (H2.out.next hb)
      clear hb
      go_wp2_with (first | (refine ldr (b := w.heap.size) (t := 64) (cs := rlC r) (.tmp 2) rfl rfl Tryd.underlying64 rfl info_roll rfl ?_ ?_; (· exact H3.out.box)) | (refine str (b := w.heap.size + 1) (t := 64) (cs := rlC r) (ds := rlZ) (.tmp 4) (.tmp 16) rfl rfl rfl rfl info_roll rfl rlC_one ?_ ?_; (· exact H3.out.res)))
      refine bodyPost_ret (v := .tuple #[.agg (rlC r).toArray, .bool (false)]) (results_ce (fn := Tryd.f77) (p := 4) (t := 5) rfl _ _ _ rfl (H3.out.res.row _) Tryd.underlying64 rfl info_roll) rfl ?_
      rw [HE.out]
      exact ⟨rfl, below_setRow H3.out.up (by omega) _⟩
    case true =>
      have HE : Hid (rlWith r p = (⟨r.m, r.a.les (S4.only p)⟩, true)) := Lib.hid (by unfold rlWith; rw [if_neg (by rw [hq]; decide), if_neg (by rw [ha]; decide)])
      have CHA := Lib.hid (fun W => c_hasB r.a p W ha)
      clear hq ha
      go_enter Tryd.func77, Tryd.ntmps77
      go_upto_region 1 with fail
      rw [HW.out]
      go_wp2_with (refine ldr (b := w.heap.size) (t := 64) (cs := rlC r) (.tmp 2) rfl rfl Tryd.underlying64 rfl info_roll rfl ?_ ?_; (· exact HX.out.box))
      refine (CK.out _ HX.out.up).mono ?_; rintro e w3 ⟨rfl, hb⟩
      have H2 := Lib.hid (HX.out.next hb)
      clear hb
      obtain ⟨m0, m1, m2, m3, a0, a1, a2, a3⟩ := H2.out.box.rl
      go_wp2_with fail
      refine (CHA.out _).mono ?_; rintro e w4 ⟨rfl, hb⟩
      clear m0 m1 m2 m3 a0 a1 a2 a3
      have H3 := Lib.hid (H2.out.next hb)
      clear hb
      obtain ⟨m0, m1, m2, m3, a0, a1, a2, a3⟩ := H3.out.box.rl
      go_wp2_with fail
      refine (c_drop r.a p _).mono ?_; rintro e w5 ⟨rfl, hb⟩
      clear m0 m1 m2 m3 a0 a1 a2 a3
      have H4 := Lib.hid (H3.out.next hb)
      clear hb
      obtain ⟨m0, m1, m2, m3, a0, a1, a2, a3⟩ := H4.out.box.rl
      have f4 := H4.out.box.free 4
      have f5 := H4.out.box.free 5
      have f6 := H4.out.box.free 6
      have f7 := H4.out.box.free 7
      have H5 := Lib.hid (H4.out.putA (r.a.les (S4.only p)))
      go_wp2_with (first | (refine ldr (b := w.heap.size) (t := 64) (cs := rlC (⟨r.m, r.a.les (S4.only p)⟩ : RL)) (.tmp 2) rfl rfl Tryd.underlying64 rfl info_roll rfl ?_ ?_; (· exact H5.out.box)) | (refine str (b := w.heap.size + 1) (t := 64) (cs := rlC (⟨r.m, r.a.les (S4.only p)⟩ : RL)) (ds := rlZ) (.tmp 4) (.tmp 22) rfl rfl rfl rfl info_roll rfl rlC_one ?_ ?_; (· exact H5.out.res)))
      refine bodyPost_ret (v := .tuple #[.agg (rlC (⟨r.m, r.a.les (S4.only p)⟩ : RL)).toArray, .bool (true)]) (results_ce (fn := Tryd.f77) (p := 4) (t := 5) rfl _ _ _ rfl (H5.out.res.row _) Tryd.underlying64 rfl info_roll) rfl ?_
      rw [HE.out]
      exact ⟨rfl, below_setRow H5.out.up (by omega) _⟩
end Go.Proofs.YtlfglibepldjpaaDoor

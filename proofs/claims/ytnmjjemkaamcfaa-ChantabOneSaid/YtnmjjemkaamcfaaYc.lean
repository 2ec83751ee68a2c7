/- Package chantab: slices.Clone of channels, there, shared, join. -/
import Derived.Test.YtnmjjemkaamcfaaYb
import Derived.Test.YtnmjjemkaamcfaaJg
import Derived.Lib.SliceRun
namespace Go.Proofs.Ytnmjjemkaamcfaa
open Go.RowKit

theorem ei_ct : EI Try.prog 26 73 (.agg chZ.toArray) 11 152 := ⟨Try.underlying26, by kernel_rfl, rfl, by omega, by omega⟩
theorem eq_nil_tab (w : World) (a : Option Addr) (n c n' c' : Nat) : (binOp .eql 26 (.slice a n c) (.slice none n' c')).run Try.prog w = .ok (.bool a.isNone) w := Lib.run_eql_slice_nil w _ 73 a n c n' c' (by kernel_rfl)
/-- A table of the call's own. -/
def OwnT (w : World) (T : TypeId) (n : Nat) (L : List CQ) (e : Ending) (w' : World) : Prop := ∃ v, e = .returned v ∧ OwT w' T w.heap.size v n L ∧ Below w.heap.size w w'
theorem OwT.of {w w' : World} {T : TypeId} {v : Value} {n : Nat} {L : List CQ} (h : w'.ownsRow w.heap.size T 11 v n (L.flatMap cellsQ)) (k : ∀ q ∈ L, ChW w tt q.1 q.2) (hb : Below w.heap.size w w') : OwT w' T w.heap.size v n L := by
  refine ⟨h, fun q hq => ((k q hq).lt.below hb).lo fun b hb' e => ?_⟩
  have := (h.lt b e).1
  omega

set_option maxHeartbeats 400000 in
theorem c_tclone {w : World} {pl : Nat → Prop} {A : Option Addr} {n c : Nat} {L : List CQ} (h : TbW w pl A n c L) (hn : n ≤ 100000) :
    Calls Try.prog 37 #[.slice A n c] w (OwnT w 73 n L) := by
  have hq := eq_nil_tab
  rcases A with _ | p
  · have hL : L = [] := by
      rcases Nat.eq_zero_or_pos n with h0 | h0
      · exact List.eq_nil_of_length_eq_zero (by have := h.len; omega)
      · obtain ⟨b, o, e, _⟩ := h.rd.at_ h0
        cases e
    subst hL
    obtain rfl : n = 0 := by simpa using h.len.symm
    clear h
    go_enter Try.func37, Try.ntmps37
    go_wp2
    go_ret
    exact ⟨_, rfl, ⟨World.ownsRow_nil _ _ _ _, fun q hq => absurd hq (by simp)⟩, Below.refl _ _⟩
  · have HR := Lib.hid h
    have hown := World.ownsRow_made (base := w.heap.size) (e := 73) (size := 11) w #[] 0 (Nat.le_refl _) (by unfold maxLen; omega) (by simp)
    clear h
    go_enter Try.func37, Try.ntmps37
    go_wp2_with (at_builtin; refine wpList_app2 ei_ct rfl (.tmp 5) (.tmp 6) rfl (.slice (some ⟨w.heap.size, 0, none⟩) 0 0) [] rfl hown rfl (HR.out.rd.below (up_alloc _ _)) (cellsQ_one _) (by omega) (by simp) ?_; intro v1 w1 hown1 hg1; simp only [Nat.zero_add, List.nil_append] at hown1)
    go_ret
    have hb : Below w.heap.size w w1 := (up_alloc w (.cells #[] 73)).grown hg1 (by simp) (fun k e => by
      have : w.heap.size = k := by simpa [Value.ownBlock] using e
      omega)
    exact ⟨_, rfl, OwT.of hown1 HR.out.each hb, hb⟩

set_option maxHeartbeats 400000 in
theorem c_there (A : Option Addr) (n c : Nat) (o : Int) (w : World) :
    Calls Try.prog 27 #[.slice A n c, .int .i64 o] w fun e w' => e = .returned (.bool (decide (0 ≤ o) && decide (o < (n : Int)))) ∧ w = w' := by
  by_cases h0 : 0 ≤ o
  · by_cases h1 : o < (n : Int)
    · have g0 : decide (0 ≤ o) = true := decide_eq_true h0
      have g1 : decide (o < (n : Int)) = true := decide_eq_true h1
      rw [g0, g1]
      go_enter Try.func27, Try.ntmps27
      go_wp2
      go_ret
      exact ⟨rfl, rfl⟩
    · have g0 : decide (0 ≤ o) = true := decide_eq_true h0
      have g1 : decide (o < (n : Int)) = false := decide_eq_false h1
      rw [g0, g1]
      go_enter Try.func27, Try.ntmps27
      go_wp2
      go_ret
      exact ⟨rfl, rfl⟩
  · have g0 : decide (0 ≤ o) = false := decide_eq_false h0
    rw [g0]
    go_enter Try.func27, Try.ntmps27
    go_wp2
    go_ret
    exact ⟨rfl, rfl⟩

set_option maxHeartbeats 1000000 in
theorem c_shared (w : World) (C : CP) (M : SM) (k : Int) : Calls Try.prog 69 #[.agg (chC C M).toArray, .int .i64 k] w fun e w' => e = .returned (.bool (gdSh C k)) ∧ Below w.heap.size w w' := by
  have hX := bx1_ch w C M
  generalize hw1 : w.alloc (.cells (chC C M).toArray 73) = w1 at hX
  have HW := Lib.hid hw1
  have HX := Lib.hid hX
  have HE := Lib.hid (show gdSh C k = (bif k == 1 then C.is else C.os) from rfl)
  generalize gdSh C k = q at HE ⊢
  have c6 := hX.box.cos
  have c9 := hX.box.cis
  clear hw1 hX
  cases hk : (k == 1)
  all_goals
    rw [hk] at HE
    go_enter Try.func69, Try.ntmps69
    go_upto_region 1 with fail
    rw [HW.out]
    go_wp2
    go_ret
    exact ⟨ret_bool (by rw [HE.out]; rfl), HX.out.up⟩

/-- The world of join: its two boxes and its answer's cell. -/
structure JnB (w w2 : World) (C : CP) (M : SM) (g : GD) : Prop where
  up : Below w.heap.size w w2
  box : Blk w2 w.heap.size (chC C M) 73
  gd : Blk w2 (w.heap.size + 1) (gdC g) 80
  res : Blk w2 (w.heap.size + 2) chZ 73
theorem JnB.next {w w2 w3 : World} {C : CP} {M : SM} {g : GD} (h : JnB w w2 C M g) (hb : Below w2.heap.size w2 w3) : JnB w w3 C M g :=
  ⟨up_trans h.up hb, h.box.up hb h.box.lt, h.gd.up hb h.gd.lt, h.res.up hb h.res.lt⟩
theorem jnb (w : World) (C : CP) (M : SM) (g : GD) : JnB w (((w.alloc (.cells (chC C M).toArray 73)).alloc (.cells (gdC g).toArray 80)).alloc (.cells chZ.toArray 73)) C M g := by
  have s1 : (w.alloc (.cells (chC C M).toArray 73)).heap.size = w.heap.size + 1 := by simp
  have s2 : ((w.alloc (.cells (chC C M).toArray 73)).alloc (.cells (gdC g).toArray 80)).heap.size = w.heap.size + 2 := by simp
  have b1 := Blk.new (w.alloc (.cells (chC C M).toArray 73)) (gdC g) 80
  have b2 := Blk.new ((w.alloc (.cells (chC C M).toArray 73)).alloc (.cells (gdC g).toArray 80)) chZ 73
  rw [s1] at b1
  rw [s2] at b2
  exact ⟨up_trans (two_up w _ _) (up_alloc _ _), ((Blk.new w _ _).alloc _).alloc _, b1.alloc _, b2⟩
theorem jnb' (w : World) (C : CP) (M : SM) (g : GD) : JnB w (((w.alloc (.cells (chC C M).toArray 73)).alloc (.cells (gdC g).toArray 80)).alloc (.cells #[.int .i64 0, .int .i64 0, .int .i64 0, .int .i64 0, .int .i64 0, .slice none 0 0, .bool false, .slice none 0 0, .slice none 0 0, .bool false, .slice none 0 0] 73)) C M g := jnb w C M g
theorem Blk.gk {w : World} {b : Nat} {g : GD} {t : TypeId} (h : Blk w b (gdC g) t) : w.cell? ⟨b, 0, none⟩ = some (.int .i64 g.k) := h.cell 0 _ rfl
theorem Blk.go {w : World} {b : Nat} {g : GD} {t : TypeId} (h : Blk w b (gdC g) t) : w.cell? ⟨b, 1, none⟩ = some (.int .i64 g.o) := h.cell 1 _ rfl
theorem Blk.gv {w : World} {b : Nat} {g : GD} {t : TypeId} (h : Blk w b (gdC g) t) : w.cell? ⟨b, 2, none⟩ = some (.int .i64 g.v) := h.cell 2 _ rfl

set_option maxRecDepth 100000 in
set_option maxHeartbeats 4000000 in
theorem c_join {w : World} {pl : Nat → Prop} {C : CP} {M : SM} (h : ChW w pl C M) (hn : ChFew M) (hp : ∀ b, w.heap.size ≤ b → pl b) (p : Int) (g : GD) :
    Calls Try.prog 70 #[.agg (chC C M).toArray, .int .i64 p, .agg (gdC g).toArray] w (ChPost w pl (gdN1 C p g) (.int .i64 (gdE1 C p g))) := by
  have hX := jnb' w C M g
  generalize hw1 : ((w.alloc (.cells (chC C M).toArray 73)).alloc (.cells (gdC g).toArray 80)).alloc (.cells #[.int .i64 0, .int .i64 0, .int .i64 0, .int .i64 0, .int .i64 0, .slice none 0 0, .bool false, .slice none 0 0, .slice none 0 0, .bool false, .slice none 0 0] 73) = w1 at hX
  have HW := Lib.hid hw1
  have HX := Lib.hid hX
  have hq : ∀ W : World, Below w.heap.size w W → w.heap.size + 3 ≤ W.heap.size → ∀ b, W.heap.size ≤ b → pl b ∧ b ≠ w.heap.size + 2 := fun W hW hz b hb => ⟨hp b (by omega), by omega⟩
  have hv : ChW w (fun b => pl b ∧ b ≠ w.heap.size + 2) C M := h.lt.lo fun b hb => ⟨hb.1, by have := hb.2; omega⟩
  have CR := Lib.hid (fun W (hW : Below w.heap.size w W) hz => c_chrecv (hv.below hW) hn (hq W hW hz) p)
  have CS := Lib.hid (fun W (hW : Below w.heap.size w W) hz => c_chsend (hv.below hW) hn (hq W hW hz) p g.v)
  have hz : w.heap.size + 3 ≤ w1.heap.size := hX.res.lt
  have HZ := Lib.hid hz
  have HN := Lib.hid (show gdN1 C p g = (bif g.k == 1 then chRecv C p else chSend C p g.v) from rfl)
  have HE := Lib.hid (show gdE1 C p g = (bif g.k == 1 then chRecvE C p else chSendE C p g.v) from rfl)
  generalize gdN1 C p g = C2 at HN ⊢
  generalize gdE1 C p g = er at HE ⊢
  have g0 := hX.gd.gk
  have g2 := hX.gd.gv
  clear hw1 hX h hn hp hq hv hz
  cases hk : (g.k == 1)
  · rw [hk] at HN HE
    have e1 : Hid (C2 = chSend C p g.v) := HN
    have e2 : Hid (er = chSendE C p g.v) := HE
    generalize chSend C p g.v = C3 at CS e1
    generalize chSendE C p g.v = er3 at CS e2
    clear HN HE CR
    go_enter Try.func70, Try.ntmps70
    go_upto_region 1 with fail
    rw [HW.out]
    go_wp2_with (refine ld_row HX.out.box rfl (.tmp 3) rfl rfl Try.underlying73 rfl info_ch ?_)
    refine (CS.out _ HX.out.up HZ.out).mono ?_; rintro e w2 ⟨M2, rfl, h2, hb2⟩
    have HA := Lib.hid (HX.out.next hb2)
    have H2 := Lib.hid h2
    clear h2 hb2 g0 g2
    go_wp2_with (refine st_row (cs := chC C3 M2) HA.out.res rfl (.tmp 6) (.tmp 21) rfl rfl rfl info_ch rfl chC_one ?_)
    refine bodyPost_ret (v := .tuple #[.agg (chC C3 M2).toArray, .int .i64 er3]) (results_ce (fn := Try.f70) (p := 6) (t := 7) rfl _ _ _ rfl (HA.out.res.row _) Try.underlying73 rfl info_ch) rfl ?_
    rw [e1.out, e2.out]
    exact ⟨M2, rfl, (H2.out.only ((Only.refl (· = w.heap.size + 2) _).row rfl _) (by rintro k rfl hk; exact hk.2 rfl)).lo (fun _ hk => hk.1), below_setRow HA.out.up (by omega) _⟩
  · rw [hk] at HN HE
    have e1 : Hid (C2 = chRecv C p) := HN
    have e2 : Hid (er = chRecvE C p) := HE
    generalize chRecv C p = C3 at CR e1
    generalize chRecvE C p = er3 at CR e2
    clear HN HE CS
    go_enter Try.func70, Try.ntmps70
    go_upto_region 1 with fail
    rw [HW.out]
    go_wp2_with (refine ld_row HX.out.box rfl (.tmp 3) rfl rfl Try.underlying73 rfl info_ch ?_)
    refine (CR.out _ HX.out.up HZ.out).mono ?_; rintro e w2 ⟨M2, rfl, h2, hb2⟩
    have HA := Lib.hid (HX.out.next hb2)
    have H2 := Lib.hid h2
    clear h2 hb2 g0 g2
    go_wp2_with (refine st_row (cs := chC C3 M2) HA.out.res rfl (.tmp 6) (.tmp 14) rfl rfl rfl info_ch rfl chC_one ?_)
    refine bodyPost_ret (v := .tuple #[.agg (chC C3 M2).toArray, .int .i64 er3]) (results_ce (fn := Try.f70) (p := 6) (t := 7) rfl _ _ _ rfl (HA.out.res.row _) Try.underlying73 rfl info_ch) rfl ?_
    rw [e1.out, e2.out]
    exact ⟨M2, rfl, (H2.out.only ((Only.refl (· = w.heap.size + 2) _).row rfl _) (by rintro k rfl hk; exact hk.2 rfl)).lo (fun _ hk => hk.1), below_setRow HA.out.up (by omega) _⟩
end Go.Proofs.Ytnmjjemkaamcfaa

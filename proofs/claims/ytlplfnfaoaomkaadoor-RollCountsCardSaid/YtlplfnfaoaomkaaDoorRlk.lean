/- The law RollCounts. -/
import Derived.Test.YtlplfnfaoaomkaaDoorRlj
import Derived.Test.YtlplfnfaoaomkaaDoorBg
import Derived.IntWalk
import Derived.Deep.DeepCutAuto
import Derived.Deep.CutBlock
namespace Go.Proofs.YtlplfnfaoaomkaaDoor
open Go.RowKit

theorem info_b16 : (Tryd.prog.info? 48).map (·.size) = some 16 := by kernel_rfl
theorem t_enr {r : RL} (hf : rlFine r = true) {q : Nat} (hq : q < 16) {e : Int} (he : (if r.m.has q = true then 7 else 0) = e) (W : World) (hT : TabD W) :
    Calls Tryd.prog 8 #[.agg (rlC r).toArray, .int .i64 (q : Int)] W (Ans (.tuple #[.agg (rlC (rEnr r q)).toArray, .int .i64 e]) W) := by
  have := c_rlenrol r q W hT
  rw [enr_eq hf hq, he] at this
  exact this
theorem t_res {r : RL} (hf : rlFine r = true) {q : Nat} (hq : q < 16) {e : Int} (he : (if r.m.has q = true then 0 else 6) = e) (W : World) (hT : TabD W) :
    Calls Tryd.prog 10 #[.agg (rlC r).toArray, .int .i64 (q : Int)] W (Ans (.tuple #[.agg (rlC (rRes r q)).toArray, .int .i64 e]) W) := by
  have := c_rlresign r q W hT
  rw [res_eq hf hq, he] at this
  exact this
theorem t_off {r : RL} (hf : rlFine r = true) {q : Nat} (hq : q < 16) {e : Int} (he : (if r.m.has q = true then (if r.a.has q = true then 7 else 0) else 6) = e) (W : World) (hT : TabD W) :
    Calls Tryd.prog 12 #[.agg (rlC r).toArray, .int .i64 (q : Int)] W (Ans (.tuple #[.agg (rlC (rOff r q)).toArray, .int .i64 e]) W) := by
  have := c_rloffer r q W hT
  rw [off_eq hf hq, he] at this
  exact this
theorem t_wth {r : RL} (hf : rlFine r = true) {q : Nat} (hq : q < 16) {b : Bool} (he : r.a.has q = b) (W : World) (hT : TabD W) :
    Calls Tryd.prog 14 #[.agg (rlC r).toArray, .int .i64 (q : Int)] W (Ans (.tuple #[.agg (rlC (rWth r q)).toArray, .bool b]) W) := by
  have := c_rlwith r q W hT
  rw [wth_eq hf hq, he] at this
  exact this
theorem t_full {r : RL} {b : Bool} (hb : rlFull r = b) (W : World) (hT : TabD W) : Calls Tryd.prog 20 #[.agg (rlC r).toArray] W (Ans (.bool b) W) := by
  have := c_rlfull r W hT
  rw [hb] at this
  exact this
theorem t_fine {r : RL} (hb : rlFine r = true) (W : World) (hT : TabD W) : Calls Tryd.prog 18 #[.agg (rlC r).toArray] W (Ans (.bool true) W) := by
  have := c_rlfine r W hT
  rw [hb] at this
  exact this
def Went (w : World) (m : S4) (e : Ending) (w' : World) : Prop := ∃ A c, e = .returned (.tuple #[.agg (rlC (⟨m, S4.zero⟩ : RL)).toArray, .slice A m.ints.length c, .int .i64 0]) ∧ Below w.heap.size w w'
theorem t_fire {r : RL} (hf : rlFine r = true) (hb : rlFull r = true) (W : World) (hT : TabD W) : Calls Tryd.prog 21 #[.agg (rlC r).toArray] W (Went W r.m) := by
  have := c_rlfire r W hT
  rw [fire_eq hf hb] at this
  exact this.mono fun e w' ⟨A, c, he, _, hb⟩ => ⟨A, c, he, hb⟩

theorem t_len {s : S4} {n : Nat} (hn : s.ints.length = n) (W : World) : Calls Tryd.prog 22 #[s.val] W (Ans (.int .i64 (n : Int)) W) := by
  subst hn
  exact c_len s W
def WentN (w : World) (m : S4) (n : Nat) (e : Ending) (w' : World) : Prop := ∃ A c, e = .returned (.tuple #[.agg (rlC (⟨m, S4.zero⟩ : RL)).toArray, .slice A n c, .int .i64 0]) ∧ Below w.heap.size w w'
theorem went_len {w w' : World} {m : S4} {n : Nat} {e : Ending} (hn : m.ints.length = n) (h : Went w m e w') : WentN w m n e w' := by
  subst hn
  exact h
theorem bF_one : ∀ v ∈ bF, v.oneCell' = true := by
  rw [← bC_zero]
  exact bC_one _

set_option maxRecDepth 100000 in
set_option maxHeartbeats 16000000 in
theorem l_counts (A : Option Addr) (n cp : Nat) (P : List Pr) (w : World) (hR : RD w (fun _ => True) 2 A n (P.flatMap prV)) (hn : P.length = n) (hP : ∀ p ∈ P, PrOk p) (hT : TabD w) :
    Calls Tryd.prog 4 #[.slice A n cp] w fun e w' => e = .returned (.bool true) ∧ Below w.heap.size w w' := by
  by_cases h60 : 60 < n
  · have h60' : (60 : Int) < n := by omega
    have CA := Lib.hid (c_alive21 w hT)
    clear hR hn hP hT
    go_enter Tryd.func4, Tryd.ntmps4
    go_wp2_with fail
    refine CA.out.mono ?_; rintro e w' ⟨rfl, hb⟩
    go_wp2
    go_ret
    exact ⟨rfl, hb⟩
  have h60' : ¬ (60 : Int) < n := by omega
  have hn60 : n ≤ 60 := by omega
  have HR := Lib.hid hR
  have HN := Lib.hid hn
  have HP := Lib.hid hP
  have hU0 := up_trans (up_trans (up_alloc w (.cells (rlZ).toArray 31)) (up_alloc (w.alloc (.cells (rlZ).toArray 31)) (.cells (bF).toArray 48))) (up_alloc ((w.alloc (.cells (rlZ).toArray 31)).alloc (.cells (bF).toArray 48)) (.cells (bF).toArray 48))
  have hB0 := ((Blk.new w rlZ 31).alloc (.cells (bF).toArray 48)).alloc (.cells (bF).toArray 48)
  have hB1 := (Blk.new' (w.alloc (.cells (rlZ).toArray 31)) bF 48 (w.heap.size + 1) (by simp)).alloc (.cells (bF).toArray 48)
  have hB2 := Blk.new' ((w.alloc (.cells (rlZ).toArray 31)).alloc (.cells (bF).toArray 48)) bF 48 (w.heap.size + 1 + 1) (by simp)
  have hg := tab_lt hT
  generalize hw0 : ((w.alloc (.cells (rlZ).toArray 31)).alloc (.cells (bF).toArray 48)).alloc (.cells (bF).toArray 48) = w0 at hU0 hB0 hB1 hB2
  have HS : Hid (CW w0 w0 w.heap.size RL.zero (bC RL.zero.m.has) (bC RL.zero.a.has)) := Lib.hid ⟨Only.refl _ _, hB0, by rw [show RL.zero.m = S4.zero from rfl, bC_zero]; exact hB1, by rw [show RL.zero.a = S4.zero from rfl, bC_zero]; exact hB2⟩
  have HU := Lib.hid hU0
  have HT := Lib.hid (hT.up hU0)
  have HG := Lib.hid hg
  have HW := Lib.hid hw0
  have HR0 := Lib.hid ((HR.out.lt).below hU0)
  clear hR hn hP hT h60 hU0 hB0 hB1 hB2 hw0 hg HR
  go_enter Tryd.func4, Tryd.ntmps4
  go_wp2_with fail
  rw [HW.out]
  go_loopw [23] (fun i wr => ∃ (k : Nat) (r : RL), k ≤ n ∧ i = .int .i64 k ∧ CW w0 wr w.heap.size r (bC r.m.has) (bC r.a.has) ∧ rlFine r = true) (fun i _ => n - (intOf i).toNat)
  case atStart => exact ⟨0, RL.zero, Nat.zero_le _, rfl, HS.out, zero_fine⟩
  case round =>
    clear HS
    obtain ⟨k, r, hk, rfl, hS, hF⟩ := hrel
    have HS := Lib.hid hS
    have HF := Lib.hid hF
    clear hS hF
    by_cases hlt : k < n
    · obtain ⟨bL, oL, p, rfl, hbL, hp, a0, a1⟩ := (HR0.out.only HS.out.only (fun j hj hn => by have := hn.2; unfold three at hj; omega)).pr HN.out k hlt
      obtain ⟨d0, d1, d2, d3⟩ := HP.out _ (List.mem_of_getElem? hp)
      obtain ⟨pa, pv⟩ := p
      simp only at a0 a1 d0 d1 d2 d3
      obtain ⟨q, hq⟩ : ∃ q : Nat, pa % 16 = q := ⟨(pa % 16).toNat, by omega⟩
      have hq16 : (q : Int) < 16 := by omega
      have hq0 : (0 : Int) ≤ q := by omega
      have hq16' : q < 16 := by omega
      have ups := up_alloc wr (.cells #[.int .u8 pa, .int .u8 pv] 49)
      have HSa := Lib.hid (HS.out.below ups)
      clear hp ups
      go_upto_block 2 with fail
      have hmod : 0 ≤ pv % 5 := by omega
      have hmod5 : pv % 5 < 5 := by omega
      generalize pv % 5 = x5 at hmod hmod5
      generalize wr.alloc (.cells #[.int .u8 pa, .int .u8 pv] 49) = wa at HSa
      clear a0 a1 d0 d1 d2 d3 hq HS
      go_cut [9, 10] (fun s9 s10 wx => ∃ r' : RL, CW w0 wx w.heap.size r' (bC r'.m.has) (bC r'.a.has) ∧ rlFine r' = true)
      case first =>
        rcases (by omega : x5 = 0 ∨ x5 = 1 ∨ x5 = 2 ∨ x5 = 3 ∨ x5 = 4) with hx | hx | hx | hx | hx
        · cases hm : r.m.has q
          · have t0 : (x5 == 0) = true := by simp [hx]
            clear hx hmod hmod5
            have CE := Lib.hid (fun W hW => t_enr HF.out hq16' (e := 0) (by rw [hm]; rfl) W hW)
            have GM := Lib.hid (show (bC r.m.has)[q]? = some (.bool false) by rw [bC_get _ q hq16', hm])
            clear hm
            go_wp2_with (refine ldr (b := w.heap.size) (t := 31) (cs := rlC r) (.tmp 3) rfl rfl Tryd.underlying31 rfl info_roll rfl ?_ ?_; (· exact HSa.out.rl))
            refine (CE.out _ (HSa.out.tab HT.out HG.out)).mono ?_; rintro e w2 ⟨rfl, hb⟩
            have HSb := Lib.hid (HSa.out.below hb)
            have HSc := Lib.hid (HSb.out.setR (rEnr r q))
            clear hb CE
            have ci := HSc.out.inn.cell q _ GM.out
            have fi := HSc.out.inn.free q
            go_wp2_with (refine str (b := w.heap.size) (t := 31) (cs := rlC (rEnr r q)) (ds := rlC r) (.tmp 3) (.tmp 53) rfl rfl rfl rfl info_roll rfl rlC_one ?_ ?_; (· exact HSb.out.rl))
            go_meet
            case rel =>
              have h := HSc.out.putI q (.bool true)
              rw [in_enr r hq16'] at h
              exact ⟨rEnr r q, h, enr_fine HF.out hq16'⟩
          · have t0 : (x5 == 0) = true := by simp [hx]
            clear hx hmod hmod5
            have CE := Lib.hid (fun W hW => t_enr HF.out hq16' (e := 7) (by rw [hm]; rfl) W hW)
            have GM := Lib.hid (show (bC r.m.has)[q]? = some (.bool true) by rw [bC_get _ q hq16', hm])
            clear hm
            go_wp2_with (refine ldr (b := w.heap.size) (t := 31) (cs := rlC r) (.tmp 3) rfl rfl Tryd.underlying31 rfl info_roll rfl ?_ ?_; (· exact HSa.out.rl))
            refine (CE.out _ (HSa.out.tab HT.out HG.out)).mono ?_; rintro e w2 ⟨rfl, hb⟩
            have HSb := Lib.hid (HSa.out.below hb)
            have HSc := Lib.hid (HSb.out.setR (rEnr r q))
            clear hb CE
            have ci := HSc.out.inn.cell q _ GM.out
            have fi := HSc.out.inn.free q
            go_wp2_with (refine str (b := w.heap.size) (t := 31) (cs := rlC (rEnr r q)) (ds := rlC r) (.tmp 3) (.tmp 53) rfl rfl rfl rfl info_roll rfl rlC_one ?_ ?_; (· exact HSb.out.rl))
            go_meet
            case rel =>
              have h := HSc.out.putI q (.bool true)
              rw [in_enr r hq16'] at h
              exact ⟨rEnr r q, h, enr_fine HF.out hq16'⟩
        · cases hm : r.m.has q
          · have t0 : (x5 == 0) = false := by simp [hx]
            have t1 : (x5 == 1) = true := by simp [hx]
            clear hx hmod hmod5
            have CE := Lib.hid (fun W hW => t_res HF.out hq16' (e := 6) (by rw [hm]; rfl) W hW)
            have GM := Lib.hid (show (bC r.m.has)[q]? = some (.bool false) by rw [bC_get _ q hq16', hm])
            clear hm
            go_wp2_with (refine ldr (b := w.heap.size) (t := 31) (cs := rlC r) (.tmp 3) rfl rfl Tryd.underlying31 rfl info_roll rfl ?_ ?_; (· exact HSa.out.rl))
            refine (CE.out _ (HSa.out.tab HT.out HG.out)).mono ?_; rintro e w2 ⟨rfl, hb⟩
            have HSb := Lib.hid (HSa.out.below hb)
            have HSc := Lib.hid (HSb.out.setR (rRes r q))
            clear hb CE
            have ci := HSc.out.inn.cell q _ GM.out
            have cj := HSc.out.att.cell q _ (bC_get r.a.has q hq16')
            have fi := HSc.out.inn.free q
            have fj := HSc.out.att.free q
            go_wp2_with (refine str (b := w.heap.size) (t := 31) (cs := rlC (rRes r q)) (ds := rlC r) (.tmp 3) (.tmp 70) rfl rfl rfl rfl info_roll rfl rlC_one ?_ ?_; (· exact HSb.out.rl))
            go_meet
            case rel =>
              have h := (HSc.out.putI q (.bool false)).putT q (.bool false)
              rw [drop_set _ hq16', drop_set _ hq16'] at h
              exact ⟨rRes r q, h, res_fine HF.out q⟩
          · have t0 : (x5 == 0) = false := by simp [hx]
            have t1 : (x5 == 1) = true := by simp [hx]
            clear hx hmod hmod5
            have CE := Lib.hid (fun W hW => t_res HF.out hq16' (e := 0) (by rw [hm]; rfl) W hW)
            have GM := Lib.hid (show (bC r.m.has)[q]? = some (.bool true) by rw [bC_get _ q hq16', hm])
            clear hm
            go_wp2_with (refine ldr (b := w.heap.size) (t := 31) (cs := rlC r) (.tmp 3) rfl rfl Tryd.underlying31 rfl info_roll rfl ?_ ?_; (· exact HSa.out.rl))
            refine (CE.out _ (HSa.out.tab HT.out HG.out)).mono ?_; rintro e w2 ⟨rfl, hb⟩
            have HSb := Lib.hid (HSa.out.below hb)
            have HSc := Lib.hid (HSb.out.setR (rRes r q))
            clear hb CE
            have ci := HSc.out.inn.cell q _ GM.out
            have cj := HSc.out.att.cell q _ (bC_get r.a.has q hq16')
            have fi := HSc.out.inn.free q
            have fj := HSc.out.att.free q
            go_wp2_with (refine str (b := w.heap.size) (t := 31) (cs := rlC (rRes r q)) (ds := rlC r) (.tmp 3) (.tmp 70) rfl rfl rfl rfl info_roll rfl rlC_one ?_ ?_; (· exact HSb.out.rl))
            go_meet
            case rel =>
              have h := (HSc.out.putI q (.bool false)).putT q (.bool false)
              rw [drop_set _ hq16', drop_set _ hq16'] at h
              exact ⟨rRes r q, h, res_fine HF.out q⟩
        · cases hm : r.m.has q
          · have t0 : (x5 == 0) = false := by simp [hx]
            have t1 : (x5 == 1) = false := by simp [hx]
            have t2 : (x5 == 2) = true := by simp [hx]
            clear hx hmod hmod5
            have CE := Lib.hid (fun W hW => t_off HF.out hq16' (e := 6) (by rw [hm]; rfl) W hW)
            have GM := Lib.hid (show (bC r.m.has)[q]? = some (.bool false) by rw [bC_get _ q hq16', hm])
            have GO := Lib.hid (show (bC r.a.has).set q (.bool false) = bC (rOff r q).a.has by rw [← at_off HF.out hq16', hm])
            clear hm
            go_wp2_with (refine ldr (b := w.heap.size) (t := 31) (cs := rlC r) (.tmp 3) rfl rfl Tryd.underlying31 rfl info_roll rfl ?_ ?_; (· exact HSa.out.rl))
            refine (CE.out _ (HSa.out.tab HT.out HG.out)).mono ?_; rintro e w2 ⟨rfl, hb⟩
            have HSb := Lib.hid (HSa.out.below hb)
            have HSc := Lib.hid (HSb.out.setR (rOff r q))
            clear hb CE
            have ci := HSc.out.inn.cell q _ GM.out
            have fj := HSc.out.att.free q
            have cj := HSc.out.att.cell q _ (bC_get r.a.has q hq16')
            go_wp2_with (refine str (b := w.heap.size) (t := 31) (cs := rlC (rOff r q)) (ds := rlC r) (.tmp 3) (.tmp 89) rfl rfl rfl rfl info_roll rfl rlC_one ?_ ?_; (· exact HSb.out.rl))
            go_meet
            case rel =>
              have h := HSc.out.putT q (.bool false)
              rw [GO.out] at h
              exact ⟨rOff r q, h, off_fine HF.out q⟩
          · cases ha : r.a.has q
            · have t0 : (x5 == 0) = false := by simp [hx]
              have t1 : (x5 == 1) = false := by simp [hx]
              have t2 : (x5 == 2) = true := by simp [hx]
              clear hx hmod hmod5
              have CE := Lib.hid (fun W hW => t_off HF.out hq16' (e := 0) (by rw [hm, ha]; rfl) W hW)
              have GM := Lib.hid (show (bC r.m.has)[q]? = some (.bool true) by rw [bC_get _ q hq16', hm])
              have GA := Lib.hid (show (bC r.a.has)[q]? = some (.bool false) by rw [bC_get _ q hq16', ha])
              have GO := Lib.hid (show (bC r.a.has).set q (.bool true) = bC (rOff r q).a.has by rw [← at_off HF.out hq16', hm])
              clear hm
              clear ha
              go_wp2_with (refine ldr (b := w.heap.size) (t := 31) (cs := rlC r) (.tmp 3) rfl rfl Tryd.underlying31 rfl info_roll rfl ?_ ?_; (· exact HSa.out.rl))
              refine (CE.out _ (HSa.out.tab HT.out HG.out)).mono ?_; rintro e w2 ⟨rfl, hb⟩
              have HSb := Lib.hid (HSa.out.below hb)
              have HSc := Lib.hid (HSb.out.setR (rOff r q))
              clear hb CE
              have ci := HSc.out.inn.cell q _ GM.out
              have cj := HSc.out.att.cell q _ GA.out
              have fj := HSc.out.att.free q
              go_wp2_with (refine str (b := w.heap.size) (t := 31) (cs := rlC (rOff r q)) (ds := rlC r) (.tmp 3) (.tmp 89) rfl rfl rfl rfl info_roll rfl rlC_one ?_ ?_; (· exact HSb.out.rl))
              go_meet
              case rel =>
                have h := HSc.out.putT q (.bool true)
                rw [GO.out] at h
                exact ⟨rOff r q, h, off_fine HF.out q⟩
            · have t0 : (x5 == 0) = false := by simp [hx]
              have t1 : (x5 == 1) = false := by simp [hx]
              have t2 : (x5 == 2) = true := by simp [hx]
              clear hx hmod hmod5
              have CE := Lib.hid (fun W hW => t_off HF.out hq16' (e := 7) (by rw [hm, ha]; rfl) W hW)
              have GM := Lib.hid (show (bC r.m.has)[q]? = some (.bool true) by rw [bC_get _ q hq16', hm])
              have GA := Lib.hid (show (bC r.a.has)[q]? = some (.bool true) by rw [bC_get _ q hq16', ha])
              have GO := Lib.hid (show (bC r.a.has).set q (.bool true) = bC (rOff r q).a.has by rw [← at_off HF.out hq16', hm])
              clear hm
              clear ha
              go_wp2_with (refine ldr (b := w.heap.size) (t := 31) (cs := rlC r) (.tmp 3) rfl rfl Tryd.underlying31 rfl info_roll rfl ?_ ?_; (· exact HSa.out.rl))
              refine (CE.out _ (HSa.out.tab HT.out HG.out)).mono ?_; rintro e w2 ⟨rfl, hb⟩
              have HSb := Lib.hid (HSa.out.below hb)
              have HSc := Lib.hid (HSb.out.setR (rOff r q))
              clear hb CE
              have ci := HSc.out.inn.cell q _ GM.out
              have cj := HSc.out.att.cell q _ GA.out
              have fj := HSc.out.att.free q
              go_wp2_with (refine str (b := w.heap.size) (t := 31) (cs := rlC (rOff r q)) (ds := rlC r) (.tmp 3) (.tmp 89) rfl rfl rfl rfl info_roll rfl rlC_one ?_ ?_; (· exact HSb.out.rl))
              go_meet
              case rel =>
                have h := HSc.out.putT q (.bool true)
                rw [GO.out] at h
                exact ⟨rOff r q, h, off_fine HF.out q⟩
        · cases hm : r.m.has q
          · have t0 : (x5 == 0) = false := by simp [hx]
            have t1 : (x5 == 1) = false := by simp [hx]
            have t2 : (x5 == 2) = false := by simp [hx]
            have t3 : (x5 == 3) = true := by simp [hx]
            clear hx hmod hmod5
            have CE := Lib.hid (fun W hW => t_off HF.out hq16' (e := 6) (by rw [hm]; rfl) W hW)
            have GM := Lib.hid (show (bC r.m.has)[q]? = some (.bool false) by rw [bC_get _ q hq16', hm])
            have GO := Lib.hid (show (bC r.a.has).set q (.bool false) = bC (rOff r q).a.has by rw [← at_off HF.out hq16', hm])
            clear hm
            go_wp2_with (refine ldr (b := w.heap.size) (t := 31) (cs := rlC r) (.tmp 3) rfl rfl Tryd.underlying31 rfl info_roll rfl ?_ ?_; (· exact HSa.out.rl))
            refine (CE.out _ (HSa.out.tab HT.out HG.out)).mono ?_; rintro e w2 ⟨rfl, hb⟩
            have HSb := Lib.hid (HSa.out.below hb)
            have HSc := Lib.hid (HSb.out.setR (rOff r q))
            clear hb CE
            have ci := HSc.out.inn.cell q _ GM.out
            have fj := HSc.out.att.free q
            have cj := HSc.out.att.cell q _ (bC_get r.a.has q hq16')
            go_wp2_with (refine str (b := w.heap.size) (t := 31) (cs := rlC (rOff r q)) (ds := rlC r) (.tmp 3) (.tmp 89) rfl rfl rfl rfl info_roll rfl rlC_one ?_ ?_; (· exact HSb.out.rl))
            go_meet
            case rel =>
              have h := HSc.out.putT q (.bool false)
              rw [GO.out] at h
              exact ⟨rOff r q, h, off_fine HF.out q⟩
          · cases ha : r.a.has q
            · have t0 : (x5 == 0) = false := by simp [hx]
              have t1 : (x5 == 1) = false := by simp [hx]
              have t2 : (x5 == 2) = false := by simp [hx]
              have t3 : (x5 == 3) = true := by simp [hx]
              clear hx hmod hmod5
              have CE := Lib.hid (fun W hW => t_off HF.out hq16' (e := 0) (by rw [hm, ha]; rfl) W hW)
              have GM := Lib.hid (show (bC r.m.has)[q]? = some (.bool true) by rw [bC_get _ q hq16', hm])
              have GA := Lib.hid (show (bC r.a.has)[q]? = some (.bool false) by rw [bC_get _ q hq16', ha])
              have GO := Lib.hid (show (bC r.a.has).set q (.bool true) = bC (rOff r q).a.has by rw [← at_off HF.out hq16', hm])
              clear hm
              clear ha
              go_wp2_with (refine ldr (b := w.heap.size) (t := 31) (cs := rlC r) (.tmp 3) rfl rfl Tryd.underlying31 rfl info_roll rfl ?_ ?_; (· exact HSa.out.rl))
              refine (CE.out _ (HSa.out.tab HT.out HG.out)).mono ?_; rintro e w2 ⟨rfl, hb⟩
              have HSb := Lib.hid (HSa.out.below hb)
              have HSc := Lib.hid (HSb.out.setR (rOff r q))
              clear hb CE
              have ci := HSc.out.inn.cell q _ GM.out
              have cj := HSc.out.att.cell q _ GA.out
              have fj := HSc.out.att.free q
              go_wp2_with (refine str (b := w.heap.size) (t := 31) (cs := rlC (rOff r q)) (ds := rlC r) (.tmp 3) (.tmp 89) rfl rfl rfl rfl info_roll rfl rlC_one ?_ ?_; (· exact HSb.out.rl))
              go_meet
              case rel =>
                have h := HSc.out.putT q (.bool true)
                rw [GO.out] at h
                exact ⟨rOff r q, h, off_fine HF.out q⟩
            · have t0 : (x5 == 0) = false := by simp [hx]
              have t1 : (x5 == 1) = false := by simp [hx]
              have t2 : (x5 == 2) = false := by simp [hx]
              have t3 : (x5 == 3) = true := by simp [hx]
              clear hx hmod hmod5
              have CE := Lib.hid (fun W hW => t_off HF.out hq16' (e := 7) (by rw [hm, ha]; rfl) W hW)
              have GM := Lib.hid (show (bC r.m.has)[q]? = some (.bool true) by rw [bC_get _ q hq16', hm])
              have GA := Lib.hid (show (bC r.a.has)[q]? = some (.bool true) by rw [bC_get _ q hq16', ha])
              have GO := Lib.hid (show (bC r.a.has).set q (.bool true) = bC (rOff r q).a.has by rw [← at_off HF.out hq16', hm])
              clear hm
              clear ha
              go_wp2_with (refine ldr (b := w.heap.size) (t := 31) (cs := rlC r) (.tmp 3) rfl rfl Tryd.underlying31 rfl info_roll rfl ?_ ?_; (· exact HSa.out.rl))
              refine (CE.out _ (HSa.out.tab HT.out HG.out)).mono ?_; rintro e w2 ⟨rfl, hb⟩
              have HSb := Lib.hid (HSa.out.below hb)
              have HSc := Lib.hid (HSb.out.setR (rOff r q))
              clear hb CE
              have ci := HSc.out.inn.cell q _ GM.out
              have cj := HSc.out.att.cell q _ GA.out
              have fj := HSc.out.att.free q
              go_wp2_with (refine str (b := w.heap.size) (t := 31) (cs := rlC (rOff r q)) (ds := rlC r) (.tmp 3) (.tmp 89) rfl rfl rfl rfl info_roll rfl rlC_one ?_ ?_; (· exact HSb.out.rl))
              go_meet
              case rel =>
                have h := HSc.out.putT q (.bool true)
                rw [GO.out] at h
                exact ⟨rOff r q, h, off_fine HF.out q⟩
        · cases ha : r.a.has q
          · have t0 : (x5 == 0) = false := by simp [hx]
            have t1 : (x5 == 1) = false := by simp [hx]
            have t2 : (x5 == 2) = false := by simp [hx]
            have t3 : (x5 == 3) = false := by simp [hx]
            clear hx hmod hmod5
            have CE := Lib.hid (fun W hW => t_wth HF.out hq16' (ha) W hW)
            have GA := Lib.hid (show (bC r.a.has)[q]? = some (.bool false) by rw [bC_get _ q hq16', ha])
            clear ha
            go_wp2_with (refine ldr (b := w.heap.size) (t := 31) (cs := rlC r) (.tmp 3) rfl rfl Tryd.underlying31 rfl info_roll rfl ?_ ?_; (· exact HSa.out.rl))
            refine (CE.out _ (HSa.out.tab HT.out HG.out)).mono ?_; rintro e w2 ⟨rfl, hb⟩
            have HSb := Lib.hid (HSa.out.below hb)
            have HSc := Lib.hid (HSb.out.setR (rWth r q))
            clear hb CE
            have cj := HSc.out.att.cell q _ GA.out
            have fj := HSc.out.att.free q
            go_wp2_with (refine str (b := w.heap.size) (t := 31) (cs := rlC (rWth r q)) (ds := rlC r) (.tmp 3) (.tmp 38) rfl rfl rfl rfl info_roll rfl rlC_one ?_ ?_; (· exact HSb.out.rl))
            go_meet
            case rel =>
              have h := HSc.out.putT q (.bool false)
              rw [drop_set _ hq16'] at h
              exact ⟨rWth r q, h, wth_fine HF.out q⟩
          · have t0 : (x5 == 0) = false := by simp [hx]
            have t1 : (x5 == 1) = false := by simp [hx]
            have t2 : (x5 == 2) = false := by simp [hx]
            have t3 : (x5 == 3) = false := by simp [hx]
            clear hx hmod hmod5
            have CE := Lib.hid (fun W hW => t_wth HF.out hq16' (ha) W hW)
            have GA := Lib.hid (show (bC r.a.has)[q]? = some (.bool true) by rw [bC_get _ q hq16', ha])
            clear ha
            go_wp2_with (refine ldr (b := w.heap.size) (t := 31) (cs := rlC r) (.tmp 3) rfl rfl Tryd.underlying31 rfl info_roll rfl ?_ ?_; (· exact HSa.out.rl))
            refine (CE.out _ (HSa.out.tab HT.out HG.out)).mono ?_; rintro e w2 ⟨rfl, hb⟩
            have HSb := Lib.hid (HSa.out.below hb)
            have HSc := Lib.hid (HSb.out.setR (rWth r q))
            clear hb CE
            have cj := HSc.out.att.cell q _ GA.out
            have fj := HSc.out.att.free q
            go_wp2_with (refine str (b := w.heap.size) (t := 31) (cs := rlC (rWth r q)) (ds := rlC r) (.tmp 3) (.tmp 38) rfl rfl rfl rfl info_roll rfl rlC_one ?_ ?_; (· exact HSb.out.rl))
            go_meet
            case rel =>
              have h := HSc.out.putT q (.bool false)
              rw [drop_set _ hq16'] at h
              exact ⟨rWth r q, h, wth_fine HF.out q⟩
      case rest =>
        obtain ⟨r1, hS1, hF1⟩ := hcut
        have HS1 := Lib.hid hS1
        have HF1 := Lib.hid hF1
        clear hS1 hF1 HSa HF
        go_wp2_with fail
        go_loopw [11, 12, 108] (fun s a i wq => ∃ j : Nat, j ≤ 16 ∧ i = .int .i64 j ∧ s = .bool (someN r1 j) ∧ a = .bool (allN r1 j) ∧ Drew wc wq) (fun _ _ i _ => 16 - (intOf i).toNat)
        case atStart => exact ⟨0, by omega, rfl, rfl, rfl, Drew.refl _⟩
        case round =>
          obtain ⟨j, hj, rfl, rfl, rfl, d, rfl⟩ := hrel
          have HSj := Lib.hid (HS1.out.below (up_drewN wc d))
          by_cases hjl : j < 16
          · have hj16 : (j : Int) < 16 := by omega
            have hj0 : (0 : Int) ≤ j := by omega
            have ci := HSj.out.inn.cell j _ (bC_get r1.m.has j hjl)
            have cj := HSj.out.att.cell j _ (bC_get r1.a.has j hjl)
            have ci0 := HS1.out.inn.cell j _ (bC_get r1.m.has j hjl)
            have cj0 := HS1.out.att.cell j _ (bC_get r1.a.has j hjl)
            have HN1 := Lib.hid (some_next r1 j)
            have HN2 := Lib.hid (all_next r1 j)
            generalize r1.m.has j = mb at ci ci0 HN1 HN2
            generalize r1.a.has j = ab at cj cj0 HN2
            generalize someN r1 j = S at HN1 ⊢
            generalize allN r1 j = B at HN2 ⊢
            cases S <;> cases B
            all_goals (
              go_wp2_with fail
              go_quiet (fail)
              go_wp2
              go_roundw
              case rel => exact ⟨j + 1, by omega, by go_num, by rw [HN1.out]; simp, by rw [HN2.out]; simp, _, rfl⟩
              case measure => simp [intOf]; omega)
          · obtain rfl : j = 16 := by omega
            have HE := Lib.hid (full_16 HF1.out)
            have hk1 : (k : Int) < n := by omega
            generalize someN r1 16 = S at HE ⊢
            generalize allN r1 16 = B at HE ⊢
            cases hfull : (S && B)
            case false =>
              cases S
              · clear hfull
                have CU := Lib.hid (fun W hW => t_full (show rlFull r1 = false by rw [HE.out]; rfl) W hW)
                go_wp2_with (refine ldr (b := w.heap.size) (t := 31) (cs := rlC r1) (.tmp 3) rfl rfl Tryd.underlying31 rfl info_roll rfl ?_ ?_; (· exact HSj.out.rl))
                refine (CU.out _ (HSj.out.tab HT.out HG.out)).mono ?_; rintro e w5 ⟨rfl, hb⟩
                have HSk := Lib.hid (HSj.out.below hb)
                clear hb
                go_wp2_with (refine ldr (b := w.heap.size) (t := 31) (cs := rlC r1) (.tmp 3) rfl rfl Tryd.underlying31 rfl info_roll rfl ?_ ?_; (· exact HSk.out.rl))
                refine (CU.out _ (HSk.out.tab HT.out HG.out)).mono ?_; rintro e w6 ⟨rfl, hb⟩
                have HSl := Lib.hid (HSk.out.below hb)
                clear hb
                go_wp2_with fail
                go_roundw
                case rel => exact ⟨k + 1, r1, by omega, by go_num, HSl.out, HF1.out⟩
                case measure => simp [intOf]; omega
              · cases B
                · clear hfull
                  have CU := Lib.hid (fun W hW => t_full (show rlFull r1 = false by rw [HE.out]; rfl) W hW)
                  go_wp2_with (refine ldr (b := w.heap.size) (t := 31) (cs := rlC r1) (.tmp 3) rfl rfl Tryd.underlying31 rfl info_roll rfl ?_ ?_; (· exact HSj.out.rl))
                  refine (CU.out _ (HSj.out.tab HT.out HG.out)).mono ?_; rintro e w5 ⟨rfl, hb⟩
                  have HSk := Lib.hid (HSj.out.below hb)
                  clear hb
                  go_wp2_with (refine ldr (b := w.heap.size) (t := 31) (cs := rlC r1) (.tmp 3) rfl rfl Tryd.underlying31 rfl info_roll rfl ?_ ?_; (· exact HSk.out.rl))
                  refine (CU.out _ (HSk.out.tab HT.out HG.out)).mono ?_; rintro e w6 ⟨rfl, hb⟩
                  have HSl := Lib.hid (HSk.out.below hb)
                  clear hb
                  go_wp2_with fail
                  go_roundw
                  case rel => exact ⟨k + 1, r1, by omega, by go_num, HSl.out, HF1.out⟩
                  case measure => simp [intOf]; omega
                · cases hfull
            case true =>
              obtain ⟨rfl, rfl⟩ : S = true ∧ B = true := by simpa using hfull
              have hF : rlFull r1 = true := by rw [HE.out]; rfl
              have CU := Lib.hid (fun W hW => t_full hF W hW)
              have CG := Lib.hid (fun W hW => t_fire HF1.out hF W hW)
              have hq := run_same (s := r1.m) rfl
              have HQ := Lib.hid hq
              obtain ⟨nl, hnl⟩ : ∃ nl, r1.m.ints.length = nl := ⟨_, rfl⟩
              have CN := Lib.hid (fun W => t_len hnl W)
              have hne : ((nl : Int) != (nl : Int)) = false := by simp
              have CG := Lib.hid (fun W hW => (CG.out W hW).mono fun e w' h => went_len hnl h)
              clear hfull hF hq hnl HE
              go_wp2_with (refine ldr (b := w.heap.size) (t := 31) (cs := rlC r1) (.tmp 3) rfl rfl Tryd.underlying31 rfl info_roll rfl ?_ ?_; (· exact HSj.out.rl))
              refine (CU.out _ (HSj.out.tab HT.out HG.out)).mono ?_; rintro e w5 ⟨rfl, hb⟩
              have HSk := Lib.hid (HSj.out.below hb)
              clear hb
              go_wp2_with (refine ldr (b := w.heap.size) (t := 31) (cs := rlC r1) (.tmp 3) rfl rfl Tryd.underlying31 rfl info_roll rfl ?_ ?_; (· exact HSk.out.rl))
              refine (CU.out _ (HSk.out.tab HT.out HG.out)).mono ?_; rintro e w6 ⟨rfl, hb⟩
              have HSl := Lib.hid (HSk.out.below hb)
              clear hb
              go_wp2_with (refine ldr (b := w.heap.size) (t := 31) (cs := rlC r1) (.tmp 3) rfl rfl Tryd.underlying31 rfl info_roll rfl ?_ ?_; (· exact HSl.out.rl))
              refine (CG.out _ (HSl.out.tab HT.out HG.out)).mono ?_; rintro e w7 ⟨A7, c7, rfl, hb⟩
              have HSm := Lib.hid (HSl.out.below (up_trans hb (up_alloc w7 (.cells (rlC (⟨r1.m, S4.zero⟩ : RL)).toArray 31))))
              have K := Lib.hid (Blk.new w7 (rlC (⟨r1.m, S4.zero⟩ : RL)) 31)
              clear hb CU CG
              obtain ⟨m0, m1, m2, m3, b0, b1, b2, b3⟩ := HSm.out.rl.rl
              obtain ⟨n0, n1, n2, n3, -, -, -, -⟩ := K.out.rl
              have hq := HQ.out
              simp only at n0 n1 n2 n3
              go_wp2_with (first | rw [hq] | (refine snr (W := w7) (cs := rlC (⟨r1.m, S4.zero⟩ : RL)) (zs := rlZ) (t := 31) (.tmp 14) (.tmp 140) rfl rfl rfl rfl info_roll rfl rlC_one ?_ ?_ ?_; (· rfl); (· rfl)))
              refine (CN.out _).mono ?_; rintro e w8 ⟨rfl, hb⟩
              have HSo := Lib.hid (HSm.out.below hb)
              have K8 := Lib.hid (K.out.up hb K.out.lt)
              clear hb m0 m1 m2 m3 b0 b1 b2 b3 n0 n1 n2 n3 hq
              have HSp := Lib.hid (HSo.out.setR (⟨r1.m, S4.zero⟩ : RL))
              have HSq := Lib.hid (HSp.out.setA bF)
              go_wp2_with (first | (refine ldr (b := w7.heap.size) (t := 31) (cs := rlC (⟨r1.m, S4.zero⟩ : RL)) (.tmp 14) rfl rfl Tryd.underlying31 rfl info_roll rfl ?_ ?_; (· exact K8.out)) | (refine str (b := w.heap.size) (t := 31) (cs := rlC (⟨r1.m, S4.zero⟩ : RL)) (ds := rlC r1) (.tmp 3) (.tmp 160) rfl rfl rfl rfl info_roll rfl rlC_one ?_ ?_; (· exact HSo.out.rl)) | (refine str (b := w.heap.size + 1 + 1) (t := 48) (cs := bF) (ds := bC r1.a.has) (.tmp 5) (.tmp 161) rfl rfl rfl rfl info_b16 (bC_len _) bF_one ?_ ?_; (· exact HSp.out.att)))
              go_roundw
              case rel => exact ⟨k + 1, (⟨r1.m, S4.zero⟩ : RL), by omega, by go_num, by
                have h := HSq.out
                rw [← bC_zero] at h
                exact h, go_fine HF1.out⟩
              case measure => simp [intOf]; omega
    · obtain rfl : k = n := by omega
      have CF := Lib.hid (fun W hW => t_fine HF.out W hW)
      go_wp2_with (refine ldr (b := w.heap.size) (t := 31) (cs := rlC r) (.tmp 3) rfl rfl Tryd.underlying31 rfl info_roll rfl ?_ ?_; (· exact HS.out.rl))
      refine (CF.out _ (HS.out.tab HT.out HG.out)).mono ?_; rintro e w2 ⟨rfl, hb⟩
      have HSb := Lib.hid (HS.out.below hb)
      clear hb
      go_wp2_with fail
      refine (c_alive21 _ (HSb.out.tab HT.out HG.out)).mono ?_; rintro e w3 ⟨rfl, hb⟩
      go_wp2
      go_ret
      exact ⟨rfl, HU.out.trans ((HSb.out.below hb).only.toBelow HU.out.size (fun k hk => by unfold three at hk; omega))⟩
end Go.Proofs.YtlplfnfaoaomkaaDoor

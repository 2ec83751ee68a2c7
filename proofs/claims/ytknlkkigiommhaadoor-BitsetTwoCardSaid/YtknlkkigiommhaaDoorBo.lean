/- The law BitsetLaws, walked. -/
import Derived.Test.YtknlkkigiommhaaDoorBn
import Derived.IntWalk
namespace Go.Proofs.YtknlkkigiommhaaDoor
open Go.RowKit

set_option maxRecDepth 100000 in
set_option maxHeartbeats 40000000 in
theorem l_laws (x y z : S4) (w : World) (hT : TabD w) : Calls Tryd.prog 6 #[x.val, y.val, z.val] w fun e w' => e = .returned (.bool true) ∧ Below w.heap.size w w' := by
  have HT := Lib.hid hT
  clear hT
  go_enter Tryd.func6, Tryd.ntmps6
  go_upto_region 1 with fail
  go_cut [7, 8, 9] (fun s7 s8 s9 wx => Three w x y z s7 s8 s9 wx)
  case first =>
    go_region
    all_goals
      go_wp2_with fail
      go_meet
      refine ⟨_, _, _, rfl, rfl, rfl, ?_, ?_, ?_, ?_⟩
      · refine Blk.drew ?_
        repeat (first | exact Blk.new' _ x.cs _ _ (by simp) | refine Blk.alloc ?_ _)
      · refine Blk.drew ?_
        repeat (first | exact Blk.new' _ y.cs _ _ (by simp) | refine Blk.alloc ?_ _)
      · refine Blk.drew ?_
        repeat (first | exact Blk.new' _ z.cs _ _ (by simp) | refine Blk.alloc ?_ _)
      · exact up_trans (up_trans (up_trans (up_trans (up_trans (up_trans (up_alloc _ _) (up_alloc _ _)) (up_alloc _ _)) (up_alloc _ _)) (up_alloc _ _)) (up_alloc _ _)) (up_drewN _ 1)
  case rest =>
    obtain ⟨p, q, r, rfl, rfl, rfl, hP, hQ, hR, hbc⟩ := hcut
    go_upto_region 2 with fail
    go_cut [45] (fun s45 wx => s45 = .bool false ∧ Below wc.heap.size wc wx)
    case first =>
      have cU := fun s t => grown_call (w := wc) fun W _ => c_union s t W
      have cI := fun s t => grown_call (w := wc) fun W _ => c_inter s t W
      obtain ⟨p0, p1, p2, p3⟩ := regr hP
      obtain ⟨q0, q1, q2, q3⟩ := regr hQ
      obtain ⟨r0, r1, r2, r3⟩ := regr hR
      have e1 := run_same (uni_comm x y)
      have e2 := run_same (int_comm x y)
      have e3 := run_same (int_uni x y z)
      refine wp_region_quiet_below (by kernel_rfl) (by kernel_rfl) ?_
      repeat (go_big_quiet_step (first | exact cU _ _ _ _ | exact cI _ _ _ _ | rw [e1] | rw [e2] | rw [e3]))
      refine wpQuiet_nil ?_
      intro _ hw'
      obtain ⟨⟨dq, osq⟩, hw''⟩ := hw'
      subst hw''
      go_wp2_with fail
      go_meet
      exact ⟨rfl, below_regrown wc dq osq⟩
    case rest =>
    obtain ⟨rfl, hb3⟩ := hcut
    have hP := hP.up hb3 hP.lt
    have hQ := hQ.up hb3 hQ.lt
    have hbc := up_trans hbc hb3
    clear hR hb3
    go_upto_region 4 with fail
    go_cut [10, 11] (fun s10 s11 wx => TwoB wc (x.les y) (x.int y) s10 s11 wx)
    case first =>
      obtain ⟨c0, c1, c2, c3, -⟩ := facts4 hP
      obtain ⟨d0, d1, d2, d3, -⟩ := facts4 hQ
      have hd0 : Below wc.heap.size wc wc.drew := up_drewN wc 1
      go_region_held3 (fun W => Held2 wc p q x y W)
        (exact held2 hP hQ (by with_reducible (repeat (first | exact Below.refl _ _ | exact hd0 | exact hs2 | exact hs1 | assumption | refine put4_below (by first | omega | (simp; omega) | simp) ?_ | refine Below.drew ?_ | refine up_trans ?_ (up_alloc _ _)))))
        (first
          | (go_at_call 26; refine (c_less x y _).mono ?_; rintro e w1 ⟨rfl, hl1⟩; have hz1 := hl1.size; (try simp at hz1); have hs1 := up_trans (And.left (by assumption)) hl1; (try (have nA := Blk.up' hl1 (show Blk _ _ zero4 26 from (by with_reducible first | exact Blk.new _ zero4 26 | exact Blk.drew (Blk.new _ zero4 26))); (try simp only [drew_size] at nA); (try simp only [World.size_alloc] at nA); (try simp only [drew_size] at nA); have lna := nA.lt; have kna := Nat.ne_of_lt lna; have jna := Ne.symm kna; have kkna := Nat.ne_of_lt (Nat.lt_succ_of_lt lna); have jjna := Ne.symm kkna; obtain ⟨naa, nab, nac, nad, nae, naf, nag, nah⟩ := facts4 nA)); (try (have nB := Blk.up' hl1 (show Blk _ _ zero4 26 from (by with_reducible first | exact Blk.alloc (Blk.new _ zero4 26) _ | exact Blk.drew (Blk.alloc (Blk.new _ zero4 26) _) | exact Blk.alloc (Blk.drew (Blk.new _ zero4 26)) _)); (try simp only [drew_size] at nB); (try simp only [World.size_alloc] at nB); (try simp only [drew_size] at nB); have lnb := nB.lt; have knb := Nat.ne_of_lt lnb; have jnb := Ne.symm knb; have kknb := Nat.ne_of_lt (Nat.lt_succ_of_lt lnb); have jjnb := Ne.symm kknb; obtain ⟨nba, nbb, nbc, nbd, nbe, nbf, nbg, nbh⟩ := facts4 nB)))
          | (go_at_call 24; refine (c_inter x y _).mono ?_; rintro e w2 ⟨rfl, hl2⟩; have hz2 := hl2.size; (try simp at hz2); have hs2 := up_trans (And.left (by assumption)) hl2; (try (have mA := Blk.up' hl2 (show Blk _ _ zero4 26 from (by with_reducible (first | exact nA | exact Blk.alloc nA _ | exact Blk.alloc (Blk.alloc nA _) _))); (try simp only [drew_size] at mA); (try simp only [World.size_alloc] at mA); (try simp only [drew_size] at mA); have lma := mA.lt; have kma := Nat.ne_of_lt lma; have jma := Ne.symm kma; have kkma := Nat.ne_of_lt (Nat.lt_succ_of_lt lma); have jjma := Ne.symm kkma; obtain ⟨maa, mab, mac, mad, mae, maf, mag, mah⟩ := facts4 mA)); (try (have mB := Blk.up' hl2 (show Blk _ _ zero4 26 from (by with_reducible (first | exact nB | exact Blk.alloc nB _ | exact Blk.alloc (Blk.alloc nB _) _))); (try simp only [drew_size] at mB); (try simp only [World.size_alloc] at mB); (try simp only [drew_size] at mB); have lmb := mB.lt; have kmb := Nat.ne_of_lt lmb; have jmb := Ne.symm kmb; have kkmb := Nat.ne_of_lt (Nat.lt_succ_of_lt lmb); have jjmb := Ne.symm kkmb; obtain ⟨mba, mbb, mbc, mbd, mbe, mbf, mbg, mbh⟩ := facts4 mB)); (try (have mC := Blk.up' hl2 (show Blk _ _ zero4 26 from (by with_reducible exact Blk.new _ zero4 26)); (try simp only [drew_size] at mC); (try simp only [World.size_alloc] at mC); (try simp only [drew_size] at mC); have lmc := mC.lt; have kmc := Nat.ne_of_lt lmc; have jmc := Ne.symm kmc; have kkmc := Nat.ne_of_lt (Nat.lt_succ_of_lt lmc); have jjmc := Ne.symm kkmc; obtain ⟨mca, mcb, mcc, mcd, mce, mcf, mcg, mch⟩ := facts4 mC)); (try (have mD := Blk.up' hl2 (show Blk _ _ zero4 26 from (by with_reducible exact Blk.alloc (Blk.new _ zero4 26) _)); (try simp only [drew_size] at mD); (try simp only [World.size_alloc] at mD); (try simp only [drew_size] at mD); have lmd := mD.lt; have kmd := Nat.ne_of_lt lmd; have jmd := Ne.symm kmd; have kkmd := Nat.ne_of_lt (Nat.lt_succ_of_lt lmd); have jjmd := Ne.symm kkmd; obtain ⟨mda, mdb, mdc, mdd, mde, mdf, mdg, mdh⟩ := facts4 mD))))
      all_goals
        go_wp2_with fail
        go_meet
        refine ⟨_, _, rfl, rfl, ?_, ?_, ?_⟩
        · with_reducible (repeat (first | assumption | exact Blk.new' _ (x.les y).cs _ _ (by simp) | refine put4 (x' := .int .u64 0) (y' := .int .u64 0) (z' := .int .u64 0) (u' := .int .u64 0) ?_ | refine put4_other (by first | assumption | omega | (simp; omega)) ?_ | refine Blk.alloc ?_ _ | refine Blk.drew ?_))
        · with_reducible (repeat (first | assumption | exact Blk.new' _ (x.int y).cs _ _ (by simp) | refine put4 (x' := .int .u64 0) (y' := .int .u64 0) (z' := .int .u64 0) (u' := .int .u64 0) ?_ | refine put4_other (by first | assumption | omega | (simp; omega)) ?_ | refine Blk.alloc ?_ _ | refine Blk.drew ?_))
        · with_reducible (repeat (first | exact Below.refl _ _ | exact hd0 | exact hs2 | exact hs1 | assumption | refine put4_below (by first | omega | (simp; omega) | simp) ?_ | refine Below.drew ?_ | refine up_trans ?_ (up_alloc _ _)))
    case rest =>
    obtain ⟨p2, q2, rfl, rfl, hU, hV, hbd⟩ := hcut
    have hP := hP.up hbd hP.lt
    have hQ := hQ.up hbd hQ.lt
    have hbc := up_trans hbc hbd
    clear hbd
    have HT2 := Lib.hid (tab_up HT.out hbc)
    have cU := fun s t => grown_call (w := wc) fun W _ => c_union s t W
    have cI := fun s t => grown_call (w := wc) fun W _ => c_inter s t W
    have cL := fun s => grown_call (w := wc) fun W _ => c_len s W
    have cS := grown_call (w := wc) fun W _ => (show Calls Tryd.prog 28 #[(x.int y).val, y.val] W fun e w' => e = .returned (.bool true) ∧ Below W.heap.size W w' from by
      have := c_sub (x.int y) y W
      rw [sub_yes (int_sub x y)] at this
      exact this)
    have cA := grown_call (w := wc) fun W hW => c_alive W (tab_up HT2.out hW)
    obtain ⟨p0, p1, p2, p3⟩ := regr hP
    obtain ⟨q0, q1, q2, q3⟩ := regr hQ
    obtain ⟨r0, r1, r2, r3⟩ := regr hU
    obtain ⟨s0, s1, s2, s3⟩ := regr hV
    have e1 := run_same (les_int x y)
    have e2 := run_zero (les_off x y)
    have hl := len_part x y
    have h1 := len_le x
    have hw : IntKind.i64.wrap (((x.les y).len : Int) + ((x.int y).len : Int)) = (x.len : Int) := by rw [IntWalk.i64_in _ (by omega)]; omega
    have hw2 : ((x.len : Int) == (x.len : Int)) = true := by simp
    clear hl h1 hP hQ hU hV
    go_wp2_with fail
    refine wp_region_quiet_below (by kernel_rfl) (by kernel_rfl) ?_
    repeat (go_big_quiet_step (first | exact cU _ _ _ _ | exact cI _ _ _ _ | exact cL _ _ _ | exact cS _ _ | exact cA _ _ | rw [e1] | rw [e2]))
    refine wpQuiet_nil ?_
    intro _ hw'
    obtain ⟨⟨dq, osq⟩, hw''⟩ := hw'
    subst hw''
    have hb3 := below_regrown wc dq osq
    go_wp2
    go_ret
    exact ⟨rfl, up_trans hbc hb3⟩
end Go.Proofs.YtknlkkigiommhaaDoor

/- The law PoisonOrder: its loop, and what comes behind it. -/
import Derived.Test.YtdikdbomecmijaaVf
namespace Go.Proofs.Ytdikdbomecmijaa
open Go.RowKit

/-- The level behind these strengths, of which each is at least 1. -/
def pzUps (L : List Int) : Int := L.foldl (fun a z => max a (max 1 z)) 0
theorem pzUps_snoc (L : List Int) (z : Int) : pzUps (L ++ [z]) = max (pzUps L) (max 1 z) := by unfold pzUps; rw [List.foldl_append]; rfl
theorem pz_fold (L : List Int) : ∀ a : Int, 0 ≤ a → L.foldl (fun a z => max a (max 1 z)) a = max a (pzUps L) := by
  unfold pzUps
  induction L with
  | nil => intro a h; simp; omega
  | cons x L ih =>
    intro a h
    rw [List.foldl_cons, List.foldl_cons, ih _ (by omega), ih (max 0 (max 1 x)) (by omega)]
    omega
theorem pzUps_rev (L : List Int) : pzUps L.reverse = pzUps L := by
  induction L with
  | nil => rfl
  | cons x L ih =>
    rw [List.reverse_cons, pzUps_snoc, ih]
    have := pz_fold L (max 0 (max 1 x)) (by omega)
    have e : pzUps (x :: L) = max (max 0 (max 1 x)) (pzUps L) := by
      rw [← this]; rfl
    omega
theorem pzUps_bd (L : List Int) : (∀ z ∈ L, 0 ≤ z ∧ z ≤ 255) → 0 ≤ pzUps L ∧ pzUps L ≤ 255 := by
  induction L with
  | nil => intro _; unfold pzUps; simp
  | cons x L ih =>
    intro h
    have h1 := h x (by simp)
    have h2 := ih fun z hz => h z (by simp [hz])
    have := pz_fold L (max 0 (max 1 x)) (by omega)
    have e : pzUps (x :: L) = max (max 0 (max 1 x)) (pzUps L) := by
      rw [← this]; rfl
    omega
theorem rev_at (L : List Int) (k j : Nat) (h : j + k + 1 = L.length) : L.reverse.take (k + 1) = L.reverse.take k ++ [L[j]'(by omega)] := by
  rw [pz_snoc L.reverse k (by simp; omega), List.getElem_reverse]
  congr 2
  simp only [show L.length - 1 - k = j by omega]
/-- One step: what Raise gives of a level and a strength that may be 0. -/
theorem pz_step (u z v : Int) (hu : 0 ≤ u ∧ u ≤ 255) (hz : 0 ≤ z ∧ z ≤ 255) (hv : v = max 1 z) (w : World) :
    Calls Try.prog 6 #[.int .i64 u, .int .i64 v] w fun e w' => e = .returned (.tuple #[.int .i64 (max u (max 1 z)), .int .i64 0]) ∧ w = w' := by
  subst hv
  have c := c_pzraise u (max 1 z) w
  rw [pzRaise_ok u (max 1 z) ((pzFine_iff u).2 hu) ((pzStr_iff _).2 (by omega)), pzErr_ok u (max 1 z) ((pzFine_iff u).2 hu) ((pzStr_iff _).2 (by omega))] at c
  exact c
theorem pz_hits (l b : Int) (h : Bool) (hl : 0 ≤ l ∧ l ≤ 255) (hb : 0 ≤ b ∧ b ≤ 255) (e : decide (b < l) = h) (w : World) :
    Calls Try.prog 8 #[.int .i64 l, .int .i64 b] w fun e w' => e = .returned (.bool h) ∧ w = w' := by
  have c := c_pzhit l b w
  rw [pzHit_of l b hl hb, e] at c
  exact c
theorem pz_one (b : Int) (h : 0 ≤ b ∧ b ≤ 255) : (b < 255 ∧ pzIs [b] = true ∧ pzLeast [b] = b + 1) ∨ (b = 255 ∧ pzIs [b] = false ∧ pzLeast [b] = 0) := by
  have hm : pzMin [b] = b := by unfold pzMin; simp; omega
  by_cases k : b < 255
  · have := pzIs_ok (L := [b]) ((pzAllFine_iff _).2 fun x hx => by rw [List.mem_singleton.1 hx]; exact (pzFine_iff b).2 h) (by rw [hm]; exact k)
    exact .inl ⟨k, this, by rw [pzLeast_ok this, hm]⟩
  · have hb : b = 255 := by omega
    have := pzIs_top (L := [b]) (by rw [hm]; exact hb)
    exact .inr ⟨hb, this, pzLeast_no this⟩

set_option maxHeartbeats 4000000 in
set_option maxRecDepth 100000 in
theorem l_order (A : Option Addr) (n c : Nat) (L : List Int) (hl : L.length = n) (hwf : ∀ z ∈ L, 0 ≤ z ∧ z ≤ 255) (w : World) (hR : RD w (fun _ => True) 1 A n (L.map (Value.int .u8))) (d : Int) (hd : 0 ≤ d ∧ d ≤ 255) :
    Calls Try.prog 5 #[.slice A n c, .int .u8 d] w fun e w' => e = .returned (.bool true) ∧ Below w.heap.size w w' := by
  by_cases hn : 30 < n
  · clear hR hl
    have hn' : (30 : Int) < (n : Int) := by omega
    go_enter Try.func5, Try.ntmps5
    go_wp2_with fail
    refine (c_alive _).mono ?_; rintro e w' ⟨rfl, hb⟩
    go_wp2
    go_ret
    exact ⟨rfl, hb⟩
  · have HR := Lib.hid hR
    have HL := Lib.hid hl
    have HW := Lib.hid hwf
    have HD := Lib.hid hd
    obtain ⟨hd0, hd1⟩ := hd
    have hn1 : n ≤ 30 := by omega
    clear hR hl hwf hn
    go_enter Try.func5, Try.ntmps5
    go_wp2
    go_loop [5, 6, 7, 21] (fun u v h i => ∃ k : Nat, k ≤ n ∧ i = .int .i64 k ∧ u = .int .i64 (pzUps (L.take k)) ∧ v = .int .i64 (pzUps (L.reverse.take k)) ∧ h = .bool (decide (d < pzUps (L.take k)))) (fun _ _ _ i => n - (intOf i).toNat)
    case atStart => exact ⟨0, Nat.zero_le _, rfl, rfl, rfl, by rw [show decide (d < pzUps (L.take 0)) = false by rw [decide_eq_false_iff_not]; show ¬ d < 0; omega]⟩
    case round =>
      obtain ⟨k, hk, rfl, rfl, rfl, rfl⟩ := hrel
      by_cases hlt : k < n
      · have hkL : k < L.length := by rw [HL.out]; exact hlt
        obtain ⟨j, hj⟩ : ∃ j : Nat, j + k + 1 = n := ⟨n - 1 - k, by omega⟩
        have hjL : j < L.length := by rw [HL.out]; omega
        obtain ⟨b, o, rfl, _, _, hc⟩ := HR.out.at_ (by omega)
        have h1 := hc k (.int .u8 L[k]) (by simp [hkL])
        have h2 := hc j (.int .u8 L[j]) (by simp [hjL])
        have hU : pzUps (L.take (k + 1)) = max (pzUps (L.take k)) (max 1 L[k]) := by rw [pz_snoc L k hkL, pzUps_snoc]
        have hV : pzUps (L.reverse.take (k + 1)) = max (pzUps (L.reverse.take k)) (max 1 L[j]) := by rw [rev_at L k j (by rw [HL.out]; exact hj), pzUps_snoc]
        have b1 := HW.out L[k] (List.getElem_mem hkL)
        have b2 := HW.out L[j] (List.getElem_mem hjL)
        have u1 := pzUps_bd (L.take k) fun z hz => HW.out z (List.mem_of_mem_take hz)
        have v1 := pzUps_bd (L.reverse.take k) fun z hz => HW.out z (by simpa using List.mem_of_mem_take hz)
        generalize L[k] = y at h1 hU b1
        generalize L[j] = z at h2 hV b2
        have HU := Lib.hid hU
        have HV := Lib.hid hV
        clear hc hU hV
        generalize pzUps (L.take k) = u at HU u1 ⊢
        generalize pzUps (L.reverse.take k) = v at HV v1 ⊢
        have C1 := Lib.hid (fun x hx W => pz_step u y x u1 b1 hx W)
        have C2 := Lib.hid (fun x hx W => pz_step v z x v1 b2 hx W)
        rw [← HU.out] at C1
        rw [← HV.out] at C2
        have u2 : u ≤ pzUps (L.take (k + 1)) ∧ pzUps (L.take (k + 1)) ≤ 255 := by have := HU.out; omega
        generalize hu' : pzUps (L.take (k + 1)) = u' at C1 u2
        generalize hv' : pzUps (L.reverse.take (k + 1)) = v' at C2
        have HU' := Lib.hid hu'
        have HV' := Lib.hid hv'
        obtain ⟨g, hg⟩ : ∃ g, decide (d < u') = g := ⟨_, rfl⟩
        have C3 := Lib.hid (fun W => pz_hits u' d g ⟨by omega, u2.2⟩ HD.out hg W)
        have HG := Lib.hid hg
        have t0 : decide (u' < u) = false := by rw [decide_eq_false_iff_not]; omega
        obtain ⟨b10, b11⟩ := b1
        obtain ⟨b20, b21⟩ := b2
        have hj0 : 0 ≤ (n : Int) - 1 - k := by omega
        have hj1 : (n : Int) - 1 - k < n := by omega
        have hj2 : ((n : Int) - 1 - k).toNat = j := by omega
        have hcase : (decide (d < u) = true ∧ g = true) ∨ decide (d < u) = false := by
          by_cases h : d < u
          · exact .inl ⟨by rw [decide_eq_true_iff]; exact h, by rw [← hg, decide_eq_true_iff]; omega⟩
          · exact .inr (by rw [decide_eq_false_iff_not]; exact h)
        clear hu' hv' hg HU HV
        rcases hcase with ⟨hc, rfl⟩ | hc
        · rw [hc]
          clear hc u1 v1 u2
          go_wp2_with fail
          all_goals
            refine (C1.out _ (by omega) _).mono ?_; rintro e w' ⟨rfl, rfl⟩
            go_wp2_with fail
          all_goals
            refine (C2.out _ (by omega) _).mono ?_; rintro e w' ⟨rfl, rfl⟩
            go_wp2_with fail
            refine (C3.out _).mono ?_; rintro e w' ⟨rfl, rfl⟩
            go_wp2_with fail
            refine (C3.out _).mono ?_; rintro e w' ⟨rfl, rfl⟩
            go_wp2_with fail
            go_round
            case rel => exact ⟨k + 1, by omega, by go_num, by rw [HU'.out], by rw [HV'.out], by rw [HU'.out, HG.out]⟩
            case measure => simp [intOf]; omega
        · rw [hc]
          clear hc u1 v1 u2
          go_wp2_with fail
          all_goals
            refine (C1.out _ (by omega) _).mono ?_; rintro e w' ⟨rfl, rfl⟩
            go_wp2_with fail
          all_goals
            refine (C2.out _ (by omega) _).mono ?_; rintro e w' ⟨rfl, rfl⟩
            go_wp2_with fail
            refine (C3.out _).mono ?_; rintro e w' ⟨rfl, rfl⟩
            go_wp2_with fail
            go_round
            case rel => exact ⟨k + 1, by omega, by go_num, by rw [HU'.out], by rw [HV'.out], by rw [HU'.out, HG.out]⟩
            case measure => simp [intOf]; omega
      · have hkn : k = n := by omega
        have e1 : L.take k = L := by rw [hkn, ← HL.out, List.take_length]
        have e2 : L.reverse.take k = L.reverse := by rw [hkn, ← HL.out, ← List.length_reverse, List.take_length]
        have hu := pzUps_bd L HW.out
        rw [e1, e2, pzUps_rev]
        generalize pzUps L = m at hu ⊢
        clear e1 e2
        obtain ⟨s, hs⟩ : ∃ s, pzLeast [d] = s := ⟨_, rfl⟩
        obtain ⟨g, hg⟩ : ∃ g, pzIs [d] = g := ⟨_, rfl⟩
        obtain ⟨x, hx⟩ : ∃ x, decide (d < m) = x := ⟨_, rfl⟩
        have CL := Lib.hid (fun W => c_pzleast (c := 1) (L := [d]) (RD.one (w := W) (v := .int .i64 d) (t := 3) rfl) rfl (by decide))
        rw [hs, hg] at CL
        rw [hx]
        have H1 := pz_one d HD.out
        rw [hs, hg] at H1
        rcases H1 with ⟨q1, rfl, q2⟩ | ⟨q1, rfl, q2⟩
        · have t1 : decide (d < 255) = true := by rw [decide_eq_true_iff]; exact q1
          have t2 : decide (s ≤ m) = x := by rw [← hx, q2]; simp; omega
          have C1 := Lib.hid (fun W => pz_hits s d true (by omega) HD.out (by rw [decide_eq_true_iff]; omega) W)
          have C2 := Lib.hid (fun W y (hy : y = d) => pz_hits y d false (by omega) HD.out (by rw [decide_eq_false_iff_not]; omega) W)
          have Q2 := Lib.hid q2
          have t3 : (x == x) = true := by simp
          have s0 : 0 ≤ s - 1 := by omega
          have s1 : s ≤ 256 := by omega
          clear hx hs hg q2 hu
          go_wp2_with fail
          refine (CL.out _).mono ?_; rintro e w' ⟨rfl, rfl⟩
          go_wp2_with fail
          refine (C1.out _).mono ?_; rintro e w' ⟨rfl, rfl⟩
          go_wp2_with fail
          refine (C2.out _ _ (by have := Q2.out; omega)).mono ?_; rintro e w' ⟨rfl, rfl⟩
          go_wp2_with fail
          refine (c_alive _).mono ?_; rintro e w' ⟨rfl, hb⟩
          go_wp2
          go_ret
          exact ⟨rfl, up_trans (up_alloc _ _) hb⟩
        · have t1 : decide (d < 255) = false := by rw [decide_eq_false_iff_not]; omega
          have t2 : x = false := by rw [← hx, decide_eq_false_iff_not]; omega
          subst t2
          clear hx hs hg q2 hu q1
          go_wp2_with fail
          refine (CL.out _).mono ?_; rintro e w' ⟨rfl, rfl⟩
          go_wp2_with fail
          refine (c_alive _).mono ?_; rintro e w' ⟨rfl, hb⟩
          go_wp2
          go_ret
          exact ⟨rfl, up_trans (up_alloc _ _) hb⟩
end Go.Proofs.Ytdikdbomecmijaa

/- The document's Earliest, Find, Texts of layer 25. -/
import Derived.Test.YtniijkdlphkpkaaDoorGvh
import Derived.Test.YtniijkdlphkpkaaDoorGvk
namespace Go.Proofs.YtniijkdlphkpkaaDoor
open Go.RowKit

set_option maxRecDepth 100000 in
set_option maxHeartbeats 4000000 in
theorem c_rearliest {w : World} {pl : Nat → Prop} {A : Option Addr} {n c : Nat} {L : List GD} (hR : RD w pl 5 A n (L.flatMap gdC)) (hl : L.length = n) (hn : n ≤ 1000) :
    Calls Tryd.prog 16 #[.slice A n c] w fun e w' => e = .returned (.tuple #[.int .i64 (earL L).1, .bool (earL L).2]) ∧ w = w' := by
  have HR := Lib.hid hR
  have HL := Lib.hid hl
  clear hR hl
  go_enter Tryd.func16, Tryd.ntmps16
  go_wp2
  go_loop [4, 5, 6] (fun a b i => ∃ (k : Nat) (m : Int) (q : Bool), k ≤ n ∧ i = .int .i64 k ∧ a = .int .i64 m ∧ b = .bool q ∧ earL (L.take k) = (m, q)) (fun _ _ i => n - (intOf i).toNat)
  case atStart => exact ⟨0, 0, false, Nat.zero_le _, rfl, rfl, rfl, rfl⟩
  case round =>
    obtain ⟨k, m, q, hk, rfl, rfl, rfl, hE⟩ := hrel
    have HE := Lib.hid hE
    clear hE
    by_cases hlt : k < n
    · have hex : ∃ g, L[k]? = some g := ⟨_, List.getElem?_eq_getElem (by rw [HL.out]; exact hlt)⟩
      obtain ⟨g, hg⟩ := hex
      obtain ⟨b, o, rfl, _, i0, i1, i2, i3, i4⟩ := HR.out.guard k g hg hlt
      have HN := Lib.hid (show earL (L.take (k + 1)) = earS (m, q) g by rw [earL_next hg, HE.out])
      obtain ⟨gk, go, gv, gr, gn⟩ := g
      simp only at i0 i1 i2 i3 i4
      clear hg
      by_cases h4 : gk = 4
      · subst h4
        cases q
        · have HM := Lib.hid (HN.out.trans (earS_new rfl))
          go_wp2
          go_round
          case rel => exact ⟨k + 1, gv, true, by omega, by go_num, rfl, rfl, HM.out⟩
          case measure => simp [intOf]; omega
        · by_cases hv : gv < m
          · have HM := Lib.hid (HN.out.trans (earS_less rfl hv))
            have tv : decide (gv < m) = true := decide_eq_true hv
            go_wp2
            go_round
            case rel => exact ⟨k + 1, gv, true, by omega, by go_num, rfl, rfl, HM.out⟩
            case measure => simp [intOf]; omega
          · have HM := Lib.hid (HN.out.trans (earS_more hv))
            have tv : decide (gv < m) = false := decide_eq_false hv
            go_wp2
            go_round
            case rel => exact ⟨k + 1, m, true, by omega, by go_num, rfl, rfl, HM.out⟩
            case measure => simp [intOf]; omega
      · have t4 : (gk != 4) = true := by simpa [bne] using h4
        have HM := Lib.hid (HN.out.trans (earS_no h4))
        clear h4
        go_wp2
        go_round
        case rel => exact ⟨k + 1, m, q, by omega, by go_num, rfl, rfl, HM.out⟩
        case measure => simp [intOf]; omega
    · have HM := Lib.hid (show earL L = (m, q) by
        have := HE.out
        rwa [List.take_of_length_le (by rw [HL.out]; omega)] at this)
      go_wp2
      go_ret2
      exact ⟨ret_ib (congrArg Prod.fst HM.out).symm (congrArg Prod.snd HM.out).symm, rfl⟩

set_option maxRecDepth 100000 in
set_option maxHeartbeats 4000000 in
theorem c_rfind {w : World} {pl : Nat → Prop} {A : Option Addr} {n c : Nat} {L : List GD} (hR : RD w pl 5 A n (L.flatMap gdC)) (hl : L.length = n) (hn : n ≤ 1000) (no : Int) :
    Calls Tryd.prog 18 #[.slice A n c, .int .i64 no] w fun e w' => e = .returned (.tuple #[.agg (gdC (fndG L no).1).toArray, .bool (fndG L no).2]) ∧ Below w.heap.size w w' := by
  have HL := Lib.hid hl
  have hX := bx1 w [.int .i64 0, .int .i64 0, .int .i64 0, .int .i64 0, .int .i64 0] 23
  generalize hw1 : w.alloc (.cells [.int .i64 0, .int .i64 0, .int .i64 0, .int .i64 0, .int .i64 0].toArray 23) = w1 at hX
  have HW := Lib.hid hw1
  have HR := Lib.hid (hR.below hX.up)
  have HX := Lib.hid hX
  clear hw1 hX hR hl
  go_enter Tryd.func18, Tryd.ntmps18
  go_upto_region 1 with fail
  rw [HW.out]
  go_wp2_with fail
  go_loop [6] (fun i => ∃ k : Nat, k ≤ n ∧ i = .int .i64 k ∧ (L.take k).any (fun g => g.n == no) = false) (fun i => n - (intOf i).toNat)
  case atStart => exact ⟨0, Nat.zero_le _, rfl, rfl⟩
  case round =>
    obtain ⟨k, hk, rfl, hF⟩ := hrel
    have HF := Lib.hid hF
    clear hF
    by_cases hlt : k < n
    · have hex : ∃ g, L[k]? = some g := ⟨_, List.getElem?_eq_getElem (by rw [HL.out]; exact hlt)⟩
      obtain ⟨g, hg⟩ := hex
      obtain ⟨b, o, rfl, _, i0, i1, i2, i3, i4⟩ := HR.out.guard k g hg hlt
      have HG := Lib.hid hg
      clear hg
      by_cases he : g.n = no
      · have HN := Lib.hid (fnd_at HG.out HF.out he)
        have te : (g.n == no) = true := by simpa using he
        clear he
        go_wp2_with (refine str (b := w.heap.size) (t := 23) (cs := gdC g) (ds := [.int .i64 0, .int .i64 0, .int .i64 0, .int .i64 0, .int .i64 0]) (.tmp 4) (.tmp 23) rfl rfl rfl rfl info_gd rfl (gdC_one g) ?_ ?_; (· exact HX.out.box))
        refine bodyPost_ret (v := .tuple #[.agg (gdC g).toArray, .bool true]) (results_ce (fn := Tryd.f18) (p := 4) (t := 5) rfl _ _ _ rfl (HX.out.box.row _) Tryd.underlying23 rfl info_gd) rfl ?_
        rw [HN.out]
        exact ⟨rfl, below_setRow HX.out.up (by omega) _⟩
      · have te : (g.n == no) = false := by simpa using he
        have HN := Lib.hid (any_next (p := fun g => g.n == no) HG.out HF.out te)
        clear he
        go_wp2
        go_round
        case rel => exact ⟨k + 1, by omega, by go_num, HN.out⟩
        case measure => simp [intOf]; omega
    · have HN := Lib.hid (show fndG L no = (gdZ, false) from fnd_no (by
        have := HF.out
        rwa [List.take_of_length_le (by rw [HL.out]; omega)] at this))
      go_wp2_with (refine str (b := w.heap.size) (t := 23) (cs := gdC gdZ) (ds := [.int .i64 0, .int .i64 0, .int .i64 0, .int .i64 0, .int .i64 0]) (.tmp 4) (.tmp 24) rfl rfl rfl rfl info_gd rfl (gdC_one gdZ) ?_ ?_; (· exact HX.out.box))
      refine bodyPost_ret (v := .tuple #[.agg (gdC gdZ).toArray, .bool false]) (results_ce (fn := Tryd.f18) (p := 4) (t := 5) rfl _ _ _ rfl (HX.out.box.row _) Tryd.underlying23 rfl info_gd) rfl ?_
      rw [HN.out]
      exact ⟨rfl, below_setRow HX.out.up (by omega) _⟩

/-- The texts of the first guards. -/
def jnT (L : List GD) : List UInt8 := Lib.join (L.map txtG) [44, 32]
theorem jnT_first {L : List GD} {k : Nat} {g : GD} (h : L[k]? = some g) (h0 : k = 0) : jnT (L.take (k + 1)) = txtG g := by
  subst h0
  unfold jnT
  rw [List.take_add_one, h]
  show Lib.join [txtG g] [44, 32] = txtG g
  rw [Lib.join_cons]
  simp [Lib.joinTail]
theorem jnT_next {L : List GD} {k : Nat} {g : GD} (h : L[k]? = some g) (h0 : 0 < k) : jnT (L.take (k + 1)) = jnT (L.take k) ++ ([44, 32] ++ txtG g) := by
  unfold jnT
  rw [List.take_add_one, h]
  obtain ⟨a, r, hr⟩ : ∃ a r, L.take k = a :: r := by
    cases e : L.take k with
    | nil =>
      have h1 := congrArg List.length e
      have h2 := (List.getElem?_eq_some_iff.1 h).1
      rw [List.length_take, List.length_nil] at h1
      omega
    | cons a r => exact ⟨a, r, rfl⟩
  rw [hr]
  show Lib.join (txtG a :: ((r ++ [g]).map txtG)) [44, 32] = Lib.join (txtG a :: r.map txtG) [44, 32] ++ _
  rw [Lib.join_cons, Lib.join_cons, List.map_append]
  simp [Lib.joinTail]
theorem jnT_len {L : List GD} (h : badE L = 0) : (jnT L).length ≤ 92 * L.length := by
  have hs := txtG_len h
  unfold jnT
  cases L with
  | nil => simp [Lib.join]
  | cons g r =>
    rw [List.map_cons, Lib.join_cons, List.length_append]
    have h1 := hs (txtG g) (by simp)
    have h2 := join_len (r.map txtG) fun z hz => hs z (by simp only [List.map_cons, List.mem_cons]; exact .inr hz)
    rw [List.length_map] at h2
    rw [List.length_cons]
    omega

set_option maxRecDepth 100000 in
set_option maxHeartbeats 4000000 in
theorem c_rtexts {w : World} {pl : Nat → Prop} {A : Option Addr} {n c : Nat} {L : List GD} (hR : RD w pl 5 A n (L.flatMap gdC)) (hl : L.length = n) (hn : n ≤ 1000) :
    Calls Tryd.prog 14 #[.slice A n c] w fun e w' => e = .returned (.tuple #[.string ⟨(textsL L).toArray⟩, .int .i64 (badE L)]) ∧ Below w.heap.size w w' := by
  have HR := Lib.hid hR
  have HL := Lib.hid hl
  clear hR hl
  go_enter Tryd.func14, Tryd.ntmps14
  go_wp2
  go_loopw [4, 5] (fun s i wr => ∃ (k : Nat) (T : List UInt8), k ≤ n ∧ i = .int .i64 k ∧ s = .string ⟨T.toArray⟩ ∧ T = jnT (L.take k) ∧ T.length ≤ 92 * k ∧ badE (L.take k) = 0 ∧ Below w.heap.size w wr) (fun _ i _ => n - (intOf i).toNat)
  case atStart => exact ⟨0, [], Nat.zero_le _, rfl, rfl, rfl, by simp, rfl, Below.refl _ _⟩
  case round =>
    obtain ⟨k, T, hk, rfl, rfl, hT, hTl, hF, hbw⟩ := hrel
    have HTT := Lib.hid hT
    have HW := Lib.hid hbw
    have HF := Lib.hid hF
    clear hF hT
    by_cases hlt : k < n
    · have hex : ∃ g, L[k]? = some g := ⟨_, List.getElem?_eq_getElem (by rw [HL.out]; exact hlt)⟩
      obtain ⟨g, hg⟩ := hex
      obtain ⟨b, o, rfl, _, i0, i1, i2, i3, i4⟩ := (HR.out.below hbw).guard k g hg hlt
      have HG := Lib.hid hg
      obtain ⟨gk, go, gv, gr, gn⟩ := g
      simp only at i0 i1 i2 i3 i4
      have CT := Lib.hid (c_rtext gk go gv gr gn wr)
      obtain ⟨x, hx⟩ : ∃ x, chkE gk go gv gr gn = x := ⟨_, rfl⟩
      rw [hx] at CT
      have HXX := Lib.hid (show chkG ⟨gk, go, gv, gr, gn⟩ = x from hx)
      clear hg hbw
      by_cases hx0 : x = 0
      · have HTX : Hid (txtE gk go gv gr gn = txtG ⟨gk, go, gv, gr, gn⟩) := Lib.hid (txtE_ok (hx.trans hx0))
        rw [HTX.out] at CT
        have HS : Hid (badE (L.take (k + 1)) = 0) := Lib.hid (by
          rw [List.take_add_one, HG.out]
          show badE (L.take k ++ [⟨gk, go, gv, gr, gn⟩]) = 0
          rw [badE_app, if_pos HF.out, HXX.out, hx0])
        have hlen := textL_len (fit_of (hx.trans hx0))
        rw [show textL gk go gv gr gn = txtG ⟨gk, go, gv, gr, gn⟩ from rfl] at hlen
        rcases Nat.eq_zero_or_pos k with hk0 | hk0
        · have HN := Lib.hid (jnT_first HG.out hk0)
          obtain rfl : T = [] := by rw [HTT.out, hk0]; rfl
          have tk : decide (0 < (k : Int)) = false := decide_eq_false (by omega)
          have tk2 : decide (0 < k) = false := decide_eq_false (by omega)
          have tk3 : ¬ 0 < k := by omega
          clear hk0
          generalize txtG ⟨gk, go, gv, gr, gn⟩ = sx at CT HN hlen
          subst hx0
          clear HTX hx
          go_wp2_with fail
          refine CT.out.mono ?_; rintro e w3 ⟨rfl, hb3⟩
          have HU3 := Lib.hid (up_trans HW.out hb3)
          clear hb3
          go_wp2
          go_roundw
          case rel => exact ⟨k + 1, sx, by omega, by go_num, by congr 1, HN.out.symm, by omega, HS.out, HU3.out⟩
          case measure => simp [intOf]; omega
        · have HN := Lib.hid (jnT_next HG.out hk0)
          rw [← HTT.out] at HN
          have tk : decide (0 < (k : Int)) = true := decide_eq_true (by omega)
          generalize txtG ⟨gk, go, gv, gr, gn⟩ = sx at CT HN hlen
          subst hx0
          clear HTX hx
          go_wp2_with fail
          refine CT.out.mono ?_; rintro e w3 ⟨rfl, hb3⟩
          have HU3 := Lib.hid (up_trans HW.out hb3)
          clear hb3
          go_wp2
          go_roundw
          case rel => exact ⟨k + 1, T ++ ([44, 32] ++ sx), by omega, by go_num, by congr 1; apply ByteArray.ext; simp, HN.out.symm, by simp; omega, HS.out, HU3.out⟩
          case measure => simp [intOf]; omega
      · have tx : (x != 0) = true := by simpa [bne] using hx0
        have HE := Lib.hid (show badE L = x from (badE_stop HG.out HF.out (by rw [HXX.out]; exact hx0)).trans HXX.out)
        have HE2 := Lib.hid (texts_bad (L := L) (by rw [HE.out]; exact hx0))
        clear hx0 hx
        go_wp2_with fail
        refine CT.out.mono ?_; rintro e w3 ⟨rfl, hb3⟩
        have HU3 := Lib.hid (up_trans HW.out hb3)
        clear hb3
        go_wp2
        go_ret2
        exact ⟨ret_str2 (by rw [HE2.out]) HE.out.symm, HU3.out⟩
    · have HZ := Lib.hid (show badE L = 0 by
        have := HF.out
        rwa [List.take_of_length_le (by rw [HL.out]; omega)] at this)
      have HJ := Lib.hid (show textsL L = T by
        rw [texts_ok HZ.out, HTT.out, List.take_of_length_le (by rw [HL.out]; omega)]
        rfl)
      clear hbw
      go_wp2
      go_ret2
      exact ⟨ret_str2 (by rw [HJ.out]) HZ.out.symm, HW.out⟩
end Go.Proofs.YtniijkdlphkpkaaDoor

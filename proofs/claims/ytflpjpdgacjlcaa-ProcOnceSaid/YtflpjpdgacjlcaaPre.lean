/- Package proc: the closures; slices.IndexFunc, ContainsFunc of processes; Fine. -/
import Derived.Test.YtflpjpdgacjlcaaPrd
import Derived.LoopTactic
namespace Go.Proofs.Ytflpjpdgacjlcaa
open Go.RowKit

/-- What a closure over processes says, in whatever has grown out of w. -/
def PSays (p : PR → Bool) (w : World) (F : FuncId) (cs : List Value) : Prop := ∀ (q : PR) (W : World), Below w.heap.size w W → Calls Try.prog F (.agg (prC q).toArray :: cs).toArray W fun e w' => e = .returned (.bool (p q)) ∧ Below W.heap.size W w'

set_option maxHeartbeats 1000000 in
theorem ps_fine (w : World) : PSays (fun q => !mayP q) w 33 [] := fun q W _ => by
  have hX := px W q 69
  generalize hw1 : W.alloc (.cells (prC q).toArray 69) = w1 at hX
  have HW := Lib.hid hw1
  have HX := Lib.hid hX
  have C0 := fun W => c_prmay q W
  obtain ⟨r, hr⟩ : ∃ r, mayP q = r := ⟨_, rfl⟩
  rw [hr] at C0
  have HRR := Lib.hid hr
  have CE := Lib.hid C0
  clear hw1 hX hr C0
  go_enter Try.func33, Try.ntmps33
  go_upto_region 1 with fail
  rw [HW.out]
  go_wp2_with (first | (refine ldr (b := W.heap.size) (t := 69) (cs := prC q) (.tmp 1) rfl rfl Try.underlying69 rfl (info_p q) rfl ?_ ?_; (· exact HX.out.box)) | (go_at_call 34; refine (CE.out _).mono ?_; rintro e w2 ⟨rfl, hb2⟩))
  go_ret
  exact ⟨ret_bool (by show (!r) = !mayP q; rw [HRR.out]), up_trans HX.out.up hb2⟩
set_option maxHeartbeats 1000000 in
theorem ps_free (w : World) : PSays isFree w 45 [] := fun q W _ => by
  have hX := px W q 69
  generalize hw1 : W.alloc (.cells (prC q).toArray 69) = w1 at hX
  have HW := Lib.hid hw1
  have HX := Lib.hid hX
  have c0 := hX.c0
  have c1 := hX.c1
  have HP := Lib.hid (show isFree q = (!q.live && decide (q.gen < 65535)) from rfl)
  generalize isFree q = r at HP ⊢
  obtain ⟨lv, hl⟩ : ∃ b, q.live = b := ⟨_, rfl⟩
  rw [hl] at c1 HP
  clear hw1 hX
  cases lv
  all_goals
    go_enter Try.func45, Try.ntmps45
    go_upto_region 1 with fail
    rw [HW.out]
    go_wp2
    go_ret
    exact ⟨ret_bool (by rw [HP.out]; rfl), HX.out.up⟩
set_option maxHeartbeats 1000000 in
theorem ps_mode {w : World} {B : Nat} {m : Int} {t : TypeId} (hB : Blk w B [.int .i64 m] t) : PSays (fun q => q.mode == m) w 41 [.pointer (some ⟨B, 0, none⟩)] := fun q W hW => by
  have hX := px W q 69
  have i0 := (hB.up hW hB.lt).alloc (.cells (prC q).toArray 69) |>.cell 0 _ rfl
  generalize hw1 : W.alloc (.cells (prC q).toArray 69) = w1 at hX i0
  have HW := Lib.hid hw1
  have HX := Lib.hid hX
  have c38 := hX.c38
  clear hw1 hX
  go_enter Try.func41, Try.ntmps41
  go_upto_region 1 with fail
  rw [HW.out]
  go_wp2
  go_ret
  exact ⟨rfl, HX.out.up⟩
set_option maxHeartbeats 1000000 in
theorem ps_over (w : World) : PSays (fun q => q.mode != 3) w 42 [] := fun q W _ => by
  have hX := px W q 69
  generalize hw1 : W.alloc (.cells (prC q).toArray 69) = w1 at hX
  have HW := Lib.hid hw1
  have HX := Lib.hid hX
  have c38 := hX.c38
  clear hw1 hX
  go_enter Try.func42, Try.ntmps42
  go_upto_region 1 with fail
  rw [HW.out]
  go_wp2
  go_ret
  exact ⟨rfl, HX.out.up⟩

set_option maxRecDepth 100000 in
set_option maxHeartbeats 4000000 in
theorem c_prixf {p : PR → Bool} {w : World} {pl : Nat → Prop} {A : Option Addr} {n c : Nat} {L : List PR} (hR : TW prK w pl A n L) (hn : n ≤ 100000) {F : FuncId} (hF : F = 33 ∨ F = 45) (hS : PSays p w F []) :
    Calls Try.prog 44 #[.slice A n c, .func (.func F) #[] #[]] w fun e w' => e = .returned (.int .i64 (prIdx p L)) ∧ Below w.heap.size w w' := by
  have HR := Lib.hid hR
  have HS := Lib.hid hS
  clear hR hS
  rcases hF with rfl | rfl
  all_goals
    go_enter Try.func44, Try.ntmps44
    go_wp2
    go_loopw [8] (fun i wr => ∃ k : Nat, k ≤ n ∧ i = .int .i64 k ∧ (L.take k).any p = false ∧ Below w.heap.size w wr) (fun i _ => n - (intOf i).toNat)
    case atStart => exact ⟨0, Nat.zero_le _, rfl, rfl, Below.refl _ _⟩
    case round =>
      obtain ⟨k, hk, rfl, hF, hbw⟩ := hrel
      have HF := Lib.hid hF
      have HB := Lib.hid hbw
      clear hF
      by_cases hlt : k < n
      · obtain ⟨b, o, q, rfl, _, hbl, hg, hrg, _⟩ := (HR.out.below hbw).at_ k hlt
        have HG := Lib.hid hg
        have HRG : Hid (wr.rangeAt b (o + k * 42) (prC q)) := Lib.hid hrg
        have C := HS.out q wr hbw
        obtain ⟨x, hx⟩ : ∃ x, p q = x := ⟨_, rfl⟩
        rw [hx] at C
        have HX := Lib.hid hx
        have CC := Lib.hid C
        clear hg hrg hbw hx C
        cases x
        · go_wp2_with (refine lmr (b := b) (q := o + k * 42) (cs := prC q) (.tmp 14) rfl rfl Try.underlying69 rfl (info_p q) rfl ?_ ?_; (· exact HRG.out))
          refine CC.out.mono ?_; rintro e w2 ⟨rfl, hb2⟩
          have HB2 := Lib.hid (up_trans HB.out hb2)
          have HN := Lib.hid (any_next' HG.out HF.out HX.out)
          clear hb2
          go_wp2
          go_roundw
          case rel => exact ⟨k + 1, by omega, by go_num, HN.out, HB2.out⟩
          case measure => simp [intOf]; omega
        · go_wp2_with (refine lmr (b := b) (q := o + k * 42) (cs := prC q) (.tmp 14) rfl rfl Try.underlying69 rfl (info_p q) rfl ?_ ?_; (· exact HRG.out))
          refine CC.out.mono ?_; rintro e w2 ⟨rfl, hb2⟩
          have HB2 := Lib.hid (up_trans HB.out hb2)
          have HN := Lib.hid (prIdx_at HG.out HF.out HX.out)
          clear hb2
          go_wp2
          go_ret
          exact ⟨ret_int HN.out.symm, HB2.out⟩
      · obtain rfl : k = n := by omega
        have HN := Lib.hid (show prIdx p L = -1 from prIdx_no (by
          have := HF.out
          rwa [List.take_of_length_le (by rw [HR.out.len]; exact Nat.le_refl _)] at this))
        clear hbw
        go_wp2
        go_ret
        exact ⟨ret_int HN.out.symm, HB.out⟩
set_option maxHeartbeats 1000000 in
theorem c_prctf {w : World} {pl : Nat → Prop} {A : Option Addr} {n c : Nat} {L : List PR} (hR : TW prK w pl A n L) (hn : n ≤ 100000) :
    Calls Try.prog 32 #[.slice A n c, .func (.func 33) #[] #[]] w fun e w' => e = .returned (.bool (L.any fun q => !mayP q)) ∧ Below w.heap.size w w' := by
  have C := Lib.hid (c_prixf (c := c) hR hn (.inl rfl) (ps_fine w))
  have HG := Lib.hid (prIdx_geq (fun q => !mayP q) L)
  clear hR
  go_enter Try.func32, Try.ntmps32
  go_wp2_with fail
  refine C.out.mono ?_; rintro e w2 ⟨rfl, hb2⟩
  go_wp2
  go_ret
  exact ⟨ret_bool HG.out, hb2⟩
set_option maxHeartbeats 1000000 in
theorem c_prfine {w : World} {pl : Nat → Prop} {A : Option Addr} {n c : Nat} {L : List PR} (hR : TW prK w pl A n L) :
    Calls Try.prog 11 #[.slice A n c] w fun e w' => e = .returned (.bool (fineT L)) ∧ Below w.heap.size w w' := by
  have hl := hR.len
  by_cases h16 : n = 16
  · subst h16
    have C := Lib.hid (fun W (hb : Below w.heap.size w W) => c_prctf (c := c) (hR.below hb) (by omega))
    have HG : Hid (fineT L = !(L.any fun q => !mayP q)) := Lib.hid (by unfold fineT; rw [hl, all_of_any]; rfl)
    generalize (L.any fun q => !mayP q) = r at C HG
    clear hR hl
    go_enter Try.func11, Try.ntmps11
    go_wp2_with (go_at_call 32; refine (C.out _ (Below.refl _ _)).mono ?_; rintro e w2 ⟨rfl, hb2⟩)
    go_ret
    exact ⟨ret_bool HG.out.symm, hb2⟩
  · have HG : Hid (fineT L = false) := Lib.hid (by unfold fineT; rw [hl, decide_eq_false h16]; rfl)
    have hne : ((n : Int) == 16) = false := by simp; omega
    clear hR hl
    go_enter Try.func11, Try.ntmps11
    go_wp2
    go_ret
    exact ⟨ret_bool HG.out.symm, Below.refl _ _⟩
end Go.Proofs.Ytflpjpdgacjlcaa

/- Package event: read, Parse. -/
import Derived.Test.YtajbpplklmhfmaaDoorEvd
namespace Go.Proofs.YtajbpplklmhfmaaDoor
open Go.RowKit

theorem evA_len (c : UInt8) (l : List UInt8) : (evA c l).length ≤ l.length ∧ (evB c l).length ≤ l.length := by
  rcases ix_cut c l with ⟨_, h2, h3⟩ | ⟨i, _, hi, h2, h3⟩
  · rw [h2, h3]
    exact ⟨Nat.le_refl _, Nat.zero_le _⟩
  · rw [h2, h3, List.length_take, List.length_drop]
    omega
theorem trim_len (l p : List UInt8) : (Lib.trimPrefix l p).length ≤ l.length := by
  unfold Lib.trimPrefix
  split
  · rw [List.length_drop]; omega
  · exact Nat.le_refl _
/-- The last cells of a struct's four, stored behind a world. -/
theorem set4_below {w w3 : World} (hb : Below w.heap.size w w3) {b : Nat} (hle : w.heap.size ≤ b) (x y z u : Value) : Below w.heap.size w ((((w3.setCell ⟨b, 0, none⟩ x).setCell ⟨b, 1, none⟩ y).setCell ⟨b, 2, none⟩ z).setCell ⟨b, 3, none⟩ u) :=
  (((hb.setCell (p := ⟨b, 0, none⟩) hle _).setCell (p := ⟨b, 1, none⟩) hle _).setCell (p := ⟨b, 2, none⟩) hle _).setCell (p := ⟨b, 3, none⟩) hle _

theorem read_low {f : List UInt8 → Int} {k : Nat} {b : List UInt8} (h : k ≤ 4) : evRead f k b = (⟨k, f (Lib.trimPrefix b (evLtr k)), 0, 0⟩, Lib.hasPrefix b (evLtr k) && plainB (Lib.trimPrefix b (evLtr k))) := if_pos h
theorem read_high {f : List UInt8 → Int} {k : Nat} {b : List UInt8} (h : ¬ k ≤ 4) : evRead f k b = (⟨k, 0, f (evA 46 b), f (evB 46 b)⟩, plainB (evA 46 b) && plainB (evB 46 b)) := if_neg h
def ReadPost (w : World) (x : EV × Bool) (e : Ending) (w' : World) : Prop := e = .returned (.tuple #[.agg #[.int .i64 x.1.k, .int .i64 x.1.o, .int .i64 x.1.h, .int .i64 x.1.n], .bool x.2]) ∧ Below w.heap.size w w'
theorem ReadPost.of {w w' : World} {x : EV × Bool} {k o h n : Int} {b : Bool} (e : x = (⟨k, o, h, n⟩, b)) (hb : Below w.heap.size w w') : ReadPost w x (.returned (.tuple #[.agg #[.int .i64 k, .int .i64 o, .int .i64 h, .int .i64 n], .bool b])) w' := by
  rw [e]
  exact ⟨rfl, hb⟩

set_option maxHeartbeats 2000000 in
theorem c_evread_low (k : Nat) (h1 : 1 ≤ k) (h4 : k ≤ 4) (l : List UInt8) (hl : l.length ≤ 1000000) (w : World) (hv : EnvW w) :
    Calls Tryd.prog 28 #[.int .i64 k, .string ⟨l.toArray⟩] w (ReadPost w (evRead evNP k l)) := by
  have HX := Lib.hid (read_low (f := evNP) (b := l) h4)
  have CL := Lib.hid (fun W => c_evltr k W)
  have ht := trim_len l (evLtr k)
  obtain ⟨c, hc⟩ : ∃ c, evLtr k = [c] := by
    rcases ltr_ways k with ⟨hc, _⟩ | ⟨hc, _⟩ | ⟨_, hc⟩
    · exact ⟨_, hc⟩
    · exact ⟨_, hc⟩
    · omega
  have CN := Lib.hid (fun W => c_evnum (Lib.trimPrefix l (evLtr k)) (by omega) W)
  have CP := Lib.hid (fun W => Tryd.strings_CutPrefix ⟨l.toArray⟩ ⟨(evLtr k).toArray⟩ W)
  change Hid (∀ W, Calls _ _ _ _ fun e w' => e = .returned (.tuple #[.string ⟨(Lib.trimPrefix l (evLtr k)).toArray⟩, .bool (Lib.hasPrefix l (evLtr k))]) ∧ w' = W) at CP
  rw [hc] at CL CN CP HX
  generalize Lib.trimPrefix l [c] = d at CN CP HX
  generalize evNP d = v at CN HX
  generalize plainB d = q at CN HX
  have HR := Blk.new w [.int .i64 0, .int .i64 0, .int .i64 0, .int .i64 0] 27
  have HU := Lib.hid (up_alloc w (.cells #[.int .i64 0, .int .i64 0, .int .i64 0, .int .i64 0] 27))
  have HV := Lib.hid (hv.up HU.out)
  have HRR := Lib.hid HR
  clear ht hc hv HR
  cases hp : Lib.hasPrefix l [c]
  all_goals
    rw [hp] at CP HX
    clear hp
    go_enter Tryd.func28, Tryd.ntmps28
    go_wp2_with (first | (go_at_call 33; refine (CL.out _).mono ?_; rintro e w' ⟨rfl, rfl⟩) | (go_at_call 38; refine (CP.out _).mono ?_; rintro e w' ⟨rfl, rfl⟩))
    refine (CN.out _ HV.out).mono ?_; rintro e w3 ⟨rfl, hb3⟩
    have HR3 := HRR.out.up hb3 HRR.out.lt
    have HU3 := Lib.hid (up_trans HU.out hb3)
    have r0 := HR3.cell 0 _ rfl
    have r1 := HR3.cell 1 _ rfl
    have r2 := HR3.cell 2 _ rfl
    have r3 := HR3.cell 3 _ rfl
    have f0 := HR3.free 0
    have f1 := HR3.free 1
    have f2 := HR3.free 2
    have f3 := HR3.free 3
    clear HR3 hb3 HV CN CP CL
    go_wp2
    first | (refine bodyPost_ret (v := .tuple #[.agg #[.int .i64 k, .int .i64 v, .int .i64 0, .int .i64 0], .bool false]) (by simp [results, Tryd.results28, go_sem, r0, r1, r2, r3]) rfl (ReadPost.of (by rw [HX.out]; rfl) (set4_below HU3.out (Nat.le_refl _) _ _ _ _))) | (refine bodyPost_ret (v := .tuple #[.agg #[.int .i64 k, .int .i64 v, .int .i64 0, .int .i64 0], .bool q]) (by simp [results, Tryd.results28, go_sem, r0, r1, r2, r3]) rfl (ReadPost.of (by rw [HX.out]; rfl) (set4_below HU3.out (Nat.le_refl _) _ _ _ _)))

set_option maxHeartbeats 2000000 in
theorem c_evread_high (k : Nat) (h4 : ¬ k ≤ 4) (l : List UInt8) (hl : l.length ≤ 1000000) (w : World) (hv : EnvW w) :
    Calls Tryd.prog 28 #[.int .i64 k, .string ⟨l.toArray⟩] w (ReadPost w (evRead evNP k l)) := by
  have HX := Lib.hid (read_high (f := evNP) (b := l) h4)
  have CL := Lib.hid (fun W => c_evltr k W)
  have hc : evLtr k = [] := by
    rcases ltr_ways k with ⟨_, _, _⟩ | ⟨_, _, _⟩ | ⟨hc, _⟩
    · omega
    · omega
    · exact hc
  rw [hc] at CL
  obtain ⟨la, lb⟩ := evA_len 46 l
  have CA := Lib.hid (fun W => c_evnum (evA 46 l) (by omega) W)
  have CB := Lib.hid (fun W => c_evnum (evB 46 l) (by omega) W)
  have CP := Lib.hid (fun W => c_cut1 ⟨l.toArray⟩ (by simpa [ByteArray.size] using hl) 46 W)
  change Hid (∀ W, Calls _ _ _ _ fun e w' => e = .returned (.tuple #[.string ⟨(evA 46 l).toArray⟩, .string ⟨(evB 46 l).toArray⟩, .bool (evHas 46 l)]) ∧ Below W.heap.size W w') at CP
  generalize evHas 46 l = z at CP
  generalize evA 46 l = a at CA CP HX
  generalize evB 46 l = b at CB CP HX
  generalize evNP a = va at CA HX
  generalize plainB a = qa at CA HX
  generalize evNP b = vb at CB HX
  generalize plainB b = qb at CB HX
  have HR := Blk.new w [.int .i64 0, .int .i64 0, .int .i64 0, .int .i64 0] 27
  have HU := Lib.hid (up_alloc w (.cells #[.int .i64 0, .int .i64 0, .int .i64 0, .int .i64 0] 27))
  have HV := Lib.hid (hv.up HU.out)
  have HRR := Lib.hid HR
  clear hc hv HR la lb
  cases qa
  all_goals
    go_enter Tryd.func28, Tryd.ntmps28
    go_wp2_with (go_at_call 33; refine (CL.out _).mono ?_; rintro e w' ⟨rfl, rfl⟩)
    refine (CP.out _).mono ?_; rintro e w2 ⟨rfl, hb2⟩
    have HV2 := Lib.hid (HV.out.up hb2)
    go_wp2_with fail
    refine (CA.out _ HV2.out).mono ?_; rintro e w3 ⟨rfl, hb3⟩
    have HV3 := Lib.hid (HV2.out.up hb3)
    go_wp2_with fail
    refine (CB.out _ HV3.out).mono ?_; rintro e w4 ⟨rfl, hb4⟩
    have hb := up_trans (up_trans hb2 hb3) hb4
    have HR3 := HRR.out.up hb HRR.out.lt
    have HU3 := Lib.hid (up_trans HU.out hb)
    have r0 := HR3.cell 0 _ rfl
    have r1 := HR3.cell 1 _ rfl
    have r2 := HR3.cell 2 _ rfl
    have r3 := HR3.cell 3 _ rfl
    have f0 := HR3.free 0
    have f1 := HR3.free 1
    have f2 := HR3.free 2
    have f3 := HR3.free 3
    clear HR3 hb hb2 hb3 hb4 HV HV2 HV3 CA CB CP CL
    go_wp2
    first | (refine bodyPost_ret (v := .tuple #[.agg #[.int .i64 k, .int .i64 0, .int .i64 va, .int .i64 vb], .bool false]) (by simp [results, Tryd.results28, go_sem, r0, r1, r2, r3]) rfl (ReadPost.of (by rw [HX.out]; rfl) (set4_below HU3.out (Nat.le_refl _) _ _ _ _))) | (refine bodyPost_ret (v := .tuple #[.agg #[.int .i64 k, .int .i64 0, .int .i64 va, .int .i64 vb], .bool qb]) (by simp [results, Tryd.results28, go_sem, r0, r1, r2, r3]) rfl (ReadPost.of (by rw [HX.out]; rfl) (set4_below HU3.out (Nat.le_refl _) _ _ _ _)))
theorem c_evread (k : Nat) (h1 : 1 ≤ k) (l : List UInt8) (hl : l.length ≤ 1000000) (w : World) (hv : EnvW w) :
    Calls Tryd.prog 28 #[.int .i64 k, .string ⟨l.toArray⟩] w (ReadPost w (evRead evNP k l)) := by
  by_cases h4 : k ≤ 4
  · exact c_evread_low k h1 h4 l hl w hv
  · exact c_evread_high k h4 l hl w hv

def ParPost (w : World) (x : EV × Int) (e : Ending) (w' : World) : Prop := e = .returned (.tuple #[.agg #[.int .i64 x.1.k, .int .i64 x.1.o, .int .i64 x.1.h, .int .i64 x.1.n], .int .i64 x.2]) ∧ Below w.heap.size w w'
theorem ParPost.of {w w' : World} {x : EV × Int} {k o h n : Int} {b : Int} (e : x = (⟨k, o, h, n⟩, b)) (hb : Below w.heap.size w w') : ParPost w x (.returned (.tuple #[.agg #[.int .i64 k, .int .i64 o, .int .i64 h, .int .i64 n], .int .i64 b])) w' := by
  rw [e]
  exact ⟨rfl, hb⟩
set_option maxHeartbeats 2000000 in
theorem c_evparse (s : ByteArray) (hs : s.size ≤ 1000000) (w : World) (hv : EnvE w) :
    Calls Tryd.prog 11 #[.string s] w (ParPost w (evPar evNP s.data.toList)) := by
  have hll : s.data.toList.length = s.size := by simp
  obtain ⟨la, lb⟩ := evA_len 32 s.data.toList
  have CP := Lib.hid (fun W => c_cut1 s hs 32 W)
  have CF := Lib.hid (fun W => c_evfind (evA 32 s.data.toList) W)
  have CR := Lib.hid (fun W (h : 1 ≤ evFind (evA 32 s.data.toList)) => c_evread (evFind (evA 32 s.data.toList)) h (evB 32 s.data.toList) (by omega) W)
  have H0 := Lib.hid (@evPar_kind evNP s.data.toList)
  have H3 := Lib.hid (@evPar_form evNP s.data.toList)
  have HO := Lib.hid (fun (e : EV) => @evPar_on evNP s.data.toList e)
  generalize evHas 32 s.data.toList = z at CP
  generalize evPar evNP s.data.toList = X at H0 H3 HO ⊢
  have HR := Blk.new w [.int .i64 0, .int .i64 0, .int .i64 0, .int .i64 0] 27
  have HU := Lib.hid (up_alloc w (.cells #[.int .i64 0, .int .i64 0, .int .i64 0, .int .i64 0] 27))
  have HV := Lib.hid (hv.up HU.out)
  have HRR := Lib.hid HR
  clear hll la lb hv HR
  generalize evA 32 s.data.toList = a at CP CF CR H0 H3 HO
  generalize evB 32 s.data.toList = b at CP CR H3 HO
  generalize evFind a = k at CF CR H0 H3 HO
  by_cases hk : k = 0
  · subst hk
    have HX := Lib.hid (H0.out rfl)
    clear H0 H3 HO CR
    go_enter Tryd.func11, Tryd.ntmps11
    go_wp2_with fail
    refine (CP.out _).mono ?_; rintro e w2 ⟨rfl, hb2⟩
    have HV2 := Lib.hid (HV.out.nm.up hb2)
    go_wp2_with fail
    refine (CF.out _ HV2.out).mono ?_; rintro e w' ⟨rfl, rfl⟩
    have HR3 := HRR.out.up hb2 HRR.out.lt
    have HU3 := Lib.hid (up_trans HU.out hb2)
    have r0 := HR3.cell 0 _ rfl
    have r1 := HR3.cell 1 _ rfl
    have r2 := HR3.cell 2 _ rfl
    have r3 := HR3.cell 3 _ rfl
    have f0 := HR3.free 0
    have f1 := HR3.free 1
    have f2 := HR3.free 2
    have f3 := HR3.free 3
    clear HR3 hb2 HV HV2 CP CF
    go_wp2
    refine bodyPost_ret (v := .tuple #[.agg #[.int .i64 0, .int .i64 0, .int .i64 0, .int .i64 0], .int .i64 12]) (by simp [results, Tryd.results11, go_sem, r0, r1, r2, r3]) rfl (ParPost.of (by rw [HX.out]) (set4_below HU3.out (Nat.le_refl _) _ _ _ _))
  · have hk1 : 1 ≤ k := by omega
    have hkb : ((k : Int) == 0) = false := by simp; omega
    have CR2 := Lib.hid (fun W => CR.out W hk1)
    have H3' := Lib.hid (H3.out hk)
    have HO' := Lib.hid (fun (e : EV) => HO.out e hk)
    clear CR H3 HO H0 hk1 hk
    generalize evRead evNP k b = Y at CR2 H3' HO'
    obtain ⟨⟨yk, yo, yh, yn⟩, yb⟩ := Y
    have CRR : Hid (∀ W, EnvW W → Calls Tryd.prog 28 #[.int .i64 k, .string ⟨b.toArray⟩] W fun e w' => e = .returned (.tuple #[.agg #[.int .i64 yk, .int .i64 yo, .int .i64 yh, .int .i64 yn], .bool yb]) ∧ Below W.heap.size W w') := Lib.hid CR2.out
    clear CR2
    cases yb
    · have HX := Lib.hid (H3'.out rfl)
      clear H3' HO'
      go_enter Tryd.func11, Tryd.ntmps11
      go_wp2_with fail
      refine (CP.out _).mono ?_; rintro e w2 ⟨rfl, hb2⟩
      have HV2 := Lib.hid (HV.out.up hb2)
      go_wp2_with fail
      refine (CF.out _ HV2.out.nm).mono ?_; rintro e w' ⟨rfl, rfl⟩
      go_wp2_with fail
      refine (CRR.out _ HV2.out.env).mono ?_; rintro e w4 ⟨rfl, hb4⟩
      have hb := (up_trans hb2 hb4).trans (((up_alloc w4 (.cells #[.int .i64 yk, .int .i64 yo, .int .i64 yh, .int .i64 yn] 27))).mono (up_trans hb2 hb4).size)
      have HR3 := HRR.out.up hb HRR.out.lt
      have HU3 := Lib.hid (up_trans HU.out hb)
      have r0 := HR3.cell 0 _ rfl
      have r1 := HR3.cell 1 _ rfl
      have r2 := HR3.cell 2 _ rfl
      have r3 := HR3.cell 3 _ rfl
      have f0 := HR3.free 0
      have f1 := HR3.free 1
      have f2 := HR3.free 2
      have f3 := HR3.free 3
      clear HR3 hb hb2 hb4 HV HV2 CP CF CRR
      go_wp2
      refine bodyPost_ret (v := .tuple #[.agg #[.int .i64 0, .int .i64 0, .int .i64 0, .int .i64 0], .int .i64 3]) (by simp [results, Tryd.results11, go_sem, r0, r1, r2, r3]) rfl (ParPost.of (by rw [HX.out]) (set4_below HU3.out (Nat.le_refl _) _ _ _ _))
    · have HX := Lib.hid (HO'.out ⟨yk, yo, yh, yn⟩ rfl)
      have CC := Lib.hid (fun W => c_evchk yk yo yh yn W)
      clear H3' HO'
      by_cases hx : evChk yk yo yh yn = 0
      · rw [hx] at CC
        have HX2 : Hid (X = (⟨yk, yo, yh, yn⟩, 0)) := Lib.hid (by rw [HX.out, hx]; rfl)
        clear HX hx
        go_enter Tryd.func11, Tryd.ntmps11
        go_wp2_with fail
        refine (CP.out _).mono ?_; rintro e w2 ⟨rfl, hb2⟩
        have HV2 := Lib.hid (HV.out.up hb2)
        go_wp2_with fail
        refine (CF.out _ HV2.out.nm).mono ?_; rintro e w' ⟨rfl, rfl⟩
        go_wp2_with fail
        refine (CRR.out _ HV2.out.env).mono ?_; rintro e w4 ⟨rfl, hb4⟩
        have HE4 := Lib.hid (Blk.new w4 [.int .i64 yk, .int .i64 yo, .int .i64 yh, .int .i64 yn] 27)
        have hba := (up_trans hb2 hb4).trans (((up_alloc w4 (.cells #[.int .i64 yk, .int .i64 yo, .int .i64 yh, .int .i64 yn] 27))).mono (up_trans hb2 hb4).size)
        go_wp2_with fail
        refine (CC.out _).mono ?_; rintro e w5 ⟨rfl, hb5⟩
        have hb := hba.trans (hb5.mono hba.size)
        have HR3 := HRR.out.up hb HRR.out.lt
        have HU3 := Lib.hid (up_trans HU.out hb)
        have HE5 := HE4.out.up hb5 HE4.out.lt
        have e0 := HE5.cell 0 _ rfl
        have e1 := HE5.cell 1 _ rfl
        have e2 := HE5.cell 2 _ rfl
        have e3 := HE5.cell 3 _ rfl
        have r0 := HR3.cell 0 _ rfl
        have r1 := HR3.cell 1 _ rfl
        have r2 := HR3.cell 2 _ rfl
        have r3 := HR3.cell 3 _ rfl
        have f0 := HR3.free 0
        have f1 := HR3.free 1
        have f2 := HR3.free 2
        have f3 := HR3.free 3
        clear HR3 hb hba hb2 hb4 hb5 HV HV2 CP CF CRR CC HE4 HE5
        go_wp2
        refine bodyPost_ret (v := .tuple #[.agg #[.int .i64 yk, .int .i64 yo, .int .i64 yh, .int .i64 yn], .int .i64 0]) (by simp [results, Tryd.results11, go_sem, r0, r1, r2, r3]) rfl (ParPost.of (by rw [HX2.out]) (set4_below HU3.out (Nat.le_refl _) _ _ _ _))
      · have HX2 : Hid (X = (⟨0, 0, 0, 0⟩, evChk yk yo yh yn)) := Lib.hid (by rw [HX.out]; exact evFin_pos hx)
        have tx : (evChk yk yo yh yn != 0) = true := by simpa [bne] using hx
        generalize evChk yk yo yh yn = x at CC HX2 tx
        clear HX hx
        go_enter Tryd.func11, Tryd.ntmps11
        go_wp2_with fail
        refine (CP.out _).mono ?_; rintro e w2 ⟨rfl, hb2⟩
        have HV2 := Lib.hid (HV.out.up hb2)
        go_wp2_with fail
        refine (CF.out _ HV2.out.nm).mono ?_; rintro e w' ⟨rfl, rfl⟩
        go_wp2_with fail
        refine (CRR.out _ HV2.out.env).mono ?_; rintro e w4 ⟨rfl, hb4⟩
        have hba := (up_trans hb2 hb4).trans (((up_alloc w4 (.cells #[.int .i64 yk, .int .i64 yo, .int .i64 yh, .int .i64 yn] 27))).mono (up_trans hb2 hb4).size)
        go_wp2_with fail
        refine (CC.out _).mono ?_; rintro e w5 ⟨rfl, hb5⟩
        have hb := hba.trans (hb5.mono hba.size)
        have HR3 := HRR.out.up hb HRR.out.lt
        have HU3 := Lib.hid (up_trans HU.out hb)
        have r0 := HR3.cell 0 _ rfl
        have r1 := HR3.cell 1 _ rfl
        have r2 := HR3.cell 2 _ rfl
        have r3 := HR3.cell 3 _ rfl
        have f0 := HR3.free 0
        have f1 := HR3.free 1
        have f2 := HR3.free 2
        have f3 := HR3.free 3
        clear HR3 hb hba hb2 hb4 hb5 HV HV2 CP CF CRR CC
        go_wp2
        refine bodyPost_ret (v := .tuple #[.agg #[.int .i64 0, .int .i64 0, .int .i64 0, .int .i64 0], .int .i64 x]) (by simp [results, Tryd.results11, go_sem, r0, r1, r2, r3]) rfl (ParPost.of (by rw [HX2.out]) (set4_below HU3.out (Nat.le_refl _) _ _ _ _))
end Go.Proofs.YtajbpplklmhfmaaDoor

/- The contract of handle.Parse: it reads what the document reads, and leaves memory only grown. -/
import Derived.Test.YtmdpcpefkenicaaDoorHr
import Derived.LoopTactic
import Derived.Outline
namespace Go.Proofs.YtmdpcpefkenicaaDoor
open Go.RowKit

/-- What the loop holds: where the iterator stands, the two numbers so far, and that the rest is still to be read as the whole. -/
def ParseRel (s : ByteArray) (w wr : World) (at1 : Value) : Prop :=
  ∃ (pos : Nat) (b : Bool) (v0 : Int) (b0 : Bool) (v1 : Int) (b1 : Bool), pos ≤ s.size ∧ at1 = .int .i64 (if b then 1 else 0) ∧ wr.heap[w.heap.size + 1]? = some (.stringIter s pos) ∧
    Blk wr w.heap.size [.int .i64 v0, .bool b0, .int .i64 v1, .bool b1] 46 ∧ Below w.heap.size w wr ∧ (0 ≤ v0 ∧ v0 ≤ 65536) ∧ (0 ≤ v1 ∧ v1 ≤ 65536) ∧
    scan (s.data.toList.drop pos) b v0 b0 v1 b1 = scan s.data.toList false 0 false 0 false


theorem scan_stop (s : ByteArray) (pos : Nat) (hp : pos < s.size) (b : Bool) (v0 : Int) (b0 : Bool) (v1 : Int) (b1 : Bool)
    (hsc : scan (s.data.toList.drop pos) b v0 b0 v1 b1 = scan s.data.toList false 0 false 0 false)
    (h : (b = false ∧ s[pos] ≠ 46 ∧ takeB v0 b0 s[pos] = false) ∨ (b = true ∧ takeB v1 b1 s[pos] = false)) : parseH s.data.toList = 0 ∧ parseE s.data.toList = 3 := by
  rw [drop_cons s pos hp] at hsc
  have hn : scan s.data.toList false 0 false 0 false = none := by
    rw [← hsc]
    rcases h with ⟨rfl, h1, h2⟩ | ⟨rfl, h2⟩
    · rw [scan_f, if_neg (by simpa using h1), if_neg (by rw [h2]; decide)]
    · rw [scan_t, if_neg (by rw [h2]; decide)]
  have hP := scan_none _ hn
  exact ⟨parseH_no _ hP, parseE_no _ hP⟩

theorem take_split (v : Int) (b : Bool) (c : UInt8) : (takeB v b c = true ∧ (48 ≤ (c.toNat : Int) ∧ (c.toNat : Int) ≤ 57) ∧ (b = false ∨ v ≠ 0)) ∨ (takeB v b c = false ∧ ((c.toNat : Int) < 48 ∨ 57 < (c.toNat : Int) ∨ (b = true ∧ v = 0))) := by
  by_cases h0 : 48 ≤ (c.toNat : Int) ∧ (c.toNat : Int) ≤ 57
  · by_cases h1 : b = false ∨ v ≠ 0
    · exact .inl ⟨takeB_of v c.toNat b h0.1 h0.2 h1 c rfl, h0, h1⟩
    · have h2 : b = true ∧ v = 0 := by
        cases b
        · exact absurd (.inl rfl) h1
        · refine ⟨rfl, ?_⟩
          by_cases e : v = 0
          · exact e
          · exact absurd (.inr e) h1
      exact .inr ⟨takeB_no v c.toNat b (.inr (.inr h2)) c rfl, .inr (.inr h2)⟩
  · have h1 : (c.toNat : Int) < 48 ∨ 57 < (c.toNat : Int) := by omega
    rcases h1 with h1 | h1
    · exact .inr ⟨takeB_no v c.toNat b (.inl h1) c rfl, .inl h1⟩
    · exact .inr ⟨takeB_no v c.toNat b (.inr (.inl h1)) c rfl, .inr (.inl h1)⟩

set_option maxHeartbeats 4000000 in
theorem c_parse (s : ByteArray) (w : World) :
    Calls Tryd.prog 20 #[.string s] w fun e w' => e = .returned (.tuple #[.int .i64 (parseH s.data.toList), .int .i64 (parseE s.data.toList)]) ∧ Below w.heap.size w w' := by
  have hL := Lib.size_eq s
  have hst : ParseRel s w ((w.alloc (.cells #[.int .i64 0, .bool false, .int .i64 0, .bool false] 46)).iter s 0) (.int .i64 0) := by
    refine ⟨0, false, 0, false, 0, false, Nat.zero_le _, rfl, ?_, ?_, ((Below.refl _ w).alloc (Nat.le_refl _) _).alloc (by simp) _, by omega, by omega, by rw [List.drop_zero]⟩
    · have h5 := World.iter_heap (w.alloc (.cells #[.int .i64 0, .bool false, .int .i64 0, .bool false] 46)) s 0
      simpa using h5
    · exact (Blk.new w [.int .i64 0, .bool false, .int .i64 0, .bool false] 46).alloc _
  have HST := Lib.hid hst
  have HL := Lib.hid hL
  clear hst hL
  go_enter Tryd.func20, Tryd.ntmps20
  go_wp2
  go_loopw [5] (fun a wr => ParseRel s w wr a) (fun _ wr => s.size - wr.iterPos (w.heap.size + 1))
  case atStart => exact HST.out
  case round =>
    clear HST
    obtain ⟨pos, b, v0, b0, v1, b1, hps, rfl, hk, hB, hbl, hv0, hv1, hsc⟩ := hrel
    have hsz := hbl.size
    have HSC := Lib.hid hsc
    have hmu : wr.iterPos (w.heap.size + 1) = pos := iterPos_of hk
    have HMU := Lib.hid hmu
    clear hsc hmu
    by_cases hp : pos < s.size
    · have H0 := Lib.hid (drop_cons s pos hp)
      by_cases h128 : (s[pos]'hp).toNat < 128
      · -- a sign of one byte
        have hnext : ∀ ty, (Instr.next (.pointer (some ⟨w.heap.size + 1, 0, none⟩)) true ty).run Tryd.prog wr = _ := fun ty => Lib.run_next_ascii_at wr (w.heap.size + 1) s pos ty hk hp h128
        have hk1 := Lib.iterAt_heap wr (w.heap.size + 1) s pos (pos + 1) hk
        have hB1 := hB.iter s (pos + 1) (k := w.heap.size + 1) (by omega)
        have hbl1 : Below w.heap.size w (wr.iterAt (w.heap.size + 1) s (pos + 1)) := Lib.below_iterAt hbl (by omega) s (pos + 1)
        generalize wr.iterAt (w.heap.size + 1) s (pos + 1) = W1 at hnext hk1 hB1 hbl1
        have HK1 := Lib.hid hk1
        clear hk1 hk hB hbl hsz
        cases b
        · by_cases h46 : s[pos]'hp = 46
          · have hb : (((s[pos]'hp).toNat : Int) == 46) = true := by rw [h46]; rfl
            have H46 := Lib.hid h46
            clear h46
            go_wp2
            go_roundw
            case rel =>
              refine ⟨pos + 1, true, v0, b0, v1, b1, by omega, rfl, HK1.out, hB1, hbl1, hv0, hv1, ?_⟩
              rw [← HSC.out, H0.out, scan_f, if_pos (by rw [H46.out]; rfl)]
            case measure =>
              rw [HMU.out, iterPos_of HK1.out]
              omega
          · have hne : ((s[pos]'hp).toNat : Int) ≠ 46 := fun hh => h46 (UInt8.toNat_inj.1 (by have : (46 : UInt8).toNat = 46 := rfl; omega))
            have hb : (((s[pos]'hp).toNat : Int) == 46) = false := beq_eq_false_iff_ne.2 hne
            have H46 := Lib.hid h46
            clear h46 hne
            have c0 := hB1.cell 0 _ rfl
            have c1 := hB1.cell 1 _ rfl
            have f0 := hB1.free 0
            have f1 := hB1.free 1
            rcases take_split v0 b0 (s[pos]'hp) with ⟨ht, ⟨d0, d1⟩, hz⟩ | ⟨ht, hz⟩
            · have HT := Lib.hid ht
              have HZ := Lib.hid hz
              have C0 := Lib.hid c0
              have C1 := Lib.hid c1
              have F0 := Lib.hid f0
              have F1 := Lib.hid f1
              clear ht hz c0 c1 f0 f1
              go_wp2_with fail
              refine (c_take w.heap.size 0 v0 _ b0 W1 d0 d1 hv0.1 hv0.2 HZ.out C0.out C1.out F0.out F1.out).mono ?_
              rintro e w' ⟨rfl, rfl⟩
              go_wp2
              go_roundw
              case rel =>
                refine ⟨pos + 1, false, min (10 * v0 + ((s[pos]'hp).toNat - 48)) 65536, true, v1, b1, by omega, rfl, iter_stays (iter_stays HK1.out _ (by simp) _) _ (by simp) _, (hB1.set 1 _).set 0 _, (hbl1.setCell (by simp) _).setCell (by simp) _, by omega, hv1, ?_⟩
                rw [← HSC.out, H0.out, scan_f, if_neg (by simpa using H46.out), if_pos HT.out]
                rfl
              case measure =>
                rw [HMU.out, iterPos_of (iter_stays (iter_stays HK1.out ⟨w.heap.size, 1, none⟩ (by simp) _) ⟨w.heap.size, 0, none⟩ (by simp) _)]
                omega
            · have HR := Lib.hid (scan_stop s pos hp false v0 b0 v1 b1 HSC.out (.inl ⟨rfl, H46.out, ht⟩))
              have HZ := Lib.hid hz
              have C0 := Lib.hid c0
              have C1 := Lib.hid c1
              clear ht hz c0 c1 f0 f1
              go_wp2_with fail
              refine (c_take_no w.heap.size 0 v0 _ b0 W1 HZ.out C0.out C1.out).mono ?_
              rintro e w' ⟨rfl, rfl⟩
              go_wp2
              go_ret2
              exact ⟨ret_int2 HR.out.1.symm HR.out.2.symm, hbl1⟩
        · have c2 := hB1.cell 2 _ rfl
          have c3 := hB1.cell 3 _ rfl
          have f2 := hB1.free 2
          have f3 := hB1.free 3
          rcases take_split v1 b1 (s[pos]'hp) with ⟨ht, ⟨d0, d1⟩, hz⟩ | ⟨ht, hz⟩
          · have hb : (((s[pos]'hp).toNat : Int) == 46) = false := beq_eq_false_iff_ne.2 (by omega)
            have HT := Lib.hid ht
            have HZ := Lib.hid hz
            have C0 := Lib.hid c2
            have C1 := Lib.hid c3
            have F0 := Lib.hid f2
            have F1 := Lib.hid f3
            clear ht hz c2 c3 f2 f3
            go_wp2_with fail
            refine (c_take w.heap.size 2 v1 _ b1 W1 d0 d1 hv1.1 hv1.2 HZ.out C0.out C1.out F0.out F1.out).mono ?_
            rintro e w' ⟨rfl, rfl⟩
            go_wp2
            go_roundw
            case rel =>
              refine ⟨pos + 1, true, v0, b0, min (10 * v1 + ((s[pos]'hp).toNat - 48)) 65536, true, by omega, rfl, iter_stays (iter_stays HK1.out _ (by simp) _) _ (by simp) _, (hB1.set 3 _).set 2 _, (hbl1.setCell (by simp) _).setCell (by simp) _, hv0, by omega, ?_⟩
              rw [← HSC.out, H0.out, scan_t, if_pos HT.out]
              rfl
            case measure =>
              rw [HMU.out, iterPos_of (iter_stays (iter_stays HK1.out ⟨w.heap.size, 3, none⟩ (by simp) _) ⟨w.heap.size, 2, none⟩ (by simp) _)]
              omega
          · have HR := Lib.hid (scan_stop s pos hp true v0 b0 v1 b1 HSC.out (.inr ⟨rfl, ht⟩))
            have HZ := Lib.hid hz
            have C0 := Lib.hid c2
            have C1 := Lib.hid c3
            clear ht hz c2 c3 f2 f3
            cases hb : (((s[pos]'hp).toNat : Int) == 46)
            all_goals
              go_wp2_with fail
              refine (c_take_no w.heap.size 2 v1 _ b1 W1 HZ.out C0.out C1.out).mono ?_
              rintro e w' ⟨rfl, rfl⟩
              go_wp2
              go_ret2
              exact ⟨ret_int2 HR.out.1.symm HR.out.2.symm, hbl1⟩
      · -- a sign of several bytes, or none
        have hdec := (decode_high s pos hp (by omega)).1
        have hdle := decode_le s pos
        have hnext : ∀ ty, (Instr.next (.pointer (some ⟨w.heap.size + 1, 0, none⟩)) true ty).run Tryd.prog wr = _ := fun ty => Lib.run_next_any_at wr (w.heap.size + 1) s pos ty hk hp
        have hB1 := hB.iter s (pos + (Utf8.decode s pos).2) (k := w.heap.size + 1) (by omega)
        have hbl1 : Below w.heap.size w (wr.iterAt (w.heap.size + 1) s (pos + (Utf8.decode s pos).2)) := Lib.below_iterAt hbl (by omega) s (pos + (Utf8.decode s pos).2)
        generalize wr.iterAt (w.heap.size + 1) s (pos + (Utf8.decode s pos).2) = W1 at hnext hB1 hbl1
        have hc : 57 < (s[pos]'hp).toNat := by omega
        have hc46 : s[pos]'hp ≠ 46 := by
          intro e
          rw [e] at hc
          have : (46 : UInt8).toNat = 46 := rfl
          omega
        have ht : ∀ v bb, takeB v bb (s[pos]'hp) = false := fun v bb => takeB_no v (s[pos]'hp).toNat bb (.inr (.inl (by omega))) _ rfl
        have hR : parseH s.data.toList = 0 ∧ parseE s.data.toList = 3 := by
          cases b
          · exact scan_stop s pos hp false v0 b0 v1 b1 HSC.out (.inl ⟨rfl, hc46, ht _ _⟩)
          · exact scan_stop s pos hp true v0 b0 v1 b1 HSC.out (.inr ⟨rfl, ht _ _⟩)
        have HR := Lib.hid hR
        obtain ⟨r, hr⟩ : ∃ r : Int, r = (Utf8.decode s pos).1 := ⟨_, rfl⟩
        rw [← hr] at hnext
        have hr1 : 128 ≤ r := by omega
        have hr2 : r ≤ 2147483647 := by omega
        have hb : (r == 46) = false := beq_eq_false_iff_ne.2 (by omega)
        have C0 := Lib.hid (hB1.cell 0 _ rfl)
        have C1 := Lib.hid (hB1.cell 1 _ rfl)
        have C2 := Lib.hid (hB1.cell 2 _ rfl)
        have C3 := Lib.hid (hB1.cell 3 _ rfl)
        clear hr hdec hdle hR ht hc46 hc hk hB hbl
        cases b
        · go_wp2_with fail
          refine (c_take_no w.heap.size 0 v0 _ b0 W1 (.inr (.inl (by omega))) C0.out C1.out).mono ?_
          rintro e w' ⟨rfl, rfl⟩
          go_wp2
          go_ret2
          exact ⟨ret_int2 HR.out.1.symm HR.out.2.symm, hbl1⟩
        · go_wp2_with fail
          refine (c_take_no w.heap.size 2 v1 _ b1 W1 (.inr (.inl (by omega))) C2.out C3.out).mono ?_
          rintro e w' ⟨rfl, rfl⟩
          go_wp2
          go_ret2
          exact ⟨ret_int2 HR.out.1.symm HR.out.2.symm, hbl1⟩
    · have hnext : ∀ ty, (Instr.next (.pointer (some ⟨w.heap.size + 1, 0, none⟩)) true ty).run Tryd.prog wr = _ := fun ty => Lib.run_next_end_at wr (w.heap.size + 1) s pos ty hk hp
      have hfin := HSC.out
      rw [List.drop_of_length_le (by rw [← HL.out]; omega)] at hfin
      have hF := scan_some _ v0 b0 v1 b1 hfin.symm
      have c0 := hB.cell 0 _ rfl
      have c1 := hB.cell 1 _ rfl
      have c2 := hB.cell 2 _ rfl
      have c3 := hB.cell 3 _ rfl
      have HF := Lib.hid hF
      clear hfin hF hk hB
      cases b
      all_goals
        cases b0
        · have hP := HF.out.1 rfl
          have HR1 := Lib.hid (parseH_no _ hP)
          have HR2 := Lib.hid (parseE_no _ hP)
          clear hP
          go_wp2
          go_ret2
          exact ⟨ret_int2 HR1.out.symm HR2.out.symm, hbl⟩
        · cases b1
          · have hP := HF.out.1 rfl
            have HR1 := Lib.hid (parseH_no _ hP)
            have HR2 := Lib.hid (parseE_no _ hP)
            clear hP
            go_wp2
            go_ret2
            exact ⟨ret_int2 HR1.out.symm HR2.out.symm, hbl⟩
          · have HR := Lib.hid (HF.out.2 rfl).2
            go_wp2_with fail
            refine (c_make _ _ _).mono ?_
            rintro e w' ⟨rfl, rfl⟩
            go_wp2
            go_ret2
            exact ⟨ret_int2 HR.out.1.symm HR.out.2.symm, hbl⟩
end Go.Proofs.YtmdpcpefkenicaaDoor

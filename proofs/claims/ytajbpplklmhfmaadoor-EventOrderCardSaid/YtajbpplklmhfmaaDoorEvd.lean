/- Package event: a text cut at one byte (the library's Cut), number, read, Parse. -/
import Derived.Test.YtajbpplklmhfmaaDoorEvc
import Derived.Test.YtajbpplklmhfmaaDoorWp
namespace Go.Proofs.YtajbpplklmhfmaaDoor
open Go.RowKit

theorem ba_eq {s : ByteArray} {l : List UInt8} (h : s.data.toList = l) : s = ⟨l.toArray⟩ := by
  subst h
  rfl
theorem ret_cut {a b a' b' : ByteArray} {c c' : Bool} (h : a = a') (h' : b = b') (h'' : c = c') : Ending.returned (.tuple #[.string a, .string b, .bool c]) = .returned (.tuple #[.string a', .string b', .bool c']) := by rw [h, h', h'']
set_option maxHeartbeats 1000000 in
theorem c_lix1 (s : ByteArray) (c : UInt8) (w : World) :
    Calls Tryd.prog 46 #[.string s, .string ⟨#[c]⟩] w fun e w' => e = .returned (.int .i64 (Lib.indexByte s.data.toList c)) ∧ w = w' := by
  have CI := Lib.hid (fun W => Tryd.stringslite_IndexByte s (c.toNat : Int) W)
  have e : (c.toNat : Int).toNat.toUInt8 = c := by rw [Int.toNat_natCast]; exact UInt8.ofNat_toNat
  rw [e] at CI
  clear e
  have htl : s.toList = s.data.toList := ByteArray.toList_eq s
  cases hq : ([c] == s.toList)
  · clear htl
    generalize Lib.indexByte s.data.toList c = r at CI
    go_enter Tryd.func46, Tryd.ntmps46
    go_wp2_with (go_at_call 56; refine (CI.out _).mono ?_; rintro e w' ⟨rfl, rfl⟩)
    go_ret
    exact ⟨rfl, rfl⟩
  · have H := Lib.hid (show Lib.indexByte s.data.toList c = 0 from by
      have e : [c] = s.toList := by simpa using hq
      rw [← htl, ← e]
      simp [Lib.indexByte])
    clear CI htl
    go_enter Tryd.func46, Tryd.ntmps46
    go_wp2
    go_ret
    exact ⟨ret_int H.out.symm, rfl⟩
/-- Whether a byte is there. -/
def evHas (c : UInt8) (l : List UInt8) : Bool := decide (0 ≤ Lib.indexByte l c)
set_option maxHeartbeats 1000000 in
theorem c_lcut1 (s : ByteArray) (hs : s.size ≤ 1000000) (c : UInt8) (w : World) :
    Calls Tryd.prog 37 #[.string s, .string ⟨#[c]⟩] w fun e w' => e = .returned (.tuple #[.string ⟨(evA c s.data.toList).toArray⟩, .string ⟨(evB c s.data.toList).toArray⟩, .bool (evHas c s.data.toList)]) ∧ Below w.heap.size w w' := by
  have hll : s.data.toList.length = s.size := by simp
  have CI := Lib.hid (fun W => c_lix1 s c W)
  rcases ix_cut c s.data.toList with ⟨h1, h2, h3⟩ | ⟨i, h1, hi, h2, h3⟩
  · have HX := Lib.hid (show evHas c s.data.toList = false from by unfold evHas; rw [h1]; rfl)
    have HA := Lib.hid h2
    have HB := Lib.hid h3
    rw [h1] at CI
    clear h1 h2 h3 hll
    go_enter Tryd.func37, Tryd.ntmps37
    go_wp2_with (go_at_call 46; refine (CI.out _).mono ?_; rintro e w' ⟨rfl, rfl⟩)
    go_ret3
    exact ⟨ret_cut (ba_eq HA.out.symm) (by rw [HB.out]) HX.out.symm, Below.refl _ _⟩
  · have HX := Lib.hid (show evHas c s.data.toList = true from by unfold evHas; rw [h1]; exact decide_eq_true (by omega))
    have x1 : (s.extract 0 i).data.toList = evA c s.data.toList := by rw [Lib.extract_data, h2]; simp
    have x2 : (s.extract (i + 1) s.size).data.toList = evB c s.data.toList := by
      rw [Lib.extract_data, h3]
      exact List.take_of_length_le (by rw [List.length_drop, hll]; omega)
    have X1 := Lib.hid (ba_eq x1)
    have X2 := Lib.hid (ba_eq x2)
    rw [hll] at hi
    rw [h1] at CI
    have hi0 : (0 : Int) ≤ i := by omega
    have hi1 : (i : Int) < s.size := by omega
    clear h1 h2 h3 hll x1 x2
    go_enter Tryd.func37, Tryd.ntmps37
    go_wp2_with (go_at_call 46; refine (CI.out _).mono ?_; rintro e w' ⟨rfl, rfl⟩)
    go_quiet (fail)
    go_wp2
    go_ret3
    exact ⟨ret_cut X1.out X2.out HX.out.symm, up_drewN _ _⟩
set_option maxHeartbeats 400000 in
theorem c_cut1 (s : ByteArray) (hs : s.size ≤ 1000000) (c : UInt8) (w : World) :
    Calls Tryd.prog 26 #[.string s, .string ⟨#[c]⟩] w fun e w' => e = .returned (.tuple #[.string ⟨(evA c s.data.toList).toArray⟩, .string ⟨(evB c s.data.toList).toArray⟩, .bool (evHas c s.data.toList)]) ∧ Below w.heap.size w w' := by
  have CI := Lib.hid (c_lcut1 s hs c w)
  generalize evHas c s.data.toList = b at CI
  generalize evA c s.data.toList = x at CI
  generalize evB c s.data.toList = y at CI
  go_enter Tryd.func26, Tryd.ntmps26
  go_wp2_with (go_at_call 37; refine CI.out.mono ?_; rintro e w2 ⟨rfl, hb2⟩)
  go_ret3
  exact ⟨rfl, hb2⟩

theorem np_no {l : List UInt8} (h : plainB l = false) : evNP l = 0 := if_neg (by rw [h]; decide)
theorem np_fit {l : List UInt8} (h : plainB l = true) (h' : (numN 0 l : Int) ≤ 2147483647) : evNP l = numN 0 l := by unfold evNP; rw [if_pos h, if_pos h']
theorem np_big {l : List UInt8} (h : plainB l = true) (h' : ¬ (numN 0 l : Int) ≤ 2147483647) : evNP l = 2147483647 := by unfold evNP; rw [if_pos h, if_neg h']
theorem pre_no (l : List UInt8) (h : Lib.hasPrefix l [45] = false) : readB l = plainB l ∧ readV l = numN 0 l := by
  unfold readB readV Lib.trimPrefix
  rw [h]
  simp
theorem pre_yes (l : List UInt8) (h : Lib.hasPrefix l [45] = true) : plainB l = false := by
  cases l with
  | nil => rfl
  | cons c r =>
    have hc : c = 45 := by
      simp [Lib.hasPrefix] at h
      exact h.symm
    subst hc
    simp [plainB, isDig]
set_option maxHeartbeats 1000000 in
theorem c_evnum (l : List UInt8) (hl : l.length ≤ 1000000) (w : World) (hv : EnvW w) :
    Calls Tryd.prog 39 #[.string ⟨l.toArray⟩] w fun e w' => e = .returned (.tuple #[.int .i64 (evNP l), .bool (plainB l)]) ∧ Below w.heap.size w w' := by
  have CH := Lib.hid (Tryd.strings_HasPrefix ⟨l.toArray⟩ ⟨#[45]⟩ w)
  change Hid (Calls _ _ _ _ fun e w' => e = .returned (.bool (Lib.hasPrefix l [45])) ∧ w' = w) at CH
  have CP := Lib.hid (c_wparse ⟨l.toArray⟩ (by simpa [ByteArray.size] using hl) w hv)
  change Hid (Calls _ _ _ _ fun e w' => e = .returned (.tuple #[.int .i64 (parseWV l), .int .i64 (parseWE l)]) ∧ Below w.heap.size w w') at CP
  clear hv
  cases hp : Lib.hasPrefix l [45]
  · obtain ⟨r1, r2⟩ := pre_no l hp
    rw [hp] at CH
    cases hb : plainB l
    · obtain ⟨z1, z2⟩ := parseW_no l (by rw [r1]; exact hb)
      rw [np_no hb]
      rw [z1, z2] at CP
      clear r1 r2 z1 z2 hb hp
      go_enter Tryd.func39, Tryd.ntmps39
      go_wp2_with (go_at_call 48; refine CH.out.mono ?_; rintro e w' ⟨rfl, rfl⟩)
      refine CP.out.mono ?_; rintro e w2 ⟨rfl, hb2⟩
      go_wp2
      go_ret2
      exact ⟨rfl, hb2⟩
    · by_cases hf : (numN 0 l : Int) ≤ 2147483647
      · obtain ⟨z1, z2⟩ := parseW_on l (by rw [r1]; exact hb) (by rw [r2]; exact fineW_of _ (by omega) hf)
        rw [np_fit hb hf]
        rw [z1, z2, r2] at CP
        clear r1 r2 z1 z2 hb hp
        generalize (numN 0 l : Int) = x at CP hf ⊢
        go_enter Tryd.func39, Tryd.ntmps39
        go_wp2_with (go_at_call 48; refine CH.out.mono ?_; rintro e w' ⟨rfl, rfl⟩)
        refine CP.out.mono ?_; rintro e w2 ⟨rfl, hb2⟩
        go_wp2
        go_ret2
        exact ⟨rfl, hb2⟩
      · obtain ⟨z1, z2⟩ := parseW_out l (by rw [r1]; exact hb) (by rw [r2]; exact fineW_no _ (by omega))
        rw [np_big hb hf]
        rw [z1, z2] at CP
        clear r1 r2 z1 z2 hb hp hf
        go_enter Tryd.func39, Tryd.ntmps39
        go_wp2_with (go_at_call 48; refine CH.out.mono ?_; rintro e w' ⟨rfl, rfl⟩)
        refine CP.out.mono ?_; rintro e w2 ⟨rfl, hb2⟩
        go_wp2
        go_ret2
        exact ⟨rfl, hb2⟩
  · have hb := pre_yes l hp
    rw [np_no hb, hb]
    rw [hp] at CH
    clear hb hp CP
    go_enter Tryd.func39, Tryd.ntmps39
    go_wp2_with (go_at_call 48; refine CH.out.mono ?_; rintro e w' ⟨rfl, rfl⟩)
    go_ret2
    exact ⟨rfl, Below.refl _ _⟩
end Go.Proofs.YtajbpplklmhfmaaDoor

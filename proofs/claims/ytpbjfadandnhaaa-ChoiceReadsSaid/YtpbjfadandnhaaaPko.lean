/- The law ChoiceReads. -/
import Derived.Test.YtpbjfadandnhaaaPkm
import Derived.Test.YtpbjfadandnhaaaPkl
namespace Go.Proofs.Ytpbjfadandnhaaa
open Go.RowKit

theorem read_few (s : List UInt8) (at_ : Int) : (chRead s at_).1.length ≤ 2000 := by
  unfold chRead
  split
  · exact Nat.zero_le _
  · match s.drop at_.toNat with
    | [] => exact Nat.zero_le _
    | [_] => exact Nat.zero_le _
    | a :: b :: r =>
      unfold chRd
      simp only
      split
      · exact Nat.zero_le _
      · split
        · rw [List.length_map]
          exact Nat.le_trans (told_len _ _) (by omega)
        · exact Nat.zero_le _

set_option maxRecDepth 100000 in
set_option maxHeartbeats 4000000 in
theorem l_creads (s : ByteArray) (at_ : Int) (w : World) :
    Calls Try.prog 4 #[.string s, .int .i64 at_] w fun e w' => e = .returned (.bool true) ∧ Below w.heap.size w w' := by
  obtain ⟨l, rfl⟩ : ∃ l : List UInt8, s = ⟨l.toArray⟩ := ⟨s.data.toList, rfl⟩
  by_cases ha : 1000 < l.length
  · have h1 : (1000 : Int) < l.length := by omega
    clear ha
    go_enter Try.func4, Try.ntmps4
    go_wp2_with fail
    refine (c_alive _).mono ?_
    rintro e w1 ⟨rfl, hb1⟩
    go_wp2
    go_ret
    exact ⟨rfl, hb1⟩
  · have h1 : (l.length : Int) ≤ 1000 := by omega
    have hlen := read_few l at_
    have CR := Lib.hid (fun W => c_read l (by omega) at_ W)
    have CRR := Lib.hid (fun W => c_rread l (by omega) at_ W)
    generalize chRead l at_ = X at *
    obtain ⟨L, en, er⟩ := X
    change Hid (∀ W, Calls _ _ _ W fun e w' => ∃ A c, e = .returned (.tuple #[.slice A L.length c, .int .i64 en, .int .i64 er]) ∧ L.length ≤ c ∧ RD w' (W.heap.size ≤ ·) 3 A L.length (L.flatMap chC) ∧ Below W.heap.size W w') at CR
    change Hid (∀ W, Calls _ _ _ W fun e w' => ∃ A c, e = .returned (.tuple #[.slice A L.length c, .int .i64 en, .int .i64 er]) ∧ L.length ≤ c ∧ RD w' (W.heap.size ≤ ·) 3 A L.length (L.flatMap chC) ∧ Below W.heap.size W w') at CRR
    have hL : L.length ≤ 2000 := hlen
    have e1 : (en == en) = true := by simp
    have e2 : (er == er) = true := by simp
    clear ha hlen
    go_enter Try.func4, Try.ntmps4
    go_wp2_with fail
    refine (CR.out _).mono ?_
    rintro e w1 ⟨A1, c1, rfl, _, hr1, hb1⟩
    have HR1 := Lib.hid hr1
    have HB1 := Lib.hid hb1
    clear hr1 hb1
    go_wp2_with fail
    refine (CRR.out _).mono ?_
    rintro e w2 ⟨A2, c2, rfl, _, hr2, hb2⟩
    have HR1' := Lib.hid (HR1.out.below hb2)
    have HR2 := Lib.hid hr2
    have HB2 := Lib.hid (up_trans HB1.out hb2)
    clear hr2 hb2 HR1 HB1
    go_wp2_with fail
    refine (c_back HR1'.out (by omega)).mono ?_
    rintro e w3 ⟨A3, c3, rfl, hr3, hb3⟩
    have HR3 := Lib.hid hr3
    have HR2' := Lib.hid (HR2.out.below hb3)
    have HB3 := Lib.hid (up_trans HB2.out hb3)
    clear hr3 hb3 HR1' HR2 HB2
    go_wp2_with fail
    refine (c_rsame HR3.out HR2'.out (by omega)).mono ?_
    rintro e w4 ⟨rfl, hd4⟩
    have HB4 := Lib.hid (up_trans HB3.out hd4.below)
    clear hd4 HR3 HR2' HB3
    go_wp2_with fail
    refine (c_alive _).mono ?_
    rintro e w5 ⟨rfl, hb5⟩
    go_wp2
    go_ret
    exact ⟨rfl, up_trans HB4.out hb5⟩
end Go.Proofs.Ytpbjfadandnhaaa

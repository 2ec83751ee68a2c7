/- The law ChoiceBack. -/
import Derived.Test.YtpbjfadandnhaaaPko
import Derived.Test.YtpbjfadandnhaaaPkn
namespace Go.Proofs.Ytpbjfadandnhaaa
open Go.RowKit

theorem ex_take (r : List UInt8) (k : Nat) : (⟨r.toArray⟩ : ByteArray).extract 0 k = ⟨(r.take k).toArray⟩ := by
  apply ByteArray.ext
  rw [ByteArray.data_extract]
  apply Array.ext'
  rw [Array.toList_extract, List.extract_eq_take_drop]
  simp

/-- Behind the first half: what is read of s has just its bytes. -/
def BackEnd (w : World) (e : Ending) (w' : World) : Prop := e = .returned (.bool true) ∧ Below w.heap.size w w'

set_option maxRecDepth 100000 in
set_option maxHeartbeats 8000000 in
theorem l_cback {w : World} {A : Option Addr} {n c : Nat} {L : List CH} (hn : L.length = n) (hR : RD w (fun _ => True) 3 A n (L.flatMap chC)) (a_ s_ : ByteArray) :
    Calls Try.prog 5 #[.slice A n c, .string a_, .string s_] w (BackEnd w) := by
  subst hn
  obtain ⟨a, rfl⟩ : ∃ l : List UInt8, a_ = ⟨l.toArray⟩ := ⟨a_.data.toList, rfl⟩
  obtain ⟨s, rfl⟩ : ∃ l : List UInt8, s_ = ⟨l.toArray⟩ := ⟨s_.data.toList, rfl⟩
  by_cases ha : 100 < L.length ∨ 100 < a.length ∨ 1000 < s.length
  · have hg : (100 : Int) < L.length ∨ (L.length : Int) ≤ 100 ∧ (100 : Int) < a.length ∨ (L.length : Int) ≤ 100 ∧ (a.length : Int) ≤ 100 ∧ (1000 : Int) < s.length := by omega
    clear ha hR
    rcases hg with h1 | ⟨h1, h2⟩ | ⟨h1, h2, h3⟩
    all_goals
      go_enter Try.func5, Try.ntmps5
      go_wp2_with fail
      refine (c_alive _).mono ?_
      rintro e w1 ⟨rfl, hb1⟩
      go_wp2
      go_ret
      exact ⟨rfl, hb1⟩
  · have h1 : (L.length : Int) ≤ 100 := by omega
    have h2 : (a.length : Int) ≤ 100 := by omega
    have h3 : (s.length : Int) ≤ 1000 := by omega
    have hl1 : L.length ≤ 100 := by omega
    have hl2 : a.length ≤ 100 := by omega
    have hl3 : s.length ≤ 1000 := by omega
    have hblen := bytes_len L
    have HR := Lib.hid hR
    have CT : Hid (Calls Try.prog 8 #[.slice A L.length c] w fun e w' => ∃ B d, e = .returned (.slice B L.length d) ∧ RD w' (w.heap.size ≤ ·) 3 B L.length (L.flatMap chC) ∧ Below w.heap.size w w') := Lib.hid (c_to (c := c) hR (by omega))
    have CA : Hid (∀ (W : World) (pl : Nat → Prop) (B : Option Addr) (d : Nat), RD W pl 3 B L.length (L.flatMap chC) → Calls Try.prog 7 #[.slice B L.length d] W fun e w' => e = .returned (.tuple #[.int .i64 (chAll L).1, .int .i64 (chAll L).2]) ∧ Below W.heap.size W w') := Lib.hid (fun W pl B d h => c_all (c := d) h (by omega))
    have hal := Lib.hid (fun W => c_alive W)
    -- the second half
    have hfew := read_few s 0
    have CR := Lib.hid (fun W => c_read s (by omega) 0 W)
    have HBR := Lib.hid (fun L e h => @bytes_read s L e h)
    generalize hY : chRead s 0 = Y at CR HBR hfew
    obtain ⟨M, en, er⟩ := Y
    change Hid (∀ W, Calls _ _ _ W fun e w' => ∃ A c, e = .returned (.tuple #[.slice A M.length c, .int .i64 en, .int .i64 er]) ∧ M.length ≤ c ∧ RD w' (W.heap.size ≤ ·) 3 A M.length (M.flatMap chC) ∧ Below W.heap.size W w') at CR
    have hM : M.length ≤ 2000 := hfew
    have CB := Lib.hid (fun (W : World) (pl : Nat → Prop) (B : Option Addr) (d : Nat) (h : RD W pl 3 B M.length (M.flatMap chC)) => c_bytes (c := d) h (by omega))
    -- the first half's
    have HEQ : Hid ((⟨a.toArray⟩ : ByteArray) ++ ⟨(chBytes L).toArray⟩ = ⟨(a ++ chBytes L).toArray⟩) := Lib.hid (bytes_app a (chBytes L))
    have CB1 : Hid (∀ (W : World) (pl : Nat → Prop) (B : Option Addr) (d : Nat), RD W pl 3 B L.length (L.flatMap chC) → Calls Try.prog 10 #[.slice B L.length d] W fun e w' => e = .returned (.string ⟨(chBytes L).toArray⟩) ∧ Below W.heap.size W w') := Lib.hid (fun W pl B d h => c_bytes (c := d) h (by omega))
    have CR1 : Hid ((chAll L).2 = 0 → ∀ W, Calls Try.prog 14 #[.string ⟨(a ++ chBytes L).toArray⟩, .int .i64 (a.length : Int)] W fun e w' => ∃ A c, e = .returned (.tuple #[.slice A L.length c, .int .i64 ((a.length : Int) + 2 + 3 * (L.length : Int)), .int .i64 0]) ∧ L.length ≤ c ∧ RD w' (W.heap.size ≤ ·) 3 A L.length (L.flatMap chC) ∧ Below W.heap.size W w') := Lib.hid fun hz W => by
      have h := c_read (a ++ chBytes L) (by rw [List.length_append]; omega) (a.length : Int) W
      rw [read_bytes hz a] at h
      exact h
    have hbl : (chBytes L).length ≤ 1000 := by omega
    have hcat : ((⟨(chBytes L).toArray⟩ : ByteArray).size : Int) ≤ 1000 := by
      have : (⟨(chBytes L).toArray⟩ : ByteArray).size = (chBytes L).length := rfl
      omega
    generalize (chBytes L) = cb at *
    generalize (chAll L).1 = i at *
    generalize (chAll L).2 = e0 at *
    have hne : ((a.length : Int) + 2 + 3 * (L.length : Int) != (a.length : Int) + 2 + 3 * (L.length : Int)) = false := by simp
    clear hY hR ha hblen hfew
    go_enter Try.func5, Try.ntmps5
    go_wp2_with fail
    refine CT.out.mono ?_
    rintro e w1 ⟨B1, d1, rfl, hr1, hb1⟩
    have HR1 := Lib.hid hr1
    have HB1 := Lib.hid hb1
    clear hr1 hb1
    go_wp2_with fail
    refine (CA.out _ _ _ _ HR1.out).mono ?_
    rintro e w2 ⟨rfl, hb2⟩
    have HR2 := Lib.hid (HR1.out.below hb2)
    have HB2 := Lib.hid (up_trans HB1.out hb2)
    clear hb2 HB1 HR1 CA CT
    go_upto_if 38 with fail
    go_cut [] (fun wx => Below w.heap.size w wx)
    case first =>
      by_cases hz : e0 = 0
      · have hz1 : (e0 == 0) = true := by simp [hz]
        have CR2 := Lib.hid (CR1.out hz)
        clear hz CR1 CR CB HBR
        go_wp2_with fail
        refine (CB1.out _ _ _ _ HR2.out).mono ?_
        rintro e w3 ⟨rfl, hb3⟩
        have HB3 := Lib.hid (up_trans HB2.out hb3)
        clear hb3 HB2 HR2
        go_wp2_with fail
        rw [HEQ.out]
        refine (CR2.out _).mono ?_
        rintro e w4 ⟨A4, c4, rfl, _, hr4, hb4⟩
        have HR4 := Lib.hid hr4
        have HB4 := Lib.hid (up_trans HB3.out hb4)
        clear hr4 hb4 HB3 CR2
        go_wp2_with fail
        refine (c_back HR4.out (by omega)).mono ?_
        rintro e w5 ⟨A5, c5, rfl, hr5, hb5⟩
        have HR5 := Lib.hid hr5
        have HB5 := Lib.hid (up_trans HB4.out hb5)
        clear hr5 hb5 HB4 HR4
        go_wp2_with fail
        refine (c_rsame HR5.out (HR.out.below HB5.out) (by omega)).mono ?_
        rintro e w6 ⟨rfl, hd6⟩
        have HB6 := Lib.hid (up_trans HB5.out hd6.below)
        clear hd6 HB5 HR5
        go_wp2
        go_meet
        case rel => exact HB6.out
      · have hz1 : (e0 == 0) = false := beq_eq_false_iff_ne.2 hz
        clear hz CR1 CR CB HBR
        go_wp2
        go_meet
        case rel => exact HB2.out
    case rest =>
      have HB2' := Lib.hid hcut
      clear hcut HB2 HR2 CR1 CB1 HEQ hne
      by_cases hq : er = 0
      · subst hq
        obtain ⟨q0, q1, q2, q3⟩ := HBR.out M en rfl
        obtain ⟨q, rfl⟩ : ∃ q : Nat, en = q := ⟨en.toNat, by omega⟩
        have hex := ex_take s q
        rw [Int.toNat_natCast] at q2
        rw [← q2] at hex
        change Hid (∀ (W : World) (pl : Nat → Prop) (B : Option Addr) (d : Nat), RD W pl 3 B M.length (M.flatMap chC) → Calls _ _ _ W fun e w' => e = .returned (.string ⟨(chBytes M).toArray⟩) ∧ Below W.heap.size W w') at CB
        generalize (⟨(chBytes M).toArray⟩ : ByteArray) = bs at *
        have hqs : (q : Int) ≤ s.length := by omega
        clear q2 HBR
        go_wp2_with fail
        refine (CR.out _).mono ?_
        rintro e w3 ⟨A3, c3, rfl, _, hr3, hb3⟩
        have HR3 := Lib.hid hr3
        have HB3 := Lib.hid (up_trans HB2'.out hb3)
        clear hr3 hb3 HB2' CR
        go_wp2_with fail
        go_region_held3 (fun W => Below w3.heap.size w3 W)
          (first | exact (Below.refl _ _).drew | exact up_trans (by assumption) (by assumption))
          (first
            | (go_at_call 10; refine (CB.out _ _ _ _ (HR3.out.below (by assumption))).mono ?_; rintro e w5 ⟨rfl, hb5⟩)
            | (go_at_call 6; refine (hal.out _).mono ?_; rintro e w9 ⟨rfl, hb9⟩))
        all_goals
          go_wp2
          go_ret
          exact ⟨rfl, up_trans HB3.out (by assumption)⟩
      · have hqn : (er != 0) = true := by simp [hq]
        clear hq HBR CB
        go_wp2_with fail
        refine (CR.out _).mono ?_
        rintro e w3 ⟨A3, c3, rfl, _, hr3, hb3⟩
        have HB3 := Lib.hid (up_trans HB2'.out hb3)
        clear hr3 hb3 HB2' CR
        go_wp2_with fail
        have cA := grown_call (w := w3) fun W _ => hal.out W
        refine wp_region_quiet_below (by kernel_rfl) (by kernel_rfl) ?_
        repeat (go_big_quiet_step (first | (with_reducible exact cA _ _)))
        refine wpQuiet_nil ?_
        intro _ hw'
        obtain ⟨⟨dq, osq⟩, hw''⟩ := hw'
        have HQ := Lib.hid (up_trans HB3.out (hw'' ▸ below_regrown w3 dq osq))
        clear hw''
        go_wp2
        go_ret
        exact ⟨rfl, HQ.out⟩
end Go.Proofs.Ytpbjfadandnhaaa

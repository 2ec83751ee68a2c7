/- The contract of the law QueuePlays. -/
import Derived.Test.YthakcjabeekihaaRb
namespace Go.Proofs.Ythakcjabeekihaa
open Go.RowKit

set_option maxRecDepth 100000 in
set_option maxHeartbeats 4000000 in
theorem l_plays_run (qs room : Nat) (A : Option Addr) (n cp : Nat) (L : List Step) (w : World) (hR : RD w (fun _ => True) 3 A n (L.flatMap stepV)) (hn : L.length = n) (hL : ∀ p ∈ L, StepOk p) (h100 : n ≤ 100) (q0 : 1 ≤ qs) (q1 : qs ≤ 64) (r1 : room ≤ 1024) :
    Calls Try.prog 3 #[.int .i64 (qs : Int), .int .i64 (room : Int), .slice A n cp] w fun e w' => e = .returned (.bool true) ∧ Below w.heap.size w w' := by
  have HL := Lib.hid hL
  have HN := Lib.hid hn
  clear hL hn
  go_enter Try.func3, Try.ntmps3
  go_wp2_with fail
  refine (c_new qs room q0 q1 r1 w).mono ?_
  rintro e w1 ⟨b, rfl, H1, hS, hb1⟩
  have hz1 := H1.lt
  go_wp2_with fail
  refine (c_rnew qs room q0 q1 r1 (fun k => k ≠ b) w1 (fun k hk => by omega)).mono ?_
  rintro e w2 ⟨A2, c2, rfl, R2, hb2⟩
  have hln : (noD qs).length = qs := by simp [noD]
  have hnum : numsD (noD qs) = List.replicate qs [] := by simp [numsD, noD]
  have hz2 := hb2.size
  have hrel0 : PlayRel w b w2.heap.size room (w2.alloc (.cells #[.int .i64 room, .slice A2 (noD qs).length c2] 30)) := by
    have up := up_alloc w2 (.cells #[.int .i64 room, .slice A2 (noD qs).length c2] 30)
    refine ⟨noD qs, A2, c2, room, ⟨?_, ?_, box2c w2 _ _ _, by rw [hnum, sumlen_rep]; rfl, up_trans hb1 (up_trans hb2 up)⟩⟩
    · rw [hnum]
      exact (H1.below hb2).below up
    · exact (R2.lo (pl' := fun k => k ≠ b ∧ k ≠ w2.heap.size) (fun k hk h => ⟨h, by omega⟩)).below up
  have HREL := Lib.hid hrel0
  clear hrel0 H1 R2 hnum
  generalize (noD qs).length = lq at HREL hln
  clear hln
  go_wp2_with fail
  go_loopw [12, 13, 14, 15, 16, 17, 18, 19, 20, 21, 58] (fun _ _ _ _ _ _ _ _ _ _ i wr => ∃ k : Nat, k ≤ n ∧ i = .int .i64 k ∧ PlayRel w b w2.heap.size room wr) (fun _ _ _ _ _ _ _ _ _ _ i _ => n - (intOf i).toNat)
  case atStart => exact ⟨0, Nat.zero_le _, rfl, HREL.out⟩
  case round =>
    clear HREL
    obtain ⟨k, hk, rfl, D, A, c, fr, ⟨H, R, hb9, hsum, hbw⟩⟩ := hrel
    have hS9 : b < wr.heap.size := H.lt
    have h9lt := hb9.lt
    have hS9' : w2.heap.size ≠ b := by omega
    have hbB : b ≠ w2.heap.size := by omega
    have h9w : w.heap.size ≤ w2.heap.size := Nat.le_trans hb1.size hb2.size
    by_cases hlt : k < n
    · obtain ⟨bL, oL, ⟨dd, qq, xx⟩, rfl, hbL, hp, a0, a1, a2⟩ := (hR.below hbw).step HN.out k hlt
      obtain ⟨d0, d1⟩ := HL.out _ (List.mem_of_getElem? hp)
      simp only at a0 a1 a2 d0 d1
      clear hp
      have ups := up_alloc wr (.cells #[.int .u8 dd, .int .i64 qq, .int .i64 xx] 34)
      have hbs : Blk (wr.alloc (.cells #[.int .u8 dd, .int .i64 qq, .int .i64 xx] 34)) wr.heap.size [.int .u8 dd, .int .i64 qq, .int .i64 xx] 34 := Blk.new wr [.int .u8 dd, .int .i64 qq, .int .i64 xx] _
      generalize hws : wr.alloc (.cells #[.int .u8 dd, .int .i64 qq, .int .i64 xx] 34) = ws at ups hbs
      have HWS := Lib.hid hws
      have Hs := H.below ups
      have Rs := R.below ups
      have hb9s := hb9.up ups h9lt
      have hbws := up_trans hbw ups
      have hzs := hbs.lt
      clear hws H R hbw
      have key : dd % 5 = 0 ∨ dd % 5 = 1 ∨ (2 ≤ dd % 5) := by omega
      rcases key with hd5 | hd5 | hd5
      · have q0 : (dd % 5 == 0) = true := by simp [hd5]
        obtain ⟨Ws, fr', r, SB⟩ := rem_both Hs hsum qq xx
        have SP := Lib.hid SB.prog
        clear hd5
        go_wp2_with fail
        rw [HWS.out]
        refine Calls.mono SP.out ?_
        rintro e w3 ⟨rfl, H3, hb3⟩
        have R3 := Rs.only hb3 (fun _ e hp => hp.1 e)
        have b93 := hb9s.only hb3 hS9'
        have hbs3 := hbs.only hb3 (by omega)
        have up3 := hbws.trans (hb3.toBelow hbws.size (fun i e => e ▸ hS))
        have c0 := b93.cell 0 _ rfl
        have c1 := b93.cell 1 _ rfl
        have e0 := hbs3.cell 0 _ rfl
        have e1 := hbs3.cell 1 _ rfl
        have e2 := hbs3.cell 2 _ rfl
        have hz3 := hb3.size
        have CD := Lib.hid (SB.doc w3 _ D A c R3 rfl (fun k hk => by constructor <;> omega))
        go_wp2_with fail
        refine Calls.mono CD.out ?_
        rintro e w4 ⟨D', A', c', rfl, R4, hD', hb4⟩
        have H4 := H3.below hb4
        have b94 := b93.up hb4 b93.lt
        have hbs4 := hbs3.up hb4 hbs3.lt
        have P5 := play_store (room := room) (by rw [hD']; exact H4) R4 b94 (by rw [hD']; exact SB.sum) (up_trans up3 hb4) h9w hbB
        clear c0 c1
        have c0 := b94.cell 0 _ rfl
        have c1 := b94.cell 1 _ rfl
        have hke : (r != r) = false := by simp
        have f0 := b94.free 0
        have f1 := b94.free 1
        clear e0 e1 e2
        have e1 := hbs4.cell 1 _ rfl
        have hne9 : wr.heap.size ≠ w2.heap.size := by omega
        have hne9' : w2.heap.size ≠ wr.heap.size := by omega
        go_wp2_with fail
        refine (c_as P5.H P5.R room P5.sum r1 qq).mono ?_
        rintro e w6 ⟨rfl, hb6⟩
        go_wp2_with fail
        go_roundw
        case rel => exact ⟨k + 1, by omega, by go_num, D', A', c', fr', P5.below hb6⟩
        case measure => simp [intOf]; omega
      · have q0 : (dd % 5 == 0) = false := by simp [hd5]
        have q1 : (dd % 5 == 1) = true := by simp [hd5]
        obtain ⟨Ws, fr', px, er, SB⟩ := pop_both Hs hsum qq
        have SP := Lib.hid SB.prog
        clear hd5
        go_wp2_with fail
        rw [HWS.out]
        refine Calls.mono SP.out ?_
        rintro e w3 ⟨rfl, H3, hb3⟩
        have R3 := Rs.only hb3 (fun _ e hp => hp.1 e)
        have b93 := hb9s.only hb3 hS9'
        have hbs3 := hbs.only hb3 (by omega)
        have up3 := hbws.trans (hb3.toBelow hbws.size (fun i e => e ▸ hS))
        have c0 := b93.cell 0 _ rfl
        have c1 := b93.cell 1 _ rfl
        have e0 := hbs3.cell 0 _ rfl
        have e1 := hbs3.cell 1 _ rfl
        have e2 := hbs3.cell 2 _ rfl
        have hz3 := hb3.size
        have CD := Lib.hid (SB.doc w3 _ D A c R3 rfl (fun k hk => by constructor <;> omega))
        go_wp2_with fail
        refine Calls.mono CD.out ?_
        rintro e w4 ⟨D', A', c', rfl, R4, hD', hb4⟩
        have H4 := H3.below hb4
        have b94 := b93.up hb4 b93.lt
        have hbs4 := hbs3.up hb4 hbs3.lt
        have P5 := (play_store (room := room) (by rw [hD']; exact H4) R4 b94 (by rw [hD']; exact SB.sum) (up_trans up3 hb4) h9w hbB).below (up_alloc _ (.cells #[.int .i64 room, .slice A' D'.length c'] 30))
        have c0 := b94.cell 0 _ rfl
        have c1 := b94.cell 1 _ rfl
        have z4 := b94.lt
        have hne4 : w4.heap.size ≠ w2.heap.size := by omega
        have hne5 : w2.heap.size ≠ w4.heap.size := by omega
        have z5 := hbs4.lt
        have hne6 : w4.heap.size ≠ wr.heap.size := by omega
        have hne7 : wr.heap.size ≠ w4.heap.size := by omega
        have hkx : (px != px) = false := by simp
        have hke : (er != er) = false := by simp
        have f0 := b94.free 0
        have f1 := b94.free 1
        clear e0 e1 e2
        have e1 := hbs4.cell 1 _ rfl
        have hne9 : wr.heap.size ≠ w2.heap.size := by omega
        have hne9' : w2.heap.size ≠ wr.heap.size := by omega
        go_wp2_with fail
        refine (c_as P5.H P5.R room P5.sum r1 qq).mono ?_
        rintro e w6 ⟨rfl, hb6⟩
        go_wp2_with fail
        go_roundw
        case rel => exact ⟨k + 1, by omega, by go_num, D', A', c', fr', P5.below hb6⟩
        case measure => simp [intOf]; omega
      · have q0 : (dd % 5 == 0) = false := beq_eq_false_iff_ne.2 (by omega)
        have q1 : (dd % 5 == 1) = false := beq_eq_false_iff_ne.2 (by omega)
        obtain ⟨Ws, fr', er, SB⟩ := push_both Hs hsum r1 qq xx
        have SP := Lib.hid SB.prog
        clear hd5
        go_wp2_with fail
        rw [HWS.out]
        refine Calls.mono SP.out ?_
        rintro e w3 ⟨rfl, H3, hb3⟩
        have R3 := Rs.only hb3 (fun _ e hp => hp.1 e)
        have b93 := hb9s.only hb3 hS9'
        have hbs3 := hbs.only hb3 (by omega)
        have up3 := hbws.trans (hb3.toBelow hbws.size (fun i e => e ▸ hS))
        have c0 := b93.cell 0 _ rfl
        have c1 := b93.cell 1 _ rfl
        have e0 := hbs3.cell 0 _ rfl
        have e1 := hbs3.cell 1 _ rfl
        have e2 := hbs3.cell 2 _ rfl
        have hz3 := hb3.size
        have CD := Lib.hid (SB.doc w3 _ D A c R3 rfl (fun k hk => by constructor <;> omega))
        go_wp2_with fail
        refine Calls.mono CD.out ?_
        rintro e w4 ⟨D', A', c', rfl, R4, hD', hb4⟩
        have H4 := H3.below hb4
        have b94 := b93.up hb4 b93.lt
        have hbs4 := hbs3.up hb4 hbs3.lt
        have P5 := play_store (room := room) (by rw [hD']; exact H4) R4 b94 (by rw [hD']; exact SB.sum) (up_trans up3 hb4) h9w hbB
        clear c0 c1
        have c0 := b94.cell 0 _ rfl
        have c1 := b94.cell 1 _ rfl
        have hke : (er != er) = false := by simp
        have f0 := b94.free 0
        have f1 := b94.free 1
        clear e0 e1 e2
        have e1 := hbs4.cell 1 _ rfl
        have hne9 : wr.heap.size ≠ w2.heap.size := by omega
        have hne9' : w2.heap.size ≠ wr.heap.size := by omega
        go_wp2_with fail
        refine (c_as P5.H P5.R room P5.sum r1 qq).mono ?_
        rintro e w6 ⟨rfl, hb6⟩
        go_wp2_with fail
        go_roundw
        case rel => exact ⟨k + 1, by omega, by go_num, D', A', c', fr', P5.below hb6⟩
        case measure => simp [intOf]; omega
    · obtain rfl : k = n := by omega
      have c0 := hb9.cell 0 _ rfl
      have c1 := hb9.cell 1 _ rfl
      go_wp2_with fail
      refine (c_as H R room hsum r1 0).mono ?_
      rintro e w6 ⟨rfl, hb6⟩
      go_wp2_with fail
      refine (c_alive _).mono ?_
      rintro e w7 ⟨rfl, hb7⟩
      go_wp2_with fail
      go_ret
      exact ⟨rfl, up_trans hbw (up_trans hb6 hb7)⟩

set_option maxHeartbeats 1000000 in
theorem l_plays (queues room : Int) (A : Option Addr) (n cp : Nat) (L : List Step) (w : World) (hR : RD w (fun _ => True) 3 A n (L.flatMap stepV)) (hn : L.length = n) (hL : ∀ p ∈ L, StepOk p) :
    Calls Try.prog 3 #[.int .i64 queues, .int .i64 room, .slice A n cp] w fun e w' => e = .returned (.bool true) ∧ Below w.heap.size w w' := by
  by_cases hb : 100 < n
  · clear hR hn hL
    go_enter Try.func3, Try.ntmps3
    go_wp2_with (go_at_call 6; refine (c_alive _).mono ?_; rintro e w1 ⟨rfl, hb1⟩)
    go_ret
    exact ⟨rfl, hb1⟩
  · by_cases hok : 1 ≤ queues ∧ queues ≤ 64 ∧ 0 ≤ room ∧ room ≤ 1024
    · obtain ⟨q0, q1, r0, r1⟩ := hok
      obtain ⟨rn, rfl⟩ : ∃ rn : Nat, room = rn := ⟨room.toNat, by omega⟩
      obtain ⟨qn, rfl⟩ : ∃ qn : Nat, queues = qn := ⟨queues.toNat, by omega⟩
      exact l_plays_run qn rn A n cp L w hR hn hL (by omega) (by omega) (by omega) (by omega)
    · have hno : queues < 1 ∨ 64 < queues ∨ room < 0 ∨ 1024 < room := by omega
      have HNo := Lib.hid hno
      have hb' : n ≤ 100 := by omega
      clear hR hn hL hok hno hb
      go_enter Try.func3, Try.ntmps3
      go_wp2_with (first | (go_at_call 7; refine (c_new_no _ _ HNo.out _).mono ?_; rintro e w' ⟨rfl, rfl⟩) | (go_at_call 8; refine (c_rnew_no _ _ HNo.out _).mono ?_; rintro e w1 ⟨rfl, hb1⟩) | (go_at_call 6; refine (c_alive _).mono ?_; rintro e w2 ⟨rfl, hb2⟩))
      go_ret
      exact ⟨rfl, up_trans hb1 (up_trans (up_alloc _ _) hb2)⟩
end Go.Proofs.Ythakcjabeekihaa

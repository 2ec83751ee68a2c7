/- Package choice's told: the choices with which a text begins, one behind the other. -/
import Derived.Test.YtpbjfadandnhaaaPkd
namespace Go.Proofs.Ytpbjfadandnhaaa
open Go.RowKit Go.Shelf
attribute [local go_sem] Oper.semAt_some

set_option maxHeartbeats 1000000 in
theorem c_told (s : ByteArray) (m : Int) (w : World) :
    Calls Try.prog 27 #[.string s, .int .i64 m] w fun e w' => e = .returned (.func (.func 31) #[] #[.pointer (some ⟨w.heap.size + 1, 0, none⟩), .pointer (some ⟨w.heap.size, 0, none⟩)]) ∧ w' = (w.alloc (.cells #[.string s] 9)).alloc (.cells #[.int .i64 m] 3) := by
  go_enter Try.func27, Try.ntmps27
  go_wp2
  go_ret
  exact ⟨rfl, rfl⟩

theorem ex_drop (r : List UInt8) (k : Nat) : (⟨r.toArray⟩ : ByteArray).extract k r.length = ⟨(r.drop k).toArray⟩ := by
  apply ByteArray.ext
  rw [ByteArray.data_extract]
  apply Array.ext'
  rw [Array.toList_extract, List.extract_eq_take_drop]
  simp only [List.take_of_length_le (Nat.le_of_eq (List.length_drop ..))]
set_option maxRecDepth 100000 in
set_option maxHeartbeats 2000000 in
theorem told1_in (n : Nat) (l Bm Bs : Nat) (s : List UInt8) (hs : s.length ≤ 1000000) (m : Nat) (hm : m ≤ 2000) (J Jx : List (CH × Int) → World → Prop)
    (hY : ∀ pre (x : CH × Int) W, J pre W → pre.length < m → YieldAt Fence.wide (n - 1) Try.prog l #[.agg #[.int .i64 x.1.k, .int .i64 x.1.v, .int .i64 x.1.w], .int .i64 x.2] W fun e W' =>
      (e = .returned (.bool true) ∧ J (pre ++ [x]) W' ∧ VKeep Bs W W') ∨ (e = .returned (.bool false) ∧ Jx (pre ++ [x]) W'))
    (W : World) (hJ : ∀ s A B, J s A → Only (· = Bs) A B → (∃ v, Blk B Bs [v] 9) → J s B) (hB : W.cell? ⟨Bm, 0, none⟩ = some (.int .i64 m)) (hS : Blk W Bs [.string ⟨s.toArray⟩] 9) (h0 : J [] W) :
    CallsIn Fence.wide n Try.prog 31 #[.func (.yield l) #[] #[], .pointer (some ⟨Bm, 0, none⟩), .pointer (some ⟨Bs, 0, none⟩)] W fun e W' => (∃ v, e = .returned v) ∧
      (J (chTold m s) W' ∨ (∃ pre, pre <+: chTold m s ∧ Jx pre W')) := by
  generalize hT : chTold m s = T
  have HJ := Lib.hid hJ
  clear hJ
  refine callsIn_of_wp Try.func31 rfl trivial ?_ rfl
  simp only [Try.ntmps31, List.size_toArray, List.length_cons, List.length_nil, Nat.reduceAdd, Nat.reduceSub, Array.replicate_succ, Array.replicate_zero, List.push_toArray, List.append_toArray, List.nil_append, List.cons_append]
  gi_wp2
  gi_loopw [7] (fun i wr => ∃ (k : Nat) (q : List (CH × Int)) (r : List UInt8), k ≤ m ∧ i = .int .i64 k ∧ q.length = k ∧ q ++ chTold (m - k) r = T ∧ r.length ≤ 1000000 ∧ J q wr ∧ Blk wr Bs [.string ⟨r.toArray⟩] 9) (fun i _ => m - (intOf i).toNat)
  case atStart => exact ⟨0, [], s, Nat.zero_le _, rfl, rfl, hT, hs, h0, hS⟩
  case round =>
    obtain ⟨k, q, r, hk, rfl, hq, hTq, hrl, hJq, hBr⟩ := hrel
    by_cases hlt : k < m
    · have hk0 : (0 : Int) ≤ k := by omega
      have hk1 : (k : Int) < m := by omega
      have C1 := Lib.hid (fun W => c_one r hrl W)
      have hone : m - k = (m - k - 1) + 1 := by omega
      rw [hone, told_ne] at hTq
      have HL : Hid (¬ r.length < 3 ∨ (chOne r).2 ≠ 0) := Lib.hid (by
        by_cases h3 : r.length < 3
        · rw [one_short h3]
          exact .inr (by decide)
        · exact .inl h3)
      generalize chOne r = x at C1 hTq HL
      obtain ⟨⟨xk, xv, xw⟩, z⟩ := x
      have HT := Lib.hid hTq
      have HBR := Lib.hid hBr
      have r0 := hBr.cell 0 _ rfl
      have HJQ := Lib.hid hJq
      have HY := Lib.hid hY
      clear hTq hBr hJq hY
      gi_wp2
      refine ⟨trivial, wide_deep', (callsIn_wide.2 (C1.out _)).mono ?_⟩
      rintro e w2 ⟨rfl, hb2⟩
      have hO : Only (· = Bs) wr (w2.alloc (.cells #[.int .i64 xk, .int .i64 xv, .int .i64 xw] 36)) := (Only.of_below hb2).alloc _
      have hB3 := Lib.hid ((HBR.out.up hb2 HBR.out.lt).alloc (.cells #[.int .i64 xk, .int .i64 xv, .int .i64 xw] 36))
      obtain ⟨fn, tmps, assign, body, hy, hRR⟩ := HY.out q (⟨xk, xv, xw⟩, z) _ (HJ.out _ _ _ HJQ.out hO ⟨_, hB3.out⟩) (by omega)
      clear hb2 hO r0
      gi_wp2
      refine ⟨wide_deep', hRR.mono ?_⟩
      rintro e W3 (⟨rfl, hJ3, hk3⟩ | ⟨rfl, hJx3⟩)
      · have hB4 := hk3.blk hB3.out
        have HB4 := Lib.hid hB4
        have HJ3 := Lib.hid hJ3
        have r1 := hB4.cell 0 _ rfl
        have f1 := hB4.free 0
        clear hB3 hB4 hk3 hJ3 hy hRR
        by_cases hz : z = 0
        · subst hz
          have hl3 : ¬ r.length < 3 := HL.out.elim id (fun h => absurd rfl h)
          have i3 : (3 : Int) ≤ r.length := by omega
          have HX := Lib.hid (ex_drop r 3)
          have hr3 : 3 ≤ r.length := by omega
          gi_wp2
          go_roundw
          case rel =>
            rw [HX.out]
            exact ⟨k + 1, q ++ [(⟨xk, xv, xw⟩, 0)], r.drop 3, by omega, by go_num, by rw [List.length_append, hq]; rfl, by
              rw [show m - (k + 1) = m - k - 1 by omega, List.append_assoc]
              exact HT.out, by rw [List.length_drop]; omega, HJ.out _ _ _ HJ3.out ((Only.refl _ _).put 0 _) ⟨_, HB4.out.set 0 _⟩, HB4.out.set 0 _⟩
          case measure => simp [intOf]; omega
        · have hzz : (z == 0) = false := beq_eq_false_iff_ne.2 hz
          have hzn : (z != 0) = true := by simp [hz]
          have hT2 := HT.out
          rw [if_neg hz] at hT2
          gi_wp2
          refine bodyPost_ret (results_none rfl _ _ _) rfl ?_
          exact ⟨⟨_, rfl⟩, .inl (by rw [← hT2]; exact HJ3.out)⟩
      · gi_wp2
        refine bodyPost_ret (results_none rfl _ _ _) rfl ?_
        exact ⟨⟨_, rfl⟩, .inr ⟨q ++ [(⟨xk, xv, xw⟩, z)], ⟨_, by rw [List.append_assoc]; exact HT.out⟩, hJx3⟩⟩
    · obtain rfl : k = m := by omega
      rw [Nat.sub_self, chTold, List.append_nil] at hTq
      subst hTq
      gi_wp2
      go_end0
      exact ⟨⟨_, rfl⟩, .inl hJq⟩
theorem told_seq (n : Nat) (Bm Bs : Nat) (s : List UInt8) (hs : s.length ≤ 1000000) (m : Nat) (hm : m ≤ 2000) (w : World) (hmm : w.cell? ⟨Bm, 0, none⟩ = some (.int .i64 m)) (hS : Blk w Bs [.string ⟨s.toArray⟩] 9) (hBm : Bm < w.heap.size) :
    SeqVar Bs 9 n Try.prog 31 #[.pointer (some ⟨Bm, 0, none⟩), .pointer (some ⟨Bs, 0, none⟩)] (fun x : CH × Int => #[.agg #[.int .i64 x.1.k, .int .i64 x.1.v, .int .i64 x.1.w], .int .i64 x.2]) (chTold m s) m w := fun l J Jx W hW hJ hY h0 =>
  told1_in n l Bm Bs s hs m hm J Jx hY W hJ ((hW.cell (p := ⟨Bm, 0, none⟩) hBm).trans hmm) (hS.up hW hS.lt) h0
end Go.Proofs.Ytpbjfadandnhaaa

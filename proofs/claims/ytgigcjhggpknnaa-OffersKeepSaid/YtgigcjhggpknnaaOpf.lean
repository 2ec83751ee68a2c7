/- Package offers: build, New; a table that nobody made. -/
import Derived.Test.YtgigcjhggpknnaaOpe
namespace Go.Proofs.Ytgigcjhggpknnaa
open Go.RowKit

/-- A new table. -/
def ONewPost (w : World) (n : Nat) (e : Ending) (w' : World) : Prop :=
  ∃ t s a S b, e = .returned (.tuple #[.pointer (some ⟨t, 0, none⟩), .int .i64 0]) ∧ OT w' t s a S b n 0 [] ∧ w.heap.size ≤ S ∧ w.heap.size ≤ b ∧ Below w.heap.size w w'
set_option maxHeartbeats 1000000 in
theorem c_obuild (n : Nat) (h0 : 1 ≤ n) (h1 : n ≤ 1024) (w : World) :
    Calls Try.prog 24 #[.int .i64 (n : Int)] w fun e w' => ∃ s a S b, e = .returned (.tuple #[.pointer (some ⟨s, 0, none⟩), .int .i64 0]) ∧ Blk w' s [.pointer (some ⟨a, 0, none⟩), .pointer (some ⟨b, 0, none⟩)] 73 ∧ AT w' a S 65535 (List.replicate n (0, none)) ∧ PA w' b (List.replicate 16 []) n ∧ w.heap.size ≤ S ∧ w.heap.size ≤ b ∧ Below w.heap.size w w' := by
  have CA := Lib.hid (fun W => a_new n h0 (by omega) 65535 (by omega) (by omega) W)
  have CQ := Lib.hid (fun W => c_new 16 n (by omega) (by omega) h1 W)
  go_enter Try.func24, Try.ntmps24
  go_wp2_with fail
  refine Calls.mono (CA.out _) ?_
  rintro e w1 ⟨a, S, rfl, hA, ha, hS, hb1⟩
  go_wp2_with fail
  refine Calls.mono (CQ.out _) ?_
  rintro e w2 ⟨b, rfl, hP, hb, hb2⟩
  go_wp2_with fail
  go_ret2
  have hs := Blk.new w2 [.pointer (some ⟨a, 0, none⟩), .pointer (some ⟨b, 0, none⟩)] 73
  have up := up_alloc w2 (.cells #[.pointer (some ⟨a, 0, none⟩), .pointer (some ⟨b, 0, none⟩)] 73)
  have hz := hb1.size
  exact ⟨_, a, S, b, rfl, hs, (hA.below hb2).below up, hP.below up, hS, by omega, up_trans (up_trans hb1 hb2) up⟩
set_option maxHeartbeats 1000000 in
theorem c_onew (n : Nat) (h0 : 1 ≤ n) (h1 : n ≤ 1024) (w : World) : Calls Try.prog 7 #[.int .i64 (n : Int)] w (ONewPost w n) := by
  have CB := Lib.hid (c_obuild n h0 h1 w)
  go_enter Try.func7, Try.ntmps7
  go_wp2_with fail
  refine Calls.mono CB.out ?_
  rintro e w1 ⟨s, a, S, b, rfl, hs, hA, hP, hS, hb, hb1⟩
  go_wp2_with fail
  go_ret2
  have ht := Blk.new w1 [.pointer (some ⟨s, 0, none⟩)] 61
  have up := up_alloc w1 (.cells #[.pointer (some ⟨s, 0, none⟩)] 61)
  exact ⟨_, s, a, S, b, rfl, ⟨_, _, n, ht, hs.up up hs.lt, hA.below up, hP.below up, IV.new n, rfl, List.length_replicate, h1⟩, hS, hb, up_trans hb1 up⟩
theorem c_onew_no (room : Int) (h : room < 1 ∨ 1024 < room) (w : World) :
    Calls Try.prog 7 #[.int .i64 room] w fun e w' => e = .returned (.tuple #[.pointer none, .int .i64 1]) ∧ w = w' := by
  by_cases h0 : room < 1
  · clear h
    go_enter Try.func7, Try.ntmps7
    go_wp2
    go_ret2
    exact ⟨rfl, rfl⟩
  · have h4 : 1024 < room := by omega
    clear h
    go_enter Try.func7, Try.ntmps7
    go_wp2
    go_ret2
    exact ⟨rfl, rfl⟩

/-- A table that nobody made: none, or a zero one. -/
def ONobody (w : World) (p : Option Addr) : Prop := p = none ∨ ∃ t, p = some ⟨t, 0, none⟩ ∧ Blk w t [.pointer none] 61
theorem ONobody.below {w w' : World} {p : Option Addr} (h : ONobody w p) (o : Below w.heap.size w w') : ONobody w' p := by
  rcases h with rfl | ⟨t, rfl, hB⟩
  · exact .inl rfl
  · exact .inr ⟨t, rfl, hB.up o hB.lt⟩
section
variable {w : World} {p : Option Addr}
theorem n_onob (h : ONobody w p) : Calls Try.prog 36 #[.pointer p] w fun e w' => e = .returned (.bool true) ∧ w = w' := by
  rcases h with rfl | ⟨t, rfl, hB⟩
  · go_enter Try.func36, Try.ntmps36
    go_wp2
    go_ret
    exact ⟨rfl, rfl⟩
  · have c0 := hB.cell 0 _ rfl
    clear hB
    go_enter Try.func36, Try.ntmps36
    go_wp2
    go_ret
    exact ⟨rfl, rfl⟩
theorem n_olook (h : ONobody w p) (k : Int) : Calls Try.prog 25 #[.pointer p, .int .i64 k] w fun e w' => e = .returned (.int .i64 2) ∧ w = w' := by
  go_enter Try.func25, Try.ntmps25
  go_wp2_with (go_at_call 36; refine (n_onob h).mono ?_; rintro e w' ⟨rfl, rfl⟩)
  go_ret
  exact ⟨rfl, rfl⟩
theorem n_olen (h : ONobody w p) : Calls Try.prog 22 #[.pointer p] w fun e w' => e = .returned (.int .i64 0) ∧ w = w' := by
  go_enter Try.func22, Try.ntmps22
  go_wp2_with (go_at_call 36; refine (n_onob h).mono ?_; rintro e w' ⟨rfl, rfl⟩)
  go_ret
  exact ⟨rfl, rfl⟩
theorem n_ofree (h : ONobody w p) : Calls Try.prog 23 #[.pointer p] w fun e w' => e = .returned (.int .i64 0) ∧ w = w' := by
  go_enter Try.func23, Try.ntmps23
  go_wp2_with (go_at_call 36; refine (n_onob h).mono ?_; rintro e w' ⟨rfl, rfl⟩)
  go_ret
  exact ⟨rfl, rfl⟩
theorem n_oOf (h : ONobody w p) (k : Int) : Calls Try.prog 16 #[.pointer p, .int .i64 k] w fun e w' => e = .returned (.slice none 0 0) ∧ w = w' := by
  go_enter Try.func16, Try.ntmps16
  go_wp2_with (go_at_call 25; refine (n_olook h _).mono ?_; rintro e w' ⟨rfl, rfl⟩)
  go_ret
  exact ⟨rfl, rfl⟩
theorem n_oclr (h : ONobody w p) (k : Int) : Calls Try.prog 9 #[.pointer p, .int .i64 k] w fun e w' => e = .returned (.int .i64 0) ∧ w = w' := by
  go_enter Try.func9, Try.ntmps9
  go_wp2_with (go_at_call 25; refine (n_olook h _).mono ?_; rintro e w' ⟨rfl, rfl⟩)
  go_ret
  exact ⟨rfl, rfl⟩
theorem n_odrp (h : ONobody w p) (k x : Int) : Calls Try.prog 11 #[.pointer p, .int .i64 k, .int .i64 x] w fun e w' => e = .returned (.int .i64 2) ∧ w = w' := by
  go_enter Try.func11, Try.ntmps11
  go_wp2_with (go_at_call 25; refine (n_olook h _).mono ?_; rintro e w' ⟨rfl, rfl⟩)
  go_ret
  exact ⟨rfl, rfl⟩
set_option maxRecDepth 100000 in
theorem n_oOn (h : ONobody w p) (k x : Int) : Calls Try.prog 20 #[.pointer p, .int .i64 k, .int .i64 x] w fun e w' => e = .returned (.slice none 0 0) ∧ w = w' := by
  go_enter Try.func20, Try.ntmps20
  go_wp2
  go_step3
  go_wp2_with (go_at_call 36; refine (n_onob h).mono ?_; rintro e w' ⟨rfl, rfl⟩)
  try rw [Exit.noGoto_ret]
  go_ret
  exact ⟨rfl, rfl⟩
theorem n_opsh (h : ONobody w p) (who gk go gv gr gn : Int) : Calls Try.prog 13 #[.pointer p, .int .i64 who, .agg #[.int .i64 gk, .int .i64 go, .int .i64 gv, .int .i64 gr, .int .i64 gn]] w fun e w' => e = .returned (.int .i64 2) ∧ Below w.heap.size w w' := by
  have up1 := up_alloc w (.cells #[.int .i64 gk, .int .i64 go, .int .i64 gv, .int .i64 gr, .int .i64 gn] 34)
  have C := Lib.hid (n_olook (h.below up1) who)
  have HU := Lib.hid up1
  clear up1
  go_enter Try.func13, Try.ntmps13
  go_wp2_with (go_at_call 25; refine Calls.mono C.out ?_; rintro e w' ⟨rfl, rfl⟩)
  go_ret
  exact ⟨rfl, HU.out⟩
end
end Go.Proofs.Ytgigcjhggpknnaa

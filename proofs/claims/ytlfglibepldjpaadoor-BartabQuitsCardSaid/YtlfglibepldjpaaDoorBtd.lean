/- Package bartab: Enrol, Resign, Fire, each, Leave, Quit, Ready, New, Offer. Package bartab: Ready, New, Offer. -/
import Derived.Test.YtlfglibepldjpaaDoorBta
import Derived.Test.YtlfglibepldjpaaDoorI
import Derived.LoopTactic
import Derived.BigQuiet
namespace Go.Proofs.YtlfglibepldjpaaDoor
open Go.RowKit

/-- What a call gives that answers a table and an error. -/
def TPost (w : World) (n : Nat) (x : List BR × Int) (e : Ending) (w' : World) : Prop :=
  ∃ A' c', e = .returned (.tuple #[.slice A' n c', .int .i64 x.2]) ∧ TW pB w' tt A' n x.1 ∧ Below w.heap.size w w'
def TPost1 (w : World) (n : Nat) (L : List BR) (e : Ending) (w' : World) : Prop :=
  ∃ A' c', e = .returned (.slice A' n c') ∧ TW pB w' tt A' n L ∧ Below w.heap.size w w'
theorem Only.no {w w' : World} (h : Only (fun _ => False) w w') : Below w.heap.size w w' := h.toBelow (Nat.le_refl _) fun _ k => k.elim

set_option maxRecDepth 100000 in
set_option maxHeartbeats 2000000 in
theorem c_tenrol {w : World} {A : Option Addr} {n c : Nat} {L : List BR} (h : TW pB w tt A n L) (hn : n ≤ 100000) (b p : Int) (hT : TabD w) :
    Calls Tryd.prog 19 #[.slice A n c, .int .i64 b, .int .i64 p] w (TPost w n (tOne (brEnrol · p) L b)) := by
  have up := up_alloc w (.cells #[.int .i64 p] 3)
  have K : Blk (w.alloc (.cells #[.int .i64 p] 3)) w.heap.size [.int .i64 p] 3 := Blk.new w [.int .i64 p] 3
  generalize hw1 : w.alloc (.cells #[.int .i64 p] 3) = w1 at up K
  have co := c_one1 (w := w1) (c := c) (h.below up) hn b (F := 52) (.inl rfl) (c1 := .pointer (some ⟨w.heap.size, 0, none⟩)) (fB := (brEnrol · p)) (s := fun _ => False) (X := fun _ _ _ => True) (fun _ h => h.elim)
    (fun n0 q W _ _ hW => (c_enrol1 q p w.heap.size W (hT.up (up_trans up hW)) (K.up hW K.lt)).mono fun e w' h => ⟨h.1, Only.of_below h.2, trivial⟩) (fun _ _ _ _ _ _ _ _ => trivial)
  generalize tOne (brEnrol · p) L b = Rx at co ⊢
  obtain ⟨R, x⟩ := Rx
  have CO := Lib.hid co
  have UP := Lib.hid up
  have HW := Lib.hid hw1
  clear h hT up K co hw1
  go_enter Tryd.func19, Tryd.ntmps19
  go_upto_region 1 with fail
  rw [HW.out]
  go_wp2_with fail
  refine CO.out.mono ?_; rintro e w2 ⟨A', c', rfl, ht, hb, -, -⟩
  have HT2 := Lib.hid ht
  have HB := Lib.hid hb
  clear ht hb
  go_wp2
  go_ret2
  exact ⟨A', c', rfl, HT2.out, up_trans UP.out HB.out.no⟩

set_option maxRecDepth 100000 in
set_option maxHeartbeats 2000000 in
theorem c_tresign {w : World} {A : Option Addr} {n c : Nat} {L : List BR} (h : TW pB w tt A n L) (hn : n ≤ 100000) (b p : Int) (hT : TabD w) :
    Calls Tryd.prog 21 #[.slice A n c, .int .i64 b, .int .i64 p] w (TPost w n (tOne (brResign · p) L b)) := by
  have up := up_alloc w (.cells #[.int .i64 p] 3)
  have K : Blk (w.alloc (.cells #[.int .i64 p] 3)) w.heap.size [.int .i64 p] 3 := Blk.new w [.int .i64 p] 3
  generalize hw1 : w.alloc (.cells #[.int .i64 p] 3) = w1 at up K
  have co := c_one1 (w := w1) (c := c) (h.below up) hn b (F := 55) (.inr (.inl rfl)) (c1 := .pointer (some ⟨w.heap.size, 0, none⟩)) (fB := (brResign · p)) (s := fun _ => False) (X := fun _ _ _ => True) (fun _ h => h.elim)
    (fun n0 q W _ _ hW => (c_resign1 q p w.heap.size W (hT.up (up_trans up hW)) (K.up hW K.lt)).mono fun e w' h => ⟨h.1, Only.of_below h.2, trivial⟩) (fun _ _ _ _ _ _ _ _ => trivial)
  generalize tOne (brResign · p) L b = Rx at co ⊢
  obtain ⟨R, x⟩ := Rx
  have CO := Lib.hid co
  have UP := Lib.hid up
  have HW := Lib.hid hw1
  clear h hT up K co hw1
  go_enter Tryd.func21, Tryd.ntmps21
  go_upto_region 1 with fail
  rw [HW.out]
  go_wp2_with fail
  refine CO.out.mono ?_; rintro e w2 ⟨A', c', rfl, ht, hb, -, -⟩
  have HT2 := Lib.hid ht
  have HB := Lib.hid hb
  clear ht hb
  go_wp2
  go_ret2
  exact ⟨A', c', rfl, HT2.out, up_trans UP.out HB.out.no⟩

def FiPost (w : World) (n : Nat) (x : List BR × Int) (Z : List Int) (e : Ending) (w' : World) : Prop :=
  ∃ A' c' B d, e = .returned (.tuple #[.slice A' n c', .slice B Z.length d, .int .i64 x.2]) ∧ TW pB w' tt A' n x.1 ∧ RD w' tt 1 B Z.length (Z.map (Value.int .i64)) ∧ Below w.heap.size w w'
set_option maxRecDepth 100000 in
set_option maxHeartbeats 2000000 in
theorem c_tfire {w : World} {A : Option Addr} {n c : Nat} {L : List BR} (h : TW pB w tt A n L) (hn : n ≤ 100000) (b : Int) (hT : TabD w) :
    Calls Tryd.prog 23 #[.slice A n c, .int .i64 b] w (FiPost w n (tOne fireF L b) (fireW L b)) := by
  have up := up_alloc w (.cells #[.slice none 0 0] 45)
  have K : Blk (w.alloc (.cells #[.slice none 0 0] 45)) w.heap.size [.slice none 0 0] 45 := Blk.new w [.slice none 0 0] 45
  generalize hw1 : w.alloc (.cells #[.slice none 0 0] 45) = w1 at up K
  have hlt := K.lt
  have co := c_one1 (w := w1) (c := c) (pl := fun k => tt k ∧ k < w.heap.size) (h.lt.below up) hn b (F := 56) (.inr (.inr rfl)) (c1 := .pointer (some ⟨w.heap.size, 0, none⟩)) (fB := fireF) (s := (· = w.heap.size)) (X := fun n0 q W => FireV n0 w.heap.size (brFire q).2.1 W ∧ w1.heap.size ≤ n0)
    (fun k hk => ⟨by omega, fun h => by have := h.2; omega⟩)
    (fun n0 q W hn0 hn1 hW => (c_fire1 q w.heap.size (.slice none 0 0) W (hT.up (up_trans up hW)) (K.up hW K.lt)).mono fun e w' h => ⟨h.1, h.2.2, by
      obtain ⟨B, d, h1, h2⟩ := h.2.1
      exact ⟨⟨B, d, h1, h2.lo (fun k hk => by omega)⟩, hn0⟩⟩)
    (fun n0 q S W W' hS hx ho => by
      obtain ⟨⟨B, d, h1, h2⟩, h3⟩ := hx
      exact ⟨⟨B, d, h1.only ho (fun hk => by have := (hS _ hk).1; omega), h2.only ho (fun k hk hk2 => by have := (hS k hk).2; omega)⟩, h3⟩)
  have HH : ∀ w2, (tIn n b = true → ∃ n0, w1.heap.size ≤ n0 ∧ FireV n0 w.heap.size (brFire (L.getD b.toNat BR.zero)).2.1 w2 ∧ w1.heap.size ≤ n0) → (tIn n b = false → Below w1.heap.size w1 w2) → ∃ B d, w2.cell? ⟨w.heap.size, 0, none⟩ = some (.slice B (fireW L b).length d) ∧ RD w2 tt 1 B (fireW L b).length ((fireW L b).map (Value.int .i64)) := by
    intro w2 h1 h2
    have hl := h.len
    cases hi : tIn n b
    · rw [fireW_no (by rw [hl]; exact hi)]
      exact ⟨none, 0, (K.up (h2 hi) K.lt).cell 0 _ rfl, RD.nil _ _ _ _⟩
    · rw [fireW_at (by rw [hl]; exact hi)]
      obtain ⟨n0, _, ⟨B, d, h3, h4⟩, _⟩ := h1 hi
      exact ⟨B, d, h3.cell 0 _ rfl, h4.lo (fun _ _ => trivial)⟩
  generalize tOne fireF L b = Rx at co ⊢
  generalize fireW L b = Z at HH ⊢
  obtain ⟨R, x⟩ := Rx
  have CO := Lib.hid co
  have UP := Lib.hid up
  have HW := Lib.hid hw1
  have HH := Lib.hid HH
  clear h hT up K co hw1 hlt
  go_enter Tryd.func23, Tryd.ntmps23
  go_upto_region 2 with fail
  rw [HW.out]
  go_wp2_with fail
  refine CO.out.mono ?_; rintro e w2 ⟨A', c', rfl, ht, hb, hx, hy⟩
  obtain ⟨B, d, hc, hr⟩ := HH.out w2 hx hy
  have HT2 := Lib.hid ht
  have HB := Lib.hid hb
  have HR := Lib.hid hr
  clear ht hb hx hy hr
  go_wp2_with fail
  go_quiet (fail)
  go_wp2
  go_ret3
  exact ⟨A', c', B, d, rfl, HT2.out.below (up_drewN _ _), HR.out.below (up_drewN _ _), (UP.out.trans (HB.out.toBelow UP.out.size (fun k hk => by omega))).trans ((up_drewN _ _).mono (Nat.le_trans UP.out.size HB.out.size))⟩

set_option maxRecDepth 100000 in
set_option maxHeartbeats 4000000 in
theorem c_each {w : World} {A : Option Addr} {n c : Nat} {L : List BR} (h : TW pB w tt A n L) (hn : n ≤ 100000) {F : FuncId} (hF : F = 45 ∨ F = 48) {c1 : Value} {f : BR → BR}
    (CB : ∀ q W, Below w.heap.size w W → Calls Tryd.prog F #[.agg (brC q).toArray, c1] W fun e w' => e = .returned (.agg (brC (f q)).toArray) ∧ Below W.heap.size W w') :
    Calls Tryd.prog 44 #[.slice A n c, .func (.func F) #[] #[c1]] w (TPost1 w n (L.map f)) := by
  have CC := Lib.hid (c_bclone (c := c) h hn)
  have HL := Lib.hid h.len
  have CB := Lib.hid CB
  clear h
  rcases hF with rfl | rfl
  all_goals
    go_enter Tryd.func44, Tryd.ntmps44
    go_wp2_with fail
    refine CC.out.mono ?_; rintro e w1 ⟨v1, rfl, ho1, hb1⟩
    obtain ⟨A1, c1', hv1, _⟩ := ho1.tw
    subst hv1
    have HO := Lib.hid ho1
    have HB := Lib.hid hb1
    clear ho1 hb1
    go_wp2_with fail
    go_loopw [12] (fun i wr => ∃ k : Nat, k ≤ n ∧ i = .int .i64 k ∧ OT pB wr 66 w.heap.size (.slice A1 n c1') n ((L.take k).map f ++ L.drop k) ∧ Below w.heap.size w wr) (fun i _ => n - (intOf i).toNat)
    case atStart => exact ⟨0, Nat.zero_le _, rfl, HO.out, HB.out⟩
    case round =>
      obtain ⟨k, hk, rfl, ho, hbw⟩ := hrel
      by_cases hlt : k < n
      · have hkC : k < L.length := by rw [HL.out]; exact hlt
        obtain ⟨g, c2, q, hv, hlo, hgt, hq, hrg, _, _⟩ := ho.at_ k hlt
        injection hv with hv1 hv2 hv3
        subst hv1
        subst hv3
        clear hv2
        have hqe : q = L[k] := by
          rw [mapto_at f L k hkC] at hq
          injection hq with hq
          exact hq.symm
        have HNX : Hid (((L.take k).map f ++ L.drop k).set k (f q) = (L.take (k + 1)).map f ++ L.drop (k + 1)) := Lib.hid (by rw [hqe]; exact mapto_next f L k hkC)
        have HRG : Hid (wr.rangeAt g (k * 11) (brC q)) := Lib.hid hrg
        have HO1 := Lib.hid ho
        have HB1 := Lib.hid hbw
        have HLO := Lib.hid hlo
        have K := Lib.hid (Blk.new wr (brC q) 66)
        have CL := Lib.hid (CB.out q (wr.alloc (.cells (brC q).toArray 66)) (up_trans hbw (up_alloc _ _)))
        obtain ⟨R, hR⟩ : ∃ R, f q = R := ⟨_, rfl⟩
        rw [hR] at CL HNX
        clear hqe ho hbw hq hrg hgt hlo hR hkC
        go_wp2_with (first | (refine lmr (b := g) (q := k * 11) (cs := brC q) (.tmp 15) rfl rfl Tryd.underlying66 rfl info_bar rfl ?_ ?_; (· exact HRG.out)) | (refine snr (W := wr) (cs := brC q) (zs := brZ) (t := 66) (.tmp 7) (.tmp 16) rfl rfl rfl rfl info_bar rfl brC_one ?_ ?_ ?_; (· rfl); (· rfl)) | (refine ldr (b := wr.heap.size) (t := 66) (cs := brC q) (.tmp 7) rfl rfl Tryd.underlying66 rfl info_bar rfl ?_ ?_; (· exact K.out)))
        refine CL.out.mono ?_; rintro e w2 ⟨rfl, hb2⟩
        have hb3 := up_trans (up_alloc wr (.cells (brC q).toArray 66)) hb2
        have ho2 := HO1.out.below hb3
        have HTH : Hid (w2.there g (k * 11) (brC R).length) := Lib.hid (ho2.th k hlt)
        have HP := Lib.hid (ho2.put k hlt R trivial)
        have HB3 := Lib.hid hb3
        clear hb2 hb3 ho2
        go_wp2_with (refine smr (b := g) (q := k * 11) (cs := brC R) (.tmp 22) (.tmp 21) rfl rfl rfl rfl info_bar brC_one ?_ ?_; (· exact HTH.out))
        go_roundw
        case rel =>
          refine ⟨k + 1, by omega, by go_num, ?_, Only.later (up_trans HB1.out HB3.out) (only_cells _ _ _) (by rintro i rfl; exact HLO.out)⟩
          rw [← HNX.out]
          exact HP.out
        case measure => simp [intOf]; omega
      · obtain rfl : k = n := by omega
        have HO1 : Hid (OT pB wr 66 w.heap.size (.slice A1 k c1') k (L.map f)) := Lib.hid (by
          have h1 := ho
          rw [List.take_of_length_le (by rw [HL.out]; exact Nat.le_refl _), List.drop_of_length_le (by rw [HL.out]; exact Nat.le_refl _), List.append_nil] at h1
          exact h1)
        have HB1 := Lib.hid hbw
        clear ho hbw
        go_wp2
        go_ret
        obtain ⟨A', c', e', ht⟩ := HO1.out.tw
        exact ⟨A', c', congrArg Ending.returned e', ht, HB1.out⟩

set_option maxRecDepth 100000 in
set_option maxHeartbeats 2000000 in
theorem c_tleave {w : World} {A : Option Addr} {n c : Nat} {L : List BR} (h : TW pB w tt A n L) (hn : n ≤ 100000) (p : Int) (hT : TabD w) :
    Calls Tryd.prog 15 #[.slice A n c, .int .i64 p] w (TPost1 w n (tLeave L p)) := by
  have up := up_alloc w (.cells #[.int .i64 p] 3)
  have K : Blk (w.alloc (.cells #[.int .i64 p] 3)) w.heap.size [.int .i64 p] 3 := Blk.new w [.int .i64 p] 3
  generalize hw1 : w.alloc (.cells #[.int .i64 p] 3) = w1 at up K
  have co := c_each (w := w1) (c := c) (h.below up) hn (F := 45) (.inl rfl) (c1 := .pointer (some ⟨w.heap.size, 0, none⟩)) (fun q W hW => c_leave1 q p w.heap.size W (hT.up (up_trans up hW)) (K.up hW K.lt))
  have co : Calls Tryd.prog 44 #[.slice A n c, .func (.func 45) #[] #[.pointer (some ⟨w.heap.size, 0, none⟩)]] w1 (TPost1 w1 n (tLeave L p)) := co
  generalize tLeave L p = R at co ⊢
  have CO := Lib.hid co
  have UP := Lib.hid up
  have HW := Lib.hid hw1
  clear h hT up K co hw1
  go_enter Tryd.func15, Tryd.ntmps15
  go_upto_region 1 with fail
  rw [HW.out]
  go_wp2_with fail
  refine CO.out.mono ?_; rintro e w2 ⟨A', c', rfl, ht, hb⟩
  have HT2 := Lib.hid ht
  have HB := Lib.hid hb
  clear ht hb
  go_wp2
  go_ret
  exact ⟨A', c', rfl, HT2.out, up_trans UP.out HB.out⟩

set_option maxRecDepth 100000 in
set_option maxHeartbeats 2000000 in
theorem c_tquit {w : World} {A : Option Addr} {n c : Nat} {L : List BR} (h : TW pB w tt A n L) (hn : n ≤ 100000) (p : Int) (hT : TabD w) :
    Calls Tryd.prog 17 #[.slice A n c, .int .i64 p] w (TPost1 w n (tQuit L p)) := by
  have up := up_alloc w (.cells #[.int .i64 p] 3)
  have K : Blk (w.alloc (.cells #[.int .i64 p] 3)) w.heap.size [.int .i64 p] 3 := Blk.new w [.int .i64 p] 3
  generalize hw1 : w.alloc (.cells #[.int .i64 p] 3) = w1 at up K
  have co := c_each (w := w1) (c := c) (h.below up) hn (F := 48) (.inr rfl) (c1 := .pointer (some ⟨w.heap.size, 0, none⟩)) (fun q W hW => c_quit1 q p w.heap.size W (hT.up (up_trans up hW)) (K.up hW K.lt))
  have co : Calls Tryd.prog 44 #[.slice A n c, .func (.func 48) #[] #[.pointer (some ⟨w.heap.size, 0, none⟩)]] w1 (TPost1 w1 n (tQuit L p)) := co
  generalize tQuit L p = R at co ⊢
  have CO := Lib.hid co
  have UP := Lib.hid up
  have HW := Lib.hid hw1
  clear h hT up K co hw1
  go_enter Tryd.func17, Tryd.ntmps17
  go_upto_region 1 with fail
  rw [HW.out]
  go_wp2_with fail
  refine CO.out.mono ?_; rintro e w2 ⟨A', c', rfl, ht, hb⟩
  have HT2 := Lib.hid ht
  have HB := Lib.hid hb
  clear ht hb
  go_wp2
  go_ret
  exact ⟨A', c', rfl, HT2.out, up_trans UP.out HB.out⟩

end Go.Proofs.YtlfglibepldjpaaDoor

namespace Go.Proofs.YtlfglibepldjpaaDoor
open Go.RowKit

theorem rdy_next {L : List BR} {k : Nat} {q : BR} (h : L[k]? = some q) : rdyL 0 (L.take (k + 1)) = rdyL 0 (L.take k) ++ (if brReady q = true then [(k : Int)] else []) := by
  have e : 0 + (L.take k).length = k := by rw [List.length_take]; have := lt_at h; omega
  rw [List.take_add_one, h]
  show rdyL 0 (L.take k ++ [q]) = _
  rw [rdyL_snoc, e]
set_option maxRecDepth 100000 in
set_option maxHeartbeats 4000000 in
theorem c_tready {w : World} {A : Option Addr} {n c : Nat} {L : List BR} (h : TW pB w tt A n L) (hn : n ≤ 100000) (hT : TabD w) :
    Calls Tryd.prog 26 #[.slice A n c] w (IntsPost w (rdyL 0 L)) := by
  have HT := Lib.hid h
  have HL := Lib.hid h.len
  have CR := Lib.hid (fun q W (hW : Below w.heap.size w W) => c_brready q W (hT.up hW))
  clear h hT
  go_enter Tryd.func26, Tryd.ntmps26
  go_wp2_with fail
  go_loopw [3, 8] (fun s i wr => ∃ k : Nat, k ≤ n ∧ i = .int .i64 k ∧ wr.ownsRow w.heap.size 3 1 s (rdyL 0 (L.take k)).length ((rdyL 0 (L.take k)).map (Value.int .i64)) ∧ Below w.heap.size w wr) (fun _ i _ => n - (intOf i).toNat)
  case atStart => exact ⟨0, Nat.zero_le _, rfl, World.ownsRow_nil _ _ _ _, Below.refl _ _⟩
  case round =>
    obtain ⟨k, hk, rfl, hown, hbw⟩ := hrel
    by_cases hlt : k < n
    · obtain ⟨b, o, q, rfl, _, _, hq, hrg, _⟩ := (HT.out.below hbw).at_ k hlt
      have HRG : Hid (wr.rangeAt b (o + k * 11) (brC q)) := Lib.hid hrg
      have HO := Lib.hid hown
      have HB := Lib.hid hbw
      have K := Lib.hid (Blk.new wr (brC q) 66)
      have CH := Lib.hid (CR.out q (wr.alloc (.cells (brC q).toArray 66)) (up_trans hbw (up_alloc _ _)))
      have HS := Lib.hid (rdy_next hq)
      have HZ := Lib.hid (rdyL_len (L.take k) 0)
      have HZ2 : Hid ((L.take k).length ≤ k) := Lib.hid (by rw [List.length_take]; omega)
      clear hq hrg hown hbw
      cases hh : brReady q
      · rw [hh] at CH
        have HS2 : Hid (rdyL 0 (L.take (k + 1)) = rdyL 0 (L.take k)) := Lib.hid (by rw [HS.out, if_neg (by rw [hh]; decide), List.append_nil])
        clear hh HS
        go_wp2_with (first | (refine lmr (b := b) (q := o + k * 11) (cs := brC q) (.tmp 11) rfl rfl Tryd.underlying66 rfl info_bar rfl ?_ ?_; (· exact HRG.out)) | (refine snr (W := wr) (cs := brC q) (zs := brZ) (t := 66) (.tmp 5) (.tmp 12) rfl rfl rfl rfl info_bar rfl brC_one ?_ ?_ ?_; (· rfl); (· rfl)) | (refine ldr (b := wr.heap.size) (t := 66) (cs := brC q) (.tmp 5) rfl rfl Tryd.underlying66 rfl info_bar rfl ?_ ?_; (· exact K.out)))
        refine CH.out.mono ?_; rintro e w2 ⟨rfl, hb2⟩
        have HB2 := Lib.hid (up_trans (up_alloc wr (.cells (brC q).toArray 66)) hb2)
        clear hb2
        go_wp2_with fail
        go_roundw
        case rel => exact ⟨k + 1, by omega, by go_num, by rw [HS2.out]; exact own_below HO.out HB2.out, up_trans HB.out HB2.out⟩
        case measure => simp [intOf]; omega
      · rw [hh] at CH
        have HS2 : Hid (rdyL 0 (L.take (k + 1)) = rdyL 0 (L.take k) ++ [(k : Int)]) := Lib.hid (by rw [HS.out, if_pos hh])
        clear hh HS
        go_wp2_with (first | (refine lmr (b := b) (q := o + k * 11) (cs := brC q) (.tmp 11) rfl rfl Tryd.underlying66 rfl info_bar rfl ?_ ?_; (· exact HRG.out)) | (refine snr (W := wr) (cs := brC q) (zs := brZ) (t := 66) (.tmp 5) (.tmp 12) rfl rfl rfl rfl info_bar rfl brC_one ?_ ?_ ?_; (· rfl); (· rfl)) | (refine ldr (b := wr.heap.size) (t := 66) (cs := brC q) (.tmp 5) rfl rfl Tryd.underlying66 rfl info_bar rfl ?_ ?_; (· exact K.out)))
        refine CH.out.mono ?_; rintro e w2 ⟨rfl, hb2⟩
        have hb3 := up_trans (up_alloc wr (.cells (brC q).toArray 66)) hb2
        have HB3 := Lib.hid hb3
        have HO3 := Lib.hid (own_below (own_below HO.out hb3) (up_alloc w2 (.cells #[.int .i64 (k : Int)] 3)))
        have HY : Hid (w.heap.size ≤ (w2.alloc (.cells #[.int .i64 (k : Int)] 3)).heap.size) := Lib.hid (by have h1 := HB.out.size; have h2 := hb3.size; simp; omega)
        clear hb2 hb3
        go_wp2_with (at_builtin; refine wpList_app ei_int rfl (.tmp 15) (.tmp 17) rfl _ _ rfl HO3.out rfl (RD.one rfl) (by simp [Value.oneCell']) (by have := HZ.out; have := HZ2.out; omega) HY.out ?_; intro v4 w4 hown4 hb4; have HO4 := Lib.hid hown4; have HB4 := Lib.hid hb4; clear hown4 hb4)
        go_roundw
        case rel => exact ⟨k + 1, by omega, by go_num, by rw [HS2.out, List.map_append, List.length_append]; exact HO4.out, (up_trans HB.out (up_trans HB3.out (up_alloc _ _))).trans HB4.out⟩
        case measure => simp [intOf]; omega
    · obtain rfl : k = n := by omega
      have HO := Lib.hid hown
      have HB := Lib.hid hbw
      have HS : Hid (L.take k = L) := Lib.hid (List.take_of_length_le (by rw [HL.out]; exact Nat.le_refl _))
      clear hown hbw
      go_wp2
      go_ret
      have h1 := HO.out
      rw [HS.out] at h1
      exact IntsPost.of h1 HB.out

/-- What New answers. -/
def NwPost (w : World) (l : List CB) (e : Ending) (w' : World) : Prop :=
  ∃ A' n' c', e = .returned (.tuple #[.slice A' n' c', .int .i64 ((nwR l).1 : Nat), .int .i64 (nwR l).2]) ∧ TW pB w' tt A' n' (nwL l) ∧ Below w.heap.size w w'
theorem bt_made (n : Nat) : (madeCells (Value.agg brZ.toArray).cells (n * 11)).toList = (List.replicate n BR.zero).flatMap brC := by
  rw [made_list _ 11 rfl, List.flatMap_def, List.map_replicate]
  rfl
set_option maxRecDepth 100000 in
theorem info_cb : (Tryd.prog.info? 59).map (·.size) = some 2 := by kernel_rfl
set_option maxRecDepth 100000 in
set_option maxHeartbeats 4000000 in
theorem c_tnew {w : World} {pl : Nat → Prop} {A : Option Addr} {n c : Nat} {l : List CB} (hR : RD w pl 2 A n (l.flatMap cbC)) (hl : l.length = n) :
    Calls Tryd.prog 28 #[.slice A n c] w (NwPost w l) := by
  have HR := Lib.hid hR
  have HL := Lib.hid hl
  by_cases h8 : (8 : Int) < n
  · have e1 : Hid (nwR l = (8, 5)) := Lib.hid (by unfold nwR; rw [if_pos (by omega)])
    have e2 : Hid (nwL l = []) := Lib.hid (by unfold nwL; rw [e1.out]; rfl)
    clear hR hl
    go_enter Tryd.func28, Tryd.ntmps28
    go_wp2
    go_ret3
    refine ⟨none, 0, 0, by rw [e1.out]; rfl, by rw [e2.out]; exact TW.none _ _ _, Below.refl _ _⟩
  · have HE : Hid (nwR l = nwRun 0 l) := Lib.hid (by unfold nwR; rw [if_neg (by omega)])
    have hmk := fun W => run_mk ei_bt n (by omega) W
    have hM := bt_made n
    generalize madeCells (Value.agg brZ.toArray).cells (n * 11) = cs at hmk hM
    have H0 : Hid (OT pB (w.alloc (.cells cs 66)) 66 w.heap.size (.slice (some ⟨w.heap.size, 0, none⟩) n n) n (nwQ l 0)) := Lib.hid (by
      have hq : nwQ l 0 = List.replicate n BR.zero := by unfold nwQ; rw [hl]; simp
      have hlen : cs.size = n * 11 := by
        have := congrArg List.length hM
        rw [flatN brC 11 (fun _ => rfl), List.length_replicate] at this
        simpa using this
      refine ⟨⟨by rw [hq, flatN pB.f pB.m pB.len, List.length_replicate], .inr ⟨w.heap.size, n, cs, rfl, Nat.le_refl _, by have := Blk.new w cs.toList 66; unfold Blk at this; rwa [Array.toArray_toList] at this, Nat.le_refl _, by unfold maxLen; omega, hlen, ?_⟩⟩, fun _ _ => trivial⟩
      rw [hM, hq, List.take_of_length_le]
      · rfl
      · rw [flatN brC 11 (fun _ => rfl), List.length_replicate]
        exact Nat.le_refl _)
    clear hR hl hM
    go_enter Tryd.func28, Tryd.ntmps28
    go_wp2_with fail
    go_loopw [18] (fun i wr => ∃ k : Nat, k ≤ n ∧ i = .int .i64 k ∧ nwRun 0 l = nwRun k (l.drop k) ∧ OT pB wr 66 w.heap.size (.slice (some ⟨w.heap.size, 0, none⟩) n n) n (nwQ l k) ∧ Below w.heap.size w wr) (fun i _ => n - (intOf i).toNat)
    case atStart => exact ⟨0, Nat.zero_le _, rfl, rfl, H0.out, up_alloc _ _⟩
    case round =>
      obtain ⟨k, hk, rfl, hrun, ho, hbw⟩ := hrel
      by_cases hlt : k < n
      · have hkl : k < l.length := by rw [HL.out]; exact hlt
        obtain ⟨b, o, rfl, _, hbl, hrg⟩ := RD.row' cbC_len (HR.out.below hbw) (List.getElem?_eq_getElem hkl) hlt
        have hdr : l.drop k = l[k] :: l.drop (k + 1) := List.drop_eq_getElem_cons hkl
        have hnx := nwQ_next l k hkl
        generalize l[k] = cf at hrg hdr hnx
        have HRG := Lib.hid hrg
        have HDR := Lib.hid hdr
        have HRN := Lib.hid hrun
        have HO := Lib.hid ho
        have HB := Lib.hid hbw
        have HBX := Lib.hid (Blk.new wr (cbC cf) 59)
        have CN := Lib.hid (fun W => c_brnew cf.1 cf.2 W)
        obtain ⟨x, hx⟩ : ∃ x, brChk cf.2 = x := ⟨_, rfl⟩
        obtain ⟨N, hN⟩ : ∃ N, brNew cf.1 cf.2 = N := ⟨_, rfl⟩
        rw [hx, hN] at CN
        have hnx' : (nwQ l k).set k N = nwQ l (k + 1) := by rw [← hN]; exact hnx
        have HNX := Lib.hid hnx'
        have HX := Lib.hid hx
        clear hrg hdr hnx hnx' hrun ho hbw hbl hkl hx hN
        go_wp2_with (first | (refine lmr (b := b) (q := o + k * 2) (cs := cbC cf) (.tmp 21) rfl rfl Tryd.underlying59 rfl info_cb rfl ?_ ?_; (· exact HRG.out)) | (refine snr (W := wr) (cs := cbC cf) (zs := [.bool false, .int .i64 0]) (t := 59) (.tmp 7) (.tmp 22) rfl rfl rfl rfl info_cb rfl (cbC_one cf) ?_ ?_ ?_; (· rfl); (· rfl)) | (refine ldr (b := wr.heap.size) (t := 59) (cs := cbC cf) (.tmp 7) rfl rfl Tryd.underlying59 rfl info_cb rfl ?_ ?_; (· exact HBX.out)))
        refine (CN.out _).mono ?_; rintro e w2 ⟨rfl, hb2⟩
        have hb3 := up_trans (up_trans (up_alloc wr (.cells (cbC cf).toArray 59)) hb2) (up_alloc w2 (.cells (brC N).toArray 66))
        have HB3 := Lib.hid hb3
        have HBY := Lib.hid (Blk.new w2 (brC N) 66)
        have HO3 := Lib.hid (HO.out.below hb3)
        have HTH : Hid ((w2.alloc (.cells (brC N).toArray 66)).there w.heap.size (k * 11) (brC N).length) := Lib.hid (HO3.out.th k hlt)
        clear hb2 hb3
        by_cases h0 : x = 0
        · subst h0
          have HN0 : Hid (nwRun 0 l = nwRun (k + 1) (l.drop (k + 1))) := Lib.hid (by rw [HRN.out, HDR.out, nwRun_step HX.out])
          go_wp2_with (first | (refine snr (W := w2) (cs := brC N) (zs := brZ) (t := 66) (.tmp 8) (.tmp 26) rfl rfl rfl rfl info_bar rfl brC_one ?_ ?_ ?_; (· rfl); (· rfl)) | (refine ldr (b := w2.heap.size) (t := 66) (cs := brC N) (.tmp 8) rfl rfl Tryd.underlying66 rfl info_bar rfl ?_ ?_; (· exact HBY.out)) | (refine smr (b := w.heap.size) (q := k * 11) (cs := brC N) (.tmp 35) (.tmp 34) rfl rfl rfl rfl info_bar brC_one ?_ ?_; (· exact HTH.out)))
          go_roundw
          case rel =>
            refine ⟨k + 1, by omega, by go_num, HN0.out, ?_, Only.later (up_trans HB.out HB3.out) (only_cells _ _ _) (by rintro i rfl; exact Nat.le_refl _)⟩
            rw [← HNX.out]
            exact HO3.out.put k hlt N trivial
          case measure => simp [intOf]; omega
        · have hx1 : (x != 0) = true := by simp [bne, h0]
          have HRR : Hid (nwR l = (k, x)) := Lib.hid (by
            rw [HE.out, HRN.out, HDR.out, nwRun_stop (by rw [HX.out]; exact h0), HX.out])
          have HLL : Hid (nwL l = []) := Lib.hid (by unfold nwL; rw [HRR.out, if_neg h0])
          clear h0
          go_wp2_with (refine snr (W := w2) (cs := brC N) (zs := brZ) (t := 66) (.tmp 8) (.tmp 26) rfl rfl rfl rfl info_bar rfl brC_one ?_ ?_ ?_; (· rfl); (· rfl))
          go_ret3
          exact ⟨none, 0, 0, by rw [HRR.out]; rfl, by rw [HLL.out]; exact TW.none _ _ _, up_trans HB.out HB3.out⟩
      · obtain rfl : k = n := by omega
        have HRR : Hid (nwR l = (0, 0)) := Lib.hid (by rw [HE.out, hrun, List.drop_of_length_le (by rw [HL.out]; exact Nat.le_refl _)]; rfl)
        have HLL : Hid (nwQ l k = nwL l) := Lib.hid (by
          unfold nwL nwQ
          rw [HRR.out, if_pos rfl, List.take_of_length_le (by rw [HL.out]; exact Nat.le_refl _), HL.out, Nat.sub_self, List.replicate_zero, List.append_nil])
        have HO := Lib.hid ho
        have HB := Lib.hid hbw
        clear hrun ho hbw
        go_wp2
        go_ret3
        obtain ⟨A', c', e', htb⟩ := HO.out.tw
        injection e' with e1 e2 e3
        subst e1 e3
        exact ⟨_, _, _, by rw [HRR.out]; rfl, by rw [← HLL.out]; exact htb, HB.out⟩

/-- What Offer answers. -/
def OfPost (w : World) (n : Nat) (x : List BR × Nat × Int) (e : Ending) (w' : World) : Prop :=
  ∃ A' c', e = .returned (.tuple #[.slice A' n c', .int .i64 (x.2.1 : Nat), .int .i64 x.2.2]) ∧ TW pB w' tt A' n x.1 ∧ Below w.heap.size w w'
set_option maxRecDepth 100000 in
theorem info_gd : (Tryd.prog.info? 76).map (·.size) = some 5 := by kernel_rfl
set_option maxRecDepth 100000 in
set_option maxHeartbeats 4000000 in
theorem c_toffer {w : World} {pl : Nat → Prop} {A G : Option Addr} {n c m d : Nat} {L : List BR} {gs : List GD} (h : TW pB w tt A n L) (hn : n ≤ 100000) (hG : RD w pl 5 G m (gs.flatMap gdC)) (hm : gs.length = m) (hm2 : m ≤ 100000) (p : Int) (al : Bool) (hT : TabD w) :
    Calls Tryd.prog 11 #[.slice A n c, .int .i64 p, .slice G m d, .bool al] w (OfPost w n (offR p al L L 0 gs)) := by
  have up := up_trans (up_alloc w (.cells #[.int .i64 p] 3)) (up_alloc (w.alloc (.cells #[.int .i64 p] 3)) (.cells #[.bool al] 4))
  have K1 : Blk ((w.alloc (.cells #[.int .i64 p] 3)).alloc (.cells #[.bool al] 4)) w.heap.size [.int .i64 p] 3 := (Blk.new w [.int .i64 p] 3).alloc _
  have K2 : Blk ((w.alloc (.cells #[.int .i64 p] 3)).alloc (.cells #[.bool al] 4)) (w.heap.size + 1) [.bool al] 4 := by
    have := Blk.new (w.alloc (.cells #[.int .i64 p] 3)) [.bool al] 4
    rwa [show (w.alloc (.cells #[.int .i64 p] 3)).heap.size = w.heap.size + 1 by simp] at this
  generalize hw1 : (w.alloc (.cells #[.int .i64 p] 3)).alloc (.cells #[.bool al] 4) = w1 at up K1 K2
  have CC := Lib.hid (c_bclone (c := c) (h.below up) hn)
  have CH := Lib.hid (fun (W : World) (v : Value) (Lk : List BR) (b : Int) (hW : Below w1.heap.size w1 W) (ho : OT pB W 66 w1.heap.size v n Lk) =>
    c_change2 ho b (F := 36) rfl (c1 := .pointer (some ⟨w.heap.size, 0, none⟩)) (c2 := .pointer (some ⟨w.heap.size + 1, 0, none⟩)) (fB := (brOffer · p al)) (s := fun _ => False) (X := fun _ _ => True) (fun _ h => h.elim)
      (fun q W2 hW2 => (c_offer1 q p w.heap.size al (w.heap.size + 1) W2 (hT.up (up_trans up (up_trans hW hW2))) (K1.up (up_trans hW hW2) K1.lt) (K2.up (up_trans hW hW2) K2.lt)).mono fun e w' h => ⟨h.1, Only.of_below h.2, trivial⟩) (fun _ _ _ _ _ => trivial))
  have HT := Lib.hid (h.below up)
  have HG := Lib.hid (hG.below up)
  have HM := Lib.hid hm
  have UP := Lib.hid up
  have HW := Lib.hid hw1
  have HREF := Lib.hid (offR_refused p al L gs L 0)
  obtain ⟨r, hr⟩ : ∃ r, offR p al L L 0 gs = r := ⟨_, rfl⟩
  have HR := Lib.hid hr
  rw [hr]
  clear h hG hT hm up K1 K2 hw1 hr HREF
  go_enter Tryd.func11, Tryd.ntmps11
  go_upto_region 1 with fail
  rw [HW.out]
  go_wp2_with fail
  refine CC.out.mono ?_; rintro e w2 ⟨v, rfl, ho, hb⟩
  obtain ⟨A1, c1, rfl, _⟩ := ho.tw
  have HO := Lib.hid ho
  have HB := Lib.hid hb
  clear ho hb
  go_wp2_with fail
  go_loopw [21] (fun i wr => ∃ k : Nat, k ≤ m ∧ i = .int .i64 k ∧ ∃ Lk, offR p al L Lk k (gs.drop k) = r ∧ OT pB wr 66 w1.heap.size (.slice A1 n c1) n Lk ∧ Below w1.heap.size w1 wr) (fun i _ => m - (intOf i).toNat)
  case atStart => exact ⟨0, Nat.zero_le _, rfl, L, HR.out, HO.out, HB.out⟩
  case round =>
    obtain ⟨k, hk, rfl, Lk, hrun, ho, hbw⟩ := hrel
    by_cases hlt : k < m
    · have hkl : k < gs.length := by rw [HM.out]; exact hlt
      obtain ⟨b, o, rfl, _, hbl, hrg⟩ := RD.row' gdC_len (HG.out.below hbw) (List.getElem?_eq_getElem hkl) hlt
      have hdr : gs.drop k = gs[k] :: gs.drop (k + 1) := List.drop_eq_getElem_cons hkl
      generalize gs[k] = g at hrg hdr
      rw [hdr] at hrun
      have HRG := Lib.hid hrg
      have HRN := Lib.hid hrun
      have HB := Lib.hid hbw
      have hbx : Blk (wr.alloc (.cells (gdC g).toArray 76)) wr.heap.size (gdC g) 76 := Blk.new wr (gdC g) 76
      have c0 : (wr.alloc (.cells (gdC g).toArray 76)).cell? ⟨wr.heap.size, 0, none⟩ = some (.int .i64 g.k) := hbx.cell 0 _ rfl
      have c1' : (wr.alloc (.cells (gdC g).toArray 76)).cell? ⟨wr.heap.size, 1, none⟩ = some (.int .i64 g.o) := hbx.cell 1 _ rfl
      have hq := up_alloc wr (.cells (gdC g).toArray 76)
      have HQ := Lib.hid hq
      have ho2 := ho.below hq
      have HO2 := Lib.hid ho2
      by_cases h3 : g.k = 3
      · have g3 : (g.k != 3) = false := by rw [h3]; rfl
        have cg := CH.out _ _ Lk g.o (up_trans hbw hq) ho2
        obtain ⟨L2, x, hx⟩ : ∃ L2 x, tOne (brOffer · p al) Lk g.o = (L2, x) := ⟨_, _, rfl⟩
        rw [hx] at cg
        have CG := Lib.hid cg
        have HX := Lib.hid hx
        have H3 := Lib.hid h3
        clear hrg hdr hrun ho hbw hbl hkl hbx hq ho2 cg hx h3
        go_wp2_with (first | (refine lmr (b := b) (q := o + k * 5) (cs := gdC g) (.tmp 24) rfl rfl Tryd.underlying76 rfl info_gd rfl ?_ ?_; (· exact HRG.out)) | (refine snr (W := wr) (cs := gdC g) (zs := [.int .i64 0, .int .i64 0, .int .i64 0, .int .i64 0, .int .i64 0]) (t := 76) (.tmp 14) (.tmp 25) rfl rfl rfl rfl info_gd rfl (gdC_one g) ?_ ?_ ?_; (· rfl); (· rfl)))
        refine CG.out.mono ?_; rintro e w3 ⟨rfl, ho3, hon, -, -⟩
        have hb3 : Below w1.heap.size w1 w3 := Only.later (up_trans HB.out HQ.out) hon (fun i hi => hi.elim (fun h => h.elim) (fun h => (HO2.out.own.lt i h).1))
        have HO3 := Lib.hid ho3
        have HB3 := Lib.hid hb3
        clear ho3 hon hb3 c0 c1'
        by_cases h0 : x = 0
        · subst h0
          have HN : Hid (offR p al L L2 (k + 1) (gs.drop (k + 1)) = r) := Lib.hid (by rw [← HRN.out, offR_ok H3.out HX.out])
          go_wp2_with fail
          go_roundw
          case rel => exact ⟨k + 1, by omega, by go_num, L2, HN.out, HO3.out, HB3.out⟩
          case measure => simp [intOf]; omega
        · have hx1 : (x != 0) = true := by simp [bne, h0]
          have HN : Hid (r = (L, k, x)) := Lib.hid (by rw [← HRN.out, offR_err H3.out HX.out h0])
          clear h0
          go_wp2_with fail
          go_ret3
          exact ⟨A, c, by rw [HN.out]; rfl, by rw [HN.out]; exact HT.out.below HB3.out, up_trans UP.out HB3.out⟩
      · have g3 : (g.k != 3) = true := by simp [bne, h3]
        have HN : Hid (offR p al L Lk (k + 1) (gs.drop (k + 1)) = r) := Lib.hid (by rw [← hrun, offR_skip h3])
        have HB3 := Lib.hid (up_trans hbw hq)
        clear hrg hdr hrun ho hbw hbl hkl hbx hq ho2 h3
        go_wp2_with (first | (refine lmr (b := b) (q := o + k * 5) (cs := gdC g) (.tmp 24) rfl rfl Tryd.underlying76 rfl info_gd rfl ?_ ?_; (· exact HRG.out)) | (refine snr (W := wr) (cs := gdC g) (zs := [.int .i64 0, .int .i64 0, .int .i64 0, .int .i64 0, .int .i64 0]) (t := 76) (.tmp 14) (.tmp 25) rfl rfl rfl rfl info_gd rfl (gdC_one g) ?_ ?_ ?_; (· rfl); (· rfl)))
        go_roundw
        case rel => exact ⟨k + 1, by omega, by go_num, Lk, HN.out, HO2.out, HB3.out⟩
        case measure => simp [intOf]; omega
    · obtain rfl : k = m := by omega
      have HN : Hid (r = (Lk, 0, 0)) := Lib.hid (by rw [← hrun, List.drop_of_length_le (by rw [HM.out]; exact Nat.le_refl _)]; rfl)
      have HO3 := Lib.hid ho
      have HB3 := Lib.hid hbw
      clear hrun ho hbw
      go_wp2
      go_ret3
      obtain ⟨A', c', e', ht⟩ := HO3.out.tw
      injection e' with e1 e2 e3
      subst e1 e3
      exact ⟨_, _, by rw [HN.out]; rfl, by rw [HN.out]; exact ht, up_trans UP.out HB3.out⟩
end Go.Proofs.YtlfglibepldjpaaDoor

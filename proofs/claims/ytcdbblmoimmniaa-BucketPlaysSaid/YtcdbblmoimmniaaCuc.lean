/- Package bucket: New, Fall, Flush. -/
import Derived.Test.YtcdbblmoimmniaaCub
import Derived.Lib.QuietBelow
namespace Go.Proofs.Ytcdbblmoimmniaa
open Go.RowKit

theorem c_bnew_no (many : Int) (h : many < 0 ∨ 4 < many) (w : World) :
    Calls Try.prog 7 #[.int .i64 many] w fun e w' => e = .returned (.tuple #[.pointer none, .int .i64 1]) ∧ w = w' := by
  by_cases h0 : many < 0
  · clear h
    go_enter Try.func7, Try.ntmps7
    go_wp2
    go_ret2
    exact ⟨rfl, rfl⟩
  · have h4 : 4 < many := by omega
    clear h
    go_enter Try.func7, Try.ntmps7
    go_wp2
    go_ret2
    exact ⟨rfl, rfl⟩
theorem pad_new (n : Nat) : padL (List.replicate n []) = List.replicate (max n 1) [] := by
  unfold padL
  cases n with
  | zero => rfl
  | succ n =>
    rw [if_neg (by simp [List.replicate_succ]), show max (n + 1) 1 = n + 1 by omega]
/-- A new table. -/
def BNewPost (w : World) (n : Nat) (e : Ending) (w' : World) : Prop :=
  ∃ t s b, e = .returned (.tuple #[.pointer (some ⟨t, 0, none⟩), .int .i64 0]) ∧ TB w' t s b (List.replicate n []) ∧ w.heap.size ≤ b ∧ w.heap.size ≤ s ∧ w.heap.size ≤ t ∧ Below w.heap.size w w'
theorem bnew_end {w w1 : World} {n b : Nat} (h : n ≤ 4) (hP : PA w1 b (List.replicate (max n 1) []) 16) (hb : w.heap.size ≤ b) (hw : Below w.heap.size w w1) :
    BNewPost w n (.returned (.tuple #[.pointer (some ⟨w1.heap.size + 1, 0, none⟩), .int .i64 0])) ((w1.alloc (.cells #[.pointer (some ⟨b, 0, none⟩), .int .i64 (n : Int)] 61)).alloc (.cells #[.pointer (some ⟨w1.heap.size, 0, none⟩)] 54)) := by
  have hs := (Blk.new w1 [.pointer (some ⟨b, 0, none⟩), .int .i64 (n : Int)] 61).alloc (.cells #[.pointer (some ⟨w1.heap.size, 0, none⟩)] 54)
  have ht := Blk.new (w1.alloc (.cells #[.pointer (some ⟨b, 0, none⟩), .int .i64 (n : Int)] 61)) [.pointer (some ⟨w1.heap.size, 0, none⟩)] 54
  rw [show (w1.alloc (.cells #[.pointer (some ⟨b, 0, none⟩), .int .i64 (n : Int)] 61)).heap.size = w1.heap.size + 1 by simp] at ht
  have up := up_trans (up_alloc w1 (.cells #[.pointer (some ⟨b, 0, none⟩), .int .i64 (n : Int)] 61)) (up_alloc _ (.cells #[.pointer (some ⟨w1.heap.size, 0, none⟩)] 54))
  have hz := hw.size
  exact ⟨_, w1.heap.size, b, rfl, ⟨ht, by rw [List.length_replicate]; exact hs, ⟨16, by rw [pad_new]; exact hP.below up, by rw [sumlen_rep]⟩, BG.new n h⟩, hb, hz, by omega, up_trans hw up⟩
set_option maxHeartbeats 1000000 in
theorem c_bnew (n : Nat) (h : n ≤ 4) (w : World) : Calls Try.prog 7 #[.int .i64 (n : Int)] w (BNewPost w n) := by
  by_cases h1 : (n : Int) < 1
  · have CN := Lib.hid (c_new 1 16 (by omega) (by omega) (by omega) w)
    have HM := Lib.hid (show max n 1 = 1 by omega)
    go_enter Try.func7, Try.ntmps7
    go_wp2_with (go_at_call 19; refine Calls.mono CN.out ?_; rintro e w1 ⟨b, rfl, hP, hb, hbw⟩)
    go_ret2
    exact bnew_end h (by rw [HM.out]; exact hP) hb hbw
  · have h2 : 1 ≤ (n : Int) := by omega
    have CN := Lib.hid (c_new n 16 (by omega) (by omega) (by omega) w)
    have HM := Lib.hid (show max n 1 = n by omega)
    go_enter Try.func7, Try.ntmps7
    go_wp2_with (go_at_call 19; refine Calls.mono CN.out ?_; rintro e w1 ⟨b, rfl, hP, hb, hbw⟩)
    go_ret2
    exact bnew_end h (by rw [HM.out]; exact hP) hb hbw

/-- A table with other buckets; its pool alone has turned. -/
def BPost (w : World) (t s b : Nat) (M : List (List Int)) (w' : World) : Prop := TB w' t s b M ∧ Only (· = b) w w'

set_option maxHeartbeats 1000000 in
theorem c_bfall {w : World} {t s b : Nat} {L : List (List Int)} (H : TB w t s b L) (k p : Int) :
    Calls Try.prog 12 #[.pointer (some ⟨t, 0, none⟩), .int .i64 k, .int .i64 p] w fun e w' => e = .returned (.int .i64 (flE L k p)) ∧ BPost w t s b (flL L k p) w' := by
  have CL := Lib.hid (c_blook H k)
  have CW := Lib.hid (c_bwhere H p)
  have HH := Lib.hid H
  clear H
  by_cases hk : lkE L.length k = 0
  · by_cases hp0 : p < 0
    · obtain ⟨h1, h2⟩ := fall_range (L := L) (k := k) (p := p) (.inr (.inr (.inl hp0)))
      rw [h1, h2]
      rw [hk] at CL
      clear hk h1 h2
      go_enter Try.func12, Try.ntmps12
      go_wp2_with (go_at_call 20; refine Calls.mono CL.out ?_; rintro e w' ⟨rfl, rfl⟩)
      go_ret
      exact ⟨rfl, HH.out, Only.refl _ _⟩
    · by_cases hp1 : 16 ≤ p
      · obtain ⟨h1, h2⟩ := fall_range (L := L) (k := k) (p := p) (.inr (.inr (.inr hp1)))
        rw [h1, h2]
        rw [hk] at CL
        clear hk h1 h2
        go_enter Try.func12, Try.ntmps12
        go_wp2_with (go_at_call 20; refine Calls.mono CL.out ?_; rintro e w' ⟨rfl, rfl⟩)
        go_ret
        exact ⟨rfl, HH.out, Only.refl _ _⟩
      · obtain ⟨j, rfl, hj⟩ := lk_ok hk
        have hr : ¬ ((j : Int) < 0 ∨ (L.length : Int) ≤ j ∨ p < 0 ∨ 16 ≤ p) := by omega
        rw [hk] at CL
        cases hw : whB L p
        · obtain ⟨l, hl⟩ : ∃ l, L[j]? = some l := ⟨_, List.getElem?_eq_getElem hj⟩
          obtain ⟨h1, h2⟩ := fall_ok hr hw hl
          have hBG := HH.out.gd.put hl (by omega) (by omega) (whB_no hw)
          have hroom := HH.out.gd.room (by omega) (by omega) (whB_no hw)
          have hset := sumlen_set L j l (l ++ [p]) hl
          rw [List.length_append, List.length_singleton] at hset
          have hlen : (L.set j (l ++ [p])).length = L.length := List.length_set ..
          rw [h1, h2]
          have c0 := HH.out.ct
          have c1 := HH.out.cs0
          have HL := Lib.hid hl
          have HBG := Lib.hid hBG
          have HSET := Lib.hid hset
          have HLEN := Lib.hid hlen
          have HROOM := Lib.hid hroom
          have HP := Lib.hid (padL_at hj)
          have HP2 := Lib.hid (padL_at (L := L.set j (l ++ [p])) (j := j) (by rw [List.length_set]; exact hj))
          rw [hw] at CW
          clear hk h1 h2 hl hBG hset hlen hw hroom
          go_enter Try.func12, Try.ntmps12
          go_wp2_with (first | (go_at_call 20; refine Calls.mono CL.out ?_; rintro e w' ⟨rfl, rfl⟩) | (go_at_call 14; refine Calls.mono CW.out ?_; rintro e w2 ⟨rfl, hb2⟩; have H2 := HH.out.below hb2; have c0 := H2.ct; have c1 := H2.cs0))
          obtain ⟨fr, hPA, hfr⟩ := H2.pa
          rw [HP.out] at hPA
          obtain ⟨f, rfl⟩ : ∃ f, fr = f + 1 := ⟨fr - 1, by have := HROOM.out; omega⟩
          go_wp2_with (go_at_call 23; refine (c_push_ok hPA j p l HL.out).mono ?_; rintro e w3 ⟨rfl, h3, ho⟩)
          go_ret
          exact ⟨rfl, H2.turn ho (by rw [HP2.out]; exact h3) (by have := HSET.out; omega) HLEN.out HBG.out, (Only.of_below hb2).trans ho⟩
        · obtain ⟨h1, h2⟩ := fall_there hr hw
          rw [h1, h2]
          rw [hw] at CW
          clear hk h1 h2 hw
          go_enter Try.func12, Try.ntmps12
          go_wp2_with (first | (go_at_call 20; refine Calls.mono CL.out ?_; rintro e w' ⟨rfl, rfl⟩) | (go_at_call 14; refine Calls.mono CW.out ?_; rintro e w2 ⟨rfl, hb2⟩))
          go_ret
          exact ⟨rfl, HH.out.below hb2, Only.of_below hb2⟩
  · obtain ⟨h8, hr⟩ := lk_no hk
    obtain ⟨h1, h2⟩ := fall_range (L := L) (k := k) (p := p) (by omega)
    rw [h1, h2]
    rw [h8] at CL
    clear hk h8 h1 h2
    go_enter Try.func12, Try.ntmps12
    go_wp2_with (go_at_call 20; refine Calls.mono CL.out ?_; rintro e w' ⟨rfl, rfl⟩)
    go_ret
    exact ⟨rfl, HH.out, Only.refl _ _⟩

theorem only_lo {S : Nat → Prop} {a b c : World} (h : Only S a b) (k : Below a.heap.size b c) : Only S a c :=
  ⟨k.os.trans h.os, k.tape.trans h.tape, k.output.trans h.output, Nat.le_trans h.size k.size, fun i hi hs => (k.block i hi).trans (h.block i hi hs)⟩
theorem TB.lo {w w' : World} {t s b B : Nat} {L : List (List Int)} (h : TB w t s b L) (o : Below B w w') (h1 : t < B) (h2 : s < B) (h3 : b < B) : TB w' t s b L :=
  h.only (S := fun k => B ≤ k) ⟨o.os, o.tape, o.output, o.size, fun i _ hn => o.block i (by omega)⟩ (by omega) (by omega) (by omega)
/-- The next one of a bucket. -/
theorem pop_next {w : World} {t s b k : Nat} {L : List (List Int)} {m : List Int} (H : TB w t s b (L.set k m)) (hk : k < L.length) :
    Calls Try.prog 21 #[.pointer (some ⟨b, 0, none⟩), .int .i64 (k : Int)] w fun e w' => ∃ x er, e = .returned (.tuple #[.int .i64 x, .int .i64 er]) ∧ TB w' t s b (L.set k m.tail) ∧ Only (· = b) w w' ∧ ((er = 0 ∧ m = x :: m.tail) ∨ (er = 11 ∧ m = [])) := by
  obtain ⟨fr, hPA, hfr⟩ := H.pa
  have hk2 : k < (L.set k m).length := by rw [List.length_set]; exact hk
  rw [padL_at hk2] at hPA
  have hg : (L.set k m)[k]? = some m := List.getElem?_set_self hk
  rcases m with _ | ⟨x, m⟩
  · refine (c_pop_none hPA k hg).mono ?_
    rintro e w' ⟨rfl, hd⟩
    exact ⟨0, 11, rfl, H.below hd.below, Only.of_below hd.below, .inr ⟨rfl, rfl⟩⟩
  · refine (c_pop_ok hPA k x m hg).mono ?_
    rintro e w' ⟨rfl, h3, ho⟩
    have hs := sumlen_set _ k _ m hg
    rw [List.set_set] at h3 hs
    rw [List.length_cons] at hs
    refine ⟨x, 0, rfl, H.turn ho (by rw [List.tail_cons, padL_at (j := k) (by rw [List.length_set]; exact hk)]; exact h3) (by rw [List.tail_cons]; omega) (by simp) ?_, ho, .inl ⟨rfl, rfl⟩⟩
    exact H.gd.less (List.sublist_cons_self _ _)

/-- Who was in the bucket, in new memory. -/
def FuPost (w : World) (t s b : Nat) (M : List (List Int)) (l : List Int) (er : Int) (e : Ending) (w' : World) : Prop :=
  ∃ A c, e = .returned (.tuple #[.slice A l.length c, .int .i64 er]) ∧ RD w' (w.heap.size ≤ ·) 1 A l.length (l.map (Value.int .i64)) ∧ BPost w t s b M w'
def slN : Value → Nat
  | .slice _ n _ => n
  | _ => 0

set_option maxHeartbeats 1000000 in
theorem c_bflush {w : World} {t s b : Nat} {L : List (List Int)} (H : TB w t s b L) (k : Int) :
    Calls Try.prog 9 #[.pointer (some ⟨t, 0, none⟩), .int .i64 k] w (FuPost w t s b (fuL L k) (liL L k) (lkE L.length k)) := by
  have CL := Lib.hid (c_blook H k)
  by_cases hk : lkE L.length k = 0
  · obtain ⟨j, rfl, hj⟩ := lk_ok hk
    obtain ⟨l, hl⟩ : ∃ l, L[j]? = some l := ⟨_, List.getElem?_eq_getElem hj⟩
    have hln := H.gd.lens hl
    have hself : L.set j l = L := List.ext_getElem? fun i => by
      by_cases e : i = j
      · subst e
        rw [List.getElem?_set_self hj, hl]
      · rw [List.getElem?_set_ne (Ne.symm e)]
    rw [flush_ok hj, li_at hl, hk]
    rw [hk] at CL
    have CP := Lib.hid (fun W M (h : TB W t s b (L.set j M)) => pop_next h hj)
    have c0 := H.ct
    have c1 := H.cs0
    have C1 := CP.out w l (by rw [hself]; exact H)
    have C1 := Lib.hid C1
    have ht := H.tb.lt
    have hs := H.sb.lt
    have hb := H.lt
    have hsb := H.ne2
    have htb := H.ne1
    clear hk hl hself H
    go_enter Try.func9, Try.ntmps9
    go_wp2_with (first | (go_at_call 20; refine Calls.mono CL.out ?_; rintro e w' ⟨rfl, rfl⟩) | (go_at_call 21; refine Calls.mono C1.out ?_; rintro e w1 ⟨x1, er1, rfl, h1, ho1, hx1⟩))
    go_loopw [7, 8, 9] (fun v x e wr => ∃ (i : Nat) (z er : Int), i ≤ l.length ∧ x = .int .i64 z ∧ e = .int .i64 er ∧ wr.ownsRow w.heap.size 3 1 v (l.take i).length ((l.take i).map (Value.int .i64)) ∧ TB wr t s b (L.set j (l.drop i).tail) ∧ Only (· = b) w wr ∧ ((er = 0 ∧ l.drop i = z :: (l.drop i).tail) ∨ (er = 11 ∧ l.drop i = []))) (fun v _ _ _ => l.length - slN v)
    case atStart => exact ⟨0, x1, er1, Nat.zero_le _, rfl, rfl, World.ownsRow_nil _ _ _ _, h1, ho1, hx1⟩
    case round =>
      obtain ⟨i, z, er, hi, rfl, rfl, hown, hT, ho, hz⟩ := hrel
      rcases hz with ⟨rfl, hz⟩ | ⟨rfl, hz⟩
      · have hil : i < l.length := by
          rcases Nat.lt_or_ge i l.length with h | h
          · exact h
          · rw [List.drop_of_length_le h] at hz
            cases hz
        have hz1 : l[i]? = some z := by
          have := List.getElem?_drop (xs := l) (i := i) (j := 0)
          rw [hz] at this
          simpa using this.symm
        have HN := Lib.hid (take_next l i z hz1)
        have HT := Lib.hid hT
        have hTd : (l.drop i).tail = l.drop (i + 1) := by rw [List.tail_drop]
        have HTD := Lib.hid hTd
        have htl : (l.take i).length ≤ 16 := by rw [List.length_take]; omega
        have hsz := ho.size
        have hv : slN u7 = i := by
          obtain ⟨A, c, e, _⟩ := own_slice hown
          rw [e]
          show (l.take i).length = i
          rw [List.length_take]
          omega
        have HV := Lib.hid hv
        clear hz hz1 hT hTd hv
        go_wp2_with (at_builtin; refine wpList_app ei_int rfl (.tmp 42) (.tmp 44) rfl _ _ rfl (hown.alloc _) rfl (RD.one (by simp)) (by simp [Value.oneCell']) (by omega) (by simp; omega) ?_; intro v' w1 hown1 hb1; have hT1 := (HT.out.below (up_alloc _ (.cells #[.int .i64 z] 3))).lo hb1 ht hs hb; rw [HTD.out] at hT1; have c0 := hT1.ct; have c1 := hT1.cs0; have ho1 := only_lo (ho.alloc (.cells #[.int .i64 z] 3)) hb1)
        refine Calls.mono (CP.out w1 _ hT1) ?_
        rintro e w2 ⟨x2, er2, rfl, h2, ho2, hx2⟩
        have hown2 := own_only hown1 ho2 (fun i e => by omega)
        go_wp2_with fail
        go_roundw
        case rel => exact ⟨i + 1, x2, er2, by omega, rfl, rfl, by rw [HN.out, List.map_append, List.length_append]; exact hown2, h2, ho1.trans ho2, hx2⟩
        case measure =>
          obtain ⟨A, c, e, _⟩ := own_slice hown2
          rw [e, HV.out]
          show l.length - ((l.take i).length + 1) < l.length - i
          rw [List.length_take]
          omega
      · have hli : l.length ≤ i := by
          rcases Nat.lt_or_ge i l.length with h | h
          · rw [List.drop_eq_getElem_cons h] at hz
            cases hz
          · exact h
        rw [hz] at hT
        rw [List.take_of_length_le hli] at hown
        obtain ⟨A, c, rfl, h1, h2, h3⟩ := own_slice hown
        clear hz
        go_wp2
        go_ret2
        exact ⟨A, c, rfl, h3, hT, ho⟩
  · obtain ⟨h8, hr⟩ := lk_no hk
    rw [flush_no hr, li_no hr, h8]
    rw [h8] at CL
    have HH := Lib.hid H
    clear hk h8 hr H
    go_enter Try.func9, Try.ntmps9
    go_wp2_with (go_at_call 20; refine Calls.mono CL.out ?_; rintro e w' ⟨rfl, rfl⟩)
    go_ret2
    exact ⟨none, 0, rfl, RD.nil _ _ _ _, HH.out, Only.refl _ _⟩
end Go.Proofs.Ytcdbblmoimmniaa

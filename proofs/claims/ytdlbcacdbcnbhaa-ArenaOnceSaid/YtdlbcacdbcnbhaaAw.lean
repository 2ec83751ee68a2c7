/- The contract of the law ArenaPlays. -/
import Derived.Test.YtdlbcacdbcnbhaaAy
namespace Go.Proofs.Ytdlbcacdbcnbhaa
open Go.RowKit

abbrev Step := Int × Int × Int
def stepV (p : Step) : List Value := [.int .u8 p.1, .int .i64 p.2.1, .int .i64 p.2.2]
theorem stepV_len (p : Step) : (stepV p).length = 3 := rfl
def StepOk (p : Step) : Prop := (0 ≤ p.1 ∧ p.1 ≤ 255) ∧ I64 p.2.1 ∧ I64 p.2.2
theorem RD.step {w : World} {pl : Nat → Prop} {A : Option Addr} {n : Nat} {L : List Step} (h : RD w pl 3 A n (L.flatMap stepV)) (hn : L.length = n) (k : Nat) (hk : k < n) :
    ∃ b o, A = some ⟨b, o, none⟩ ∧ b < w.heap.size ∧ ∃ p : Step, L[k]? = some p ∧ w.cell? ⟨b, o + k * 3, none⟩ = some (.int .u8 p.1) ∧ w.cell? ⟨b, o + k * 3 + 1, none⟩ = some (.int .i64 p.2.1) ∧ w.cell? ⟨b, o + k * 3 + 2, none⟩ = some (.int .i64 p.2.2) := by
  obtain ⟨b, o, e, _, h2, h3⟩ := h.at_ (by omega)
  have hg : L[k]? = some L[k] := List.getElem?_eq_getElem (by omega)
  refine ⟨b, o, e, h2, L[k], hg, ?_, ?_, ?_⟩
  · exact h3 (k * 3) _ (by rw [show k * 3 = k * 3 + 0 from rfl, flat_get stepV 3 stepV_len L k 0 _ hg (by omega)]; rfl)
  · exact h3 (k * 3 + 1) _ (by rw [flat_get stepV 3 stepV_len L k 1 _ hg (by omega)]; rfl)
  · exact h3 (k * 3 + 2) _ (by rw [flat_get stepV 3 stepV_len L k 2 _ hg (by omega)]; rfl)
theorem RT.lt {w : World} {pl : Nat → Prop} {τ : List Slot} {A B : Option Addr} {c d : Nat} (h : RT w pl τ A c B d) : RT w (fun b => pl b ∧ b < w.heap.size) τ A c B d :=
  ⟨h.gens.lt, h.things.lt, h.c0, h.c1, h.d0, h.d1, h.pos, h.few⟩
theorem RT.lo {w : World} {pl pl' : Nat → Prop} {τ : List Slot} {A B : Option Addr} {c d : Nat} (h : RT w pl τ A c B d) (hl : ∀ b, pl b → pl' b) : RT w pl' τ A c B d :=
  ⟨h.gens.lo hl, h.things.lo hl, h.c0, h.c1, h.d0, h.d1, h.pos, h.few⟩

/-- What holds at the head of each round of a play. -/
structure PRel (w : World) (t S b9 room : Nat) (last : Int) (τ : List Slot) (A : Option Addr) (c : Nat) (B : Option Addr) (d : Nat) (wr : World) : Prop where
  H : AT wr t S last τ
  R : RT wr (fun b => b ≠ S ∧ b ≠ b9) τ A c B d
  box : Blk wr b9 [.int .i64 last, .slice A τ.length c, .slice B (lenT τ) d] 31
  gb : GB last τ
  len : τ.length = room
  up : Below w.heap.size w wr
def PlayRel (w : World) (t S b9 room : Nat) (last : Int) (wr : World) : Prop := ∃ τ A c B d, PRel w t S b9 room last τ A c B d wr
theorem PRel.below {w wr wr' : World} {t S b9 room : Nat} {last : Int} {τ : List Slot} {A B : Option Addr} {c d : Nat} (h : PRel w t S b9 room last τ A c B d wr) (hb : Below wr.heap.size wr wr') : PRel w t S b9 room last τ A c B d wr' :=
  ⟨h.H.below hb, h.R.below hb, h.box.up hb h.box.lt, h.gb, h.len, up_trans h.up hb⟩
theorem AT.aside {w : World} {t S b9 : Nat} {last : Int} {τ : List Slot} {cs : List Value} (h : AT w t S last τ) (hB : Blk w b9 cs 31) (j : Nat) (u : Value) : AT (w.setCell ⟨b9, j, none⟩ u) t S last τ :=
  ⟨h.tab.other _ (h.tab.ne hB (by decide)) u, h.row.other _ (h.row.ne hB (by decide)) u, fun s hs b x e => (h.one s hs b x e).other _ ((h.one s hs b x e).ne hB (by decide)) u, h.pos, h.few⟩
theorem RT.aside {w : World} {S b9 : Nat} {τ : List Slot} {A B : Option Addr} {c d : Nat} (h : RT w (fun b => b ≠ S ∧ b ≠ b9) τ A c B d) (j : Nat) (u : Value) : RT (w.setCell ⟨b9, j, none⟩ u) (fun b => b ≠ S ∧ b ≠ b9) τ A c B d :=
  h.only ((Only.refl (· = b9) w).put j u) fun _ e hp => hp.2 e
theorem play_store {w w4 : World} {t S b9 room n m c0 d0 : Nat} {last : Int} {τ : List Slot} {A B A0 B0 : Option Addr} {c d : Nat} (H : AT w4 t S last τ) (R : RT w4 (fun b => b ≠ S ∧ b ≠ b9) τ A c B d)
    (hB : Blk w4 b9 [.int .i64 last, .slice A0 n c0, .slice B0 m d0] 31) (hg : GB last τ) (hl : τ.length = room) (up : Below w.heap.size w w4) (h9 : w.heap.size ≤ b9) :
    PRel w t S b9 room last τ A c B d (((w4.setCell ⟨b9, 0, none⟩ (.int .i64 last)).setCell ⟨b9, 1, none⟩ (.slice A τ.length c)).setCell ⟨b9, 2, none⟩ (.slice B (lenT τ) d)) :=
  ⟨((H.aside hB 0 _).aside (hB.set 0 _) 1 _).aside ((hB.set 0 _).set 1 _) 2 _, ((R.aside 0 _).aside 1 _).aside 2 _, ((hB.set 0 (.int .i64 last)).set 1 (.slice A τ.length c)).set 2 (.slice B (lenT τ) d), hg, hl, ((up.setCell (by simpa using h9) _).setCell (by simpa using h9) _).setCell (by simpa using h9) _⟩

set_option maxRecDepth 100000 in
set_option maxHeartbeats 4000000 in
theorem l_plays_run (room : Nat) (last : Int) (A : Option Addr) (n cp : Nat) (L : List Step) (w : World) (hR : RD w (fun _ => True) 3 A n (L.flatMap stepV)) (hn : L.length = n) (hL : ∀ p ∈ L, StepOk p) (h100 : n ≤ 100) (r0 : 1 ≤ room) (r1 : room ≤ 30) (l0 : 1 ≤ last) (l1 : last ≤ 65535) :
    Calls Try.prog 3 #[.int .i64 (room : Int), .int .i64 last, .slice A n cp] w fun e w' => e = .returned (.bool true) ∧ Below w.heap.size w w' := by
  have HL := Lib.hid hL
  have HN := Lib.hid hn
  clear hL hn
  go_enter Try.func3, Try.ntmps3
  go_wp2_with fail
  refine (c_new room (by omega) (by omega) last l0 l1 w).mono ?_
  rintro e w1 ⟨t, S, rfl, H1, ht, hS, hb1⟩
  have hz1 := H1.row.lt
  go_wp2_with fail
  refine (c_rnew room (by omega) (by omega) last l0 l1 (fun b => b ≠ S) w1 (fun b hb => by omega)).mono ?_
  rintro e w2 ⟨A2, c2, B2, d2, rfl, R2, hb2⟩
  have hrel0 : PlayRel w t S w2.heap.size room last (w2.alloc (.cells #[.int .i64 last, .slice A2 room c2, .slice B2 (lenT (List.replicate room (0, none))) d2] 31)) := by
    have up := up_alloc w2 (.cells #[.int .i64 last, .slice A2 room c2, .slice B2 (lenT (List.replicate room (0, none))) d2] 31)
    refine ⟨List.replicate room (0, none), A2, c2, B2, d2, ⟨(H1.below hb2).below up, (R2.lt.lo (fun b hb => ⟨hb.1, by omega⟩)).below up, ?_, GB.rep last (by omega) room, by simp, up_trans hb1 (up_trans hb2 up)⟩⟩
    rw [List.length_replicate]
    exact box3 w2 last A2 room c2 B2 _ d2
  have HREL := Lib.hid hrel0
  have hlr := lenT_rep room
  generalize lenT (List.replicate room (0, none)) = lr at HREL
  clear hrel0 H1 R2 hlr
  go_wp2_with fail
  go_loopw [12, 13, 14, 15, 16, 61] (fun _ _ _ _ _ i wr => ∃ k : Nat, k ≤ n ∧ i = .int .i64 k ∧ PlayRel w t S w2.heap.size room last wr) (fun _ _ _ _ _ i _ => n - (intOf i).toNat)
  case atStart => exact ⟨0, Nat.zero_le _, rfl, HREL.out⟩
  case round =>
    clear HREL
    obtain ⟨k, hk, rfl, τ, A, c, B, d, ⟨H, R, hb9, hg, hlen, hbw⟩⟩ := hrel
    have hf := H.few
    have hS9 : S < wr.heap.size := H.row.lt
    have h9lt := hb9.lt
    have hS9' : w2.heap.size ≠ S := by have := hb2.size; omega
    have h9w : w.heap.size ≤ w2.heap.size := Nat.le_trans hb1.size hb2.size
    have HLn := Lib.hid hlen
    clear hlen
    by_cases hlt : k < n
    · obtain ⟨bL, oL, rfl, hbL, ⟨dd, hh, xx⟩, hp, a0, a1, a2⟩ := (hR.below hbw).step HN.out k hlt
      have hok := HL.out _ (List.mem_of_getElem? hp)
      obtain ⟨⟨d0, d1⟩, hI, _⟩ := hok
      simp only at a0 a1 a2 d0 d1 hI
      have HI := Lib.hid hI
      clear hp hI
      -- the box of the step
      have ups := up_alloc wr (.cells #[.int .u8 dd, .int .i64 hh, .int .i64 xx] 35)
      have hbs : Blk (wr.alloc (.cells #[.int .u8 dd, .int .i64 hh, .int .i64 xx] 35)) wr.heap.size [.int .u8 dd, .int .i64 hh, .int .i64 xx] 35 := Blk.new wr [.int .u8 dd, .int .i64 hh, .int .i64 xx] _
      generalize hws : wr.alloc (.cells #[.int .u8 dd, .int .i64 hh, .int .i64 xx] 35) = ws at ups hbs
      have HWS := Lib.hid hws
      have Hs := H.below ups
      have Rs := R.below ups
      have hb9s := hb9.up ups h9lt
      have hbws := up_trans hbw ups
      have hzs := hbs.lt
      clear hws H R hbw
      have key : dd % 5 = 0 ∨ dd % 5 = 1 ∨ dd % 5 = 2 ∨ (3 ≤ dd % 5) := by omega
      rcases key with hd5 | hd5 | hd5 | hd5
      · have q0 : (dd % 5 == 0) = true := by simp [hd5]
        obtain ⟨τ', er, SB⟩ := set_both Hs hg hh xx HI.out
        have SP := Lib.hid SB.prog
        clear hd5
        go_wp2_with fail
        rw [HWS.out]
        refine Calls.mono SP.out ?_
        rintro e w3 ⟨rfl, H3, hb3⟩
        have R3 := Rs.only hb3 (fun _ e hp => hp.1 e)
        have b93 := hb9s.only hb3 hS9'
        have hbs3 := hbs.only hb3 (by omega)
        have up3 := hbws.trans (hb3.toBelow hbws.size (fun i e => e ▸ hS))
        have c0 := b93.cell 0 _ rfl
        have c1 := b93.cell 1 _ rfl
        have c2 := b93.cell 2 _ rfl
        have e0 := hbs3.cell 0 _ rfl
        have e1 := hbs3.cell 1 _ rfl
        have e2 := hbs3.cell 2 _ rfl
        have hz3 := hb3.size
        have CD := Lib.hid (SB.doc w3 _ A c B d R3 (fun b hb => by constructor <;> omega))
        go_wp2_with fail
        refine Calls.mono CD.out ?_
        rintro e w4 ⟨A', c', B', d', rfl, R4, hb4⟩
        have H4 := H3.below hb4
        have b94 := b93.up hb4 b93.lt
        have hbs4 := hbs3.up hb4 hbs3.lt
        have P5 := play_store H4 R4 b94 SB.gb (SB.len.trans HLn.out) (up_trans up3 hb4) h9w
        clear c0 c1 c2 e0 e1 e2
        have c0 := b94.cell 0 _ rfl
        have c1 := b94.cell 1 _ rfl
        have c2 := b94.cell 2 _ rfl
        have f0 := b94.free 0
        have f1 := b94.free 1
        have f2 := b94.free 2
        have e1 := hbs4.cell 1 _ rfl
        have hne9 : wr.heap.size ≠ w2.heap.size := by omega
        have hne9' : w2.heap.size ≠ wr.heap.size := by omega
        have hke : (er != er) = false := by simp
        go_wp2_with fail
        refine (as_any P5.H P5.R P5.gb l1 hh HI.out).mono ?_
        rintro e w6 ⟨rfl, hb6⟩
        go_wp2_with fail
        go_roundw
        case rel => exact ⟨k + 1, by omega, by go_num, τ', A', c', B', d', P5.below hb6⟩
        case measure => simp [intOf]; omega
      · have q0 : (dd % 5 == 0) = false := by simp [hd5]
        have q1 : (dd % 5 == 1) = true := by simp [hd5]
        obtain ⟨τ', er, SB⟩ := drop_both Hs hg hh HI.out
        have SP := Lib.hid SB.prog
        clear hd5
        go_wp2_with fail
        rw [HWS.out]
        refine Calls.mono SP.out ?_
        rintro e w3 ⟨rfl, H3, hb3⟩
        have R3 := Rs.only hb3 (fun _ e hp => hp.1 e)
        have b93 := hb9s.only hb3 hS9'
        have hbs3 := hbs.only hb3 (by omega)
        have up3 := hbws.trans (hb3.toBelow hbws.size (fun i e => e ▸ hS))
        have c0 := b93.cell 0 _ rfl
        have c1 := b93.cell 1 _ rfl
        have c2 := b93.cell 2 _ rfl
        have e0 := hbs3.cell 0 _ rfl
        have e1 := hbs3.cell 1 _ rfl
        have e2 := hbs3.cell 2 _ rfl
        have hz3 := hb3.size
        have CD := Lib.hid (SB.doc w3 _ A c B d R3 (fun b hb => by constructor <;> omega))
        go_wp2_with fail
        refine Calls.mono CD.out ?_
        rintro e w4 ⟨A', c', B', d', rfl, R4, hb4⟩
        have H4 := H3.below hb4
        have b94 := b93.up hb4 b93.lt
        have hbs4 := hbs3.up hb4 hbs3.lt
        have P5 := play_store H4 R4 b94 SB.gb (SB.len.trans HLn.out) (up_trans up3 hb4) h9w
        clear c0 c1 c2 e0 e1 e2
        have c0 := b94.cell 0 _ rfl
        have c1 := b94.cell 1 _ rfl
        have c2 := b94.cell 2 _ rfl
        have f0 := b94.free 0
        have f1 := b94.free 1
        have f2 := b94.free 2
        have e1 := hbs4.cell 1 _ rfl
        have hne9 : wr.heap.size ≠ w2.heap.size := by omega
        have hne9' : w2.heap.size ≠ wr.heap.size := by omega
        have hke : (er != er) = false := by simp
        go_wp2_with fail
        refine (as_any P5.H P5.R P5.gb l1 hh HI.out).mono ?_
        rintro e w6 ⟨rfl, hb6⟩
        go_wp2_with fail
        go_roundw
        case rel => exact ⟨k + 1, by omega, by go_num, τ', A', c', B', d', P5.below hb6⟩
        case measure => simp [intOf]; omega
      · have q0 : (dd % 5 == 0) = false := by simp [hd5]
        have q1 : (dd % 5 == 1) = false := by simp [hd5]
        have q2 : (dd % 5 == 2) = true := by simp [hd5]
        obtain ⟨τ', er, SB⟩ := drop_both Hs hg hh HI.out
        have SP := Lib.hid SB.prog
        clear hd5
        go_wp2_with fail
        rw [HWS.out]
        refine Calls.mono SP.out ?_
        rintro e w3 ⟨rfl, H3, hb3⟩
        have R3 := Rs.only hb3 (fun _ e hp => hp.1 e)
        have b93 := hb9s.only hb3 hS9'
        have hbs3 := hbs.only hb3 (by omega)
        have up3 := hbws.trans (hb3.toBelow hbws.size (fun i e => e ▸ hS))
        have c0 := b93.cell 0 _ rfl
        have c1 := b93.cell 1 _ rfl
        have c2 := b93.cell 2 _ rfl
        have e0 := hbs3.cell 0 _ rfl
        have e1 := hbs3.cell 1 _ rfl
        have e2 := hbs3.cell 2 _ rfl
        have hz3 := hb3.size
        have CD := Lib.hid (SB.doc w3 _ A c B d R3 (fun b hb => by constructor <;> omega))
        go_wp2_with fail
        refine Calls.mono CD.out ?_
        rintro e w4 ⟨A', c', B', d', rfl, R4, hb4⟩
        have H4 := H3.below hb4
        have b94 := b93.up hb4 b93.lt
        have hbs4 := hbs3.up hb4 hbs3.lt
        have P5 := play_store H4 R4 b94 SB.gb (SB.len.trans HLn.out) (up_trans up3 hb4) h9w
        clear c0 c1 c2 e0 e1 e2
        have c0 := b94.cell 0 _ rfl
        have c1 := b94.cell 1 _ rfl
        have c2 := b94.cell 2 _ rfl
        have f0 := b94.free 0
        have f1 := b94.free 1
        have f2 := b94.free 2
        have e1 := hbs4.cell 1 _ rfl
        have hne9 : wr.heap.size ≠ w2.heap.size := by omega
        have hne9' : w2.heap.size ≠ wr.heap.size := by omega
        have hke : (er != er) = false := by simp
        go_wp2_with fail
        refine (as_any P5.H P5.R P5.gb l1 hh HI.out).mono ?_
        rintro e w6 ⟨rfl, hb6⟩
        go_wp2_with fail
        go_roundw
        case rel => exact ⟨k + 1, by omega, by go_num, τ', A', c', B', d', P5.below hb6⟩
        case measure => simp [intOf]; omega
      · have q0 : (dd % 5 == 0) = false := beq_eq_false_iff_ne.2 (by omega)
        have q1 : (dd % 5 == 1) = false := beq_eq_false_iff_ne.2 (by omega)
        have q2 : (dd % 5 == 2) = false := beq_eq_false_iff_ne.2 (by omega)
        obtain ⟨τ', hd, er, SB⟩ := add_both Hs hg l1 xx
        have SP := Lib.hid SB.prog
        clear hd5
        go_wp2_with fail
        rw [HWS.out]
        refine Calls.mono SP.out ?_
        rintro e w3 ⟨rfl, H3, hb3⟩
        have R3 := Rs.only hb3 (fun _ e hp => hp.1 e)
        have b93 := hb9s.only hb3 hS9'
        have hbs3 := hbs.only hb3 (by omega)
        have up3 := hbws.trans (hb3.toBelow hbws.size (fun i e => e ▸ hS))
        have c0 := b93.cell 0 _ rfl
        have c1 := b93.cell 1 _ rfl
        have c2 := b93.cell 2 _ rfl
        have e0 := hbs3.cell 0 _ rfl
        have e1 := hbs3.cell 1 _ rfl
        have e2 := hbs3.cell 2 _ rfl
        have hz3 := hb3.size
        have CD := Lib.hid (SB.doc w3 _ A c B d R3 (fun b hb => by constructor <;> omega))
        go_wp2_with fail
        refine Calls.mono CD.out ?_
        rintro e w4 ⟨A', c', B', d', rfl, R4, hb4⟩
        have H4 := H3.below hb4
        have b94 := b93.up hb4 b93.lt
        have hbs4 := hbs3.up hb4 hbs3.lt
        have P5 := play_store H4 R4 b94 SB.gb (SB.len.trans HLn.out) (up_trans up3 hb4) h9w
        clear c0 c1 c2 e0 e1 e2
        have c0 := b94.cell 0 _ rfl
        have c1 := b94.cell 1 _ rfl
        have c2 := b94.cell 2 _ rfl
        have f0 := b94.free 0
        have f1 := b94.free 1
        have f2 := b94.free 2
        have e1 := hbs4.cell 1 _ rfl
        have hne9 : wr.heap.size ≠ w2.heap.size := by omega
        have hne9' : w2.heap.size ≠ wr.heap.size := by omega
        have hke : (er != er) = false := by simp
        have hkh : (hd != hd) = false := by simp
        go_wp2_with fail
        refine (as_any P5.H P5.R P5.gb l1 hh HI.out).mono ?_
        rintro e w6 ⟨rfl, hb6⟩
        go_wp2_with fail
        go_roundw
        case rel => exact ⟨k + 1, by omega, by go_num, τ', A', c', B', d', P5.below hb6⟩
        case measure => simp [intOf]; omega
    · obtain rfl : k = n := by omega
      have c0 := hb9.cell 0 _ rfl
      have c1 := hb9.cell 1 _ rfl
      have c2 := hb9.cell 2 _ rfl
      go_wp2_with fail
      refine (as_any H R hg l1 4096 (al_i64 _ (by omega) (by omega))).mono ?_
      rintro e w6 ⟨rfl, hb6⟩
      go_wp2_with fail
      refine (c_alive _).mono ?_
      rintro e w7 ⟨rfl, hb7⟩
      go_wp2_with fail
      go_ret
      exact ⟨rfl, up_trans hbw (up_trans hb6 hb7)⟩

set_option maxHeartbeats 1000000 in
theorem l_plays (room last : Int) (A : Option Addr) (n cp : Nat) (L : List Step) (w : World) (hR : RD w (fun _ => True) 3 A n (L.flatMap stepV)) (hn : L.length = n) (hL : ∀ p ∈ L, StepOk p) :
    Calls Try.prog 3 #[.int .i64 room, .int .i64 last, .slice A n cp] w fun e w' => e = .returned (.bool true) ∧ Below w.heap.size w w' := by
  by_cases ha : 30 < room ∧ room ≤ 4096
  · obtain ⟨ha0, ha1⟩ := ha
    clear hR hn hL
    go_enter Try.func3, Try.ntmps3
    go_wp2_with (go_at_call 6; refine (c_alive _).mono ?_; rintro e w1 ⟨rfl, hb1⟩)
    go_ret
    exact ⟨rfl, hb1⟩
  · by_cases hb : 100 < n
    · clear hR hn hL
      have HA := Lib.hid ha
      clear ha
      by_cases h30 : 30 < room
      · have h4 : ¬ room ≤ 4096 := by have := HA.out; omega
        go_enter Try.func3, Try.ntmps3
        go_wp2_with (go_at_call 6; refine (c_alive _).mono ?_; rintro e w1 ⟨rfl, hb1⟩)
        go_ret
        exact ⟨rfl, hb1⟩
      · go_enter Try.func3, Try.ntmps3
        go_wp2_with (go_at_call 6; refine (c_alive _).mono ?_; rintro e w1 ⟨rfl, hb1⟩)
        go_ret
        exact ⟨rfl, hb1⟩
    · by_cases hok : 1 ≤ room ∧ room ≤ 30 ∧ 1 ≤ last ∧ last ≤ 65535
      · obtain ⟨r0, r1, l0, l1⟩ := hok
        obtain ⟨rn, rfl⟩ : ∃ rn : Nat, room = rn := ⟨room.toNat, by omega⟩
        exact l_plays_run rn last A n cp L w hR hn hL (by omega) (by omega) (by omega) l0 l1
      · have hno : room < 1 ∨ 4096 < room ∨ last < 1 ∨ 65535 < last := by omega
        have HNo := Lib.hid hno
        have HA := Lib.hid ha
        have hb' : n ≤ 100 := by omega
        clear hR hn hL hok hno ha hb
        by_cases h30 : 30 < room
        · have h4 : ¬ room ≤ 4096 := by have := HA.out; omega
          go_enter Try.func3, Try.ntmps3
          go_wp2_with (first | (go_at_call 7; refine (c_new_no _ _ HNo.out _).mono ?_; rintro e w' ⟨rfl, rfl⟩) | (go_at_call 8; refine (c_rnew_no _ _ HNo.out _).mono ?_; rintro e w1 ⟨rfl, hb1⟩) | (go_at_call 6; refine (c_alive _).mono ?_; rintro e w2 ⟨rfl, hb2⟩))
          go_ret
          exact ⟨rfl, up_trans hb1 (up_trans (up_alloc _ _) hb2)⟩
        · go_enter Try.func3, Try.ntmps3
          go_wp2_with (first | (go_at_call 7; refine (c_new_no _ _ HNo.out _).mono ?_; rintro e w' ⟨rfl, rfl⟩) | (go_at_call 8; refine (c_rnew_no _ _ HNo.out _).mono ?_; rintro e w1 ⟨rfl, hb1⟩) | (go_at_call 6; refine (c_alive _).mono ?_; rintro e w2 ⟨rfl, hb2⟩))
          go_ret
          exact ⟨rfl, up_trans hb1 (up_trans (up_alloc _ _) hb2)⟩
end Go.Proofs.Ytdlbcacdbcnbhaa

/- The contract of package frame's Text. -/
import Derived.Test.YtdcaiecgholgiaaDoorFs
import Derived.Test.YtdcaiecgholgiaaDoorDm
import Derived.Lib.Join
namespace Go.Proofs.YtdcaiecgholgiaaDoor
open Go.RowKit

theorem lens_le (n : Nat) : ∀ ps : List (List UInt8), (∀ y ∈ ps, y.length ≤ n) → Lib.lens ps ≤ n * ps.length
  | [], _ => by simp [Lib.lens]
  | y :: r, h => by
    have h1 := h y (by simp)
    have h2 := lens_le n r fun z hz => h z (by simp [hz])
    simp only [Lib.lens, List.map_cons, List.sum_cons, List.length_cons] at h2 ⊢
    rw [Nat.mul_succ]
    omega

theorem c_join {w : World} {lo : Nat} {v : Value} {x : List UInt8} {r : List (List UInt8)} (hown : w.ownsRow lo 9 1 v (x :: r).length ((x :: r).map strV)) (hl : ∀ y ∈ x :: r, y.length ≤ 20) (hn : (x :: r).length ≤ 1000) :
    Calls Tryd.prog 35 #[v, .string ⟨#[32]⟩] w fun e w' => e = .returned (.string ⟨(x ++ Lib.joinTail [32] r).toArray⟩) ∧ Below w.heap.size w w' := by
  obtain ⟨g, cap, rfl, hcap, _⟩ := own_form hown (by simp)
  have hrd := RD.of_own hown
  obtain ⟨b, o, e, _, hlt, hc⟩ := hrd.at_ (by simp)
  obtain ⟨rfl, rfl⟩ : g = b ∧ 0 = o := by
    injection e with e
    injection e with e1 e2
    exact ⟨e1, e2⟩
  have e1 : (((x :: r).map fun l => (⟨l.toArray⟩ : ByteArray)).map (·.data.toList)) = x :: r := by
    simp [List.map_map, Function.comp_def]
  have hlen : (Lib.join (x :: r) [32]).length ≤ 140737488355328 := by
    rw [Lib.join_length]
    have := lens_le 20 (x :: r) hl
    simp only [List.length_cons, List.length_nil] at *
    omega
  have H := Tryd.strings_Join g 0 cap ((x :: r).map fun l => ⟨l.toArray⟩) ⟨#[32]⟩ w (fun j y hj => by
    rw [List.getElem?_map] at hj
    obtain ⟨l, hl, rfl⟩ := Option.map_eq_some_iff.1 hj
    exact hc j _ (by rw [List.getElem?_map, hl]; rfl)) hlt (by simp at hn ⊢; omega) (by simpa using hcap) (by rw [e1]; exact hlen)
  rw [e1, List.length_map, show (([32] : List UInt8).toArray.toList) = [32] from rfl, Lib.join_cons] at H
  exact H

theorem itoa_len (n : Int) (h : fineW n = true) : (Lib.itoa n).length ≤ 20 := by
  obtain ⟨h0, h1⟩ := (fineW_iff n).1 h
  by_cases hn : n < 0
  · rw [itoa_neg n hn]
    have := dg_len10 (-n).toNat (by omega)
    simp only [List.length_cons]
    omega
  · rw [itoa_pos n (by omega)]
    have := dg_len10 n.toNat (by omega)
    omega
theorem itoaP_short {ps : List (List UInt8)} {nm : List UInt8} {xs : List Int} (h : ∀ y ∈ ps, y.length ≤ 20) (hn : nm.length ≤ 20) (hx : ∀ x ∈ xs, fineW x = true) : ∀ y ∈ itoaP ps nm xs, y.length ≤ 20 := by
  intro y hy
  simp only [itoaP, List.mem_append, List.mem_singleton, List.mem_map] at hy
  rcases hy with (hy | rfl) | ⟨x, hx', rfl⟩
  · exact h y hy
  · exact hn
  · exact itoa_len x (hx x hx')
theorem tail_app (sep : List UInt8) (a b : List (List UInt8)) : Lib.joinTail sep (a ++ b) = Lib.joinTail sep a ++ Lib.joinTail sep b := by
  simp [Lib.joinTail]
theorem tail_one (sep y : List UInt8) : Lib.joinTail sep [y] = sep ++ y := by
  simp [Lib.joinTail]
theorem tail_nums (xs : List Int) : Lib.joinTail [32] (xs.map Lib.itoa) = numsT xs := by
  simp [Lib.joinTail, numsT, List.flatMap, List.map_map, Function.comp_def]
theorem parts_len (ps : List (List UInt8)) (nm : List UInt8) (xs : List Int) : (itoaP ps nm xs).length = ps.length + 1 + xs.length := by
  simp [itoaP]
  omega
theorem RL.of_blk {w : World} {b o lo : Nat} {cs : List Value} {t : TypeId} {xs : List Int} (h : Blk w b cs t) (hb : b < lo) (hx : ∀ (j : Nat) x, xs[j]? = some x → cs[o + j]? = some (.int .i64 x)) : RL w lo (some ⟨b, o, none⟩) xs :=
  fun j x hj => ⟨b, o, rfl, hb, h.cell _ _ (hx j x hj)⟩
/-- All parts, and what they are joined to. -/
def headF (f : FR) : List (List UInt8) := if f.bad = true then itoaP (itoaP [] [112, 99] [f.pc]) [98, 97, 100] [] else itoaP [] [112, 99] [f.pc]
def partsF (f : FR) (k : Nat) : List (List UInt8) := itoaP (itoaP (itoaP (headF f) [114] f.regs) [109] f.words) [115] (f.stack.take k)
def restF (f : FR) (k : Nat) : List (List UInt8) := [f.pc].map Lib.itoa ++ ((if f.bad = true then [[98, 97, 100]] else []) ++ ([[114]] ++ (f.regs.map Lib.itoa ++ ([[109]] ++ (f.words.map Lib.itoa ++ ([[115]] ++ (f.stack.take k).map Lib.itoa))))))
theorem parts_eq (f : FR) (k : Nat) : partsF f k = [112, 99] :: restF f k := by
  unfold partsF restF headF itoaP
  cases f.bad <;> simp
theorem text_eq (f : FR) (k : Nat) (hd : f.depth = k) (hf : fineF f = true) : [112, 99] ++ Lib.joinTail [32] (restF f k) = textF f := by
  have e : textF f = [112, 99] ++ numsT [f.pc] ++ (if f.bad = true then [32, 98, 97, 100] else []) ++ [32, 114] ++ numsT f.regs ++ [32, 109] ++ numsT f.words ++ [32, 115] ++ numsT (f.stack.take f.depth.toNat) := if_neg (by rw [hf]; decide)
  rw [e, hd, Int.toNat_natCast]
  unfold restF
  simp only [tail_app, tail_nums, tail_one, List.append_assoc]
  cases f.bad <;> rfl
theorem head_len (f : FR) : (headF f).length ≤ 3 := by
  unfold headF
  split <;> simp [itoaP]

set_option maxRecDepth 100000 in
set_option maxHeartbeats 4000000 in
theorem c_ftext {f : FR} (hf : f.Ok) (w : World) (ht : EnvT w) :
    Calls Tryd.prog 11 #[.agg f.cells.toArray] w fun e w' => e = .returned (.string ⟨(textF f).toArray⟩) ∧ Below w.heap.size w w' := by
  have HX := Lib.hid (boxed w f 26)
  have C := Lib.hid (c_ffine hf (w.alloc (.cells f.cells.toArray 26)))
  have HT := Lib.hid ht
  clear ht
  cases hff : fineF f
  · rw [hff] at C
    rw [show textF f = [] from if_pos hff]
    clear hff
    go_enter Tryd.func11, Tryd.ntmps11
    go_wp2_with (first | (refine ld_prog hf HX.out.box rfl (.tmp 1) rfl rfl ?_) | (go_at_call 9; refine C.out.mono ?_; rintro e w2 ⟨rfl, hb2⟩))
    go_ret
    exact ⟨rfl, up_trans HX.out.up hb2⟩
  rw [hff] at C
  have hF := (fineF_iff f).1 hff
  obtain ⟨k, hk⟩ : ∃ k : Nat, f.depth = k := ⟨f.depth.toNat, by have := hF.d0; omega⟩
  have hk8 : k ≤ 8 := by have := hF.d1; omega
  have HTE := Lib.hid (text_eq f k hk hff)
  have HFF := Lib.hid hF
  have hc26 := FR.c_depth hf
  rw [hk] at hc26
  have HC26 := Lib.hid hc26
  have HDK := Lib.hid hk
  clear hff hF hk hc26
  go_enter Tryd.func11, Tryd.ntmps11
  go_wp2_with (first | (refine ld_prog hf HX.out.box rfl (.tmp 1) rfl rfl ?_) | (go_at_call 9; refine C.out.mono ?_; rintro e w2 ⟨rfl, hb2⟩; have HB2 := Lib.hid (HX.out.box.up hb2 HX.out.box.lt); have HQ2 := Lib.hid (up_trans HX.out.up hb2); clear hb2; have k0 := HB2.out.cell 0 _ (FR.c_pc f)))
  have hlt2 := HB2.out.lt
  have hall : ∀ x ∈ [f.pc], fineW x = true := by
    intro x hx
    obtain rfl := List.mem_singleton.1 hx
    have := HFF.out.pc0
    have := HFF.out.pc1
    exact fineW_of _ (by omega) (by omega)
  refine (c_named (lo := w2.heap.size + 1) (ps := []) (World.ownsRow_nil _ _ _ _) [112, 99] (xs := [f.pc]) (c := 1) (RL.of (RI.of_blk (Blk.new w2 [.int .i64 f.pc] 3) (o := 0) (fun j x hj => by
    match j, hj with
    | 0, hj => rw [← Option.some.inj hj]; rfl)) (by simp)) (by simp) (by simp) (by simp) hall (fun W hW => HT.out.up (HQ2.out.trans ((up_alloc w2 _).mono (Nat.le_of_lt hlt2) |>.trans (hW.mono (by omega))))) ).mono ?_
  rintro e w3 ⟨v3, rfl, own3, hb3⟩
  have hs3 : w2.heap.size + 1 ≤ w3.heap.size := by have := hb3.size; simpa using this
  have HB3 := Lib.hid ((HB2.out.alloc _).up hb3 (Nat.lt_succ_of_lt hlt2))
  have HQ3 := Lib.hid (HQ2.out.trans (((up_alloc w2 _).mono (Nat.le_of_lt hlt2)).trans (hb3.mono (by omega))))
  have OWN3 := Lib.hid own3
  obtain ⟨lo, hlo⟩ : ∃ lo, lo = w2.heap.size + 1 := ⟨_, rfl⟩
  rw [← hlo] at OWN3 hs3
  have hNlo : w.heap.size < lo := by omega
  have k1 := HB3.out.cell 1 _ (FR.c_bad f)
  clear k0 own3 hb3 hlo hlt2 hall HB2 HQ2
  have hcl := fun W => cut_low W w.heap.size k hk8
  have hlk : (f.stack.take k).length = k := by rw [List.length_take, hf.stack]; omega
  have HPE := Lib.hid (parts_eq f k)
  have HHL := Lib.hid (head_len f)
  have HIS := Lib.hid (show ∀ y ∈ headF f, y.length ≤ 20 from by
    have hpc : ∀ x ∈ [f.pc], fineW x = true := by
      intro x hx
      obtain rfl := List.mem_singleton.1 hx
      have := HFF.out.pc0
      have := HFF.out.pc1
      exact fineW_of _ (by omega) (by omega)
    unfold headF
    split
    · exact itoaP_short (itoaP_short (by simp) (by simp) hpc) (by simp) (by simp)
    · exact itoaP_short (by simp) (by simp) hpc)
  have hh : headF f = if f.bad = true then itoaP (itoaP [] [112, 99] [f.pc]) [98, 97, 100] [] else itoaP [] [112, 99] [f.pc] := rfl
  have HSTK := Lib.hid (show ∀ x ∈ f.stack.take k, fineW x = true from fun x hx => by
    obtain ⟨i, hi⟩ := List.mem_iff_getElem?.1 hx
    rw [List.getElem?_take] at hi
    split at hi
    · have := HFF.out.low i x hi (by rw [HDK.out]; omega)
      obtain ⟨a, b⟩ := (placeB_iff x).1 this
      exact fineW_of _ (by omega) (by omega)
    · cases hi)
  cases hbad : f.bad
  · rw [hbad] at k1
    rw [hbad] at hh
    rw [if_neg (by decide)] at hh
    rw [← hh] at OWN3
    clear hh
    have hpl : (headF f : List (List UInt8)).length ≤ 1000 := by
      have := HHL.out
      repeat rw [parts_len]
      first | (rw [hf.regs, hf.words]; omega) | (rw [hf.regs]; omega) | omega | (simp; done)
    have H := c_named (lo := lo) (ps := headF f) OWN3.out [114] (xs := f.regs) (c := 8) (RL.of_blk (o := 2) HB3.out hNlo (fun j x => FR.c_reg hf j x)) (by omega) hpl (by first | (simp; done) | (rw [hf.regs]; omega) | (rw [hf.words]; omega) | (rw [hlk]; omega)) HFF.out.regs (fun W hW => HT.out.up (HQ3.out.trans (hW.mono (by omega))))
    rw [hf.regs] at H
    have HH := Lib.hid H
    clear H hpl
    go_wp2_with fail
    refine HH.out.mono ?_
    rintro e w4 ⟨v4, rfl, own4, hb4⟩
    have hs4 := hb4.size
    have HB4 := Lib.hid (HB3.out.up hb4 hNlo)
    have HQ4 := Lib.hid (HQ3.out.trans (hb4.mono (by omega)))
    have OWN4 := Lib.hid own4
    clear own4 hb4 HH
    have hpl : (itoaP (headF f) [114] f.regs : List (List UInt8)).length ≤ 1000 := by
      have := HHL.out
      repeat rw [parts_len]
      first | (rw [hf.regs, hf.words]; omega) | (rw [hf.regs]; omega) | omega | (simp; done)
    have H := c_named (lo := lo) (ps := itoaP (headF f) [114] f.regs) OWN4.out [109] (xs := f.words) (c := 16) (RL.of_blk (o := 10) HB4.out hNlo (fun j x => FR.c_word hf j x)) (by omega) hpl (by first | (simp; done) | (rw [hf.regs]; omega) | (rw [hf.words]; omega) | (rw [hlk]; omega)) HFF.out.words (fun W hW => HT.out.up (HQ4.out.trans (hW.mono (by omega))))
    rw [hf.words] at H
    have HH := Lib.hid H
    clear H hpl
    go_wp2_with fail
    refine HH.out.mono ?_
    rintro e w5 ⟨v5, rfl, own5, hb5⟩
    have hs5 := hb5.size
    have HB5 := Lib.hid (HB4.out.up hb5 hNlo)
    have HQ5 := Lib.hid (HQ4.out.trans (hb5.mono (by omega)))
    have OWN5 := Lib.hid own5
    clear own5 hb5 HH
    have d5 := HB5.out.cell 26 _ HC26.out
    have hpl : (itoaP (itoaP (headF f) [114] f.regs) [109] f.words : List (List UInt8)).length ≤ 1000 := by
      have := HHL.out
      repeat rw [parts_len]
      first | (rw [hf.regs, hf.words]; omega) | (rw [hf.regs]; omega) | omega | (simp; done)
    have H := c_named (lo := lo) (ps := itoaP (itoaP (headF f) [114] f.regs) [109] f.words) OWN5.out [115] (xs := f.stack.take k) (c := 8) (RL.of_blk (o := 27) HB5.out hNlo (fun j x hj => FR.c_stack hf j x (by rw [List.getElem?_take] at hj; split at hj; exact hj; cases hj))) (by omega) hpl (by first | (simp; done) | (rw [hf.regs]; omega) | (rw [hf.words]; omega) | (rw [hlk]; omega)) HSTK.out (fun W hW => HT.out.up (HQ5.out.trans (hW.mono (by omega))))
    rw [hlk] at H
    have HH := Lib.hid H
    clear H hpl
    go_wp2_with fail
    refine HH.out.mono ?_
    rintro e w6 ⟨v6, rfl, own6, hb6⟩
    have hs6 := hb6.size
    have HB6 := Lib.hid (HB5.out.up hb6 hNlo)
    have HQ6 := Lib.hid (HQ5.out.trans (hb6.mono (by omega)))
    have OWN6 := Lib.hid own6
    clear own6 hb6 HH
    have hown : World.ownsRow w6 lo 9 1 v6 (([112, 99] :: restF f k).length) (([112, 99] :: restF f k).map strV) := by
      rw [← HPE.out]
      exact OWN6.out
    have H := Lib.hid (c_join hown (by rw [← HPE.out]; exact itoaP_short (itoaP_short (itoaP_short HIS.out (by simp) HFF.out.regs) (by simp) HFF.out.words) (by simp) HSTK.out) (by rw [← HPE.out, partsF, parts_len, parts_len, parts_len, hf.regs, hf.words, hlk]; have := HHL.out; omega))
    rw [HTE.out] at H
    clear hown
    go_wp2_with fail
    refine H.out.mono ?_
    rintro e w7 ⟨rfl, hb7⟩
    have HBZ := Lib.hid hb7
    clear hb7
    go_wp2
    go_ret
    exact ⟨rfl, up_trans HQ6.out HBZ.out⟩
  · rw [hbad] at k1
    have hpl : (itoaP [] [112, 99] [f.pc] : List (List UInt8)).length ≤ 1000 := by
      have := HHL.out
      repeat rw [parts_len]
      first | (rw [hf.regs, hf.words]; omega) | (rw [hf.regs]; omega) | omega | (simp; done)
    have H := c_named (lo := lo) (ps := itoaP [] [112, 99] [f.pc]) OWN3.out [98, 97, 100] (xs := ([] : List Int)) (c := 0) (A := none) (fun j x hj => by simp at hj) (by omega) hpl (by first | (simp; done) | (rw [hf.regs]; omega) | (rw [hf.words]; omega) | (rw [hlk]; omega)) (by simp) (fun W hW => HT.out.up (HQ3.out.trans (hW.mono (by omega))))
    have HH := Lib.hid H
    clear H hpl
    go_wp2_with fail
    refine HH.out.mono ?_
    rintro e w4 ⟨v4, rfl, own4, hb4⟩
    have hs4 := hb4.size
    have HB4 := Lib.hid (HB3.out.up hb4 hNlo)
    have HQ4 := Lib.hid (HQ3.out.trans (hb4.mono (by omega)))
    have OWN4 := Lib.hid own4
    clear own4 hb4 HH
    rw [hbad] at hh
    rw [if_pos rfl] at hh
    rw [← hh] at OWN4
    clear hh
    have hpl : (headF f : List (List UInt8)).length ≤ 1000 := by
      have := HHL.out
      repeat rw [parts_len]
      first | (rw [hf.regs, hf.words]; omega) | (rw [hf.regs]; omega) | omega | (simp; done)
    have H := c_named (lo := lo) (ps := headF f) OWN4.out [114] (xs := f.regs) (c := 8) (RL.of_blk (o := 2) HB4.out hNlo (fun j x => FR.c_reg hf j x)) (by omega) hpl (by first | (simp; done) | (rw [hf.regs]; omega) | (rw [hf.words]; omega) | (rw [hlk]; omega)) HFF.out.regs (fun W hW => HT.out.up (HQ4.out.trans (hW.mono (by omega))))
    rw [hf.regs] at H
    have HH := Lib.hid H
    clear H hpl
    go_wp2_with fail
    refine HH.out.mono ?_
    rintro e w5 ⟨v5, rfl, own5, hb5⟩
    have hs5 := hb5.size
    have HB5 := Lib.hid (HB4.out.up hb5 hNlo)
    have HQ5 := Lib.hid (HQ4.out.trans (hb5.mono (by omega)))
    have OWN5 := Lib.hid own5
    clear own5 hb5 HH
    have hpl : (itoaP (headF f) [114] f.regs : List (List UInt8)).length ≤ 1000 := by
      have := HHL.out
      repeat rw [parts_len]
      first | (rw [hf.regs, hf.words]; omega) | (rw [hf.regs]; omega) | omega | (simp; done)
    have H := c_named (lo := lo) (ps := itoaP (headF f) [114] f.regs) OWN5.out [109] (xs := f.words) (c := 16) (RL.of_blk (o := 10) HB5.out hNlo (fun j x => FR.c_word hf j x)) (by omega) hpl (by first | (simp; done) | (rw [hf.regs]; omega) | (rw [hf.words]; omega) | (rw [hlk]; omega)) HFF.out.words (fun W hW => HT.out.up (HQ5.out.trans (hW.mono (by omega))))
    rw [hf.words] at H
    have HH := Lib.hid H
    clear H hpl
    go_wp2_with fail
    refine HH.out.mono ?_
    rintro e w6 ⟨v6, rfl, own6, hb6⟩
    have hs6 := hb6.size
    have HB6 := Lib.hid (HB5.out.up hb6 hNlo)
    have HQ6 := Lib.hid (HQ5.out.trans (hb6.mono (by omega)))
    have OWN6 := Lib.hid own6
    clear own6 hb6 HH
    have d6 := HB6.out.cell 26 _ HC26.out
    have hpl : (itoaP (itoaP (headF f) [114] f.regs) [109] f.words : List (List UInt8)).length ≤ 1000 := by
      have := HHL.out
      repeat rw [parts_len]
      first | (rw [hf.regs, hf.words]; omega) | (rw [hf.regs]; omega) | omega | (simp; done)
    have H := c_named (lo := lo) (ps := itoaP (itoaP (headF f) [114] f.regs) [109] f.words) OWN6.out [115] (xs := f.stack.take k) (c := 8) (RL.of_blk (o := 27) HB6.out hNlo (fun j x hj => FR.c_stack hf j x (by rw [List.getElem?_take] at hj; split at hj; exact hj; cases hj))) (by omega) hpl (by first | (simp; done) | (rw [hf.regs]; omega) | (rw [hf.words]; omega) | (rw [hlk]; omega)) HSTK.out (fun W hW => HT.out.up (HQ6.out.trans (hW.mono (by omega))))
    rw [hlk] at H
    have HH := Lib.hid H
    clear H hpl
    go_wp2_with fail
    refine HH.out.mono ?_
    rintro e w7 ⟨v7, rfl, own7, hb7⟩
    have hs7 := hb7.size
    have HB7 := Lib.hid (HB6.out.up hb7 hNlo)
    have HQ7 := Lib.hid (HQ6.out.trans (hb7.mono (by omega)))
    have OWN7 := Lib.hid own7
    clear own7 hb7 HH
    have hown : World.ownsRow w7 lo 9 1 v7 (([112, 99] :: restF f k).length) (([112, 99] :: restF f k).map strV) := by
      rw [← HPE.out]
      exact OWN7.out
    have H := Lib.hid (c_join hown (by rw [← HPE.out]; exact itoaP_short (itoaP_short (itoaP_short HIS.out (by simp) HFF.out.regs) (by simp) HFF.out.words) (by simp) HSTK.out) (by rw [← HPE.out, partsF, parts_len, parts_len, parts_len, hf.regs, hf.words, hlk]; have := HHL.out; omega))
    rw [HTE.out] at H
    clear hown
    go_wp2_with fail
    refine H.out.mono ?_
    rintro e w8 ⟨rfl, hb8⟩
    have HBZ := Lib.hid hb8
    clear hb8
    go_wp2
    go_ret
    exact ⟨rfl, up_trans HQ7.out HBZ.out⟩
end Go.Proofs.YtdcaiecgholgiaaDoor

/- Package offers: the store's of and find. -/
import Derived.Test.YtgigcjhggpknnaaOpb
namespace Go.Proofs.Ytgigcjhggpknnaa
open Go.RowKit

/-- A new slice of one struct of five, of six cells, which append is given. -/
theorem RD.new {w : World} {cs : Array Value} {t : TypeId} {n m : Nat} (hn : n = w.heap.size) (hm : cs.size = m) : RD (w.alloc (.cells cs t)) (fun _ => True) m (some ⟨n, 0, none⟩) 1 cs.toList := by
  subst hn
  have h := Blk.new w cs.toList t
  rw [Array.toArray_toList] at h
  exact RD.of_blk h (by rw [Array.length_toList, hm, Nat.one_mul]) trivial
theorem ei_off : EI Try.prog 49 65 (.agg #[.int .i64 0, .int .i64 0, .int .i64 0, .int .i64 0, .int .i64 0, .int .i64 0]) 6 48 := ⟨Try.underlying49, by kernel_rfl, rfl, by omega, by omega⟩
theorem ofs_one (L : List OF) : ∀ u ∈ L.flatMap ofC, u.oneCell' = true := by
  intro u hu
  obtain ⟨x, _, hx⟩ := List.mem_flatMap.1 hu
  exact ofC_one x u hx
theorem gds_one (L : List GD) : ∀ u ∈ L.flatMap gdC, u.oneCell' = true := by
  intro u hu
  obtain ⟨x, _, hx⟩ := List.mem_flatMap.1 hu
  exact gdC_one x u hx
theorem ofC_two (L : List OF) (x : OF) : (L ++ [x]).flatMap ofC = L.flatMap ofC ++ ofC x := by
  rw [List.flatMap_append]
  simp
/-- One offer of a slice of them. -/
theorem RD.off {w : World} {pl : Nat → Prop} {A : Option Addr} {n : Nat} {L : List OF} (h : RD w pl 6 A n (L.flatMap ofC)) (k : Nat) (x : OF) (hx : L[k]? = some x) (hk : k < n) :
    ∃ b o, A = some ⟨b, o, none⟩ ∧ b < w.heap.size ∧ w.cell? ⟨b, o + k * 6, none⟩ = some (.int .i64 x.w) ∧ w.cell? ⟨b, o + k * 6 + 1, none⟩ = some (.int .i64 x.g.k) ∧ w.cell? ⟨b, o + k * 6 + 2, none⟩ = some (.int .i64 x.g.o) ∧ w.cell? ⟨b, o + k * 6 + 3, none⟩ = some (.int .i64 x.g.v) ∧ w.cell? ⟨b, o + k * 6 + 4, none⟩ = some (.int .i64 x.g.r) ∧ w.cell? ⟨b, o + k * 6 + 5, none⟩ = some (.int .i64 x.g.n) := by
  obtain ⟨b, o, e, _, h2, h3⟩ := h.at_ (by omega)
  have key : ∀ j u, j < 6 → (ofC x)[j]? = some u → w.cell? ⟨b, o + k * 6 + j, none⟩ = some u := fun j u hj hu => by
    have := h3 (k * 6 + j) u (by rw [flat_get ofC 6 ofC_len L k j _ hx hj]; exact hu)
    rwa [← Nat.add_assoc] at this
  exact ⟨b, o, e, h2, key 0 _ (by omega) rfl, key 1 _ (by omega) rfl, key 2 _ (by omega) rfl, key 3 _ (by omega) rfl, key 4 _ (by omega) rfl, key 5 _ (by omega) rfl⟩
/-- Offers, guards, in new memory. -/
def OsPost (w : World) (L : List OF) (e : Ending) (w' : World) : Prop := ∃ A c, e = .returned (.slice A L.length c) ∧ RD w' (w.heap.size ≤ ·) 6 A L.length (L.flatMap ofC) ∧ Below w.heap.size w w'
def GsPost (w : World) (L : List GD) (e : Ending) (w' : World) : Prop := ∃ A c, e = .returned (.slice A L.length c) ∧ RD w' (w.heap.size ≤ ·) 5 A L.length (L.flatMap gdC) ∧ Below w.heap.size w w'
theorem OsPost.of {w w' : World} {v : Value} {L : List OF} {n lo : Nat} {t : TypeId} (h : w'.ownsRow lo t 6 v n (L.flatMap ofC)) (hlo : w.heap.size ≤ lo) (hb : Below w.heap.size w w') : OsPost w L (.returned v) w' := by
  obtain ⟨A, c, rfl, h1, h2, h3⟩ := own_slice h
  obtain rfl : n = L.length := by have := h.1; rw [flat_len ofC 6 ofC_len] at this; omega
  exact ⟨A, c, rfl, h3.lo fun b hb => Nat.le_trans hlo hb, hb⟩
theorem GsPost.of {w w' : World} {v : Value} {L : List GD} {n lo : Nat} {t : TypeId} (h : w'.ownsRow lo t 5 v n (L.flatMap gdC)) (hlo : w.heap.size ≤ lo) (hb : Below w.heap.size w w') : GsPost w L (.returned v) w' := by
  obtain ⟨A, c, rfl, h1, h2, h3⟩ := own_slice h
  obtain rfl : n = L.length := by have := h.1; rw [flat_len gdC 5 gdC_len] at this; omega
  exact ⟨A, c, rfl, h3.lo fun b hb => Nat.le_trans hlo hb, hb⟩

section
variable {w : World} {t s a S b room M : Nat} {D : List OF} {τ : List Slot} {Hs : List (List Int)} {fr : Nat}
/-- The thing of a line's k-th handle, in whatever memory has grown out of this one. -/
theorem OX.get (H : OX w t s a S b room M D τ Hs fr) {p : Nat} {l : List Int} (hl : Hs[p]? = some l) {k : Nat} {h : Int} {x : OF} (hk : l[k]? = some h) (hx : (whoO D p)[k]? = some x) (W : World) (hW : Below w.heap.size w W) :
    Calls Try.prog 45 #[.pointer (some ⟨a, 0, none⟩), .int .i64 h] W fun e w' => e = .returned (.tuple #[.agg #[.int .i64 x.w, .int .i64 x.g.k, .int .i64 x.g.o, .int .i64 x.g.v, .int .i64 x.g.r, .int .i64 x.g.n], .int .i64 0]) ∧ Below W.heap.size W w' := by
  obtain ⟨k', b', s1, s2, s3⟩ := (H.iv.mt p l hl).2 k h x hk hx
  exact a_get (H.below hW).at_ h s2 k' s1 b' x s3

set_option maxHeartbeats 1000000 in
theorem c_ofind_no (H : OX w t s a S b room M D τ Hs fr) (p : Nat) (hp : p < 16) (no : Int) (hno : ∀ y ∈ whoO D p, y.g.n ≠ no) :
    Calls Try.prog 28 #[.pointer (some ⟨s, 0, none⟩), .int .i64 (p : Int), .int .i64 no] w fun e w' => e = .returned (.tuple #[.int .i64 0, .bool false]) ∧ Below w.heap.size w w' := by
  obtain ⟨l, hl, hll⟩ := H.iv.line hp
  have CL := Lib.hid (c_list H.pa p l hl)
  have HX := Lib.hid H
  have HNO := Lib.hid hno
  have HL := Lib.hid hl
  have hln : l.length ≤ 1024 := by have := who_len D p; have := H.room_; have := H.r2; omega
  have s0 := H.s0
  have s1 := H.s1
  clear H hl hno
  go_enter Try.func28, Try.ntmps28
  go_wp2_with (go_at_call 44; refine Calls.mono CL.out ?_; rintro e w2 ⟨A, c, rfl, h1, h2, h3, h4⟩)
  have HRD := Lib.hid h3
  have hb2 := h4
  clear s0 s1 h1 h2 h3 h4
  go_loopw [9, 10, 11, 19] (fun _ _ _ i wr => ∃ k : Nat, k ≤ l.length ∧ i = .int .i64 k ∧ Below w2.heap.size w2 wr) (fun _ _ _ i _ => l.length - (intOf i).toNat)
  case atStart => exact ⟨0, Nat.zero_le _, rfl, Below.refl _ _⟩
  case round =>
    obtain ⟨k, hk, rfl, hb⟩ := hrel
    have HB := Lib.hid hb
    have hbw := up_trans hb2 hb
    have s0 := (HX.out.below hbw).s0
    clear hb
    by_cases hlt : k < l.length
    · obtain ⟨bA, oA, rfl, _, hlb, hcA⟩ := (HRD.out.below HB.out).at_ (by omega)
      replace hcA := hcA k (.int .i64 l[k]) (by simp [hlt])
      have hx : (whoO D p)[k]? = some ((whoO D p)[k]'(by omega)) := List.getElem?_eq_getElem (by omega)
      have CG := Lib.hid (HX.out.get HL.out (List.getElem?_eq_getElem hlt) hx wr hbw)
      have hne := HNO.out _ (List.mem_of_getElem? hx)
      generalize l[k] = h at hcA CG
      generalize (whoO D p)[k]'(by omega) = x at CG hne
      have tn : (x.g.n == no) = false := beq_eq_false_iff_ne.2 hne
      clear hx hne
      go_wp2_with (go_at_call 45; refine Calls.mono CG.out ?_; rintro e w3 ⟨rfl, hb3⟩)
      go_roundw
      case rel => exact ⟨k + 1, by omega, by go_num, up_trans (up_trans HB.out hb3) (up_alloc _ _)⟩
      case measure => simp [intOf]; omega
    · obtain rfl : k = l.length := by omega
      go_wp2
      go_ret2
      exact ⟨rfl, hbw⟩
set_option maxHeartbeats 1000000 in
theorem c_ofind_yes (H : OX w t s a S b room M D τ Hs fr) (p : Nat) (l : List Int) (hl : Hs[p]? = some l) (no : Int) (i : Nat) (z : Int) (o : OF) (hz : l[i]? = some z) (ho : (whoO D p)[i]? = some o) (hon : o.g.n = no) (hno : ∀ y ∈ (whoO D p).take i, y.g.n ≠ no) :
    Calls Try.prog 28 #[.pointer (some ⟨s, 0, none⟩), .int .i64 (p : Int), .int .i64 no] w fun e w' => e = .returned (.tuple #[.int .i64 z, .bool true]) ∧ Below w.heap.size w w' := by
  have hll := (H.iv.mt p l hl).1
  have CL := Lib.hid (c_list H.pa p l hl)
  have HX := Lib.hid H
  have HNO := Lib.hid hno
  have HL := Lib.hid hl
  have HZ := Lib.hid hz
  have HO' := Lib.hid ho
  have hil := (List.getElem?_eq_some_iff.1 hz).1
  have hln : l.length ≤ 1024 := by have := who_len D p; have := H.room_; have := H.r2; omega
  have s0 := H.s0
  have s1 := H.s1
  have tn : (o.g.n == no) = true := by rw [hon]; exact beq_self_eq_true _
  clear H hl hno hz ho hon
  go_enter Try.func28, Try.ntmps28
  go_wp2_with (go_at_call 44; refine Calls.mono CL.out ?_; rintro e w2 ⟨A, c, rfl, h1, h2, h3, h4⟩)
  have HRD := Lib.hid h3
  have hb2 := h4
  clear s0 s1 h1 h2 h3 h4
  go_loopw [9, 10, 11, 19] (fun _ _ _ j wr => ∃ k : Nat, k ≤ i ∧ j = .int .i64 k ∧ Below w2.heap.size w2 wr) (fun _ _ _ j _ => i - (intOf j).toNat)
  case atStart => exact ⟨0, Nat.zero_le _, rfl, Below.refl _ _⟩
  case round =>
    obtain ⟨k, hk, rfl, hb⟩ := hrel
    have HB := Lib.hid hb
    have hbw := up_trans hb2 hb
    have s0 := (HX.out.below hbw).s0
    have hlt : k < l.length := by omega
    clear hb
    obtain ⟨bA, oA, rfl, _, hlb, hcA⟩ := (HRD.out.below HB.out).at_ (by omega)
    replace hcA := hcA k (.int .i64 l[k]) (by simp [hlt])
    by_cases hki : k < i
    · have hx : (whoO D p)[k]? = some ((whoO D p)[k]'(by omega)) := List.getElem?_eq_getElem (by omega)
      have CG := Lib.hid (HX.out.get HL.out (List.getElem?_eq_getElem hlt) hx wr hbw)
      have hne := HNO.out ((whoO D p)[k]'(by omega)) (List.mem_of_getElem? (i := k) (by rw [List.getElem?_take_of_lt hki]; exact hx))
      generalize l[k] = h at hcA CG
      generalize (whoO D p)[k]'(by omega) = x at CG hne
      have tn2 : (x.g.n == no) = false := beq_eq_false_iff_ne.2 hne
      clear hx hne
      go_wp2_with (go_at_call 45; refine Calls.mono CG.out ?_; rintro e w3 ⟨rfl, hb3⟩)
      go_roundw
      case rel => exact ⟨k + 1, by omega, by go_num, up_trans (up_trans HB.out hb3) (up_alloc _ _)⟩
      case measure => simp [intOf]; omega
    · obtain rfl : k = i := by omega
      have CG := Lib.hid (HX.out.get HL.out HZ.out HO'.out wr hbw)
      have ez : l[k] = z := by
        have := HZ.out
        rw [List.getElem?_eq_getElem hlt] at this
        exact Option.some.inj this
      rw [ez] at hcA
      clear ez
      go_wp2_with (go_at_call 45; refine Calls.mono CG.out ?_; rintro e w3 ⟨rfl, hb3⟩)
      go_ret2
      exact ⟨rfl, up_trans (up_trans hbw hb3) (up_alloc _ _)⟩
set_option maxHeartbeats 1000000 in
theorem c_oof (H : OX w t s a S b room M D τ Hs fr) (p : Nat) (hp : p < 16) :
    Calls Try.prog 35 #[.pointer (some ⟨s, 0, none⟩), .int .i64 (p : Int)] w (OsPost w (whoO D p)) := by
  obtain ⟨l, hl, hll⟩ := H.iv.line hp
  have CL := Lib.hid (c_list H.pa p l hl)
  have HX := Lib.hid H
  have HL := Lib.hid hl
  have hln : l.length ≤ 1024 := by have := who_len D p; have := H.room_; have := H.r2; omega
  have s0 := H.s0
  have s1 := H.s1
  clear H hl
  go_enter Try.func35, Try.ntmps35
  go_wp2_with (go_at_call 44; refine Calls.mono CL.out ?_; rintro e w2 ⟨A, c, rfl, h1, h2, h3, h4⟩)
  have HRD := Lib.hid h3
  have hb2 := h4
  have hs2 := hb2.size
  clear s0 s1 h1 h2 h3 h4
  go_loopw [5, 7, 8, 9, 17] (fun v _ _ _ i wr => ∃ k : Nat, k ≤ l.length ∧ i = .int .i64 k ∧ wr.ownsRow w2.heap.size 65 6 v ((whoO D p).take k).length (((whoO D p).take k).flatMap ofC) ∧ Below w2.heap.size w2 wr) (fun _ _ _ _ i _ => l.length - (intOf i).toNat)
  case atStart => exact ⟨0, Nat.zero_le _, rfl, World.ownsRow_nil _ _ _ _, Below.refl _ _⟩
  case round =>
    obtain ⟨k, hk, rfl, hown, hb⟩ := hrel
    have HB := Lib.hid hb
    have HOWN := Lib.hid hown
    have hbw := up_trans hb2 hb
    have hsz := hb.size
    have s0 := (HX.out.below hbw).s0
    clear hb hown
    by_cases hlt : k < l.length
    · obtain ⟨bA, oA, rfl, _, hlb, hcA⟩ := (HRD.out.below HB.out).at_ (by omega)
      replace hcA := hcA k (.int .i64 l[k]) (by simp [hlt])
      have hx : (whoO D p)[k]? = some ((whoO D p)[k]'(by omega)) := List.getElem?_eq_getElem (by omega)
      have CG := Lib.hid (HX.out.get HL.out (List.getElem?_eq_getElem hlt) hx wr hbw)
      have HN := Lib.hid (take_next (whoO D p) k _ hx)
      have htl : ((whoO D p).take k).length ≤ 1024 := by rw [List.length_take]; omega
      generalize l[k] = h at hcA CG
      generalize (whoO D p)[k]'(by omega) = x at CG HN
      clear hx
      go_wp2_with (first | (go_at_call 45; refine Calls.mono CG.out ?_; rintro e w3 ⟨rfl, hb3⟩) | (at_builtin; refine wpList_app ei_off rfl (.tmp 30) (.tmp 32) rfl _ _ rfl ((own_below HOWN.out (up_trans hb3 (up_alloc _ _))).alloc _) rfl (RD.new (by simp) rfl) (fun u hu => ofC_one x u hu) (by omega) (by have := hb3.size; simp; omega) ?_; intro v' w4 hown4 hb4))
      go_roundw
      case rel => exact ⟨k + 1, by omega, by go_num, by rw [HN.out, List.flatMap_append, List.length_append]; exact hown4, (((HB.out.trans (hb3.mono hsz)).trans (up_alloc _ _ |>.mono (by have := hb3.size; omega))).trans ((up_alloc _ _).mono (by have := hb3.size; simp; omega))).trans hb4⟩
      case measure => simp [intOf]; omega
    · obtain rfl : k = l.length := by omega
      have hown := HOWN.out
      rw [List.take_of_length_le (by omega)] at hown
      have HE := Lib.hid (OsPost.of hown hs2 hbw)
      clear hown
      go_wp2
      go_ret
      exact HE.out
end
end Go.Proofs.Ytgigcjhggpknnaa

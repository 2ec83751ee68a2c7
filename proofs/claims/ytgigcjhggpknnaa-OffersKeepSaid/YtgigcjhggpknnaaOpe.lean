/- Package offers: New, Of, On. -/
import Derived.Test.YtgigcjhggpknnaaOpd
import Derived.WalkMore
import Derived.Test.YtgigcjhggpknnaaNe
namespace Go.Proofs.Ytgigcjhggpknnaa
open Go.RowKit

/-- How many offers the first processes have. -/
def cntO (D : List OF) (q : Nat) : Nat := ((List.range q).map fun p : Nat => (whoO D p).length).sum
theorem cnt_next (D : List OF) (q : Nat) : cntO D (q + 1) = cntO D q + (whoO D q).length := by
  unfold cntO
  rw [List.range_succ, List.map_append, List.sum_append]
  simp
theorem cnt_cons (x : OF) (D : List OF) (h : 0 ≤ x.w) : ∀ q : Nat, cntO (x :: D) q = cntO D q + if x.w < q then 1 else 0
  | 0 => by
    rw [if_neg (by omega)]
    rfl
  | q + 1 => by
    rw [cnt_next, cnt_next, cnt_cons x D h q]
    unfold whoO
    rw [List.filter_cons]
    by_cases e : x.w = q
    · rw [show isW q x = true by unfold isW; rw [e]; exact beq_self_eq_true _, if_pos rfl, List.length_cons, if_neg (by omega), if_pos (by omega)]
      omega
    · rw [show isW q x = false by unfold isW; exact beq_eq_false_iff_ne.2 e, if_neg (show ¬ (false = true) by decide)]
      by_cases e2 : x.w < q
      · rw [if_pos e2, if_pos (by omega)]
        omega
      · rw [if_neg e2, if_neg (by omega)]
        omega
theorem cnt_all : ∀ (D : List OF), (∀ x ∈ D, 0 ≤ x.w ∧ x.w < 16) → cntO D 16 = D.length
  | [], _ => rfl
  | x :: D, h => by
    have hx := h x List.mem_cons_self
    rw [cnt_cons x D hx.1, cnt_all D fun y hy => h y (List.mem_cons_of_mem _ hy), if_pos (by omega)]
    rfl
theorem cnt_mono (D : List OF) (q : Nat) : ∀ n : Nat, cntO D q ≤ cntO D (q + n)
  | 0 => Nat.le_refl _
  | n + 1 => by
    have := cnt_mono D q n
    have e := cnt_next D (q + n)
    rw [show q + (n + 1) = q + n + 1 by omega, e]
    omega
theorem cnt_le {D : List OF} (h : ∀ x ∈ D, 0 ≤ x.w ∧ x.w < 16) {q : Nat} (hq : q ≤ 16) : cntO D q ≤ D.length := by
  have := cnt_mono D q (16 - q)
  rw [show q + (16 - q) = 16 by omega, cnt_all D h] at this
  exact this
def rowO (D : List OF) (k o : Int) (q : Nat) : List OF := (List.range q).flatMap (onL D k o)
theorem row_next (D : List OF) (k o : Int) (q : Nat) : rowO D k o (q + 1) = rowO D k o q ++ onL D k o q := by
  unfold rowO
  rw [List.range_succ, List.flatMap_append]
  simp
theorem row_len (D : List OF) (k o : Int) : ∀ q : Nat, (rowO D k o q).length ≤ cntO D q
  | 0 => Nat.le_refl _
  | q + 1 => by
    rw [row_next, cnt_next, List.length_append]
    have := row_len D k o q
    have : (onL D k o q).length ≤ (whoO D q).length := List.length_filter_le _ _
    omega
/-- When all are seen, nobody behind has any. -/
theorem on_done {D : List OF} (h : ∀ x ∈ D, 0 ≤ x.w ∧ x.w < 16) (k o : Int) {q j : Nat} (hq : q < 16) (e : cntO D q + j = D.length) (hj : j ≤ (whoO D q).length) : onO D k o = rowO D k o q ++ ((whoO D q).take j).filter (onB k o) := by
  have h1 := cnt_le h (q := q + 1) (by omega)
  have h2 := cnt_next D q
  have hjl : j = (whoO D q).length := by omega
  rw [hjl, List.take_length]
  have key : ∀ n, q + 1 + n ≤ 16 → rowO D k o (q + 1 + n) = rowO D k o (q + 1) := by
    intro n
    induction n with
    | zero => exact fun _ => rfl
    | succ n ih =>
      intro hn
      rw [show q + 1 + (n + 1) = q + 1 + n + 1 by omega, row_next, ih (by omega)]
      have h3 := cnt_le h (q := q + 1 + n + 1) (by omega)
      have h4 := cnt_next D (q + 1 + n)
      have h5 := cnt_mono D (q + 1) n
      have : whoO D ((q + 1 + n : Nat) : Int) = [] := List.eq_nil_of_length_eq_zero (by omega)
      unfold onL
      rw [this]
      simp
  have := key (15 - q) (by omega)
  rw [show q + 1 + (15 - q) = 16 by omega] at this
  show rowO D k o 16 = _
  rw [this, row_next]
  rfl
def ofL (D : List OF) (who : Int) : List GD := (whoO D who).map (·.g)

theorem on_below {w w' w'' : World} {lo size n : Nat} {t : TypeId} {v : Value} {xs : List Value} (h : w.ownsRow lo t size v n xs) {w0 : World} (hb : Below lo w0 w') (hg : w'.grownBy w'' v.ownBlock) (hl : lo ≤ w'.heap.size) : Below lo w0 w'' :=
  hb.grown hg hl fun k hk => (own_blk h k hk).1
theorem ei_gd : EI Try.prog 44 34 (.agg #[.int .i64 0, .int .i64 0, .int .i64 0, .int .i64 0, .int .i64 0]) 5 40 := ⟨Try.underlying44, by kernel_rfl, rfl, by omega, by omega⟩
theorem OsPost.empty (w : World) : OsPost w [] (.returned (.slice none 0 0)) w := ⟨none, 0, rfl, RD.nil _ _ _ _, Below.refl _ _⟩
theorem GsPost.empty (w : World) : GsPost w [] (.returned (.slice none 0 0)) w := ⟨none, 0, rfl, RD.nil _ _ _ _, Below.refl _ _⟩
section
variable {w : World} {t s a S b room M : Nat} {D : List OF}
theorem OT.out_rng (H : OT w t s a S b room M D) {who : Int} (h : oRng who = true) : whoO D who = [] := by
  refine List.filter_eq_nil_iff.2 fun x hx e => ?_
  have h1 := H.who x hx
  have h2 := oRng_yes h
  have h3 : x.w = who := eq_of_beq e
  omega
set_option maxRecDepth 100000 in
set_option maxHeartbeats 1000000 in
theorem c_oOf (H : OT w t s a S b room M D) (who : Int) :
    Calls Try.prog 16 #[.pointer (some ⟨t, 0, none⟩), .int .i64 who] w (GsPost w (ofL D who)) := by
  have CK := c_olook H who
  cases hr : oRng who
  · obtain ⟨p, rfl, hp⟩ := oRng_no hr
    rw [show olkE (p : Int) = 0 by unfold olkE; rw [hr]; rfl] at CK
    have CK := Lib.hid CK
    have hln : (whoO D p).length ≤ 1024 := by have := who_len D p; have := H.room_; omega
    obtain ⟨τ, Hs, fr, X⟩ := H
    have CO := Lib.hid (c_oof X p hp)
    have c0 := X.c0
    unfold ofL
    generalize whoO D p = q at CO hln
    clear X hr
    go_enter Try.func16, Try.ntmps16
    go_wp2_with (first | (go_at_call 25; refine Calls.mono CK.out ?_; rintro e w' ⟨rfl, rfl⟩) | (go_at_call 35; refine Calls.mono CO.out ?_; rintro e w2 ⟨A, c, rfl, h1, hb2⟩))
    have HRD := Lib.hid h1
    have hs2 := hb2.size
    clear h1
    go_loopw [5, 7, 19] (fun v _ i wr => ∃ k : Nat, k ≤ q.length ∧ i = .int .i64 k ∧ wr.ownsRow w2.heap.size 34 5 v (q.take k).length (((q.take k).map (·.g)).flatMap gdC) ∧ Below w2.heap.size w2 wr) (fun _ _ i _ => q.length - (intOf i).toNat)
    case atStart => exact ⟨0, Nat.zero_le _, rfl, World.ownsRow_nil _ _ _ _, Below.refl _ _⟩
    case round =>
      obtain ⟨k, hk, rfl, hown, hb⟩ := hrel
      have HB := Lib.hid hb
      have HOWN := Lib.hid hown
      have hsz := hb.size
      clear hb hown
      by_cases hlt : k < q.length
      · have hx : q[k]? = some q[k] := List.getElem?_eq_getElem hlt
        obtain ⟨bA, oA, rfl, hlb, a0, a1, a2, a3, a4, a5⟩ := (HRD.out.below HB.out).off k _ hx hlt
        have HN := Lib.hid (take_next q k _ hx)
        have htl : (q.take k).length ≤ 1024 := by rw [List.length_take]; omega
        generalize q[k] = x at a0 a1 a2 a3 a4 a5 HN
        clear hx
        go_wp2_with (at_builtin; refine wpList_app ei_gd rfl (.tmp 23) (.tmp 26) rfl _ _ rfl ((own_below HOWN.out (up_alloc _ _)).alloc _) rfl (RD.new (by simp) rfl) (fun u hu => gdC_one x.g u hu) (by omega) (by simp; omega) ?_; intro v' w4 hown4 hb4)
        go_roundw
        case rel => exact ⟨k + 1, by omega, by go_num, by rw [HN.out, List.map_append, List.flatMap_append, List.length_append]; exact hown4, ((HB.out.trans ((up_alloc _ _).mono hsz)).trans ((up_alloc _ _).mono (by simp; omega))).trans hb4⟩
        case measure => simp [intOf]; omega
      · obtain rfl : k = q.length := by omega
        have hown := HOWN.out
        rw [List.take_length] at hown
        have HE := Lib.hid (GsPost.of hown hs2 (up_trans hb2 HB.out))
        clear hown
        go_wp2
        go_ret
        exact HE.out
  · rw [show olkE who = 8 by unfold olkE; rw [hr]; rfl] at CK
    have CK := Lib.hid CK
    unfold ofL
    rw [H.out_rng hr]
    clear H hr
    go_enter Try.func16, Try.ntmps16
    go_wp2_with (go_at_call 25; refine Calls.mono CK.out ?_; rintro e w' ⟨rfl, rfl⟩)
    go_ret
    exact GsPost.empty _

set_option maxRecDepth 100000 in
set_option maxHeartbeats 4000000 in
theorem c_oOn (H : OT w t s a S b room M D) (kk oo : Int) :
    Calls Try.prog 20 #[.pointer (some ⟨t, 0, none⟩), .int .i64 kk, .int .i64 oo] w (OsPost w (onO D kk oo)) := by
  have CN := Lib.hid (c_onob H)
  have CL := Lib.hid (c_olen H)
  have HW := Lib.hid H.who
  have hln : D.length ≤ 1024 := by have := H.room_; omega
  obtain ⟨τ, Hs, fr, X⟩ := H
  have HX := Lib.hid X
  clear X
  go_enter Try.func20, Try.ntmps20
  go_wp2
  go_step3
  go_wp2_with (first | (go_at_call 36; refine Calls.mono CN.out ?_; rintro e w' ⟨rfl, rfl⟩) | (go_at_call 22; refine Calls.mono CL.out ?_; rintro e w2 ⟨rfl, hb2⟩))
  go_step3
  go_wp2
  have hs2 := hb2.size
  have HB2 := Lib.hid hb2
  clear hb2
  go_loopw [7, 8, 9, 16] (fun v l _ i wr => ∃ q : Nat, q ≤ 16 ∧ i = .int .i64 q ∧ l = .int .i64 ((D.length : Int) - cntO D q) ∧ wr.ownsRow w2.heap.size 65 6 v (rowO D kk oo q).length ((rowO D kk oo q).flatMap ofC) ∧ Below w2.heap.size w2 wr) (fun _ _ _ i _ => 16 - (intOf i).toNat)
  case atStart => exact ⟨0, by omega, rfl, by rw [show cntO D 0 = 0 from rfl]; go_num, World.ownsRow_nil _ _ _ _, Below.refl _ _⟩
  case round =>
    obtain ⟨q, hq, rfl, rfl, hown, hb⟩ := hrel
    have HB := Lib.hid hb
    have HOWN := Lib.hid hown
    have hsz := hb.size
    have c0 := (HX.out.below (up_trans HB2.out hb)).c0
    clear hb hown
    by_cases hq16 : q < 16
    · have CO := Lib.hid (c_oof (HX.out.below (up_trans HB2.out HB.out)) q hq16)
      have hcl := cnt_le HW.out (q := q + 1) (by omega)
      rw [cnt_next] at hcl
      have hrl := row_len D kk oo q
      have HRN := Lib.hid (row_next D kk oo q)
      have HCN := Lib.hid (cnt_next D q)
      have HD := Lib.hid (fun j (e : cntO D q + j = D.length) (hj : j ≤ (whoO D q).length) => on_done HW.out kk oo hq16 e hj)
      have HQ := Lib.hid (show onL D kk oo q = (whoO D q).filter (onB kk oo) from rfl)
      generalize whoO D q = xs at CO hcl HCN HD HQ
      generalize hcn : cntO D q = cn at hcl hrl HCN HD
      generalize rowO D kk oo q = R at HOWN hrl HRN HD
      clear hcn
      go_wp2_with (go_at_call 35; refine Calls.mono CO.out ?_; rintro e w3 ⟨A, c, rfl, h1, hb3⟩)
      have HRD := Lib.hid h1
      have hs3 := hb3.size
      have HB3 := Lib.hid hb3
      have HOWN3 := Lib.hid (own_below HOWN.out hb3)
      have HV := Lib.hid (fun g e => by obtain ⟨_, cs, hB⟩ := own_blk HOWN.out g e; exact hB.lt)
      clear h1 hb3 HOWN c0
      go_loopw [7, 8, 11, 26] (fun v l _ i w4 => ∃ (j : Nat) (z : Int), j ≤ xs.length ∧ i = .int .i64 j ∧ (D.length : Int) - cn - j = z ∧ l = .int .i64 z ∧ w4.ownsRow w2.heap.size 65 6 v (R ++ (xs.take j).filter (onB kk oo)).length ((R ++ (xs.take j).filter (onB kk oo)).flatMap ofC) ∧ Below w2.heap.size w2 w4 ∧ (∀ g, v.ownBlock = some g → g < wr.heap.size ∨ w3.heap.size ≤ g) ∧ Only (fun b => w2.heap.size ≤ b ∧ b < wr.heap.size) w3 w4) (fun _ _ _ i _ => xs.length - (intOf i).toNat)
      case atStart => exact ⟨0, (D.length : Int) - cn, Nat.zero_le _, rfl, by omega, rfl, by rw [List.take_zero, List.filter_nil, List.append_nil]; exact HOWN3.out, HB.out.trans (HB3.out.mono hsz), fun g e => .inl (HV.out g e), Only.refl _ _⟩
      case round =>
        rename World => w4
        obtain ⟨j, z, hj, rfl, hz, rfl, hown4, hb4, hv4, hb34⟩ := hrel
        have HV4 := Lib.hid hv4
        clear hv4
        have HZ := Lib.hid hz
        clear hz
        have HOWN4 := Lib.hid hown4
        have HB4 := Lib.hid hb4
        have HB34 := Lib.hid hb34
        have hs4 := hb4.size
        clear hown4 hb4 hb34
        by_cases hjl : j < xs.length
        · have hx : xs[j]? = some xs[j] := List.getElem?_eq_getElem hjl
          obtain ⟨bA, oA, rfl, hlb, a0, a1, a2, a3, a4, a5⟩ := (HRD.out.only HB34.out (fun k h1 h2 => by have := h1.2; omega)).off j _ hx hjl
          have HN := Lib.hid (take_next xs j _ hx)
          have htl : (R ++ (xs.take j).filter (onB kk oo)).length ≤ 2048 := by
            rw [List.length_append]
            have h1 := List.length_filter_le (onB kk oo) (xs.take j)
            rw [List.length_take] at h1
            omega
          generalize xs[j] = x at a0 a1 a2 a3 a4 a5 HN
          clear hx
          have hl0 : (0 : Int) < z ∧ z ≤ 1024 := by have := HZ.out; omega
          have hs34 := HB34.out.size
          cases tk : (x.g.k == kk)
          · have HF := Lib.hid (show (xs.take (j + 1)).filter (onB kk oo) = (xs.take j).filter (onB kk oo) by rw [HN.out, List.filter_append, List.filter_cons, show onB kk oo x = false by unfold onB; rw [tk]; rfl]; simp)
            by_cases hz : z = 1
            · have tz : (z - 1 == 0) = true := by rw [hz]; rfl
              have HE := Lib.hid (HD.out (j + 1) (by have := HZ.out; omega) (by omega))
              go_wp2_with fail
              go_ret
              have hown5 := own_below HOWN4.out (up_alloc w4 (.cells #[.int .i64 x.w, .int .i64 x.g.k, .int .i64 x.g.o, .int .i64 x.g.v, .int .i64 x.g.r, .int .i64 x.g.n] 65))
              rw [← HF.out, ← HE.out] at hown5
              exact OsPost.of hown5 hs2 (HB2.out.trans ((HB4.out.trans ((up_alloc _ _).mono hs4)).mono hs2))
            · have tz : (z - 1 == 0) = false := beq_eq_false_iff_ne.2 (by omega)
              go_wp2_with fail
              go_roundw
              case rel => exact ⟨j + 1, z - 1, by omega, by go_num, by have := HZ.out; omega, by go_num, by rw [HF.out]; exact own_below HOWN4.out (up_alloc _ _), HB4.out.trans ((up_alloc _ _).mono hs4), HV4.out, HB34.out.alloc _⟩
              case measure => simp [intOf]; omega
          · cases ko : (x.g.o == oo)
            · have HF := Lib.hid (show (xs.take (j + 1)).filter (onB kk oo) = (xs.take j).filter (onB kk oo) by rw [HN.out, List.filter_append, List.filter_cons, show onB kk oo x = false by unfold onB; rw [tk, ko]; rfl]; simp)
              by_cases hz : z = 1
              · have tz : (z - 1 == 0) = true := by rw [hz]; rfl
                have HE := Lib.hid (HD.out (j + 1) (by have := HZ.out; omega) (by omega))
                go_wp2_with fail
                go_ret
                have hown5 := own_below HOWN4.out (up_alloc w4 (.cells #[.int .i64 x.w, .int .i64 x.g.k, .int .i64 x.g.o, .int .i64 x.g.v, .int .i64 x.g.r, .int .i64 x.g.n] 65))
                rw [← HF.out, ← HE.out] at hown5
                exact OsPost.of hown5 hs2 (HB2.out.trans ((HB4.out.trans ((up_alloc _ _).mono hs4)).mono hs2))
              · have tz : (z - 1 == 0) = false := beq_eq_false_iff_ne.2 (by omega)
                go_wp2_with fail
                go_roundw
                case rel => exact ⟨j + 1, z - 1, by omega, by go_num, by have := HZ.out; omega, by go_num, by rw [HF.out]; exact own_below HOWN4.out (up_alloc _ _), HB4.out.trans ((up_alloc _ _).mono hs4), HV4.out, HB34.out.alloc _⟩
                case measure => simp [intOf]; omega
            · have HF := Lib.hid (show (xs.take (j + 1)).filter (onB kk oo) = (xs.take j).filter (onB kk oo) ++ [x] by rw [HN.out, List.filter_append, List.filter_cons, show onB kk oo x = true by unfold onB; rw [tk, ko]; rfl]; simp)
              by_cases hz : z = 1
              · have tz : (z - 1 == 0) = true := by rw [hz]; rfl
                have HE := Lib.hid (HD.out (j + 1) (by have := HZ.out; omega) (by omega))
                go_wp2_with (at_builtin; go_loud (refine wpList_app3 ei_off rfl (.tmp 42) (.tmp 44) rfl u7 _ rfl ((own_below HOWN4.out (up_alloc _ _)).alloc _) rfl (RD.new (by simp) rfl) (fun u hu => ofC_one x u hu) (by omega) (by simp; omega) ?_); intro v' w5 hown5 hg5 hv5)
                go_ret
                have h6 : w5.ownsRow w2.heap.size 65 6 v' (R ++ (xs.take j).filter (onB kk oo) ++ [x]).length ((R ++ (xs.take j).filter (onB kk oo) ++ [x]).flatMap ofC) := by
                  rw [ofC_two, List.length_append]
                  exact hown5
                rw [List.append_assoc, ← HF.out, ← HE.out] at h6
                exact OsPost.of h6 hs2 (HB2.out.trans (((on_below (HOWN4.out) ((HB4.out.trans ((up_alloc _ _).mono hs4)).trans ((up_alloc _ _).mono (by simp; omega))) hg5 (by simp; omega))).mono hs2))
              · have tz : (z - 1 == 0) = false := beq_eq_false_iff_ne.2 (by omega)
                go_wp2_with (at_builtin; go_loud (refine wpList_app3 ei_off rfl (.tmp 42) (.tmp 44) rfl u7 _ rfl ((own_below HOWN4.out (up_alloc _ _)).alloc _) rfl (RD.new (by simp) rfl) (fun u hu => ofC_one x u hu) (by omega) (by simp; omega) ?_); intro v' w5 hown5 hg5 hv5)
                go_roundw
                case rel => exact ⟨j + 1, z - 1, by omega, by go_num, by have := HZ.out; omega, by go_num, by rw [HF.out, ← List.append_assoc, ofC_two, List.length_append]; exact hown5, (on_below (HOWN4.out) ((HB4.out.trans ((up_alloc _ _).mono hs4)).trans ((up_alloc _ _).mono (by simp; omega))) hg5 (by simp; omega)), fun g e => (hv5 g e).elim (fun h => HV4.out g h) (fun h => .inr (by simp at h; omega)), ((HB34.out.alloc _).alloc _).grown hg5 (fun g e => (HV4.out g e).imp (fun h => ⟨(own_blk HOWN4.out g e).1, h⟩) id)⟩
                case measure => simp [intOf]; omega
        · obtain rfl : j = xs.length := by omega
          have hown5 := HOWN4.out
          rw [List.take_length, ← HQ.out, ← HRN.out] at hown5
          have HO5 := Lib.hid hown5
          clear hown5
          go_wp2_with fail
          go_roundw
          case rel => exact ⟨q + 1, by omega, by go_num, by rw [HCN.out]; have := HZ.out; go_num, HO5.out, HB4.out⟩
          case measure => simp [intOf]; omega
    · obtain rfl : q = 16 := by omega
      have HE := Lib.hid (OsPost.of HOWN.out hs2 (up_trans HB2.out HB.out))
      go_wp2
      go_ret
      exact HE.out
end
end Go.Proofs.Ytgigcjhggpknnaa

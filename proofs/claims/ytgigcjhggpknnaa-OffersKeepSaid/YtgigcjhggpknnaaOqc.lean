/- The document's Clear, Of, On and Same; the law's back; layer 15's SameGuards. (Written by wip/tools/gen26/gendon.py.) -/
import Derived.Test.YtgigcjhggpknnaaOqb
import Derived.Test.YtgigcjhggpknnaaOpe
import Derived.Laws.StructEq
namespace Go.Proofs.Ytgigcjhggpknnaa
open Go.RowKit

theorem gdC_two (L : List GD) (x : GD) : (L ++ [x]).flatMap gdC = L.flatMap gdC ++ gdC x := by
  rw [List.flatMap_append]
  simp
set_option maxRecDepth 100000 in
set_option maxHeartbeats 4000000 in
theorem d_clear {w : World} {pl : Nat → Prop} {D : List OF} {A : Option Addr} {c : Nat} (h : DO w pl D A c) (hq : ∀ b, w.heap.size ≤ b → pl b) (room who : Int) :
    Calls Try.prog 10 #[.agg #[.int .i64 room, .slice A D.length c], .int .i64 who] w (DPost w pl room (clO D who) ((D.length : Int) - (clO D who).length)) := by
  have hX := dx_of w room (.slice A D.length c)
  generalize hw1 : (w.alloc (.cells #[.int .i64 room, .slice A D.length c] 30)).alloc (.cells #[.int .i64 0, .slice none 0 0] 30) = w1 at hX
  have HW1 := Lib.hid hw1
  have HX := Lib.hid hX
  have HQ := Lib.hid hq
  have HRD := Lib.hid (h.below hX.up).rd
  have hf := h.few
  have hz1 := hX.res.lt
  clear hw1 h hq hX
  go_enter Try.func10, Try.ntmps10
  go_wp2_with fail
  rw [HW1.out]
  go_loopw [6, 7] (fun v i wr => ∃ k : Nat, k ≤ D.length ∧ i = .int .i64 k ∧ wr.ownsRow w1.heap.size 75 6 v ((D.take k).filter fun x => !isW who x).length (((D.take k).filter fun x => !isW who x).flatMap ofC) ∧ Below w1.heap.size w1 wr) (fun _ i _ => D.length - (intOf i).toNat)
  case atStart => exact ⟨0, Nat.zero_le _, rfl, World.ownsRow_nil _ _ _ _, Below.refl _ _⟩
  case round =>
    obtain ⟨k, hk, rfl, hown, hb⟩ := hrel
    have HB := Lib.hid hb
    have HOWN := Lib.hid hown
    have hsz := hb.size
    have hX2 := HX.out.next hb
    have c0 := hX2.box.cell 0 _ rfl
    have c1 := hX2.box.cell 1 _ rfl
    clear hb hown
    by_cases hlt : k < D.length
    · have hx : D[k]? = some D[k] := List.getElem?_eq_getElem hlt
      obtain ⟨bA, oA, rfl, hlb, a0, a1, a2, a3, a4, a5⟩ := (HRD.out.below HB.out).off k _ hx hlt
      have HN := Lib.hid (take_next D k _ hx)
      have htl : ((D.take k).filter fun x => !isW who x).length ≤ 1024 := by
        have h1 := List.length_filter_le (fun x => !isW who x) (D.take k)
        rw [List.length_take] at h1
        omega
      generalize D[k] = x at a0 a1 a2 a3 a4 a5 HN
      clear hx hX2
      cases tw : (x.w == who)
      · have tw2 : (x.w != who) = true := by rw [bne, tw]; rfl
        have HF := Lib.hid (show (D.take (k + 1)).filter (fun x => !isW who x) = (D.take k).filter (fun x => !isW who x) ++ [x] by rw [HN.out, List.filter_append, List.filter_cons, show isW who x = false from tw]; simp)
        go_wp2_with (at_builtin; refine wpList_app ei_dof rfl (.tmp 24) (.tmp 30) rfl _ _ rfl (HOWN.out.alloc _) rfl (RD.new (by simp) rfl) (fun u hu => ofC_one x u hu) (by omega) (by simp; omega) ?_; intro v' w4 hown4 hb4)
        go_roundw
        case rel => exact ⟨k + 1, by omega, by go_num, by rw [HF.out, ofC_two, List.length_append]; exact hown4, (HB.out.trans ((up_alloc _ _).mono hsz)).trans hb4⟩
        case measure => simp [intOf]; omega
      · have tw2 : (x.w != who) = false := by rw [bne, tw]; rfl
        have HF := Lib.hid (show (D.take (k + 1)).filter (fun x => !isW who x) = (D.take k).filter (fun x => !isW who x) by rw [HN.out, List.filter_append, List.filter_cons, show isW who x = true from tw]; simp)
        go_wp2_with fail
        go_roundw
        case rel => exact ⟨k + 1, by omega, by go_num, by rw [HF.out]; exact HOWN.out, HB.out⟩
        case measure => simp [intOf]; omega
    · obtain rfl : k = D.length := by omega
      have hown := HOWN.out
      rw [List.take_length] at hown
      have hlf : (clO D who).length ≤ D.length := List.length_filter_le _ _
      obtain ⟨A4, c4, hv, dok4⟩ := DO.of (D := clO D who) (pl := fun b => w1.heap.size ≤ b) hown (fun _ h => h) (by omega)
      have HO4 := Lib.hid dok4
      have HX4 := Lib.hid hX2
      have g1 := hX2.box.free 1
      subst hv
      have HDN : ((D.take D.length).filter fun x => !isW who x).length = (clO D who).length := by rw [List.take_length]; rfl
      obtain ⟨m, hm⟩ : ∃ m, (clO D who).length = m := ⟨_, rfl⟩
      have HM := Lib.hid hm
      rw [hm] at HDN hlf ⊢
      have c0 := ((HX4.out.box.set 1 (Value.slice A4 m c4)).cell 0 _ rfl)
      have c1' := ((HX4.out.box.set 1 (Value.slice A4 m c4)).cell 1 _ rfl)
      have hres := HX4.out.res.other ⟨w.heap.size, 1, none⟩ (by simp) (Value.slice A4 m c4)
      have r0 := hres.cell 0 _ rfl
      have r1 := hres.cell 1 _ rfl
      have f0 := hres.free 0
      have f1 := hres.free 1
      clear hres hX2 hm dok4 hown
      go_wp2_with fail
      refine bodyPost_ret (v := .tuple #[.agg #[.int .i64 room, .slice A4 m c4], .int .i64 ((D.length : Int) - m)]) (by simp [results, Try.results10, go_sem, r0, r1]) rfl ?_
      refine ⟨A4, c4, by rw [HM.out], ?_, HX4.out.out2 _ _ _⟩
      have hr := HX.out.hr
      exact (HO4.out.only (HX4.out.after _ _ _) (fun k e h => by rcases e with e | e <;> omega)).lo fun b hb => HQ.out b (by omega)

set_option maxRecDepth 100000 in
set_option maxHeartbeats 4000000 in
theorem d_of {w : World} {pl : Nat → Prop} {D : List OF} {A : Option Addr} {c : Nat} (h : DO w pl D A c) (room who : Int) :
    Calls Try.prog 17 #[.agg #[.int .i64 room, .slice A D.length c], .int .i64 who] w (GsPost w (ofL D who)) := by
  have up1 := up_alloc w (.cells #[.int .i64 room, .slice A D.length c] 30)
  have hB : Blk (w.alloc (.cells #[.int .i64 room, .slice A D.length c] 30)) w.heap.size [.int .i64 room, .slice A D.length c] 30 := Blk.new w _ _
  generalize hw1 : w.alloc (.cells #[.int .i64 room, .slice A D.length c] 30) = w1 at up1 hB
  have HW1 := Lib.hid hw1
  have HU := Lib.hid up1
  have hf := h.few
  have HRD := Lib.hid (h.rd.below up1)
  have HBX := Lib.hid hB
  have hz1 := up1.size
  clear hw1 up1 h hB
  go_enter Try.func17, Try.ntmps17
  go_wp2_with fail
  rw [HW1.out]
  go_loopw [5, 6] (fun v i wr => ∃ k : Nat, k ≤ D.length ∧ i = .int .i64 k ∧ wr.ownsRow w1.heap.size 34 5 v (ofL (D.take k) who).length ((ofL (D.take k) who).flatMap gdC) ∧ Below w1.heap.size w1 wr) (fun _ i _ => D.length - (intOf i).toNat)
  case atStart => exact ⟨0, Nat.zero_le _, rfl, World.ownsRow_nil _ _ _ _, Below.refl _ _⟩
  case round =>
    obtain ⟨k, hk, rfl, hown, hb⟩ := hrel
    have HB := Lib.hid hb
    have HOWN := Lib.hid hown
    have hsz := hb.size
    have hB2 := HBX.out.up hb HBX.out.lt
    have c1 := hB2.cell 1 _ rfl
    clear hb hown hB2
    by_cases hlt : k < D.length
    · have hx : D[k]? = some D[k] := List.getElem?_eq_getElem hlt
      obtain ⟨bA, oA, rfl, hlb, a0, a1, a2, a3, a4, a5⟩ := (HRD.out.below HB.out).off k _ hx hlt
      have HN := Lib.hid (take_next D k _ hx)
      have htl : (ofL (D.take k) who).length ≤ 1024 := by
        unfold ofL
        have h1 := who_len (D.take k) who
        rw [List.length_map]
        rw [List.length_take] at h1
        omega
      generalize D[k] = x at a0 a1 a2 a3 a4 a5 HN
      clear hx
      cases tw : (x.w == who)
      · have HF := Lib.hid (show ofL (D.take (k + 1)) who = ofL (D.take k) who by unfold ofL; rw [HN.out, who_app, if_neg (beq_eq_false_iff_ne.1 tw), List.append_nil])
        go_wp2_with fail
        go_roundw
        case rel => exact ⟨k + 1, by omega, by go_num, by rw [HF.out]; exact HOWN.out, HB.out⟩
        case measure => simp [intOf]; omega
      · have HF := Lib.hid (show ofL (D.take (k + 1)) who = ofL (D.take k) who ++ [x.g] by unfold ofL; rw [HN.out, who_app, if_pos (eq_of_beq tw), List.map_append]; rfl)
        go_wp2_with (at_builtin; refine wpList_app ei_gd rfl (.tmp 22) (.tmp 29) rfl _ _ rfl (HOWN.out.alloc _) rfl (RD.new (by simp) rfl) (fun u hu => gdC_one x.g u hu) (by omega) (by simp; omega) ?_; intro v' w4 hown4 hb4)
        go_roundw
        case rel => exact ⟨k + 1, by omega, by go_num, by rw [HF.out, gdC_two, List.length_append]; exact hown4, (HB.out.trans ((up_alloc _ _).mono hsz)).trans hb4⟩
        case measure => simp [intOf]; omega
    · obtain rfl : k = D.length := by omega
      have hown := HOWN.out
      rw [List.take_length] at hown
      have HE := Lib.hid (GsPost.of hown hz1 (up_trans HU.out HB.out))
      clear hown
      go_wp2
      go_ret
      exact HE.out

/-- One guard of a slice of them. -/
theorem RD.gd {w : World} {pl : Nat → Prop} {A : Option Addr} {n : Nat} {L : List GD} (h : RD w pl 5 A n (L.flatMap gdC)) (k : Nat) (g : GD) (hg : L[k]? = some g) (hk : k < n) :
    ∃ b o, A = some ⟨b, o, none⟩ ∧ b < w.heap.size ∧ w.cell? ⟨b, o + k * 5, none⟩ = some (.int .i64 g.k) ∧ w.cell? ⟨b, o + k * 5 + 1, none⟩ = some (.int .i64 g.o) ∧ w.cell? ⟨b, o + k * 5 + 2, none⟩ = some (.int .i64 g.v) ∧ w.cell? ⟨b, o + k * 5 + 3, none⟩ = some (.int .i64 g.r) ∧ w.cell? ⟨b, o + k * 5 + 4, none⟩ = some (.int .i64 g.n) := by
  obtain ⟨b, o, e, _, h2, h3⟩ := h.at_ (by omega)
  have key : ∀ j u, j < 5 → (gdC g)[j]? = some u → w.cell? ⟨b, o + k * 5 + j, none⟩ = some u := fun j u hj hu => by
    have := h3 (k * 5 + j) u (by rw [flat_get gdC 5 gdC_len L k j _ hg hj]; exact hu)
    rwa [← Nat.add_assoc] at this
  exact ⟨b, o, e, h2, key 0 _ (by omega) rfl, key 1 _ (by omega) rfl, key 2 _ (by omega) rfl, key 3 _ (by omega) rfl, key 4 _ (by omega) rfl⟩
set_option maxRecDepth 100000 in
set_option maxHeartbeats 8000000 in
theorem d_on {w : World} {pl : Nat → Prop} {D : List OF} {A : Option Addr} {c : Nat} (h : DO w pl D A c) (room kk oo : Int) :
    Calls Try.prog 21 #[.agg #[.int .i64 room, .slice A D.length c], .int .i64 kk, .int .i64 oo] w (OsPost w (onO D kk oo)) := by
  have up1 := up_alloc w (.cells #[.int .i64 room, .slice A D.length c] 30)
  have hB : Blk (w.alloc (.cells #[.int .i64 room, .slice A D.length c] 30)) w.heap.size [.int .i64 room, .slice A D.length c] 30 := Blk.new w _ _
  generalize hw1 : w.alloc (.cells #[.int .i64 room, .slice A D.length c] 30) = w1 at up1 hB
  have HW1 := Lib.hid hw1
  have HU := Lib.hid up1
  have hf := h.few
  have HD1 := Lib.hid (h.below up1)
  have HBX := Lib.hid hB
  have hz1 := up1.size
  clear hw1 up1 h hB
  go_enter Try.func21, Try.ntmps21
  go_wp2_with fail
  rw [HW1.out]
  go_loopw [7, 8, 9, 10] (fun v i _ _ wr => ∃ q : Nat, q ≤ 16 ∧ i = .int .i64 q ∧ (rowO D kk oo q).length ≤ 1024 * q ∧ wr.ownsRow w1.heap.size 75 6 v (rowO D kk oo q).length ((rowO D kk oo q).flatMap ofC) ∧ Below w1.heap.size w1 wr) (fun _ i _ _ _ => 16 - (intOf i).toNat)
  case atStart => exact ⟨0, by omega, rfl, Nat.le_refl _, World.ownsRow_nil _ _ _ _, Below.refl _ _⟩
  case round =>
    obtain ⟨q, hq, rfl, hrl, hown, hb⟩ := hrel
    have HB := Lib.hid hb
    have HOWN := Lib.hid hown
    have hsz := hb.size
    have hB2 := HBX.out.up hb HBX.out.lt
    have c0 := hB2.cell 0 _ rfl
    have c1 := hB2.cell 1 _ rfl
    clear hb hown hB2
    by_cases hq16 : q < 16
    · have CO := d_of (HD1.out.below HB.out) room q
      unfold ofL at CO
      have hxl := who_len D q
      have HRN := Lib.hid (row_next D kk oo q)
      have HQ := Lib.hid (show onL D kk oo q = (whoO D q).filter (onB kk oo) from rfl)
      have HXS := Lib.hid (fun x (hx : x ∈ whoO D q) => (who_w hx).1)
      generalize whoO D q = xs at CO HQ HXS hxl
      generalize rowO D kk oo q = R at HOWN hrl HRN
      have CO := Lib.hid CO
      go_wp2_with fail
      refine Calls.mono CO.out ?_
      rintro e w3 ⟨A3, c3, rfl, h1, hb3⟩
      rw [List.length_map] at h1 ⊢
      have HRD := Lib.hid h1
      have hs3 := hb3.size
      have HB3 := Lib.hid hb3
      have HOWN3 := Lib.hid (own_below HOWN.out hb3)
      have HV := Lib.hid (fun g e => by obtain ⟨_, cs, hB⟩ := own_blk HOWN.out g e; exact hB.lt)
      clear h1 hb3 HOWN c0 c1
      go_wp2_with fail
      go_loopw [7, 10] (fun v i w4 => ∃ j : Nat, j ≤ xs.length ∧ i = .int .i64 j ∧ w4.ownsRow w1.heap.size 75 6 v (R ++ (xs.take j).filter (onB kk oo)).length ((R ++ (xs.take j).filter (onB kk oo)).flatMap ofC) ∧ Below w1.heap.size w1 w4 ∧ (∀ g, v.ownBlock = some g → g < wr.heap.size ∨ w3.heap.size ≤ g) ∧ Only (fun b => w1.heap.size ≤ b ∧ b < wr.heap.size) w3 w4) (fun _ i _ => xs.length - (intOf i).toNat)
      case atStart => exact ⟨0, Nat.zero_le _, rfl, by rw [List.take_zero, List.filter_nil, List.append_nil]; exact HOWN3.out, HB.out.trans (HB3.out.mono hsz), fun g e => .inl (HV.out g e), Only.refl _ _⟩
      case round =>
        rename World => w4
        obtain ⟨j, hj, rfl, hown4, hb4, hv4, hb34⟩ := hrel
        have HV4 := Lib.hid hv4
        clear hv4
        have HOWN4 := Lib.hid hown4
        have HB4 := Lib.hid hb4
        have HB34 := Lib.hid hb34
        have hs4 := hb4.size
        have hs34 := hb34.size
        clear hown4 hb4 hb34
        by_cases hjl : j < xs.length
        · have hx : xs[j]? = some xs[j] := List.getElem?_eq_getElem hjl
          obtain ⟨bA, oA, rfl, hlb, a0, a1, a2, a3, a4⟩ := (HRD.out.only HB34.out (fun k h1 h2 => by have := h1.2; omega)).gd j xs[j].g (by rw [List.getElem?_map, hx]; rfl) hjl
          have HN := Lib.hid (take_next xs j _ hx)
          have HXW := Lib.hid (show xs[j] = ⟨(q : Int), xs[j].g⟩ by rw [← HXS.out _ (List.getElem_mem hjl)])
          have htl : (R ++ (xs.take j).filter (onB kk oo)).length ≤ 20000 := by
            rw [List.length_append]
            have h1 := List.length_filter_le (onB kk oo) (xs.take j)
            rw [List.length_take] at h1
            omega
          generalize xs[j] = x at a0 a1 a2 a3 a4 HN HXW
          clear hx
          cases tk : (x.g.k == kk)
          · have HF := Lib.hid (show (xs.take (j + 1)).filter (onB kk oo) = (xs.take j).filter (onB kk oo) by rw [HN.out, List.filter_append, List.filter_cons, show onB kk oo x = false by unfold onB; rw [tk]; rfl]; simp)
            go_wp2_with fail
            go_roundw
            case rel => exact ⟨j + 1, by omega, by go_num, by rw [HF.out]; exact HOWN4.out, HB4.out, HV4.out, HB34.out⟩
            case measure => simp [intOf]; omega
          · cases ko : (x.g.o == oo)
            · have HF := Lib.hid (show (xs.take (j + 1)).filter (onB kk oo) = (xs.take j).filter (onB kk oo) by rw [HN.out, List.filter_append, List.filter_cons, show onB kk oo x = false by unfold onB; rw [tk, ko]; rfl]; simp)
              go_wp2_with fail
              go_roundw
              case rel => exact ⟨j + 1, by omega, by go_num, by rw [HF.out]; exact HOWN4.out, HB4.out, HV4.out, HB34.out⟩
              case measure => simp [intOf]; omega
            · have HF := Lib.hid (show (xs.take (j + 1)).filter (onB kk oo) = (xs.take j).filter (onB kk oo) ++ [x] by rw [HN.out, List.filter_append, List.filter_cons, show onB kk oo x = true by unfold onB; rw [tk, ko]; rfl]; simp)
              go_wp2_with (at_builtin; refine wpList_app3 ei_dof rfl (.tmp 40) (.tmp 47) rfl u7 _ rfl (HOWN4.out.alloc _) rfl (RD.new (by simp) rfl) (fun u hu => ofC_one ⟨(q : Int), x.g⟩ u hu) (by omega) (by simp; omega) ?_; intro v' w5 hown5 hg5 hv5)
              go_roundw
              case rel => exact ⟨j + 1, by omega, by go_num, by rw [HF.out, ← List.append_assoc, ofC_two, List.length_append, HXW.out]; exact hown5, (on_below (HOWN4.out) (HB4.out.trans ((up_alloc _ _).mono hs4)) hg5 (by simp; omega)), fun g e => (hv5 g e).elim (fun h => HV4.out g h) (fun h => .inr (by simp at h; omega)), (HB34.out.alloc _).grown hg5 (fun g e => (HV4.out g e).imp (fun h => ⟨(own_blk HOWN4.out g e).1, h⟩) id)⟩
              case measure => simp [intOf]; omega
        · obtain rfl : j = xs.length := by omega
          have hown5 := HOWN4.out
          rw [List.take_length, ← HQ.out, ← HRN.out] at hown5
          have HO5 := Lib.hid hown5
          have HL5 : Hid ((rowO D kk oo (q + 1)).length ≤ 1024 * (q + 1)) := Lib.hid (by
            rw [HRN.out, List.length_append, HQ.out]
            have := List.length_filter_le (onB kk oo) xs
            omega)
          clear hown5
          go_wp2_with fail
          go_roundw
          case rel => exact ⟨q + 1, by omega, by go_num, HL5.out, HO5.out, HB4.out⟩
          case measure => simp [intOf]; omega
    · obtain rfl : q = 16 := by omega
      have HE := Lib.hid (OsPost.of HOWN.out hz1 (up_trans HU.out HB.out))
      go_wp2
      go_ret
      exact HE.out
end Go.Proofs.Ytgigcjhggpknnaa

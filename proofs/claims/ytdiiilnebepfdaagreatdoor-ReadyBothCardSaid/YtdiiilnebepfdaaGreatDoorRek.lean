/- slices.Grow of nil, slices.Concat of events; package ready's fires, moves, only, dues; the closures over asked. -/
import Derived.Test.YtdiiilnebepfdaaGreatDoorRej
import Derived.Test.YtdiiilnebepfdaaGreatDoorRei
import Derived.Test.YtdiiilnebepfdaaGreatDoorD3
import Derived.Test.YtdiiilnebepfdaaGreatDoorC2
namespace Go.Proofs.YtdiiilnebepfdaaGreatDoor
open Go.RowKit

theorem infoE : ∃ i, Tryz.prog.info? 32 = some i ∧ i.zero = some (.agg #[.int .i64 0, .int .i64 0, .int .i64 0, .int .i64 0]) ∧ i.size = 4 ∧ i.bytes = 32 := info_parts ei_ev.info
/-- A row of no events yet, in new memory. -/
def GrowE (w : World) (e : Ending) (w' : World) : Prop := ∃ v', e = .returned v' ∧ w'.ownsRow w.heap.size 32 4 v' 0 [] ∧ Below w.heap.size w w'
set_option maxRecDepth 100000 in
set_option maxHeartbeats 1000000 in
theorem c_growE (n : Nat) (w : World) (hn : n ≤ 100000) : Calls Tryz.prog 76 #[.slice none 0 0, .int .i64 n] w (GrowE w) := by
  rcases Nat.eq_zero_or_pos n with h0 | h0
  · subst h0
    rw [show ((0 : Nat) : Int) = 0 from rfl]
    go_enter Tryz.func76, Tryz.ntmps76
    go_wp2
    go_ret
    exact ⟨_, rfl, World.ownsRow_nil _ _ _ _, Below.refl _ _⟩
  · obtain ⟨i, hi, hz, hs, hb⟩ := infoE
    have hG1 := grownCap_ge w n 0 32
    have hG2 := grownCap_le_maxLen w n 0 32 (by unfold maxLen; omega)
    have hG3 : grownCap w n 0 32 ≤ 9223372036854775807 := by unfold maxLen at hG2; omega
    have hrz := fun ty => Lib.run_append_nil_zeros (P := Tryz.prog) w 57 3 ty 32 i _ .i64 .i64 Tryz.underlying57 Tryz.underlying3 hi hz n h0 (by omega) (by omega) (by rw [hb]; omega)
    have hown := World.ownsRow_made (base := w.heap.size) (e := 32) (size := 4) w.drew (Builtin.zeroCells (Value.agg #[.int .i64 0, .int .i64 0, .int .i64 0, .int .i64 0]).cells n ++ Builtin.zeroCells (Value.agg #[.int .i64 0, .int .i64 0, .int .i64 0, .int .i64 0]).cells (grownCap w n 0 32 - n)) (grownCap w n 0 32) (Nat.le_refl _) hG2
      (by rw [Array.size_append, size_zeroCells, size_zeroCells, ei_ev.cells, ← Nat.add_mul]; congr 1; omega)
    have hB : Below w.heap.size w (w.drew.alloc (.cells (Builtin.zeroCells (Value.agg #[.int .i64 0, .int .i64 0, .int .i64 0, .int .i64 0]).cells n ++ Builtin.zeroCells (Value.agg #[.int .i64 0, .int .i64 0, .int .i64 0, .int .i64 0]).cells (grownCap w n 0 32 - n)) 32)) := (up_drewN w 1).alloc (Nat.le_refl _) _
    generalize w.drew.alloc (.cells (Builtin.zeroCells (Value.agg #[.int .i64 0, .int .i64 0, .int .i64 0, .int .i64 0]).cells n ++ Builtin.zeroCells (Value.agg #[.int .i64 0, .int .i64 0, .int .i64 0, .int .i64 0]).cells (grownCap w n 0 32 - n)) 32) = w1 at *
    obtain ⟨G, hG⟩ : ∃ G, G = grownCap w n 0 32 := ⟨_, rfl⟩
    rw [← hG] at hrz hown hG1 hG2 hG3
    have hpos : (n : Int) > 0 := by omega
    have HO := Lib.hid hown
    have HB := Lib.hid hB
    clear hG hown hB hi hz hs hb
    go_enter Tryz.func76, Tryz.ntmps76
    go_wp2_with (at_builtin; refine Lib.wpList_append_run _ rfl _ _ _ _ rfl _ _ rfl rfl _ _ (hrz _) ?_)
    go_ret
    exact ⟨_, rfl, HO.out, HB.out⟩

/-- A slice of events. -/
structure SE where
  A : Option Addr
  c : Nat
  L : List EV
def SE.val (q : SE) : Value := .slice q.A q.L.length q.c
def seAll (Q : List SE) : List EV := Q.flatMap SE.L
theorem se_next {Q : List SE} {k : Nat} {q : SE} (h : Q[k]? = some q) : seAll (Q.take (k + 1)) = seAll (Q.take k) ++ q.L := by
  unfold seAll
  rw [List.take_add_one, h, List.flatMap_append]
  simp
theorem se_le (Q : List SE) (k : Nat) : (seAll (Q.take k)).length ≤ (seAll Q).length := by
  unfold seAll
  conv => rhs; rw [← List.take_append_drop k Q, List.flatMap_append, List.length_append]
  omega
set_option maxRecDepth 100000 in
set_option maxHeartbeats 2000000 in
theorem c_catE {w : World} {pl : Nat → Prop} {A : Option Addr} {m c : Nat} {Q : List SE} (h : RD w pl 1 A m (Q.map SE.val)) (hq : Q.length = m) (hm : m ≤ 100) (hR : ∀ q ∈ Q, RD w tt 4 q.A q.L.length (q.L.flatMap evC)) (hn : (seAll Q).length ≤ 10000) :
    Calls Tryz.prog 40 #[.slice A m c] w (EvsP w (seAll Q)) := by
  have H := Lib.hid h
  have HL := Lib.hid hq
  have HR := Lib.hid hR
  have CG := Lib.hid (c_growE (seAll Q).length w (by omega))
  have hmi : (m : Int) ≤ 100 := by omega
  clear h hq hR
  go_enter Tryz.func40, Tryz.ntmps40
  go_wp2_with fail
  go_loop [3, 11] (fun s i => ∃ k : Nat, k ≤ m ∧ i = .int .i64 k ∧ s = .int .i64 ((seAll (Q.take k)).length : Nat)) (fun _ i => m - (intOf i).toNat)
  case atStart => exact ⟨0, Nat.zero_le _, rfl, rfl⟩
  case round =>
    obtain ⟨k, hk, rfl, rfl⟩ := hrel
    by_cases hlt : k < m
    · have hex : ∃ q, Q[k]? = some q := ⟨_, List.getElem?_eq_getElem (by rw [HL.out]; exact hlt)⟩
      obtain ⟨q, hq⟩ := hex
      obtain ⟨b, o, rfl, _, _, hc⟩ := H.out.at_ (by omega)
      have h1 : w.cell? ⟨b, o + k, none⟩ = some (.slice q.A q.L.length q.c) := hc k _ (by rw [List.getElem?_map, hq]; rfl)
      have h2 := congrArg List.length (se_next hq)
      rw [List.length_append] at h2
      have h3 := se_le Q (k + 1)
      have HS := Lib.hid h2
      obtain ⟨x, hx⟩ : ∃ x, (seAll (Q.take k)).length = x := ⟨_, rfl⟩
      obtain ⟨y, hy⟩ : ∃ y, q.L.length = y := ⟨_, rfl⟩
      rw [hx, hy] at HS h2
      rw [hx]
      rw [hy] at h1
      have hxy : x + y ≤ 10000 := by omega
      have g0 : decide ((x : Int) + (y : Int) < 0) = false := decide_eq_false (by omega)
      have e1 : IntKind.i64.wrap ((x : Int) + (y : Int)) = (x : Int) + (y : Int) := IntWalk.i64_in _ (by omega)
      clear hc hq h2 h3 hx hy
      go_wp2
      go_round
      case rel => exact ⟨k + 1, by omega, by go_num, by rw [HS.out]; go_num⟩
      case measure => simp [intOf]; omega
    · obtain rfl : k = m := by omega
      have HT : Hid (Q.take k = Q) := Lib.hid (List.take_of_length_le (by rw [HL.out]; exact Nat.le_refl _))
      rw [HT.out]
      clear HT
      obtain ⟨z, hz⟩ : ∃ z, (seAll Q).length = z := ⟨_, rfl⟩
      have HZ := Lib.hid hz
      rw [hz] at CG hn ⊢
      clear hz
      go_wp2_with fail
      refine Calls.mono CG.out ?_
      rintro e w1 ⟨v1, rfl, hown1, hb1⟩
      have HO1 := Lib.hid hown1
      have HB1 := Lib.hid hb1
      clear hown1 hb1
      go_wp2_with fail
      go_loopw [6, 27] (fun v i wr => ∃ j : Nat, j ≤ k ∧ i = .int .i64 j ∧ wr.ownsRow w.heap.size 32 4 v (seAll (Q.take j)).length ((seAll (Q.take j)).flatMap evC) ∧ Below w.heap.size w wr) (fun _ i _ => k - (intOf i).toNat)
      case atStart => exact ⟨0, Nat.zero_le _, rfl, HO1.out, HB1.out⟩
      case round =>
        obtain ⟨j, hj, rfl, hown, hbr⟩ := hrel
        by_cases hjt : j < k
        · have hex : ∃ q, Q[j]? = some q := ⟨_, List.getElem?_eq_getElem (by rw [HL.out]; exact hjt)⟩
          obtain ⟨q, hq⟩ := hex
          obtain ⟨b, o, rfl, _, _, hc⟩ := (H.out.below hbr).at_ (by omega)
          have h1 : wr.cell? ⟨b, o + j, none⟩ = some (.slice q.A q.L.length q.c) := hc j _ (by rw [List.getElem?_map, hq]; rfl)
          have hRQ := (HR.out q (List.mem_of_getElem? hq)).below hbr
          have h2 := congrArg List.length (se_next hq)
          rw [List.length_append] at h2
          have h3 := se_le Q (j + 1)
          have HN := Lib.hid (se_next hq)
          have HO := Lib.hid hown
          have HB := Lib.hid hbr
          have HRQ := Lib.hid hRQ
          have HLE : Hid ((seAll (Q.take j)).length + q.L.length ≤ 1000000) := Lib.hid (by have := HZ.out; omega)
          have hs := hbr.size
          clear hc hq h2 h3 hRQ hown hbr
          go_wp2_with (at_builtin; refine wpList_app3 ei_ev rfl (.tmp 31) (.tmp 32) rfl _ _ rfl HO.out rfl HRQ.out (evL_one q.L) HLE.out hs ?_; intro v2 w2 hown2 hg2 _; have HO2 := Lib.hid hown2; have HB3 := Lib.hid (HB.out.grown hg2 HB.out.size fun k e => (HO.out.lt k e).1); clear hown2 hg2)
          go_roundw
          case rel => exact ⟨j + 1, by omega, by go_num, by rw [HN.out, List.length_append, List.flatMap_append]; exact HO2.out, HB3.out⟩
          case measure => simp [intOf]; omega
        · obtain rfl : j = k := by omega
          have HT : Hid (Q.take j = Q) := Lib.hid (List.take_of_length_le (by rw [HL.out]; exact Nat.le_refl _))
          have HO := Lib.hid hown
          have HB := Lib.hid hbr
          clear hown hbr
          go_wp2_with fail
          go_ret
          have h1 := HO.out
          rw [HT.out] at h1
          exact EvsP.of h1 HB.out

def evFire (b : Int) : EV := ⟨1, b, 0, 0⟩
def evMove (x : Nat × Int) : EV := ⟨1 + x.2, x.1, 0, 0⟩
theorem fm_all {α β : Type} (f : α → β) (L : List α) : L.filterMap (fun x => some (f x)) = L.map f := by
  induction L with
  | nil => rfl
  | cons a l ih => simp [ih]
theorem fm_filter (k : Int) (L : List EV) : L.filterMap (fun e => if e.k == k then some e else none) = rdOnly k L := by
  unfold rdOnly
  induction L with
  | nil => rfl
  | cons a l ih =>
    cases h : a.k == k
    · rw [List.filterMap_cons_none (by show (if (a.k == k) = true then some a else none) = none; rw [h]; rfl), List.filter_cons_of_neg (by show ¬ (a.k == k) = true; rw [h]; decide), ih]
    · rw [List.filterMap_cons_some (b := a) (by show (if (a.k == k) = true then some a else none) = some a; rw [h]; rfl), List.filter_cons_of_pos (by show (a.k == k) = true; exact h), ih]

set_option maxRecDepth 100000 in
set_option maxHeartbeats 1000000 in
theorem c_fires {V : VQ} {w : World} (h : VW w V) (hf : FewV V) (hT : TabD w) :
    Calls Tryz.prog 41 #[.agg (vC V).toArray] w (EvsP w ((rdyL 0 V.Bq).map evFire)) := by
  have hX := bx1 w (vC V) 40
  generalize hw1 : w.alloc (.cells (vC V).toArray 40) = w1 at hX
  have HW := Lib.hid hw1
  have HX := Lib.hid hX
  have c2 : w1.cell? ⟨w.heap.size, 2, none⟩ = some (.slice V.BA V.Bq.length V.Bc) := hX.box.cell 2 _ rfl
  have CR := Lib.hid (c_tready (c := V.Bc) (h.below hX.up).br (by have := hf.f.br; omega) (hT.up hX.up))
  have hl : (rdyL 0 V.Bq).length ≤ 10 := by have := rdyL_len V.Bq 0; have := hf.f.br; omega
  obtain ⟨R, hRR⟩ : ∃ R, (rdyL 0 V.Bq).map evFire = R := ⟨_, rfl⟩
  rw [hRR]
  have HE : Hid (∀ (W : World) A c, RD W (w1.heap.size ≤ ·) 1 A (rdyL 0 V.Bq).length ((rdyL 0 V.Bq).map (Value.int .i64)) → Calls Tryz.prog 77 #[.slice A (rdyL 0 V.Bq).length c, .func (.func 79) #[] #[]] W (EvsP W R)) := Lib.hid (fun (W : World) A c hR => by
    rw [← hRR, ← fm_all evFire (rdyL 0 V.Bq)]
    exact c_eachIE (f := fun b => some (evFire b)) (c := c) hR rfl (by omega) (fun x _ W' _ => (c_fires1 x W').mono fun e w' hp => ⟨evFire x, hp.1, fun z hz => Option.some.inj hz, hp.2⟩))
  clear h hf hT hX hw1 hl hRR
  go_enter Tryz.func41, Tryz.ntmps41
  go_upto_region 1 with fail
  rw [HW.out]
  go_wp2_with fail
  refine CR.out.mono ?_; rintro e w2 ⟨A2, d2, rfl, -, -, hr, hb⟩
  have CE := Lib.hid (HE.out w2 A2 d2 hr)
  have HB := Lib.hid (up_trans HX.out.up hb)
  clear hr hb c2
  go_wp2_with fail
  refine CE.out.mono ?_; rintro e w3 ⟨A3, d3, rfl, h1, h2, hr, hb⟩
  have HR := Lib.hid (hr.lo (pl' := (w.heap.size ≤ ·)) fun b hb' => Nat.le_trans HB.out.size hb')
  have HB3 := Lib.hid (up_trans HB.out hb)
  have H1 := Lib.hid h1
  have H2 := Lib.hid h2
  clear hr hb h1 h2
  go_wp2_with fail
  go_ret
  exact ⟨A3, d3, rfl, H1.out, H2.out, HR.out, HB3.out⟩

set_option maxRecDepth 100000 in
set_option maxHeartbeats 1000000 in
theorem c_rmoves {V : VQ} {w : World} (h : VW w V) (hf : FewV V) :
    Calls Tryz.prog 42 #[.agg (vC V).toArray] w (EvsP w ((mvL 0 V.p.Cs).map evMove)) := by
  have hX := bx1 w (vC V) 40
  generalize hw1 : w.alloc (.cells (vC V).toArray 40) = w1 at hX
  have HW := Lib.hid hw1
  have HX := Lib.hid hX
  have c2 : w1.cell? ⟨w.heap.size, 1, none⟩ = some (.slice V.CA V.Cq.length V.Cc) := hX.box.cell 1 _ rfl
  have CR : Hid (Calls Tryz.prog 81 #[.slice V.CA V.Cq.length V.Cc] w1 (MvPost w1 (mvL 0 V.p.Cs))) := Lib.hid (c_moves (h.below hX.up).r.ch (hf.f.cl.mono (by omega)) (by have := hf.f.ch; omega))
  have hl : (mvL 0 V.p.Cs).length ≤ 30 := by
    have h1 := mvL_len V.p.Cs 0
    have h2 : V.p.Cs.length = V.Cq.length := List.length_map _
    have := hf.f.ch
    omega
  have hin : ∀ x ∈ mvL 0 V.p.Cs, x.2 = 1 ∨ x.2 = 2 ∨ x.2 = 3 := fun x hx => by
    obtain ⟨j, C, _, _, h3⟩ := (mem_mvL V.p.Cs 0).1 hx
    exact what_in h3
  generalize mvL 0 V.p.Cs = l at CR hl hin ⊢
  obtain ⟨R, hRR⟩ : ∃ R, l.map evMove = R := ⟨_, rfl⟩
  rw [hRR]
  have HE : Hid (∀ (W : World) A c, RD W (w1.heap.size ≤ ·) 2 A l.length (l.flatMap mvC) → Calls Tryz.prog 80 #[.slice A l.length c, .func (.func 82) #[] #[]] W (EvsP W R)) := Lib.hid (fun (W : World) A c hR => by
    rw [← hRR, ← fm_all evMove l]
    exact c_eachME (f := fun x => some (evMove x)) (c := c) hR rfl (by omega) (fun x hx W' _ => (c_moves1 (x.1 : Int) x.2 (hin x hx) W').mono fun e w' hp => ⟨evMove x, hp.1, fun z hz => Option.some.inj hz, hp.2⟩))
  clear h hf hX hw1 hl hin hRR
  go_enter Tryz.func42, Tryz.ntmps42
  go_upto_region 1 with fail
  rw [HW.out]
  go_wp2_with fail
  refine CR.out.mono ?_; rintro e w2 ⟨A2, d2, rfl, -, -, hr, hb⟩
  have CE := Lib.hid (HE.out w2 A2 d2 hr)
  have HB := Lib.hid (up_trans HX.out.up hb)
  clear hr hb c2
  go_wp2_with fail
  refine CE.out.mono ?_; rintro e w3 ⟨A3, d3, rfl, h1, h2, hr, hb⟩
  have HR := Lib.hid (hr.lo (pl' := (w.heap.size ≤ ·)) fun b hb' => Nat.le_trans HB.out.size hb')
  have HB3 := Lib.hid (up_trans HB.out hb)
  have H1 := Lib.hid h1
  have H2 := Lib.hid h2
  clear hr hb h1 h2
  go_wp2_with fail
  go_ret
  exact ⟨A3, d3, rfl, H1.out, H2.out, HR.out, HB3.out⟩

set_option maxRecDepth 100000 in
set_option maxHeartbeats 1000000 in
theorem c_ronly {w : World} {pl : Nat → Prop} {A : Option Addr} {c : Nat} {L : List EV} (hR : RD w pl 4 A L.length (L.flatMap evC)) (hn : L.length ≤ 10000) (k : Int) :
    Calls Tryz.prog 43 #[.slice A L.length c, .int .i64 k] w (EvsP w (rdOnly k L)) := by
  have hX := bx1 w [.int .i64 k] 3
  generalize hw1 : w.alloc (.cells [Value.int .i64 k].toArray 3) = w1 at hX
  have HW := Lib.hid (show w.alloc (.cells #[.int .i64 k] 3) = w1 from hw1)
  have HX := Lib.hid hX
  obtain ⟨R, hRR⟩ : ∃ R, rdOnly k L = R := ⟨_, rfl⟩
  rw [hRR]
  have CE : Hid (Calls Tryz.prog 84 #[.slice A L.length c, .func (.func 85) #[] #[.pointer (some ⟨w.heap.size, 0, none⟩)]] w1 (EvsP w1 R)) := Lib.hid (by
   rw [← hRR, ← fm_filter k L]
   exact c_eachEE (f := fun e : EV => if e.k == k then some e else none) (c := c) (hR.below hX.up) rfl hn (c1 := .pointer (some ⟨w.heap.size, 0, none⟩)) (fun x hx W hW =>
    (c_only1 x w.heap.size k W (hX.box.up hW hX.box.lt)).mono fun e w' hp => by
      refine ⟨x, ?_, ?_, hp.2⟩
      · have hs : ((fun e : EV => if e.k == k then some e else none) x).isSome = (x.k == k) := by
          show (if (x.k == k) = true then some x else none).isSome = _
          cases x.k == k <;> rfl
        rw [hp.1, hs]
        rfl
      · intro z hz
        cases hh : x.k == k
        · simp [hh] at hz
        · simpa [hh] using hz))
  clear hR hX hw1 hRR
  go_enter Tryz.func43, Tryz.ntmps43
  go_upto_region 1 with fail
  rw [HW.out]
  go_wp2_with fail
  refine CE.out.mono ?_; rintro e w3 ⟨A3, d3, rfl, h1, h2, hr, hb⟩
  have HR := Lib.hid (hr.lo (pl' := (w.heap.size ≤ ·)) fun b hb' => Nat.le_trans HX.out.up.size hb')
  have HB3 := Lib.hid (up_trans HX.out.up hb)
  have H1 := Lib.hid h1
  have H2 := Lib.hid h2
  clear hr hb h1 h2
  go_wp2_with fail
  go_ret
  exact ⟨A3, d3, rfl, H1.out, H2.out, HR.out, HB3.out⟩

set_option maxRecDepth 100000 in
set_option maxHeartbeats 1000000 in
theorem c_rdues {V : VQ} {w : World} (h : VW w V) (hf : FewV V) :
    Calls Tryz.prog 44 #[.agg (vC V).toArray] w (EvsP w (V.Tq.filterMap (rdDueE V.now))) := by
  have hX := bx1 w (vC V) 40
  generalize hw1 : w.alloc (.cells (vC V).toArray 40) = w1 at hX
  have HW := Lib.hid hw1
  have HX := Lib.hid hX
  have c2 : w1.cell? ⟨w.heap.size, 4, none⟩ = some (.slice V.TA V.Tq.length V.Tc) := hX.box.cell 4 _ rfl
  obtain ⟨R, hRR⟩ : ∃ R, V.Tq.filterMap (rdDueE V.now) = R := ⟨_, rfl⟩
  rw [hRR]
  have CE : Hid (Calls Tryz.prog 86 #[.slice V.TA V.Tq.length V.Tc, .func (.func 87) #[] #[.pointer (some ⟨w.heap.size, 0, none⟩)]] w1 (EvsP w1 R)) := Lib.hid (by
   rw [← hRR]
   exact c_eachTE (f := rdDueE V.now) (c := V.Tc) (h.below hX.up).r.tm rfl (by have := hf.f.tm; omega) (c1 := .pointer (some ⟨w.heap.size, 0, none⟩)) (fun x hx W hW =>
    (c_dues1 x ⟨hf.f.tw x hx, hf.t x hx⟩ w.heap.size V W (hX.box.up hW hX.box.lt)).mono fun e w' hp => by
      refine ⟨⟨6, 0, x.who / 8, x.who % 8⟩, ?_, ?_, hp.2⟩
      · rw [hp.1]
        unfold rdDueE
        cases dueB V.now x.at_ <;> rfl
      · intro z hz
        unfold rdDueE at hz
        cases hh : dueB V.now x.at_
        · simp [hh] at hz
        · simpa [hh] using hz))
  clear h hf hX hw1 hRR
  go_enter Tryz.func44, Tryz.ntmps44
  go_upto_region 1 with fail
  rw [HW.out]
  go_wp2_with fail
  refine CE.out.mono ?_; rintro e w3 ⟨A3, d3, rfl, h1, h2, hr, hb⟩
  have HR := Lib.hid (hr.lo (pl' := (w.heap.size ≤ ·)) fun b hb' => Nat.le_trans HX.out.up.size hb')
  have HB3 := Lib.hid (up_trans HX.out.up hb)
  have H1 := Lib.hid h1
  have H2 := Lib.hid h2
  clear hr hb h1 h2
  go_wp2_with fail
  go_ret
  exact ⟨A3, d3, rfl, H1.out, H2.out, HR.out, HB3.out⟩
end Go.Proofs.YtdiiilnebepfdaaGreatDoor

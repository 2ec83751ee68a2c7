/- What the law's made keeps in memory: places, timers, the document's Enrol with places. The state of the loops of the law's made. -/
import Derived.Test.YtdiiilnebepfdaaGreatDoorRxb
import Derived.Test.YtdiiilnebepfdaaGreatDoorRxa
import Derived.Test.YtdiiilnebepfdaaGreatDoorRxc
import Derived.Test.YtdiiilnebepfdaaGreatDoorR1
import Derived.Test.YtdiiilnebepfdaaGreatDoorOv
import Derived.Test.YtdiiilnebepfdaaGreatDoorR3
import Derived.Test.YtdiiilnebepfdaaGreatDoorC5
import Derived.Test.YtdiiilnebepfdaaGreatDoorR6
namespace Go.Proofs.YtdiiilnebepfdaaGreatDoor
open Go.RowKit

def EPY (w : World) (Z : Nat → Prop) (n : Nat) (x : List BR × Int) (e : Ending) (w' : World) : Prop :=
  ∃ A' c', e = .returned (.tuple #[.slice A' n c', .int .i64 x.2]) ∧ DY w' Z A' n x.1 ∧ Below w.heap.size w w'
set_option maxRecDepth 100000 in
theorem c_uputN {w : World} (A : Option Addr) (n c k : Nat) (b : BR) (M : DM) (x : Int) (hx : x ≠ 0) :
    Calls Tryz.prog 72 #[.slice A n c, .int .i64 (k : Int), .agg (dbC b M).toArray, .int .i64 x] w fun e w' => e = .returned (.tuple #[.slice A n c, .int .i64 x]) ∧ Below w.heap.size w w' := by
  have up := up_alloc w (.cells (dbC b M).toArray 113)
  generalize hw1 : w.alloc (.cells (dbC b M).toArray 113) = w1 at up
  have HW := Lib.hid hw1
  have UP := Lib.hid up
  have hx1 : (x != 0) = true := by simp [bne, hx]
  clear hx up hw1
  go_enter Tryz.func72, Tryz.ntmps72
  go_upto_region 1 with fail
  rw [HW.out]
  go_wp2_with fail
  go_ret2
  exact ⟨rfl, UP.out⟩
theorem c_uputX {w : World} {Z : Nat → Prop} {A : Option Addr} {n c : Nat} {L : List BR} (h : DY w Z A n L) (hZ : ∀ b, w.heap.size ≤ b → Z b) (hn : n ≤ 100000) (k : Nat) (hk : k < n) {b : BR} {M : DM} (hd : DW w Z b.r M) (x : Int) :
    Calls Tryz.prog 72 #[.slice A n c, .int .i64 (k : Int), .agg (dbC b M).toArray, .int .i64 x] w (EPY w Z n (if x = 0 then L.set k b else L, x)) := by
  by_cases h0 : x = 0
  · subst h0
    rw [if_pos rfl]
    exact c_uputD h hZ hn k hk hd
  · rw [if_neg h0]
    refine (c_uputN A n c k b M x h0).mono ?_
    rintro e w' ⟨rfl, hb⟩
    exact ⟨A, c, rfl, h.below hb, hb⟩
set_option maxRecDepth 100000 in
set_option maxHeartbeats 4000000 in
theorem c_uenrolY {w : World} {Z : Nat → Prop} {A : Option Addr} {n c : Nat} {L : List BR} (h : DY w Z A n L) (hZ : ∀ b, w.heap.size ≤ b → Z b) (hn : n ≤ 100000) (b p : Int) :
    Calls Tryz.prog 32 #[.slice A n c, .int .i64 b, .int .i64 p] w (EPY w Z n (tOne (brEnrol · p) L b)) := by
  have hlen := h.len
  have HZ := Lib.hid hZ
  have CI := Lib.hid (c_uis A n c b w)
  rcases tIn_cases n b with hb | ⟨hb, hb2⟩ | ⟨k, rfl, hk⟩
  · rw [tIn_neg hb] at CI
    rw [tOne_no (by rw [hlen]; exact tIn_neg hb)]
    have HT := Lib.hid h
    clear h hZ hlen
    go_enter Tryz.func32, Tryz.ntmps32
    go_wp2_with fail
    refine CI.out.mono ?_; rintro e w2 ⟨rfl, rfl⟩
    go_wp2
    go_ret2
    exact ⟨A, c, rfl, HT.out, Below.refl _ _⟩
  · rw [tIn_over hb2] at CI
    rw [tOne_no (by rw [hlen]; exact tIn_over hb2)]
    have HT := Lib.hid h
    clear h hZ hlen
    go_enter Tryz.func32, Tryz.ntmps32
    go_wp2_with fail
    refine CI.out.mono ?_; rintro e w2 ⟨rfl, rfl⟩
    go_wp2
    go_ret2
    exact ⟨A, c, rfl, HT.out, Below.refl _ _⟩
  · rw [tIn_at hk] at CI
    obtain ⟨g, o, q, M, rfl, hgl, hq, hrg, hd⟩ := h.at_ k hk
    have HT := Lib.hid h
    have HRG := Lib.hid hrg
    have CE := Lib.hid (c_venrol hd p)
    obtain ⟨R, x, hR⟩ : ∃ R x, brEnrol q p = (R, x) := ⟨_, _, rfl⟩
    rw [hR] at CE
    have HE : Hid (tOne (brEnrol · p) L (k : Int) = (if x = 0 then L.set k R else L, x)) := Lib.hid (by
      by_cases h0 : x = 0
      · subst h0
        rw [tOne_ok hq hR, if_pos rfl]
      · rw [tOne_err hq hR h0, if_neg h0])
    obtain ⟨Y, hY⟩ : ∃ Y, (if x = 0 then L.set k R else L) = Y := ⟨_, rfl⟩
    rw [HE.out, hY]
    have HYY := Lib.hid hY
    have hkn : (k : Int) < (n : Int) := by omega
    clear h hZ hlen hgl hq hrg hd hR HE hY
    go_enter Tryz.func32, Tryz.ntmps32
    go_wp2_with fail
    refine CI.out.mono ?_; rintro e w2 ⟨rfl, rfl⟩
    go_wp2_with (refine lmr (b := g) (q := o + k * 5) (cs := dbC q M) (.tmp 18) rfl rfl Tryz.underlying113 rfl info_db rfl ?_ ?_; (· exact HRG.out))
    refine CE.out.mono ?_; rintro e w3 ⟨N, rfl, hd, hb⟩
    have hq := up_alloc w3 (.cells (dbC R N).toArray 113)
    have K := Lib.hid (Blk.new w3 (dbC R N) 113)
    have HB := Lib.hid (up_trans hb hq)
    have CP := Lib.hid (c_uputX (c := c) (HT.out.below (up_trans hb hq)) (fun b hb2 => HZ.out b (Nat.le_trans (up_trans hb hq).size hb2)) hn k hk ((hd.lo (fun b hb => hb.elim id (HZ.out b))).below hq) x)
    rw [HYY.out] at CP
    clear hd hb hq
    go_wp2_with (first | (refine snr (W := w3) (cs := dbC R N) (zs := dbZ) (t := 113) (.tmp 8) (.tmp 22) rfl rfl rfl rfl info_db rfl dbC_one ?_ ?_ ?_; (· rfl); (· rfl)) | (refine ldr (b := w3.heap.size) (t := 113) (cs := dbC R N) (.tmp 8) rfl rfl Tryz.underlying113 rfl info_db rfl ?_ ?_; (· exact K.out)))
    refine CP.out.mono ?_; rintro e w4 ⟨A', c', rfl, ht, hb⟩
    have HT2 := Lib.hid ht
    have HB2 := Lib.hid hb
    clear ht hb
    go_wp2
    go_ret2
    exact ⟨A', c', rfl, HT2.out, up_trans HB.out HB2.out⟩

/-- A block of a view that is still empty. -/
def vZc : List Value := [.int .i64 0, .slice none 0 0, .slice none 0 0, .slice none 0 0, .slice none 0 0, .slice none 0 0]
theorem vzc_none {j : Nat} (h : 6 ≤ j) : vZc[j]? = none := List.getElem?_eq_none h
theorem vzc_bool (j : Nat) (b : Bool) : vZc[j]? ≠ some (.bool b) := by
  intro h
  match j, h with
  | 0, h => cases h
  | 1, h => cases h
  | 2, h => cases h
  | 3, h => cases h
  | 4, h => cases h
  | 5, h => cases h
  | j + 6, h => rw [vzc_none (by omega)] at h; cases h
theorem blk_at {w : World} {b : Nat} {cs : List Value} {t : TypeId} (h : Blk w b cs t) (j : Nat) : w.cell? ⟨b, j, none⟩ = cs[j]? := by
  unfold Blk at h
  unfold World.cell?
  simp [h]
/-- New channels don't lie in a block that is a view. -/
theorem new_tbY {w : World} {r : Nat} {t : TypeId} {A : Option Addr} {n c : Nat} {L : List CQ} {l : List CF} (h : TbW w ctAny A n c L) (hl : L.map Prod.fst = newL l) (hz : Blk w r vZc t) : TbY w (fun b => b ≠ r) A n c L := by
  have hy : ∀ (Y : Nat → Prop), ∀ q ∈ L, ChW w Y q.1 q.2 := by
    intro Y q hq
    have h1 : q.1 ∈ newL l := hl ▸ List.mem_map_of_mem hq
    have hz : q.1.V = [] ∧ q.1.W = [] ∧ q.1.S = [] ∧ q.1.G = [] := by
      unfold newL at h1
      split at h1
      · obtain ⟨c, _, hc⟩ := List.mem_map.1 h1
        rw [← hc]
        unfold cfN chNew
        cases ccE c.k c.r c.i c.o == 0 <;> exact ⟨rfl, rfl, rfl, rfl⟩
      · cases h1
    obtain ⟨k1, k2, k3, k4⟩ := h.each q hq
    obtain ⟨z1, z2, z3, z4⟩ := hz
    have one : ∀ {A : Option Addr} {n c : Nat} {l : List Int}, l = [] → LnW w ctAny A n c l → LnW w Y A n c l := by
      intro A n c l hl k
      subst hl
      have hn : n = 0 := k.len.symm
      subst hn
      exact ⟨RD.nil _ _ _ _, rfl, k.nc, k.cm⟩
    exact ⟨one z1 k1, one z2 k2, one z3 k3, one z4 k4⟩
  refine ⟨⟨?_, h.len, h.nc, h.cm, h.each⟩, hy _⟩
  by_cases hn : n = 0
  · subst hn
    have hL : L = [] := List.eq_nil_of_length_eq_zero h.len
    rw [hL]
    exact RD.nil _ _ _ _
  · obtain ⟨b, o, rfl, _, hb, hat⟩ := h.rd.at_ (by omega)
    refine ⟨h.rd.1, fun _ => ⟨b, o, rfl, fun e => ?_, hb, hat⟩⟩
    subst e
    have hL : 0 < L.length := by rw [h.len]; omega
    have hc : (L.flatMap cellsQ)[10]? = some ((cellsQ L[0]).getD 10 (.bool false)) := by
      have := flat_get cellsQ 11 cellsQ_len L 0 10 L[0] (List.getElem?_eq_getElem hL) (by omega)
      rw [Nat.zero_mul, Nat.zero_add] at this
      rw [this]
      rfl
    have := hat 10 _ hc
    rw [blk_at hz, vzc_none (by omega)] at this
    cases this
/-- New barriers neither. -/
theorem new_dtY {w : World} {r : Nat} {t : TypeId} {A : Option Addr} {n : Nat} {l : List CB} (h : DT w A n (nwL l)) (hz : Blk w r vZc t) : DY w (fun b => b ≠ r) A n (nwL l) := by
  obtain ⟨Q, h1, h2⟩ := h
  have hr : ∀ q ∈ Q, q.1.r = RL.zero := by
    intro q hq
    have : q.1 ∈ nwL l := h2 ▸ List.mem_map_of_mem hq
    unfold nwL at this
    split at this
    · obtain ⟨c, _, hc⟩ := List.mem_map.1 this
      rw [← hc]
      exact cbN_r c
    · cases this
  have hE : ∀ q ∈ Q, dB.E (fun b => b ≠ r) q w := by
    intro q hq
    show DW w _ q.1.r q.2
    rw [hr q hq]
    refine ⟨?_, ?_⟩
    · show RD w _ 1 _ S4.zero.ints.length (S4.zero.ints.map _)
      rw [zero_ints]
      exact RD.nil _ _ _ _
    · show RD w _ 1 _ S4.zero.ints.length (S4.zero.ints.map _)
      rw [zero_ints]
      exact RD.nil _ _ _ _
  refine ⟨Q, ⟨?_, h1.len, hE⟩, h2⟩
  by_cases hn : n = 0
  · subst hn
    have hL : Q = [] := List.eq_nil_of_length_eq_zero h1.len
    rw [hL]
    exact RD.nil _ _ _ _
  · obtain ⟨b, o, rfl, _, hb, hat⟩ := h1.rd.at_ (by omega)
    refine ⟨h1.rd.1, fun _ => ⟨b, o, rfl, fun e => ?_, hb, hat⟩⟩
    subst e
    have hL : 0 < Q.length := by rw [h1.len]; omega
    have hc : (Q.flatMap dB.f)[0]? = some (.bool Q[0].1.al) := by
      have := flat_get dB.f 5 dB.len Q 0 0 Q[0] (List.getElem?_eq_getElem hL) (by omega)
      rw [Nat.zero_mul, Nat.zero_add] at this
      rw [this]
      rfl
    have := hat 0 _ hc
    rw [blk_at hz] at this
    exact vzc_bool _ _ this
theorem DY.lt {w : World} {Y : Nat → Prop} {A : Option Addr} {n : Nat} {L : List BR} (h : DY w Y A n L) : DY w (fun b => Y b ∧ b < w.heap.size) A n L := by
  obtain ⟨Q, h1, h2⟩ := h
  exact ⟨Q, ⟨h1.rd.lt, h1.len, fun q hq => dB.lt (h1.each q hq)⟩, h2⟩
theorem TbY.lt {w : World} {Y : Nat → Prop} {A : Option Addr} {n c : Nat} {L : List CQ} (h : TbY w Y A n c L) : TbY w (fun b => Y b ∧ b < w.heap.size) A n c L :=
  ⟨⟨h.t.rd.lt, h.t.len, h.t.nc, h.t.cm, h.t.each⟩, fun q hq => (h.y q hq).lt⟩
/-- A list of timers, as cells. -/
def lnV (l : Nat) (u : Value) : List Value := [.int .i64 100, .int .i64 l, u]
def AddP (w : World) (lo : Nat) (u : Value) (L : List Tm) (l : Nat) (who : Int) (e : Ending) (w' : World) : Prop :=
  ∃ (l' : Nat) (u' : Value) (L' : List Tm) (x y : Int), e = .returned (.tuple #[.agg (lnV l' u').toArray, .int .i64 x, .int .i64 y]) ∧ DR w' lo u' L' ∧ l' ≤ l + 1 ∧ L'.length ≤ L.length + 1 ∧ (L' = L ∨ ∃ a no, L' = insT L ⟨a, no, who⟩) ∧ (u' = u ∨ ∀ g, u'.ownBlock = some g → w.heap.size ≤ g) ∧ Below w.heap.size w w'
theorem c_tmaddY {w : World} {lo l : Nat} {u : Value} {L : List Tm} (h : DR w lo u L) (hlo : lo ≤ w.heap.size) (a who : Int) (hL : L.length < 100) (hl : l ≤ 1000) :
    Calls Tryz.prog 35 #[.agg (lnV l u).toArray, .int .i64 a, .int .i64 who] w (AddP w lo u L l who) := by
  cases hf : fineC a
  · obtain ⟨A, c, rfl, _⟩ := h.slice
    refine (c_tmadd_bad w 100 (l : Int) A L.length c a who hf).mono ?_
    rintro e w' ⟨rfl, hb⟩
    exact ⟨l, _, L, 0, 8, rfl, h.below hb, by omega, by omega, .inl rfl, .inl rfl, hb⟩
  · refine (c_tmadd (n := l) h 100 a who hf hL (by omega) (by omega)).mono ?_
    rintro e w' ⟨u', rfl, hd, hb⟩
    exact ⟨l + 1, u', _, (l : Int) + 1, 0, rfl, own_lo hd hlo |> fun k => DR.of (by simpa [insT_len] using k) (Nat.le_refl _), Nat.le_refl _, by rw [insT_len]; exact Nat.le_refl _, .inr ⟨a, (l : Int) + 1, rfl⟩, .inr (fun g hg => (own_blk hd g hg).1), hb⟩
/-- What stands while the waits are laid. -/
structure MInv (last : Int) (Wl : List WQ) (Cs : List CP) (Bs : List BR) (Ts : List Tm) : Prop where
  c : CInv (Wl.map WQ.p) Cs
  b : BInv (Wl.map WQ.p) Bs
  t : TInv (fun p n => IntKind.i64.wrap (8 * p + n)) (Wl.map WQ.p) Ts
  u : Wl.Pairwise fun x y => x.h < y.h
  l : ∀ q ∈ Wl, 0 ≤ q.h ∧ q.h ≤ last
theorem MInv.later {last m : Int} {Wl : List WQ} {Cs : List CP} {Bs : List BR} {Ts : List Tm} (h : MInv last Wl Cs Bs Ts) (hm : last ≤ m) : MInv m Wl Cs Bs Ts :=
  ⟨h.c, h.b, h.t, h.u, fun q hq => ⟨(h.l q hq).1, Int.le_trans (h.l q hq).2 hm⟩⟩
theorem MInv.step {last : Int} {Wl : List WQ} {Cs : List CP} {Bs : List BR} {Ts : List Tm} (h : MInv last Wl Cs Bs Ts) {q : WQ} (hq : last < q.h) (h0 : 0 ≤ q.h) (al : Bool) : MInv q.h (Wl ++ [q]) (offRun q.h al Cs 0 q.gs).1 (offR q.h al Bs Bs 0 q.gs).1 Ts := by
  have e : (Wl ++ [q]).map WQ.p = Wl.map WQ.p ++ [(q.h, q.gs)] := by rw [List.map_append]; rfl
  refine ⟨?_, ?_, ?_, ?_, ?_⟩
  · rw [e]; exact cinv_off h.c
  · rw [e]; exact binv_off h.b
  · rw [e]; exact h.t.app
  · refine List.pairwise_append.2 ⟨h.u, by simp, fun a ha b hb => ?_⟩
    obtain rfl : b = q := by simpa using hb
    have := (h.l a ha).2
    omega
  · intro x hx
    rcases List.mem_append.1 hx with hx | hx
    · have := h.l x hx
      omega
    · obtain rfl : x = q := by simpa using hx
      exact ⟨h0, Int.le_refl _⟩
theorem MInv.time {last : Int} {Wl : List WQ} {Cs : List CP} {Bs : List BR} {Ts Us : List Tm} (h : MInv last Wl Cs Bs Ts) {q : WQ} (hq : q ∈ Wl) {g : GD} (hg : g ∈ q.gs) (hk : g.k = 4) (hU : Us = Ts ∨ ∃ a no, Us = insT Ts ⟨a, no, IntKind.i64.wrap (8 * q.h + g.n)⟩) : MInv last Wl Cs Bs Us := by
  rcases hU with rfl | ⟨a, no, rfl⟩
  · exact h
  · exact ⟨h.c, h.b, tinv_ins h.t ⟨q.h, q.gs, g, List.mem_map_of_mem (f := WQ.p) hq, hg, hk, rfl⟩, h.u, h.l⟩
theorem MInv.pois {last : Int} {Wl : List WQ} {Cs : List CP} {Bs : List BR} {Ts : List Tm} (h : MInv last Wl Cs Bs Ts) (o y : Int) : MInv last Wl (ptL Cs o y) Bs Ts := by
  refine ⟨?_, h.b, h.t, h.u, h.l⟩
  unfold ptL
  split
  · cases hc : Cs[o.toNat]? with
    | none => exact h.c
    | some C =>
      refine cinv_map h.c hc ?_ ?_
      · unfold chPois; split <;> rfl
      · unfold chPois; split <;> rfl
  · exact h.c
theorem wrap_le (n : Int) : IntKind.i64.wrap n ≤ 9223372036854775807 := by rw [IntKind.wrap_i64]; omega
theorem MInv.who {last : Int} {Wl : List WQ} {Cs : List CP} {Bs : List BR} {Ts : List Tm} (h : MInv last Wl Cs Bs Ts) : ∀ t ∈ Ts, t.who ≤ 9223372036854775807 := by
  intro t ht
  obtain ⟨p, gs, g, _, _, _, e⟩ := h.t t ht
  rw [e]
  exact wrap_le _
theorem MInv.k {last : Int} {V : VQ} (h : MInv last V.Wq (V.Cq.map Prod.fst) V.Bq V.Tq) (hf : Few V) (hr : ∀ q ∈ V.Wq, rising q.gs) : KInv V.p := by
  refine ⟨h.c, h.b, ?_, ?_, ?_⟩
  · intro t ht
    obtain ⟨p, gs, g, h1, h2, h3, e⟩ := h.t t ht
    refine ⟨p, gs, g, h1, h2, h3, ?_⟩
    obtain ⟨q, hq, e2⟩ := List.mem_map.1 h1
    have k := hf.ws q hq
    unfold WQ.p at e2
    injection e2 with e3 e4
    subst e3 e4
    have := k.2.2 g h2
    rw [e]
    show IntKind.i64.wrap (8 * q.h + g.n) = 8 * q.h + g.n
    exact IntWalk.i64_in _ (by omega)
  · show (V.Wq.map WQ.p).Pairwise _
    rw [List.pairwise_map]
    exact h.u.imp fun hlt e => by
      have : (_ : Int) < _ := hlt
      unfold WQ.p at e
      simp only at e
      omega
  · intro x hx
    obtain ⟨q, hq, rfl⟩ := List.mem_map.1 hx
    have k := hf.ws q hq
    refine ⟨(hr q hq).imp fun hlt e => ?_, k.2.1, k.2.2⟩
    omega
theorem MInv.new (l : List CF) (Bs : List BR) (hB : BInv [] Bs) : MInv (-1) [] (newL l) Bs [] :=
  ⟨cinv_new _ l, hB, fun t ht => absurd ht (by simp), List.Pairwise.nil, fun q hq => absurd hq (by simp)⟩
theorem binv_new (l : List CB) : BInv [] (nwL l) := by
  intro i B hB p hp
  have hm := List.mem_of_getElem? hB
  unfold nwL at hm
  split at hm
  · obtain ⟨c, _, rfl⟩ := List.mem_map.1 hm
    rw [cbN_r] at hp
    rw [show RL.zero.a = S4.zero from rfl, zero_ints] at hp
    cases hp
  · cases hm
end Go.Proofs.YtdiiilnebepfdaaGreatDoor

namespace Go.Proofs.YtdiiilnebepfdaaGreatDoor
open Go.RowKit

/-- Neither the answer's cell, nor the view's, nor the line's, nor the row of waits. -/
def PlY (r b13 b14 : Nat) (v : Value) : Nat → Prop := fun b => b ≠ r ∧ b ≠ b13 ∧ b ≠ b14 ∧ v.ownBlock ≠ some b
/-- The view, while its waits are laid. -/
def vWC (now : Int) (v : Value) : List Value := [.int .i64 now, .slice none 0 0, .slice none 0 0, v, .slice none 0 0, .slice none 0 0]
structure LSt (w : World) (X : WS) (b13 b14 n1 m1 f t kw : Nat) (last : Int) (A : Option Addr) (c : Nat) (L : List CQ) (B : Option Addr) (Bs : List BR) (WA : Option Addr) (wc : Nat) (Wl : List WQ) (l : Nat) (u : Value) (Ts : List Tm) (wr : World) : Prop where
  up : Below w.heap.size w wr
  h1 : w.heap.size + 1 < b13
  h2 : b13 < b14
  h3 : b14 < wr.heap.size
  tb : TbY wr (PlY (w.heap.size + 1) b13 b14 (.slice WA kw wc)) A n1 c L
  fw : fewL f L
  dy : DY wr (PlY (w.heap.size + 1) b13 b14 (.slice WA kw wc)) B m1 Bs
  vb : Blk wr b13 (vWC X.now (.slice WA kw wc)) 28
  tk : Blk wr b14 (lnV l u) 92
  rs : ∃ ds : List Value, ds.length = 6 ∧ Blk wr (w.heap.size + 1) ds 28
  bx : Blk wr w.heap.size (wsC X) 54
  ow : wr.ownsRow (b14 + 1) 67 2 (.slice WA kw wc) kw (Wl.flatMap wqC)
  dr : DR wr (b14 + 1) u Ts
  dj : ∀ g, (Value.slice WA kw wc).ownBlock = some g → u.ownBlock ≠ some g
  mi : MInv last Wl (L.map Prod.fst) Bs Ts
  me : ∀ q ∈ Wl, q ∈ X.Wq
  ll : l ≤ t ∧ Ts.length ≤ t
  lq : Wl.length = kw
  la : -1 ≤ last ∧ last ≤ 15
theorem up_trans' {s : Nat → Prop} {a b c : World} (h : Below a.heap.size a b) (o : Only s b c) (hs : ∀ k, s k → a.heap.size ≤ k) : Below a.heap.size a c :=
  h.trans (o.toBelow h.size (fun k hk => hs k hk))
section
variable {w : World} {X : WS} {b13 b14 n1 m1 f t kw : Nat} {last : Int} {A : Option Addr} {c : Nat} {L : List CQ} {B : Option Addr} {Bs : List BR} {WA : Option Addr} {wc : Nat} {Wl : List WQ} {l : Nat} {u : Value} {Ts : List Tm} {wr : World}
theorem blk_only {s : Nat → Prop} {a b : World} {g : Nat} {cs : List Value} {t : TypeId} (h : Blk a g cs t) (o : Only s a b) (hs : ¬ s g) : Blk b g cs t := (o.block g h.lt hs).trans h
theorem LSt.own_lt (h : LSt w X b13 b14 n1 m1 f t kw last A c L B Bs WA wc Wl l u Ts wr) {g : Nat} (hg : (Value.slice WA kw wc).ownBlock = some g) : b14 < g ∧ g < wr.heap.size := by
  obtain ⟨k1, cs, k2⟩ := own_blk h.ow g hg
  exact ⟨k1, k2.lt⟩
theorem LSt.pl (h : LSt w X b13 b14 n1 m1 f t kw last A c L B Bs WA wc Wl l u Ts wr) : ∀ b, wr.heap.size ≤ b → PlY (w.heap.size + 1) b13 b14 (.slice WA kw wc) b := by
  intro b hb
  have k1 := h.h1
  have k2 := h.h2
  have k3 := h.h3
  exact ⟨by omega, by omega, by omega, fun hg => by have := h.own_lt hg; omega⟩
theorem LSt.next (h : LSt w X b13 b14 n1 m1 f t kw last A c L B Bs WA wc Wl l u Ts wr) {wr' : World} (hb : Below wr.heap.size wr wr') : LSt w X b13 b14 n1 m1 f t kw last A c L B Bs WA wc Wl l u Ts (wr') := by
  obtain ⟨ds, k1, k2⟩ := h.rs
  exact ⟨up_trans h.up hb, h.h1, h.h2, Nat.lt_of_lt_of_le h.h3 hb.size, h.tb.below hb, h.fw, h.dy.below hb, blk_up h.vb hb, blk_up h.tk hb, ⟨ds, k1, blk_up k2 hb⟩, blk_up h.bx hb, own_below h.ow hb, h.dr.below hb, h.dj, h.mi, h.me, h.ll, h.lq, h.la⟩
/-- The tables are new ones. -/
theorem LSt.tabs (h : LSt w X b13 b14 n1 m1 f t kw last A c L B Bs WA wc Wl l u Ts wr) {f' : Nat} {A' : Option Addr} {c' : Nat} {L' : List CQ} {B' : Option Addr} {Bs' : List BR} {last' : Int} (k1 : TbY wr (PlY (w.heap.size + 1) b13 b14 (.slice WA kw wc)) A' n1 c' L') (k2 : fewL f' L') (k3 : DY wr (PlY (w.heap.size + 1) b13 b14 (.slice WA kw wc)) B' m1 Bs') (k4 : MInv last' Wl (L'.map Prod.fst) Bs' Ts) (k5 : -1 ≤ last' ∧ last' ≤ 15) : LSt w X b13 b14 n1 m1 (f') t kw (last') (A') (c') (L') (B') (Bs') WA wc Wl l u Ts wr :=
  ⟨h.up, h.h1, h.h2, h.h3, k1, k2, k3, h.vb, h.tk, h.rs, h.bx, h.ow, h.dr, h.dj, k4, h.me, h.ll, h.lq, k5⟩
/-- The line is a new one, and is put back. -/
theorem LSt.line (h : LSt w X b13 b14 n1 m1 f t kw last A c L B Bs WA wc Wl l u Ts wr) {l' : Nat} {u' : Value} {Ts' : List Tm} (k1 : DR wr (b14 + 1) u' Ts') (k2 : ∀ g, (Value.slice WA kw wc).ownBlock = some g → u'.ownBlock ≠ some g) (k3 : l' ≤ t + 1 ∧ Ts'.length ≤ t + 1) (k4 : MInv last Wl (L.map Prod.fst) Bs Ts') : LSt w X b13 b14 n1 m1 f (t + 1) kw last A c L B Bs WA wc Wl (l') (u') (Ts') (wr.setRow b14 (lnV l' u').toArray) := by
  have o := (Only.refl (· = b14) wr).row rfl (lnV l' u').toArray
  obtain ⟨ds, q1, q2⟩ := h.rs
  have j1 := h.h1
  have j2 := h.h2
  refine ⟨up_trans' h.up o (fun k hk => by omega), h.h1, h.h2, Nat.lt_of_lt_of_le h.h3 o.size, h.tb.only o (fun k hk hp => hp.2.2.1 hk), h.fw, h.dy.only o (fun k hk hp => hp.2.2.1 hk), blk_only h.vb o (by omega), h.tk.row _, ⟨ds, q1, blk_only q2 o (by omega)⟩, blk_only h.bx o (by omega), own_only h.ow o (fun k hk => by omega), own_only k1 o (fun k hk => by omega), k2, k4, h.me, k3, h.lq, h.la⟩
/-- One more waits. -/
theorem LSt.app (h : LSt w X b13 b14 n1 m1 f t kw last A c L B Bs WA wc Wl l u Ts wr) {q : WQ} {A4 : Option Addr} {d4 : Nat} {w4 : World} (k1 : w4.ownsRow (b14 + 1) 67 2 (.slice A4 (kw + 1) d4) (kw + 1) (Wl.flatMap wqC ++ [q].flatMap wqC)) (k2 : wr.grownBy w4 (Value.slice WA kw wc).ownBlock)
    (k3 : ∀ g, (Value.slice A4 (kw + 1) d4).ownBlock = some g → (Value.slice WA kw wc).ownBlock = some g ∨ wr.heap.size ≤ g) {L' : List CQ} {last' : Int} {Bs' : List BR} {A' : Option Addr} {c' : Nat} {B' : Option Addr} {f' : Nat} (hq : q ∈ X.Wq)
    (m1' : TbY wr (PlY (w.heap.size + 1) b13 b14 (.slice WA kw wc)) A' n1 c' L') (m2 : fewL f' L') (m3 : DY wr (PlY (w.heap.size + 1) b13 b14 (.slice WA kw wc)) B' m1 Bs') (m4 : MInv last' (Wl ++ [q]) (L'.map Prod.fst) Bs' Ts) (m5 : -1 ≤ last' ∧ last' ≤ 15) : LSt w X b13 b14 n1 m1 (f') t (kw + 1) (last') (A') (c') (L') (B') (Bs') (A4) (d4) (Wl ++ [q]) l u Ts (w4.setCell ⟨b13, 3, none⟩ (.slice A4 (kw + 1) d4)) := by
  have o : Only (fun b => (Value.slice WA kw wc).ownBlock = some b) wr w4 := (Only.refl _ wr).grown k2 (fun k hk => .inl hk)
  have o2 := (Only.refl (· = b13) w4).put 3 (.slice A4 (kw + 1) d4)
  obtain ⟨ds, q1, q2⟩ := h.rs
  have j1 := h.h1
  have j2 := h.h2
  have j3 := h.h3
  have hn : ∀ b, b < b14 + 1 → (Value.slice WA kw wc).ownBlock ≠ some b := fun b hb hg => by have := h.own_lt hg; omega
  have hp : ∀ b, (PlY (w.heap.size + 1) b13 b14 (.slice WA kw wc) b ∧ b < wr.heap.size) → PlY (w.heap.size + 1) b13 b14 (.slice A4 (kw + 1) d4) b := fun b hb => ⟨hb.1.1, hb.1.2.1, hb.1.2.2.1, fun hg => (k3 b hg).elim hb.1.2.2.2 (fun h => by omega)⟩
  have hv := blk_only h.vb o (hn b13 (by omega))
  refine ⟨?_, h.h1, h.h2, Nat.lt_of_lt_of_le h.h3 (Nat.le_trans o.size o2.size), ((m1'.lt.only o (fun k hk hp => hp.1.2.2.2 hk)).lo hp).only o2 (fun k hk hp => hp.2.1 hk), m2, ((m3.lt.only o (fun k hk hp => hp.1.2.2.2 hk)).lo hp).only o2 (fun k hk hp => hp.2.1 hk), hv.set 3 _, blk_only (blk_only h.tk o (hn b14 (by omega))) o2 (by omega), ⟨ds, q1, blk_only (blk_only q2 o (hn _ (by omega))) o2 (by omega)⟩, blk_only (blk_only h.bx o (hn _ (by omega))) o2 (by omega), by rw [List.flatMap_append]; exact own_only k1 o2 (fun k hk => by omega), own_only (own_keep h.dr o (fun g hg hs => h.dj g hs hg)) o2 (fun k hk => by omega), fun g hg hu => (k3 g hg).elim (fun k => h.dj g k hu) (fun k => by
    obtain ⟨_, cs, r⟩ := own_blk h.dr g hu
    have := r.lt
    omega), m4, fun x hx => ?_, h.ll, by rw [List.length_append, h.lq]; rfl, m5⟩
  · have g1 : Below w.heap.size w w4 := up_trans' h.up o (fun k hk => by have := h.own_lt hk; omega)
    exact up_trans' g1 o2 (fun k hk => by omega)
  · rcases List.mem_append.1 hx with hx | hx
    · exact h.me x hx
    · obtain rfl : x = q := by simpa using hx
      exact hq
theorem LSt.vb_app (h : LSt w X b13 b14 n1 m1 f t kw last A c L B Bs WA wc Wl l u Ts wr) {w4 : World} (hg : wr.grownBy w4 (Value.slice WA kw wc).ownBlock) : Blk w4 b13 (vWC X.now (.slice WA kw wc)) 28 := by
  have j2 := h.h2
  exact blk_only h.vb ((Only.refl (fun b => (Value.slice WA kw wc).ownBlock = some b) wr).grown hg (fun k hk => .inl hk)) (fun hk => by have := h.own_lt hk; omega)
/-- What of it the view speaks of. -/
structure LP (w : World) (X : WS) (b13 b14 n1 m1 kw : Nat) (A : Option Addr) (c : Nat) (L : List CQ) (B : Option Addr) (Bs : List BR) (WA : Option Addr) (wc : Nat) (Wl : List WQ) (u : Value) (Ts : List Tm) (wr : World) : Prop where
  up : Below w.heap.size w wr
  h1 : w.heap.size + 1 < b13
  h2 : b13 < b14
  tb : TbY wr (PlY (w.heap.size + 1) b13 b14 (.slice WA kw wc)) A n1 c L
  dy : DY wr (PlY (w.heap.size + 1) b13 b14 (.slice WA kw wc)) B m1 Bs
  ow : wr.ownsRow (b14 + 1) 67 2 (.slice WA kw wc) kw (Wl.flatMap wqC)
  dr : DR wr (b14 + 1) u Ts
  me : ∀ q ∈ Wl, q ∈ X.Wq
  lq : Wl.length = kw
theorem LSt.lp (h : LSt w X b13 b14 n1 m1 f t kw last A c L B Bs WA wc Wl l u Ts wr) : LP w X b13 b14 n1 m1 kw A c L B Bs WA wc Wl u Ts wr := ⟨h.up, h.h1, h.h2, h.tb, h.dy, h.ow, h.dr, h.me, h.lq⟩
theorem LP.next (h : LP w X b13 b14 n1 m1 kw A c L B Bs WA wc Wl u Ts wr) {wr' : World} (hb : Below wr.heap.size wr wr') : LP w X b13 b14 n1 m1 kw A c L B Bs WA wc Wl u Ts wr' :=
  ⟨up_trans h.up hb, h.h1, h.h2, h.tb.below hb, h.dy.below hb, own_below h.ow hb, h.dr.below hb, h.me, h.lq⟩
theorem LP.only {s : Nat → Prop} (h : LP w X b13 b14 n1 m1 kw A c L B Bs WA wc Wl u Ts wr) {wr' : World} (o : Only s wr wr') (hs : ∀ k, s k → k = b13 ∨ k = w.heap.size + 1) : LP w X b13 b14 n1 m1 kw A c L B Bs WA wc Wl u Ts wr' := by
  have j1 := h.h1
  have j2 := h.h2
  refine ⟨up_trans' h.up o (fun k hk => by have := hs k hk; omega), h.h1, h.h2, h.tb.only o (fun k hk hp => (hs k hk).elim hp.2.1 hp.1), h.dy.only o (fun k hk hp => (hs k hk).elim hp.2.1 hp.1), own_only h.ow o (fun k hk => by have := hs k hk; omega), own_only h.dr o (fun k hk => by have := hs k hk; omega), h.me, h.lq⟩
/-- The view that it comes to. -/
def mV (X : WS) (A : Option Addr) (c : Nat) (L : List CQ) (B : Option Addr) (d : Nat) (Bs : List BR) (WA : Option Addr) (wc : Nat) (Wl : List WQ) (TA : Option Addr) (tc : Nat) (Ts : List Tm) : VQ := ⟨X.now, A, c, L, B, d, Bs, WA, wc, Wl, TA, tc, Ts, none, 0, []⟩
theorem LP.vx {TA : Option Addr} {tc tn : Nat} (h : LP w X b13 b14 n1 m1 kw A c L B Bs WA wc Wl (.slice TA tn tc) Ts wr) (hX : WX wr X) (hm : m1 ≤ 8) (d : Nat) : ∃ Q, VX wr (mV X A c L B d Bs WA wc Wl TA tc Ts) Q := by
  obtain ⟨Q, k1, k2, k3⟩ := dt_raw h.dy.d
  obtain ⟨B1, e1, r1, _, _, r2⟩ := own_slice h.ow
  obtain ⟨B2, e2, q1, _, _, q2⟩ := h.dr.slice
  injection r1 with r1 _ _
  injection q1 with q1 _ _
  subst r1 q1
  refine ⟨Q, ⟨⟨?_, ⟨?_, rfl, fun q hq => hX.wt.each q (h.me q hq)⟩, q2.lo (fun _ _ => trivial), RD.nil _ _ _ _⟩, ?_, k2, by unfold maxLen; omega⟩⟩
  · show TbW wr ctAny A L.length c L
    rw [h.tb.t.len]
    exact h.tb.t.lo (fun _ _ => trivial)
  · show RD wr tt 2 WA Wl.length (Wl.flatMap wqC)
    rw [h.lq]
    exact r2.lo (fun _ _ => trivial)
  · rw [k3]
    exact k1
/-- The view's cells. -/
theorem mV_c {TA : Option Addr} {tc tn : Nat} (h : LP w X b13 b14 n1 m1 kw A c L B Bs WA wc Wl (.slice TA tn tc) Ts wr) (d : Nat) : vC (mV X A c L B d Bs WA wc Wl TA tc Ts) = [.int .i64 X.now, .slice A n1 c, .slice B m1 d, .slice WA kw wc, .slice TA tn tc, .slice none 0 0] := by
  obtain ⟨B2, e2, q1, _, _, _⟩ := h.dr.slice
  injection q1 with _ q1 _
  unfold vC mV
  simp only [h.tb.t.len, h.dy.len, h.lq, q1, List.length_nil]
theorem dy_raw {w : World} {Y : Nat → Prop} {A : Option Addr} {n : Nat} {L : List BR} (h : DY w Y A n L) : ∃ Q : List RB, TW rB w Y A n Q ∧ L = Q.map rbP ∧ Q.length = n := by
  obtain ⟨Q, h1, rfl⟩ := h
  refine ⟨Q.map rawB, ⟨?_, by rw [List.length_map]; exact h1.len, fun q hq => ?_⟩, ?_, by rw [List.length_map]; exact h1.len⟩
  · have e : (Q.map rawB).flatMap rB.f = Q.flatMap dB.f := by rw [List.flatMap_map]; rfl
    rw [e]
    exact h1.rd
  · obtain ⟨p, hp, rfl⟩ := List.mem_map.1 hq
    have := h1.each p hp
    exact ⟨this.m, this.a⟩
  · rw [List.map_map]
    exact (List.map_congr_left fun q _ => (rawB_p q).symm)
/-- The state of the last region. -/
structure FS (w : World) (X : WS) (b13 b14 n1 m1 kw : Nat) (A : Option Addr) (c : Nat) (L : List CQ) (B : Option Addr) (d : Nat) (Bs : List BR) (WA : Option Addr) (wc : Nat) (Wl : List WQ) (TA : Option Addr) (tn tc : Nat) (Ts : List Tm) (Q : List RB) (W : World) : Prop where
  lp : LP w X b13 b14 n1 m1 kw A c L B Bs WA wc Wl (.slice TA tn tc) Ts W
  rb : TW rB W (PlY (w.heap.size + 1) b13 b14 (.slice WA kw wc)) B m1 Q
  vb : Blk W b13 (vC (mV X A c L B d Bs WA wc Wl TA tc Ts)) 28
  rs : ∃ ds : List Value, ds.length = 6 ∧ Blk W (w.heap.size + 1) ds 28
section
variable {d tn tc : Nat} {TA : Option Addr} {Q : List RB} {W : World}
theorem FS.next (h : FS w X b13 b14 n1 m1 kw A c L B d Bs WA wc Wl TA tn tc Ts Q W) {W' : World} (hb : Below W.heap.size W W') : FS w X b13 b14 n1 m1 kw A c L B d Bs WA wc Wl TA tn tc Ts Q W' := by
  obtain ⟨ds, k1, k2⟩ := h.rs
  exact ⟨h.lp.next hb, h.rb.below hb, blk_up h.vb hb, ⟨ds, k1, blk_up k2 hb⟩⟩
theorem FS.put (h : FS w X b13 b14 n1 m1 kw A c L B d Bs WA wc Wl TA tn tc Ts Q W) : FS w X b13 b14 n1 m1 kw A c L B d Bs WA wc Wl TA tn tc Ts Q (W.setRow (w.heap.size + 1) (vC (mV X A c L B d Bs WA wc Wl TA tc Ts)).toArray) := by
  have o := (Only.refl (· = w.heap.size + 1) W).row rfl (vC (mV X A c L B d Bs WA wc Wl TA tc Ts)).toArray
  obtain ⟨ds, k1, k2⟩ := h.rs
  have j1 := h.lp.h1
  exact ⟨h.lp.only o (fun k hk => .inr hk), h.rb.only o (fun k hk hp => hp.1 hk), blk_only h.vb o (by omega), ⟨_, rfl, k2.row _⟩⟩
theorem FS.vx (h : FS w X b13 b14 n1 m1 kw A c L B d Bs WA wc Wl TA tn tc Ts Q W) (hX : WX W X) (hm : m1 ≤ 8) (e : Bs = Q.map rbP) (l : Q.length = m1) : VX W (mV X A c L B d Bs WA wc Wl TA tc Ts) Q := by
  obtain ⟨Q', k⟩ := h.lp.vx hX hm d
  refine ⟨k.r, ?_, e, by unfold maxLen; omega⟩
  show TW rB W tt B Q.length Q
  rw [l]
  exact h.rb.lo (fun _ _ => trivial)
end
end
end Go.Proofs.YtdiiilnebepfdaaGreatDoor

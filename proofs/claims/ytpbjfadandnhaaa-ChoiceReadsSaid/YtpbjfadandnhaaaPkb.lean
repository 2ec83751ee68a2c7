/- Package choice: slices of choices; within, Check, pair, rest, whole. -/
import Derived.Test.YtpbjfadandnhaaaPka
import Derived.Test.YtpbjfadandnhaaaRows
import Derived.Test.YtpbjfadandnhaaaNb
import Derived.WalkKit
import Derived.WalkSpells
import Derived.LoopTactic
import Derived.BigRegion
import Derived.BigQuiet
import Derived.Deep.QuietTactic
import Derived.Lib.QuietBelow
import Derived.Lib.Hide
import Derived.IntWalk
import Derived.Laws.StructEq
import Derived.Laws.BitsLemmas
import Derived.Deep.CutBlock
import Derived.Deep.DeepCutAuto
import Derived.Deep.RegionWith
namespace Go.Proofs.Ytpbjfadandnhaaa
open Go.RowKit

theorem ei_ch : EI Try.prog 29 36 (.agg #[.int .i64 0, .int .i64 0, .int .i64 0]) 3 24 := ⟨Try.underlying29, by kernel_rfl, rfl, by omega, by omega⟩
/-- One choice of a slice of them. -/
theorem RD.ch {w : World} {pl : Nat → Prop} {A : Option Addr} {n : Nat} {L : List CH} (h : RD w pl 3 A n (L.flatMap chC)) (k : Nat) (x : CH) (hx : L[k]? = some x) (hk : k < n) :
    ∃ b o, A = some ⟨b, o, none⟩ ∧ b < w.heap.size ∧ w.cell? ⟨b, o + k * 3, none⟩ = some (.int .i64 x.k) ∧ w.cell? ⟨b, o + k * 3 + 1, none⟩ = some (.int .i64 x.v) ∧ w.cell? ⟨b, o + k * 3 + 2, none⟩ = some (.int .i64 x.w) := by
  obtain ⟨b, o, e, _, h2, h3⟩ := h.at_ (by omega)
  have key : ∀ j u, j < 3 → (chC x)[j]? = some u → w.cell? ⟨b, o + k * 3 + j, none⟩ = some u := fun j u hj hu => by
    have := h3 (k * 3 + j) u (by rw [flat_get chC 3 chC_len L k j _ hx hj]; exact hu)
    rwa [← Nat.add_assoc] at this
  exact ⟨b, o, e, h2, key 0 _ (by omega) rfl, key 1 _ (by omega) rfl, key 2 _ (by omega) rfl⟩
theorem RD.belowN {w w' : World} {n₀ size n : Nat} {A : Option Addr} {xs : List Value} (h : RD w (· < n₀) size A n xs) (hb : Below n₀ w w') : RD w' (· < n₀) size A n xs := by
  refine ⟨h.1, fun hn => ?_⟩
  obtain ⟨b, o, e, h1, h2, h3⟩ := h.2 hn
  exact ⟨b, o, e, h1, Nat.lt_of_lt_of_le h2 hb.size, fun j u hu => (hb.cell (p := ⟨b, o + j, none⟩) h1).trans (h3 j u hu)⟩
theorem cells_up {w : World} {b o k : Nat} {x : CH} (hb : b < w.heap.size) (h : w.cell? ⟨b, o + k * 3, none⟩ = some (.int .i64 x.k) ∧ w.cell? ⟨b, o + k * 3 + 1, none⟩ = some (.int .i64 x.v) ∧ w.cell? ⟨b, o + k * 3 + 2, none⟩ = some (.int .i64 x.w)) {W : World} (hW : Below w.heap.size w W) :
    W.cell? ⟨b, o + k * 3, none⟩ = some (.int .i64 x.k) ∧ W.cell? ⟨b, o + k * 3 + 1, none⟩ = some (.int .i64 x.v) ∧ W.cell? ⟨b, o + k * 3 + 2, none⟩ = some (.int .i64 x.w) :=
  ⟨(hW.cell (p := ⟨b, o + k * 3, none⟩) hb).trans h.1, (hW.cell (p := ⟨b, o + k * 3 + 1, none⟩) hb).trans h.2.1, (hW.cell (p := ⟨b, o + k * 3 + 2, none⟩) hb).trans h.2.2⟩
theorem rd_new {w : World} {cs : Array Value} {t : TypeId} {n m : Nat} (hn : n = w.heap.size) (hm : cs.size = m) : RD (w.alloc (.cells cs t)) (fun _ => True) m (some ⟨n, 0, none⟩) 1 cs.toList := by
  subst hn
  have h := Blk.new w cs.toList t
  rw [Array.toArray_toList] at h
  exact RD.of_blk (xs := cs.toList) h (by rw [Array.length_toList, hm, Nat.one_mul]) trivial

theorem Blk.new' (w : World) (cs : List Value) (t : TypeId) (n : Nat) (h : n = w.heap.size) : Blk (w.alloc (.cells cs.toArray t)) n cs t := h ▸ Blk.new w cs t

set_option maxHeartbeats 1000000 in
theorem c_within (k v u a b : Int) (w : World) : Calls Try.prog 25 #[.agg #[.int .i64 k, .int .i64 v, .int .i64 u], .int .i64 a, .int .i64 b] w fun e w' => e = .returned (.int .i64 (chIn v u a b)) ∧ Below w.heap.size w w' := by
  have HU := Lib.hid (up_alloc w (.cells #[.int .i64 k, .int .i64 v, .int .i64 u] 36))
  by_cases h1 : v < 0
  · have HX : Hid (chIn v u a b = 8) := Lib.hid (by unfold chIn; split <;> omega)
    go_enter Try.func25, Try.ntmps25
    go_wp2
    go_ret
    exact ⟨ret_int HX.out.symm, HU.out⟩
  · by_cases h2 : a < v
    · have HX : Hid (chIn v u a b = 8) := Lib.hid (by unfold chIn; split <;> omega)
      go_enter Try.func25, Try.ntmps25
      go_wp2
      go_ret
      exact ⟨ret_int HX.out.symm, HU.out⟩
    · by_cases h3 : u < 0
      · have HX : Hid (chIn v u a b = 8) := Lib.hid (by unfold chIn; split <;> omega)
        go_enter Try.func25, Try.ntmps25
        go_wp2
        go_ret
        exact ⟨ret_int HX.out.symm, HU.out⟩
      · by_cases h4 : b < u
        · have HX : Hid (chIn v u a b = 8) := Lib.hid (by unfold chIn; split <;> omega)
          go_enter Try.func25, Try.ntmps25
          go_wp2
          go_ret
          exact ⟨ret_int HX.out.symm, HU.out⟩
        · have HX : Hid (chIn v u a b = 0) := Lib.hid (by unfold chIn; split <;> omega)
          go_enter Try.func25, Try.ntmps25
          go_wp2
          go_ret
          exact ⟨ret_int HX.out.symm, HU.out⟩
set_option maxHeartbeats 1000000 in
theorem c_pkchk (k v u : Int) (w : World) : Calls Try.prog 12 #[.agg #[.int .i64 k, .int .i64 v, .int .i64 u]] w fun e w' => e = .returned (.int .i64 (chChk k v u)) ∧ Below w.heap.size w w' := by
  have HU := Lib.hid (up_alloc w (.cells #[.int .i64 k, .int .i64 v, .int .i64 u] 36))
  have CP := Lib.hid (fun W => c_within k v u 255 255 W)
  have CT := Lib.hid (fun W => c_within k v u 65535 0 W)
  by_cases h0 : k = 0
  · subst h0
    have HX : Hid (chChk 0 v u = chIn v u 255 255) := Lib.hid rfl
    generalize chIn v u 255 255 = z at CP HX
    go_enter Try.func12, Try.ntmps12
    go_wp2_with fail
    refine (CP.out _).mono ?_; rintro e w2 ⟨rfl, hb2⟩
    go_wp2
    go_ret
    exact ⟨ret_int HX.out.symm, up_trans HU.out hb2⟩
  · by_cases h1 : k = 1
    · subst h1
      have HX : Hid (chChk 1 v u = chIn v u 65535 0) := Lib.hid rfl
      generalize chIn v u 65535 0 = z at CT HX
      go_enter Try.func12, Try.ntmps12
      go_wp2_with fail
      refine (CT.out _).mono ?_; rintro e w2 ⟨rfl, hb2⟩
      go_wp2
      go_ret
      exact ⟨ret_int HX.out.symm, up_trans HU.out hb2⟩
    · have HX : Hid (chChk k v u = 12) := Lib.hid (by unfold chChk; rw [if_neg h0, if_neg h1])
      have t0 : (k == 0) = false := beq_eq_false_iff_ne.2 h0
      have t1 : (k == 1) = false := beq_eq_false_iff_ne.2 h1
      clear h0 h1
      go_enter Try.func12, Try.ntmps12
      go_wp2
      go_ret
      exact ⟨ret_int HX.out.symm, HU.out⟩
set_option maxHeartbeats 1000000 in
theorem c_pair (n : Int) (w : World) : Calls Try.prog 20 #[.int .i64 n] w fun e w' => e = .returned (.slice (some ⟨w.heap.size, 0, none⟩) 2 2) ∧ w' = w.alloc (.cells #[.int .u8 (n / 256 % 256), .int .u8 (n % 256)] 5) := by
  go_enter Try.func20, Try.ntmps20
  go_wp2
  go_ret
  exact ⟨rfl, rfl⟩
theorem or_word (a b : UInt8) : bits .or .i64 ((a.toNat : Int) * 256) (b.toNat : Int) = 256 * (a.toNat : Int) + b.toNat := by
  have ha := a.toNat_lt
  have hb := b.toNat_lt
  rw [bits_join .i64 32 (by decide) (fun n h0 h1 => IntWalk.i64_in _ (by omega)) 8 _ _ (by omega) (by omega) (by omega) (by omega) (by omega) (by omega)]
  omega
set_option maxHeartbeats 1000000 in
theorem c_whole (a b : UInt8) (w : World) : Calls Try.prog 26 #[.int .u8 a.toNat, .int .u8 b.toNat] w fun e w' => e = .returned (.int .i64 (256 * (a.toNat : Int) + b.toNat)) ∧ w = w' := by
  have ha := a.toNat_lt
  have hb := b.toNat_lt
  have HX := Lib.hid (or_word a b)
  go_enter Try.func26, Try.ntmps26
  go_wp2
  go_ret
  exact ⟨ret_int HX.out, rfl⟩

/-- A choice's three bytes, whatever its numbers are. -/
def chX (x : CH) : Int := if x.k = 1 then x.v / 256 % 256 else x.v % 256
def chY (x : CH) : Int := if x.k = 1 then x.v % 256 else x.w % 256
def chRawC (x : CH) : List Value := [.int .u8 (x.k % 256), .int .u8 (chX x), .int .u8 (chY x)]
theorem raw_enc {x : CH} (h : x.chk = 0) : chRawC x = Lib.byteCells (chEnc x) := by
  unfold chRawC chEnc chX chY
  rcases chk_ways h with ⟨hk, h1, h2, h3, h4⟩ | ⟨hk, h1, h2, h3⟩
  · rw [if_neg (by omega), if_neg (by omega), if_neg (by omega), hk]
    show _ = [Value.int .u8 0, Value.int .u8 (u8 x.v).toNat, Value.int .u8 (u8 x.w).toNat]
    rw [u8_nat h1 (by omega), u8_nat h3 (by omega), Int.emod_eq_of_lt h1 (by omega), Int.emod_eq_of_lt h3 (by omega)]
    rfl
  · rw [if_pos hk, if_pos hk, if_pos hk, hk]
    show _ = [Value.int .u8 1, Value.int .u8 (u8 (x.v / 256)).toNat, Value.int .u8 (u8 (x.v % 256)).toNat]
    rw [u8_nat (by omega) (by omega), u8_nat (by omega) (by omega), Int.emod_eq_of_lt (a := x.v / 256) (by omega) (by omega)]
    rfl
theorem raws_enc : ∀ {L : List CH}, (∀ y ∈ L, y.chk = 0) → L.flatMap chRawC = Lib.byteCells (L.flatMap chEnc)
  | [], _ => rfl
  | x :: t, h => by
    rw [List.flatMap_cons, List.flatMap_cons, Lib.byteCells_append, raw_enc (h x (List.mem_cons_self ..)), raws_enc fun y hy => h y (List.mem_cons_of_mem _ hy)]
theorem raws_len (L : List CH) : (L.flatMap chRawC).length = L.length * 3 := by
  induction L with
  | nil => rfl
  | cons a l ih => rw [List.flatMap_cons, List.length_append, ih, List.length_cons]; show 3 + _ = _; omega
theorem raw_flat1 (L : List CH) (x : CH) : (L ++ [x]).flatMap chRawC = (L.flatMap chRawC ++ [.int .u8 (x.k % 256)]) ++ [.int .u8 (chX x), .int .u8 (chY x)] := by
  rw [List.flatMap_append, List.append_assoc]
  rfl
theorem pair_cells {n : Int} (h0 : 0 ≤ n) (h1 : n ≤ 65535) : [Value.int .u8 (n / 256 % 256), Value.int .u8 (n % 256)] = Lib.byteCells (chPair n) := by
  show _ = [Value.int .u8 (u8 (n / 256)).toNat, Value.int .u8 (u8 (n % 256)).toNat]
  rw [u8_nat (by omega) (by omega), u8_nat (by omega) (by omega), Int.emod_eq_of_lt (a := n / 256) (by omega) (by omega)]
set_option maxHeartbeats 1000000 in
theorem c_rest (x : CH) (w : World) : Calls Try.prog 23 #[.agg #[.int .i64 x.k, .int .i64 x.v, .int .i64 x.w]] w fun e w' => e = .returned (.slice (some ⟨w.heap.size + 1, 0, none⟩) 2 2) ∧ w' = (w.alloc (.cells #[.int .i64 x.k, .int .i64 x.v, .int .i64 x.w] 36)).alloc (.cells #[.int .u8 (chX x), .int .u8 (chY x)] 5) := by
  unfold chX chY
  obtain ⟨k, v, u⟩ := x
  simp only
  by_cases h : k = 1
  · subst h
    rw [if_pos rfl, if_pos rfl]
    go_enter Try.func23, Try.ntmps23
    go_wp2_with fail
    refine (c_pair v _).mono ?_; rintro e w2 ⟨rfl, rfl⟩
    go_wp2
    go_ret
    refine ⟨by simp, rfl⟩
  · have t1 : (k == 1) = false := beq_eq_false_iff_ne.2 h
    rw [if_neg h, if_neg h]
    clear h
    go_enter Try.func23, Try.ntmps23
    go_wp2
    go_ret
    exact ⟨rfl, rfl⟩

def OnePost (w : World) (x : CH × Int) (e : Ending) (w' : World) : Prop := e = .returned (.tuple #[.agg #[.int .i64 x.1.k, .int .i64 x.1.v, .int .i64 x.1.w], .int .i64 x.2]) ∧ Below w.heap.size w w'
set_option maxHeartbeats 1000000 in
theorem c_one_short (l : List UInt8) (h : l.length < 3) (w : World) : Calls Try.prog 32 #[.string ⟨l.toArray⟩] w (OnePost w (chOne l)) := by
  rw [one_short h]
  have hl : (l.length : Int) < 3 := by omega
  have HU := Lib.hid (up_alloc w (.cells #[.int .i64 0, .int .i64 0, .int .i64 0] 36))
  go_enter Try.func32, Try.ntmps32
  go_wp2
  all_goals first | (exfalso; omega) | skip
  refine bodyPost_ret (v := .tuple #[.agg #[.int .i64 0, .int .i64 0, .int .i64 0], .int .i64 4]) (by simp [results, Try.results32, go_sem]) rfl ⟨rfl, HU.out⟩
theorem byte_w (a : UInt8) : wrap64 (a.toNat : Int) = a.toNat := by
  have ha := a.toNat_lt
  rw [← IntWalk.i64_left]
  exact IntWalk.i64_in _ (by omega)
theorem Blk.up_h {w W w' : World} {b : Nat} {cs : List Value} {t : TypeId} (h : Blk w b cs t) (hb : Below W.heap.size W w') (e : W.heap = w.heap) : Blk w' b cs t := by
  have h' : Blk W b cs t := by
    unfold Blk
    rw [e]
    exact h
  exact h'.up hb h'.lt
def OneC (w : World) (a b c : UInt8) (s2 s4 : Value) (wx : World) : Prop :=
  s2 = .pointer (some ⟨w.heap.size, 0, none⟩) ∧ s4 = .pointer (some ⟨w.heap.size + 1, 0, none⟩) ∧ Blk wx w.heap.size [.int .i64 0, .int .i64 0, .int .i64 0] 36 ∧ Blk wx (w.heap.size + 1) [.int .i64 a.toNat, .int .i64 b.toNat, .int .i64 c.toNat] 36 ∧ Below w.heap.size w wx
theorem OnePost.of {w W w2 : World} {x : CH × Int} {k v u e : Int} {y : Nat} (hx : x = (⟨k, v, u⟩, e)) (hb : Below w.heap.size w W) (h2 : Below W.heap.size W w2) (hy : w.heap.size ≤ y) (a b c : Value) :
    OnePost w x (.returned (.tuple #[.agg #[.int .i64 k, .int .i64 v, .int .i64 u], .int .i64 e])) (((w2.setCell ⟨y, 0, none⟩ a).setCell ⟨y, 1, none⟩ b).setCell ⟨y, 2, none⟩ c) := by
  rw [hx]
  exact ⟨rfl, (((hb.trans (h2.mono hb.size)).setCell (p := ⟨y, 0, none⟩) hy _).setCell (p := ⟨y, 1, none⟩) hy _).setCell (p := ⟨y, 2, none⟩) hy _⟩
set_option maxRecDepth 100000 in
set_option maxHeartbeats 2000000 in
theorem c_one_long (a b c : UInt8) (r : List UInt8) (hr : r.length ≤ 1000000) (w : World) : Calls Try.prog 32 #[.string ⟨(a :: b :: c :: r).toArray⟩] w (OnePost w (chOne (a :: b :: c :: r))) := by
  have i0 : (0 : Int) < (r.length : Int) + 1 + 1 + 1 := by omega
  have i1 : (1 : Int) < (r.length : Int) + 1 + 1 + 1 := by omega
  have i2 : (2 : Int) < (r.length : Int) + 1 + 1 + 1 := by omega
  have CW := Lib.hid (fun W => c_whole b c W)
  have hb0 := Lib.hid ((((Below.refl _ w).alloc (Nat.le_refl _) (.cells #[.int .i64 0, .int .i64 0, .int .i64 0] 36)).alloc (by simp) (.cells #[.int .i64 a.toNat, .int .i64 b.toNat, .int .i64 c.toNat] 36)))
  have hB0 := Lib.hid ((Blk.new w [.int .i64 0, .int .i64 0, .int .i64 0] 36).alloc (.cells #[.int .i64 a.toNat, .int .i64 b.toNat, .int .i64 c.toNat] 36))
  have hB1 := Lib.hid (Blk.new' (w.alloc (.cells #[.int .i64 0, .int .i64 0, .int .i64 0] 36)) [.int .i64 a.toNat, .int .i64 b.toNat, .int .i64 c.toNat] 36 (w.heap.size + 1) (by simp))
  have BY0 : Hid (∀ h, wrap64 (((⟨(a :: b :: c :: r).toArray⟩ : ByteArray)[0]'h).toNat : Int) = a.toNat) := Lib.hid fun h => byte_w a
  have BY1 : Hid (∀ h, wrap64 (((⟨(a :: b :: c :: r).toArray⟩ : ByteArray)[1]'h).toNat : Int) = b.toNat) := Lib.hid fun h => byte_w b
  have BY2 : Hid (∀ h, wrap64 (((⟨(a :: b :: c :: r).toArray⟩ : ByteArray)[2]'h).toNat : Int) = c.toNat) := Lib.hid fun h => byte_w c
  go_enter Try.func32, Try.ntmps32
  go_upto_region 3 with fail
  go_cut [2, 4] (fun s2 s4 wx => OneC w a b c s2 s4 wx)
  case first =>
    go_region
    go_wp2
    go_meet
    case rel =>
      rw [BY0.out, BY1.out, BY2.out]
      exact ⟨rfl, rfl, hB0.out, hB1.out, hb0.out.drew⟩
  case rest =>
    obtain ⟨rfl, rfl, hA, hC, hb⟩ := hcut
    have HA := Lib.hid hA
    have HC := Lib.hid hC
    have HB := Lib.hid hb
    have q0 := hC.cell 0 _ rfl
    have q1 := hC.cell 1 _ rfl
    have q2 := hC.cell 2 _ rfl
    have f1 := hC.free 1
    have f2 := hC.free 2
    clear hA hC hb hb0 hB0 hB1
    by_cases ha : a = 1
    · subst ha
      have HX : Hid (chOne (1 :: b :: c :: r) = (⟨1, 256 * (b.toNat : Int) + c.toNat, 0⟩, chChk 1 (256 * (b.toNat : Int) + c.toNat) 0)) := Lib.hid rfl
      have CC := Lib.hid (fun W => c_pkchk 1 (256 * (b.toNat : Int) + c.toNat) 0 W)
      generalize 256 * (b.toNat : Int) + c.toNat = v at CW HX CC
      generalize chChk 1 v 0 = z at HX CC
      have HC2 := Lib.hid ((HC.out.set 1 (.int .i64 v)).set 2 (.int .i64 0))
      have HA2 := Lib.hid ((HA.out.other ⟨w.heap.size + 1, 1, none⟩ (by simp) (.int .i64 v)).other ⟨w.heap.size + 1, 2, none⟩ (by simp) (.int .i64 0))
      have HB2 := Lib.hid ((HB.out.setCell (p := ⟨w.heap.size + 1, 1, none⟩) (by simp) (.int .i64 v)).setCell (p := ⟨w.heap.size + 1, 2, none⟩) (by simp) (.int .i64 0))
      have o0 := HC2.out.cell 0 _ rfl
      have o1 := HC2.out.cell 1 _ rfl
      have o2 := HC2.out.cell 2 _ rfl
      go_wp2
      go_region_with (go_at_call 26; refine (CW.out _).mono ?_; rintro e w' ⟨rfl, rfl⟩)
      all_goals
        go_wp2
        go_region_with (go_at_call 12; refine (CC.out _).mono ?_; rintro e w2 ⟨rfl, hb2⟩; have hc2 := Blk.up_h (HC2.out) hb2 rfl; have ha2 := Blk.up_h (HA2.out) hb2 rfl; have k0 := hc2.cell 0 _ rfl; have k1 := hc2.cell 1 _ rfl; have k2 := hc2.cell 2 _ rfl; have r0 := ha2.cell 0 _ rfl; have r1 := ha2.cell 1 _ rfl; have r2 := ha2.cell 2 _ rfl; have g0 := ha2.free 0; have g1 := ha2.free 1; have g2 := ha2.free 2)
      all_goals
        go_wp2
        refine bodyPost_ret (v := .tuple #[.agg #[.int .i64 1, .int .i64 v, .int .i64 0], .int .i64 z]) (by simp [results, Try.results32, go_sem, r0, r1, r2]) rfl (OnePost.of HX.out HB2.out.drew.drew hb2 (by omega) _ _ _)
    · have t1 : ((a.toNat : Int) == 1) = false := beq_eq_false_iff_ne.2 fun e => ha (UInt8.toNat_inj.1 (by simpa using (by omega : a.toNat = 1)))
      have HX : Hid (chOne (a :: b :: c :: r) = (⟨a.toNat, b.toNat, c.toNat⟩, chChk a.toNat b.toNat c.toNat)) := Lib.hid (by
        show (chRaw a b c, (chRaw a b c).chk) = _
        unfold chRaw
        rw [if_neg ha]
        rfl)
      have CC := Lib.hid (fun W => c_pkchk a.toNat b.toNat c.toNat W)
      generalize chChk a.toNat b.toNat c.toNat = z at HX CC
      go_wp2
      go_region_with (go_at_call 12; refine (CC.out _).mono ?_; rintro e w2 ⟨rfl, hb2⟩; have hc2 := Blk.up_h (HC.out) hb2 rfl; have ha2 := Blk.up_h (HA.out) hb2 rfl; have k0 := hc2.cell 0 _ rfl; have k1 := hc2.cell 1 _ rfl; have k2 := hc2.cell 2 _ rfl; have r0 := ha2.cell 0 _ rfl; have r1 := ha2.cell 1 _ rfl; have r2 := ha2.cell 2 _ rfl; have g0 := ha2.free 0; have g1 := ha2.free 1; have g2 := ha2.free 2)
      all_goals
        go_wp2
        refine bodyPost_ret (v := .tuple #[.agg #[.int .i64 a.toNat, .int .i64 b.toNat, .int .i64 c.toNat], .int .i64 z]) (by simp [results, Try.results32, go_sem, r0, r1, r2]) rfl (OnePost.of HX.out HB.out.drew hb2 (by omega) _ _ _)
theorem c_one (l : List UInt8) (hl : l.length ≤ 1000000) (w : World) : Calls Try.prog 32 #[.string ⟨l.toArray⟩] w (OnePost w (chOne l)) := by
  by_cases h : l.length < 3
  · exact c_one_short l h w
  · match l, h, hl with
    | [], h, _ => exact absurd (by simp) h
    | [_], h, _ => exact absurd (by simp) h
    | [_, _], h, _ => exact absurd (by simp) h
    | a :: b :: c :: r, _, hl => exact c_one_long a b c r (by simp at hl; omega) w
end Go.Proofs.Ytpbjfadandnhaaa

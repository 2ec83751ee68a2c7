/- Timers compared; the document's Due and Same; the law's back. -/
import Derived.Test.YtbfmcdjnjnfdlaaTp
import Derived.Test.YtbfmcdjnjnfdlaaTs
import Derived.Laws.StructEq
namespace Go.Proofs.Ytbfmcdjnjnfdlaa
open Go.RowKit

def eqB (x y : Tm) : Bool := x.at_ == y.at_ && (x.no == y.no && x.who == y.who)
theorem eqB_self (x : Tm) : eqB x x = true := by unfold eqB; simp
theorem eqB_iff (x y : Tm) : eqB x y = true ↔ x = y := by
  unfold eqB
  simp only [Bool.and_eq_true, beq_iff_eq]
  constructor
  · rintro ⟨h1, h2, h3⟩
    cases x; cases y
    simp_all
  · rintro rfl
    simp
theorem in_tmR (x y : Tm) (w : World) : (Op.equalIn 10000 45 (.agg #[.int .i64 x.at_, .int .i64 x.no, .int .i64 x.who]) (.agg #[.int .i64 y.at_, .int .i64 y.no, .int .i64 y.who])).run Try.prog w = .ok (eqB x y) w := by
  have u3 := Try.underlying3
  have a3 := Try.isAgg3
  have z3 := Try.sizeOf3
  have hS : Try.prog.underlying 45 = some (.struct (Try.prog.fieldsOf 45)) := by kernel_rfl
  have hp : Try.prog.stoodInHeld 45 = false := by kernel_rfl
  rw [show (10000 : Nat) = 9999 + 1 from rfl, run_equalIn_agg w 9999 45 _ _ hS hp]
  simp only [Program.fieldsOf, Try.underlying45]
  go_simp
  unfold eqB
  by_cases h1 : x.at_ = y.at_ <;> by_cases h2 : x.no = y.no <;> by_cases h3 : x.who = y.who <;> simp [h1, h2, h3]
theorem in_tmP (x y : Tm) (w : World) : (Op.equalIn 10000 42 (.agg #[.int .i64 x.at_, .int .i64 x.no, .int .i64 x.who]) (.agg #[.int .i64 y.at_, .int .i64 y.no, .int .i64 y.who])).run Try.prog w = .ok (eqB x y) w := by
  have u3 := Try.underlying3
  have a3 := Try.isAgg3
  have z3 := Try.sizeOf3
  have hS : Try.prog.underlying 42 = some (.struct (Try.prog.fieldsOf 42)) := by kernel_rfl
  have hp : Try.prog.stoodInHeld 42 = false := by kernel_rfl
  rw [show (10000 : Nat) = 9999 + 1 from rfl, run_equalIn_agg w 9999 42 _ _ hS hp]
  simp only [Program.fieldsOf, Try.underlying42]
  go_simp
  unfold eqB
  by_cases h1 : x.at_ = y.at_ <;> by_cases h2 : x.no = y.no <;> by_cases h3 : x.who = y.who <;> simp [h1, h2, h3]
theorem neq_tmR (x : Tm) (w : World) : (binOp .neq 45 (.agg #[.int .i64 x.at_, .int .i64 x.no, .int .i64 x.who]) (.agg #[.int .i64 x.at_, .int .i64 x.no, .int .i64 x.who])).run Try.prog w = .ok (.bool false) w := by
  rw [run_neq_struct, in_tmR, eqB_self]
  rfl

/-- A new row of the document's timers. -/
def DRPost (w : World) (ys : List Tm) (e : Ending) (w' : World) : Prop := ∃ u, e = .returned u ∧ DR w' w.heap.size u ys ∧ Below w.heap.size w w'
theorem snoc_len {w : World} {lo n : Nat} {v : Value} {xs : List Tm} {t : Tm} (h : w.ownsRow lo 45 3 v n (flatT xs ++ [.int .i64 t.at_, .int .i64 t.no, .int .i64 t.who])) : w.ownsRow lo 45 3 v (xs ++ [t]).length (flatT (xs ++ [t])) := by
  have e : flatT xs ++ [.int .i64 t.at_, .int .i64 t.no, .int .i64 t.who] = flatT (xs ++ [t]) := flatT_snoc xs t
  rw [e] at h
  have hn : n = (xs ++ [t]).length := by
    have := h.1
    rw [flatT_len] at this
    omega
  rwa [hn] at h
theorem dueL_le (now : Int) (xs : List Tm) : (dueL now xs).length ≤ xs.length := List.length_filter_le _ _

set_option maxHeartbeats 1000000 in
theorem c_rldue {w : World} {lo : Nat} {u : Value} {L : List Tm} (h : DR w lo u L) (hf : L.length ≤ 2000) (room last now : Int) :
    Calls Try.prog 19 #[.agg #[.int .i64 room, .int .i64 last, u], .int .i64 now] w (DRPost w (dueL now L)) := by
  obtain ⟨A, c, rfl, hlc, hcm, hrd⟩ := h.slice
  have hup := up_alloc w (.cells #[.int .i64 room, .int .i64 last, .slice A L.length c] 30)
  have hB := Blk.new w [.int .i64 room, .int .i64 last, .slice A L.length c] 30
  generalize hw1 : w.alloc (.cells #[.int .i64 room, .int .i64 last, .slice A L.length c] 30) = w1 at hup
  have hB1 : Blk w1 w.heap.size [.int .i64 room, .int .i64 last, .slice A L.length c] 30 := by subst hw1; exact hB
  have HW := Lib.hid hw1
  have HRD := Lib.hid (hrd.below hup)
  have HB := Lib.hid hB1
  have HU := Lib.hid hup
  obtain ⟨m, hm⟩ : ∃ m, m = L.length := ⟨_, rfl⟩
  have HM := Lib.hid hm
  rw [← hm] at hlc hf HRD HW HB ⊢
  clear hw1 hB hB1 h hrd hm hup
  unfold maxLen at hcm
  go_enter Try.func19, Try.ntmps19
  go_wp2_with fail
  rw [HW.out]
  go_loopw [5, 6] (fun v i wr => ∃ k : Nat, k ≤ m ∧ i = .int .i64 k ∧ wr.ownsRow w1.heap.size 45 3 v (dueL now (L.take k)).length (flatT (dueL now (L.take k))) ∧ Below w1.heap.size w1 wr) (fun _ i _ => m - (intOf i).toNat)
  case atStart => exact ⟨0, Nat.zero_le _, rfl, World.ownsRow_nil _ _ _ _, Below.refl _ _⟩
  case round =>
    obtain ⟨k, hk, rfl, hown, hb⟩ := hrel
    have HO := Lib.hid hown
    have HBB := Lib.hid hb
    have hs := hb.size
    have e2 := (HB.out.up hb HB.out.lt).cell 2 _ rfl
    clear hown hb
    by_cases hlt : k < m
    · obtain ⟨b, o, rfl, _⟩ := HRD.out.at_ (by omega)
      obtain ⟨i0, i1, i2⟩ := RT_cell (HRD.out.below HBB.out) k (by rw [← HM.out]; exact hlt)
      have hsn := dueL_snoc now L k (by rw [← HM.out]; exact hlt)
      have hdl := dueL_le now (L.take k)
      rw [List.length_take, ← HM.out] at hdl
      have C := fun W => c_rdue now (gt L k).at_ W
      cases hd : dueB now (gt L k).at_
      · rw [hd] at hsn
        simp only [hd] at C
        have CC := Lib.hid C
        have HSN := Lib.hid hsn
        clear hsn C hd
        generalize gt L k = t at i0 i1 i2 CC
        go_wp2_with (go_at_call 33; refine (CC.out _).mono ?_; rintro e w' ⟨rfl, rfl⟩)
        go_roundw
        case rel => exact ⟨k + 1, by omega, by go_num, by rw [HSN.out]; simpa using HO.out, HBB.out⟩
        case measure => simp [intOf]; omega
      · rw [hd] at hsn
        simp only [hd] at C
        have CC := Lib.hid C
        have HSN := Lib.hid hsn
        clear hsn C hd
        generalize gt L k = t at i0 i1 i2 CC HSN
        go_wp2_with (first | (go_at_call 33; refine (CC.out _).mono ?_; rintro e w' ⟨rfl, rfl⟩) | (at_builtin; refine wpList_app ei_R rfl (.tmp 22) (.tmp 28) rfl _ _ rfl (HO.out.alloc _) rfl (RD.one3 rfl) (by simp [Value.oneCell']) (by omega) (by simp; omega) ?_; intro v4 w4 hown4 hb4; have HO4 := Lib.hid (snoc_len hown4); have HB4 := Lib.hid hb4; clear hown4 hb4))
        go_roundw
        case rel => exact ⟨k + 1, by omega, by go_num, by rw [HSN.out]; exact HO4.out, (HBB.out.trans ((up_alloc _ _).mono hs)).trans HB4.out⟩
        case measure => simp [intOf]; omega
    · have hkm : k = m := by omega
      have HK := Lib.hid (hkm.trans HM.out)
      have HD : Hid (dueL now (L.take k) = dueL now L) := Lib.hid (by rw [HK.out, List.take_length])
      have hkm' : m ≤ k := by omega
      clear hkm hlt
      go_wp2
      go_ret
      have h1 := HO.out
      rw [HD.out] at h1
      exact ⟨_, rfl, DR.of h1 HU.out.size, up_trans HU.out HBB.out⟩

set_option maxHeartbeats 1000000 in
theorem c_back {w : World} {pl : Nat → Prop} {A : Option Addr} {xs : List Tm} {c : Nat} (h : RD w pl 3 A xs.length (flatT xs)) (hf : xs.length ≤ 2000) :
    Calls Try.prog 16 #[.slice A xs.length c] w (DRPost w xs) := by
  have HRD := Lib.hid h
  obtain ⟨m, hm⟩ : ∃ m, m = xs.length := ⟨_, rfl⟩
  have HM := Lib.hid hm
  rw [← hm] at hf HRD ⊢
  clear h hm
  go_enter Try.func16, Try.ntmps16
  go_wp2
  go_loopw [3, 8] (fun v i wr => ∃ k : Nat, k ≤ m ∧ i = .int .i64 k ∧ wr.ownsRow w.heap.size 45 3 v (xs.take k).length (flatT (xs.take k)) ∧ Below w.heap.size w wr) (fun _ i _ => m - (intOf i).toNat)
  case atStart => exact ⟨0, Nat.zero_le _, rfl, World.ownsRow_nil _ _ _ _, Below.refl _ _⟩
  case round =>
    obtain ⟨k, hk, rfl, hown, hb⟩ := hrel
    have HO := Lib.hid hown
    have HBB := Lib.hid hb
    have hs := hb.size
    clear hown hb
    by_cases hlt : k < m
    · obtain ⟨b, o, rfl, _⟩ := HRD.out.at_ (by omega)
      obtain ⟨i0, i1, i2⟩ := RT_cell (HRD.out.below HBB.out) k (by rw [← HM.out]; exact hlt)
      have hsn : xs.take (k + 1) = xs.take k ++ [gt xs k] := by rw [List.take_add_one, gt_some (by rw [← HM.out]; exact hlt)]; rfl
      have HSN := Lib.hid hsn
      have hdl : (xs.take k).length ≤ 2000 := by rw [List.length_take]; omega
      clear hsn
      generalize gt xs k = t at i0 i1 i2 HSN
      go_wp2_with (at_builtin; refine wpList_app ei_R rfl (.tmp 12) (.tmp 14) rfl _ _ rfl ((HO.out.alloc _).alloc _) rfl (RD.one3 (by simp)) (by simp [Value.oneCell']) (by omega) (by simp; omega) ?_; intro v4 w4 hown4 hb4; have HO4 := Lib.hid (snoc_len hown4); have HB4 := Lib.hid hb4; clear hown4 hb4)
      go_roundw
      case rel => exact ⟨k + 1, by omega, by go_num, by rw [HSN.out]; exact HO4.out, ((HBB.out.trans ((up_alloc _ _).mono hs)).trans ((up_alloc _ _).mono (by simp; omega))).trans HB4.out⟩
      case measure => simp [intOf]; omega
    · have hkm : k = m := by omega
      have HD : Hid (xs.take k = xs) := Lib.hid (by rw [hkm, HM.out, List.take_length])
      have hkm' : m ≤ k := by omega
      clear hkm hlt
      go_wp2
      go_ret
      have h1 := HO.out
      rw [HD.out] at h1
      exact ⟨_, rfl, DR.of h1 (Nat.le_refl _), HBB.out⟩

def DrewPost (v : Value) (w : World) (e : Ending) (w' : World) : Prop := e = .returned v ∧ Drew w w'
set_option maxHeartbeats 1000000 in
theorem c_same {w : World} {lo lo' : Nat} {u u' : Value} {L : List Tm} (h : DR w lo u L) (h' : DR w lo' u' L) (hf : L.length ≤ 2000) :
    Calls Try.prog 15 #[u, u'] w (DrewPost (.bool true) w) := by
  obtain ⟨A, c, rfl, _, _, hA⟩ := h.slice
  obtain ⟨B, d, rfl, _, _, hB⟩ := h'.slice
  have HA := Lib.hid hA
  have HB := Lib.hid hB
  obtain ⟨m, hm⟩ : ∃ m, m = L.length := ⟨_, rfl⟩
  have HM := Lib.hid hm
  rw [← hm] at hf HA HB ⊢
  have hne : ((m : Int) != (m : Int)) = false := by simp
  clear h h' hA hB hm
  go_enter Try.func15, Try.ntmps15
  go_wp2
  go_loopw [5] (fun i wr => ∃ k : Nat, k ≤ m ∧ i = .int .i64 k ∧ Drew w wr) (fun i _ => m - (intOf i).toNat)
  case atStart => exact ⟨0, Nat.zero_le _, rfl, Drew.refl _⟩
  case round =>
    obtain ⟨k, hk, rfl, n, rfl⟩ := hrel
    by_cases hlt : k < m
    · obtain ⟨bA, oA, rfl, _⟩ := HA.out.at_ (by omega)
      obtain ⟨bB, oB, rfl, _⟩ := HB.out.at_ (by omega)
      obtain ⟨i0, i1, i2⟩ := RT_cell HA.out k (by rw [← HM.out]; exact hlt)
      obtain ⟨j0, j1, j2⟩ := RT_cell HB.out k (by rw [← HM.out]; exact hlt)
      have hk0 : (0 : Int) ≤ k := by omega
      have hk1 : (k : Int) < m := by omega
      have hneq := neq_tmR (gt L k)
      generalize gt L k = z at i0 i1 i2 j0 j1 j2 hneq
      go_wp2_with fail
      go_quiet (fail)
      go_wp2
      go_roundw
      case rel => exact ⟨k + 1, by omega, by go_num, _, rfl⟩
      case measure => simp [intOf]; omega
    · obtain rfl : k = m := by omega
      go_wp2
      go_ret
      exact ⟨rfl, _, rfl⟩
end Go.Proofs.Ytbfmcdjnjnfdlaa

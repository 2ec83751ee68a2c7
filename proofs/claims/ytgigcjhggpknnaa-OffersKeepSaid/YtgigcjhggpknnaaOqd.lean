/- The document's Same, of two lists that are one; layer 15's SameGuards, likewise; the law's back. -/
import Derived.Test.YtgigcjhggpknnaaOqc
import Derived.Laws.StructEq
import Derived.BigQuiet
import Derived.Deep.QuietTactic
namespace Go.Proofs.Ytgigcjhggpknnaa
open Go.RowKit

theorem eq_num (d : Nat) (x y : Int) (w : World) : (Op.equalIn (d + 1) 3 (.int .i64 x) (.int .i64 y)).run Try.prog w = .ok (x == y) w := run_equalIn_int w d _ .i64 .i64 x y Try.underlying3
theorem eq_gd (d : Nat) (g : GD) (w : World) : (Op.equalIn (d + 2) 34 (.agg (gdC g).toArray) (.agg (gdC g).toArray)).run Try.prog w = .ok true w := by
  have hS : Try.prog.underlying 34 = some (.struct (Try.prog.fieldsOf 34)) := by kernel_rfl
  have hp : Try.prog.stoodInHeld 34 = false := by kernel_rfl
  have p0 : ∀ (g : GD) w, (part 3 (gdC g).toArray 0).run Try.prog w = .ok (.int .i64 g.k) w := fun g w => by kernel_rfl
  have p1 : ∀ (g : GD) w, (part 3 (gdC g).toArray 1).run Try.prog w = .ok (.int .i64 g.o) w := fun g w => by kernel_rfl
  have p2 : ∀ (g : GD) w, (part 3 (gdC g).toArray 2).run Try.prog w = .ok (.int .i64 g.v) w := fun g w => by kernel_rfl
  have p3 : ∀ (g : GD) w, (part 3 (gdC g).toArray 3).run Try.prog w = .ok (.int .i64 g.r) w := fun g w => by kernel_rfl
  have p4 : ∀ (g : GD) w, (part 3 (gdC g).toArray 4).run Try.prog w = .ok (.int .i64 g.n) w := fun g w => by kernel_rfl
  have q : ∀ (x : Int) w, (Op.equalIn (d + 1) 3 (.int .i64 x) (.int .i64 x)).run Try.prog w = .ok true w := fun x w => by rw [eq_num, beq_self_eq_true]
  rw [show d + 2 = (d + 1) + 1 from rfl, run_equalIn_agg w (d + 1) 34 _ _ hS hp]
  simp only [Program.fieldsOf, Try.underlying34]
  have a0 := p0 g
  have a1 := p1 g
  have a2 := p2 g
  have a3 := p3 g
  have a4 := p4 g
  clear p0 p1 p2 p3 p4
  generalize (gdC g).toArray = X at a0 a1 a2 a3 a4 ⊢
  simp [Op.eqFields, a0, a1, a2, a3, a4, q]
theorem eq_dof (d : Nat) (x : OF) (w : World) : (Op.equalIn (d + 3) 75 (.agg (ofC x).toArray) (.agg (ofC x).toArray)).run Try.prog w = .ok true w := by
  have hS : Try.prog.underlying 75 = some (.struct (Try.prog.fieldsOf 75)) := by kernel_rfl
  have hp : Try.prog.stoodInHeld 75 = false := by kernel_rfl
  have p0 : ∀ (x : OF) w, (part 3 (ofC x).toArray 0).run Try.prog w = .ok (.int .i64 x.w) w := fun g w => by kernel_rfl
  have p1 : ∀ (x : OF) w, (part 34 (ofC x).toArray 1).run Try.prog w = .ok (.agg (gdC x.g).toArray) w := fun g w => by kernel_rfl
  have q : ∀ (x : Int) w, (Op.equalIn (d + 2) 3 (.int .i64 x) (.int .i64 x)).run Try.prog w = .ok true w := fun x w => by rw [show d + 2 = (d + 1) + 1 from rfl, eq_num, beq_self_eq_true]
  rw [show d + 3 = (d + 2) + 1 from rfl, run_equalIn_agg w (d + 2) 75 _ _ hS hp]
  simp only [Program.fieldsOf, Try.underlying75]
  have a0 := p0 x
  have a1 := p1 x
  have a2 := eq_gd d x.g
  clear p0 p1
  generalize (ofC x).toArray = X at a0 a1 ⊢
  generalize (gdC x.g).toArray = Y at a1 a2
  simp [Op.eqFields, a0, a1, a2, q]
theorem eq_off (d : Nat) (x : OF) (w : World) : (Op.equalIn (d + 3) 65 (.agg (ofC x).toArray) (.agg (ofC x).toArray)).run Try.prog w = .ok true w := by
  have hS : Try.prog.underlying 65 = some (.struct (Try.prog.fieldsOf 65)) := by kernel_rfl
  have hp : Try.prog.stoodInHeld 65 = false := by kernel_rfl
  have p0 : ∀ (x : OF) w, (part 3 (ofC x).toArray 0).run Try.prog w = .ok (.int .i64 x.w) w := fun g w => by kernel_rfl
  have p1 : ∀ (x : OF) w, (part 34 (ofC x).toArray 1).run Try.prog w = .ok (.agg (gdC x.g).toArray) w := fun g w => by kernel_rfl
  have q : ∀ (x : Int) w, (Op.equalIn (d + 2) 3 (.int .i64 x) (.int .i64 x)).run Try.prog w = .ok true w := fun x w => by rw [show d + 2 = (d + 1) + 1 from rfl, eq_num, beq_self_eq_true]
  rw [show d + 3 = (d + 2) + 1 from rfl, run_equalIn_agg w (d + 2) 65 _ _ hS hp]
  simp only [Program.fieldsOf, Try.underlying65]
  have a0 := p0 x
  have a1 := p1 x
  have a2 := eq_gd d x.g
  clear p0 p1
  generalize (ofC x).toArray = X at a0 a1 ⊢
  generalize (gdC x.g).toArray = Y at a1 a2
  simp [Op.eqFields, a0, a1, a2, q]
theorem neq_gd (k o v r n : Int) (w : World) : (binOp .neq 34 (.agg #[.int .i64 k, .int .i64 o, .int .i64 v, .int .i64 r, .int .i64 n]) (.agg #[.int .i64 k, .int .i64 o, .int .i64 v, .int .i64 r, .int .i64 n])).run Try.prog w = .ok (.bool false) w := by
  rw [run_neq_struct]
  have h := eq_gd 9998 ⟨k, o, v, r, n⟩ w
  simp only [gdC] at h
  rw [h]
  rfl
theorem neq_dof (a k o v r n : Int) (w : World) : (binOp .neq 75 (.agg #[.int .i64 a, .int .i64 k, .int .i64 o, .int .i64 v, .int .i64 r, .int .i64 n]) (.agg #[.int .i64 a, .int .i64 k, .int .i64 o, .int .i64 v, .int .i64 r, .int .i64 n])).run Try.prog w = .ok (.bool false) w := by
  rw [run_neq_struct]
  have h := eq_dof 9997 ⟨a, k, o, v, r, n⟩ w
  simp only [ofC] at h
  rw [h]
  rfl
theorem eql_off (a k o v r n : Int) (w : World) : (binOp .eql 65 (.agg #[.int .i64 a, .int .i64 k, .int .i64 o, .int .i64 v, .int .i64 r, .int .i64 n]) (.agg #[.int .i64 a, .int .i64 k, .int .i64 o, .int .i64 v, .int .i64 r, .int .i64 n])).run Try.prog w = .ok (.bool true) w := by
  rw [run_eql_struct]
  have h := eq_off 9997 ⟨a, k, o, v, r, n⟩ w
  simp only [ofC] at h
  rw [h]
  rfl

set_option maxHeartbeats 1000000 in
theorem d_same {w : World} {pl pl' : Nat → Prop} {A B : Option Addr} {c d : Nat} {L : List OF} (hA : RD w pl 6 A L.length (L.flatMap ofC)) (hB : RD w pl' 6 B L.length (L.flatMap ofC)) (hz : L.length ≤ 100000) :
    Calls Try.prog 18 #[.slice A L.length c, .slice B L.length d] w fun e w' => e = .returned (.bool true) ∧ Drew w w' := by
  have hne : ((L.length : Int) != L.length) = false := by simp
  have HA := Lib.hid hA
  have HB := Lib.hid hB
  clear hA hB
  go_enter Try.func18, Try.ntmps18
  go_wp2
  go_loopw [5] (fun i wr => ∃ k : Nat, k ≤ L.length ∧ i = .int .i64 k ∧ Drew w wr) (fun i _ => L.length - (intOf i).toNat)
  case atStart => exact ⟨0, Nat.zero_le _, rfl, Drew.refl _⟩
  case round =>
    obtain ⟨k, hk, rfl, n, rfl⟩ := hrel
    by_cases hlt : k < L.length
    · have hx : L[k]? = some L[k] := List.getElem?_eq_getElem hlt
      obtain ⟨bA, oA, rfl, _, a0, a1, a2, a3, a4, a5⟩ := HA.out.off k _ hx hlt
      obtain ⟨bB, oB, rfl, _, b0, b1, b2, b3, b4, b5⟩ := HB.out.off k _ hx hlt
      have hk0 : (0 : Int) ≤ k := by omega
      have hk1 : (k : Int) < L.length := by omega
      generalize L[k] = x at a0 a1 a2 a3 a4 a5 b0 b1 b2 b3 b4 b5
      have hn := fun W => neq_dof x.w x.g.k x.g.o x.g.v x.g.r x.g.n W
      clear hx
      go_wp2_with fail
      go_quiet (fail)
      go_wp2
      go_roundw
      case rel => exact ⟨k + 1, by omega, by go_num, _, rfl⟩
      case measure => simp [intOf]; omega
    · obtain rfl : k = L.length := by omega
      go_wp2
      go_ret
      exact ⟨rfl, _, rfl⟩
set_option maxHeartbeats 1000000 in
theorem d_sameG {w : World} {pl pl' : Nat → Prop} {A B : Option Addr} {c d : Nat} {L : List GD} (hA : RD w pl 5 A L.length (L.flatMap gdC)) (hB : RD w pl' 5 B L.length (L.flatMap gdC)) (hz : L.length ≤ 100000) :
    Calls Try.prog 15 #[.slice A L.length c, .slice B L.length d] w fun e w' => e = .returned (.bool true) ∧ Drew w w' := by
  have hne : ((L.length : Int) != L.length) = false := by simp
  have HA := Lib.hid hA
  have HB := Lib.hid hB
  clear hA hB
  go_enter Try.func15, Try.ntmps15
  go_wp2
  go_loopw [5] (fun i wr => ∃ k : Nat, k ≤ L.length ∧ i = .int .i64 k ∧ Drew w wr) (fun i _ => L.length - (intOf i).toNat)
  case atStart => exact ⟨0, Nat.zero_le _, rfl, Drew.refl _⟩
  case round =>
    obtain ⟨k, hk, rfl, n, rfl⟩ := hrel
    by_cases hlt : k < L.length
    · have hx : L[k]? = some L[k] := List.getElem?_eq_getElem hlt
      obtain ⟨bA, oA, rfl, _, a0, a1, a2, a3, a4⟩ := HA.out.gd k _ hx hlt
      obtain ⟨bB, oB, rfl, _, b0, b1, b2, b3, b4⟩ := HB.out.gd k _ hx hlt
      have hk0 : (0 : Int) ≤ k := by omega
      have hk1 : (k : Int) < L.length := by omega
      generalize L[k] = x at a0 a1 a2 a3 a4 b0 b1 b2 b3 b4
      have hn := fun W => neq_gd x.k x.o x.v x.r x.n W
      clear hx
      go_wp2_with fail
      go_quiet (fail)
      go_wp2
      go_roundw
      case rel => exact ⟨k + 1, by omega, by go_num, _, rfl⟩
      case measure => simp [intOf]; omega
    · obtain rfl : k = L.length := by omega
      go_wp2
      go_ret
      exact ⟨rfl, _, rfl⟩
set_option maxHeartbeats 1000000 in
theorem d_back {w : World} {pl : Nat → Prop} {A : Option Addr} {c : Nat} {L : List OF} (h : RD w pl 6 A L.length (L.flatMap ofC)) (hz : L.length ≤ 100000) :
    Calls Try.prog 19 #[.slice A L.length c] w (OsPost w L) := by
  have HRD := Lib.hid h
  clear h
  go_enter Try.func19, Try.ntmps19
  go_wp2
  go_loopw [3, 5, 8] (fun v _ i wr => ∃ k : Nat, k ≤ L.length ∧ i = .int .i64 k ∧ wr.ownsRow w.heap.size 75 6 v (L.take k).length ((L.take k).flatMap ofC) ∧ Below w.heap.size w wr) (fun _ _ i _ => L.length - (intOf i).toNat)
  case atStart => exact ⟨0, Nat.zero_le _, rfl, World.ownsRow_nil _ _ _ _, Below.refl _ _⟩
  case round =>
    obtain ⟨k, hk, rfl, hown, hb⟩ := hrel
    have HB := Lib.hid hb
    have HOWN := Lib.hid hown
    have hsz := hb.size
    clear hb hown
    by_cases hlt : k < L.length
    · have hx : L[k]? = some L[k] := List.getElem?_eq_getElem hlt
      obtain ⟨bA, oA, rfl, hlb, a0, a1, a2, a3, a4, a5⟩ := (HRD.out.below HB.out).off k _ hx hlt
      have HN := Lib.hid (take_next L k _ hx)
      have htl : (L.take k).length ≤ 100000 := by rw [List.length_take]; omega
      generalize L[k] = x at a0 a1 a2 a3 a4 a5 HN
      clear hx
      go_wp2_with (at_builtin; refine wpList_app ei_dof rfl (.tmp 12) (.tmp 14) rfl _ _ rfl ((own_below HOWN.out (up_alloc _ _)).alloc _) rfl (RD.new (by simp) rfl) (fun u hu => ofC_one x u hu) (by omega) (by simp; omega) ?_; intro v' w4 hown4 hb4)
      go_roundw
      case rel => exact ⟨k + 1, by omega, by go_num, by rw [HN.out, ofC_two, List.length_append]; exact hown4, ((HB.out.trans ((up_alloc _ _).mono hsz)).trans ((up_alloc _ _).mono (by simp; omega))).trans hb4⟩
      case measure => simp [intOf]; omega
    · obtain rfl : k = L.length := by omega
      have hown := HOWN.out
      rw [List.take_length] at hown
      have HE := Lib.hid (OsPost.of hown (Nat.le_refl _) HB.out)
      clear hown
      go_wp2
      go_ret
      exact HE.out
end Go.Proofs.Ytgigcjhggpknnaa

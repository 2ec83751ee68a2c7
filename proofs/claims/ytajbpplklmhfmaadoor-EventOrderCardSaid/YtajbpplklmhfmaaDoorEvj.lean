/- The document's events: Check, Less, Names, Marks, equality, Same. (Written by wip/tools/gen28/genevj.py.) -/
import Derived.Test.YtajbpplklmhfmaaDoorEvb
import Derived.Test.YtajbpplklmhfmaaDoorEvh
namespace Go.Proofs.YtajbpplklmhfmaaDoor
open Go.RowKit

set_option maxHeartbeats 2000000 in
theorem c_rchk (k o h n : Int) (w : World) : Calls Tryd.prog 9 #[.agg #[.int .i64 k, .int .i64 o, .int .i64 h, .int .i64 n]] w fun e w' => e = .returned (.int .i64 (evChk k o h n)) ∧ Below w.heap.size w w' := by
  by_cases h1 : k < 1
  case pos =>
    have HX : Hid (evChk k o h n = 12) := Lib.hid (by unfold evChk; (repeat' split) <;> omega)
    have HU := Lib.hid (up_alloc w (.cells #[.int .i64 k, .int .i64 o, .int .i64 h, .int .i64 n] 23))
    go_enter Tryd.func9, Tryd.ntmps9
    go_wp2
    go_ret
    exact ⟨ret_int HX.out.symm, HU.out⟩
  case neg =>
    by_cases h8 : 8 < k
    case pos =>
      have HX : Hid (evChk k o h n = 12) := Lib.hid (by unfold evChk; (repeat' split) <;> omega)
      have HU := Lib.hid (up_alloc w (.cells #[.int .i64 k, .int .i64 o, .int .i64 h, .int .i64 n] 23))
      go_enter Tryd.func9, Tryd.ntmps9
      go_wp2
      go_ret
      exact ⟨ret_int HX.out.symm, HU.out⟩
    case neg =>
      by_cases h4 : k ≤ 4
      case pos =>
        by_cases h0 : o < 0
        case pos =>
          have HX : Hid (evChk k o h n = 8) := Lib.hid (by unfold evChk; (repeat' split) <;> omega)
          have HU := Lib.hid (up_alloc w (.cells #[.int .i64 k, .int .i64 o, .int .i64 h, .int .i64 n] 23))
          go_enter Tryd.func9, Tryd.ntmps9
          go_wp2
          go_ret
          exact ⟨ret_int HX.out.symm, HU.out⟩
        case neg =>
          by_cases h7 : 7 < o
          case pos =>
            have HX : Hid (evChk k o h n = 8) := Lib.hid (by unfold evChk; (repeat' split) <;> omega)
            have HU := Lib.hid (up_alloc w (.cells #[.int .i64 k, .int .i64 o, .int .i64 h, .int .i64 n] 23))
            go_enter Tryd.func9, Tryd.ntmps9
            go_wp2
            go_ret
            exact ⟨ret_int HX.out.symm, HU.out⟩
          case neg =>
            by_cases zh : h = 0
            case neg =>
              have tqh : (h != 0) = true := by simpa [bne] using zh
              have HX : Hid (evChk k o h n = 3) := Lib.hid (by unfold evChk; (repeat' split) <;> omega)
              have HU := Lib.hid (up_alloc w (.cells #[.int .i64 k, .int .i64 o, .int .i64 h, .int .i64 n] 23))
              clear zh
              go_enter Tryd.func9, Tryd.ntmps9
              go_wp2
              go_ret
              exact ⟨ret_int HX.out.symm, HU.out⟩
            case pos =>
              subst zh
              by_cases zn : n = 0
              case neg =>
                have tqn : (n != 0) = true := by simpa [bne] using zn
                have HX : Hid (evChk k o 0 n = 3) := Lib.hid (by unfold evChk; (repeat' split) <;> omega)
                have HU := Lib.hid (up_alloc w (.cells #[.int .i64 k, .int .i64 o, .int .i64 0, .int .i64 n] 23))
                clear zn
                go_enter Tryd.func9, Tryd.ntmps9
                go_wp2
                go_ret
                exact ⟨ret_int HX.out.symm, HU.out⟩
              case pos =>
                subst zn
                have HX : Hid (evChk k o 0 0 = 0) := Lib.hid (by unfold evChk; (repeat' split) <;> omega)
                have HU := Lib.hid (up_alloc w (.cells #[.int .i64 k, .int .i64 o, .int .i64 0, .int .i64 0] 23))
                go_enter Tryd.func9, Tryd.ntmps9
                go_wp2
                go_ret
                exact ⟨ret_int HX.out.symm, HU.out⟩
      case neg =>
        by_cases h0 : h < 0
        case pos =>
          have HX : Hid (evChk k o h n = 8) := Lib.hid (by unfold evChk; (repeat' split) <;> omega)
          have HU := Lib.hid (up_alloc w (.cells #[.int .i64 k, .int .i64 o, .int .i64 h, .int .i64 n] 23))
          go_enter Tryd.func9, Tryd.ntmps9
          go_wp2
          go_ret
          exact ⟨ret_int HX.out.symm, HU.out⟩
        case neg =>
          by_cases h15 : 15 < h
          case pos =>
            have HX : Hid (evChk k o h n = 8) := Lib.hid (by unfold evChk; (repeat' split) <;> omega)
            have HU := Lib.hid (up_alloc w (.cells #[.int .i64 k, .int .i64 o, .int .i64 h, .int .i64 n] 23))
            go_enter Tryd.func9, Tryd.ntmps9
            go_wp2
            go_ret
            exact ⟨ret_int HX.out.symm, HU.out⟩
          case neg =>
            by_cases h3 : n < 0
            case pos =>
              have HX : Hid (evChk k o h n = 8) := Lib.hid (by unfold evChk; (repeat' split) <;> omega)
              have HU := Lib.hid (up_alloc w (.cells #[.int .i64 k, .int .i64 o, .int .i64 h, .int .i64 n] 23))
              go_enter Tryd.func9, Tryd.ntmps9
              go_wp2
              go_ret
              exact ⟨ret_int HX.out.symm, HU.out⟩
            case neg =>
              by_cases h5 : 5 < n
              case pos =>
                have HX : Hid (evChk k o h n = 8) := Lib.hid (by unfold evChk; (repeat' split) <;> omega)
                have HU := Lib.hid (up_alloc w (.cells #[.int .i64 k, .int .i64 o, .int .i64 h, .int .i64 n] 23))
                go_enter Tryd.func9, Tryd.ntmps9
                go_wp2
                go_ret
                exact ⟨ret_int HX.out.symm, HU.out⟩
              case neg =>
                by_cases zo : o = 0
                case neg =>
                  have tqo : (o != 0) = true := by simpa [bne] using zo
                  have HX : Hid (evChk k o h n = 3) := Lib.hid (by unfold evChk; (repeat' split) <;> omega)
                  have HU := Lib.hid (up_alloc w (.cells #[.int .i64 k, .int .i64 o, .int .i64 h, .int .i64 n] 23))
                  clear zo
                  go_enter Tryd.func9, Tryd.ntmps9
                  go_wp2
                  go_ret
                  exact ⟨ret_int HX.out.symm, HU.out⟩
                case pos =>
                  subst zo
                  have HX : Hid (evChk k 0 h n = 0) := Lib.hid (by unfold evChk; (repeat' split) <;> omega)
                  have HU := Lib.hid (up_alloc w (.cells #[.int .i64 k, .int .i64 0, .int .i64 h, .int .i64 n] 23))
                  go_enter Tryd.func9, Tryd.ntmps9
                  go_wp2
                  go_ret
                  exact ⟨ret_int HX.out.symm, HU.out⟩

set_option maxHeartbeats 2000000 in
theorem c_rless (a b : EV) (w : World) : Calls Tryd.prog 19 #[.agg #[.int .i64 a.k, .int .i64 a.o, .int .i64 a.h, .int .i64 a.n], .agg #[.int .i64 b.k, .int .i64 b.o, .int .i64 b.h, .int .i64 b.n]] w fun e w' => e = .returned (.bool (evLess a b)) ∧ Below w.heap.size w w' := by
  obtain ⟨ak, ao, ah, an⟩ := a
  obtain ⟨bk, bo, bh, bn⟩ := b
  by_cases zk : ak = bk
  case neg =>
    have tqk : (ak != bk) = true := by simpa [bne] using zk
    have HX : Hid (decide (ak < bk) = evLess ⟨ak, ao, ah, an⟩ ⟨bk, bo, bh, bn⟩) := Lib.hid (by unfold evLess; rw [decide_eq_decide]; unfold evLt; first | (dsimp only; omega) | (simp; done) | (simp; omega))
    have HU := Lib.hid (((Below.refl _ w).alloc (Nat.le_refl _) (.cells #[.int .i64 ak, .int .i64 ao, .int .i64 ah, .int .i64 an] 23)).alloc (by simp) (.cells #[.int .i64 bk, .int .i64 bo, .int .i64 bh, .int .i64 bn] 23))
    clear zk
    generalize evLess ⟨ak, ao, ah, an⟩ ⟨bk, bo, bh, bn⟩ = z at HX ⊢
    go_enter Tryd.func19, Tryd.ntmps19
    go_wp2
    go_ret
    exact ⟨ret_bool HX.out, HU.out⟩
  case pos =>
    subst zk
    by_cases zo : ao = bo
    case neg =>
      have tqo : (ao != bo) = true := by simpa [bne] using zo
      have HX : Hid (decide (ao < bo) = evLess ⟨ak, ao, ah, an⟩ ⟨ak, bo, bh, bn⟩) := Lib.hid (by unfold evLess; rw [decide_eq_decide]; unfold evLt; first | (dsimp only; omega) | (simp; done) | (simp; omega))
      have HU := Lib.hid (((Below.refl _ w).alloc (Nat.le_refl _) (.cells #[.int .i64 ak, .int .i64 ao, .int .i64 ah, .int .i64 an] 23)).alloc (by simp) (.cells #[.int .i64 ak, .int .i64 bo, .int .i64 bh, .int .i64 bn] 23))
      clear zo
      generalize evLess ⟨ak, ao, ah, an⟩ ⟨ak, bo, bh, bn⟩ = z at HX ⊢
      go_enter Tryd.func19, Tryd.ntmps19
      go_wp2
      go_ret
      exact ⟨ret_bool HX.out, HU.out⟩
    case pos =>
      subst zo
      by_cases zh : ah = bh
      case neg =>
        have tqh : (ah != bh) = true := by simpa [bne] using zh
        have HX : Hid (decide (ah < bh) = evLess ⟨ak, ao, ah, an⟩ ⟨ak, ao, bh, bn⟩) := Lib.hid (by unfold evLess; rw [decide_eq_decide]; unfold evLt; first | (dsimp only; omega) | (simp; done) | (simp; omega))
        have HU := Lib.hid (((Below.refl _ w).alloc (Nat.le_refl _) (.cells #[.int .i64 ak, .int .i64 ao, .int .i64 ah, .int .i64 an] 23)).alloc (by simp) (.cells #[.int .i64 ak, .int .i64 ao, .int .i64 bh, .int .i64 bn] 23))
        clear zh
        generalize evLess ⟨ak, ao, ah, an⟩ ⟨ak, ao, bh, bn⟩ = z at HX ⊢
        go_enter Tryd.func19, Tryd.ntmps19
        go_wp2
        go_ret
        exact ⟨ret_bool HX.out, HU.out⟩
      case pos =>
        subst zh
        have HX : Hid (decide (an < bn) = evLess ⟨ak, ao, ah, an⟩ ⟨ak, ao, ah, bn⟩) := Lib.hid (by unfold evLess; rw [decide_eq_decide]; unfold evLt; first | (dsimp only; omega) | (simp; done) | (simp; omega))
        have HU := Lib.hid (((Below.refl _ w).alloc (Nat.le_refl _) (.cells #[.int .i64 ak, .int .i64 ao, .int .i64 ah, .int .i64 an] 23)).alloc (by simp) (.cells #[.int .i64 ak, .int .i64 ao, .int .i64 ah, .int .i64 bn] 23))
        generalize evLess ⟨ak, ao, ah, an⟩ ⟨ak, ao, ah, bn⟩ = z at HX ⊢
        go_enter Tryd.func19, Tryd.ntmps19
        go_wp2
        go_ret
        exact ⟨ret_bool HX.out, HU.out⟩

/-- The document's words, and its letters. -/
def nmC : List Value := [.string ⟨#[102, 105, 114, 101]⟩, .string ⟨#[112, 97, 115, 115]⟩, .string ⟨#[112, 117, 116]⟩, .string ⟨#[116, 97, 107, 101]⟩, .string ⟨#[98, 97, 110, 101]⟩, .string ⟨#[100, 117, 101]⟩, .string ⟨#[103, 111, 110, 101]⟩, .string ⟨#[102, 114, 101, 101]⟩]
def mkC : List Value := [.string ⟨#[98]⟩, .string ⟨#[99]⟩, .string ⟨#[99]⟩, .string ⟨#[99]⟩]
theorem nmC_at (j : Nat) (hj : j < 8) : nmC[j]? = some (.string ⟨(evNm (j + 1)).toArray⟩) := by
  match j with
  | 0 | 1 | 2 | 3 | 4 | 5 | 6 | 7 => rfl
  | j + 8 => omega
theorem mkC_at (j : Nat) (hj : j < 4) : mkC[j]? = some (.string ⟨(evLtr ((j + 1 : Nat) : Int)).toArray⟩) := by
  match j with
  | 0 | 1 | 2 | 3 => rfl
  | j + 4 => omega
set_option maxHeartbeats 1000000 in
theorem c_names (w : World) : Calls Tryd.prog 21 #[] w fun e w' => e = .returned (.slice (some ⟨w.heap.size, 0, none⟩) 8 8) ∧ Blk w' w.heap.size nmC 9 ∧ Below w.heap.size w w' := by
  go_enter Tryd.func21, Tryd.ntmps21
  go_wp2
  go_ret
  exact ⟨rfl, Blk.new w nmC 9, up_alloc _ _⟩
set_option maxHeartbeats 1000000 in
theorem c_marks (w : World) : Calls Tryd.prog 22 #[] w fun e w' => e = .returned (.slice (some ⟨w.heap.size, 0, none⟩) 4 4) ∧ Blk w' w.heap.size mkC 9 ∧ Below w.heap.size w w' := by
  go_enter Tryd.func22, Tryd.ntmps22
  go_wp2
  go_ret
  exact ⟨rfl, Blk.new w mkC 9, up_alloc _ _⟩

theorem eq_rev (d : Nat) (k o h n k' o' h' n' : Int) (w : World) : (Op.equalIn (d + 2) 23 (.agg #[.int .i64 k, .int .i64 o, .int .i64 h, .int .i64 n]) (.agg #[.int .i64 k', .int .i64 o', .int .i64 h', .int .i64 n'])).run Tryd.prog w = .ok ((k == k') && (o == o') && (h == h') && (n == n')) w := by
  have hS : Tryd.prog.underlying 23 = some (.struct (Tryd.prog.fieldsOf 23)) := by kernel_rfl
  have hp : Tryd.prog.stoodInHeld 23 = false := by kernel_rfl
  have p0 : ∀ (a b c e : Int) w, (part 3 #[.int .i64 a, .int .i64 b, .int .i64 c, .int .i64 e] 0).run Tryd.prog w = .ok (.int .i64 a) w := fun a b c e w => by kernel_rfl
  have p1 : ∀ (a b c e : Int) w, (part 3 #[.int .i64 a, .int .i64 b, .int .i64 c, .int .i64 e] 1).run Tryd.prog w = .ok (.int .i64 b) w := fun a b c e w => by kernel_rfl
  have p2 : ∀ (a b c e : Int) w, (part 3 #[.int .i64 a, .int .i64 b, .int .i64 c, .int .i64 e] 2).run Tryd.prog w = .ok (.int .i64 c) w := fun a b c e w => by kernel_rfl
  have p3 : ∀ (a b c e : Int) w, (part 3 #[.int .i64 a, .int .i64 b, .int .i64 c, .int .i64 e] 3).run Tryd.prog w = .ok (.int .i64 e) w := fun a b c e w => by kernel_rfl
  have q : ∀ (x y : Int) w, (Op.equalIn (d + 1) 3 (.int .i64 x) (.int .i64 y)).run Tryd.prog w = .ok (x == y) w := fun x y w => run_equalIn_int w d _ .i64 .i64 x y Tryd.underlying3
  rw [show d + 2 = (d + 1) + 1 from rfl, run_equalIn_agg w (d + 1) 23 _ _ hS hp]
  simp only [Program.fieldsOf, Tryd.underlying23]
  have a0 := p0 k o h n
  have a1 := p1 k o h n
  have a2 := p2 k o h n
  have a3 := p3 k o h n
  have b0 := p0 k' o' h' n'
  have b1 := p1 k' o' h' n'
  have b2 := p2 k' o' h' n'
  have b3 := p3 k' o' h' n'
  clear p0 p1 p2 p3
  generalize (#[.int .i64 k, .int .i64 o, .int .i64 h, .int .i64 n] : Array Value) = X at a0 a1 a2 a3 ⊢
  generalize (#[.int .i64 k', .int .i64 o', .int .i64 h', .int .i64 n'] : Array Value) = Y at b0 b1 b2 b3 ⊢
  cases e0 : (k == k') <;> cases e1 : (o == o') <;> cases e2 : (h == h') <;> cases e3 : (n == n') <;> simp [Op.eqFields, a0, a1, a2, a3, b0, b1, b2, b3, q, e0, e1, e2, e3]
theorem neq_rev (k o h n k' o' h' n' : Int) (w : World) : (binOp .neq 23 (.agg #[.int .i64 k, .int .i64 o, .int .i64 h, .int .i64 n]) (.agg #[.int .i64 k', .int .i64 o', .int .i64 h', .int .i64 n'])).run Tryd.prog w = .ok (.bool (!((k == k') && (o == o') && (h == h') && (n == n')))) w := by
  rw [run_neq_struct, eq_rev 9998]
  rfl
theorem eql_rev (k o h n k' o' h' n' : Int) (w : World) : (binOp .eql 23 (.agg #[.int .i64 k, .int .i64 o, .int .i64 h, .int .i64 n]) (.agg #[.int .i64 k', .int .i64 o', .int .i64 h', .int .i64 n'])).run Tryd.prog w = .ok (.bool ((k == k') && (o == o') && (h == h') && (n == n'))) w := by
  rw [run_eql_struct, eq_rev 9998]
  rfl


set_option maxHeartbeats 1000000 in
theorem c_rsame {w : World} {pl pl' : Nat → Prop} {A B : Option Addr} {c d : Nat} {L : List EV} (hA : RD w pl 4 A L.length (L.flatMap evC)) (hB : RD w pl' 4 B L.length (L.flatMap evC)) (hz : L.length ≤ 100000) :
    Calls Tryd.prog 13 #[.slice A L.length c, .slice B L.length d] w fun e w' => e = .returned (.bool true) ∧ Drew w w' := by
  have hne : ((L.length : Int) != L.length) = false := by simp
  have HA := Lib.hid hA
  have HB := Lib.hid hB
  clear hA hB
  go_enter Tryd.func13, Tryd.ntmps13
  go_wp2
  go_loopw [5] (fun i wr => ∃ k : Nat, k ≤ L.length ∧ i = .int .i64 k ∧ Drew w wr) (fun i _ => L.length - (intOf i).toNat)
  case atStart => exact ⟨0, Nat.zero_le _, rfl, Drew.refl _⟩
  case round =>
    obtain ⟨k, hk, rfl, n, rfl⟩ := hrel
    by_cases hlt : k < L.length
    · have hx : L[k]? = some L[k] := List.getElem?_eq_getElem hlt
      obtain ⟨bA, oA, rfl, _, a0, a1, a2, a3⟩ := HA.out.ev k _ hx hlt
      obtain ⟨bB, oB, rfl, _, b0, b1, b2, b3⟩ := HB.out.ev k _ hx hlt
      have hk0 : (0 : Int) ≤ k := by omega
      have hk1 : (k : Int) < L.length := by omega
      generalize L[k] = x at a0 a1 a2 a3 b0 b1 b2 b3
      have hn := fun W => neq_rev x.k x.o x.h x.n x.k x.o x.h x.n W
      simp only [beq_self_eq_true, Bool.and_self, Bool.not_true] at hn
      clear hx
      go_wp2_with fail
      go_quiet (fail)
      go_wp2
      go_roundw
      case rel => exact ⟨k + 1, by omega, by go_num, _, rfl⟩
      case measure => simp [intOf]; omega
    · obtain rfl : k = L.length := by omega
      go_wp2
      go_ret
      exact ⟨rfl, _, rfl⟩
end Go.Proofs.YtajbpplklmhfmaaDoor

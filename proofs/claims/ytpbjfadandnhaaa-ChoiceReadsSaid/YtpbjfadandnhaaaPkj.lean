/- The document's Check, All, Same of choices. Written by wip/tools/gen33/genpkj.py. -/
import Derived.Test.YtpbjfadandnhaaaPkb
namespace Go.Proofs.Ytpbjfadandnhaaa
open Go.RowKit

theorem ei_rch : EI Try.prog 22 24 (.agg #[.int .i64 0, .int .i64 0, .int .i64 0]) 3 24 := ⟨Try.underlying22, by kernel_rfl, rfl, by omega, by omega⟩
theorem eq_rch (d : Nat) (k v u k' v' u' : Int) (w : World) : (Op.equalIn (d + 2) 24 (.agg #[.int .i64 k, .int .i64 v, .int .i64 u]) (.agg #[.int .i64 k', .int .i64 v', .int .i64 u'])).run Try.prog w = .ok ((k == k') && (v == v') && (u == u')) w := by
  have hS : Try.prog.underlying 24 = some (.struct (Try.prog.fieldsOf 24)) := by kernel_rfl
  have hp : Try.prog.stoodInHeld 24 = false := by kernel_rfl
  have p0 : ∀ (a b c : Int) w, (part 3 #[.int .i64 a, .int .i64 b, .int .i64 c] 0).run Try.prog w = .ok (.int .i64 a) w := fun a b c w => by kernel_rfl
  have p1 : ∀ (a b c : Int) w, (part 3 #[.int .i64 a, .int .i64 b, .int .i64 c] 1).run Try.prog w = .ok (.int .i64 b) w := fun a b c w => by kernel_rfl
  have p2 : ∀ (a b c : Int) w, (part 3 #[.int .i64 a, .int .i64 b, .int .i64 c] 2).run Try.prog w = .ok (.int .i64 c) w := fun a b c w => by kernel_rfl
  have q : ∀ (x y : Int) w, (Op.equalIn (d + 1) 3 (.int .i64 x) (.int .i64 y)).run Try.prog w = .ok (x == y) w := fun x y w => run_equalIn_int w d _ .i64 .i64 x y Try.underlying3
  rw [show d + 2 = (d + 1) + 1 from rfl, run_equalIn_agg w (d + 1) 24 _ _ hS hp]
  simp only [Program.fieldsOf, Try.underlying24]
  have a0 := p0 k v u
  have a1 := p1 k v u
  have a2 := p2 k v u
  have b0 := p0 k' v' u'
  have b1 := p1 k' v' u'
  have b2 := p2 k' v' u'
  clear p0 p1 p2
  generalize (#[.int .i64 k, .int .i64 v, .int .i64 u] : Array Value) = X at a0 a1 a2 ⊢
  generalize (#[.int .i64 k', .int .i64 v', .int .i64 u'] : Array Value) = Y at b0 b1 b2 ⊢
  cases e0 : (k == k') <;> cases e1 : (v == v') <;> cases e2 : (u == u') <;> simp [Op.eqFields, a0, a1, a2, b0, b1, b2, q, e0, e1, e2]
theorem neq_rch (k v u k' v' u' : Int) (w : World) : (binOp .neq 24 (.agg #[.int .i64 k, .int .i64 v, .int .i64 u]) (.agg #[.int .i64 k', .int .i64 v', .int .i64 u'])).run Try.prog w = .ok (.bool (!((k == k') && (v == v') && (u == u')))) w := by
  rw [run_neq_struct, eq_rch 9998]
  rfl

set_option maxHeartbeats 1000000 in
theorem c_pkrchk (k v u : Int) (w : World) : Calls Try.prog 13 #[.agg #[.int .i64 k, .int .i64 v, .int .i64 u]] w fun e w' => e = .returned (.int .i64 (chChk k v u)) ∧ Below w.heap.size w w' := by
  have HU := Lib.hid (up_alloc w (.cells #[.int .i64 k, .int .i64 v, .int .i64 u] 24))
  by_cases h1 : k < 0
  case pos =>
    have HX : Hid (chChk k v u = 12) := Lib.hid (by unfold chChk chIn; (repeat' split) <;> omega)
    go_enter Try.func13, Try.ntmps13
    go_wp2
    go_ret
    exact ⟨ret_int HX.out.symm, HU.out⟩
  case neg =>
    by_cases h2 : 1 < k
    case pos =>
      have HX : Hid (chChk k v u = 12) := Lib.hid (by unfold chChk chIn; (repeat' split) <;> omega)
      go_enter Try.func13, Try.ntmps13
      go_wp2
      go_ret
      exact ⟨ret_int HX.out.symm, HU.out⟩
    case neg =>
      by_cases h3 : k = 0
      case pos =>
        subst h3
        by_cases a1 : v < 0
        case pos =>
          have HX : Hid (chChk 0 v u = 8) := Lib.hid (by unfold chChk chIn; (repeat' split) <;> omega)
          go_enter Try.func13, Try.ntmps13
          go_wp2
          go_ret
          exact ⟨ret_int HX.out.symm, HU.out⟩
        case neg =>
          by_cases a2 : 255 < v
          case pos =>
            have HX : Hid (chChk 0 v u = 8) := Lib.hid (by unfold chChk chIn; (repeat' split) <;> omega)
            go_enter Try.func13, Try.ntmps13
            go_wp2
            go_ret
            exact ⟨ret_int HX.out.symm, HU.out⟩
          case neg =>
            by_cases a3 : u < 0
            case pos =>
              have HX : Hid (chChk 0 v u = 8) := Lib.hid (by unfold chChk chIn; (repeat' split) <;> omega)
              go_enter Try.func13, Try.ntmps13
              go_wp2
              go_ret
              exact ⟨ret_int HX.out.symm, HU.out⟩
            case neg =>
              by_cases a4 : 255 < u
              case pos =>
                have HX : Hid (chChk 0 v u = 8) := Lib.hid (by unfold chChk chIn; (repeat' split) <;> omega)
                go_enter Try.func13, Try.ntmps13
                go_wp2
                go_ret
                exact ⟨ret_int HX.out.symm, HU.out⟩
              case neg =>
                have HX : Hid (chChk 0 v u = 0) := Lib.hid (by unfold chChk chIn; (repeat' split) <;> omega)
                go_enter Try.func13, Try.ntmps13
                go_wp2
                go_ret
                exact ⟨ret_int HX.out.symm, HU.out⟩
      case neg =>
        obtain rfl : k = 1 := by omega
        by_cases a1 : v < 0
        case pos =>
          have HX : Hid (chChk 1 v u = 8) := Lib.hid (by unfold chChk chIn; (repeat' split) <;> omega)
          go_enter Try.func13, Try.ntmps13
          go_wp2
          go_ret
          exact ⟨ret_int HX.out.symm, HU.out⟩
        case neg =>
          by_cases a2 : 65535 < v
          case pos =>
            have HX : Hid (chChk 1 v u = 8) := Lib.hid (by unfold chChk chIn; (repeat' split) <;> omega)
            go_enter Try.func13, Try.ntmps13
            go_wp2
            go_ret
            exact ⟨ret_int HX.out.symm, HU.out⟩
          case neg =>
            by_cases a3 : u ≠ 0
            case pos =>
              have a3_n : (u != 0) = true := by simp [a3]
              have HX : Hid (chChk 1 v u = 8) := Lib.hid (by unfold chChk chIn; (repeat' split) <;> omega)
              go_enter Try.func13, Try.ntmps13
              go_wp2
              go_ret
              exact ⟨ret_int HX.out.symm, HU.out⟩
            case neg =>
              obtain rfl : u = 0 := by omega
              have HX : Hid (chChk 1 v 0 = 0) := Lib.hid (by unfold chChk chIn; (repeat' split) <;> omega)
              go_enter Try.func13, Try.ntmps13
              go_wp2
              go_ret
              exact ⟨ret_int HX.out.symm, HU.out⟩
def RAllPost (w : World) (x : Int × Int) (e : Ending) (w' : World) : Prop := e = .returned (.tuple #[.int .i64 x.1, .int .i64 x.2]) ∧ Below w.heap.size w w'
set_option maxHeartbeats 2000000 in
theorem c_rall {w : World} {pl : Nat → Prop} {A : Option Addr} {c : Nat} {L : List CH} (hR : RD w pl 3 A L.length (L.flatMap chC)) (hl : L.length ≤ 10000000000000) :
    Calls Try.prog 9 #[.slice A L.length c] w (RAllPost w (chAll L)) := by
  have HR := Lib.hid hR
  clear hR
  by_cases h : 2000 < L.length
  · have HX : Hid (chAll L = (2000, 5)) := Lib.hid (by unfold chAll; rw [if_pos h])
    have hl0 : (2000 : Int) < L.length := by omega
    go_enter Try.func9, Try.ntmps9
    go_wp2
    go_ret2
    exact ⟨by rw [HX.out]; rfl, Below.refl _ _⟩
  · have HX : Hid (chAll L = chFirst 0 L) := Lib.hid (by unfold chAll; rw [if_neg h])
    have hl0 : (L.length : Int) ≤ 2000 := by omega
    go_enter Try.func9, Try.ntmps9
    go_wp2
    go_loopw [4] (fun i wr => ∃ k : Nat, k ≤ L.length ∧ i = .int .i64 k ∧ (∀ y ∈ L.take k, y.chk = 0) ∧ Below w.heap.size w wr) (fun i _ => L.length - (intOf i).toNat)
    case atStart => exact ⟨0, Nat.zero_le _, rfl, by simp, Below.refl _ _⟩
    case round =>
      obtain ⟨k, hk, rfl, hok, hb⟩ := hrel
      have HB := Lib.hid hb
      have HOK := Lib.hid hok
      by_cases hlt : k < L.length
      · have hx : L[k]? = some L[k] := List.getElem?_eq_getElem hlt
        obtain ⟨bL, oL, rfl, hbl, hcells⟩ := HR.out.ch k _ hx hlt
        have HN := Lib.hid (ls_take L k _ hx)
        have HF := Lib.hid (first_at L 0 k _ hok hx)
        generalize L[k] = x at hcells HN HF
        obtain ⟨x0, x1, x2⟩ := cells_up hbl hcells hb
        have hk0 : (0 : Int) ≤ k := by omega
        have hk1 : (k : Int) < L.length := by omega
        have CC := Lib.hid (fun W => c_pkrchk x.k x.v x.w W)
        change Hid (∀ W, Calls _ _ _ W fun e w' => e = .returned (.int .i64 x.chk) ∧ Below W.heap.size W w') at CC
        clear hx hcells hb hok
        go_wp2_with fail
        refine (CC.out _).mono ?_
        rintro e w2 ⟨rfl, hb2⟩
        have hb3 := Lib.hid (HB.out.trans (hb2.mono HB.out.size))
        by_cases hz : x.chk = 0
        · have HZ := Lib.hid hz
          rw [hz]
          clear hz
          go_wp2
          go_roundw
          case rel => exact ⟨k + 1, by omega, by go_num, by
            rw [HN.out]
            intro y hy
            rcases List.mem_append.1 hy with hy | hy
            · exact HOK.out y hy
            · simp only [List.mem_singleton] at hy
              subst hy
              exact HZ.out, hb3.out⟩
          case measure => simp [intOf]; omega
        · have hzn : (x.chk != 0) = true := by simp [hz]
          have HFF := Lib.hid (HF.out hz)
          rw [Nat.zero_add] at HFF
          generalize x.chk = z at *
          go_wp2
          go_ret2
          exact ⟨by rw [HX.out, HFF.out]; rfl, hb3.out⟩
      · obtain rfl : k = L.length := by omega
        rw [List.take_length] at HOK
        have HFF := Lib.hid (first_all L 0 HOK.out)
        go_wp2
        go_ret2
        exact ⟨by rw [HX.out, HFF.out]; rfl, HB.out⟩
set_option maxHeartbeats 1000000 in
theorem c_rsame {w : World} {pl pl' : Nat → Prop} {A B : Option Addr} {c d : Nat} {L : List CH} (hA : RD w pl 3 A L.length (L.flatMap chC)) (hB : RD w pl' 3 B L.length (L.flatMap chC)) (hz : L.length ≤ 100000) :
    Calls Try.prog 16 #[.slice A L.length c, .slice B L.length d] w fun e w' => e = .returned (.bool true) ∧ Drew w w' := by
  have hne : ((L.length : Int) != L.length) = false := by simp
  have HA := Lib.hid hA
  have HB := Lib.hid hB
  clear hA hB
  go_enter Try.func16, Try.ntmps16
  go_wp2
  go_loopw [5] (fun i wr => ∃ k : Nat, k ≤ L.length ∧ i = .int .i64 k ∧ Drew w wr) (fun i _ => L.length - (intOf i).toNat)
  case atStart => exact ⟨0, Nat.zero_le _, rfl, Drew.refl _⟩
  case round =>
    obtain ⟨k, hk, rfl, n, rfl⟩ := hrel
    by_cases hlt : k < L.length
    · have hx : L[k]? = some L[k] := List.getElem?_eq_getElem hlt
      obtain ⟨bA, oA, rfl, _, a0, a1, a2⟩ := HA.out.ch k _ hx hlt
      obtain ⟨bB, oB, rfl, _, b0, b1, b2⟩ := HB.out.ch k _ hx hlt
      have hk0 : (0 : Int) ≤ k := by omega
      have hk1 : (k : Int) < L.length := by omega
      generalize L[k] = x at a0 a1 a2 b0 b1 b2
      have hn := fun W => neq_rch x.k x.v x.w x.k x.v x.w W
      simp only [beq_self_eq_true, Bool.and_self, Bool.not_true] at hn
      clear hx
      go_wp2_with fail
      go_quiet (fail)
      go_wp2
      go_roundw
      case rel => exact ⟨k + 1, by omega, by go_num, _, rfl⟩
      case measure => simp [intOf]; omega
    · obtain rfl : k = L.length := by omega
      go_wp2
      go_ret
      exact ⟨rfl, _, rfl⟩
end Go.Proofs.Ytpbjfadandnhaaa

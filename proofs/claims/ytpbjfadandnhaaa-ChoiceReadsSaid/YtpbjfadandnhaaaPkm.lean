/- The law's To and Back; alive. -/
import Derived.Test.YtpbjfadandnhaaaPkh
import Derived.Test.YtpbjfadandnhaaaPki
import Derived.Test.YtpbjfadandnhaaaPkj
namespace Go.Proofs.Ytpbjfadandnhaaa
open Go.RowKit

def ChsPost (w : World) (L : List CH) (e : Ending) (w' : World) : Prop := ∃ A c, e = .returned (.slice A L.length c) ∧ RD w' (w.heap.size ≤ ·) 3 A L.length (L.flatMap chC) ∧ Below w.heap.size w w'
theorem ChsPost.of {w w' : World} {v : Value} {L : List CH} {n : Nat} {t : TypeId} (h : w'.ownsRow w.heap.size t 3 v n (L.flatMap chC)) (hb : Below w.heap.size w w') : ChsPost w L (.returned v) w' := by
  obtain ⟨A, c, rfl, h1, h2, h3⟩ := own_slice h
  obtain rfl : n = L.length := by have := h.1; rw [ch_len] at this; omega
  exact ⟨A, c, rfl, h3, hb⟩
section
variable {P : Program}
/-- append onto a row of the call's own, as long as the model lets one be. -/
theorem run_appB {w : World} {t e : TypeId} {z : Value} {size bytes lo n : Nat} (E : EI P t e z size bytes) (ty : TypeId) {v : Value} {xs : List Value} (hown : w.ownsRow lo e size v n xs)
    {pl : Nat → Prop} {m c : Nat} {A : Option Addr} {news : List Value} (hr : RD w pl size A m news) (h0 : 0 < m) (h1 : ∀ u ∈ news, u.oneCell' = true) (hm : (n + m) * bytes ≤ 140737488355328) (hn : n + m ≤ 140737488355328) (hlo : lo ≤ w.heap.size) :
    ∃ v' w', (Builtin.append_ #[t, t] ty #[v, .slice A m c]).run P w = .ok v' w' ∧ w'.ownsRow lo e size v' (n + m) (xs ++ news) ∧ Below lo w w' := by
  obtain ⟨i, hi, hz, hs, hb⟩ := info_parts E.info
  obtain ⟨b, o, rfl, _, _, hc⟩ := hr.2 h0
  obtain ⟨v', w', hrun, h2, h3, _⟩ := run_append_own_at (P := P) w lo t ty e i z size bytes E.under hi hz hs hb E.cells E.pos v n xs hown ⟨b, o, none⟩ m c news hr.1
    (fun j u hu => by rw [add_off]; exact hc j u hu) h1 (by simp only [maxLen]; omega) hm hlo
  exact ⟨v', w', hrun, h2, (Below.refl _ _).grown h3 hlo fun k hk => (hown.lt k hk).1⟩
theorem wpList_appB {w : World} {ops : Array Oper} {rest : List Oper} {o : Oper} {a : Act} {Q : Exit → Act → World → Prop} {t e : TypeId} {z : Value} {size bytes lo n : Nat} (E : EI P t e z size bytes) (hgd : o.guard = none) (s x : Operand)
    (ho : o.op = .call { callee := .builtin .append, args := #[s, x], argTypes := #[t, t] })
    (v : Value) (xs : List Value) (hs : a.eval s = v) (hown : w.ownsRow lo e size v n xs)
    {pl : Nat → Prop} {m c : Nat} {A : Option Addr} {news : List Value} (hx : a.eval x = .slice A m c) (hr : RD w pl size A m news) (h0 : 0 < m) (h1 : ∀ u ∈ news, u.oneCell' = true) (hm : (n + m) * bytes ≤ 140737488355328) (hn : n + m ≤ 140737488355328) (hlo : lo ≤ w.heap.size)
    (h : ∀ v' w', w'.ownsRow lo e size v' (n + m) (xs ++ news) → Below lo w w' → wpList P ops Q rest (a.put o.dst v') w') : wpList P ops Q (o :: rest) a w := by
  refine wpList_plain hgd fun K hK => ?_
  obtain ⟨v', w', hrun, h2, h3⟩ := run_appB E o.type hown (c := c) hr h0 h1 hm hn hlo
  unfold Oper.wp execOp
  simp only [ho, resolve, invoke, builtin, Sem.run_bind, Sem.run_pure, Result.andThen_ok, List.map_toArray, List.map_cons, List.map_nil, hs, hx, hrun]
  exact hK _ _ (h v' w' h2 h3)
end
set_option maxHeartbeats 1000000 in
theorem c_to {w : World} {pl : Nat → Prop} {A : Option Addr} {c : Nat} {L : List CH} (hR : RD w pl 3 A L.length (L.flatMap chC)) (hL : L.length * 24 ≤ 140737488351232) :
    Calls Try.prog 8 #[.slice A L.length c] w (ChsPost w L) := by
  have HR := Lib.hid hR
  clear hR
  go_enter Try.func8, Try.ntmps8
  go_wp2
  go_loopw [3, 8] (fun v i wr => ∃ k : Nat, k ≤ L.length ∧ i = .int .i64 k ∧ wr.ownsRow w.heap.size 36 3 v (L.take k).length ((L.take k).flatMap chC) ∧ Below w.heap.size w wr) (fun _ i _ => L.length - (intOf i).toNat)
  case atStart => exact ⟨0, Nat.zero_le _, rfl, World.ownsRow_nil _ _ _ _, Below.refl _ _⟩
  case round =>
    obtain ⟨k, hk, rfl, hown, hb⟩ := hrel
    have HB := Lib.hid hb
    have HOWN := Lib.hid hown
    have hsz := hb.size
    by_cases hlt : k < L.length
    · have hx : L[k]? = some L[k] := List.getElem?_eq_getElem hlt
      obtain ⟨bL, oL, rfl, hbl, hcells⟩ := HR.out.ch k _ hx hlt
      have HN := Lib.hid (ls_take L k _ hx)
      have htl : (L.take k).length + 1 ≤ L.length := by rw [List.length_take]; omega
      generalize L[k] = x at hcells HN
      obtain ⟨x0, x1, x2⟩ := cells_up hbl hcells hb
      have hk0 : (0 : Int) ≤ k := by omega
      have hk1 : (k : Int) < L.length := by omega
      clear hx hcells hb hown
      go_wp2_with (at_builtin; refine wpList_appB ei_ch rfl (.tmp 12) (.tmp 14) rfl _ _ rfl ((HOWN.out.alloc _).alloc _) rfl (rd_new (by simp) rfl) (by omega) (fun u hu => chC_one x u hu) (by omega) (by omega) (by simp; omega) ?_; intro v' w4 hown4 hb4)
      go_roundw
      case rel => exact ⟨k + 1, by omega, by go_num, by rw [HN.out, ch_flat1, List.length_append]; exact hown4, ((HB.out.alloc hsz _).alloc (by simp; omega) _).trans hb4⟩
      case measure => simp [intOf]; omega
    · obtain rfl : k = L.length := by omega
      rw [List.take_length] at HOWN
      clear hown hb
      go_wp2
      go_ret
      exact ChsPost.of HOWN.out HB.out
set_option maxHeartbeats 1000000 in
theorem c_back {w : World} {pl : Nat → Prop} {A : Option Addr} {c : Nat} {L : List CH} (hR : RD w pl 3 A L.length (L.flatMap chC)) (hL : L.length ≤ 100000) :
    Calls Try.prog 17 #[.slice A L.length c] w (ChsPost w L) := by
  have HR := Lib.hid hR
  clear hR
  go_enter Try.func17, Try.ntmps17
  go_wp2
  go_loopw [3, 8] (fun v i wr => ∃ k : Nat, k ≤ L.length ∧ i = .int .i64 k ∧ wr.ownsRow w.heap.size 24 3 v (L.take k).length ((L.take k).flatMap chC) ∧ Below w.heap.size w wr) (fun _ i _ => L.length - (intOf i).toNat)
  case atStart => exact ⟨0, Nat.zero_le _, rfl, World.ownsRow_nil _ _ _ _, Below.refl _ _⟩
  case round =>
    obtain ⟨k, hk, rfl, hown, hb⟩ := hrel
    have HB := Lib.hid hb
    have HOWN := Lib.hid hown
    have hsz := hb.size
    by_cases hlt : k < L.length
    · have hx : L[k]? = some L[k] := List.getElem?_eq_getElem hlt
      obtain ⟨bL, oL, rfl, hbl, hcells⟩ := HR.out.ch k _ hx hlt
      have HN := Lib.hid (ls_take L k _ hx)
      have htl : (L.take k).length ≤ 100000 := by rw [List.length_take]; omega
      generalize L[k] = x at hcells HN
      obtain ⟨x0, x1, x2⟩ := cells_up hbl hcells hb
      have hk0 : (0 : Int) ≤ k := by omega
      have hk1 : (k : Int) < L.length := by omega
      clear hx hcells hb hown
      go_wp2_with (at_builtin; refine wpList_app ei_rch rfl (.tmp 12) (.tmp 14) rfl _ _ rfl ((HOWN.out.alloc _).alloc _) rfl (rd_new (by simp) rfl) (fun u hu => chC_one x u hu) (by omega) (by simp; omega) ?_; intro v' w4 hown4 hb4)
      go_roundw
      case rel => exact ⟨k + 1, by omega, by go_num, by rw [HN.out, ch_flat1, List.length_append]; exact hown4, ((HB.out.alloc hsz _).alloc (by simp; omega) _).trans hb4⟩
      case measure => simp [intOf]; omega
    · obtain rfl : k = L.length := by omega
      rw [List.take_length] at HOWN
      clear hown hb
      go_wp2
      go_ret
      exact ChsPost.of HOWN.out HB.out

theorem eq_pch (d : Nat) (k v u k' v' u' : Int) (w : World) : (Op.equalIn (d + 2) 36 (.agg #[.int .i64 k, .int .i64 v, .int .i64 u]) (.agg #[.int .i64 k', .int .i64 v', .int .i64 u'])).run Try.prog w = .ok ((k == k') && (v == v') && (u == u')) w := by
  have hS : Try.prog.underlying 36 = some (.struct (Try.prog.fieldsOf 36)) := by kernel_rfl
  have hp : Try.prog.stoodInHeld 36 = false := by kernel_rfl
  have p0 : ∀ (a b c : Int) w, (part 3 #[.int .i64 a, .int .i64 b, .int .i64 c] 0).run Try.prog w = .ok (.int .i64 a) w := fun a b c w => by kernel_rfl
  have p1 : ∀ (a b c : Int) w, (part 3 #[.int .i64 a, .int .i64 b, .int .i64 c] 1).run Try.prog w = .ok (.int .i64 b) w := fun a b c w => by kernel_rfl
  have p2 : ∀ (a b c : Int) w, (part 3 #[.int .i64 a, .int .i64 b, .int .i64 c] 2).run Try.prog w = .ok (.int .i64 c) w := fun a b c w => by kernel_rfl
  have q : ∀ (x y : Int) w, (Op.equalIn (d + 1) 3 (.int .i64 x) (.int .i64 y)).run Try.prog w = .ok (x == y) w := fun x y w => run_equalIn_int w d _ .i64 .i64 x y Try.underlying3
  rw [show d + 2 = (d + 1) + 1 from rfl, run_equalIn_agg w (d + 1) 36 _ _ hS hp]
  simp only [Program.fieldsOf, Try.underlying36]
  have a0 := p0 k v u
  have a1 := p1 k v u
  have a2 := p2 k v u
  have b0 := p0 k' v' u'
  have b1 := p1 k' v' u'
  have b2 := p2 k' v' u'
  clear p0 p1 p2
  generalize (#[.int .i64 k, .int .i64 v, .int .i64 u] : Array Value) = X at a0 a1 a2 ⊢
  generalize (#[.int .i64 k', .int .i64 v', .int .i64 u'] : Array Value) = Y at b0 b1 b2 ⊢
  cases e0 : (k == k') <;> cases e1 : (v == v') <;> cases e2 : (u == u') <;> simp [Op.eqFields, a0, a1, a2, b0, b1, b2, q, e0, e1, e2]
theorem eql_pch (k v u k' v' u' : Int) (w : World) : (binOp .eql 36 (.agg #[.int .i64 k, .int .i64 v, .int .i64 u]) (.agg #[.int .i64 k', .int .i64 v', .int .i64 u'])).run Try.prog w = .ok (.bool (((k == k') && (v == v') && (u == u')))) w := by
  rw [run_eql_struct, eq_pch 9998]
  rfl
theorem al_bytes : chBytes [⟨1, 258, 0⟩] = [0, 1, 1, 1, 2] := by decide
theorem al_read1 : chRead [120, 0, 1, 1, 1, 2] 1 = ([⟨1, 258, 0⟩], 6, 0) := by rfl
theorem al_read2 : chRead [0, 1, 1, 1, 2] 1 = ([], 0, 4) := by rfl
theorem al_all : chAll [⟨0, 3, 0⟩, ⟨0, 256, 0⟩] = (1, 8) := by decide

set_option maxRecDepth 100000 in
set_option maxHeartbeats 4000000 in
theorem c_alive (w : World) : Calls Try.prog 6 #[] w fun e w' => e = .returned (.bool true) ∧ Below w.heap.size w w' := by
  have hb0 := Lib.hid (up_alloc w (.cells #[.int .i64 1, .int .i64 258, .int .i64 0] 36))
  have hB0 := Blk.new w [.int .i64 1, .int .i64 258, .int .i64 0] 36
  have HB0 := Lib.hid hB0
  have CB := Lib.hid (c_bytes (A := some ⟨w.heap.size, 0, none⟩) (c := 1) (pl := fun _ => True) (L := [⟨1, 258, 0⟩]) (RD.of_blk (xs := [.int .i64 1, .int .i64 258, .int .i64 0]) hB0 rfl trivial) (by decide))
  rw [al_bytes] at CB
  have CR1 := Lib.hid (fun W => c_read [120, 0, 1, 1, 1, 2] (by decide) 1 W)
  have CR2 := Lib.hid (fun W => c_read [0, 1, 1, 1, 2] (by decide) 1 W)
  rw [al_read1] at CR1
  rw [al_read2] at CR2
  change Hid (∀ W, Calls _ _ _ W fun e w' => ∃ A c, e = .returned (.tuple #[.slice A 1 c, .int .i64 6, .int .i64 0]) ∧ 1 ≤ c ∧ RD w' (W.heap.size ≤ ·) 3 A 1 ([(⟨1, 258, 0⟩ : CH)].flatMap chC) ∧ Below W.heap.size W w') at CR1
  change Hid (∀ W, Calls _ _ _ W fun e w' => ∃ A c, e = .returned (.tuple #[.slice A 0 c, .int .i64 0, .int .i64 4]) ∧ 0 ≤ c ∧ RD w' (W.heap.size ≤ ·) 3 A 0 [] ∧ Below W.heap.size W w') at CR2
  have CC := Lib.hid (fun W => c_pkchk 2 0 0 W)
  rw [show chChk 2 0 0 = 12 from by decide] at CC
  clear hB0
  go_enter Try.func6, Try.ntmps6
  go_wp2_with fail
  refine CB.out.mono ?_; rintro e w1 ⟨rfl, hb1⟩
  have HB1 := Lib.hid (HB0.out.up hb1 HB0.out.lt)
  have HU1 := Lib.hid (up_trans hb0.out hb1)
  clear hb1 hb0 HB0
  have HS : Hid ((⟨#[120]⟩ : ByteArray) ++ ⟨#[0, 1, 1, 1, 2]⟩ = ⟨#[120, 0, 1, 1, 1, 2]⟩) := Lib.hid rfl
  go_wp2_with fail
  rw [HS.out]
  refine (CR1.out _).mono ?_; rintro e w2 ⟨A1, c1, rfl, hc1, hrd1, hb2⟩
  have HB2 := Lib.hid (HB1.out.up hb2 HB1.out.lt)
  have HU2 := Lib.hid (up_trans HU1.out hb2)
  obtain ⟨b1, o1, rfl, hl1, a0, a1, a2⟩ := hrd1.ch 0 ⟨1, 258, 0⟩ rfl (by decide)
  have HA := Lib.hid (fun W (h : Below w2.heap.size w2 W) => cells_up (k := 0) (x := ⟨1, 258, 0⟩) hl1 ⟨a0, a1, a2⟩ h)
  clear hb2 HB1 HU1 hrd1 a0 a1 a2
  go_wp2_with fail
  refine (CR2.out _).mono ?_; rintro e w3 ⟨A2, c2, rfl, hc2, hrd2, hb3⟩
  have HB3 := Lib.hid (HB2.out.up hb3 HB2.out.lt)
  have HU3 := Lib.hid (up_trans HU2.out hb3)
  have H13 := Lib.hid hb3
  have HN := Blk.new w3 [.int .i64 0, .int .i64 3, .int .i64 0, .int .i64 0, .int .i64 256, .int .i64 0] 36
  have CA := Lib.hid (c_all (A := some ⟨w3.heap.size, 0, none⟩) (c := 2) (pl := fun _ => True) (L := [⟨0, 3, 0⟩, ⟨0, 256, 0⟩]) (RD.of_blk (xs := [.int .i64 0, .int .i64 3, .int .i64 0, .int .i64 0, .int .i64 256, .int .i64 0]) HN rfl trivial) (by decide))
  rw [al_all] at CA
  have hb34 := up_alloc w3 (.cells #[.int .i64 0, .int .i64 3, .int .i64 0, .int .i64 0, .int .i64 256, .int .i64 0] 36)
  have H34 := Lib.hid (up_trans H13.out hb34)
  have HU34 := Lib.hid (up_trans HU3.out hb34)
  have HB34 := Lib.hid (HB3.out.alloc (.cells #[.int .i64 0, .int .i64 3, .int .i64 0, .int .i64 0, .int .i64 256, .int .i64 0] 36))
  clear hb3 hb34 HN hrd2 HB2 HU2
  go_wp2_with fail
  refine CA.out.mono ?_; rintro e w6 ⟨rfl, hb6⟩
  have HU6 := Lib.hid (up_trans HU34.out hb6)
  obtain ⟨a0, a1, a2⟩ := HA.out _ (up_trans H34.out hb6)
  have HB6 := HB34.out.up hb6 HB34.out.lt
  simp only [Nat.zero_mul, Nat.add_zero] at a0 a1 a2
  have A0 := cell_regrown a0
  have A1 := cell_regrown a1
  have A2 := cell_regrown a2
  have E0 := cell_regrown (HB6.cell 0 _ rfl)
  have E1 := cell_regrown (HB6.cell 1 _ rfl)
  have E2 := cell_regrown (HB6.cell 2 _ rfl)
  have cC := grown_call (w := w6) fun W _ => CC.out W
  have hE := fun W => eql_pch 1 258 0 1 258 0 W
  simp only [beq_self_eq_true, Bool.and_self] at hE
  clear a0 a1 a2 HB6 hb6 HA HB34 HU34 H34
  go_wp2_with fail
  refine wp_region_quiet_below (by kernel_rfl) (by kernel_rfl) ?_
  repeat (go_big_quiet_step (first | (with_reducible exact cC _ _)))
  refine wpQuiet_nil ?_
  intro _ hw'
  obtain ⟨⟨dq, osq⟩, hw''⟩ := hw'
  have HQ := Lib.hid (up_trans HU6.out (hw'' ▸ below_regrown w6 dq osq))
  clear hw''
  go_wp2
  go_ret
  exact ⟨rfl, HQ.out⟩
end Go.Proofs.Ytpbjfadandnhaaa

/- Package chantab: wait. -/
import Derived.Test.YtnmjjemkaamcfaaYe
import Derived.Test.YtnmjjemkaamcfaaJj
namespace Go.Proofs.Ytnmjjemkaamcfaa
open Go.RowKit

theorem take_mid {P : Program} {o : Oper} {a : Act} {W : World} {ty : TypeId} {x : Operand} {b q : Nat} {v : Value} (ho : o.op = .load ty x) (hx : a.eval x = .pointer (some ⟨b, q, none⟩)) (hl : (loadVar ty ⟨b, q, none⟩).run P W = .ok v W) :
    (execOp a.eval o).run P W = .ok (.value v) W := by
  unfold execOp
  simp only [ho, hx, Instr.loadAt, Instr.sureAddr, Sem.run_bind, Sem.run_pure, Result.andThen_ok, hl]
set_option maxRecDepth 100000 in
theorem info_gd : (Try.prog.info? 80).map (·.size) = some 5 := by kernel_rfl
/-- What wait does. -/
def WtPost (w : World) (lo : Nat) (v : Value) (n : Nat) (Cs : List CP) (p : Int) (al : Bool) (g : GD) (b : Nat) (e : Ending) (w' : World) : Prop :=
  ∃ L', e = .returned (.int .i64 (gdE Cs p al g)) ∧ OwT w' 73 lo v n L' ∧ L'.map Prod.fst = gdL Cs p al g ∧ fewL (b + 1) L' ∧ Only (ownB v) w w'
theorem WtPost.bad {w w' : World} {lo : Nat} {v : Value} {n : Nat} {L : List CQ} {p : Int} {al : Bool} {g : GD} {b : Nat} {x : Int} (hx : gdE (L.map Prod.fst) p al g = x) (h0 : x ≠ 0) (h : OwT w 73 lo v n L) (hf : fewL b L) (hb : Below w.heap.size w w') :
    WtPost w lo v n (L.map Prod.fst) p al g b (.returned (.int .i64 x)) w' :=
  ⟨L, by rw [hx], h.below hb, by unfold gdL; rw [hx, if_neg h0], hf.mono (by omega), Only.of_below hb⟩
/-- What stays so in wait. -/
structure WtS (w : World) (lo gp n c k : Nat) (L : List CQ) (g : GD) (q : CQ) (W : World) : Prop where
  up : Below w.heap.size w W
  gd : Blk W w.heap.size (gdC g) 80
  own : OwT W 73 lo (.slice (some ⟨gp, 0, none⟩) n c) n L
  rg : W.rangeAt gp (k * 11) (cellsQ q)
  lt : gp < W.heap.size
  ch : ChW W (notOwn (.slice (some ⟨gp, 0, none⟩) n c)) q.1 q.2
theorem WtS.next {w : World} {lo gp n c k : Nat} {L : List CQ} {g : GD} {q : CQ} {W W' : World} (h : WtS w lo gp n c k L g q W) (hb : Below W.heap.size W W') : WtS w lo gp n c k L g q W' :=
  ⟨up_trans h.up hb, h.gd.up hb h.gd.lt, h.own.below hb, range_below h.rg hb h.lt, Nat.lt_of_lt_of_le h.lt hb.size, h.ch.below hb⟩
theorem WtS.al {w : World} {lo gp n c k : Nat} {L : List CQ} {g : GD} {q : CQ} {X : World} (h : WtS w lo gp n c k L g q X) :
    ChW (X.alloc (.cells chZ.toArray 73)) (fun b => notOwn (.slice (some ⟨gp, 0, none⟩) n c) b ∧ b ≠ X.heap.size) q.1 q.2 ∧ Blk (X.alloc (.cells chZ.toArray 73)) X.heap.size chZ 73 :=
  ⟨(h.ch.lt.lo fun _ hb => ⟨hb.1, Nat.ne_of_lt hb.2⟩).below (up_alloc _ _), Blk.new _ _ _⟩
theorem WtS.c1 {w : World} {lo gp n c k : Nat} {L : List CQ} {g : GD} {q : CQ} {W : World} (h : WtS w lo gp n c k L g q W) (hg : g.o = (k : Int)) : W.cell? ⟨w.heap.size, 1, none⟩ = some (.int .i64 (k : Int)) := by rw [← hg]; exact h.gd.go

set_option maxRecDepth 100000 in
set_option maxHeartbeats 4000000 in
theorem c_wait {w : World} {lo : Nat} {v : Value} {n : Nat} {L : List CQ} (h : OwT w 73 lo v n L) {b : Nat} (hf : fewL b L) (hb : b ≤ 1000) (p : Int) (al : Bool) (g : GD) :
    Calls Try.prog 46 #[v, .int .i64 p, .agg (gdC g).toArray, .bool al] w (WtPost w lo v n (L.map Prod.fst) p al g b) := by
  obtain ⟨A, c, rfl, _⟩ := own_slice h.own
  have hlen : (L.map Prod.fst).length = n := by rw [List.length_map, h.len]
  have hin : inT (L.map Prod.fst) g.o = (decide (0 ≤ g.o) && decide (g.o < (n : Int))) := by unfold inT; rw [hlen]
  have hX : Below w.heap.size w (w.alloc (.cells (gdC g).toArray 80)) := up_alloc _ _
  have hG : Blk (w.alloc (.cells (gdC g).toArray 80)) w.heap.size (gdC g) 80 := Blk.new _ _ _
  generalize hw1 : w.alloc (.cells (gdC g).toArray 80) = w1 at hX hG
  have HW := Lib.hid hw1
  have CT := Lib.hid (fun o W => c_there A n c o W)
  cases hi : inT (L.map Prod.fst) g.o
  · have hi0 := hin.symm.trans hi
    have CT1 := fun W => CT.out g.o W
    rw [hi0] at CT1
    have CT2 := Lib.hid CT1
    have HE : Hid (WtPost w lo (.slice A n c) n (L.map Prod.fst) p al g b (.returned (.int .i64 8)) w1) := Lib.hid (WtPost.bad (by unfold gdE; rw [hi, if_pos rfl]) (by decide) h hf hX)
    have c1 := hG.go
    clear h hf hlen hin hX hG hw1 hi hi0 CT CT1
    go_enter Try.func46, Try.ntmps46
    go_upto_region 1 with fail
    rw [HW.out]
    go_wp2_with (go_at_call 27; refine (CT2.out _).mono ?_; rintro e w' ⟨rfl, rfl⟩)
    go_ret
    exact HE.out
  have hi0 := hin.symm.trans hi
  have ho : 0 ≤ g.o ∧ g.o < (n : Int) := by
    rw [Bool.and_eq_true, decide_eq_true_eq, decide_eq_true_eq] at hi0
    exact hi0
  obtain ⟨k, hgo⟩ : ∃ k : Nat, g.o = (k : Int) := ⟨g.o.toNat, by omega⟩
  have hlt : k < n := by omega
  have CT1 := fun W => CT.out g.o W
  rw [hi0, hgo] at CT1
  have CT2 := Lib.hid CT1
  obtain ⟨gp, c2, q, hv, hlo, hgt, hq, hrg, _, hch⟩ := h.at_ k hlt
  injection hv with hv1 _ hv3
  subst hv1 hv3
  have hkn : (k : Int) < (n : Int) := by omega
  have hS : WtS w lo gp n c k L g q w1 := ⟨hX, hG, h.below hX, range_below hrg hX hgt, Nat.lt_of_lt_of_le hgt hX.size, hch.below hX⟩
  have HS := Lib.hid hS
  have HGO := Lib.hid hgo
  have hq1 : (L.map Prod.fst).getD g.o.toNat chZero = q.1 := by
    rw [hgo, Int.toNat_natCast, List.getD_eq_getElem?_getD, map_fst_at hq]
    rfl
  have hE : gdE (L.map Prod.fst) p al g = if (al && gdSh q.1 g.k) = true then 12 else gdE1 q.1 p g := by
    unfold gdE
    rw [hi, if_neg (by decide), hq1]
  have hfq : fewC b q.1 := hf q (List.mem_of_getElem? hq)
  have HFQ := Lib.hid hfq
  have CH := Lib.hid (fun W => c_shared W q.1 q.2 g.k)
  have HCF := Lib.hid (hfq.few hb hch)
  have CJ := Lib.hid (fun W (hS : WtS w lo gp n c k L g q W) => c_join hS.ch (hfq.few hb hch) hS.own.new p g)
  have CJ2 := Lib.hid (fun W a (h1 : ChW W (fun b => notOwn (.slice (some ⟨gp, 0, none⟩) n c) b ∧ b ≠ a) q.1 q.2) (hS : WtS w lo gp n c k L g q W) (h2 : a < W.heap.size) => c_join h1 (hfq.few hb hch) (fun b hb => ⟨hS.own.new b hb, by omega⟩) p g)
  have HOW := Lib.hid h
  have HFW := Lib.hid hf
  have HE := Lib.hid hE
  have HL : Hid (∀ M2, gdE (L.map Prod.fst) p al g = 0 → (L.set k (gdN1 q.1 p g, M2)).map Prod.fst = gdL (L.map Prod.fst) p al g) := Lib.hid (fun M2 e => by
    unfold gdL
    rw [e, if_pos rfl, List.map_set, hq1, hgo, Int.toNat_natCast])
  obtain ⟨sh, hsh⟩ : ∃ sh, gdSh q.1 g.k = sh := ⟨_, rfl⟩
  rw [hsh] at CH HE
  obtain ⟨N, hN⟩ : ∃ N, gdN1 q.1 p g = N := ⟨_, rfl⟩
  obtain ⟨x, hx⟩ : ∃ x, gdE1 q.1 p g = x := ⟨_, rfl⟩
  have hfN := hfq.step p g
  rw [hN, hx] at CJ
  simp only [hN, hx] at CJ2
  rw [hN] at HL hfN
  rw [hx] at HE
  have HFN := Lib.hid hfN
  have HLO := Lib.hid hlo
  clear h hf hlen hin hX hG hw1 hi hi0 CT CT1 ho hq hrg hch hgt hS hq1 hE hfq hgo hlo hsh hN hx hfN
  cases al
  · have HE1 : Hid (gdE (L.map Prod.fst) p false g = x) := Lib.hid HE.out
    clear HE CH
    go_enter Try.func46, Try.ntmps46
    go_upto_region 1 with fail
    rw [HW.out]
    have c1 := HS.out.c1 HGO.out
    go_wp2_with (go_at_call 27; refine (CT2.out _).mono ?_; rintro e w' ⟨rfl, rfl⟩)
    clear c1
    refine wp_region_held_drew (S := fun W => Below w1.heap.size w1 W) (by kernel_rfl) (up_drewN _ 1) (fun hHeld => ?_)
    refine wpAnyH_take (i := 0) (oi := ?_) (v := ?_) ?_ (by kernel_rfl) (by kernel_rfl) (by kernel_rfl) ?_ (Or.inl ⟨?_, ?_⟩) hHeld ?_
    rotate_left 2
    · conv => lhs; simp only [List.getElem?_toArray, List.getElem?_cons_succ, List.getElem?_cons_zero]
    · exact fun _ _ _ h => h
    · rfl
    · intro W hSw
      have hQ := HS.out.next hSw
      have k0 := hQ.gd.gk
      have k1 := hQ.c1 HGO.out
      go_simp
      try with_reducible rfl
    try simp only [Act.put, List.setIfInBounds_toArray, List.set_cons_zero, List.set_cons_succ]
    refine wpAnyH_take (i := 1) (oi := ?_) (v := ?_) ?_ (by kernel_rfl) (by kernel_rfl) (by kernel_rfl) ?_ (Or.inl ⟨?_, ?_⟩) hHeld ?_
    rotate_left 2
    · conv => lhs; simp only [List.getElem?_toArray, List.getElem?_cons_succ, List.getElem?_cons_zero]
    · exact fun _ _ _ h => h
    · rfl
    · intro W hSw
      have hQ := HS.out.next hSw
      have k0 := hQ.gd.gk
      have k1 := hQ.c1 HGO.out
      go_simp
      try with_reducible rfl
    try simp only [Act.put, List.setIfInBounds_toArray, List.set_cons_zero, List.set_cons_succ]
    refine wpAnyH_take (i := 2) (oi := ?_) (v := undef) ?_ (by kernel_rfl) (by kernel_rfl) (by kernel_rfl) ?_ (Or.inr ⟨?_, rfl⟩) hHeld ?_
    rotate_left 1
    · conv => lhs; simp only [List.getElem?_toArray, List.getElem?_cons_succ, List.getElem?_cons_zero]
    · exact fun _ _ _ h => h
    · rfl
    try simp only [Act.put, List.setIfInBounds_toArray, List.set_cons_zero, List.set_cons_succ]
    refine wpAnyH_take (i := 3) (oi := ?_) (v := undef) ?_ (by kernel_rfl) (by kernel_rfl) (by kernel_rfl) ?_ (Or.inr ⟨?_, rfl⟩) hHeld ?_
    rotate_left 1
    · conv => lhs; simp only [List.getElem?_toArray, List.getElem?_cons_succ, List.getElem?_cons_zero]
    · exact fun _ _ _ h => h
    · rfl
    try simp only [Act.put, List.setIfInBounds_toArray, List.set_cons_zero, List.set_cons_succ]
    refine wpAnyH_take (i := 4) (oi := ?_) (v := undef) ?_ (by kernel_rfl) (by kernel_rfl) (by kernel_rfl) ?_ (Or.inr ⟨?_, rfl⟩) hHeld ?_
    rotate_left 1
    · conv => lhs; simp only [List.getElem?_toArray, List.getElem?_cons_succ, List.getElem?_cons_zero]
    · exact fun _ _ _ h => h
    · rfl
    try simp only [Act.put, List.setIfInBounds_toArray, List.set_cons_zero, List.set_cons_succ]
    refine wpAnyH_take (i := 5) (oi := ?_) (v := undef) ?_ (by kernel_rfl) (by kernel_rfl) (by kernel_rfl) ?_ (Or.inr ⟨?_, rfl⟩) hHeld ?_
    rotate_left 1
    · conv => lhs; simp only [List.getElem?_toArray, List.getElem?_cons_succ, List.getElem?_cons_zero]
    · exact fun _ _ _ h => h
    · rfl
    try simp only [Act.put, List.setIfInBounds_toArray, List.set_cons_zero, List.set_cons_succ]
    refine wpAnyH_take (i := 6) (oi := ?_) (v := undef) ?_ (by kernel_rfl) (by kernel_rfl) (by kernel_rfl) ?_ (Or.inr ⟨?_, rfl⟩) hHeld ?_
    rotate_left 1
    · conv => lhs; simp only [List.getElem?_toArray, List.getElem?_cons_succ, List.getElem?_cons_zero]
    · exact fun _ _ _ h => h
    · rfl
    try simp only [Act.put, List.setIfInBounds_toArray, List.set_cons_zero, List.set_cons_succ]
    refine wpAnyH_take (i := 7) (oi := ?_) (v := undef) ?_ (by kernel_rfl) (by kernel_rfl) (by kernel_rfl) ?_ (Or.inr ⟨?_, rfl⟩) hHeld ?_
    rotate_left 1
    · conv => lhs; simp only [List.getElem?_toArray, List.getElem?_cons_succ, List.getElem?_cons_zero]
    · exact fun _ _ _ h => h
    · rfl
    try simp only [Act.put, List.setIfInBounds_toArray, List.set_cons_zero, List.set_cons_succ]
    refine wpAnyH_take (i := 8) (oi := ?_) (v := undef) ?_ (by kernel_rfl) (by kernel_rfl) (by kernel_rfl) ?_ (Or.inr ⟨?_, rfl⟩) hHeld ?_
    rotate_left 1
    · conv => lhs; simp only [List.getElem?_toArray, List.getElem?_cons_succ, List.getElem?_cons_zero]
    · exact fun _ _ _ h => h
    · rfl
    try simp only [Act.put, List.setIfInBounds_toArray, List.set_cons_zero, List.set_cons_succ]
    refine wpAnyH_take (i := 9) (oi := ?_) (v := undef) ?_ (by kernel_rfl) (by kernel_rfl) (by kernel_rfl) ?_ (Or.inr ⟨?_, rfl⟩) hHeld ?_
    rotate_left 1
    · conv => lhs; simp only [List.getElem?_toArray, List.getElem?_cons_succ, List.getElem?_cons_zero]
    · exact fun _ _ _ h => h
    · rfl
    try simp only [Act.put, List.setIfInBounds_toArray, List.set_cons_zero, List.set_cons_succ]
    refine wpAnyH_take (i := 10) (oi := ?_) (v := ?_) ?_ (by kernel_rfl) (by kernel_rfl) (by kernel_rfl) ?_ (Or.inl ⟨?_, ?_⟩) hHeld ?_
    rotate_left 2
    · conv => lhs; simp only [List.getElem?_toArray, List.getElem?_cons_succ, List.getElem?_cons_zero]
    · exact fun _ _ _ h => h
    · rfl
    · intro W hSw
      have hQ := HS.out.next hSw
      have k0 := hQ.gd.gk
      have k1 := hQ.c1 HGO.out
      go_simp
      try with_reducible rfl
    try simp only [Act.put, List.setIfInBounds_toArray, List.set_cons_zero, List.set_cons_succ]
    refine wpAnyH_take (i := 11) (oi := ?_) (v := ?_) ?_ (by kernel_rfl) (by kernel_rfl) (by kernel_rfl) ?_ (Or.inl ⟨?_, ?_⟩) hHeld ?_
    rotate_left 2
    · conv => lhs; simp only [List.getElem?_toArray, List.getElem?_cons_succ, List.getElem?_cons_zero]
    · exact fun _ _ _ h => h
    · rfl
    · intro W hSw
      have hQ := HS.out.next hSw
      have k0 := hQ.gd.gk
      have k1 := hQ.c1 HGO.out
      go_simp
      try with_reducible rfl
    try simp only [Act.put, List.setIfInBounds_toArray, List.set_cons_zero, List.set_cons_succ]
    refine wpAnyH_done (by kernel_rfl) ?_ _
    go_wp2_with fail
    refine wp_region_held_drew (S := fun W => Below w1.heap.size w1 W) (by kernel_rfl) (up_trans hHeld (up_drewN _ 1)) (fun hHeld => ?_)
    refine wpAnyH_take (i := 0) (oi := ?_) (v := ?_) ?_ (by kernel_rfl) (by kernel_rfl) (by kernel_rfl) ?_ (Or.inl ⟨?_, ?_⟩) hHeld ?_
    rotate_left 2
    · conv => lhs; simp only [List.getElem?_toArray, List.getElem?_cons_succ, List.getElem?_cons_zero]
    · exact fun _ _ _ h => h
    · rfl
    · intro W hSw
      have hQ := HS.out.next hSw
      have k0 := hQ.gd.gk
      have k1 := hQ.c1 HGO.out
      go_simp
      try with_reducible rfl
    try simp only [Act.put, List.setIfInBounds_toArray, List.set_cons_zero, List.set_cons_succ]
    refine wpAnyH_take (i := 1) (oi := ?_) (v := ?_) ?_ (by kernel_rfl) (by kernel_rfl) (by kernel_rfl) ?_ (Or.inl ⟨?_, ?_⟩) hHeld ?_
    rotate_left 2
    · conv => lhs; simp only [List.getElem?_toArray, List.getElem?_cons_succ, List.getElem?_cons_zero]
    · exact fun _ _ _ h => h
    · rfl
    · intro W hSw
      have hQ := HS.out.next hSw
      have k0 := hQ.gd.gk
      have k1 := hQ.c1 HGO.out
      go_simp
      try with_reducible rfl
    try simp only [Act.put, List.setIfInBounds_toArray, List.set_cons_zero, List.set_cons_succ]
    refine wpAnyH_take (i := 2) (oi := ?_) (v := ?_) ?_ (by kernel_rfl) (by kernel_rfl) (by kernel_rfl) ?_ (Or.inl ⟨?_, ?_⟩) hHeld ?_
    rotate_left 2
    · conv => lhs; simp only [List.getElem?_toArray, List.getElem?_cons_succ, List.getElem?_cons_zero]
    · exact fun _ _ _ h => h
    · rfl
    · intro W hSw
      have hQ := HS.out.next hSw
      have k0 := hQ.gd.gk
      have k1 := hQ.c1 HGO.out
      go_simp
      try with_reducible rfl
    try simp only [Act.put, List.setIfInBounds_toArray, List.set_cons_zero, List.set_cons_succ]
    refine wpAnyH_take (i := 3) (oi := ?_) (v := ?_) ?_ (by kernel_rfl) (by kernel_rfl) (by kernel_rfl) ?_ (Or.inl ⟨?_, ?_⟩) hHeld ?_
    rotate_left 2
    · conv => lhs; simp only [List.getElem?_toArray, List.getElem?_cons_succ, List.getElem?_cons_zero]
    · exact fun _ _ _ h => h
    · rfl
    · intro W hSw
      have hQ := HS.out.next hSw
      have k0 := hQ.gd.gk
      have k1 := hQ.c1 HGO.out
      go_simp
      try with_reducible rfl
    try simp only [Act.put, List.setIfInBounds_toArray, List.set_cons_zero, List.set_cons_succ]
    refine wpAnyH_take (i := 4) (oi := ?_) (v := (.agg (cellsQ q).toArray)) ?_ (by kernel_rfl) (by kernel_rfl) (by kernel_rfl) ?_ (Or.inl ⟨?_, ?_⟩) hHeld ?_
    rotate_left 1
    · conv => lhs; simp only [List.getElem?_toArray, List.getElem?_cons_succ, List.getElem?_cons_zero]
    · exact fun _ _ _ h => h
    · rfl
    · intro W hSw
      exact take_mid rfl rfl (run_loadVar_mid _ _ _ _ _ _ (HS.out.next hSw).rg Try.underlying73 rfl info_ch)
    try simp only [Act.put, List.setIfInBounds_toArray, List.set_cons_zero, List.set_cons_succ]
    refine wpAnyH_take (i := 5) (oi := ?_) (v := ?_) ?_ (by kernel_rfl) (by kernel_rfl) (by kernel_rfl) ?_ (Or.inl ⟨?_, ?_⟩) hHeld ?_
    rotate_left 2
    · conv => lhs; simp only [List.getElem?_toArray, List.getElem?_cons_succ, List.getElem?_cons_zero]
    · exact fun _ _ _ h => h
    · rfl
    · intro W hSw
      have hQ := HS.out.next hSw
      have k0 := hQ.gd.gk
      have k1 := hQ.c1 HGO.out
      go_simp
      try with_reducible rfl
    try simp only [Act.put, List.setIfInBounds_toArray, List.set_cons_zero, List.set_cons_succ]
    refine wpAnyH_take (i := 6) (oi := ?_) (v := (.agg (gdC g).toArray)) ?_ (by kernel_rfl) (by kernel_rfl) (by kernel_rfl) ?_ (Or.inl ⟨?_, ?_⟩) hHeld ?_
    rotate_left 1
    · conv => lhs; simp only [List.getElem?_toArray, List.getElem?_cons_succ, List.getElem?_cons_zero]
    · exact fun _ _ _ h => h
    · rfl
    · intro W hSw
      exact take_load rfl rfl (load_row (HS.out.next hSw).gd Try.underlying80 rfl info_gd)
    try simp only [Act.put, List.setIfInBounds_toArray, List.set_cons_zero, List.set_cons_succ]
    refine wpAnyH_ready (rs := [7, 11]) (by kernel_rfl) (by simp) ?_
    refine AllReadyH.cons (o := ?_) ?_ (fun K hK => ?_) ?_
    rotate_left 1
    · conv => lhs; simp only [List.getElem?_toArray, List.getElem?_cons_succ, List.getElem?_cons_zero]
    · go_simp
      refine (CJ.out _ (HS.out.next hHeld)).mono ?_
      rintro e wB ⟨M2, rfl, hch2, hbB⟩
      have H2 := Lib.hid hch2
      have HBB := Lib.hid (up_trans hHeld hbB)
      go_wp2_with fail
      refine hK.out _ _ (up_trans hHeld hbB) (fun hHeld => ?_)
      clear hK K
      try simp only [Act.put, List.setIfInBounds_toArray, List.set_cons_zero, List.set_cons_succ]
      refine wpAnyH_take (i := 8) (oi := ?_) (v := ?_) ?_ (by kernel_rfl) (by kernel_rfl) (by kernel_rfl) ?_ (Or.inl ⟨?_, ?_⟩) hHeld ?_
      rotate_left 2
      · conv => lhs; simp only [List.getElem?_toArray, List.getElem?_cons_succ, List.getElem?_cons_zero]
      · exact fun _ _ _ h => h
      · rfl
      · intro W hSw
        have hQ := HS.out.next hSw
        have k0 := hQ.gd.gk
        have k1 := hQ.c1 HGO.out
        go_simp
        try with_reducible rfl
      try simp only [Act.put, List.setIfInBounds_toArray, List.set_cons_zero, List.set_cons_succ]
      refine wpAnyH_take (i := 9) (oi := ?_) (v := ?_) ?_ (by kernel_rfl) (by kernel_rfl) (by kernel_rfl) ?_ (Or.inl ⟨?_, ?_⟩) hHeld ?_
      rotate_left 2
      · conv => lhs; simp only [List.getElem?_toArray, List.getElem?_cons_succ, List.getElem?_cons_zero]
      · exact fun _ _ _ h => h
      · rfl
      · intro W hSw
        have hQ := HS.out.next hSw
        have k0 := hQ.gd.gk
        have k1 := hQ.c1 HGO.out
        go_simp
        try with_reducible rfl
      try simp only [Act.put, List.setIfInBounds_toArray, List.set_cons_zero, List.set_cons_succ]
      refine wpAnyH_take (i := 10) (oi := ?_) (v := ?_) ?_ (by kernel_rfl) (by kernel_rfl) (by kernel_rfl) ?_ (Or.inl ⟨?_, ?_⟩) hHeld ?_
      rotate_left 2
      · conv => lhs; simp only [List.getElem?_toArray, List.getElem?_cons_succ, List.getElem?_cons_zero]
      · exact fun _ _ _ h => h
      · rfl
      · intro W hSw
        have hQ := HS.out.next hSw
        have k0 := hQ.gd.gk
        have k1 := hQ.c1 HGO.out
        go_simp
        try with_reducible rfl
      try simp only [Act.put, List.setIfInBounds_toArray, List.set_cons_zero, List.set_cons_succ]
      refine wpAnyH_ready (rs := [11]) (by kernel_rfl) (by simp) ?_
      refine AllReadyH.cons (o := ?_) ?_ (fun K hK => ?_) AllReadyH.nil
      rotate_left 1
      · conv => lhs; simp only [List.getElem?_toArray, List.getElem?_cons_succ, List.getElem?_cons_zero]
      go_simp
      refine hK.out _ _ (up_trans hHeld (up_alloc _ _)) (fun hHeld => ?_)
      clear hK K
      try simp only [Act.put, List.setIfInBounds_toArray, List.set_cons_zero, List.set_cons_succ]
      have hz : Blk (wB.alloc (.cells chZ.toArray 73)) wB.heap.size chZ 73 := Blk.new wB chZ 73
      have hw : w1.heap.size ≤ wB.heap.size := HBB.out.size
      refine wpAnyH_ready (rs := [12]) (by kernel_rfl) (by simp) ?_
      refine AllReadyH.cons (o := ?_) ?_ (fun K hK => ?_) AllReadyH.nil
      rotate_left 1
      · conv => lhs; simp only [List.getElem?_toArray, List.getElem?_cons_succ, List.getElem?_cons_zero]
      rw [if_pos (by rfl)]
      refine wp_store_row 73 (.tmp 9) (.tmp 38) rfl wB.heap.size (chC N M2).toArray rfl rfl 73 chZ.toArray hz info_ch rfl (all_one chC_one) ?_
      refine hK.out _ _ (below_setRow hHeld hw _) (fun hHeld => ?_)
      clear hK K
      refine wpAnyH_take (i := 13) (oi := ?_) (v := ?_) ?_ (by kernel_rfl) (by kernel_rfl) (by kernel_rfl) ?_ (Or.inl ⟨?_, ?_⟩) hHeld ?_
      rotate_left 2
      · conv => lhs; simp only [List.getElem?_toArray, List.getElem?_cons_succ, List.getElem?_cons_zero]
      · exact fun _ _ _ h => h
      · rfl
      · intro W hSw
        have hQ := HS.out.next hSw
        have k0 := hQ.gd.gk
        have k1 := hQ.c1 HGO.out
        go_simp
        try with_reducible rfl
      try simp only [Act.put, List.setIfInBounds_toArray, List.set_cons_zero, List.set_cons_succ]
      refine wpAnyH_done (by kernel_rfl) ?_ _
      have HBR := Lib.hid (hz.row (chC N M2))
      have HC := Lib.hid (show ChW _ (notOwn (.slice (some ⟨gp, 0, none⟩) n c)) N M2 from H2.out.below (below_setRow (up_alloc wB (.cells chZ.toArray 73)) (Nat.le_refl _) (chC N M2).toArray))
      have HU := Lib.hid hHeld
      have HQ := Lib.hid (HS.out.next hHeld)
      have c1 := HQ.out.c1 HGO.out
      clear hz hw hHeld
      by_cases h0 : x = 0
      · subst h0
        have HTH := HQ.out.own.th k hlt
        clear HS
        go_wp2_with (first | (refine ld_row' (cs := chC N M2) (t := 73) (.tmp 9) rfl rfl Try.underlying73 rfl info_ch rfl ?_ ?_; (· exact HBR.out)) | (refine sm_row (b := gp) (q := k * 11) (cs := chC N M2) (.tmp 47) (.tmp 46) rfl rfl rfl rfl info_ch chC_one ?_ ?_; (· exact HTH)))
        go_ret
        refine ⟨L.set k (N, M2), by rw [HE1.out]; rfl, HQ.out.own.put k hlt (N, M2) HC.out, HL.out M2 HE1.out, (HFW.out.mono (by omega)).set k HFN.out, ?_⟩
        exact (Only.of_below HQ.out.up).trans ((only_cells _ _ _).mono fun i _ e => by subst e; rfl)
      · have hx1 : (x != 0) = true := by simp [bne, h0]
        go_wp2
        go_ret
        exact WtPost.bad HE1.out h0 HOW.out HFW.out HQ.out.up
    refine AllReadyH.cons (o := ?_) ?_ (fun K hK => ?_) AllReadyH.nil
    rotate_left 1
    · conv => lhs; simp only [List.getElem?_toArray, List.getElem?_cons_succ, List.getElem?_cons_zero]
    go_simp
    have hw := hHeld.size
    obtain ⟨hc0, hz0⟩ := (HS.out.next hHeld).al
    refine hK.out _ _ (up_trans hHeld (up_alloc _ _)) (fun hHeld => ?_)
    clear hK K
    try simp only [Act.put, List.setIfInBounds_toArray, List.set_cons_zero, List.set_cons_succ]
    refine wpAnyH_ready (rs := [7]) (by kernel_rfl) (by simp) ?_
    refine AllReadyH.cons (o := ?_) ?_ (fun K hK => ?_) AllReadyH.nil
    rotate_left 1
    · conv => lhs; simp only [List.getElem?_toArray, List.getElem?_cons_succ, List.getElem?_cons_zero]
    go_simp
    refine (CJ2.out _ _ hc0 (HS.out.next hHeld) hz0.lt).mono ?_
    rintro e wB ⟨M2, rfl, hch2, hbB⟩
    have H2 := Lib.hid hch2
    have hz := hz0.up hbB hz0.lt
    go_wp2_with fail
    refine hK.out _ _ (up_trans hHeld hbB) (fun hHeld => ?_)
    clear hK K hc0 hz0
    try simp only [Act.put, List.setIfInBounds_toArray, List.set_cons_zero, List.set_cons_succ]
    refine wpAnyH_take (i := 8) (oi := ?_) (v := ?_) ?_ (by kernel_rfl) (by kernel_rfl) (by kernel_rfl) ?_ (Or.inl ⟨?_, ?_⟩) hHeld ?_
    rotate_left 2
    · conv => lhs; simp only [List.getElem?_toArray, List.getElem?_cons_succ, List.getElem?_cons_zero]
    · exact fun _ _ _ h => h
    · rfl
    · intro W hSw
      have hQ := HS.out.next hSw
      have k0 := hQ.gd.gk
      have k1 := hQ.c1 HGO.out
      go_simp
      try with_reducible rfl
    try simp only [Act.put, List.setIfInBounds_toArray, List.set_cons_zero, List.set_cons_succ]
    refine wpAnyH_take (i := 9) (oi := ?_) (v := ?_) ?_ (by kernel_rfl) (by kernel_rfl) (by kernel_rfl) ?_ (Or.inl ⟨?_, ?_⟩) hHeld ?_
    rotate_left 2
    · conv => lhs; simp only [List.getElem?_toArray, List.getElem?_cons_succ, List.getElem?_cons_zero]
    · exact fun _ _ _ h => h
    · rfl
    · intro W hSw
      have hQ := HS.out.next hSw
      have k0 := hQ.gd.gk
      have k1 := hQ.c1 HGO.out
      go_simp
      try with_reducible rfl
    try simp only [Act.put, List.setIfInBounds_toArray, List.set_cons_zero, List.set_cons_succ]
    refine wpAnyH_take (i := 10) (oi := ?_) (v := ?_) ?_ (by kernel_rfl) (by kernel_rfl) (by kernel_rfl) ?_ (Or.inl ⟨?_, ?_⟩) hHeld ?_
    rotate_left 2
    · conv => lhs; simp only [List.getElem?_toArray, List.getElem?_cons_succ, List.getElem?_cons_zero]
    · exact fun _ _ _ h => h
    · rfl
    · intro W hSw
      have hQ := HS.out.next hSw
      have k0 := hQ.gd.gk
      have k1 := hQ.c1 HGO.out
      go_simp
      try with_reducible rfl
    try simp only [Act.put, List.setIfInBounds_toArray, List.set_cons_zero, List.set_cons_succ]
    refine wpAnyH_ready (rs := [12]) (by kernel_rfl) (by simp) ?_
    refine AllReadyH.cons (o := ?_) ?_ (fun K hK => ?_) AllReadyH.nil
    rotate_left 1
    · conv => lhs; simp only [List.getElem?_toArray, List.getElem?_cons_succ, List.getElem?_cons_zero]
    rw [if_pos (by rfl)]
    refine wp_store_row 73 (.tmp 9) (.tmp 38) rfl _ (chC N M2).toArray rfl rfl 73 chZ.toArray hz info_ch rfl (all_one chC_one) ?_
    refine hK.out _ _ (below_setRow hHeld hw _) (fun hHeld => ?_)
    clear hK K
    refine wpAnyH_take (i := 13) (oi := ?_) (v := ?_) ?_ (by kernel_rfl) (by kernel_rfl) (by kernel_rfl) ?_ (Or.inl ⟨?_, ?_⟩) hHeld ?_
    rotate_left 2
    · conv => lhs; simp only [List.getElem?_toArray, List.getElem?_cons_succ, List.getElem?_cons_zero]
    · exact fun _ _ _ h => h
    · rfl
    · intro W hSw
      have hQ := HS.out.next hSw
      have k0 := hQ.gd.gk
      have k1 := hQ.c1 HGO.out
      go_simp
      try with_reducible rfl
    try simp only [Act.put, List.setIfInBounds_toArray, List.set_cons_zero, List.set_cons_succ]
    refine wpAnyH_done (by kernel_rfl) ?_ _
    have HBR := Lib.hid (hz.row (chC N M2))
    have HC := Lib.hid (show ChW _ (notOwn (.slice (some ⟨gp, 0, none⟩) n c)) N M2 from (H2.out.only ((Only.refl (· = _) _).row rfl (chC N M2).toArray) (by rintro i rfl h; exact h.2 rfl)).lo (fun _ h => h.1))
    have HU := Lib.hid hHeld
    have HQ := Lib.hid (HS.out.next hHeld)
    have c1 := HQ.out.c1 HGO.out
    clear hz hw hHeld
    by_cases h0 : x = 0
    · subst h0
      have HTH := HQ.out.own.th k hlt
      clear HS
      go_wp2_with (first | (refine ld_row' (cs := chC N M2) (t := 73) (.tmp 9) rfl rfl Try.underlying73 rfl info_ch rfl ?_ ?_; (· exact HBR.out)) | (refine sm_row (b := gp) (q := k * 11) (cs := chC N M2) (.tmp 47) (.tmp 46) rfl rfl rfl rfl info_ch chC_one ?_ ?_; (· exact HTH)))
      go_ret
      refine ⟨L.set k (N, M2), by rw [HE1.out]; rfl, HQ.out.own.put k hlt (N, M2) HC.out, HL.out M2 HE1.out, (HFW.out.mono (by omega)).set k HFN.out, ?_⟩
      exact (Only.of_below HQ.out.up).trans ((only_cells _ _ _).mono fun i _ e => by subst e; rfl)
    · have hx1 : (x != 0) = true := by simp [bne, h0]
      go_wp2
      go_ret
      exact WtPost.bad HE1.out h0 HOW.out HFW.out HQ.out.up
  · cases sh
    · have HE1 : Hid (gdE (L.map Prod.fst) p true g = x) := Lib.hid HE.out
      clear HE
      go_enter Try.func46, Try.ntmps46
      go_upto_region 1 with fail
      rw [HW.out]
      have c1 := HS.out.c1 HGO.out
      go_wp2_with (go_at_call 27; refine (CT2.out _).mono ?_; rintro e w' ⟨rfl, rfl⟩)
      clear c1
      refine wp_region_held_drew (S := fun W => Below w1.heap.size w1 W) (by kernel_rfl) (up_drewN _ 1) (fun hHeld => ?_)
      refine wpAnyH_take (i := 0) (oi := ?_) (v := ?_) ?_ (by kernel_rfl) (by kernel_rfl) (by kernel_rfl) ?_ (Or.inl ⟨?_, ?_⟩) hHeld ?_
      rotate_left 2
      · conv => lhs; simp only [List.getElem?_toArray, List.getElem?_cons_succ, List.getElem?_cons_zero]
      · exact fun _ _ _ h => h
      · rfl
      · intro W hSw
        have hQ := HS.out.next hSw
        have k0 := hQ.gd.gk
        have k1 := hQ.c1 HGO.out
        go_simp
        try with_reducible rfl
      try simp only [Act.put, List.setIfInBounds_toArray, List.set_cons_zero, List.set_cons_succ]
      refine wpAnyH_take (i := 1) (oi := ?_) (v := ?_) ?_ (by kernel_rfl) (by kernel_rfl) (by kernel_rfl) ?_ (Or.inl ⟨?_, ?_⟩) hHeld ?_
      rotate_left 2
      · conv => lhs; simp only [List.getElem?_toArray, List.getElem?_cons_succ, List.getElem?_cons_zero]
      · exact fun _ _ _ h => h
      · rfl
      · intro W hSw
        have hQ := HS.out.next hSw
        have k0 := hQ.gd.gk
        have k1 := hQ.c1 HGO.out
        go_simp
        try with_reducible rfl
      try simp only [Act.put, List.setIfInBounds_toArray, List.set_cons_zero, List.set_cons_succ]
      refine wpAnyH_take (i := 2) (oi := ?_) (v := ?_) ?_ (by kernel_rfl) (by kernel_rfl) (by kernel_rfl) ?_ (Or.inl ⟨?_, ?_⟩) hHeld ?_
      rotate_left 2
      · conv => lhs; simp only [List.getElem?_toArray, List.getElem?_cons_succ, List.getElem?_cons_zero]
      · exact fun _ _ _ h => h
      · rfl
      · intro W hSw
        have hQ := HS.out.next hSw
        have k0 := hQ.gd.gk
        have k1 := hQ.c1 HGO.out
        go_simp
        try with_reducible rfl
      try simp only [Act.put, List.setIfInBounds_toArray, List.set_cons_zero, List.set_cons_succ]
      refine wpAnyH_take (i := 3) (oi := ?_) (v := ?_) ?_ (by kernel_rfl) (by kernel_rfl) (by kernel_rfl) ?_ (Or.inl ⟨?_, ?_⟩) hHeld ?_
      rotate_left 2
      · conv => lhs; simp only [List.getElem?_toArray, List.getElem?_cons_succ, List.getElem?_cons_zero]
      · exact fun _ _ _ h => h
      · rfl
      · intro W hSw
        have hQ := HS.out.next hSw
        have k0 := hQ.gd.gk
        have k1 := hQ.c1 HGO.out
        go_simp
        try with_reducible rfl
      try simp only [Act.put, List.setIfInBounds_toArray, List.set_cons_zero, List.set_cons_succ]
      refine wpAnyH_take (i := 4) (oi := ?_) (v := ?_) ?_ (by kernel_rfl) (by kernel_rfl) (by kernel_rfl) ?_ (Or.inl ⟨?_, ?_⟩) hHeld ?_
      rotate_left 2
      · conv => lhs; simp only [List.getElem?_toArray, List.getElem?_cons_succ, List.getElem?_cons_zero]
      · exact fun _ _ _ h => h
      · rfl
      · intro W hSw
        have hQ := HS.out.next hSw
        have k0 := hQ.gd.gk
        have k1 := hQ.c1 HGO.out
        go_simp
        try with_reducible rfl
      try simp only [Act.put, List.setIfInBounds_toArray, List.set_cons_zero, List.set_cons_succ]
      refine wpAnyH_take (i := 5) (oi := ?_) (v := ?_) ?_ (by kernel_rfl) (by kernel_rfl) (by kernel_rfl) ?_ (Or.inl ⟨?_, ?_⟩) hHeld ?_
      rotate_left 2
      · conv => lhs; simp only [List.getElem?_toArray, List.getElem?_cons_succ, List.getElem?_cons_zero]
      · exact fun _ _ _ h => h
      · rfl
      · intro W hSw
        have hQ := HS.out.next hSw
        have k0 := hQ.gd.gk
        have k1 := hQ.c1 HGO.out
        go_simp
        try with_reducible rfl
      try simp only [Act.put, List.setIfInBounds_toArray, List.set_cons_zero, List.set_cons_succ]
      refine wpAnyH_take (i := 6) (oi := ?_) (v := (.agg (cellsQ q).toArray)) ?_ (by kernel_rfl) (by kernel_rfl) (by kernel_rfl) ?_ (Or.inl ⟨?_, ?_⟩) hHeld ?_
      rotate_left 1
      · conv => lhs; simp only [List.getElem?_toArray, List.getElem?_cons_succ, List.getElem?_cons_zero]
      · exact fun _ _ _ h => h
      · rfl
      · intro W hSw
        exact take_mid rfl rfl (run_loadVar_mid _ _ _ _ _ _ (HS.out.next hSw).rg Try.underlying73 rfl info_ch)
      try simp only [Act.put, List.setIfInBounds_toArray, List.set_cons_zero, List.set_cons_succ]
      refine wpAnyH_take (i := 7) (oi := ?_) (v := ?_) ?_ (by kernel_rfl) (by kernel_rfl) (by kernel_rfl) ?_ (Or.inl ⟨?_, ?_⟩) hHeld ?_
      rotate_left 2
      · conv => lhs; simp only [List.getElem?_toArray, List.getElem?_cons_succ, List.getElem?_cons_zero]
      · exact fun _ _ _ h => h
      · rfl
      · intro W hSw
        have hQ := HS.out.next hSw
        have k0 := hQ.gd.gk
        have k1 := hQ.c1 HGO.out
        go_simp
        try with_reducible rfl
      try simp only [Act.put, List.setIfInBounds_toArray, List.set_cons_zero, List.set_cons_succ]
      refine wpAnyH_take (i := 8) (oi := ?_) (v := ?_) ?_ (by kernel_rfl) (by kernel_rfl) (by kernel_rfl) ?_ (Or.inl ⟨?_, ?_⟩) hHeld ?_
      rotate_left 2
      · conv => lhs; simp only [List.getElem?_toArray, List.getElem?_cons_succ, List.getElem?_cons_zero]
      · exact fun _ _ _ h => h
      · rfl
      · intro W hSw
        have hQ := HS.out.next hSw
        have k0 := hQ.gd.gk
        have k1 := hQ.c1 HGO.out
        go_simp
        try with_reducible rfl
      try simp only [Act.put, List.setIfInBounds_toArray, List.set_cons_zero, List.set_cons_succ]
      refine wpAnyH_ready (rs := [9]) (by kernel_rfl) (by simp) ?_
      refine AllReadyH.cons (o := ?_) ?_ (fun K hK => ?_) AllReadyH.nil
      rotate_left 1
      · conv => lhs; simp only [List.getElem?_toArray, List.getElem?_cons_succ, List.getElem?_cons_zero]
      go_simp
      refine (CH.out _).mono ?_
      rintro e wA ⟨rfl, hbA⟩
      go_wp2_with fail
      refine hK.out _ _ (up_trans hHeld hbA) (fun hHeld => ?_)
      clear hK K
      try simp only [Act.put, List.setIfInBounds_toArray, List.set_cons_zero, List.set_cons_succ]
      refine wpAnyH_take (i := 10) (oi := ?_) (v := ?_) ?_ (by kernel_rfl) (by kernel_rfl) (by kernel_rfl) ?_ (Or.inl ⟨?_, ?_⟩) hHeld ?_
      rotate_left 2
      · conv => lhs; simp only [List.getElem?_toArray, List.getElem?_cons_succ, List.getElem?_cons_zero]
      · exact fun _ _ _ h => h
      · rfl
      · intro W hSw
        have hQ := HS.out.next hSw
        have k0 := hQ.gd.gk
        have k1 := hQ.c1 HGO.out
        go_simp
        try with_reducible rfl
      try simp only [Act.put, List.setIfInBounds_toArray, List.set_cons_zero, List.set_cons_succ]
      refine wpAnyH_take (i := 11) (oi := ?_) (v := ?_) ?_ (by kernel_rfl) (by kernel_rfl) (by kernel_rfl) ?_ (Or.inl ⟨?_, ?_⟩) hHeld ?_
      rotate_left 2
      · conv => lhs; simp only [List.getElem?_toArray, List.getElem?_cons_succ, List.getElem?_cons_zero]
      · exact fun _ _ _ h => h
      · rfl
      · intro W hSw
        have hQ := HS.out.next hSw
        have k0 := hQ.gd.gk
        have k1 := hQ.c1 HGO.out
        go_simp
        try with_reducible rfl
      try simp only [Act.put, List.setIfInBounds_toArray, List.set_cons_zero, List.set_cons_succ]
      refine wpAnyH_done (by kernel_rfl) ?_ _
      go_wp2_with fail
      refine wp_region_held_drew (S := fun W => Below w1.heap.size w1 W) (by kernel_rfl) (up_trans hHeld (up_drewN _ 1)) (fun hHeld => ?_)
      refine wpAnyH_take (i := 0) (oi := ?_) (v := ?_) ?_ (by kernel_rfl) (by kernel_rfl) (by kernel_rfl) ?_ (Or.inl ⟨?_, ?_⟩) hHeld ?_
      rotate_left 2
      · conv => lhs; simp only [List.getElem?_toArray, List.getElem?_cons_succ, List.getElem?_cons_zero]
      · exact fun _ _ _ h => h
      · rfl
      · intro W hSw
        have hQ := HS.out.next hSw
        have k0 := hQ.gd.gk
        have k1 := hQ.c1 HGO.out
        go_simp
        try with_reducible rfl
      try simp only [Act.put, List.setIfInBounds_toArray, List.set_cons_zero, List.set_cons_succ]
      refine wpAnyH_take (i := 1) (oi := ?_) (v := ?_) ?_ (by kernel_rfl) (by kernel_rfl) (by kernel_rfl) ?_ (Or.inl ⟨?_, ?_⟩) hHeld ?_
      rotate_left 2
      · conv => lhs; simp only [List.getElem?_toArray, List.getElem?_cons_succ, List.getElem?_cons_zero]
      · exact fun _ _ _ h => h
      · rfl
      · intro W hSw
        have hQ := HS.out.next hSw
        have k0 := hQ.gd.gk
        have k1 := hQ.c1 HGO.out
        go_simp
        try with_reducible rfl
      try simp only [Act.put, List.setIfInBounds_toArray, List.set_cons_zero, List.set_cons_succ]
      refine wpAnyH_take (i := 2) (oi := ?_) (v := ?_) ?_ (by kernel_rfl) (by kernel_rfl) (by kernel_rfl) ?_ (Or.inl ⟨?_, ?_⟩) hHeld ?_
      rotate_left 2
      · conv => lhs; simp only [List.getElem?_toArray, List.getElem?_cons_succ, List.getElem?_cons_zero]
      · exact fun _ _ _ h => h
      · rfl
      · intro W hSw
        have hQ := HS.out.next hSw
        have k0 := hQ.gd.gk
        have k1 := hQ.c1 HGO.out
        go_simp
        try with_reducible rfl
      try simp only [Act.put, List.setIfInBounds_toArray, List.set_cons_zero, List.set_cons_succ]
      refine wpAnyH_take (i := 3) (oi := ?_) (v := ?_) ?_ (by kernel_rfl) (by kernel_rfl) (by kernel_rfl) ?_ (Or.inl ⟨?_, ?_⟩) hHeld ?_
      rotate_left 2
      · conv => lhs; simp only [List.getElem?_toArray, List.getElem?_cons_succ, List.getElem?_cons_zero]
      · exact fun _ _ _ h => h
      · rfl
      · intro W hSw
        have hQ := HS.out.next hSw
        have k0 := hQ.gd.gk
        have k1 := hQ.c1 HGO.out
        go_simp
        try with_reducible rfl
      try simp only [Act.put, List.setIfInBounds_toArray, List.set_cons_zero, List.set_cons_succ]
      refine wpAnyH_take (i := 4) (oi := ?_) (v := (.agg (cellsQ q).toArray)) ?_ (by kernel_rfl) (by kernel_rfl) (by kernel_rfl) ?_ (Or.inl ⟨?_, ?_⟩) hHeld ?_
      rotate_left 1
      · conv => lhs; simp only [List.getElem?_toArray, List.getElem?_cons_succ, List.getElem?_cons_zero]
      · exact fun _ _ _ h => h
      · rfl
      · intro W hSw
        exact take_mid rfl rfl (run_loadVar_mid _ _ _ _ _ _ (HS.out.next hSw).rg Try.underlying73 rfl info_ch)
      try simp only [Act.put, List.setIfInBounds_toArray, List.set_cons_zero, List.set_cons_succ]
      refine wpAnyH_take (i := 5) (oi := ?_) (v := ?_) ?_ (by kernel_rfl) (by kernel_rfl) (by kernel_rfl) ?_ (Or.inl ⟨?_, ?_⟩) hHeld ?_
      rotate_left 2
      · conv => lhs; simp only [List.getElem?_toArray, List.getElem?_cons_succ, List.getElem?_cons_zero]
      · exact fun _ _ _ h => h
      · rfl
      · intro W hSw
        have hQ := HS.out.next hSw
        have k0 := hQ.gd.gk
        have k1 := hQ.c1 HGO.out
        go_simp
        try with_reducible rfl
      try simp only [Act.put, List.setIfInBounds_toArray, List.set_cons_zero, List.set_cons_succ]
      refine wpAnyH_take (i := 6) (oi := ?_) (v := (.agg (gdC g).toArray)) ?_ (by kernel_rfl) (by kernel_rfl) (by kernel_rfl) ?_ (Or.inl ⟨?_, ?_⟩) hHeld ?_
      rotate_left 1
      · conv => lhs; simp only [List.getElem?_toArray, List.getElem?_cons_succ, List.getElem?_cons_zero]
      · exact fun _ _ _ h => h
      · rfl
      · intro W hSw
        exact take_load rfl rfl (load_row (HS.out.next hSw).gd Try.underlying80 rfl info_gd)
      try simp only [Act.put, List.setIfInBounds_toArray, List.set_cons_zero, List.set_cons_succ]
      refine wpAnyH_ready (rs := [7, 11]) (by kernel_rfl) (by simp) ?_
      refine AllReadyH.cons (o := ?_) ?_ (fun K hK => ?_) ?_
      rotate_left 1
      · conv => lhs; simp only [List.getElem?_toArray, List.getElem?_cons_succ, List.getElem?_cons_zero]
      · go_simp
        refine (CJ.out _ (HS.out.next hHeld)).mono ?_
        rintro e wB ⟨M2, rfl, hch2, hbB⟩
        have H2 := Lib.hid hch2
        have HBB := Lib.hid (up_trans hHeld hbB)
        go_wp2_with fail
        refine hK.out _ _ (up_trans hHeld hbB) (fun hHeld => ?_)
        clear hK K
        try simp only [Act.put, List.setIfInBounds_toArray, List.set_cons_zero, List.set_cons_succ]
        refine wpAnyH_take (i := 8) (oi := ?_) (v := ?_) ?_ (by kernel_rfl) (by kernel_rfl) (by kernel_rfl) ?_ (Or.inl ⟨?_, ?_⟩) hHeld ?_
        rotate_left 2
        · conv => lhs; simp only [List.getElem?_toArray, List.getElem?_cons_succ, List.getElem?_cons_zero]
        · exact fun _ _ _ h => h
        · rfl
        · intro W hSw
          have hQ := HS.out.next hSw
          have k0 := hQ.gd.gk
          have k1 := hQ.c1 HGO.out
          go_simp
          try with_reducible rfl
        try simp only [Act.put, List.setIfInBounds_toArray, List.set_cons_zero, List.set_cons_succ]
        refine wpAnyH_take (i := 9) (oi := ?_) (v := ?_) ?_ (by kernel_rfl) (by kernel_rfl) (by kernel_rfl) ?_ (Or.inl ⟨?_, ?_⟩) hHeld ?_
        rotate_left 2
        · conv => lhs; simp only [List.getElem?_toArray, List.getElem?_cons_succ, List.getElem?_cons_zero]
        · exact fun _ _ _ h => h
        · rfl
        · intro W hSw
          have hQ := HS.out.next hSw
          have k0 := hQ.gd.gk
          have k1 := hQ.c1 HGO.out
          go_simp
          try with_reducible rfl
        try simp only [Act.put, List.setIfInBounds_toArray, List.set_cons_zero, List.set_cons_succ]
        refine wpAnyH_take (i := 10) (oi := ?_) (v := ?_) ?_ (by kernel_rfl) (by kernel_rfl) (by kernel_rfl) ?_ (Or.inl ⟨?_, ?_⟩) hHeld ?_
        rotate_left 2
        · conv => lhs; simp only [List.getElem?_toArray, List.getElem?_cons_succ, List.getElem?_cons_zero]
        · exact fun _ _ _ h => h
        · rfl
        · intro W hSw
          have hQ := HS.out.next hSw
          have k0 := hQ.gd.gk
          have k1 := hQ.c1 HGO.out
          go_simp
          try with_reducible rfl
        try simp only [Act.put, List.setIfInBounds_toArray, List.set_cons_zero, List.set_cons_succ]
        refine wpAnyH_ready (rs := [11]) (by kernel_rfl) (by simp) ?_
        refine AllReadyH.cons (o := ?_) ?_ (fun K hK => ?_) AllReadyH.nil
        rotate_left 1
        · conv => lhs; simp only [List.getElem?_toArray, List.getElem?_cons_succ, List.getElem?_cons_zero]
        go_simp
        refine hK.out _ _ (up_trans hHeld (up_alloc _ _)) (fun hHeld => ?_)
        clear hK K
        try simp only [Act.put, List.setIfInBounds_toArray, List.set_cons_zero, List.set_cons_succ]
        have hz : Blk (wB.alloc (.cells chZ.toArray 73)) wB.heap.size chZ 73 := Blk.new wB chZ 73
        have hw : w1.heap.size ≤ wB.heap.size := HBB.out.size
        refine wpAnyH_ready (rs := [12]) (by kernel_rfl) (by simp) ?_
        refine AllReadyH.cons (o := ?_) ?_ (fun K hK => ?_) AllReadyH.nil
        rotate_left 1
        · conv => lhs; simp only [List.getElem?_toArray, List.getElem?_cons_succ, List.getElem?_cons_zero]
        rw [if_pos (by rfl)]
        refine wp_store_row 73 (.tmp 9) (.tmp 38) rfl wB.heap.size (chC N M2).toArray rfl rfl 73 chZ.toArray hz info_ch rfl (all_one chC_one) ?_
        refine hK.out _ _ (below_setRow hHeld hw _) (fun hHeld => ?_)
        clear hK K
        refine wpAnyH_take (i := 13) (oi := ?_) (v := ?_) ?_ (by kernel_rfl) (by kernel_rfl) (by kernel_rfl) ?_ (Or.inl ⟨?_, ?_⟩) hHeld ?_
        rotate_left 2
        · conv => lhs; simp only [List.getElem?_toArray, List.getElem?_cons_succ, List.getElem?_cons_zero]
        · exact fun _ _ _ h => h
        · rfl
        · intro W hSw
          have hQ := HS.out.next hSw
          have k0 := hQ.gd.gk
          have k1 := hQ.c1 HGO.out
          go_simp
          try with_reducible rfl
        try simp only [Act.put, List.setIfInBounds_toArray, List.set_cons_zero, List.set_cons_succ]
        refine wpAnyH_done (by kernel_rfl) ?_ _
        have HBR := Lib.hid (hz.row (chC N M2))
        have HC := Lib.hid (show ChW _ (notOwn (.slice (some ⟨gp, 0, none⟩) n c)) N M2 from H2.out.below (below_setRow (up_alloc wB (.cells chZ.toArray 73)) (Nat.le_refl _) (chC N M2).toArray))
        have HU := Lib.hid hHeld
        have HQ := Lib.hid (HS.out.next hHeld)
        have c1 := HQ.out.c1 HGO.out
        clear hz hw hHeld
        by_cases h0 : x = 0
        · subst h0
          have HTH := HQ.out.own.th k hlt
          clear HS
          go_wp2_with (first | (refine ld_row' (cs := chC N M2) (t := 73) (.tmp 9) rfl rfl Try.underlying73 rfl info_ch rfl ?_ ?_; (· exact HBR.out)) | (refine sm_row (b := gp) (q := k * 11) (cs := chC N M2) (.tmp 47) (.tmp 46) rfl rfl rfl rfl info_ch chC_one ?_ ?_; (· exact HTH)))
          go_ret
          refine ⟨L.set k (N, M2), by rw [HE1.out]; rfl, HQ.out.own.put k hlt (N, M2) HC.out, HL.out M2 HE1.out, (HFW.out.mono (by omega)).set k HFN.out, ?_⟩
          exact (Only.of_below HQ.out.up).trans ((only_cells _ _ _).mono fun i _ e => by subst e; rfl)
        · have hx1 : (x != 0) = true := by simp [bne, h0]
          go_wp2
          go_ret
          exact WtPost.bad HE1.out h0 HOW.out HFW.out HQ.out.up
      refine AllReadyH.cons (o := ?_) ?_ (fun K hK => ?_) AllReadyH.nil
      rotate_left 1
      · conv => lhs; simp only [List.getElem?_toArray, List.getElem?_cons_succ, List.getElem?_cons_zero]
      go_simp
      have hw := hHeld.size
      obtain ⟨hc0, hz0⟩ := (HS.out.next hHeld).al
      refine hK.out _ _ (up_trans hHeld (up_alloc _ _)) (fun hHeld => ?_)
      clear hK K
      try simp only [Act.put, List.setIfInBounds_toArray, List.set_cons_zero, List.set_cons_succ]
      refine wpAnyH_ready (rs := [7]) (by kernel_rfl) (by simp) ?_
      refine AllReadyH.cons (o := ?_) ?_ (fun K hK => ?_) AllReadyH.nil
      rotate_left 1
      · conv => lhs; simp only [List.getElem?_toArray, List.getElem?_cons_succ, List.getElem?_cons_zero]
      go_simp
      refine (CJ2.out _ _ hc0 (HS.out.next hHeld) hz0.lt).mono ?_
      rintro e wB ⟨M2, rfl, hch2, hbB⟩
      have H2 := Lib.hid hch2
      have hz := hz0.up hbB hz0.lt
      go_wp2_with fail
      refine hK.out _ _ (up_trans hHeld hbB) (fun hHeld => ?_)
      clear hK K hc0 hz0
      try simp only [Act.put, List.setIfInBounds_toArray, List.set_cons_zero, List.set_cons_succ]
      refine wpAnyH_take (i := 8) (oi := ?_) (v := ?_) ?_ (by kernel_rfl) (by kernel_rfl) (by kernel_rfl) ?_ (Or.inl ⟨?_, ?_⟩) hHeld ?_
      rotate_left 2
      · conv => lhs; simp only [List.getElem?_toArray, List.getElem?_cons_succ, List.getElem?_cons_zero]
      · exact fun _ _ _ h => h
      · rfl
      · intro W hSw
        have hQ := HS.out.next hSw
        have k0 := hQ.gd.gk
        have k1 := hQ.c1 HGO.out
        go_simp
        try with_reducible rfl
      try simp only [Act.put, List.setIfInBounds_toArray, List.set_cons_zero, List.set_cons_succ]
      refine wpAnyH_take (i := 9) (oi := ?_) (v := ?_) ?_ (by kernel_rfl) (by kernel_rfl) (by kernel_rfl) ?_ (Or.inl ⟨?_, ?_⟩) hHeld ?_
      rotate_left 2
      · conv => lhs; simp only [List.getElem?_toArray, List.getElem?_cons_succ, List.getElem?_cons_zero]
      · exact fun _ _ _ h => h
      · rfl
      · intro W hSw
        have hQ := HS.out.next hSw
        have k0 := hQ.gd.gk
        have k1 := hQ.c1 HGO.out
        go_simp
        try with_reducible rfl
      try simp only [Act.put, List.setIfInBounds_toArray, List.set_cons_zero, List.set_cons_succ]
      refine wpAnyH_take (i := 10) (oi := ?_) (v := ?_) ?_ (by kernel_rfl) (by kernel_rfl) (by kernel_rfl) ?_ (Or.inl ⟨?_, ?_⟩) hHeld ?_
      rotate_left 2
      · conv => lhs; simp only [List.getElem?_toArray, List.getElem?_cons_succ, List.getElem?_cons_zero]
      · exact fun _ _ _ h => h
      · rfl
      · intro W hSw
        have hQ := HS.out.next hSw
        have k0 := hQ.gd.gk
        have k1 := hQ.c1 HGO.out
        go_simp
        try with_reducible rfl
      try simp only [Act.put, List.setIfInBounds_toArray, List.set_cons_zero, List.set_cons_succ]
      refine wpAnyH_ready (rs := [12]) (by kernel_rfl) (by simp) ?_
      refine AllReadyH.cons (o := ?_) ?_ (fun K hK => ?_) AllReadyH.nil
      rotate_left 1
      · conv => lhs; simp only [List.getElem?_toArray, List.getElem?_cons_succ, List.getElem?_cons_zero]
      rw [if_pos (by rfl)]
      refine wp_store_row 73 (.tmp 9) (.tmp 38) rfl _ (chC N M2).toArray rfl rfl 73 chZ.toArray hz info_ch rfl (all_one chC_one) ?_
      refine hK.out _ _ (below_setRow hHeld hw _) (fun hHeld => ?_)
      clear hK K
      refine wpAnyH_take (i := 13) (oi := ?_) (v := ?_) ?_ (by kernel_rfl) (by kernel_rfl) (by kernel_rfl) ?_ (Or.inl ⟨?_, ?_⟩) hHeld ?_
      rotate_left 2
      · conv => lhs; simp only [List.getElem?_toArray, List.getElem?_cons_succ, List.getElem?_cons_zero]
      · exact fun _ _ _ h => h
      · rfl
      · intro W hSw
        have hQ := HS.out.next hSw
        have k0 := hQ.gd.gk
        have k1 := hQ.c1 HGO.out
        go_simp
        try with_reducible rfl
      try simp only [Act.put, List.setIfInBounds_toArray, List.set_cons_zero, List.set_cons_succ]
      refine wpAnyH_done (by kernel_rfl) ?_ _
      have HBR := Lib.hid (hz.row (chC N M2))
      have HC := Lib.hid (show ChW _ (notOwn (.slice (some ⟨gp, 0, none⟩) n c)) N M2 from (H2.out.only ((Only.refl (· = _) _).row rfl (chC N M2).toArray) (by rintro i rfl h; exact h.2 rfl)).lo (fun _ h => h.1))
      have HU := Lib.hid hHeld
      have HQ := Lib.hid (HS.out.next hHeld)
      have c1 := HQ.out.c1 HGO.out
      clear hz hw hHeld
      by_cases h0 : x = 0
      · subst h0
        have HTH := HQ.out.own.th k hlt
        clear HS
        go_wp2_with (first | (refine ld_row' (cs := chC N M2) (t := 73) (.tmp 9) rfl rfl Try.underlying73 rfl info_ch rfl ?_ ?_; (· exact HBR.out)) | (refine sm_row (b := gp) (q := k * 11) (cs := chC N M2) (.tmp 47) (.tmp 46) rfl rfl rfl rfl info_ch chC_one ?_ ?_; (· exact HTH)))
        go_ret
        refine ⟨L.set k (N, M2), by rw [HE1.out]; rfl, HQ.out.own.put k hlt (N, M2) HC.out, HL.out M2 HE1.out, (HFW.out.mono (by omega)).set k HFN.out, ?_⟩
        exact (Only.of_below HQ.out.up).trans ((only_cells _ _ _).mono fun i _ e => by subst e; rfl)
      · have hx1 : (x != 0) = true := by simp [bne, h0]
        go_wp2
        go_ret
        exact WtPost.bad HE1.out h0 HOW.out HFW.out HQ.out.up
    · have HE1 : Hid (gdE (L.map Prod.fst) p true g = 12) := Lib.hid HE.out
      clear HE
      go_enter Try.func46, Try.ntmps46
      go_upto_region 1 with fail
      rw [HW.out]
      have c1 := HS.out.c1 HGO.out
      go_wp2_with (go_at_call 27; refine (CT2.out _).mono ?_; rintro e w' ⟨rfl, rfl⟩)
      clear c1
      refine wp_region_held_drew (S := fun W => Below w1.heap.size w1 W) (by kernel_rfl) (up_drewN _ 1) (fun hHeld => ?_)
      refine wpAnyH_take (i := 0) (oi := ?_) (v := ?_) ?_ (by kernel_rfl) (by kernel_rfl) (by kernel_rfl) ?_ (Or.inl ⟨?_, ?_⟩) hHeld ?_
      rotate_left 2
      · conv => lhs; simp only [List.getElem?_toArray, List.getElem?_cons_succ, List.getElem?_cons_zero]
      · exact fun _ _ _ h => h
      · rfl
      · intro W hSw
        have hQ := HS.out.next hSw
        have k0 := hQ.gd.gk
        have k1 := hQ.c1 HGO.out
        go_simp
        try with_reducible rfl
      try simp only [Act.put, List.setIfInBounds_toArray, List.set_cons_zero, List.set_cons_succ]
      refine wpAnyH_take (i := 1) (oi := ?_) (v := ?_) ?_ (by kernel_rfl) (by kernel_rfl) (by kernel_rfl) ?_ (Or.inl ⟨?_, ?_⟩) hHeld ?_
      rotate_left 2
      · conv => lhs; simp only [List.getElem?_toArray, List.getElem?_cons_succ, List.getElem?_cons_zero]
      · exact fun _ _ _ h => h
      · rfl
      · intro W hSw
        have hQ := HS.out.next hSw
        have k0 := hQ.gd.gk
        have k1 := hQ.c1 HGO.out
        go_simp
        try with_reducible rfl
      try simp only [Act.put, List.setIfInBounds_toArray, List.set_cons_zero, List.set_cons_succ]
      refine wpAnyH_take (i := 2) (oi := ?_) (v := ?_) ?_ (by kernel_rfl) (by kernel_rfl) (by kernel_rfl) ?_ (Or.inl ⟨?_, ?_⟩) hHeld ?_
      rotate_left 2
      · conv => lhs; simp only [List.getElem?_toArray, List.getElem?_cons_succ, List.getElem?_cons_zero]
      · exact fun _ _ _ h => h
      · rfl
      · intro W hSw
        have hQ := HS.out.next hSw
        have k0 := hQ.gd.gk
        have k1 := hQ.c1 HGO.out
        go_simp
        try with_reducible rfl
      try simp only [Act.put, List.setIfInBounds_toArray, List.set_cons_zero, List.set_cons_succ]
      refine wpAnyH_take (i := 3) (oi := ?_) (v := ?_) ?_ (by kernel_rfl) (by kernel_rfl) (by kernel_rfl) ?_ (Or.inl ⟨?_, ?_⟩) hHeld ?_
      rotate_left 2
      · conv => lhs; simp only [List.getElem?_toArray, List.getElem?_cons_succ, List.getElem?_cons_zero]
      · exact fun _ _ _ h => h
      · rfl
      · intro W hSw
        have hQ := HS.out.next hSw
        have k0 := hQ.gd.gk
        have k1 := hQ.c1 HGO.out
        go_simp
        try with_reducible rfl
      try simp only [Act.put, List.setIfInBounds_toArray, List.set_cons_zero, List.set_cons_succ]
      refine wpAnyH_take (i := 4) (oi := ?_) (v := ?_) ?_ (by kernel_rfl) (by kernel_rfl) (by kernel_rfl) ?_ (Or.inl ⟨?_, ?_⟩) hHeld ?_
      rotate_left 2
      · conv => lhs; simp only [List.getElem?_toArray, List.getElem?_cons_succ, List.getElem?_cons_zero]
      · exact fun _ _ _ h => h
      · rfl
      · intro W hSw
        have hQ := HS.out.next hSw
        have k0 := hQ.gd.gk
        have k1 := hQ.c1 HGO.out
        go_simp
        try with_reducible rfl
      try simp only [Act.put, List.setIfInBounds_toArray, List.set_cons_zero, List.set_cons_succ]
      refine wpAnyH_take (i := 5) (oi := ?_) (v := ?_) ?_ (by kernel_rfl) (by kernel_rfl) (by kernel_rfl) ?_ (Or.inl ⟨?_, ?_⟩) hHeld ?_
      rotate_left 2
      · conv => lhs; simp only [List.getElem?_toArray, List.getElem?_cons_succ, List.getElem?_cons_zero]
      · exact fun _ _ _ h => h
      · rfl
      · intro W hSw
        have hQ := HS.out.next hSw
        have k0 := hQ.gd.gk
        have k1 := hQ.c1 HGO.out
        go_simp
        try with_reducible rfl
      try simp only [Act.put, List.setIfInBounds_toArray, List.set_cons_zero, List.set_cons_succ]
      refine wpAnyH_take (i := 6) (oi := ?_) (v := (.agg (cellsQ q).toArray)) ?_ (by kernel_rfl) (by kernel_rfl) (by kernel_rfl) ?_ (Or.inl ⟨?_, ?_⟩) hHeld ?_
      rotate_left 1
      · conv => lhs; simp only [List.getElem?_toArray, List.getElem?_cons_succ, List.getElem?_cons_zero]
      · exact fun _ _ _ h => h
      · rfl
      · intro W hSw
        exact take_mid rfl rfl (run_loadVar_mid _ _ _ _ _ _ (HS.out.next hSw).rg Try.underlying73 rfl info_ch)
      try simp only [Act.put, List.setIfInBounds_toArray, List.set_cons_zero, List.set_cons_succ]
      refine wpAnyH_take (i := 7) (oi := ?_) (v := ?_) ?_ (by kernel_rfl) (by kernel_rfl) (by kernel_rfl) ?_ (Or.inl ⟨?_, ?_⟩) hHeld ?_
      rotate_left 2
      · conv => lhs; simp only [List.getElem?_toArray, List.getElem?_cons_succ, List.getElem?_cons_zero]
      · exact fun _ _ _ h => h
      · rfl
      · intro W hSw
        have hQ := HS.out.next hSw
        have k0 := hQ.gd.gk
        have k1 := hQ.c1 HGO.out
        go_simp
        try with_reducible rfl
      try simp only [Act.put, List.setIfInBounds_toArray, List.set_cons_zero, List.set_cons_succ]
      refine wpAnyH_take (i := 8) (oi := ?_) (v := ?_) ?_ (by kernel_rfl) (by kernel_rfl) (by kernel_rfl) ?_ (Or.inl ⟨?_, ?_⟩) hHeld ?_
      rotate_left 2
      · conv => lhs; simp only [List.getElem?_toArray, List.getElem?_cons_succ, List.getElem?_cons_zero]
      · exact fun _ _ _ h => h
      · rfl
      · intro W hSw
        have hQ := HS.out.next hSw
        have k0 := hQ.gd.gk
        have k1 := hQ.c1 HGO.out
        go_simp
        try with_reducible rfl
      try simp only [Act.put, List.setIfInBounds_toArray, List.set_cons_zero, List.set_cons_succ]
      refine wpAnyH_ready (rs := [9]) (by kernel_rfl) (by simp) ?_
      refine AllReadyH.cons (o := ?_) ?_ (fun K hK => ?_) AllReadyH.nil
      rotate_left 1
      · conv => lhs; simp only [List.getElem?_toArray, List.getElem?_cons_succ, List.getElem?_cons_zero]
      go_simp
      refine (CH.out _).mono ?_
      rintro e wA ⟨rfl, hbA⟩
      go_wp2_with fail
      refine hK.out _ _ (up_trans hHeld hbA) (fun hHeld => ?_)
      clear hK K
      try simp only [Act.put, List.setIfInBounds_toArray, List.set_cons_zero, List.set_cons_succ]
      refine wpAnyH_take (i := 10) (oi := ?_) (v := ?_) ?_ (by kernel_rfl) (by kernel_rfl) (by kernel_rfl) ?_ (Or.inl ⟨?_, ?_⟩) hHeld ?_
      rotate_left 2
      · conv => lhs; simp only [List.getElem?_toArray, List.getElem?_cons_succ, List.getElem?_cons_zero]
      · exact fun _ _ _ h => h
      · rfl
      · intro W hSw
        have hQ := HS.out.next hSw
        have k0 := hQ.gd.gk
        have k1 := hQ.c1 HGO.out
        go_simp
        try with_reducible rfl
      try simp only [Act.put, List.setIfInBounds_toArray, List.set_cons_zero, List.set_cons_succ]
      refine wpAnyH_take (i := 11) (oi := ?_) (v := ?_) ?_ (by kernel_rfl) (by kernel_rfl) (by kernel_rfl) ?_ (Or.inl ⟨?_, ?_⟩) hHeld ?_
      rotate_left 2
      · conv => lhs; simp only [List.getElem?_toArray, List.getElem?_cons_succ, List.getElem?_cons_zero]
      · exact fun _ _ _ h => h
      · rfl
      · intro W hSw
        have hQ := HS.out.next hSw
        have k0 := hQ.gd.gk
        have k1 := hQ.c1 HGO.out
        go_simp
        try with_reducible rfl
      try simp only [Act.put, List.setIfInBounds_toArray, List.set_cons_zero, List.set_cons_succ]
      refine wpAnyH_done (by kernel_rfl) ?_ _
      go_wp2
      go_ret
      exact WtPost.bad HE1.out (by decide) HOW.out HFW.out (up_trans HS.out.up hHeld)
end Go.Proofs.Ytnmjjemkaamcfaa

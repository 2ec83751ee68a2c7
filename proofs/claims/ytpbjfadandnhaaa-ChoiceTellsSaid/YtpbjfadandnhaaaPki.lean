/- Package choice's Read: it ranges over what told tells. -/
import Derived.Test.YtpbjfadandnhaaaPke
import Derived.Test.YtpbjfadandnhaaaPkf
import Derived.Test.YtpbjfadandnhaaaNe
import Derived.Maps.AppendAt
namespace Go.Proofs.Ytpbjfadandnhaaa
open Go.RowKit Go.Shelf
attribute [local go_sem] Oper.semAt_some

theorem info_ch : (Try.prog.info? 36).map (fun i => (i.zero, i.size, i.bytes)) = some (some (.agg #[.int .i64 0, .int .i64 0, .int .i64 0]), 3, 24) := by kernel_rfl
/-- Choices in memory, a place, what is wrong. -/
def ReadPost (w : World) (x : List CH × Int × Int) (e : Ending) (w' : World) : Prop :=
  ∃ A c, e = .returned (.tuple #[.slice A x.1.length c, .int .i64 x.2.1, .int .i64 x.2.2]) ∧ x.1.length ≤ c ∧ RD w' (w.heap.size ≤ ·) 3 A x.1.length (x.1.flatMap chC) ∧ Below w.heap.size w w'
theorem ReadPost.bad {w w' : World} (e : Int) (hb : Below w.heap.size w w') : ReadPost w ([], 0, e) (.returned (.tuple #[.slice none 0 0, .int .i64 0, .int .i64 e])) w' :=
  ⟨none, 0, rfl, Nat.le_refl _, RD.nil _ _ _ _, hb⟩
/-- Read's three results, where they lie. -/
structure RdR (w : World) (v : Value) (x y : Int) (W : World) : Prop where
  rv : Blk W w.heap.size [v] 29
  rx : Blk W (w.heap.size + 1) [.int .i64 x] 3
  ry : Blk W (w.heap.size + 1 + 1) [.int .i64 y] 26
  up : Below w.heap.size w W
theorem RdR.own {w : World} {v : Value} {x y : Int} {A B : World} {row : Option Nat} (h : RdR w v x y A) (hg : A.grownBy B row) (hr : ∀ r, row = some r → w.heap.size ≤ r ∧ ∃ o : Obj, A.heap[r]? = some o ∧ o.isCells = false) : RdR w v x y B :=
  ⟨blk_own h.rv hg hr, blk_own h.rx hg hr, blk_own h.ry hg hr, h.up.grown hg h.up.size fun k e => (hr k e).1⟩
theorem RdR.up2 {w : World} {v : Value} {x y : Int} {A B : World} (h : RdR w v x y A) (hb : Below A.heap.size A B) : RdR w v x y B := ⟨h.rv.up hb h.rv.lt, h.rx.up hb h.rx.lt, h.ry.up hb h.ry.lt, h.up.trans (hb.mono h.up.size)⟩
theorem RdR.put {w : World} {v : Value} {x y : Int} {A : World} (h : RdR w v x y A) (v' : Value) (x' y' : Int) : RdR w v' x' y' (((A.setCell ⟨w.heap.size, 0, none⟩ v').setCell ⟨w.heap.size + 1, 0, none⟩ (.int .i64 x')).setCell ⟨w.heap.size + 1 + 1, 0, none⟩ (.int .i64 y')) :=
  ⟨((h.rv.set 0 _).other _ (by simp) _).other _ (by simp; omega) _, ((h.rx.other _ (by simp) _).set 0 _).other _ (by simp) _, ((h.ry.other _ (by simp; omega) _).other _ (by simp) _).set 0 _,
    ((h.up.setCell (p := ⟨w.heap.size, 0, none⟩) (Nat.le_refl _) _).setCell (p := ⟨w.heap.size + 1, 0, none⟩) (by simp) _).setCell (p := ⟨w.heap.size + 1 + 1, 0, none⟩) (by simp; omega) _⟩
theorem RdR.new (w : World) : RdR w (.slice none 0 0) 0 0 (((w.alloc (.cells #[.slice none 0 0] 29)).alloc (.cells #[.int .i64 0] 3)).alloc (.cells #[.int .i64 0] 26)) :=
  ⟨((Blk.new w [.slice none 0 0] _).alloc _).alloc _, (Blk.new' _ [.int .i64 0] _ _ (by simp)).alloc _, Blk.new' _ [.int .i64 0] _ _ (by simp), (((Below.refl _ w).alloc (Nat.le_refl _) _).alloc (by simp) _).alloc (by simp; omega) _⟩

theorem RdR.only {w : World} {v : Value} {x y : Int} {A B : World} {V : Nat} (h : RdR w v x y A) (o : Only (· = V) A B) (hV : w.heap.size + 1 + 1 < V) : RdR w v x y B :=
  ⟨h.rv.only o (by omega), h.rx.only o (by omega), h.ry.only o (by omega), h.up.trans (o.toBelow h.up.size fun k e => by omega)⟩
theorem own_not {W : World} {lo size n b : Nat} {e t : TypeId} {v : Value} {xs cs : List Value} (h : W.ownsRow lo e size v n xs) (hb : Blk W b cs t) (ht : e ≠ t) : ∀ g, v.ownBlock = some g → g ≠ b := by
  intro g hg
  obtain ⟨_, ds, hd⟩ := own_blk h g hg
  exact hd.ne hb ht
/-- What holds between two rounds of Read's loop: all so far may be; the results as they were; the choices so far in the row that l's box (y) holds; the text's box behind it. -/
structure RdI (w : World) (y : Nat) (pre : List (CH × Int)) (W : World) : Prop where
  ok : ∀ p ∈ pre, p.2 = 0
  res : RdR w (.slice none 0 0) 0 0 W
  row : ∃ v, Boxed W y 29 v ∧ W.ownsRow w.heap.size 36 3 v pre.length ((pre.map Prod.fst).flatMap chC)
  var : ∃ u, Blk W (y + 1) [u] 9
theorem RdI.own {w : World} {y : Nat} {pre : List (CH × Int)} {A B : World} {row : Option Nat} (h : RdI w y pre A) (hg : A.grownBy B row) (hr : ∀ r, row = some r → w.heap.size ≤ r ∧ ∃ o : Obj, A.heap[r]? = some o ∧ o.isCells = false) : RdI w y pre B := by
  obtain ⟨h1, h2, h3, u, h4⟩ := h
  refine ⟨h1, h2.own hg hr, ?_, u, blk_own h4 hg hr⟩
  obtain ⟨v, a, b, _⟩ := holdsRow_own (β := Unit) w.heap.size y 29 36 3 (fun _ => pre.length) (fun _ => (pre.map Prod.fst).flatMap chC) (fun _ _ => True) () A B row (by obtain ⟨v, a, b⟩ := h3; exact ⟨v, a, b, trivial⟩) hg (fun r e => (hr r e).2)
  exact ⟨v, a, b⟩
theorem RdI.only {w : World} {y : Nat} {pre : List (CH × Int)} {A B : World} (hy : w.heap.size + 1 + 1 < y) (h : RdI w y pre A) (o : Only (· = y + 1) A B) (hv : ∃ v, Blk B (y + 1) [v] 9) : RdI w y pre B := by
  obtain ⟨h1, h2, ⟨v, a, b⟩, u, h4⟩ := h
  exact ⟨h1, h2.only o (by omega), ⟨v, (o.block y a.lt (by omega)).trans a, own_keep b o fun g hg e => own_not b h4 (by decide) g hg e⟩, hv⟩
theorem RdI.up2 {w : World} {y : Nat} {pre : List (CH × Int)} {A B : World} (h : RdI w y pre A) (hb : Below A.heap.size A B) : RdI w y pre B := by
  obtain ⟨h1, h2, ⟨v, a, b⟩, u, h4⟩ := h
  exact ⟨h1, h2.up2 hb, ⟨v, (hb.block y a.lt).trans a, own_below b hb⟩, u, h4.up hb h4.lt⟩
theorem own_put {w : World} {v v0 : Value} {x y : Int} {A : World} {n : Nat} {xs : List Value} (h : RdR w v0 x y A) (b : A.ownsRow w.heap.size 36 3 v n xs) (v' : Value) (x' y' : Int) : (((A.setCell ⟨w.heap.size, 0, none⟩ v').setCell ⟨w.heap.size + 1, 0, none⟩ (.int .i64 x')).setCell ⟨w.heap.size + 1 + 1, 0, none⟩ (.int .i64 y')).ownsRow w.heap.size 36 3 v n xs :=
  own_keep b (s := fun k => k = w.heap.size ∨ k = w.heap.size + 1 ∨ k = w.heap.size + 1 + 1) ((((Only.refl _ _).setCell (.inl (.inl rfl)) _).setCell (.inl (.inr (.inl rfl))) _).setCell (.inl (.inr (.inr rfl))) _) fun g hg e => by
    rcases e with e | e | e
    · exact own_not b h.rv (by decide) g hg e
    · exact own_not b h.rx (by decide) g hg e
    · exact own_not b h.ry (by decide) g hg e

set_option maxHeartbeats 1000000 in
set_option maxRecDepth 100000 in
theorem c_read_range (l : List UInt8) (at_ : Int) (h : at_ < 0 ∨ (l.length : Int) < at_) (w : World) :
    Calls Try.prog 14 #[.string ⟨l.toArray⟩, .int .i64 at_] w (ReadPost w (chRead l at_)) := by
  have HX : Hid (chRead l at_ = ([], 0, 8)) := Lib.hid (if_pos h)
  have HB := Lib.hid ((((Below.refl _ w).alloc (Nat.le_refl _) (.cells #[.slice none 0 0] 29)).alloc (by simp) (.cells #[.int .i64 0] 3)).alloc (by simp; omega) (.cells #[.int .i64 8] 26))
  have HE : Hid (∀ e w', ReadPost w ([], 0, 8) e w' → ReadPost w (chRead l at_) e w') := Lib.hid fun e w' => by rw [HX.out]; exact id
  by_cases h0 : at_ < 0
  · clear h
    go_enter Try.func14, Try.ntmps14
    go_wp2
    refine bodyPost_ret (v := .tuple #[.slice none 0 0, .int .i64 0, .int .i64 8]) (by simp [results, Try.results14, go_sem]) rfl (HE.out _ _ (.bad 8 HB.out))
  · have h1 : (l.length : Int) < at_ := h.elim (fun h => absurd h h0) id
    clear h
    go_enter Try.func14, Try.ntmps14
    go_wp2
    refine bodyPost_ret (v := .tuple #[.slice none 0 0, .int .i64 0, .int .i64 8]) (by simp [results, Try.results14, go_sem]) rfl (HE.out _ _ (.bad 8 HB.out))

set_option maxHeartbeats 1000000 in
set_option maxRecDepth 100000 in
theorem c_read_short (l : List UInt8) (k : Nat) (hk : k ≤ l.length) (h : (l.drop k).length < 2) (w : World) :
    Calls Try.prog 14 #[.string ⟨l.toArray⟩, .int .i64 k] w (ReadPost w (chRd (l.drop k) k)) := by
  have HX : Hid (chRd (l.drop k) k = ([], 0, 4)) := Lib.hid (by
    generalize l.drop k = t at h
    match t, h with
    | [], _ => rfl
    | [_], _ => rfl)
  have HB := Lib.hid ((((Below.refl _ w).alloc (Nat.le_refl _) (.cells #[.slice none 0 0] 29)).alloc (by simp) (.cells #[.int .i64 0] 3)).alloc (by simp; omega) (.cells #[.int .i64 4] 26))
  have HD := Lib.hid (ex_drop l k)
  have HE : Hid (∀ e w', ReadPost w ([], 0, 4) e w' → ReadPost w (chRd (l.drop k) k) e w') := Lib.hid fun e w' => by rw [HX.out]; exact id
  have h0 : ¬ (k : Int) < 0 := by omega
  have h1 : (k : Int) ≤ l.length := by omega
  have h2 : ((l.drop k).length : Int) < 2 := by omega
  generalize l.drop k = t at *
  go_enter Try.func14, Try.ntmps14
  go_upto_region 4 with fail
  rw [HD.out]
  go_wp2
  all_goals first | (exfalso; omega) | skip
  refine bodyPost_ret (v := .tuple #[.slice none 0 0, .int .i64 0, .int .i64 4]) (by simp [results, Try.results14, go_sem]) rfl (HE.out _ _ (.bad 4 HB.out))

set_option maxHeartbeats 2000000 in
set_option maxRecDepth 100000 in
theorem read_in (l : List UInt8) (hl : l.length ≤ 1000000) (k : Nat) (hk : k ≤ l.length) (a b : UInt8) (r : List UInt8) (h : l.drop k = a :: b :: r) (w : World) :
    CallsIn Fence.wide 5 Try.prog 14 #[.string ⟨l.toArray⟩, .int .i64 k] w (ReadPost w (chRd (a :: b :: r) k)) := by
  have hrl : r.length + 2 ≤ 1000000 := by
    have := congrArg List.length h
    rw [List.length_drop] at this
    simp at this
    omega
  have HD := Lib.hid (ex_drop l k)
  rw [h] at HD
  have h0 : ¬ (k : Int) < 0 := by omega
  have h1 : (k : Int) ≤ l.length := by omega
  have i0 : (0 : Int) < (r.length : Int) + 1 + 1 := by omega
  have i1 : (1 : Int) < (r.length : Int) + 1 + 1 := by omega
  have HN := Lib.hid (RdR.new w)
  clear h
  refine callsIn_of_wp_marks Try.func14 rfl trivial ?_ rfl
  simp only [Try.ntmps14, List.size_toArray, List.length_cons, List.length_nil, Nat.reduceAdd, Nat.reduceSub, Array.replicate_succ, Array.replicate_zero, List.push_toArray, List.append_toArray, List.nil_append, List.cons_append]
  refine wpIn_wide.2 ?_
  go_upto_region 4 with fail
  rw [HD.out]
  go_upto_region 6 with fail
  have CW := Lib.hid (fun W => c_whole a b W)
  have ha := a.toNat_lt
  have hb := b.toNat_lt
  have HM : Hid (256 * (a.toNat : Int) + b.toNat = ((256 * a.toNat + b.toNat : Nat) : Int)) := Lib.hid (by omega)
  have hmm : 256 * a.toNat + b.toNat < 65536 := by omega
  have HX : Hid (chRd (a :: b :: r) k = if 2000 < 256 * (a.toNat : Int) + b.toNat then ([], 0, 5) else
    if chErr (chTold (256 * a.toNat + b.toNat) r) = 0 then ((chTold (256 * a.toNat + b.toNat) r).map Prod.fst, (k : Int) + 2 + 3 * (256 * (a.toNat : Int) + b.toNat), 0) else ([], 0, chErr (chTold (256 * a.toNat + b.toNat) r))) := Lib.hid rfl
  rw [HM.out] at CW HX
  generalize chRd (a :: b :: r) k = X at *
  generalize 256 * a.toNat + b.toNat = m at *
  clear ha hb HM HD
  go_cut [7] from 8 to 51 (fun s7 wx => s7 = .int .i64 (m : Int) ∧ RdR w (.slice none 0 0) 0 0 wx)
  case first =>
    go_quiet ((go_at_call 26; exact quiet_left (CW.out _)))
    go_wp2
    go_meet
    exact ⟨rfl, HN.out.up2 (up_drewN _ _)⟩
  case rest =>
    obtain ⟨rfl, hR⟩ := hcut
    have e0 := hR.rv.cell 0 _ rfl
    have e1 := hR.rx.cell 0 _ rfl
    have e2 := hR.ry.cell 0 _ rfl
    have f0 := hR.rv.free 0
    have f1 := hR.rx.free 0
    have f2 := hR.ry.free 0
    by_cases hm : 2000 < m
    · have hm' : (2000 : Int) < m := by omega
      have HXX : Hid (X = ([], 0, 5)) := Lib.hid (by rw [HX.out, if_pos hm'])
      have HR2 := Lib.hid (hR.put (.slice none 0 0) 0 5)
      clear hR HX
      go_wp2
      have q0 := HR2.out.rv.cell 0 _ rfl
      have q1 := HR2.out.rx.cell 0 _ rfl
      have q2 := HR2.out.ry.cell 0 _ rfl
      refine ⟨.tuple #[.slice none 0 0, .int .i64 0, .int .i64 5], by simp [results, Try.results14, go_sem, q0, q1, q2], ?_⟩
      rw [HXX.out]
      exact .bad 5 HR2.out.up
    · have hm' : (m : Int) ≤ 2000 := by omega
      rw [if_neg (by omega)] at HX
      have HD2 : Hid ((⟨(a :: b :: r).toArray⟩ : ByteArray).extract 2 (r.length + 1 + 1) = ⟨r.toArray⟩) := Lib.hid (ex_drop (a :: b :: r) 2)
      have HRR := Lib.hid hR
      clear hR
      go_wp2_with (go_at_call 27; refine (c_told _ _ _).mono ?_; rintro e w' ⟨rfl, rfl⟩)
      rw [HD2.out]
      have hsz := HRR.out.ry.lt
      have hU1 := up_trans (up_trans (up_alloc wc (.cells #[.slice none 0 0] 29)) (up_alloc _ (.cells #[.string ⟨r.toArray⟩] 9))) (up_alloc _ (.cells #[.int .i64 (m : Int)] 3))
      have hbl := ((Blk.new wc [.slice none 0 0] 29).alloc (.cells #[.string ⟨r.toArray⟩] 9)).alloc (.cells #[.int .i64 (m : Int)] 3)
      have hbs := (Blk.new' (wc.alloc (.cells #[.slice none 0 0] 29)) [.string ⟨r.toArray⟩] 9 (wc.heap.size + 1) (by simp)).alloc (.cells #[.int .i64 (m : Int)] 3)
      have hbm := Blk.new' ((wc.alloc (.cells #[.slice none 0 0] 29)).alloc (.cells #[.string ⟨r.toArray⟩] 9)) [.int .i64 (m : Int)] 3 (wc.heap.size + 1 + 1) (by simp)
      have hseq := Lib.hid (told_seq 4 (wc.heap.size + 1 + 1) (wc.heap.size + 1) r (by omega) m (by omega) _ (hbm.cell 0 _ rfl) hbs hbm.lt)
      have hI0 : RdI w wc.heap.size [] _ := ⟨by simp, HRR.out.up2 hU1, ⟨_, hbl, World.ownsRow_nil _ _ _ _⟩, _, hbs⟩
      have HI0 := Lib.hid hI0
      have HS0 := Lib.hid hU1.size
      have HV := Lib.hid hbs.lt
      have hwy : w.heap.size ≤ wc.heap.size := HRR.out.up.size
      have hTl := told_len m r
      clear hU1 hbl hbs hbm hI0
      generalize hT : chTold m r = T at *
      generalize hw0 : ((wc.alloc (.cells #[.slice none 0 0] 29)).alloc (.cells #[.string ⟨r.toArray⟩] 9)).alloc (.cells #[.int .i64 (m : Int)] 3) = w0 at *
      obtain ⟨i0, hi, hz0, hz1, hz2⟩ := info_parts info_ch
      refine (wpIn_wide (n := 5)).1 ?_
      refine range_var (n := 5) HV.out (by omega) (gf := 31) (lb := #[.pointer (some ⟨wc.heap.size + 1 + 1, 0, none⟩), .pointer (some ⟨wc.heap.size + 1, 0, none⟩)]) rfl (enters_of Try.func31 (by kernel_rfl) rfl)
        hseq.out (fun _ => rfl) (RdI w wc.heap.size)
        (fun x pre W => x = .ret ∧ ∃ (q : List (CH × Int)) (y : CH) (z : Int), pre = q ++ [(y, z)] ∧ (∀ p ∈ q, p.2 = 0) ∧ z ≠ 0 ∧ RdR w (.slice none 0 0) 0 z W)
        (fun s A B row hs hg hr => hs.own hg fun r e => ⟨by have := (hr r e).1; have := HS0.out; omega, (hr r e).2⟩)
        (fun s A B hs ho hv => hs.only (by omega) ho hv)
        (fun x s A B row hs hg hr => by
          obtain ⟨e, q, y, z, h1, h2, h3, h4⟩ := hs
          exact ⟨e, q, y, z, h1, h2, h3, h4.own hg fun r e => ⟨by have := (hr r e).1; have := HS0.out; omega, (hr r e).2⟩⟩)
        HI0.out
        (fun x a' W => ∃ Bx, w.heap.size ≤ Bx ∧ Blk W Bx [.int .i64 x.1.k, .int .i64 x.1.v, .int .i64 x.1.w] 36 ∧ a' = { tmps := #[.string ⟨(a :: b :: r).toArray⟩, .int .i64 (k : Int), undef, undef, .pointer (some ⟨w.heap.size, 0, none⟩), .pointer (some ⟨w.heap.size + 1, 0, none⟩), .pointer (some ⟨w.heap.size + 1 + 1, 0, none⟩), .int .i64 (m : Int), .pointer (some ⟨wc.heap.size, 0, none⟩), .pointer (some ⟨Bx, 0, none⟩), .int .i64 x.2, u11, u12, u13, u14, u15, u16, u17, u18, u19, u20, u21, u22, u23, u24, u25, u26, u27, u28, u29, .int .i64 (m : Int), .bool (decide (2000 < (m : Int))), .string ⟨(a :: b :: r).toArray⟩, .string ⟨r.toArray⟩, .int .i64 (m : Int), .func (.func 31) #[] #[.pointer (some ⟨wc.heap.size + 1 + 1, 0, none⟩), .pointer (some ⟨wc.heap.size + 1, 0, none⟩)], .agg #[.int .i64 x.1.k, .int .i64 x.1.v, .int .i64 x.1.w], .int .i64 x.2, u38, u39, u40, u41, u42, u43, u44, u45, u46, u47, u48, u49, u50], defers := [] })
        (fun x a' _ X Y row hs hg hr => by obtain ⟨Bx, e1, e2, e3⟩ := hs; exact ⟨Bx, e1, blk_own e2 hg hr, e3⟩)
        ?assign ?body ?done ?stop
      case assign =>
        rintro l pre x W K hI hK
        gi_wp2
        exact hK _ _ ((KeepsOthers.alloc _ _).from _) ((up_alloc W _).block _ (hI.var.elim fun u h => h.lt)) (hI.up2 (up_alloc _ _)) ⟨W.heap.size, hI.res.up.size, Blk.new W [.int .i64 x.1.k, .int .i64 x.1.v, .int .i64 x.1.w] 36, rfl⟩
      case body =>
        rintro l pre ⟨x, z⟩ a' W hI ⟨Bx, hBx, bX, rfl⟩ hlt
        obtain ⟨hok, hres, ⟨v, hv, hrow⟩, u, hvar⟩ := hI
        have HRES := Lib.hid hres
        have HOK := Lib.hid hok
        have HVAR := Lib.hid hvar
        by_cases hz : z = 0
        · subst hz
          have hc := hv.cell
          have x0 := bX.cell 0 _ rfl
          have x1 := bX.cell 1 _ rfl
          have x2 := bX.cell 2 _ rfl
          have hwW : w.heap.size ≤ W.heap.size := HRES.out.up.size
          have hpl : pre.length ≤ 2000 := by omega
          clear bX hok hres hvar e0 e1 e2 f0 f1 f2
          gi_wp2_with (gi_at_builtin; refine wpListIn_append_own _ rfl _ _ 29 rfl w.heap.size 36 i0 (.agg #[.int .i64 0, .int .i64 0, .int .i64 0]) 3 24 Try.underlying29 hi hz0 hz1 hz2 rfl (by decide) _ _ _ rfl (hrow.alloc _) ⟨W.heap.size, 0, none⟩ 1 1 [.int .i64 x.k, .int .i64 x.v, .int .i64 x.w] rfl rfl (fun j u hu => by rw [add_off, Nat.zero_add]; exact (Blk.new W [.int .i64 x.k, .int .i64 x.v, .int .i64 x.w] 36).cell j u hu) (fun u hu => chC_one x u hu) (by unfold maxLen; omega) (by omega) (by simp; omega) ?_; intro v' w1 hown' hgrow _; obtain ⟨g', cap', rfl⟩ := ownsRow_succ hown'; obtain ⟨hv1, hv2, hr2, hk2, hb2⟩ := hv.appended (by decide) hrow hwW hwy hown' hgrow; have hc1 := hv1.cell; have hf1 := hv1.frozen)
          have keep : ∀ {c : Nat} {cs : List Value} {t : TypeId}, Blk W c cs t → 36 ≠ t → c ≠ wc.heap.size → Blk (w1.setCell ⟨wc.heap.size, 0, none⟩ (.slice (some ⟨g', 0, none⟩) (pre.length + 1) cap')) c cs t := fun hb ht hc =>
            ((hb.alloc _).grown hgrow (fun e => own_not hrow hb ht _ e.symm rfl)).other ⟨wc.heap.size, 0, none⟩ hc _
          have hvk := keep HVAR.out (by decide) (by omega)
          have hR := HRES.out
          refine ⟨hk2.from _, Eq.trans hvk (Eq.symm HVAR.out), ?_, ⟨keep hR.rv (by decide) (by omega), keep hR.rx (by decide) (by omega), keep hR.ry (by decide) (by omega), hR.up.trans hb2⟩, ⟨_, hv2, ?_⟩, _, hvk⟩
          · intro p hp
            rcases List.mem_append.1 hp with hp | hp
            · exact HOK.out p hp
            · simp only [List.mem_singleton] at hp
              subst hp
              rfl
          · rw [List.length_append, List.map_append, List.map_cons, List.map_nil, ch_flat1]
            exact hr2
        · have hzn : (z != 0) = true := by simp [hz]
          have e0 := hres.rv.cell 0 _ rfl
          have e1 := hres.rx.cell 0 _ rfl
          have e2 := hres.ry.cell 0 _ rfl
          have f0 := hres.rv.free 0
          have f1 := hres.rx.free 0
          have f2 := hres.ry.free 0
          have HP := Lib.hid (hres.put (.slice none 0 0) 0 z)
          have HZ := Lib.hid hz
          clear bX hok hres hvar hv hrow hz
          gi_wp2
          exact ⟨(((KeepsOthers.setCell _ _ _).trans (KeepsOthers.setCell _ _ _)).trans (KeepsOthers.setCell _ _ _)).from _, rfl, pre, x, z, rfl, HOK.out, HZ.out, HP.out⟩
      case done =>
        rintro D W hD hI hK
        obtain ⟨hok, hres, ⟨v, hv, hrow⟩, u, hvar⟩ := hI
        obtain ⟨A, c, rfl, hc1, hc2, hrd⟩ := own_slice hrow
        rw [err_none T hok, if_pos rfl] at HX
        have e0 := hres.rv.cell 0 _ rfl
        have e1 := hres.rx.cell 0 _ rfl
        have e2 := hres.ry.cell 0 _ rfl
        have f0 := hres.rv.free 0
        have f1 := hres.rx.free 0
        have f2 := hres.ry.free 0
        have hcl := hv.cell
        have HP := Lib.hid (hres.put (.slice A T.length c) ((k : Int) + 2 + (m : Int) * 3) 0)
        have HO := Lib.hid (own_put hres hrow (.slice A T.length c) ((k : Int) + 2 + (m : Int) * 3) 0)
        have HK := Lib.hid ((((KeepsOthers.setCell W ⟨w.heap.size, 0, none⟩ (.slice A T.length c)).trans (KeepsOthers.setCell _ ⟨w.heap.size + 1, 0, none⟩ (.int .i64 ((k : Int) + 2 + (m : Int) * 3)))).trans (KeepsOthers.setCell _ ⟨w.heap.size + 1 + 1, 0, none⟩ (.int .i64 0))).same D _ hK rfl)
        have hDw : w.heap.size ≤ D := by have := HS0.out; omega
        clear hres hok hvar hv hrow hK hD hrd
        gi_wp2
        go_wp2
        have hA3 := HP.out.own (grownBy_putObj' _ D (.deferred none)) (fun r e => by cases e; exact ⟨hDw, _, HK.out, rfl⟩)
        have hO3 := ownsRow_putObj HO.out (.deferred none) HK.out rfl
        have q0 := hA3.rv.cell 0 _ rfl
        have q1 := hA3.rx.cell 0 _ rfl
        have q2 := hA3.ry.cell 0 _ rfl
        refine ⟨by simp, .inl ⟨_, _, rfl, run_takeDeferred HK.out, ?_⟩⟩
        refine ⟨.tuple #[.slice A T.length c, .int .i64 ((k : Int) + 2 + (m : Int) * 3), .int .i64 0], ?_, ?_⟩
        · simp [results, Try.results14, go_sem, q0, q1, q2]
        · rw [HX.out]
          refine ⟨A, c, by rw [List.length_map, Int.mul_comm 3], by rw [List.length_map]; exact hc1, ?_, hA3.up⟩
          rw [List.length_map]
          exact RD.of_own hO3
      case stop =>
        rintro D x pre W hD hpre ⟨rfl, q, y, z, rfl, hq, hz, hA⟩ hK
        obtain ⟨s, hs⟩ := hpre
        have hez : chErr T = z := by
          rw [← hs, List.append_assoc]
          exact err_stop q (y, z) s hq hz
        rw [hez, if_neg hz] at HX
        have hA3 := hA.own (grownBy_putObj' _ D (.deferred none)) (fun r e => by cases e; exact ⟨by have := HS0.out; omega, _, hK, rfl⟩)
        have q0 := hA3.rv.cell 0 _ rfl
        have q1 := hA3.rx.cell 0 _ rfl
        have q2 := hA3.ry.cell 0 _ rfl
        gi_wp2
        refine ⟨by simp, .inl ⟨_, _, rfl, run_takeDeferred hK, ?_⟩⟩
        refine ⟨.tuple #[.slice none 0 0, .int .i64 0, .int .i64 z], ?_, ?_⟩
        · simp [results, Try.results14, go_sem, q0, q1, q2]
        · rw [HX.out]
          exact .bad z hA3.up
theorem c_read (l : List UInt8) (hl : l.length ≤ 1000000) (at_ : Int) (w : World) :
    Calls Try.prog 14 #[.string ⟨l.toArray⟩, .int .i64 at_] w (ReadPost w (chRead l at_)) := by
  by_cases h : at_ < 0 ∨ (l.length : Int) < at_
  · exact c_read_range l at_ h w
  · obtain ⟨k, rfl⟩ : ∃ k : Nat, at_ = k := ⟨at_.toNat, by omega⟩
    have e : chRead l k = chRd (l.drop k) k := by
      unfold chRead
      rw [if_neg h, Int.toNat_natCast]
    rw [e]
    by_cases h2 : (l.drop k).length < 2
    · exact c_read_short l k (by omega) h2 w
    · match hd : l.drop k, h2 with
      | [], h2 => exact absurd (by simp) h2
      | [_], h2 => exact absurd (by simp) h2
      | a :: b :: r, _ => exact callsIn_wide.1 (read_in l hl k (by omega) a b r hd w)
end Go.Proofs.Ytpbjfadandnhaaa

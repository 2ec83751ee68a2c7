/- The law ChantabOne. -/
import Derived.Test.YtnmjjemkaamcfaaYo
import Derived.Test.YtnmjjemkaamcfaaYk
namespace Go.Proofs.Ytnmjjemkaamcfaa
open Go.RowKit

/-- What Offer answers, by letters. -/
def OfP (w : World) (A : Option Addr) (n c : Nat) (L : List CQ) (b : Nat) (no : Nat) (er : Int) (e : Ending) (w' : World) : Prop :=
  ∃ A' c' L', e = .returned (.tuple #[.slice A' n c', .int .i64 (no : Int), .int .i64 er]) ∧ TbW w' tt A' n c' L' ∧ (er ≠ 0 → A' = A ∧ c' = c ∧ L' = L) ∧ fewL b L' ∧ Below w.heap.size w w'
theorem OfPost.get {w w' : World} {A : Option Addr} {n c : Nat} {L : List CQ} {b : Nat} {r : List CP × Nat × Int} {e : Ending} {U : List CP} {no : Nat} {er : Int} (h : OfPost w A n c L b r e w') (hr : r = (U, no, er)) : OfP w A n c L b no er e w' := by
  obtain ⟨A', c', L', rfl, hT, _, hm, hf, hb⟩ := h
  subst hr
  exact ⟨A', c', L', rfl, hT, hm, hf, hb⟩
/-- The law's boxes. -/
structure OnB (w : World) (cs : List Value) (a0 a1 : Int) (W : World) : Prop where
  up : Below w.heap.size w W
  o : Blk W w.heap.size cs 64
  a : Blk W (w.heap.size + 1) [.int .i8 a0, .int .i8 a1] 66
theorem OnB.next {w : World} {cs : List Value} {a0 a1 : Int} {W W' : World} (h : OnB w cs a0 a1 W) (hb : Below W.heap.size W W') : OnB w cs a0 a1 W' := ⟨up_trans h.up hb, h.o.up hb h.o.lt, h.a.up hb h.a.lt⟩
theorem onb (w : World) (x y z : Value) (a0 a1 : Int) : OnB w [x, y, z] a0 a1 ((w.alloc (.cells #[x, y, z] 64)).alloc (.cells #[.int .i8 a0, .int .i8 a1] 66)) := by
  have h2 := Blk.new (w.alloc (.cells #[x, y, z] 64)) [.int .i8 a0, .int .i8 a1] 66
  rw [show (w.alloc (.cells #[x, y, z] 64)).heap.size = w.heap.size + 1 by simp] at h2
  exact ⟨two_up _ _ _, (Blk.new w [x, y, z] 64).alloc _, h2⟩
set_option maxRecDepth 100000 in
theorem info_at : (Try.prog.info? 38).map (·.size) = some 2 := by kernel_rfl
theorem two_one {x y : Int} : ∀ v ∈ [Value.int .i64 x, Value.int .i64 y], v.oneCell' = true := by
  intro v hv
  simp only [List.mem_cons, List.not_mem_nil, or_false] at hv
  rcases hv with rfl | rfl <;> rfl
theorem any_next {α : Type} (L : List α) (f : α → Bool) (k : Nat) (h : k < L.length) : (L.take (k + 1)).any f = ((L.take k).any f || f L[k]) := by
  rw [ln_take_snoc L k h, List.any_append]
  simp

set_option maxRecDepth 100000 in
set_option maxHeartbeats 16000000 in
theorem l_tone {A gA : Option Addr} {n c gm gd : Nat} {L : List CQ} {gs : List GD} {al : Bool} (w : World) (h : TbW w tt A n c L) (hl : gs.length = gm) (hR : RD w (fun _ => True) 5 gA gm (gs.flatMap gdC)) (p a0 a1 : Int) (ha0 : -128 ≤ a0 ∧ a0 ≤ 127) (ha1 : -128 ≤ a1 ∧ a1 ≤ 127) :
    Calls Try.prog 5 #[.slice A n c, .agg #[.int .i64 p, .slice gA gm gd, .bool al], .agg #[.int .i8 a0, .int .i8 a1]] w fun e w' => e = .returned (.bool true) ∧ Below w.heap.size w w' := by
  have hX := onb w (.int .i64 p) (.slice gA gm gd) (.bool al) a0 a1
  generalize hw1 : (w.alloc (.cells #[.int .i64 p, .slice gA gm gd, .bool al] 64)).alloc (.cells #[.int .i8 a0, .int .i8 a1] 66) = w1 at hX
  have HW := Lib.hid hw1
  have HX := Lib.hid hX
  have CS := Lib.hid (fun W (hW : Below w.heap.size w W) => c_tsmall (h.below hW))
  obtain ⟨qs, hqs⟩ : ∃ q, smallT L = q := ⟨_, rfl⟩
  rw [hqs] at CS
  clear hw1 hX
  cases qs
  · clear h hqs hR hl
    go_enter Try.func5, Try.ntmps5
    go_upto_region 1 with fail
    rw [HW.out]
    refine wp_region_held_drew (S := OnB w [.int .i64 p, .slice gA gm gd, .bool al] a0 a1) (by kernel_rfl) (HX.out.next (up_drewN _ 1)) (fun hHeld => ?_)
    refine wpAnyH_take (i := 0) (oi := ?_) (v := ?_) ?_ (by kernel_rfl) (by kernel_rfl) (by kernel_rfl) ?_ (Or.inl ⟨?_, ?_⟩) hHeld ?_
    rotate_left 2
    · conv => lhs; simp only [List.getElem?_toArray, List.getElem?_cons_succ, List.getElem?_cons_zero]
    · exact fun _ _ _ h => h
    · rfl
    · intro W hSw
      have k0 := hSw.o.cell 0 _ rfl
      have k1 := hSw.o.cell 1 _ rfl
      go_simp
      try with_reducible rfl
    try simp only [Act.put, List.setIfInBounds_toArray, List.set_cons_zero, List.set_cons_succ]
    refine wpAnyH_take (i := 1) (oi := ?_) (v := ?_) ?_ (by kernel_rfl) (by kernel_rfl) (by kernel_rfl) ?_ (Or.inl ⟨?_, ?_⟩) hHeld ?_
    rotate_left 2
    · conv => lhs; simp only [List.getElem?_toArray, List.getElem?_cons_succ, List.getElem?_cons_zero]
    · exact fun _ _ _ h => h
    · rfl
    · intro W hSw
      have k0 := hSw.o.cell 0 _ rfl
      have k1 := hSw.o.cell 1 _ rfl
      go_simp
      try with_reducible rfl
    try simp only [Act.put, List.setIfInBounds_toArray, List.set_cons_zero, List.set_cons_succ]
    refine wpAnyH_take (i := 2) (oi := ?_) (v := ?_) ?_ (by kernel_rfl) (by kernel_rfl) (by kernel_rfl) ?_ (Or.inl ⟨?_, ?_⟩) hHeld ?_
    rotate_left 2
    · conv => lhs; simp only [List.getElem?_toArray, List.getElem?_cons_succ, List.getElem?_cons_zero]
    · exact fun _ _ _ h => h
    · rfl
    · intro W hSw
      have k0 := hSw.o.cell 0 _ rfl
      have k1 := hSw.o.cell 1 _ rfl
      go_simp
      try with_reducible rfl
    try simp only [Act.put, List.setIfInBounds_toArray, List.set_cons_zero, List.set_cons_succ]
    refine wpAnyH_take (i := 3) (oi := ?_) (v := ?_) ?_ (by kernel_rfl) (by kernel_rfl) (by kernel_rfl) ?_ (Or.inl ⟨?_, ?_⟩) hHeld ?_
    rotate_left 2
    · conv => lhs; simp only [List.getElem?_toArray, List.getElem?_cons_succ, List.getElem?_cons_zero]
    · exact fun _ _ _ h => h
    · rfl
    · intro W hSw
      have k0 := hSw.o.cell 0 _ rfl
      have k1 := hSw.o.cell 1 _ rfl
      go_simp
      try with_reducible rfl
    try simp only [Act.put, List.setIfInBounds_toArray, List.set_cons_zero, List.set_cons_succ]
    refine wpAnyH_take (i := 4) (oi := ?_) (v := ?_) ?_ (by kernel_rfl) (by kernel_rfl) (by kernel_rfl) ?_ (Or.inl ⟨?_, ?_⟩) hHeld ?_
    rotate_left 2
    · conv => lhs; simp only [List.getElem?_toArray, List.getElem?_cons_succ, List.getElem?_cons_zero]
    · exact fun _ _ _ h => h
    · rfl
    · intro W hSw
      have k0 := hSw.o.cell 0 _ rfl
      have k1 := hSw.o.cell 1 _ rfl
      go_simp
      try with_reducible rfl
    try simp only [Act.put, List.setIfInBounds_toArray, List.set_cons_zero, List.set_cons_succ]
    refine wpAnyH_take (i := 5) (oi := ?_) (v := ?_) ?_ (by kernel_rfl) (by kernel_rfl) (by kernel_rfl) ?_ (Or.inl ⟨?_, ?_⟩) hHeld ?_
    rotate_left 2
    · conv => lhs; simp only [List.getElem?_toArray, List.getElem?_cons_succ, List.getElem?_cons_zero]
    · exact fun _ _ _ h => h
    · rfl
    · intro W hSw
      have k0 := hSw.o.cell 0 _ rfl
      have k1 := hSw.o.cell 1 _ rfl
      go_simp
      try with_reducible rfl
    try simp only [Act.put, List.setIfInBounds_toArray, List.set_cons_zero, List.set_cons_succ]
    refine wpAnyH_done (by kernel_rfl) ?_ _
    go_wp2_with (go_at_call 6; refine (CS.out _ hHeld.up).mono ?_; rintro e w2 ⟨rfl, hb2⟩; have HU := Lib.hid (up_trans hHeld.up hb2); clear hb2)
    refine (c_talive _).mono ?_; rintro e w3 ⟨rfl, hb3⟩
    go_wp2
    go_ret
    exact ⟨rfl, up_trans HU.out hb3⟩
  by_cases h8 : (8 : Int) < gm
  · clear h hqs hR hl
    go_enter Try.func5, Try.ntmps5
    go_upto_region 1 with fail
    rw [HW.out]
    refine wp_region_held_drew (S := OnB w [.int .i64 p, .slice gA gm gd, .bool al] a0 a1) (by kernel_rfl) (HX.out.next (up_drewN _ 1)) (fun hHeld => ?_)
    refine wpAnyH_take (i := 0) (oi := ?_) (v := ?_) ?_ (by kernel_rfl) (by kernel_rfl) (by kernel_rfl) ?_ (Or.inl ⟨?_, ?_⟩) hHeld ?_
    rotate_left 2
    · conv => lhs; simp only [List.getElem?_toArray, List.getElem?_cons_succ, List.getElem?_cons_zero]
    · exact fun _ _ _ h => h
    · rfl
    · intro W hSw
      have k0 := hSw.o.cell 0 _ rfl
      have k1 := hSw.o.cell 1 _ rfl
      go_simp
      try with_reducible rfl
    try simp only [Act.put, List.setIfInBounds_toArray, List.set_cons_zero, List.set_cons_succ]
    refine wpAnyH_take (i := 1) (oi := ?_) (v := ?_) ?_ (by kernel_rfl) (by kernel_rfl) (by kernel_rfl) ?_ (Or.inl ⟨?_, ?_⟩) hHeld ?_
    rotate_left 2
    · conv => lhs; simp only [List.getElem?_toArray, List.getElem?_cons_succ, List.getElem?_cons_zero]
    · exact fun _ _ _ h => h
    · rfl
    · intro W hSw
      have k0 := hSw.o.cell 0 _ rfl
      have k1 := hSw.o.cell 1 _ rfl
      go_simp
      try with_reducible rfl
    try simp only [Act.put, List.setIfInBounds_toArray, List.set_cons_zero, List.set_cons_succ]
    refine wpAnyH_take (i := 2) (oi := ?_) (v := ?_) ?_ (by kernel_rfl) (by kernel_rfl) (by kernel_rfl) ?_ (Or.inl ⟨?_, ?_⟩) hHeld ?_
    rotate_left 2
    · conv => lhs; simp only [List.getElem?_toArray, List.getElem?_cons_succ, List.getElem?_cons_zero]
    · exact fun _ _ _ h => h
    · rfl
    · intro W hSw
      have k0 := hSw.o.cell 0 _ rfl
      have k1 := hSw.o.cell 1 _ rfl
      go_simp
      try with_reducible rfl
    try simp only [Act.put, List.setIfInBounds_toArray, List.set_cons_zero, List.set_cons_succ]
    refine wpAnyH_take (i := 3) (oi := ?_) (v := ?_) ?_ (by kernel_rfl) (by kernel_rfl) (by kernel_rfl) ?_ (Or.inl ⟨?_, ?_⟩) hHeld ?_
    rotate_left 2
    · conv => lhs; simp only [List.getElem?_toArray, List.getElem?_cons_succ, List.getElem?_cons_zero]
    · exact fun _ _ _ h => h
    · rfl
    · intro W hSw
      have k0 := hSw.o.cell 0 _ rfl
      have k1 := hSw.o.cell 1 _ rfl
      go_simp
      try with_reducible rfl
    try simp only [Act.put, List.setIfInBounds_toArray, List.set_cons_zero, List.set_cons_succ]
    refine wpAnyH_take (i := 4) (oi := ?_) (v := ?_) ?_ (by kernel_rfl) (by kernel_rfl) (by kernel_rfl) ?_ (Or.inl ⟨?_, ?_⟩) hHeld ?_
    rotate_left 2
    · conv => lhs; simp only [List.getElem?_toArray, List.getElem?_cons_succ, List.getElem?_cons_zero]
    · exact fun _ _ _ h => h
    · rfl
    · intro W hSw
      have k0 := hSw.o.cell 0 _ rfl
      have k1 := hSw.o.cell 1 _ rfl
      go_simp
      try with_reducible rfl
    try simp only [Act.put, List.setIfInBounds_toArray, List.set_cons_zero, List.set_cons_succ]
    refine wpAnyH_take (i := 5) (oi := ?_) (v := ?_) ?_ (by kernel_rfl) (by kernel_rfl) (by kernel_rfl) ?_ (Or.inl ⟨?_, ?_⟩) hHeld ?_
    rotate_left 2
    · conv => lhs; simp only [List.getElem?_toArray, List.getElem?_cons_succ, List.getElem?_cons_zero]
    · exact fun _ _ _ h => h
    · rfl
    · intro W hSw
      have k0 := hSw.o.cell 0 _ rfl
      have k1 := hSw.o.cell 1 _ rfl
      go_simp
      try with_reducible rfl
    try simp only [Act.put, List.setIfInBounds_toArray, List.set_cons_zero, List.set_cons_succ]
    refine wpAnyH_done (by kernel_rfl) ?_ _
    go_wp2_with (go_at_call 6; refine (CS.out _ hHeld.up).mono ?_; rintro e w2 ⟨rfl, hb2⟩; have HU := Lib.hid (up_trans hHeld.up hb2); clear hb2)
    refine (c_talive _).mono ?_; rintro e w3 ⟨rfl, hb3⟩
    go_wp2
    go_ret
    exact ⟨rfl, up_trans HU.out hb3⟩
  obtain ⟨hn10, hfew⟩ := smallT_few h hqs
  have hf1 : fewL 1000 L := hfew.mono (by omega)
  obtain ⟨Cs, hCs⟩ : ∃ Cs, L.map Prod.fst = Cs := ⟨_, rfl⟩
  obtain ⟨⟨Ux, no, er⟩, hr⟩ : ∃ r, offRun p true Cs 0 gs = r := ⟨_, rfl⟩
  obtain ⟨Z, hZ⟩ : ∃ Z, mvL 0 Cs = Z := ⟨_, rfl⟩
  obtain ⟨tb, htb⟩ : ∃ b, (doT Cs a0 a1 == 0) = b := ⟨_, rfl⟩
  obtain ⟨dx, hdx⟩ : ∃ x, doT Cs a0 a1 = x := ⟨_, rfl⟩
  have htold : (Z.any fun x => (x.1 : Int) == a0 && x.2 == a1) = tb := by rw [← hZ, ← htb]; exact told_iff Cs a0 a1
  rw [hdx] at htb
  have hZl : Z.length ≤ 1000 := by
    have h1 := mvL_len Cs 0
    rw [hZ, ← hCs, List.length_map, h.len] at h1
    omega
  have C3 := Lib.hid (fun W (hW : Below w.heap.size w W) => c_tto (h.below hW) (by omega))
  have C4 := Lib.hid (fun W pl A1 c1 (hW : Below w.heap.size w W) (hT : TbW W pl A1 n c1 L) => (c_offer (d := gd) hT (hR.below hW) hl hfew (by omega) (by omega) p true).mono fun _ _ h => h.get (U := Ux) (no := no) (er := er) (by rw [hCs]; exact hr))
  have C5 := Lib.hid (fun W pl A1 c1 (hT : TbW W pl A1 n c1 L) => c_moves hT hf1 (by omega))
  have C6 := Lib.hid (fun W pl A1 c1 (hT : TbW W pl A1 n c1 L) => c_tdo hT hf1 (by omega) a0 a1)
  have C7 := Lib.hid (fun W pl A1 c1 (hT : TbW W pl A1 n c1 L) => c_tfrom hT (by omega))
  have C8 := Lib.hid (fun W pl A1 c1 (hW : Below w.heap.size w W) (hT : TbW W pl A1 n c1 L) => c_tsame hT (h.below hW) rfl hf1 (by omega))
  have C9 := Lib.hid (fun W pl A1 c1 L1 (hT : TbW W pl A1 n c1 L1) (hf : fewL (20 + gm) L1) => c_tleave hT hf (by omega) (by omega) p)
  rw [hCs, hZ] at C5
  rw [hCs, hdx] at C6
  have HTD := Lib.hid htold
  have gtb : (tb == tb) = true := beq_self_eq_true _
  have hn1 : n ≤ 1000 := by omega
  clear h hR hl hqs hfew hf1 hCs hr hZ hdx htold hn10
  go_enter Try.func5, Try.ntmps5
  go_upto_region 1 with fail
  rw [HW.out]
  refine wp_region_held_drew (S := OnB w [.int .i64 p, .slice gA gm gd, .bool al] a0 a1) (by kernel_rfl) (HX.out.next (up_drewN _ 1)) (fun hHeld => ?_)
  refine wpAnyH_take (i := 0) (oi := ?_) (v := ?_) ?_ (by kernel_rfl) (by kernel_rfl) (by kernel_rfl) ?_ (Or.inl ⟨?_, ?_⟩) hHeld ?_
  rotate_left 2
  · conv => lhs; simp only [List.getElem?_toArray, List.getElem?_cons_succ, List.getElem?_cons_zero]
  · exact fun _ _ _ h => h
  · rfl
  · intro W hSw
    have k0 := hSw.o.cell 0 _ rfl
    have k1 := hSw.o.cell 1 _ rfl
    go_simp
    try with_reducible rfl
  try simp only [Act.put, List.setIfInBounds_toArray, List.set_cons_zero, List.set_cons_succ]
  refine wpAnyH_take (i := 1) (oi := ?_) (v := ?_) ?_ (by kernel_rfl) (by kernel_rfl) (by kernel_rfl) ?_ (Or.inl ⟨?_, ?_⟩) hHeld ?_
  rotate_left 2
  · conv => lhs; simp only [List.getElem?_toArray, List.getElem?_cons_succ, List.getElem?_cons_zero]
  · exact fun _ _ _ h => h
  · rfl
  · intro W hSw
    have k0 := hSw.o.cell 0 _ rfl
    have k1 := hSw.o.cell 1 _ rfl
    go_simp
    try with_reducible rfl
  try simp only [Act.put, List.setIfInBounds_toArray, List.set_cons_zero, List.set_cons_succ]
  refine wpAnyH_take (i := 2) (oi := ?_) (v := ?_) ?_ (by kernel_rfl) (by kernel_rfl) (by kernel_rfl) ?_ (Or.inl ⟨?_, ?_⟩) hHeld ?_
  rotate_left 2
  · conv => lhs; simp only [List.getElem?_toArray, List.getElem?_cons_succ, List.getElem?_cons_zero]
  · exact fun _ _ _ h => h
  · rfl
  · intro W hSw
    have k0 := hSw.o.cell 0 _ rfl
    have k1 := hSw.o.cell 1 _ rfl
    go_simp
    try with_reducible rfl
  try simp only [Act.put, List.setIfInBounds_toArray, List.set_cons_zero, List.set_cons_succ]
  refine wpAnyH_take (i := 3) (oi := ?_) (v := ?_) ?_ (by kernel_rfl) (by kernel_rfl) (by kernel_rfl) ?_ (Or.inl ⟨?_, ?_⟩) hHeld ?_
  rotate_left 2
  · conv => lhs; simp only [List.getElem?_toArray, List.getElem?_cons_succ, List.getElem?_cons_zero]
  · exact fun _ _ _ h => h
  · rfl
  · intro W hSw
    have k0 := hSw.o.cell 0 _ rfl
    have k1 := hSw.o.cell 1 _ rfl
    go_simp
    try with_reducible rfl
  try simp only [Act.put, List.setIfInBounds_toArray, List.set_cons_zero, List.set_cons_succ]
  refine wpAnyH_take (i := 4) (oi := ?_) (v := ?_) ?_ (by kernel_rfl) (by kernel_rfl) (by kernel_rfl) ?_ (Or.inl ⟨?_, ?_⟩) hHeld ?_
  rotate_left 2
  · conv => lhs; simp only [List.getElem?_toArray, List.getElem?_cons_succ, List.getElem?_cons_zero]
  · exact fun _ _ _ h => h
  · rfl
  · intro W hSw
    have k0 := hSw.o.cell 0 _ rfl
    have k1 := hSw.o.cell 1 _ rfl
    go_simp
    try with_reducible rfl
  try simp only [Act.put, List.setIfInBounds_toArray, List.set_cons_zero, List.set_cons_succ]
  refine wpAnyH_take (i := 5) (oi := ?_) (v := ?_) ?_ (by kernel_rfl) (by kernel_rfl) (by kernel_rfl) ?_ (Or.inl ⟨?_, ?_⟩) hHeld ?_
  rotate_left 2
  · conv => lhs; simp only [List.getElem?_toArray, List.getElem?_cons_succ, List.getElem?_cons_zero]
  · exact fun _ _ _ h => h
  · rfl
  · intro W hSw
    have k0 := hSw.o.cell 0 _ rfl
    have k1 := hSw.o.cell 1 _ rfl
    go_simp
    try with_reducible rfl
  try simp only [Act.put, List.setIfInBounds_toArray, List.set_cons_zero, List.set_cons_succ]
  refine wpAnyH_done (by kernel_rfl) ?_ _
  go_wp2_with (go_at_call 6; refine (CS.out _ hHeld.up).mono ?_; rintro e w2 ⟨rfl, hb2⟩; have HB2 := Lib.hid (hHeld.next hb2); clear hb2)
  refine (C3.out _ HB2.out.up).mono ?_; rintro e w3 ⟨A3, c3, rfl, hT3, hb3⟩
  have HB3 := Lib.hid (HB2.out.next hb3)
  have HT3 := Lib.hid (hT3.lo (pl' := tt) (fun _ _ => trivial))
  clear hb3 hT3 hHeld
  go_wp2_with fail
  refine (C4.out _ _ _ _ HB3.out.up HT3.out).mono ?_; rintro e w4 ⟨A4, c4, L4, rfl, hT4, hbad, hf4, hb4⟩
  have HB4 := Lib.hid (HB3.out.next hb4)
  have HT34 := Lib.hid (HT3.out.below hb4)
  have HT4 := Lib.hid hT4
  have HF4 := Lib.hid hf4
  clear hb4 hT4 hf4 HT3
  by_cases h0 : er = 0
  · have hx0 : (er != 0) = false := by simp [bne, h0]
    clear h0 hbad
    have HB6 := Lib.hid HB4.out
    have HT36 := Lib.hid HT34.out
    have HT6 := Lib.hid HT4.out
    go_wp2_with fail
    refine (C9.out _ _ _ _ _ HT6.out HF4.out).mono ?_; rintro e w9 ⟨v9, L9, rfl, ho9, hm9, hf9, hb9⟩
    obtain ⟨A9, c9, hv9, hT9⟩ := ho9.tb
    subst hv9
    have HB9 := Lib.hid (HB6.out.next hb9)
    have HT39 := Lib.hid (HT36.out.below hb9)
    have HT9 := Lib.hid (hT9.lo (pl' := tt) (fun _ _ => trivial))
    have HF9 := Lib.hid hf9
    have HM9 := Lib.hid hm9
    clear ho9 hm9 hf9 hb9 hT9 HT6 HT36 HB6
    go_wp2_with fail
    go_loopw [60] (fun i wr => ∃ k : Nat, k ≤ n ∧ i = .int .i64 k ∧ Below w9.heap.size w9 wr) (fun i _ => n - (intOf i).toNat)
    case atStart => exact ⟨0, Nat.zero_le _, rfl, Below.refl _ _⟩
    case round =>
      obtain ⟨k, hk, rfl, hbw⟩ := hrel
      by_cases hlt : k < n
      · obtain ⟨b, o, q, hA, _, hbl, hq, hrg, hch⟩ := (HT9.out.below hbw).at_ k hlt
        subst hA
        have hfq := HF9.out q (List.mem_of_getElem? hq)
        have hqf := hfq.few (by omega) hch
        have hout : chFine q.1 = true → p ∉ q.1.W ∧ p ∉ q.1.G := by
          have h1 := map_fst_at hq
          rw [HM9.out, List.getElem?_map] at h1
          rcases hx : (L4.map Prod.fst)[k]? with _ | x
          · rw [hx] at h1; cases h1
          · rw [hx] at h1
            have h2 : chLeave x p = q.1 := by simpa using h1
            rw [← h2]
            exact leave_out
        have HOUT := Lib.hid hout
        have HQF := Lib.hid hqf
        have HRG := Lib.hid hrg
        have HBW := Lib.hid hbw
        have HBX := Lib.hid (Blk.new wr (cellsQ q) 73)
        have hchA := hch.below (up_alloc wr (.cells (cellsQ q).toArray 73))
        have CF := Lib.hid (c_chfine hchA hqf)
        have HCA := Lib.hid hchA
        clear hq hrg hch hfq hqf hout hbw hbl hchA
        cases hfine : chFine q.1
        · rw [hfine] at CF
          clear hfine
          go_wp2_with (first | (refine lm_row' (cs := cellsQ q) (.tmp 62) rfl rfl Try.underlying73 rfl info_ch rfl ?_ ?_; (· exact HRG.out)) | (refine sn_row' (t := 73) (W := wr) (cs := cellsQ q) (zs := chZ) (.tmp 14) (.tmp 63) rfl rfl rfl rfl info_ch rfl chC_one ?_ ?_ ?_; (· rfl); (· rfl)) | (refine ld_row' (cs := cellsQ q) (t := 73) (.tmp 14) rfl rfl Try.underlying73 rfl info_ch rfl ?_ ?_; (· exact HBX.out)))
          refine CF.out.mono ?_; rintro e w2 ⟨rfl, hb2⟩
          have HY2 := Lib.hid (up_trans HBW.out (up_trans (up_alloc wr (.cells (cellsQ q).toArray 73)) hb2))
          clear hb2
          go_wp2_with fail
          go_roundw
          case rel => exact ⟨k + 1, by omega, by go_num, HY2.out⟩
          case measure => simp [intOf]; omega
        · rw [hfine] at CF
          have HNO := Lib.hid (HOUT.out hfine)
          clear hfine HOUT
          go_wp2_with (first | (refine lm_row' (cs := cellsQ q) (.tmp 62) rfl rfl Try.underlying73 rfl info_ch rfl ?_ ?_; (· exact HRG.out)) | (refine sn_row' (t := 73) (W := wr) (cs := cellsQ q) (zs := chZ) (.tmp 14) (.tmp 63) rfl rfl rfl rfl info_ch rfl chC_one ?_ ?_ ?_; (· rfl); (· rfl)) | (refine ld_row' (cs := cellsQ q) (t := 73) (.tmp 14) rfl rfl Try.underlying73 rfl info_ch rfl ?_ ?_; (· exact HBX.out)))
          refine CF.out.mono ?_; rintro e w2 ⟨rfl, hb2⟩
          have HY2 := Lib.hid (up_trans HBW.out (up_trans (up_alloc wr (.cells (cellsQ q).toArray 73)) hb2))
          have HBY := Lib.hid (show Blk w2 wr.heap.size (chC q.1 q.2) 73 from HBX.out.up hb2 HBX.out.lt)
          have HCH := Lib.hid (HCA.out.below hb2)
          clear hb2
          go_wp2_with fail
          refine wp_region_held_drew (S := fun W => Below w2.heap.size w2 W) (by kernel_rfl) (up_drewN _ 1) (fun hHeld => ?_)
          refine wpAnyH_take (i := 1) (oi := ?_) (v := ?_) ?_ (by kernel_rfl) (by kernel_rfl) (by kernel_rfl) ?_ (Or.inl ⟨?_, ?_⟩) hHeld ?_
          rotate_left 2
          · conv => lhs; simp only [List.getElem?_toArray, List.getElem?_cons_succ, List.getElem?_cons_zero]
          · exact fun _ _ _ h => h
          · rfl
          · intro W hSw
            have hq := HBY.out.up hSw HBY.out.lt
            have k7 := hq.cW
            have k10 := hq.cG
            go_simp
            try with_reducible rfl
          try simp only [Act.put, List.setIfInBounds_toArray, List.set_cons_zero, List.set_cons_succ]
          refine wpAnyH_take (i := 2) (oi := ?_) (v := ?_) ?_ (by kernel_rfl) (by kernel_rfl) (by kernel_rfl) ?_ (Or.inl ⟨?_, ?_⟩) hHeld ?_
          rotate_left 2
          · conv => lhs; simp only [List.getElem?_toArray, List.getElem?_cons_succ, List.getElem?_cons_zero]
          · exact fun _ _ _ h => h
          · rfl
          · intro W hSw
            have hq := HBY.out.up hSw HBY.out.lt
            have k7 := hq.cW
            have k10 := hq.cG
            go_simp
            try with_reducible rfl
          try simp only [Act.put, List.setIfInBounds_toArray, List.set_cons_zero, List.set_cons_succ]
          refine wpAnyH_take (i := 3) (oi := ?_) (v := ?_) ?_ (by kernel_rfl) (by kernel_rfl) (by kernel_rfl) ?_ (Or.inl ⟨?_, ?_⟩) hHeld ?_
          rotate_left 2
          · conv => lhs; simp only [List.getElem?_toArray, List.getElem?_cons_succ, List.getElem?_cons_zero]
          · exact fun _ _ _ h => h
          · rfl
          · intro W hSw
            have hq := HBY.out.up hSw HBY.out.lt
            have k7 := hq.cW
            have k10 := hq.cG
            go_simp
            try with_reducible rfl
          try simp only [Act.put, List.setIfInBounds_toArray, List.set_cons_zero, List.set_cons_succ]
          refine wpAnyH_take (i := 5) (oi := ?_) (v := ?_) ?_ (by kernel_rfl) (by kernel_rfl) (by kernel_rfl) ?_ (Or.inl ⟨?_, ?_⟩) hHeld ?_
          rotate_left 2
          · conv => lhs; simp only [List.getElem?_toArray, List.getElem?_cons_succ, List.getElem?_cons_zero]
          · exact fun _ _ _ h => h
          · rfl
          · intro W hSw
            have hq := HBY.out.up hSw HBY.out.lt
            have k7 := hq.cW
            have k10 := hq.cG
            go_simp
            try with_reducible rfl
          try simp only [Act.put, List.setIfInBounds_toArray, List.set_cons_zero, List.set_cons_succ]
          refine wpAnyH_take (i := 6) (oi := ?_) (v := ?_) ?_ (by kernel_rfl) (by kernel_rfl) (by kernel_rfl) ?_ (Or.inl ⟨?_, ?_⟩) hHeld ?_
          rotate_left 2
          · conv => lhs; simp only [List.getElem?_toArray, List.getElem?_cons_succ, List.getElem?_cons_zero]
          · exact fun _ _ _ h => h
          · rfl
          · intro W hSw
            have hq := HBY.out.up hSw HBY.out.lt
            have k7 := hq.cW
            have k10 := hq.cG
            go_simp
            try with_reducible rfl
          try simp only [Act.put, List.setIfInBounds_toArray, List.set_cons_zero, List.set_cons_succ]
          refine wpAnyH_take (i := 7) (oi := ?_) (v := ?_) ?_ (by kernel_rfl) (by kernel_rfl) (by kernel_rfl) ?_ (Or.inl ⟨?_, ?_⟩) hHeld ?_
          rotate_left 2
          · conv => lhs; simp only [List.getElem?_toArray, List.getElem?_cons_succ, List.getElem?_cons_zero]
          · exact fun _ _ _ h => h
          · rfl
          · intro W hSw
            have hq := HBY.out.up hSw HBY.out.lt
            have k7 := hq.cW
            have k10 := hq.cG
            go_simp
            try with_reducible rfl
          try simp only [Act.put, List.setIfInBounds_toArray, List.set_cons_zero, List.set_cons_succ]
          refine wpAnyH_take (i := 10) (oi := ?_) (v := ?_) ?_ (by kernel_rfl) (by kernel_rfl) (by kernel_rfl) ?_ (Or.inl ⟨?_, ?_⟩) hHeld ?_
          rotate_left 2
          · conv => lhs; simp only [List.getElem?_toArray, List.getElem?_cons_succ, List.getElem?_cons_zero]
          · exact fun _ _ _ h => h
          · rfl
          · intro W hSw
            have hq := HBY.out.up hSw HBY.out.lt
            have k7 := hq.cW
            have k10 := hq.cG
            go_simp
            try with_reducible rfl
          try simp only [Act.put, List.setIfInBounds_toArray, List.set_cons_zero, List.set_cons_succ]
          refine wpAnyH_ready (rs := [0]) (by kernel_rfl) (by simp) ?_
          refine AllReadyH.cons (o := ?_) ?_ (fun K hK => ?_) AllReadyH.nil
          rotate_left 1
          · conv => lhs; simp only [List.getElem?_toArray, List.getElem?_cons_succ, List.getElem?_cons_zero]
          go_simp
          have hown0 := World.ownsRow_made (base := w2.heap.size) (e := 3) (size := 1) w2.drew #[] 0 (Nat.le_refl _) (by unfold maxLen; omega) (by simp)
          refine hK.out _ _ (up_trans hHeld (up_alloc _ _)) (fun hHeld => ?_)
          clear hK K
          try simp only [Act.put, List.setIfInBounds_toArray, List.set_cons_zero, List.set_cons_succ]
          refine wpAnyH_ready (rs := [4]) (by kernel_rfl) (by simp) ?_
          refine AllReadyH.cons (o := ?_) ?_ (fun K hK => ?_) AllReadyH.nil
          rotate_left 1
          · conv => lhs; simp only [List.getElem?_toArray, List.getElem?_cons_succ, List.getElem?_cons_zero]
          refine step_app ei_int rfl (.tmp 67) (.tmp 70) rfl _ _ rfl hown0 rfl (HCH.out.w_.rd.below hHeld) (int_cells _ _) (by have := HQF.out.w_; omega) hHeld.size ?_
          intro v4 w4 hown4 hb4
          have hb24 := hHeld.trans hb4
          refine hK.out _ _ hb24 (fun hHeld => ?_)
          clear hK K
          try simp only [Act.put, List.setIfInBounds_toArray, List.set_cons_zero, List.set_cons_succ]
          refine wpAnyH_ready (rs := [8]) (by kernel_rfl) (by simp) ?_
          refine AllReadyH.cons (o := ?_) ?_ (fun K hK => ?_) AllReadyH.nil
          rotate_left 1
          · conv => lhs; simp only [List.getElem?_toArray, List.getElem?_cons_succ, List.getElem?_cons_zero]
          refine step_app ei_int rfl (.tmp 71) (.tmp 74) rfl v4 _ rfl hown4 rfl (HCH.out.g.rd.below hHeld) (int_cells _ _) (by have := HQF.out.w_; have := HQF.out.g; omega) hHeld.size ?_
          intro v5 w5 hown5 hb5
          have hb25 := hHeld.trans hb5
          refine hK.out _ _ hb25 (fun hHeld => ?_)
          clear hK K
          try simp only [Act.put, List.setIfInBounds_toArray, List.set_cons_zero, List.set_cons_succ]
          obtain ⟨A5, c5, hv5, -, -, hr5⟩ := own_slice hown5
          have hN : 0 + q.2.W.n + q.2.G.n ≤ 2000 := by have := HQF.out.w_; have := HQF.out.g; omega
          generalize 0 + q.2.W.n + q.2.G.n = N at hv5 hr5 hN
          subst hv5
          refine wpAnyH_take (i := 9) (oi := ?_) (v := ?_) ?_ (by kernel_rfl) (by kernel_rfl) (by kernel_rfl) ?_ (Or.inl ⟨?_, ?_⟩) hHeld ?_
          rotate_left 2
          · conv => lhs; simp only [List.getElem?_toArray, List.getElem?_cons_succ, List.getElem?_cons_zero]
          · exact fun _ _ _ h => h
          · rfl
          · intro W hSw
            have hq := HBY.out.up hSw HBY.out.lt
            have k7 := hq.cW
            have k10 := hq.cG
            go_simp
            try with_reducible rfl
          try simp only [Act.put, List.setIfInBounds_toArray, List.set_cons_zero, List.set_cons_succ]
          refine wpAnyH_done (by kernel_rfl) ?_ _
          have HR5 := Lib.hid hr5
          have HY5 := Lib.hid (up_trans HY2.out hb25)
          clear hown0 hown4 hown5 hb4 hb24 hb25 hHeld hr5 hb5
          go_wp2_with fail
          go_loopw [77] (fun i wx => ∃ j : Nat, j ≤ N ∧ i = .int .i64 j ∧ Below w5.heap.size w5 wx) (fun i _ => N - (intOf i).toNat)
          case atStart => exact ⟨0, Nat.zero_le _, rfl, Below.refl _ _⟩
          case round =>
            rename World => wx
            obtain ⟨j, hj, rfl, hbx⟩ := hrel
            by_cases hjN : j < N
            · have hr := HR5.out.below hbx
              have hlen := hr.1
              obtain ⟨b5, o5, hA5, _, _, hc5⟩ := hr.at_ (by omega)
              subst hA5
              have hjl : j < (([] ++ q.1.W.map (Value.int .i64)) ++ q.1.G.map (Value.int .i64)).length := by rw [hlen]; omega
              have hge := List.getElem?_eq_getElem hjl
              have hmem := List.getElem_mem hjl
              generalize (([] ++ q.1.W.map (Value.int .i64)) ++ q.1.G.map (Value.int .i64))[j] = u at hge hmem
              obtain ⟨z, hzu, hzp⟩ : ∃ z : Int, u = .int .i64 z ∧ (z == p) = false := by
                rw [List.nil_append, List.mem_append, List.mem_map, List.mem_map] at hmem
                rcases hmem with ⟨z, hz, rfl⟩ | ⟨z, hz, rfl⟩
                · exact ⟨z, rfl, beq_eq_false_iff_ne.2 (by rintro rfl; exact HNO.out.1 hz)⟩
                · exact ⟨z, rfl, beq_eq_false_iff_ne.2 (by rintro rfl; exact HNO.out.2 hz)⟩
              subst hzu
              have h5 := hc5 j _ hge
              have HBX5 := Lib.hid hbx
              clear hr hlen hc5 hjl hge hmem hbx
              go_wp2_with fail
              go_roundw
              case rel => exact ⟨j + 1, by omega, by go_num, HBX5.out⟩
              case measure => simp [intOf]; omega
            · obtain rfl : j = N := by omega
              have HBX5 := Lib.hid hbx
              clear hbx
              go_wp2_with fail
              go_roundw
              case rel => exact ⟨k + 1, by omega, by go_num, up_trans HY5.out HBX5.out⟩
              case measure => simp [intOf]; omega
      · obtain rfl : k = n := by omega
        have HBR := Lib.hid (HB9.out.next hbw)
        have HT3R := Lib.hid (HT39.out.below hbw)
        have i0 := HBR.out.a.cell 0 _ rfl
        have i1 := HBR.out.a.cell 1 _ rfl
        have HBA := Lib.hid (HBR.out.next (up_alloc wr (.cells #[.int .i64 a0, .int .i64 a1] 38)))
        have HAT := Lib.hid (Blk.new wr [.int .i64 a0, .int .i64 a1] 38)
        have HT3A := Lib.hid (HT3R.out.below (up_alloc wr (.cells #[.int .i64 a0, .int .i64 a1] 38)))
        have CM := Lib.hid (C5.out _ _ _ _ HT3A.out)
        clear hbw HT9 HT39 HB9
        obtain ⟨ha00, ha01⟩ := ha0
        obtain ⟨ha10, ha11⟩ := ha1
        go_wp2_with (refine sn_row' (t := 38) (W := wr) (cs := [.int .i64 a0, .int .i64 a1]) (zs := [.int .i64 0, .int .i64 0]) (.tmp 17) (.tmp 92) rfl rfl rfl rfl info_at rfl two_one ?_ ?_ ?_; (· rfl); (· rfl))
        refine CM.out.mono ?_; rintro e w10 ⟨A10, c10, rfl, -, -, hr10, hb10⟩
        have HB10 := Lib.hid (HBA.out.next hb10)
        have HT310 := Lib.hid (HT3A.out.below hb10)
        have HAT10 := Lib.hid (HAT.out.up hb10 HAT.out.lt)
        have HR10 := Lib.hid (hr10.lo (pl' := tt) (fun _ _ => trivial))
        generalize wr.heap.size = ab at HAT10 ⊢
        clear hb10 hr10 i0 i1 HBA HAT HT3A HBR HT3R CM
        go_wp2_with fail
        go_loopw [18, 96] (fun s i wx => ∃ j : Nat, j ≤ Z.length ∧ s = .bool ((Z.take j).any fun x => (x.1 : Int) == a0 && x.2 == a1) ∧ i = .int .i64 j ∧ Below w10.heap.size w10 wx) (fun _ i _ => Z.length - (intOf i).toNat)
        case atStart => exact ⟨0, Nat.zero_le _, rfl, rfl, Below.refl _ _⟩
        case round =>
          rename World => wx
          obtain ⟨j, hj, rfl, rfl, hbx⟩ := hrel
          by_cases hjN : j < Z.length
          · obtain ⟨b1, o1, hA10, _, hb1, hr1⟩ := RD.row mvC_len (HR10.out.below hbx) (List.getElem?_eq_getElem hjN) hjN
            subst hA10
            have hnx := any_next Z (fun x => (x.1 : Int) == a0 && x.2 == a1) j hjN
            generalize Z[j] = z at hr1 hnx
            generalize (Z.take j).any (fun x => (x.1 : Int) == a0 && x.2 == a1) = tj at hnx ⊢
            have HNX := Lib.hid hnx
            have HRG := Lib.hid (show wx.rangeAt b1 (o1 + j * 2) [.int .i64 (z.1 : Int), .int .i64 z.2] from hr1)
            have HXX := Lib.hid (up_trans hbx (up_alloc wx (.cells #[.int .i64 (z.1 : Int), .int .i64 z.2] 38)))
            have HZB := Lib.hid (Blk.new wx [.int .i64 (z.1 : Int), .int .i64 z.2] 38)
            have HAX := Lib.hid (HAT10.out.up HXX.out HAT10.out.lt)
            have hlow : (z.1 : Int) = (z.1 : Int) := rfl
            clear hnx hr1 hb1 hbx hlow
            cases tj
            · cases e1 : ((z.1 : Int) == a0) <;> cases e2 : (z.2 == a1)
              all_goals
                have HN2 : Hid ((Z.take (j + 1)).any (fun x => (x.1 : Int) == a0 && x.2 == a1) = _) := Lib.hid (by rw [HNX.out, e1, e2])
                go_wp2_with (first | (refine lm_row' (cs := [.int .i64 (z.1 : Int), .int .i64 z.2]) (.tmp 98) rfl rfl Try.underlying38 rfl info_at rfl ?_ ?_; (· exact HRG.out)) | (refine sn_row' (t := 38) (W := wx) (cs := [.int .i64 (z.1 : Int), .int .i64 z.2]) (zs := [.int .i64 0, .int .i64 0]) (.tmp 20) (.tmp 99) rfl rfl rfl rfl info_at rfl two_one ?_ ?_ ?_; (· rfl); (· rfl)) | (refine ld_row' (cs := [.int .i64 (z.1 : Int), .int .i64 z.2]) (t := 38) (.tmp 20) rfl rfl Try.underlying38 rfl info_at rfl ?_ ?_; (· exact HZB.out)) | (refine ld_row' (cs := [.int .i64 a0, .int .i64 a1]) (t := 38) (.tmp 17) rfl rfl Try.underlying38 rfl info_at rfl ?_ ?_; (· exact HAX.out)))
                go_roundw
                case rel => exact ⟨j + 1, by omega, by rw [HN2.out]; rfl, by go_num, HXX.out⟩
                case measure => simp [intOf]; omega
            · have HN2 : Hid ((Z.take (j + 1)).any (fun x => (x.1 : Int) == a0 && x.2 == a1) = true) := Lib.hid (by rw [HNX.out, Bool.true_or])
              go_wp2_with (first | (refine lm_row' (cs := [.int .i64 (z.1 : Int), .int .i64 z.2]) (.tmp 98) rfl rfl Try.underlying38 rfl info_at rfl ?_ ?_; (· exact HRG.out)) | (refine sn_row' (t := 38) (W := wx) (cs := [.int .i64 (z.1 : Int), .int .i64 z.2]) (zs := [.int .i64 0, .int .i64 0]) (.tmp 20) (.tmp 99) rfl rfl rfl rfl info_at rfl two_one ?_ ?_ ?_; (· rfl); (· rfl)))
              go_roundw
              case rel => exact ⟨j + 1, by omega, by rw [HN2.out], by go_num, HXX.out⟩
              case measure => simp [intOf]; omega
          · obtain rfl : j = Z.length := by omega
            have hfin : ((Z.take Z.length).any fun x => (x.1 : Int) == a0 && x.2 == a1) = tb := by rw [List.take_length]; exact HTD.out
            generalize (Z.take Z.length).any (fun x => (x.1 : Int) == a0 && x.2 == a1) = tk at hfin ⊢
            subst hfin
            have HBX := Lib.hid (HB10.out.next hbx)
            have HAX := Lib.hid (HAT10.out.up hbx HAT10.out.lt)
            have CD := Lib.hid (C6.out _ _ _ _ (HT310.out.below hbx))
            clear hbx
            go_wp2_with (refine ld_row' (cs := [.int .i64 a0, .int .i64 a1]) (t := 38) (.tmp 17) rfl rfl Try.underlying38 rfl info_at rfl ?_ ?_; (· exact HAX.out))
            refine CD.out.mono ?_; rintro e w11 ⟨v11, x, y, z, rfl, hb11⟩
            have HU11 := Lib.hid (up_trans HBX.out.up (up_trans hb11 (up_alloc w11 (.cells #[.int .i64 x, .int .i64 y, .int .i64 z] 34))))
            clear hb11
            go_wp2_with (refine sn_row' (t := 34) (W := w11) (cs := [.int .i64 x, .int .i64 y, .int .i64 z]) (zs := [.int .i64 0, .int .i64 0, .int .i64 0]) (.tmp 22) (.tmp 112) rfl rfl rfl rfl info_mv rfl three_one ?_ ?_ ?_; (· rfl); (· rfl))
            refine (c_talive _).mono ?_; rintro e w12 ⟨rfl, hb12⟩
            go_wp2
            go_ret
            exact ⟨rfl, up_trans HU11.out hb12⟩
  · have hx1 : (er != 0) = true := by simp [bne, h0]
    obtain ⟨rfl, rfl, rfl⟩ := hbad h0
    clear h0
    go_wp2_with fail
    refine (C7.out _ _ _ _ HT4.out).mono ?_; rintro e w5 ⟨A5, c5, rfl, hT5, hb5⟩
    have HB5 := Lib.hid (HB4.out.next hb5)
    have HT35 := Lib.hid (HT34.out.below hb5)
    have HT45 := Lib.hid (HT4.out.below hb5)
    have CSM := Lib.hid (C8.out _ _ _ _ HB5.out.up hT5)
    clear hb5 hT5
    go_wp2_with fail
    refine CSM.out.mono ?_; rintro e w6 ⟨rfl, hb6⟩
    have HB6 := Lib.hid (HB5.out.next hb6)
    have HT36 := Lib.hid (HT35.out.below hb6)
    have HT6 := Lib.hid (HT45.out.below hb6)
    clear hb6 CSM HT35 HT45
    go_wp2_with fail
    refine (C9.out _ _ _ _ _ HT6.out HF4.out).mono ?_; rintro e w9 ⟨v9, L9, rfl, ho9, hm9, hf9, hb9⟩
    obtain ⟨A9, c9, hv9, hT9⟩ := ho9.tb
    subst hv9
    have HB9 := Lib.hid (HB6.out.next hb9)
    have HT39 := Lib.hid (HT36.out.below hb9)
    have HT9 := Lib.hid (hT9.lo (pl' := tt) (fun _ _ => trivial))
    have HF9 := Lib.hid hf9
    have HM9 := Lib.hid hm9
    clear ho9 hm9 hf9 hb9 hT9 HT6 HT36 HB6
    go_wp2_with fail
    go_loopw [60] (fun i wr => ∃ k : Nat, k ≤ n ∧ i = .int .i64 k ∧ Below w9.heap.size w9 wr) (fun i _ => n - (intOf i).toNat)
    case atStart => exact ⟨0, Nat.zero_le _, rfl, Below.refl _ _⟩
    case round =>
      obtain ⟨k, hk, rfl, hbw⟩ := hrel
      by_cases hlt : k < n
      · obtain ⟨b, o, q, hA, _, hbl, hq, hrg, hch⟩ := (HT9.out.below hbw).at_ k hlt
        subst hA
        have hfq := HF9.out q (List.mem_of_getElem? hq)
        have hqf := hfq.few (by omega) hch
        have hout : chFine q.1 = true → p ∉ q.1.W ∧ p ∉ q.1.G := by
          have h1 := map_fst_at hq
          rw [HM9.out, List.getElem?_map] at h1
          rcases hx : (L4.map Prod.fst)[k]? with _ | x
          · rw [hx] at h1; cases h1
          · rw [hx] at h1
            have h2 : chLeave x p = q.1 := by simpa using h1
            rw [← h2]
            exact leave_out
        have HOUT := Lib.hid hout
        have HQF := Lib.hid hqf
        have HRG := Lib.hid hrg
        have HBW := Lib.hid hbw
        have HBX := Lib.hid (Blk.new wr (cellsQ q) 73)
        have hchA := hch.below (up_alloc wr (.cells (cellsQ q).toArray 73))
        have CF := Lib.hid (c_chfine hchA hqf)
        have HCA := Lib.hid hchA
        clear hq hrg hch hfq hqf hout hbw hbl hchA
        cases hfine : chFine q.1
        · rw [hfine] at CF
          clear hfine
          go_wp2_with (first | (refine lm_row' (cs := cellsQ q) (.tmp 62) rfl rfl Try.underlying73 rfl info_ch rfl ?_ ?_; (· exact HRG.out)) | (refine sn_row' (t := 73) (W := wr) (cs := cellsQ q) (zs := chZ) (.tmp 14) (.tmp 63) rfl rfl rfl rfl info_ch rfl chC_one ?_ ?_ ?_; (· rfl); (· rfl)) | (refine ld_row' (cs := cellsQ q) (t := 73) (.tmp 14) rfl rfl Try.underlying73 rfl info_ch rfl ?_ ?_; (· exact HBX.out)))
          refine CF.out.mono ?_; rintro e w2 ⟨rfl, hb2⟩
          have HY2 := Lib.hid (up_trans HBW.out (up_trans (up_alloc wr (.cells (cellsQ q).toArray 73)) hb2))
          clear hb2
          go_wp2_with fail
          go_roundw
          case rel => exact ⟨k + 1, by omega, by go_num, HY2.out⟩
          case measure => simp [intOf]; omega
        · rw [hfine] at CF
          have HNO := Lib.hid (HOUT.out hfine)
          clear hfine HOUT
          go_wp2_with (first | (refine lm_row' (cs := cellsQ q) (.tmp 62) rfl rfl Try.underlying73 rfl info_ch rfl ?_ ?_; (· exact HRG.out)) | (refine sn_row' (t := 73) (W := wr) (cs := cellsQ q) (zs := chZ) (.tmp 14) (.tmp 63) rfl rfl rfl rfl info_ch rfl chC_one ?_ ?_ ?_; (· rfl); (· rfl)) | (refine ld_row' (cs := cellsQ q) (t := 73) (.tmp 14) rfl rfl Try.underlying73 rfl info_ch rfl ?_ ?_; (· exact HBX.out)))
          refine CF.out.mono ?_; rintro e w2 ⟨rfl, hb2⟩
          have HY2 := Lib.hid (up_trans HBW.out (up_trans (up_alloc wr (.cells (cellsQ q).toArray 73)) hb2))
          have HBY := Lib.hid (show Blk w2 wr.heap.size (chC q.1 q.2) 73 from HBX.out.up hb2 HBX.out.lt)
          have HCH := Lib.hid (HCA.out.below hb2)
          clear hb2
          go_wp2_with fail
          refine wp_region_held_drew (S := fun W => Below w2.heap.size w2 W) (by kernel_rfl) (up_drewN _ 1) (fun hHeld => ?_)
          refine wpAnyH_take (i := 1) (oi := ?_) (v := ?_) ?_ (by kernel_rfl) (by kernel_rfl) (by kernel_rfl) ?_ (Or.inl ⟨?_, ?_⟩) hHeld ?_
          rotate_left 2
          · conv => lhs; simp only [List.getElem?_toArray, List.getElem?_cons_succ, List.getElem?_cons_zero]
          · exact fun _ _ _ h => h
          · rfl
          · intro W hSw
            have hq := HBY.out.up hSw HBY.out.lt
            have k7 := hq.cW
            have k10 := hq.cG
            go_simp
            try with_reducible rfl
          try simp only [Act.put, List.setIfInBounds_toArray, List.set_cons_zero, List.set_cons_succ]
          refine wpAnyH_take (i := 2) (oi := ?_) (v := ?_) ?_ (by kernel_rfl) (by kernel_rfl) (by kernel_rfl) ?_ (Or.inl ⟨?_, ?_⟩) hHeld ?_
          rotate_left 2
          · conv => lhs; simp only [List.getElem?_toArray, List.getElem?_cons_succ, List.getElem?_cons_zero]
          · exact fun _ _ _ h => h
          · rfl
          · intro W hSw
            have hq := HBY.out.up hSw HBY.out.lt
            have k7 := hq.cW
            have k10 := hq.cG
            go_simp
            try with_reducible rfl
          try simp only [Act.put, List.setIfInBounds_toArray, List.set_cons_zero, List.set_cons_succ]
          refine wpAnyH_take (i := 3) (oi := ?_) (v := ?_) ?_ (by kernel_rfl) (by kernel_rfl) (by kernel_rfl) ?_ (Or.inl ⟨?_, ?_⟩) hHeld ?_
          rotate_left 2
          · conv => lhs; simp only [List.getElem?_toArray, List.getElem?_cons_succ, List.getElem?_cons_zero]
          · exact fun _ _ _ h => h
          · rfl
          · intro W hSw
            have hq := HBY.out.up hSw HBY.out.lt
            have k7 := hq.cW
            have k10 := hq.cG
            go_simp
            try with_reducible rfl
          try simp only [Act.put, List.setIfInBounds_toArray, List.set_cons_zero, List.set_cons_succ]
          refine wpAnyH_take (i := 5) (oi := ?_) (v := ?_) ?_ (by kernel_rfl) (by kernel_rfl) (by kernel_rfl) ?_ (Or.inl ⟨?_, ?_⟩) hHeld ?_
          rotate_left 2
          · conv => lhs; simp only [List.getElem?_toArray, List.getElem?_cons_succ, List.getElem?_cons_zero]
          · exact fun _ _ _ h => h
          · rfl
          · intro W hSw
            have hq := HBY.out.up hSw HBY.out.lt
            have k7 := hq.cW
            have k10 := hq.cG
            go_simp
            try with_reducible rfl
          try simp only [Act.put, List.setIfInBounds_toArray, List.set_cons_zero, List.set_cons_succ]
          refine wpAnyH_take (i := 6) (oi := ?_) (v := ?_) ?_ (by kernel_rfl) (by kernel_rfl) (by kernel_rfl) ?_ (Or.inl ⟨?_, ?_⟩) hHeld ?_
          rotate_left 2
          · conv => lhs; simp only [List.getElem?_toArray, List.getElem?_cons_succ, List.getElem?_cons_zero]
          · exact fun _ _ _ h => h
          · rfl
          · intro W hSw
            have hq := HBY.out.up hSw HBY.out.lt
            have k7 := hq.cW
            have k10 := hq.cG
            go_simp
            try with_reducible rfl
          try simp only [Act.put, List.setIfInBounds_toArray, List.set_cons_zero, List.set_cons_succ]
          refine wpAnyH_take (i := 7) (oi := ?_) (v := ?_) ?_ (by kernel_rfl) (by kernel_rfl) (by kernel_rfl) ?_ (Or.inl ⟨?_, ?_⟩) hHeld ?_
          rotate_left 2
          · conv => lhs; simp only [List.getElem?_toArray, List.getElem?_cons_succ, List.getElem?_cons_zero]
          · exact fun _ _ _ h => h
          · rfl
          · intro W hSw
            have hq := HBY.out.up hSw HBY.out.lt
            have k7 := hq.cW
            have k10 := hq.cG
            go_simp
            try with_reducible rfl
          try simp only [Act.put, List.setIfInBounds_toArray, List.set_cons_zero, List.set_cons_succ]
          refine wpAnyH_take (i := 10) (oi := ?_) (v := ?_) ?_ (by kernel_rfl) (by kernel_rfl) (by kernel_rfl) ?_ (Or.inl ⟨?_, ?_⟩) hHeld ?_
          rotate_left 2
          · conv => lhs; simp only [List.getElem?_toArray, List.getElem?_cons_succ, List.getElem?_cons_zero]
          · exact fun _ _ _ h => h
          · rfl
          · intro W hSw
            have hq := HBY.out.up hSw HBY.out.lt
            have k7 := hq.cW
            have k10 := hq.cG
            go_simp
            try with_reducible rfl
          try simp only [Act.put, List.setIfInBounds_toArray, List.set_cons_zero, List.set_cons_succ]
          refine wpAnyH_ready (rs := [0]) (by kernel_rfl) (by simp) ?_
          refine AllReadyH.cons (o := ?_) ?_ (fun K hK => ?_) AllReadyH.nil
          rotate_left 1
          · conv => lhs; simp only [List.getElem?_toArray, List.getElem?_cons_succ, List.getElem?_cons_zero]
          go_simp
          have hown0 := World.ownsRow_made (base := w2.heap.size) (e := 3) (size := 1) w2.drew #[] 0 (Nat.le_refl _) (by unfold maxLen; omega) (by simp)
          refine hK.out _ _ (up_trans hHeld (up_alloc _ _)) (fun hHeld => ?_)
          clear hK K
          try simp only [Act.put, List.setIfInBounds_toArray, List.set_cons_zero, List.set_cons_succ]
          refine wpAnyH_ready (rs := [4]) (by kernel_rfl) (by simp) ?_
          refine AllReadyH.cons (o := ?_) ?_ (fun K hK => ?_) AllReadyH.nil
          rotate_left 1
          · conv => lhs; simp only [List.getElem?_toArray, List.getElem?_cons_succ, List.getElem?_cons_zero]
          refine step_app ei_int rfl (.tmp 67) (.tmp 70) rfl _ _ rfl hown0 rfl (HCH.out.w_.rd.below hHeld) (int_cells _ _) (by have := HQF.out.w_; omega) hHeld.size ?_
          intro v4 w4 hown4 hb4
          have hb24 := hHeld.trans hb4
          refine hK.out _ _ hb24 (fun hHeld => ?_)
          clear hK K
          try simp only [Act.put, List.setIfInBounds_toArray, List.set_cons_zero, List.set_cons_succ]
          refine wpAnyH_ready (rs := [8]) (by kernel_rfl) (by simp) ?_
          refine AllReadyH.cons (o := ?_) ?_ (fun K hK => ?_) AllReadyH.nil
          rotate_left 1
          · conv => lhs; simp only [List.getElem?_toArray, List.getElem?_cons_succ, List.getElem?_cons_zero]
          refine step_app ei_int rfl (.tmp 71) (.tmp 74) rfl v4 _ rfl hown4 rfl (HCH.out.g.rd.below hHeld) (int_cells _ _) (by have := HQF.out.w_; have := HQF.out.g; omega) hHeld.size ?_
          intro v5 w5 hown5 hb5
          have hb25 := hHeld.trans hb5
          refine hK.out _ _ hb25 (fun hHeld => ?_)
          clear hK K
          try simp only [Act.put, List.setIfInBounds_toArray, List.set_cons_zero, List.set_cons_succ]
          obtain ⟨A5, c5, hv5, -, -, hr5⟩ := own_slice hown5
          have hN : 0 + q.2.W.n + q.2.G.n ≤ 2000 := by have := HQF.out.w_; have := HQF.out.g; omega
          generalize 0 + q.2.W.n + q.2.G.n = N at hv5 hr5 hN
          subst hv5
          refine wpAnyH_take (i := 9) (oi := ?_) (v := ?_) ?_ (by kernel_rfl) (by kernel_rfl) (by kernel_rfl) ?_ (Or.inl ⟨?_, ?_⟩) hHeld ?_
          rotate_left 2
          · conv => lhs; simp only [List.getElem?_toArray, List.getElem?_cons_succ, List.getElem?_cons_zero]
          · exact fun _ _ _ h => h
          · rfl
          · intro W hSw
            have hq := HBY.out.up hSw HBY.out.lt
            have k7 := hq.cW
            have k10 := hq.cG
            go_simp
            try with_reducible rfl
          try simp only [Act.put, List.setIfInBounds_toArray, List.set_cons_zero, List.set_cons_succ]
          refine wpAnyH_done (by kernel_rfl) ?_ _
          have HR5 := Lib.hid hr5
          have HY5 := Lib.hid (up_trans HY2.out hb25)
          clear hown0 hown4 hown5 hb4 hb24 hb25 hHeld hr5 hb5
          go_wp2_with fail
          go_loopw [77] (fun i wx => ∃ j : Nat, j ≤ N ∧ i = .int .i64 j ∧ Below w5.heap.size w5 wx) (fun i _ => N - (intOf i).toNat)
          case atStart => exact ⟨0, Nat.zero_le _, rfl, Below.refl _ _⟩
          case round =>
            rename World => wx
            obtain ⟨j, hj, rfl, hbx⟩ := hrel
            by_cases hjN : j < N
            · have hr := HR5.out.below hbx
              have hlen := hr.1
              obtain ⟨b5, o5, hA5, _, _, hc5⟩ := hr.at_ (by omega)
              subst hA5
              have hjl : j < (([] ++ q.1.W.map (Value.int .i64)) ++ q.1.G.map (Value.int .i64)).length := by rw [hlen]; omega
              have hge := List.getElem?_eq_getElem hjl
              have hmem := List.getElem_mem hjl
              generalize (([] ++ q.1.W.map (Value.int .i64)) ++ q.1.G.map (Value.int .i64))[j] = u at hge hmem
              obtain ⟨z, hzu, hzp⟩ : ∃ z : Int, u = .int .i64 z ∧ (z == p) = false := by
                rw [List.nil_append, List.mem_append, List.mem_map, List.mem_map] at hmem
                rcases hmem with ⟨z, hz, rfl⟩ | ⟨z, hz, rfl⟩
                · exact ⟨z, rfl, beq_eq_false_iff_ne.2 (by rintro rfl; exact HNO.out.1 hz)⟩
                · exact ⟨z, rfl, beq_eq_false_iff_ne.2 (by rintro rfl; exact HNO.out.2 hz)⟩
              subst hzu
              have h5 := hc5 j _ hge
              have HBX5 := Lib.hid hbx
              clear hr hlen hc5 hjl hge hmem hbx
              go_wp2_with fail
              go_roundw
              case rel => exact ⟨j + 1, by omega, by go_num, HBX5.out⟩
              case measure => simp [intOf]; omega
            · obtain rfl : j = N := by omega
              have HBX5 := Lib.hid hbx
              clear hbx
              go_wp2_with fail
              go_roundw
              case rel => exact ⟨k + 1, by omega, by go_num, up_trans HY5.out HBX5.out⟩
              case measure => simp [intOf]; omega
      · obtain rfl : k = n := by omega
        have HBR := Lib.hid (HB9.out.next hbw)
        have HT3R := Lib.hid (HT39.out.below hbw)
        have i0 := HBR.out.a.cell 0 _ rfl
        have i1 := HBR.out.a.cell 1 _ rfl
        have HBA := Lib.hid (HBR.out.next (up_alloc wr (.cells #[.int .i64 a0, .int .i64 a1] 38)))
        have HAT := Lib.hid (Blk.new wr [.int .i64 a0, .int .i64 a1] 38)
        have HT3A := Lib.hid (HT3R.out.below (up_alloc wr (.cells #[.int .i64 a0, .int .i64 a1] 38)))
        have CM := Lib.hid (C5.out _ _ _ _ HT3A.out)
        clear hbw HT9 HT39 HB9
        obtain ⟨ha00, ha01⟩ := ha0
        obtain ⟨ha10, ha11⟩ := ha1
        go_wp2_with (refine sn_row' (t := 38) (W := wr) (cs := [.int .i64 a0, .int .i64 a1]) (zs := [.int .i64 0, .int .i64 0]) (.tmp 17) (.tmp 92) rfl rfl rfl rfl info_at rfl two_one ?_ ?_ ?_; (· rfl); (· rfl))
        refine CM.out.mono ?_; rintro e w10 ⟨A10, c10, rfl, -, -, hr10, hb10⟩
        have HB10 := Lib.hid (HBA.out.next hb10)
        have HT310 := Lib.hid (HT3A.out.below hb10)
        have HAT10 := Lib.hid (HAT.out.up hb10 HAT.out.lt)
        have HR10 := Lib.hid (hr10.lo (pl' := tt) (fun _ _ => trivial))
        generalize wr.heap.size = ab at HAT10 ⊢
        clear hb10 hr10 i0 i1 HBA HAT HT3A HBR HT3R CM
        go_wp2_with fail
        go_loopw [18, 96] (fun s i wx => ∃ j : Nat, j ≤ Z.length ∧ s = .bool ((Z.take j).any fun x => (x.1 : Int) == a0 && x.2 == a1) ∧ i = .int .i64 j ∧ Below w10.heap.size w10 wx) (fun _ i _ => Z.length - (intOf i).toNat)
        case atStart => exact ⟨0, Nat.zero_le _, rfl, rfl, Below.refl _ _⟩
        case round =>
          rename World => wx
          obtain ⟨j, hj, rfl, rfl, hbx⟩ := hrel
          by_cases hjN : j < Z.length
          · obtain ⟨b1, o1, hA10, _, hb1, hr1⟩ := RD.row mvC_len (HR10.out.below hbx) (List.getElem?_eq_getElem hjN) hjN
            subst hA10
            have hnx := any_next Z (fun x => (x.1 : Int) == a0 && x.2 == a1) j hjN
            generalize Z[j] = z at hr1 hnx
            generalize (Z.take j).any (fun x => (x.1 : Int) == a0 && x.2 == a1) = tj at hnx ⊢
            have HNX := Lib.hid hnx
            have HRG := Lib.hid (show wx.rangeAt b1 (o1 + j * 2) [.int .i64 (z.1 : Int), .int .i64 z.2] from hr1)
            have HXX := Lib.hid (up_trans hbx (up_alloc wx (.cells #[.int .i64 (z.1 : Int), .int .i64 z.2] 38)))
            have HZB := Lib.hid (Blk.new wx [.int .i64 (z.1 : Int), .int .i64 z.2] 38)
            have HAX := Lib.hid (HAT10.out.up HXX.out HAT10.out.lt)
            have hlow : (z.1 : Int) = (z.1 : Int) := rfl
            clear hnx hr1 hb1 hbx hlow
            cases tj
            · cases e1 : ((z.1 : Int) == a0) <;> cases e2 : (z.2 == a1)
              all_goals
                have HN2 : Hid ((Z.take (j + 1)).any (fun x => (x.1 : Int) == a0 && x.2 == a1) = _) := Lib.hid (by rw [HNX.out, e1, e2])
                go_wp2_with (first | (refine lm_row' (cs := [.int .i64 (z.1 : Int), .int .i64 z.2]) (.tmp 98) rfl rfl Try.underlying38 rfl info_at rfl ?_ ?_; (· exact HRG.out)) | (refine sn_row' (t := 38) (W := wx) (cs := [.int .i64 (z.1 : Int), .int .i64 z.2]) (zs := [.int .i64 0, .int .i64 0]) (.tmp 20) (.tmp 99) rfl rfl rfl rfl info_at rfl two_one ?_ ?_ ?_; (· rfl); (· rfl)) | (refine ld_row' (cs := [.int .i64 (z.1 : Int), .int .i64 z.2]) (t := 38) (.tmp 20) rfl rfl Try.underlying38 rfl info_at rfl ?_ ?_; (· exact HZB.out)) | (refine ld_row' (cs := [.int .i64 a0, .int .i64 a1]) (t := 38) (.tmp 17) rfl rfl Try.underlying38 rfl info_at rfl ?_ ?_; (· exact HAX.out)))
                go_roundw
                case rel => exact ⟨j + 1, by omega, by rw [HN2.out]; rfl, by go_num, HXX.out⟩
                case measure => simp [intOf]; omega
            · have HN2 : Hid ((Z.take (j + 1)).any (fun x => (x.1 : Int) == a0 && x.2 == a1) = true) := Lib.hid (by rw [HNX.out, Bool.true_or])
              go_wp2_with (first | (refine lm_row' (cs := [.int .i64 (z.1 : Int), .int .i64 z.2]) (.tmp 98) rfl rfl Try.underlying38 rfl info_at rfl ?_ ?_; (· exact HRG.out)) | (refine sn_row' (t := 38) (W := wx) (cs := [.int .i64 (z.1 : Int), .int .i64 z.2]) (zs := [.int .i64 0, .int .i64 0]) (.tmp 20) (.tmp 99) rfl rfl rfl rfl info_at rfl two_one ?_ ?_ ?_; (· rfl); (· rfl)))
              go_roundw
              case rel => exact ⟨j + 1, by omega, by rw [HN2.out], by go_num, HXX.out⟩
              case measure => simp [intOf]; omega
          · obtain rfl : j = Z.length := by omega
            have hfin : ((Z.take Z.length).any fun x => (x.1 : Int) == a0 && x.2 == a1) = tb := by rw [List.take_length]; exact HTD.out
            generalize (Z.take Z.length).any (fun x => (x.1 : Int) == a0 && x.2 == a1) = tk at hfin ⊢
            subst hfin
            have HBX := Lib.hid (HB10.out.next hbx)
            have HAX := Lib.hid (HAT10.out.up hbx HAT10.out.lt)
            have CD := Lib.hid (C6.out _ _ _ _ (HT310.out.below hbx))
            clear hbx
            go_wp2_with (refine ld_row' (cs := [.int .i64 a0, .int .i64 a1]) (t := 38) (.tmp 17) rfl rfl Try.underlying38 rfl info_at rfl ?_ ?_; (· exact HAX.out))
            refine CD.out.mono ?_; rintro e w11 ⟨v11, x, y, z, rfl, hb11⟩
            have HU11 := Lib.hid (up_trans HBX.out.up (up_trans hb11 (up_alloc w11 (.cells #[.int .i64 x, .int .i64 y, .int .i64 z] 34))))
            clear hb11
            go_wp2_with (refine sn_row' (t := 34) (W := w11) (cs := [.int .i64 x, .int .i64 y, .int .i64 z]) (zs := [.int .i64 0, .int .i64 0, .int .i64 0]) (.tmp 22) (.tmp 112) rfl rfl rfl rfl info_mv rfl three_one ?_ ?_ ?_; (· rfl); (· rfl))
            refine (c_talive _).mono ?_; rintro e w12 ⟨rfl, hb12⟩
            go_wp2
            go_ret
            exact ⟨rfl, up_trans HU11.out hb12⟩
end Go.Proofs.Ytnmjjemkaamcfaa

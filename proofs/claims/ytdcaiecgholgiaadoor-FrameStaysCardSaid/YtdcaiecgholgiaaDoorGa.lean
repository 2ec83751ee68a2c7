/- The law of frames: what is set is got and nothing else has changed; who calls and returns is behind the call; what may be stays so. -/
import Derived.Test.YtdcaiecgholgiaaDoorFv
namespace Go.Proofs.YtdcaiecgholgiaaDoor
open Go.RowKit

def withR (f : FR) (r : Nat) (x : Int) : FR := { f with regs := f.regs.set r x }
def withB (f : FR) (r s : Nat) (x : Int) : FR := { f with regs := f.regs.set r x, words := f.words.set s x }
def withC (f : FR) (k : Nat) (pc : Int) : FR := { f with pc := pc, stack := f.stack.set k (f.pc + 1), depth := (k : Int) + 1 }
def withP (f : FR) (pc : Int) : FR := { f with pc := pc }
theorem okR {f : FR} (h : f.Ok) (r : Nat) (x : Int) : (withR f r x).Ok := h.reg r x
theorem okB {f : FR} (h : f.Ok) (r s : Nat) (x : Int) : (withB f r s x).Ok := (h.reg r x).word s x
theorem okC {f : FR} (h : f.Ok) (k : Nat) (pc : Int) : (withC f k pc).Ok := ((h.pc pc).stk k (f.pc + 1)).dep _
theorem okP {f : FR} (h : f.Ok) (pc : Int) : (withP f pc).Ok := h.pc pc
theorem mem_set {l : List Int} {i : Nat} {x y : Int} (h : y ∈ l.set i x) : y = x ∨ y ∈ l := by
  rcases List.mem_or_eq_of_mem_set h with h | h
  · exact .inr h
  · exact .inl h
theorem fineR {f : FR} (h : FineF f) (r : Nat) {x : Int} (hx : fineW x = true) : FineF (withR f r x) :=
  ⟨h.pc0, h.pc1, h.d0, h.d1, fun y hy => by
    rcases mem_set hy with rfl | hy
    · exact hx
    · exact h.regs y hy, h.words, h.low, h.high⟩
theorem fineB {f : FR} (h : FineF f) (r s : Nat) {x : Int} (hx : fineW x = true) : FineF (withB f r s x) :=
  ⟨h.pc0, h.pc1, h.d0, h.d1, (fineR h r hx).regs, fun y hy => by
    rcases mem_set hy with rfl | hy
    · exact hx
    · exact h.words y hy, h.low, h.high⟩
theorem fineC {f : FR} (h : FineF f) (k : Nat) (hk : f.depth = k) (hk8 : k < 8) {pc : Int} (h0 : 0 ≤ pc) (h1 : pc ≤ 64) (h64 : f.pc ≠ 64) : FineF (withC f k pc) := by
  have p0 := h.pc0
  have p1 := h.pc1
  refine ⟨h0, h1, by simp only [withC]; omega, by simp only [withC]; omega, h.regs, h.words, fun i x hx hi => ?_, fun i x hx hi => ?_⟩
  · simp only [withC, List.getElem?_set] at hx hi
    split at hx
    · split at hx
      · obtain rfl := Option.some.inj hx
        exact (placeB_iff _).2 (by omega)
      · cases hx
    · exact h.low i x hx (by omega)
  · simp only [withC, List.getElem?_set] at hx hi
    split at hx
    · omega
    · exact h.high i x hx (by omega)
theorem v_set {f : FR} (h : FineF f) (r : Nat) (hr : r < 8) {x : Int} (hx : fineW x = true) : setF f r x = (withR f r x, 0) := by
  unfold setF
  rw [if_neg (by rw [fineF_of h]; decide), if_pos ⟨by omega, by omega, hx⟩, Int.toNat_natCast]
  rfl
theorem v_store {f : FR} (h : FineF f) (r s : Nat) (hs : s < 16) {x : Int} (hx : fineW x = true) : storeF (withR f r x) s x = (withB f r s x, 0) := by
  unfold storeF
  rw [if_neg (by rw [fineF_of (fineR h r hx)]; decide), if_pos ⟨by omega, by omega, hx⟩, Int.toNat_natCast]
  rfl
theorem v_get {f : FR} (hf : f.Ok) (h : FineF f) (r s : Nat) (hr : r < 8) {x : Int} (hx : fineW x = true) : getF (withB f r s x) r = (x, 0) := by
  unfold getF
  rw [if_neg (by rw [fineF_of (fineB h r s hx)]; decide), if_pos (by omega), Int.toNat_natCast]
  have hl : r < f.regs.length := by rw [hf.regs]; exact hr
  simp [withB, List.getD_eq_getElem?_getD, hl]
theorem v_load {f : FR} (hf : f.Ok) (h : FineF f) (r s : Nat) (hs : s < 16) {x : Int} (hx : fineW x = true) : loadF (withB f r s x) s = (x, 0) := by
  unfold loadF
  rw [if_neg (by rw [fineF_of (fineB h r s hx)]; decide), if_pos (by omega), Int.toNat_natCast]
  have hl : s < f.words.length := by rw [hf.words]; exact hs
  simp [withB, List.getD_eq_getElem?_getD, hl]
theorem v_call19 {f : FR} (h : FineF f) (pc : Int) (hd : f.depth = 8) : callF f pc = (f, 19) := by
  unfold callF
  rw [if_neg (by rw [fineF_of h]; decide), if_pos hd]
theorem v_call8 {f : FR} (h : FineF f) (pc : Int) (hd : f.depth ≠ 8) (h64 : f.pc = 64) : callF f pc = (f, 8) := by
  unfold callF
  rw [if_neg (by rw [fineF_of h]; decide), if_neg hd, if_neg (fun k => k.2 h64)]
theorem v_call {f : FR} (h : FineF f) (k : Nat) (hk : f.depth = k) (hk8 : k < 8) {pc : Int} (h0 : 0 ≤ pc) (h1 : pc ≤ 64) (h64 : f.pc ≠ 64) : callF f pc = (withC f k pc, 0) := by
  unfold callF
  rw [if_neg (by rw [fineF_of h]; decide), if_neg (by omega), if_pos ⟨(placeB_iff _).2 ⟨h0, h1⟩, h64⟩, hk, Int.toNat_natCast]
  rfl
theorem v_ret {f : FR} (hf : f.Ok) (h : FineF f) (k : Nat) (hk : f.depth = k) (hk8 : k < 8) {pc : Int} (h0 : 0 ≤ pc) (h1 : pc ≤ 64) (h64 : f.pc ≠ 64) : retF (withC f k pc) = (withP f (f.pc + 1), 0) := by
  have hl : k < f.stack.length := by rw [hf.stack]; exact hk8
  have hz : f.stack[k] = 0 := h.high k _ (List.getElem?_eq_getElem hl) (by omega)
  have hs : (f.stack.set k (f.pc + 1)).set k 0 = f.stack := by
    rw [List.set_set, ← hz, List.set_getElem_self]
  unfold retF
  rw [if_neg (by rw [fineF_of (fineC h k hk hk8 h0 h1 h64)]; decide), if_neg (by simp only [withC]; omega)]
  simp only [withC, withP, show (k : Int) + 1 - 1 = (k : Int) by omega, Int.toNat_natCast, hs]
  rw [← hk]
  simp [List.getD_eq_getElem?_getD, hl]
theorem v_go {f : FR} (h : FineF f) (h64 : f.pc ≠ 64) : goF f (f.pc + 1) = (withP f (f.pc + 1), 0) := by
  have p0 := h.pc0
  have p1 := h.pc1
  unfold goF
  rw [if_neg (by rw [fineF_of h]; decide), if_pos ((placeB_iff _).2 (by omega))]
  rfl
theorem undo {f : FR} (hf : f.Ok) {w : World} {b : Nat} {r s : Nat} (hr : r < 8) (hs : s < 16) {x : Int} {t : TypeId} (h : Blk w b (withB f r s x).cells t) :
    Blk ((w.setCell ⟨b, 2 + r, none⟩ (.int .i64 (f.regs.getD r 0))).setCell ⟨b, 10 + s, none⟩ (.int .i64 (f.words.getD s 0))) b f.cells t := by
  have h1 := h.sreg (okB hf r s x) r hr (f.regs.getD r 0)
  have h2 := h1.sword ((okB hf r s x).reg r (f.regs.getD r 0)) s hs (f.words.getD s 0)
  have hl1 : r < f.regs.length := by rw [hf.regs]; exact hr
  have hl2 : s < f.words.length := by rw [hf.words]; exact hs
  have e : ({ ({ withB f r s x with regs := (withB f r s x).regs.set r (f.regs.getD r 0) } : FR) with words := (withB f r s x).words.set s (f.words.getD s 0) } : FR) = f := by
    obtain ⟨a, b, c, d, e, g⟩ := f
    simp only [withB, List.set_set, FR.mk.injEq, true_and]
    simp only at hl1 hl2
    simp [List.getD_eq_getElem?_getD, hl1, hl2]
  have ec := congrArg FR.cells e
  have h3 : Blk ((w.setCell ⟨b, 2 + r, none⟩ (.int .i64 (f.regs.getD r 0))).setCell ⟨b, 10 + s, none⟩ (.int .i64 (f.words.getD s 0))) b (({ ({ withB f r s x with regs := (withB f r s x).regs.set r (f.regs.getD r 0) } : FR) with words := (withB f r s x).words.set s (f.words.getD s 0) } : FR)).cells t := h2
  exact Eq.mp (congrArg (fun l => Blk ((w.setCell ⟨b, 2 + r, none⟩ (.int .i64 (f.regs.getD r 0))).setCell ⟨b, 10 + s, none⟩ (.int .i64 (f.words.getD s 0))) b l t) ec) h3

set_option maxRecDepth 100000 in
set_option maxHeartbeats 8000000 in
theorem l_stays_no {f : FR} (hf : f.Ok) (at_ x : Int) (h0 : 0 ≤ at_) (h1 : at_ ≤ 255) (x0 : -2147483648 ≤ x) (x1 : x ≤ 2147483647) (hff : fineF f = false) (w : World) (ht : EnvT w) :
    Calls Tryd.prog 6 #[.agg f.cells.toArray, .int .u8 at_, .int .i32 x] w fun e w' => e = .returned (.bool true) ∧ Below w.heap.size w w' := by
  have HT := Lib.hid ht
  clear ht
  obtain ⟨r, hr⟩ : ∃ r : Nat, at_ % 8 = r := ⟨(at_ % 8).toNat, by omega⟩
  obtain ⟨s, hs⟩ : ∃ s : Nat, at_ % 16 = s := ⟨(at_ % 16).toNat, by omega⟩
  have hr8 : r < 8 := by omega
  have hs16 : s < 16 := by omega
  have hx := fineW_of x x0 x1
  have N1 := fun W => c_ffine hf W
  rw [hff] at N1
  have N2 := fun W => c_fset hf r x W
  rw [show setF f r x = (f, 1) from if_pos hff] at N2
  have HF := Lib.hid N1
  have HS := Lib.hid N2
  clear N1 N2 hff hx
  go_enter Tryd.func6, Tryd.ntmps6
  have HD0 := Lib.hid ((Blk.new w f.cells 25).alloc (.cells f.cells.toArray 26))
  have HG0 := Lib.hid (box_two w (.cells f.cells.toArray 25) f 26)
  have HQ0 := Lib.hid (up_trans (up_alloc w (.cells f.cells.toArray 25)) (up_alloc _ (.cells f.cells.toArray 26)))
  go_wp2_with (first | (refine ld_ref hf (Blk.new w f.cells 25) rfl (.tmp 3) rfl rfl ?_) | (refine sn_prog (by simp) hf rfl (.tmp 7) (.tmp 26) rfl rfl rfl ?_) | (refine ld_prog hf HG0.out rfl (.tmp 7) rfl rfl ?_))
  refine (HF.out _).mono ?_
  rintro e w1 ⟨rfl, hb1⟩
  have HD1 := Lib.hid (HD0.out.up hb1 HD0.out.lt)
  have HG1 := Lib.hid (HG0.out.up hb1 HG0.out.lt)
  have HQ1 := Lib.hid (up_trans HQ0.out hb1)
  clear hb1 HD0 HG0
  go_wp2_with (first | (refine ld_prog hf HG1.out rfl (.tmp 7) rfl rfl ?_))
  refine (HS.out _).mono ?_
  rintro e w2 ⟨rfl, hb2⟩
  have HD2 := Lib.hid (HD1.out.up hb2 HD1.out.lt)
  have HG2 := Lib.hid (HG1.out.up hb2 HG1.out.lt)
  have HQ2 := Lib.hid (up_trans HQ1.out hb2)
  clear hb2 HD1 HG1
  go_wp2_with (first | (refine sn_prog rfl hf rfl (.tmp 8) (.tmp 38) rfl rfl rfl ?_) | (go_at_call 13; refine (c_alive _ (HT.out.up (up_trans HQ2.out (up_alloc w2 _)))).mono ?_; rintro e wz ⟨rfl, hbz⟩))
  go_ret
  exact ⟨rfl, up_trans (up_trans HQ2.out (up_alloc w2 _)) hbz⟩
end Go.Proofs.YtdcaiecgholgiaaDoor

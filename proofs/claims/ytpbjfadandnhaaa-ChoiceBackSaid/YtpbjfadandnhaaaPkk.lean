/- The document's Bytes of choices. -/
import Derived.Test.YtpbjfadandnhaaaPkj
import Derived.Laws.BytesString
namespace Go.Proofs.Ytpbjfadandnhaaa
open Go.RowKit

theorem ei_byte : EI Try.prog 51 5 (.int .u8 0) 1 1 := ⟨Try.underlying51, by kernel_rfl, rfl, by omega, by omega⟩
theorem fold_push : ∀ (l : List UInt8) (acc : ByteArray), (l.map fun b => ((b.toNat : Nat) : Int)).foldl (fun r n => r.push (UInt8.ofNat n.toNat)) acc = acc ++ ⟨l.toArray⟩
  | [], acc => by
    apply ByteArray.ext
    simp
  | x :: t, acc => by
    rw [List.map_cons, List.foldl_cons, fold_push t]
    apply ByteArray.ext
    simp
theorem conv_row {P : Program} {src dst e : TypeId} (hs : P.underlying src = some (.slice e)) (he : P.underlying e = some (.int .u8)) (hd : P.underlying dst = some .string)
    {W : World} {pl : Nat → Prop} {A : Option Addr} {n c : Nat} {l : List UInt8} (h : RD W pl 1 A n (Lib.byteCells l)) (h0 : 0 < n) : (convert src dst (.slice A n c)).run P W = .ok (.string ⟨l.toArray⟩) W := by
  obtain ⟨b, o, rfl, _, _, hc⟩ := h.at_ h0
  have hn : (Lib.byteCells l).length = n := by rw [h.len, Nat.mul_one]
  rw [run_convert_bytes_string _ src dst e _ n c hs he hd]
  have hl := run_loadCells_list (P := P) W ⟨b, o, none⟩ (Lib.byteCells l) (fun j v hj => by rw [add_off]; exact hc j v hj)
  rw [hn] at hl
  rw [run_bytesToString _ ⟨b, o, none⟩ n c (l.map fun b => ((b.toNat : Nat) : Int)) (by rw [hl]; simp [Lib.byteCells, Function.comp_def]), fold_push]
  congr 2

def RStrPost (w : World) (l : List UInt8) (e : Ending) (w' : World) : Prop := e = .returned (.string ⟨l.toArray⟩) ∧ Below w.heap.size w w'
/-- A choice's bytes, as they are written down by its kind. -/
theorem enc_pick {x : CH} (h : x.chk = 0) (hk : x.k = 0) : [Value.int .u8 0, Value.int .u8 (x.v % 256), Value.int .u8 (x.w % 256)] = Lib.byteCells (chEnc x) := by
  rw [← raw_enc h]
  unfold chRawC chX chY
  rw [hk]
  rfl
theorem enc_tick {x : CH} (h : x.chk = 0) (hk : x.k = 1) : [Value.int .u8 1, Value.int .u8 (x.v / 256 % 256), Value.int .u8 (x.v % 256)] = Lib.byteCells (chEnc x) := by
  rw [← raw_enc h]
  unfold chRawC chX chY
  rw [hk]
  rfl
theorem enc_tick' {x : CH} (h : x.chk = 0) (hk : x.k = 1) (h0 : 0 ≤ x.v) (h1 : x.v ≤ 65535) : [Value.int .u8 1, Value.int .u8 (x.v / 256), Value.int .u8 (x.v % 256)] = Lib.byteCells (chEnc x) := by
  rw [← enc_tick h hk, Int.emod_eq_of_lt (a := x.v / 256) (by omega) (by omega)]
theorem enc_flat1 (p : List UInt8) (L : List CH) (x : CH) : Lib.byteCells (p ++ (L ++ [x]).flatMap chEnc) = Lib.byteCells (p ++ L.flatMap chEnc) ++ Lib.byteCells (chEnc x) := by
  rw [List.flatMap_append, ← List.append_assoc, Lib.byteCells_append]
  congr 1
  rw [List.flatMap_cons, List.flatMap_nil, List.append_nil]

set_option maxRecDepth 100000 in
set_option maxHeartbeats 4000000 in
theorem c_rbytes {w : World} {pl : Nat → Prop} {A : Option Addr} {c : Nat} {L : List CH} (hR : RD w pl 3 A L.length (L.flatMap chC)) (hl : L.length ≤ 10000000000000) :
    Calls Try.prog 11 #[.slice A L.length c] w (RStrPost w (chBytes L)) := by
  by_cases h : (chAll L).2 = 0
  · obtain ⟨h2, hok⟩ := all_ok h
    have HX := Lib.hid (bytes_yes h)
    have CA := Lib.hid (c_rall (c := c) hR hl)
    rw [all_of h2 hok] at CA
    have HR := Lib.hid hR
    have HOK := Lib.hid hok
    have hl0 : (0 : Int) ≤ L.length := by omega
    have hl1 : (L.length : Int) ≤ 2000 := by omega
    clear hR hok h
    go_enter Try.func11, Try.ntmps11
    go_wp2_with fail
    refine CA.out.mono ?_
    rintro e w1 ⟨rfl, hb1⟩
    have HB1 := Lib.hid hb1
    have H0 := Lib.hid (World.ownsRow_lit (base := w.heap.size) (e := 5) (size := 1) w1 #[.int .u8 ((L.length : Int) / 256), .int .u8 ((L.length : Int) % 256)] 2 hb1.size (by unfold maxLen; omega) rfl)
    have hp := pair_cells (n := L.length) (by omega) (by omega)
    rw [Int.emod_eq_of_lt (a := (L.length : Int) / 256) (by omega) (by omega)] at hp
    have HP := Lib.hid hp
    clear hb1 hp
    go_wp2
    go_loopw [5, 6] (fun v i wr => ∃ k : Nat, k ≤ L.length ∧ i = .int .i64 k ∧ wr.ownsRow w.heap.size 5 1 v (2 + 3 * k) (Lib.byteCells (chPair L.length ++ (L.take k).flatMap chEnc)) ∧ Below w.heap.size w wr) (fun _ i _ => L.length - (intOf i).toNat)
    case atStart =>
      refine ⟨0, Nat.zero_le _, rfl, ?_, HB1.out.alloc HB1.out.size _⟩
      rw [List.take_zero, List.flatMap_nil, List.append_nil, ← HP.out]
      exact H0.out
    case round =>
      obtain ⟨k, hk, rfl, hown, hb⟩ := hrel
      have HB := Lib.hid hb
      have HOWN := Lib.hid hown
      have hsz := hb.size
      by_cases hlt : k < L.length
      · have hx : L[k]? = some L[k] := List.getElem?_eq_getElem hlt
        obtain ⟨bL, oL, rfl, hbl, hcells⟩ := HR.out.ch k _ hx hlt
        have HN := Lib.hid (ls_take L k _ hx)
        have HC := Lib.hid (HOK.out L[k] (List.getElem_mem hlt))
        generalize L[k] = x at hcells HN HC
        obtain ⟨x0, x1, x2⟩ := cells_up hbl hcells hb
        have hk0 : (0 : Int) ≤ k := by omega
        have hk1 : (k : Int) < L.length := by omega
        clear hx hcells hb hown
        rcases chk_ways HC.out with ⟨hkx, v0, v1, u0, u1⟩ | ⟨hkx, v0, v1, hux⟩
        · have HE := Lib.hid (enc_pick HC.out hkx)
          rw [hkx] at x0
          clear hkx v0 v1 u0 u1
          go_wp2_with (at_builtin; refine wpList_app ei_byte rfl (.tmp 37) (.tmp 44) rfl _ _ rfl ((HOWN.out.alloc _).alloc _) rfl (RD.of_blk (pl := fun _ => True) (xs := [.int .u8 0, .int .u8 (x.v % 256), .int .u8 (x.w % 256)]) (Blk.new' _ _ _ _ (by simp)) rfl trivial) (fun u hu => by simp only [List.mem_cons, List.not_mem_nil, or_false] at hu; rcases hu with rfl | rfl | rfl <;> rfl) (by omega) (by simp; omega) ?_; intro v' w4 hown4 hb4)
          go_roundw
          case rel => exact ⟨k + 1, by omega, by go_num, by rw [HN.out, enc_flat1, ← HE.out]; exact hown4, ((HB.out.alloc hsz _).alloc (by simp; omega) _).trans hb4⟩
          case measure => simp [intOf]; omega
        · have HE := Lib.hid (enc_tick' HC.out hkx v0 v1)
          rw [hkx] at x0
          clear hkx hux
          go_wp2_with (at_builtin; refine wpList_app ei_byte rfl (.tmp 46) (.tmp 55) rfl _ _ rfl ((HOWN.out.alloc _).alloc _) rfl (RD.of_blk (pl := fun _ => True) (xs := [.int .u8 1, .int .u8 (x.v / 256), .int .u8 (x.v % 256)]) (Blk.new' _ _ _ _ (by simp)) rfl trivial) (fun u hu => by simp only [List.mem_cons, List.not_mem_nil, or_false] at hu; rcases hu with rfl | rfl | rfl <;> rfl) (by omega) (by simp; omega) ?_; intro v' w4 hown4 hb4)
          go_roundw
          case rel => exact ⟨k + 1, by omega, by go_num, by rw [HN.out, enc_flat1, ← HE.out]; exact hown4, ((HB.out.alloc hsz _).alloc (by simp; omega) _).trans hb4⟩
          case measure => simp [intOf]; omega
      · obtain rfl : k = L.length := by omega
        rw [List.take_length] at HOWN
        obtain ⟨A', c', rfl, _, _, hrd⟩ := own_slice HOWN.out
        have hcv := conv_row (c := c') Try.underlying51 Try.underlying5 Try.underlying9 hrd (by omega)
        clear hown hb
        go_wp2_with (rw [hcv])
        go_ret
        exact ⟨by rw [HX.out]; rfl, HB.out⟩
  · have CA := Lib.hid (c_rall (c := c) hR hl)
    rw [bytes_no h]
    generalize chAll L = x at h CA
    obtain ⟨i, e⟩ := x
    have hz : (e != 0) = true := by simpa using h
    clear h hR
    go_enter Try.func11, Try.ntmps11
    go_wp2_with fail
    refine CA.out.mono ?_
    rintro e w1 ⟨rfl, hb1⟩
    go_wp2
    go_ret
    exact ⟨rfl, hb1⟩
end Go.Proofs.Ytpbjfadandnhaaa

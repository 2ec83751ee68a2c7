/- Plain maths: how many bits of a number are set, as the library reckons it; the lowest bit that is set. -/
import Derived.Lib.TrailingZeros
namespace Go.Proofs.YtlplfnfaoaomkaaDoor

/-- The bits of n below j that are set, rising. -/
def lowN (j n : Nat) : List Nat := (List.range j).filter n.testBit
def cntN (j n : Nat) : Nat := (lowN j n).length

theorem and_split (k a b c d : Nat) (hb : b < 2 ^ k) (hd : d < 2 ^ k) : (2 ^ k * a + b) &&& (2 ^ k * c + d) = 2 ^ k * (a &&& c) + (b &&& d) := by
  have h1 := Nat.div_add_mod ((2 ^ k * a + b) &&& (2 ^ k * c + d)) (2 ^ k)
  rw [Nat.and_div_two_pow, Nat.and_mod_two_pow] at h1
  have e1 : (2 ^ k * a + b) / 2 ^ k = a := by rw [Nat.mul_add_div (Nat.two_pow_pos k), Nat.div_eq_of_lt hb, Nat.add_zero]
  have e2 : (2 ^ k * c + d) / 2 ^ k = c := by rw [Nat.mul_add_div (Nat.two_pow_pos k), Nat.div_eq_of_lt hd, Nat.add_zero]
  have e3 : (2 ^ k * a + b) % 2 ^ k = b := by rw [Nat.mul_add_mod, Nat.mod_eq_of_lt hb]
  have e4 : (2 ^ k * c + d) % 2 ^ k = d := by rw [Nat.mul_add_mod, Nat.mod_eq_of_lt hd]
  rw [e1, e2, e3, e4] at h1
  exact h1.symm
theorem and_split8 (a b c d : Nat) (hb : b < 256) (hd : d < 256) : (256 * a + b) &&& (256 * c + d) = 256 * (a &&& c) + (b &&& d) := and_split 8 a b c d hb hd

/-- A mask of j bytes, each c. -/
def msk (c : Nat) : Nat → Nat
  | 0 => 0
  | j + 1 => 256 * msk c j + c
theorem msk_succ (c j : Nat) : msk c (j + 1) = 256 * msk c j + c := rfl
def st1 (j n : Nat) : Nat := (n / 2 &&& msk 85 j) + (n &&& msk 85 j)
def st2 (j n : Nat) : Nat := (n / 4 &&& msk 51 j) + (n &&& msk 51 j)
def st3 (j n : Nat) : Nat := (n / 16 + n) &&& msk 15 j
def sums : Nat → Nat → Nat
  | 0, _ => 0
  | j + 1, n => 256 * sums j (n / 256) + cntN 8 (n % 256)

theorem byte1 : ∀ r < 256, ∀ q < 2, (128 * q + r / 2) &&& 85 = r / 2 &&& 85 := by decide +kernel
theorem byte2 : ∀ r < 256, ∀ q < 4, (64 * q + r / 4) &&& 51 = r / 4 &&& 51 := by decide +kernel
theorem byte3 : ∀ r < 69, ∀ l < 5, (16 * l + (r + r / 16)) &&& 15 = (r / 16 + r) &&& 15 := by decide +kernel
theorem byteS : ∀ r < 256, ((r / 2 &&& 85) + (r &&& 85) < 256 ∧ (((r / 2 &&& 85) + (r &&& 85)) / 4 &&& 51) + (((r / 2 &&& 85) + (r &&& 85)) &&& 51) ≤ 68 ∧
    ((((r / 2 &&& 85) + (r &&& 85)) / 4 &&& 51) + (((r / 2 &&& 85) + (r &&& 85)) &&& 51)) % 16 ≤ 4 ∧
    (((((r / 2 &&& 85) + (r &&& 85)) / 4 &&& 51) + (((r / 2 &&& 85) + (r &&& 85)) &&& 51)) / 16 + ((((r / 2 &&& 85) + (r &&& 85)) / 4 &&& 51) + (((r / 2 &&& 85) + (r &&& 85)) &&& 51))) &&& 15 = cntN 8 r) := by
  decide +kernel

theorem st1_split (j q r : Nat) (hr : r < 256) : st1 (j + 1) (256 * q + r) = 256 * st1 j q + ((r / 2 &&& 85) + (r &&& 85)) := by
  unfold st1
  rw [msk_succ]
  have e : (256 * q + r) / 2 = 256 * (q / 2) + (128 * (q % 2) + r / 2) := by omega
  rw [e, and_split8 _ _ _ _ (by omega) (by omega), and_split8 _ _ _ _ hr (by omega), byte1 r hr _ (by omega)]
  omega
theorem st2_split (j q r : Nat) (hr : r < 256) : st2 (j + 1) (256 * q + r) = 256 * st2 j q + ((r / 4 &&& 51) + (r &&& 51)) := by
  unfold st2
  rw [msk_succ]
  have e : (256 * q + r) / 4 = 256 * (q / 4) + (64 * (q % 4) + r / 4) := by omega
  rw [e, and_split8 _ _ _ _ (by omega) (by omega), and_split8 _ _ _ _ hr (by omega), byte2 r hr _ (by omega)]
  omega
theorem st3_split (j q r : Nat) (hr : r ≤ 68) (hq : q % 16 ≤ 4) : st3 (j + 1) (256 * q + r) = 256 * st3 j q + ((r / 16 + r) &&& 15) := by
  unfold st3
  rw [msk_succ]
  have e : (256 * q + r) / 16 + (256 * q + r) = 256 * (q / 16 + q) + (16 * (q % 16) + (r + r / 16)) := by omega
  rw [e, and_split8 _ _ _ _ (by omega) (by omega), byte3 r (by omega) _ (by omega)]
theorem st_all : ∀ j n, st3 j (st2 j (st1 j n)) = sums j n ∧ st2 j (st1 j n) % 16 ≤ 4
  | 0, n => by simp [st3, st2, st1, msk, sums]
  | j + 1, n => by
    obtain ⟨ih1, ih2⟩ := st_all j (n / 256)
    have hr : n % 256 < 256 := Nat.mod_lt _ (by omega)
    obtain ⟨b1, b2, b3, b4⟩ := byteS _ hr
    have e : n = 256 * (n / 256) + n % 256 := by omega
    have h : st2 (j + 1) (st1 (j + 1) n) = 256 * st2 j (st1 j (n / 256)) + ((((n % 256) / 2 &&& 85) + ((n % 256) &&& 85)) / 4 &&& 51) + ((((n % 256) / 2 &&& 85) + ((n % 256) &&& 85)) &&& 51) := by
      conv => lhs; rw [e]
      rw [st1_split _ _ _ hr, st2_split _ _ _ b1, Nat.add_assoc]
    refine ⟨?_, by rw [h]; clear h e ih1 b4 hr ih2 b2 b1; omega⟩
    rw [h, Nat.add_assoc, st3_split _ _ _ b2 ih2, ih1, b4]
    rfl

theorem cnt_le (j n : Nat) : cntN j n ≤ j := by
  unfold cntN lowN
  have := List.length_filter_le n.testBit (List.range j)
  simpa using this
theorem range_add' (a b : Nat) : List.range (a + b) = List.range a ++ (List.range b).map (a + ·) := List.range_add
theorem low_split (a j n : Nat) : lowN (a + j) n = lowN a n ++ (lowN j (n / 2 ^ a)).map (a + ·) := by
  unfold lowN
  rw [List.range_add, List.filter_append]
  congr 1
  rw [List.filter_map]
  congr 1
  apply List.filter_congr
  intro i _
  simp [Nat.testBit_div_two_pow, Nat.add_comm]
theorem low_mod (a n : Nat) : lowN a (n % 2 ^ a) = lowN a n := by
  unfold lowN
  apply List.filter_congr
  intro i hi
  have hi := List.mem_range.1 hi
  simp [Nat.testBit_mod_two_pow, hi]
theorem cnt_split (j n : Nat) : cntN (8 + j) n = cntN 8 (n % 256) + cntN j (n / 256) := by
  unfold cntN
  rw [low_split, List.length_append, List.length_map, ← low_mod 8 n]
theorem cnt64 (n : Nat) : cntN 64 n = cntN 8 (n % 256) + cntN 8 (n / 256 % 256) + cntN 8 (n / 256 / 256 % 256) + cntN 8 (n / 256 / 256 / 256 % 256) + cntN 8 (n / 256 / 256 / 256 / 256 % 256) + cntN 8 (n / 256 / 256 / 256 / 256 / 256 % 256)
    + cntN 8 (n / 256 / 256 / 256 / 256 / 256 / 256 % 256) + cntN 8 (n / 256 / 256 / 256 / 256 / 256 / 256 / 256 % 256) := by
  have h0 : ∀ n, cntN 0 n = 0 := fun n => rfl
  rw [cnt_split 56 n, cnt_split 48 (n / 256), cnt_split 40 (n / 256 / 256), cnt_split 32 (n / 256 / 256 / 256), cnt_split 24 (n / 256 / 256 / 256 / 256), cnt_split 16 (n / 256 / 256 / 256 / 256 / 256), cnt_split 8 (n / 256 / 256 / 256 / 256 / 256 / 256),
    cnt_split 0 (n / 256 / 256 / 256 / 256 / 256 / 256 / 256), h0]
  omega
theorem fold8 (a b c d e f g h : Nat) (ha : a ≤ 8) (hb : b ≤ 8) (hc : c ≤ 8) (hd : d ≤ 8) (he : e ≤ 8) (hf : f ≤ 8) (hg : g ≤ 8) (hh : h ≤ 8) (x y z : Nat)
    (hx : x = 256 * (256 * (256 * (256 * (256 * (256 * (256 * h + g) + f) + e) + d) + c) + b) + a) (hy : y = x + x / 256) (hz : z = y + y / 65536) : (z + z / 4294967296) % 128 = a + b + c + d + e + f + g + h ∧ y < 18446744073709551616 ∧ z < 18446744073709551616 ∧ z + z / 4294967296 < 18446744073709551616 := by
  have dv : ∀ k q r : Nat, r < k → (k * q + r) / k = q := fun k q r hr => by rw [Nat.mul_add_div (by omega), Nat.div_eq_of_lt hr, Nat.add_zero]
  have q1 : x / 256 = 256 * (256 * (256 * (256 * (256 * (256 * h + g) + f) + e) + d) + c) + b := by rw [hx]; exact dv _ _ _ (by omega)
  have hy' : y = 65536 * (65536 * (65536 * (256 * h + (g + h)) + (256 * (f + g) + (e + f))) + (256 * (d + e) + (c + d))) + (256 * (b + c) + (a + b)) := by rw [hy, q1, hx]; clear q1 hy hx hz dv; omega
  clear q1 hy hx
  have q2 : y / 65536 = 65536 * (65536 * (256 * h + (g + h)) + (256 * (f + g) + (e + f))) + (256 * (d + e) + (c + d)) := by rw [hy']; exact dv _ _ _ (by clear dv hy' hz; omega)
  have hz' : z = 4294967296 * (65536 * (256 * h + (g + h)) + (256 * (f + g + h) + (e + f + g + h))) + (65536 * (256 * (d + e + f + g) + (c + d + e + f)) + (256 * (b + c + d + e) + (a + b + c + d))) := by rw [hz, q2, hy']; clear q2 hz hy' dv; omega
  have q3 : z / 4294967296 = 65536 * (256 * h + (g + h)) + (256 * (f + g + h) + (e + f + g + h)) := by rw [hz']; exact dv _ _ _ (by clear dv hy' hz hz' q2; omega)
  have hf' : z + z / 4294967296 = 128 * (33554432 * (65536 * (256 * h + (g + h)) + (256 * (f + g + h) + (e + f + g + h))) + 512 * (256 * (d + e + f + g) + (c + d + e + f)) + 2 * (b + c + d + e) + 512 * (256 * h + (g + h)) + 2 * (f + g + h)) + (a + b + c + d + e + f + g + h) := by
    rw [q3, hz']; clear dv hy' hz hz' q2 q3; omega
  refine ⟨?_, ?_, ?_, ?_⟩
  · rw [hf', Nat.mul_add_mod, Nat.mod_eq_of_lt (by clear dv hy' hz hz' q2 q3 hf'; omega)]
  · clear dv hz hz' q2 q3 hf'; omega
  · clear dv hz hy' q2 q3 hf'; omega
  · clear dv hz hz' q2 q3 hy'; omega
theorem sums8 (n : Nat) : sums 8 n = 256 * (256 * (256 * (256 * (256 * (256 * (256 * cntN 8 (n / 256 / 256 / 256 / 256 / 256 / 256 / 256 % 256) + cntN 8 (n / 256 / 256 / 256 / 256 / 256 / 256 % 256)) + cntN 8 (n / 256 / 256 / 256 / 256 / 256 % 256)) + cntN 8 (n / 256 / 256 / 256 / 256 % 256)) + cntN 8 (n / 256 / 256 / 256 % 256)) + cntN 8 (n / 256 / 256 % 256)) + cntN 8 (n / 256 % 256)) + cntN 8 (n % 256) := by
  simp [sums]
/-- The library's count is the number of bits that are set. -/
theorem ones_fold (n x y z : Nat) (hx : x = st3 8 (st2 8 (st1 8 n))) (hy : y = x + x / 256) (hz : z = y + y / 65536) :
    (z + z / 4294967296) % 128 = cntN 64 n ∧ y < 18446744073709551616 ∧ z < 18446744073709551616 ∧ z + z / 4294967296 < 18446744073709551616 := by
  rw [cnt64]
  rw [(st_all 8 n).1, sums8] at hx
  have := fold8 _ _ _ _ _ _ _ _ (cnt_le 8 (n % 256)) (cnt_le 8 (n / 256 % 256)) (cnt_le 8 (n / 256 / 256 % 256)) (cnt_le 8 (n / 256 / 256 / 256 % 256)) (cnt_le 8 (n / 256 / 256 / 256 / 256 % 256)) (cnt_le 8 (n / 256 / 256 / 256 / 256 / 256 % 256))
    (cnt_le 8 (n / 256 / 256 / 256 / 256 / 256 / 256 % 256)) (cnt_le 8 (n / 256 / 256 / 256 / 256 / 256 / 256 / 256 % 256)) x y z hx hy hz
  exact this

/-- The lowest bit that is set, and what is left without it. -/
theorem low_next (n : Nat) (h0 : n ≠ 0) (h : n < 18446744073709551616) : Lib.ctz 64 n < 64 ∧ lowN 64 n = Lib.ctz 64 n :: lowN 64 (n &&& (n - 1)) := by
  obtain ⟨m, hm, hk⟩ := Lib.ctzFrom_spec 64 n (by omega) h
  have e : Lib.ctz 64 n = Lib.ctzFrom 64 n := by simp [Lib.ctz, h0]
  rw [e]
  generalize Lib.ctzFrom 64 n = z at hm hk
  refine ⟨hk, ?_⟩
  have hp := Nat.two_pow_pos z
  have e1 : n = 2 ^ (z + 1) * m + 2 ^ z := by rw [hm, Nat.pow_succ, Nat.mul_add, Nat.mul_one, ← Nat.mul_assoc]
  have e2 : n - 1 = 2 ^ (z + 1) * m + (2 ^ z - 1) := by omega
  have hlt : 2 ^ z < 2 ^ (z + 1) := by rw [Nat.pow_succ]; omega
  have e3 : n &&& (n - 1) = 2 ^ (z + 1) * m := by
    rw [e2]
    conv => lhs; lhs; rw [e1]
    rw [and_split _ _ _ _ _ hlt (by omega), Nat.and_self]
    have : 2 ^ z &&& (2 ^ z - 1) = 0 := by
      rw [Nat.and_two_pow_sub_one_eq_mod, Nat.mod_self]
    rw [this, Nat.add_zero]
  have hb : ∀ i, n.testBit i = if i < z + 1 then decide (i = z) else m.testBit (i - (z + 1)) := by
    intro i
    rw [e1, Nat.testBit_two_pow_mul_add _ hlt]
    split
    · rw [Nat.testBit_two_pow]
      simp [eq_comm]
    · rfl
  have hb2 : ∀ i, (2 ^ (z + 1) * m).testBit i = if i < z + 1 then false else m.testBit (i - (z + 1)) := by
    intro i
    have := Nat.testBit_two_pow_mul_add m (b := 0) (i := z + 1) (by omega) i
    rw [Nat.add_zero] at this
    rw [this]
    simp
  have e4 : 64 = (z + 1) + (63 - z) := by omega
  unfold lowN
  rw [e3, e4, List.range_add, List.filter_append, List.filter_append, List.range_succ, List.filter_append, List.filter_append]
  have f1 : ∀ p : Nat → Bool, (∀ i, i < z → p i = false) → (List.range z).filter p = [] := by
    intro p hp
    rw [List.filter_eq_nil_iff]
    intro i hi
    rw [hp i (List.mem_range.1 hi)]
    simp
  rw [f1 n.testBit (fun i hi => by rw [hb, if_pos (by omega)]; simp; omega), f1 (2 ^ (z + 1) * m).testBit (fun i hi => by rw [hb2, if_pos (by omega)])]
  have g1 : [z].filter n.testBit = [z] := by simp [hb]
  have g2 : [z].filter (2 ^ (z + 1) * m).testBit = [] := by simp [hb2]
  rw [g1, g2]
  simp only [List.nil_append, List.singleton_append]
  congr 1
  apply List.filter_congr
  intro i hi
  obtain ⟨j, _, rfl⟩ := List.mem_map.1 hi
  rw [hb, hb2, if_neg (by omega), if_neg (by omega)]
theorem low_zero (j : Nat) : lowN j 0 = [] := by simp [lowN]
theorem clr_lt (n : Nat) (h0 : n ≠ 0) : n &&& (n - 1) < n := by
  have := @Nat.and_le_right n (n - 1)
  omega
end Go.Proofs.YtlplfnfaoaomkaaDoor

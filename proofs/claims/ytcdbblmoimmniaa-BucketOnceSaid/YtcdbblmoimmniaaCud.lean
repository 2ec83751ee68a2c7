/- The document's buckets in memory, and the contracts of its New, Where, List, put, Fall and Flush. (s03's Qr has words of the same names: one or the other in a seat.) -/
import Derived.Test.YtcdbblmoimmniaaCua
import Derived.Test.YtcdbblmoimmniaaI
import Derived.Test.YtcdbblmoimmniaaNd
import Derived.Deep.RegionHeld3
import Derived.LoopTactic
import Derived.WalkSpells
import Derived.BigQuiet
namespace Go.Proofs.Ytcdbblmoimmniaa
open Go.RowKit

/-- A bucket's slice: its address, its capacity, its numbers. -/
abbrev DQ := Option Addr × Nat × List Int
def sliceV (d : DQ) : Value := .slice d.1 d.2.2.length d.2.1
def numsD (D : List DQ) : List (List Int) := D.map (·.2.2)
/-- A bucket's slice reads so. -/
structure DOk (w : World) (pl : Nat → Prop) (d : DQ) : Prop where
  rd : RD w pl 1 d.1 d.2.2.length (d.2.2.map (Value.int .i64))
  cap : d.2.2.length ≤ d.2.1
  top : d.2.1 ≤ maxLen
  few : d.2.2.length ≤ 1024
theorem DOk.only {s : Nat → Prop} {w w' : World} {pl : Nat → Prop} {d : DQ} (h : DOk w pl d) (o : Only s w w') (hs : ∀ k, s k → ¬ pl k) : DOk w' pl d := ⟨h.rd.only o hs, h.cap, h.top, h.few⟩
theorem DOk.below {w w' : World} {pl : Nat → Prop} {d : DQ} (h : DOk w pl d) (o : Below w.heap.size w w') : DOk w' pl d := ⟨h.rd.below o, h.cap, h.top, h.few⟩
/-- The lists of the document's buckets. -/
structure RL (w : World) (pl : Nat → Prop) (D : List DQ) (A : Option Addr) (c : Nat) : Prop where
  out : RD w pl 1 A D.length (D.map sliceV)
  inn : ∀ d ∈ D, DOk w pl d
  c0 : D.length ≤ c
  c1 : c ≤ maxLen
  few : D.length ≤ 4
section
variable {w w' : World} {pl : Nat → Prop} {D : List DQ} {A : Option Addr} {c : Nat}
theorem RL.only {s : Nat → Prop} (h : RL w pl D A c) (o : Only s w w') (hs : ∀ k, s k → ¬ pl k) : RL w' pl D A c := ⟨h.out.only o hs, fun d hd => (h.inn d hd).only o hs, h.c0, h.c1, h.few⟩
theorem RL.below (h : RL w pl D A c) (o : Below w.heap.size w w') : RL w' pl D A c := ⟨h.out.below o, fun d hd => (h.inn d hd).below o, h.c0, h.c1, h.few⟩
theorem RL.at_ (h : RL w pl D A c) (hp : 0 < D.length) : ∃ b o, A = some ⟨b, o, none⟩ ∧ pl b ∧ b < w.heap.size ∧ ∀ k d, D[k]? = some d → w.cell? ⟨b, o + k, none⟩ = some (sliceV d) := by
  obtain ⟨b, o, e, h1, h2, h3⟩ := h.out.at_ hp
  exact ⟨b, o, e, h1, h2, fun k d hk => h3 k _ (by simp [hk])⟩
end
theorem ei_lists : EI Try.prog 28 33 (.slice none 0 0) 1 24 := ⟨Try.underlying28, by kernel_rfl, rfl, by omega, by omega⟩
theorem slices_one (D : List DQ) : ∀ u ∈ D.map sliceV, u.oneCell' = true := by
  intro u hu
  obtain ⟨d, _, rfl⟩ := List.mem_map.1 hu
  rfl
theorem nums_set (D : List DQ) (q : Nat) (d : DQ) : numsD (D.set q d) = (numsD D).set q d.2.2 := by
  unfold numsD
  rw [List.map_set]
theorem nums_len (D : List DQ) : (numsD D).length = D.length := by simp [numsD]
theorem nums_get {D : List DQ} {q : Nat} {d : DQ} (h : D[q]? = some d) : (numsD D)[q]? = some d.2.2 := by simp [numsD, h]
theorem dok_of {w : World} {lo n : Nat} {v : Value} {zs : List Int} {pl : Nat → Prop} (h : w.ownsRow lo 3 1 v n (zs.map (Value.int .i64))) (hl : ∀ b, lo ≤ b → pl b) (hf : zs.length ≤ 1024) : ∃ A c, v = .slice A n c ∧ DOk w pl (A, c, zs) := by
  obtain ⟨A, c, rfl, h1, h2, h3⟩ := own_slice h
  obtain rfl : n = zs.length := by have := h.1; simpa using this.symm
  exact ⟨A, c, rfl, h3.lo hl, h1, h2, hf⟩
theorem own_snoc {w : World} {lo n : Nat} {v : Value} {dl : List Int} {x : Int} (h : w.ownsRow lo 3 1 v n (dl.map (Value.int .i64) ++ [.int .i64 x])) : w.ownsRow lo 3 1 v n ((dl ++ [x]).map (Value.int .i64)) := by
  rw [List.map_append]
  exact h
def noD (n : Nat) : List DQ := List.replicate n (none, 0, [])
theorem noD_nums (n : Nat) : numsD (noD n) = List.replicate n [] := by simp [numsD, noD]
theorem lists_made (n : Nat) : (madeCells (Value.slice none 0 0).cells (n * 1)).toList = (noD n).map sliceV := by
  rw [made_list _ 1 rfl]
  unfold noD
  rw [List.map_replicate]
  induction n with
  | zero => rfl
  | succ n ih => rw [List.replicate_succ, List.flatten_cons, ih]; rfl

/-- A list of lists that reads so, beside what else is answered. -/
def RLPost (w : World) (pl : Nat → Prop) (M : List (List Int)) (mk : Value → Value) (e : Ending) (w' : World) : Prop :=
  ∃ D A c, e = .returned (mk (.slice A D.length c)) ∧ numsD D = M ∧ RL w' pl D A c ∧ Below w.heap.size w w'

set_option maxHeartbeats 400000 in
theorem c_dnew_no (many : Int) (h : many < 0 ∨ 4 < many) (w : World) :
    Calls Try.prog 8 #[.int .i64 many] w fun e w' => e = .returned (.tuple #[.slice none 0 0, .int .i64 1]) ∧ w = w' := by
  by_cases h0 : many < 0
  · clear h
    go_enter Try.func8, Try.ntmps8
    go_wp2
    go_ret2
    exact ⟨rfl, rfl⟩
  · have h4 : 4 < many := by omega
    clear h
    go_enter Try.func8, Try.ntmps8
    go_wp2
    go_ret2
    exact ⟨rfl, rfl⟩
set_option maxHeartbeats 400000 in
theorem c_dnew (n : Nat) (h : n ≤ 4) (pl : Nat → Prop) (w : World) (hq : ∀ b, w.heap.size ≤ b → pl b) :
    Calls Try.prog 8 #[.int .i64 (n : Int)] w (RLPost w pl (List.replicate n []) fun v => .tuple #[v, .int .i64 0]) := by
  have hmk := fun W => run_mk ei_lists n (by omega) W
  have hS := lists_made n
  obtain ⟨cs, hcs⟩ : ∃ cs, cs = madeCells (Value.slice none 0 0).cells (n * 1) := ⟨_, rfl⟩
  rw [← hcs] at hmk hS
  have HS := Lib.hid hS
  have h1 : ¬ (n : Int) < 0 := by omega
  have h2 : ¬ 4 < (n : Int) := by omega
  clear hcs hS
  go_enter Try.func8, Try.ntmps8
  go_wp2
  go_ret2
  have hB : Blk (w.alloc (.cells cs 33)) w.heap.size ((noD n).map sliceV) 33 := by
    rw [← HS.out]
    have hb := Blk.new w cs.toList 33
    rwa [Array.toArray_toList] at hb
  refine ⟨noD n, some ⟨w.heap.size, 0, none⟩, n, by simp [noD], noD_nums n, ⟨RD.of_blk hB (by simp [noD]) (hq _ (by omega)), ?_, by simp [noD], by unfold maxLen; omega, by simpa [noD] using h⟩, up_alloc _ _⟩
  intro d hd
  rw [List.eq_of_mem_replicate hd]
  exact ⟨RD.nil _ _ _ _, Nat.le_refl _, by show 0 ≤ maxLen; unfold maxLen; omega, by simp⟩

set_option maxHeartbeats 400000 in
theorem c_dlist_no {w : World} {A : Option Addr} {n c : Nat} (k : Int) (h : k < 0 ∨ (n : Int) ≤ k) :
    Calls Try.prog 17 #[.slice A n c, .int .i64 k] w fun e w' => e = .returned (.slice none 0 0) ∧ w = w' := by
  by_cases h0 : k < 0
  · clear h
    go_enter Try.func17, Try.ntmps17
    go_wp2
    go_ret
    exact ⟨rfl, rfl⟩
  · have h1 : (n : Int) ≤ k := by omega
    clear h
    go_enter Try.func17, Try.ntmps17
    go_wp2
    go_ret
    exact ⟨rfl, rfl⟩
set_option maxHeartbeats 400000 in
theorem c_dlist_at {w : World} {pl : Nat → Prop} {D : List DQ} {A : Option Addr} {c : Nat} (h : RL w pl D A c) (j : Nat) (d : DQ) (hd : D[j]? = some d) :
    Calls Try.prog 17 #[.slice A D.length c, .int .i64 (j : Int)] w fun e w' => e = .returned (.slice d.1 d.2.2.length d.2.1) ∧ w = w' := by
  have hj := (List.getElem?_eq_some_iff.1 hd).1
  obtain ⟨b, o, rfl, _, hlb, hA⟩ := h.at_ (by omega)
  replace hA := hA j d hd
  have hfew := h.few
  simp only [sliceV] at hA
  clear h hd
  have h0 : ¬ (j : Int) < 0 := by omega
  have h1 : ¬ (D.length : Int) ≤ j := by omega
  go_enter Try.func17, Try.ntmps17
  go_wp2
  go_ret
  exact ⟨rfl, rfl⟩
/-- A bucket's slice, whatever memory grows into. -/
theorem dl_at {w : World} {pl : Nat → Prop} {D : List DQ} {A : Option Addr} {c : Nat} (h : RL w pl D A c) (k : Int) : ∃ (B : Option Addr) (d : Nat), RD w pl 1 B (liL (numsD D) k).length ((liL (numsD D) k).map (Value.int .i64)) ∧
    ∀ W, Below w.heap.size w W → Calls Try.prog 17 #[.slice A D.length c, .int .i64 k] W fun e w' => e = .returned (.slice B (liL (numsD D) k).length d) ∧ Below W.heap.size W w' := by
  by_cases hk : k < 0 ∨ (D.length : Int) ≤ k
  · rw [li_no (by rw [nums_len]; exact hk)]
    exact ⟨none, 0, RD.nil _ _ _ _, fun W _ => same_below (c_dlist_no k hk)⟩
  · obtain ⟨j, rfl⟩ : ∃ j : Nat, k = j := ⟨k.toNat, by omega⟩
    have hex : ∃ d, D[j]? = some d := ⟨_, List.getElem?_eq_getElem (by omega)⟩
    obtain ⟨d, hd⟩ := hex
    rw [li_at (nums_get hd)]
    exact ⟨d.1, d.2.1, (h.inn d (List.mem_of_getElem? hd)).rd, fun W hW => same_below (c_dlist_at (h.below hW) j d hd)⟩

set_option maxHeartbeats 1000000 in
theorem c_dput {w : World} {pl : Nat → Prop} {D : List DQ} {A : Option Addr} {c : Nat} (h0 : RL w pl D A c) (hq : ∀ b, w.heap.size ≤ b → pl b) (k : Nat) (hk : k < D.length) (d : DQ) (hd : DOk w pl d) :
    Calls Try.prog 22 #[.slice A D.length c, .int .i64 (k : Int), .slice d.1 d.2.2.length d.2.1] w fun e w' => ∃ A' c', e = .returned (.slice A' D.length c') ∧ RL w' pl (D.set k d) A' c' ∧ Below w.heap.size w w' := by
  have hfew := h0.few
  have hk0 : (0 : Int) ≤ k := by omega
  have hk1 : (k : Int) < D.length := by omega
  go_enter Try.func22, Try.ntmps22
  go_wp2_with (at_builtin; refine wpList_app ei_lists rfl (.const (.slice none 0 0)) (.tmp 8) rfl (.slice none 0 0) [] rfl (World.ownsRow_nil _ w.heap.size _ _) rfl h0.out (slices_one _) (by omega) (Nat.le_refl _) ?_; intro v' w4 hown hb4; simp only [Nat.zero_add, List.nil_append] at hown; obtain ⟨g, cap, rfl, hcap, hcm, hge, hg4⟩ := own_form hown (by omega); have gc := hown.cellAt k (by omega); have gf := hown.frozenAt k)
  go_ret
  have own3 := (hown.stored k (.slice d.1 d.2.2.length d.2.1)).1
  have up5 := hb4.setCell (p := ⟨g, k, none⟩) (by simp; omega) (.slice d.1 d.2.2.length d.2.1)
  have rd := RD.of_own own3
  refine ⟨some ⟨g, 0, none⟩, cap, rfl, ⟨?_, ?_, by rw [List.length_set]; exact hcap, hcm, by rw [List.length_set]; exact hfew⟩, up5⟩
  · rw [List.length_set, List.map_set]
    exact rd.lo fun b hb => hq b (by omega)
  · intro d' hd'
    rcases List.mem_or_eq_of_mem_set hd' with e | rfl
    · exact (h0.inn d' e).below up5
    · exact hd.below up5
end Go.Proofs.Ytcdbblmoimmniaa

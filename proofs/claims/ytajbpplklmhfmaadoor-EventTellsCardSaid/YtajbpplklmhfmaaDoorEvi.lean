/- Package event: Sort, over the library's Collect and SortFunc. -/
import Derived.Test.YtajbpplklmhfmaaDoorEvh
import Derived.Lib.OwnBridge
namespace Go.Proofs.YtajbpplklmhfmaaDoor
open Go.RowKit Go.Shelf
open Go.Sort (flatK get_flatK size_flatK HoldsK putRowK)

theorem c_appendseq (Bn : Nat) (A : Option Addr) (c : Nat) (L : List EV) (hL : L.length ≤ 100000) (w : World) (hBn : Bn < w.heap.size) (hB : w.cell? ⟨Bn, 0, none⟩ = some (.slice A L.length c)) (hR : RD w (· < w.heap.size) 4 A L.length (L.flatMap evC)) :
    Calls Tryd.prog 50 #[.slice none 0 0, .func (.func 42) #[] #[.pointer (some ⟨Bn, 0, none⟩)]] w fun e W' => ∃ v, e = .returned v ∧ W'.ownsRow w.heap.size 27 4 v L.length (L.flatMap evC) ∧ Below w.heap.size w W' :=
  callsIn_wide.1 (appendseq_in 3 (by omega) Bn A c L hL w hBn hB hR)
/-- Events in memory of the call's own. -/
def OwnEv (w : World) (L : List EV) (e : Ending) (w' : World) : Prop := ∃ A c, e = .returned (.slice A L.length c) ∧ w'.ownsRow w.heap.size 27 4 (.slice A L.length c) L.length (L.flatMap evC) ∧ Below w.heap.size w w'
set_option maxHeartbeats 400000 in
theorem c_collect (Bn : Nat) (A : Option Addr) (c : Nat) (L : List EV) (hL : L.length ≤ 100000) (w : World) (hBn : Bn < w.heap.size) (hB : w.cell? ⟨Bn, 0, none⟩ = some (.slice A L.length c)) (hR : RD w (· < w.heap.size) 4 A L.length (L.flatMap evC)) :
    Calls Tryd.prog 40 #[.func (.func 42) #[] #[.pointer (some ⟨Bn, 0, none⟩)]] w (OwnEv w L) := by
  have CA := Lib.hid (c_appendseq Bn A c L hL w hBn hB hR)
  clear hB hR
  go_enter Tryd.func40, Tryd.ntmps40
  go_wp2_with fail
  refine CA.out.mono ?_; rintro e w2 ⟨v, rfl, hown, hb⟩
  obtain ⟨A', c', rfl, _, _, _⟩ := own_slice hown
  go_wp2
  go_ret
  exact ⟨A', c', rfl, hown, hb⟩

theorem flat_cell (L : List EV) (j : Nat) (hj : j < L.length * 4) : (L.flatMap evC)[j]? = some ((flatK evC 4 L.toArray)[j]!) := by
  rw [get_flatK evC 4 L.toArray j (by simpa using hj)]
  have hq : j / 4 < L.length := by omega
  have hr : j % 4 < 4 := Nat.mod_lt _ (by omega)
  have h := flat_get evC 4 evC_len L (j / 4) (j % 4) L[j / 4] (List.getElem?_eq_getElem hq) hr
  rw [Nat.div_add_mod' j 4] at h
  rw [h, getElem!_pos L.toArray (j / 4) (by simpa using hq), List.getElem_toArray, getElem!_pos (evC L[j / 4]) (j % 4) (by rw [evC_len]; exact hr)]
  exact List.getElem?_eq_getElem _
theorem holds_of {w : World} {g : Nat} {L : List EV} {cs : List Value} {t : TypeId} (hB : Blk w g cs t) (hc : ∀ j u, (L.flatMap evC)[j]? = some u → w.cell? ⟨g, 0 + j, none⟩ = some u) : HoldsK evC 4 w g 0 L.toArray := by
  intro j hj
  have hj' : j < L.length * 4 := by simpa using hj
  exact ⟨hc j _ (flat_cell L j hj'), by rw [Nat.zero_add]; exact hB.free j⟩
theorem gr_below (W : World) (os : Array Obj) : Below W.heap.size W (Sort.grow W os) := ⟨rfl, rfl, rfl, by simp [Sort.grow], fun i hi => by simp [Sort.grow, Array.getElem?_append, hi]⟩
theorem isagg_ev : ∀ w, (isAgg 27).run Tryd.prog w = .ok true w := fun w => Tryd.isAgg27 w
theorem size_ev : ∀ w, (Go.sizeOf 27).run Tryd.prog w = .ok 4 w := fun w => Tryd.sizeOf27 w
/-- The library's sort, of events in memory of the call's own. -/
theorem c_sortfunc {w : World} {lo : Nat} {A : Option Addr} {c : Nat} {L : List EV} (hown : w.ownsRow lo 27 4 (.slice A L.length c) L.length (L.flatMap evC)) (hL : L.length ≤ 100000) :
    Calls Tryd.prog 41 #[.slice A L.length c, .func (.func 32) #[] #[]] w fun e w' => e = .returned (.tuple #[]) ∧ RD w' (lo ≤ ·) 4 A L.length ((evSort L).flatMap evC) ∧ Below lo w w' := by
  rcases Nat.eq_zero_or_pos L.length with h0 | h0
  · have hLn : L = [] := List.eq_nil_of_length_eq_zero h0
    subst hLn
    have hS := AnyF.slices_SortFunc_none (P := Tryd.prog) (ρ := Tryd.sortEv_ren) { Tryd.sortEv with } A c (.func (.func 32) #[] #[]) w
    change Calls Tryd.prog 41 _ _ _ at hS
    refine hS.mono ?_
    rintro e w' ⟨rfl, rfl⟩
    exact ⟨rfl, RD.nil _ _ _ _, Below.refl _ _⟩
  · obtain ⟨g, cap, hv, _, _, hlo, hg⟩ := own_form hown h0
    obtain ⟨rfl, rfl⟩ : A = some ⟨g, 0, none⟩ ∧ c = cap := by injection hv with h1 h2 h3; exact ⟨h1, h3⟩
    obtain ⟨_, cs, hB⟩ := own_blk hown g rfl
    have hH : HoldsK evC 4 w g 0 L.toArray := holds_of hB (by
      obtain ⟨b, o, e, _, _, hc⟩ := (RD.of_own hown).at_ h0
      injection e with e
      injection e with e1 e2 e3
      subst e1 e2
      exact hc)
    have eg : ∀ args w, (callFunc 32 args).run Tryd.prog w = .ok (.enter 32 args) w := enters_of Tryd.func32 (by kernel_rfl) rfl
    have hcmp : CmpLays Tryd.prog 32 #[] evC 4 evCmp g 0 L.toArray.size w := fun m os dk _ x y => (c_evcmp x y _).mono fun e w' ⟨he, q, os', hw⟩ => ⟨he, q, os', hw⟩
    have hS := AnyQ.slices_SortFunc_total (P := Tryd.prog) (ρ := Tryd.sortEv_ren) Tryd.sortEv 4 isagg_ev size_ev evC evC_len evC_one evCmp ev_swo 32 #[] g 0 c L.toArray w eg hcmp hH hg (by simp; omega) ev_anti
    change Calls Tryd.prog 41 _ _ _ at hS
    rw [show L.toArray.size = L.length from by simp, show L.toArray.toList = L from rfl, merge_sort] at hS
    refine hS.mono ?_
    rintro e w' ⟨rfl, n, os, rfl⟩
    have hk := (SWK.holds (W := sortWorldK evC 4 w g 0 n (evSort L).toArray os) ⟨n, os, rfl⟩ hg hH (by simp [evSort_len]))
    refine ⟨rfl, ⟨by rw [ev_len, evSort_len], fun _ => ⟨g, 0, rfl, hlo, ?_, fun j u hu => ?_⟩⟩, ?_⟩
    · have := (SWK.le (enc := evC) (k := 4) (blk := g) (off := 0) (w0 := w) (dk := (evSort L).toArray) (W := sortWorldK evC 4 w g 0 n (evSort L).toArray os) ⟨n, os, rfl⟩)
      omega
    · obtain ⟨hj, _⟩ := List.getElem?_eq_some_iff.1 hu
      have hj' : j < (evSort L).length * 4 := by rwa [ev_len] at hj
      rw [flat_cell (evSort L) j hj'] at hu
      rw [← hu]
      exact (hk j (by simpa using hj')).1
    · have h1 : Below lo w (putRowK evC 4 (Sort.ahead w n) g 0 (evSort L).toArray) := Lib.below_putRow (enc := id) (Below.refl lo w) hlo
      have h2 : Below (putRowK evC 4 (Sort.ahead w n) g 0 (evSort L).toArray).heap.size (putRowK evC 4 (Sort.ahead w n) g 0 (evSort L).toArray) (sortWorldK evC 4 w g 0 n (evSort L).toArray os) := gr_below _ os
      have hlow : lo ≤ w.heap.size := by omega
      exact h1.trans (h2.mono (Nat.le_trans hlow h1.size))

/-- Events in new memory. -/
def EvsPost (w : World) (L : List EV) (e : Ending) (w' : World) : Prop := ∃ A c, e = .returned (.slice A L.length c) ∧ RD w' (w.heap.size ≤ ·) 4 A L.length (L.flatMap evC) ∧ Below w.heap.size w w'
set_option maxHeartbeats 1000000 in
theorem c_sortedfunc (Bn : Nat) (A : Option Addr) (c : Nat) (L : List EV) (hL : L.length ≤ 100000) (w : World) (hBn : Bn < w.heap.size) (hB : w.cell? ⟨Bn, 0, none⟩ = some (.slice A L.length c)) (hR : RD w (· < w.heap.size) 4 A L.length (L.flatMap evC)) :
    Calls Tryd.prog 30 #[.func (.func 42) #[] #[.pointer (some ⟨Bn, 0, none⟩)], .func (.func 32) #[] #[]] w (EvsPost w (evSort L)) := by
  have CA := Lib.hid (c_collect Bn A c L hL w hBn hB hR)
  have HN := Lib.hid (evSort_len L)
  clear hB hR
  go_enter Tryd.func30, Tryd.ntmps30
  go_wp2_with fail
  refine CA.out.mono ?_; rintro e w2 ⟨A', c', rfl, hown, hb⟩
  have CS := Lib.hid (c_sortfunc hown hL)
  clear hown
  go_wp2_with fail
  refine CS.out.mono ?_; rintro e w3 ⟨rfl, hrd, hb3⟩
  go_wp2
  go_ret
  exact ⟨A', c', by rw [HN.out]; rfl, by rw [HN.out]; exact hrd, hb.trans hb3⟩
set_option maxHeartbeats 1000000 in
theorem c_evsort {w : World} {pl : Nat → Prop} {A : Option Addr} {c : Nat} {L : List EV} (hR : RD w pl 4 A L.length (L.flatMap evC)) (hL : L.length ≤ 100000) :
    Calls Tryd.prog 15 #[.slice A L.length c] w (EvsPost w (evSort L)) := by
  have CV := Lib.hid (c_values A L.length c w)
  have HU := Lib.hid (up_alloc w (.cells #[.slice A L.length c] 42))
  have hz : (w.alloc (.cells #[.slice A L.length c] 42)).heap.size = w.heap.size + 1 := by simp
  have CS := Lib.hid (c_sortedfunc w.heap.size A c L hL (w.alloc (.cells #[.slice A L.length c] 42)) (by rw [hz]; omega) ((Blk.new w [.slice A L.length c] 42).cell 0 _ rfl) ((hR.below HU.out).lt.lo fun b hb => hb.2))
  clear hR hz
  go_enter Tryd.func15, Tryd.ntmps15
  go_wp2_with fail
  refine CV.out.mono ?_; rintro e w2 ⟨rfl, rfl⟩
  go_wp2_with fail
  refine CS.out.mono ?_; rintro e w3 ⟨A', c', rfl, hrd, hb3⟩
  go_wp2
  go_ret
  exact ⟨A', c', rfl, hrd.lo fun b hb => Nat.le_trans HU.out.size hb, up_trans HU.out hb3⟩
end Go.Proofs.YtajbpplklmhfmaaDoor

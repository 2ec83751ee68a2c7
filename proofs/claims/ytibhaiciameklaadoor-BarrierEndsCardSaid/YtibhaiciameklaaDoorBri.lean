/- The law's alive (layer 22). -/
import Derived.Test.YtibhaiciameklaaDoorBrh
import Derived.Test.YtibhaiciameklaaDoorBrc
import Derived.Test.YtibhaiciameklaaDoorRy
import Derived.Test.YtibhaiciameklaaDoorIs
namespace Go.Proofs.YtibhaiciameklaaDoor
open Go.RowKit

def aR2 : RL := ⟨⟨4#64, 0#64, 0#64, 0#64⟩, S4.zero⟩
def aR3 : RL := ⟨⟨4#64, 0#64, 0#64, 0#64⟩, ⟨4#64, 0#64, 0#64, 0#64⟩⟩
def aB1 : BR := ⟨false, 1, RL.zero, 0⟩
def aB2 : BR := ⟨false, 1, aR2, 0⟩
def aB3 : BR := ⟨false, 1, aR3, 0⟩
def aB4 : BR := ⟨false, 1, aR2, 1⟩
def Ans (v : Value) (w : World) (e : Ending) (w' : World) : Prop := e = .returned v ∧ Below w.heap.size w w'
def kD (r : RL) (M : DM) : Kp := ⟨fun W => DW W tt r M, fun hb h => h.below hb⟩
def kR (A : Option Addr) (n : Nat) (zs : List Int) : Kp := ⟨fun W => RD W tt 1 A n (zs.map (Value.int .i64)), fun hb h => h.below hb⟩
theorem e_1 (W : World) : Calls Tryd.prog 10 #[.agg #[.bool false, .int .i64 1]] W (Ans (.tuple #[.agg (brC aB1).toArray, .int .i64 0]) W) := by
  have := c_brnew false 1 W
  rw [show brNew false 1 = aB1 by kernel_rfl, show brChk 1 = 0 by kernel_rfl] at this
  exact this
theorem e_2 (W : World) (h : TabD W) : Calls Tryd.prog 12 #[.agg (brC aB1).toArray, .int .i64 2] W (Ans (.tuple #[.agg (brC aB2).toArray, .int .i64 0]) W) := by
  have := c_brenrol aB1 2 W h
  rw [show brEnrol aB1 2 = (aB2, 0) by kernel_rfl] at this
  exact this
theorem e_3 (W : World) (h : TabD W) : Calls Tryd.prog 16 #[.agg (brC aB2).toArray, .int .i64 2, .bool true] W (Ans (.tuple #[.agg (brC aB2).toArray, .int .i64 12]) W) := by
  have := c_broffer aB2 2 true W h
  rw [show brOffer aB2 2 true = (aB2, 12) by kernel_rfl] at this
  exact this
theorem e_4 (W : World) (h : TabD W) : Calls Tryd.prog 16 #[.agg (brC aB2).toArray, .int .i64 2, .bool false] W (Ans (.tuple #[.agg (brC aB3).toArray, .int .i64 0]) W) := by
  have := c_broffer aB2 2 false W h
  rw [show brOffer aB2 2 false = (aB3, 0) by kernel_rfl] at this
  exact this
def Fired (w : World) (e : Ending) (w' : World) : Prop := ∃ A c, e = .returned (.tuple #[.agg (brC aB4).toArray, .slice A 1 c, .int .i64 0]) ∧ (kR A 1 [2]).P w' ∧ Below w.heap.size w w'
theorem e_5 (W : World) (h : TabD W) : Calls Tryd.prog 26 #[.agg (brC aB3).toArray] W (Fired W) := by
  have := c_brfire aB3 W h
  rw [show brFire aB3 = (aB4, [2], 0) by kernel_rfl] at this
  refine this.mono ?_
  rintro e w' ⟨A, c, rfl, hr, hb⟩
  exact ⟨A, c, rfl, hr.lo (fun _ _ => trivial), hb⟩
theorem e_6 (W : World) (h : TabD W) : Calls Tryd.prog 16 #[.agg (brC aB4).toArray, .int .i64 2, .bool false] W (Ans (.tuple #[.agg (brC aB4).toArray, .int .i64 14]) W) := by
  have := c_broffer aB4 2 false W h
  rw [show brOffer aB4 2 false = (aB4, 14) by kernel_rfl] at this
  exact this
theorem e_7 (W : World) (h : TabD W) : Calls Tryd.prog 28 #[.agg (brC aB3).toArray] W (Ans (.bool true) W) := by
  have := c_brready aB3 W h
  rw [show brReady aB3 = true by kernel_rfl] at this
  exact this
theorem e_8 (W : World) (h : TabD W) : Calls Tryd.prog 20 #[.agg (brC aB3).toArray, .int .i64 2] W (Ans (.agg (brC aB2).toArray) W) := by
  have := c_brwith aB3 2 W h
  rw [show brWith aB3 2 = aB2 by kernel_rfl] at this
  exact this
theorem e_9 (W : World) (h : TabD W) : Calls Tryd.prog 28 #[.agg (brC aB2).toArray] W (Ans (.bool false) W) := by
  have := c_brready aB2 W h
  rw [show brReady aB2 = false by kernel_rfl] at this
  exact this
theorem e_10 (W : World) (h : TabD W) : Calls Tryd.prog 22 #[.agg (brC aB4).toArray] W (Ans (.bool true) W) := by
  have := c_brfine aB4 W h
  rw [show brFine aB4 = true by kernel_rfl] at this
  exact this
theorem e_11 (W : World) : Calls Tryd.prog 24 #[.agg #[.bool false, .int .i64 0]] W (Ans (.int .i64 8) W) := by
  have := c_brcheck false 0 W
  rw [show brChk 0 = 8 by kernel_rfl] at this
  exact this
theorem same_1 {W : World} {A : Option Addr} {c s : Nat} (hs : s = W.heap.size) (h : (kR A 1 [2]).P W) :
    Calls Tryd.prog 30 #[.slice A 1 c, .slice (some ⟨s, 0, none⟩) 1 1] (W.alloc (.cells #[.int .i64 2] 3)) (Ans (.bool true) (W.alloc (.cells #[.int .i64 2] 3))) :=
  (c_same (zs := [2]) (pl' := tt) (d := 1) ((kR A 1 [2]).up (up_alloc _ _) h) (by subst hs; exact RD.of_blk (xs := [.int .i64 2]) (Blk.new W [.int .i64 2] 3) rfl trivial) (by simp)).mono fun _ _ h => ⟨h.1, h.2.below⟩

set_option maxRecDepth 100000 in
set_option maxHeartbeats 4000000 in
theorem c_alive22 (w : World) (hT : TabD w) : Calls Tryd.prog 7 #[] w fun e w' => e = .returned (.bool true) ∧ Below w.heap.size w w' := by
  have HT := Lib.hid (fun W (hW : Below w.heap.size w W) => hT.up hW)
  have HS : Hid (Mm w [] [] w) := Lib.hid (Mm.nil (Below.refl _ _))
  clear hT
  go_enter Tryd.func7, Tryd.ntmps7
  go_wp2_with fail
  refine (e_1 _).mono ?_; rintro e w2 ⟨rfl, hb⟩
  have HS := Lib.hid ((HS.out.next hb).new (brC aB1) 38)
  clear hb
  go_wp2_with (first | (refine snr (W := w2) (cs := brC aB1) (zs := brZ) (t := 38) (.tmp 1) (.tmp 17) rfl rfl rfl rfl info_bar rfl brC_one ?_ ?_ ?_; (· rfl); (· rfl)) | (refine ldr (b := w2.heap.size) (t := 38) (cs := brC aB1) (.tmp 1) rfl rfl Tryd.underlying38 rfl info_bar rfl ?_ ?_; (· exact HS.out.ka 0 rfl)))
  refine (e_2 _ (HT.out _ HS.out.up)).mono ?_; rintro e w3 ⟨rfl, hb⟩
  have HS := Lib.hid ((HS.out.next hb).new (brC aB2) 38)
  clear hb
  generalize hbx : w2.heap.size = bw2 at HS ⊢
  clear hbx
  go_wp2_with (first | (refine snr (W := w3) (cs := brC aB2) (zs := brZ) (t := 38) (.tmp 3) (.tmp 22) rfl rfl rfl rfl info_bar rfl brC_one ?_ ?_ ?_; (· rfl); (· rfl)) | (refine ldr (b := w3.heap.size) (t := 38) (cs := brC aB2) (.tmp 3) rfl rfl Tryd.underlying38 rfl info_bar rfl ?_ ?_; (· exact HS.out.ka 0 rfl)))
  refine (e_3 _ (HT.out _ HS.out.up)).mono ?_; rintro e w4 ⟨rfl, hb⟩
  have HS := Lib.hid ((HS.out.next hb).new (brC aB2) 38)
  clear hb
  generalize hbx : w3.heap.size = bw3 at HS ⊢
  clear hbx
  go_wp2_with (first | (refine snr (W := w4) (cs := brC aB2) (zs := brZ) (t := 38) (.tmp 5) (.tmp 27) rfl rfl rfl rfl info_bar rfl brC_one ?_ ?_ ?_; (· rfl); (· rfl)) | (refine ldr (b := bw3) (t := 38) (cs := brC aB2) (.tmp 3) rfl rfl Tryd.underlying38 rfl info_bar rfl ?_ ?_; (· exact HS.out.ka 1 rfl)))
  refine (e_4 _ (HT.out _ HS.out.up)).mono ?_; rintro e w5 ⟨rfl, hb⟩
  have HS := Lib.hid ((HS.out.next hb).new (brC aB3) 38)
  clear hb
  generalize hbx : w4.heap.size = bw4 at HS ⊢
  clear hbx
  go_wp2_with (first | (refine snr (W := w5) (cs := brC aB3) (zs := brZ) (t := 38) (.tmp 7) (.tmp 32) rfl rfl rfl rfl info_bar rfl brC_one ?_ ?_ ?_; (· rfl); (· rfl)) | (refine ldr (b := w5.heap.size) (t := 38) (cs := brC aB3) (.tmp 7) rfl rfl Tryd.underlying38 rfl info_bar rfl ?_ ?_; (· exact HS.out.ka 0 rfl)))
  refine (e_5 _ (HT.out _ HS.out.up)).mono ?_; rintro e w6 ⟨A, c, rfl, hd, hb⟩
  have HS := Lib.hid (((HS.out.next hb).fact (kR A 1 [2]) hd).new (brC aB4) 38)
  clear hb hd
  generalize hbx : w5.heap.size = bw5 at HS ⊢
  clear hbx
  go_wp2_with (first | (refine snr (W := w6) (cs := brC aB4) (zs := brZ) (t := 38) (.tmp 9) (.tmp 37) rfl rfl rfl rfl info_bar rfl brC_one ?_ ?_ ?_; (· rfl); (· rfl)) | (refine ldr (b := w6.heap.size) (t := 38) (cs := brC aB4) (.tmp 9) rfl rfl Tryd.underlying38 rfl info_bar rfl ?_ ?_; (· exact HS.out.ka 0 rfl)))
  refine (e_6 _ (HT.out _ HS.out.up)).mono ?_; rintro e w7 ⟨rfl, hb⟩
  have HS := Lib.hid ((HS.out.next hb).new (brC aB4) 38)
  clear hb
  generalize hbx : w6.heap.size = bw6 at HS ⊢
  clear hbx
  go_wp2_with (first | (refine snr (W := w7) (cs := brC aB4) (zs := brZ) (t := 38) (.tmp 12) (.tmp 43) rfl rfl rfl rfl info_bar rfl brC_one ?_ ?_ ?_; (· rfl); (· rfl)) | (refine ldr (b := bw5) (t := 38) (cs := brC aB3) (.tmp 7) rfl rfl Tryd.underlying38 rfl info_bar rfl ?_ ?_; (· exact HS.out.ka 2 rfl)))
  refine (e_7 _ (HT.out _ HS.out.up)).mono ?_; rintro e w8 ⟨rfl, hb⟩
  have HS := Lib.hid (HS.out.next hb)
  clear hb
  generalize hbx : w7.heap.size = bw7 at HS ⊢
  clear hbx
  go_wp2_with (refine ldr (b := bw5) (t := 38) (cs := brC aB3) (.tmp 7) rfl rfl Tryd.underlying38 rfl info_bar rfl ?_ ?_; (· exact HS.out.ka 2 rfl))
  refine (e_8 _ (HT.out _ HS.out.up)).mono ?_; rintro e w9 ⟨rfl, hb⟩
  have HS := Lib.hid (HS.out.next hb)
  clear hb
  go_wp2_with fail
  refine (e_9 _ (HT.out _ HS.out.up)).mono ?_; rintro e w10 ⟨rfl, hb⟩
  have HS := Lib.hid (HS.out.next hb)
  clear hb
  obtain ⟨s, hs⟩ : ∃ s, s = w10.heap.size := ⟨_, rfl⟩
  have CS := Lib.hid (same_1 (c := c) hs (HS.out.da 0 rfl))
  have HSZ := Lib.hid hs
  clear hs
  have ph : w10.cell? ⟨bw6, 10, none⟩ = some (.int .i64 1) := (HS.out.ka 1 rfl).cell 10 _ rfl
  go_wp2_with fail
  rw [← HSZ.out]
  refine CS.out.mono ?_; rintro e w20 ⟨rfl, hb⟩
  have HS := Lib.hid (HS.out.next (up_trans (up_alloc w10 (.cells #[.int .i64 2] 3)) hb))
  clear hb CS ph
  go_wp2_with (refine ldr (b := bw6) (t := 38) (cs := brC aB4) (.tmp 9) rfl rfl Tryd.underlying38 rfl info_bar rfl ?_ ?_; (· exact HS.out.ka 1 rfl))
  refine (e_10 _ (HT.out _ HS.out.up)).mono ?_; rintro e w11 ⟨rfl, hb⟩
  have HS := Lib.hid (HS.out.next hb)
  clear hb
  go_wp2_with fail
  refine (e_11 _).mono ?_; rintro e w12 ⟨rfl, hb⟩
  have HS := Lib.hid (HS.out.next hb)
  clear hb
  go_wp2
  go_ret
  exact ⟨rfl, HS.out.up⟩
end Go.Proofs.YtibhaiciameklaaDoor

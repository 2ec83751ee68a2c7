/- The document's sets (layer 4), of lists that are sets: their answers are sets' lists. -/
import Derived.Test.YtlplfnfaoaomkaaDoorBka
import Derived.Test.YtlplfnfaoaomkaaDoorBkd
import Derived.Test.YtlplfnfaoaomkaaDoorBkl
import Derived.Test.YtlplfnfaoaomkaaDoorBl
import Derived.Test.YtlplfnfaoaomkaaDoorIs
namespace Go.Proofs.YtlplfnfaoaomkaaDoor
open Go.RowKit

theorem c_rofS {w : World} {pl : Nat → Prop} {A : Option Addr} {c : Nat} {L : List Int} (h0 : RD w pl 1 A L.length (L.map (Value.int .i64))) (hlen : L.length ≤ 1000) :
    Calls Tryd.prog 24 #[.slice A L.length c] w (IntsPost w (ofS L).ints) := by
  rw [ofS_ints]
  exact c_rof h0 hlen
theorem c_rlessS {w : World} {pl pl2 : Nat → Prop} {A A2 : Option Addr} {c c2 : Nat} {s t : S4} (h : RD w pl 1 A s.ints.length (s.ints.map (Value.int .i64))) (k : RD w pl2 1 A2 t.ints.length (t.ints.map (Value.int .i64))) :
    Calls Tryd.prog 37 #[.slice A s.ints.length c, .slice A2 t.ints.length c2] w (IntsPost w (s.les t).ints) := by
  have h1 := len_le s
  have h2 := len_le t
  unfold S4.len at h1 h2
  have := c_rless (c := c) (c2 := c2) h (by omega) k (by omega)
  unfold S4.ints at this
  rw [rise_less] at this
  rw [les_ints]
  exact this
theorem c_raddS {w : World} {pl : Nat → Prop} {A : Option Addr} {c : Nat} {s : S4} (h : RD w pl 1 A s.ints.length (s.ints.map (Value.int .i64))) (x : Int) :
    Calls Tryd.prog 31 #[.slice A s.ints.length c, .int .i64 x] w (IntsPost w (s.uni (S4.only x)).ints) := by
  have h1 := len_le s
  unfold S4.len at h1
  have := c_radd (c := c) h (by omega) x
  unfold S4.ints at this
  rw [ofL_add] at this
  rw [add_ints]
  exact this
theorem c_rdropS {w : World} {pl : Nat → Prop} {A : Option Addr} {c : Nat} {s : S4} (h : RD w pl 1 A s.ints.length (s.ints.map (Value.int .i64))) (x : Int) :
    Calls Tryd.prog 33 #[.slice A s.ints.length c, .int .i64 x] w (IntsPost w (s.les (S4.only x)).ints) := by
  have h1 := len_le s
  unfold S4.len at h1
  have := c_rdrop (c := c) h (by omega) x
  unfold S4.ints at this
  rw [rise_drop] at this
  rw [drop_ints]
  exact this
theorem c_sameS {w : World} {pl pl' : Nat → Prop} {A B : Option Addr} {c d : Nat} {s : S4} (hA : RD w pl 1 A s.ints.length (s.ints.map (Value.int .i64))) (hB : RD w pl' 1 B s.ints.length (s.ints.map (Value.int .i64))) :
    Calls Tryd.prog 23 #[.slice A s.ints.length c, .slice B s.ints.length d] w fun e w' => e = .returned (.bool true) ∧ Below w.heap.size w w' := by
  have h1 := len_le s
  unfold S4.len at h1
  exact (c_same hA hB (by omega)).mono fun _ _ h => ⟨h.1, h.2.below⟩
theorem c_wordsS {w : World} {pl : Nat → Prop} {A : Option Addr} {c : Nat} {s : S4} (h0 : RD w pl 1 A s.ints.length (s.ints.map (Value.int .i64))) :
    Calls Tryd.prog 25 #[.slice A s.ints.length c] w fun e w' => e = .returned s.val ∧ Below w.heap.size w w' := by
  have h1 := len_le s
  unfold S4.len at h1
  have := c_words (c := c) h0 (by omega) (fun x hx => rise_range s.has x hx)
  rw [ofS_of_ints] at this
  exact this
theorem c_rhasS {w : World} {pl : Nat → Prop} {A : Option Addr} {c : Nat} {s : S4} (h0 : RD w pl 1 A s.ints.length (s.ints.map (Value.int .i64))) (x : Int) :
    Calls Tryd.prog 30 #[.slice A s.ints.length c, .int .i64 x] w fun e w' => e = .returned (.bool (hasL s.ints x)) ∧ Below w.heap.size w w' := by
  have h1 := len_le s
  unfold S4.len at h1
  exact same_below (c_rhas h0 (by omega) x)
theorem c_rhasB {w : World} {pl : Nat → Prop} {A : Option Addr} {c : Nat} {s : S4} (h0 : RD w pl 1 A s.ints.length (s.ints.map (Value.int .i64))) (x : Int) {b : Bool} (h : hasL s.ints x = b) :
    Calls Tryd.prog 30 #[.slice A s.ints.length c, .int .i64 x] w fun e w' => e = .returned (.bool b) ∧ Below w.heap.size w w' := by
  rw [← h]
  exact c_rhasS h0 x
end Go.Proofs.YtlplfnfaoaomkaaDoor

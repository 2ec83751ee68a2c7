/- The law's alive of layer 29: its calls' contracts, its view. -/
import Derived.Test.YtdiiilnebepfdaaGreatDoorRpr
import Derived.Test.YtdiiilnebepfdaaGreatDoorRpc
import Derived.Test.YtdiiilnebepfdaaGreatDoorC5
import Derived.Test.YtdiiilnebepfdaaGreatDoorYm
import Derived.Test.YtdiiilnebepfdaaGreatDoorRem
namespace Go.Proofs.YtdiiilnebepfdaaGreatDoor
open Go.RowKit

/-- A table, a place and an error, evaluated. -/
def TabP9 (w : World) (n : Nat) (Cs : List CP) (b : Nat) (e : Ending) (w' : World) : Prop :=
  ∃ A c L, e = .returned (.tuple #[.slice A n c, .int .i64 0, .int .i64 0]) ∧ TbW w' ctAny A n c L ∧ L.map Prod.fst = Cs ∧ fewL b L ∧ Below w.heap.size w w'
theorem al9_new {T : List CP} (h1 : newL [⟨0, 0, 0, 0⟩] = T) (h2 : newR [⟨0, 0, 0, 0⟩] = (0, 0)) (h3 : T.length = 1) (W : World) :
    Calls Tryz.prog 18 #[.slice (some ⟨W.heap.size, 0, none⟩) 1 1] (W.alloc (.cells #[.int .i64 0, .int .i64 0, .int .i64 0, .int .i64 0] 73)) (TabP9 (W.alloc (.cells #[.int .i64 0, .int .i64 0, .int .i64 0, .int .i64 0] 73)) 1 T 0) := by
  refine (c_rtnew (l := [⟨0, 0, 0, 0⟩]) (RD.of_blk (xs := [.int .i64 0, .int .i64 0, .int .i64 0, .int .i64 0]) (Blk.new W [.int .i64 0, .int .i64 0, .int .i64 0, .int .i64 0] 73) rfl trivial : RD _ tt 4 _ 1 _) rfl).mono ?_
  rintro e w' ⟨A, m, c, L, rfl, hT, hm, hb⟩
  have hmn : m = 1 := by rw [← hT.len, ← h3, ← h1, ← hm, List.length_map]
  subst hmn
  exact ⟨A, c, L, by rw [h2]; rfl, hT, hm.trans h1, few_new hm, hb⟩
theorem al9_offer {w : World} {A B : Option Addr} {n c m d : Nat} {L : List CQ} {gs : List GD} {U : List CP} {b : Nat} {p : Int} {al : Bool} (h : TbW w ctAny A n c L) (hR : RD w tt 5 B m (gs.flatMap gdC)) (hl : gs.length = m) (hf : fewL b L) (hb : b + m ≤ 1000) (hn : n ≤ 1000) (hr : offRun p al (L.map Prod.fst) 0 gs = (U, 0, 0)) :
    Calls Tryz.prog 19 #[.slice A n c, .int .i64 p, .slice B m d, .bool al] w (TabP9 w n U (b + m)) := by
  refine (c_rtoffer h hR hl hf hb hn p al).mono ?_
  rintro e w' ⟨A', c', L', rfl, hT, hm, _, hf, hb⟩
  rw [hr] at hm ⊢
  exact ⟨A', c', L', rfl, hT, hm rfl, hf, hb⟩
/-- alive's view. -/
def al9Q (A : Option Addr) (c : Nat) (L : List CQ) (b g3 g5 : Nat) : VQ := ⟨0, A, c, L, none, 0, [], some ⟨b, 0, none⟩, 2, [⟨3, some ⟨g3, 0, none⟩, 1, alW3⟩, ⟨5, some ⟨g5, 0, none⟩, 2, alW5⟩], none, 0, [], none, 0, []⟩
theorem al9_view {w : World} {A : Option Addr} {c : Nat} {L : List CQ} {b g3 g5 : Nat} (h : TbW w ctAny A 1 c L) (hb : Blk w b [.int .i64 3, .slice (some ⟨g3, 0, none⟩) 1 1, .int .i64 5, .slice (some ⟨g5, 0, none⟩) 2 2] 67)
    (h3 : RD w tt 5 (some ⟨g3, 0, none⟩) 1 (alW3.flatMap gdC)) (h5 : RD w tt 5 (some ⟨g5, 0, none⟩) 2 (alW5.flatMap gdC)) : VX w (al9Q A c L b g3 g5) [] := by
  have hl := h.len
  refine ⟨⟨?_, ⟨?_, rfl, ?_⟩, RD.nil _ _ _ _, RD.nil _ _ _ _⟩, TW.none _ _ _, rfl, Nat.zero_le _⟩
  · show TbW w ctAny A L.length c L
    rw [hl]
    exact h
  · exact RD.of_blk (xs := [.int .i64 3, .slice (some ⟨g3, 0, none⟩) 1 1, .int .i64 5, .slice (some ⟨g5, 0, none⟩) 2 2]) hb rfl trivial
  · intro q hq
    simp only [al9Q, List.mem_cons, List.not_mem_nil, or_false] at hq
    rcases hq with rfl | rfl
    · exact h3
    · exact h5
theorem al9_few {A : Option Addr} {c : Nat} {L : List CQ} {b g3 g5 : Nat} (hl : L.length = 1) (hf : fewL 20 L) : Few (al9Q A c L b g3 g5) := by
  refine ⟨?_, hf, by simp [al9Q], by simp [al9Q], ?_, by simp [al9Q], ?_, by simp [al9Q]⟩
  · show L.length ≤ 10
    omega
  · intro q hq
    simp only [al9Q, List.mem_cons, List.not_mem_nil, or_false] at hq
    rcases hq with rfl | rfl
    · exact ⟨show alW3.length ≤ 8 by decide, ⟨show (0 : Int) ≤ 3 by decide, show (3 : Int) ≤ 15 by decide⟩, show ∀ g ∈ alW3, 0 ≤ g.n ∧ g.n ≤ 5 by simp [alW3]⟩
    · exact ⟨show alW5.length ≤ 8 by decide, ⟨show (0 : Int) ≤ 5 by decide, show (5 : Int) ≤ 15 by decide⟩, show ∀ g ∈ alW5, 0 ≤ g.n ∧ g.n ≤ 5 by simp [alW5]⟩
  · intro t ht
    simp [al9Q] at ht
theorem al9_p {A : Option Addr} {c : Nat} {L : List CQ} {b g3 g5 : Nat} {V : List CP} (h : L.map Prod.fst = V) : (al9Q A c L b g3 g5).p = alV V := by
  subst h
  rfl
end Go.Proofs.YtdiiilnebepfdaaGreatDoor

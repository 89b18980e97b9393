/- The law FilmNames. -/
import Derived.Test.YtgjpbffoalldkaaGreatDoorWV
import Derived.Test.YtgjpbffoalldkaaGreatDoorWB
namespace Go.Proofs.YtgjpbffoalldkaaGreatDoor
open Go.RowKit

theorem names_any (hA : ∀ W, Glob W → Calls Tryz.prog 18 #[] W fun e w' => e = .returned (.bool true) ∧ Below W.heap.size W w') (s : ByteArray) (w : World) (G : Glob w) (hs : s.size ≤ maxLen) :
    Calls Tryz.prog 3 #[.string s] w fun e w' => e = .returned (.bool true) ∧ Below w.heap.size w w' := by
  have H1 := Lib.hid (name_any s w G hs)
  have H2 := Lib.hid (fun W => refName_any s W hs)
  have HA := Lib.hid hA
  generalize nameB s.data.toList = b at H1 H2
  clear hA hs
  go_enter Tryz.func3, Tryz.ntmps3
  go_wp2_with (first
    | (go_at_call 16; refine H1.out.mono ?_; rintro e w1 ⟨rfl, hb1⟩)
    | (go_at_call 17; refine (H2.out _).mono ?_; rintro e w2 ⟨rfl, rfl⟩)
    | (go_at_call 18; refine (HA.out _ (G.below G.hz hb1)).mono ?_; rintro e w3 ⟨rfl, hb3⟩))
  all_goals (go_ret; exact ⟨rfl, B_trans hb1 hb3⟩)
end Go.Proofs.YtgjpbffoalldkaaGreatDoor

/- Awake returns true. -/
import Derived.Test.YtgjpbffoalldkaaGreatDoorXF
import Derived.Test.YtgjpbffoalldkaaGreatDoorWV
namespace Go.Proofs.YtgjpbffoalldkaaGreatDoor
open Go.RowKit

theorem reel_card (B : Nat) : 100 < (cardB (reelR B) reelM reelS reelL).length := of_decide_eq_true (by kernel_rfl)
theorem write_reel (B : Nat) (W : World) (G : Glob W) (h : Reads W (reelR B) reelM reelS reelL) :
    Calls Tryz.prog 36 #[.agg (reelR B).cs] W fun e w' => (∃ s : ByteArray, e = .returned (.tuple #[.string s, .int .i64 0]) ∧ 100 < s.size) ∧ Below W.heap.size W w' :=
  (write_yes (reelR B) reelM reelS reelL W G h (reel_check B)).mono fun e w' ⟨he, hb⟩ => ⟨⟨_, he, by simpa [ByteArray.size] using reel_card B⟩, hb⟩
/-- AWAKE. -/
theorem awake_any (W : World) (G : Glob W) : Calls Tryz.prog 18 #[] W fun e w' => e = .returned (.bool true) ∧ Below W.heap.size W w' :=
  awake_of (known_of write_reel) W G
end Go.Proofs.YtgjpbffoalldkaaGreatDoor

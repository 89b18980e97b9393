/- The walk of the reference's Shrink. -/
import Derived.Test.YtgjpbffoalldkaaGreatDoorXU
namespace Go.Proofs.YtgjpbffoalldkaaGreatDoor
open Go.RowKit

set_option maxHeartbeats 1000000 in
set_option maxRecDepth 100000 in
theorem refShrink_no (r : RA) (ms : List T3) (ss : List T2) (ls : List T3) (w : World) (hR : Reads w r ms ss ls) (h0 : (checkS r ms ss ls).2.2 ≠ 0) :
    Calls Tryz.prog 35 #[.agg r.cs] w fun e w' => e = .returned (.tuple #[.agg #[.int .i64 0, .int .i64 0], .int .i64 0, .int .i64 (checkS r ms ss ls).2.2]) ∧ Below w.heap.size w w' := by
  have hbl : Below w.heap.size w ((w.alloc (.cells r.cs 30)).alloc (.cells #[.int .i64 0, .int .i64 0] 25)) := B_alloc (B_alloc (Below.refl _ _) _) _
  have HC := refValid_any r ms ss ls _ (hR.below hbl)
  generalize (checkS r ms ss ls).2.2 = e at h0 HC ⊢
  have he : (e == 0) = false := by simpa using h0
  replace HC := Lib.hid HC
  go_enter Tryz.func35, Tryz.ntmps35
  go_wp2_with (go_at_call 58; refine HC.out.mono ?_; rintro e1 w1 ⟨rfl, hb1⟩; obtain ⟨hc1, hf1'⟩ := bcell hb1; have hz1 : w.heap.size + 1 < w1.heap.size := (by have := hb1.size; simp at this; omega))
  refine bodyPost_ret (v := .tuple #[.agg #[.int .i64 0, .int .i64 0], .int .i64 0, .int .i64 e]) (by simp [results, Tryz.results35, go_sem, hc1]) rfl ⟨rfl, ?_⟩
  exact ((B_trans hbl hb1).setCell (by simp) _).setCell (by simp) _
end Go.Proofs.YtgjpbffoalldkaaGreatDoor

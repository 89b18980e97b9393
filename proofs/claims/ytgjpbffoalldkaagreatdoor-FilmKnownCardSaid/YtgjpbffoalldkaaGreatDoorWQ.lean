/- The walk of Place at a frame that the reel does not have. -/
import Derived.Test.YtgjpbffoalldkaaGreatDoorWE
namespace Go.Proofs.YtgjpbffoalldkaaGreatDoor
open Go.RowKit

set_option maxHeartbeats 1000000 in
theorem place_out (r : RA) (x : Int) (ms : List T3) (ss : List T2) (ls : List T3) (w : World) (G : Glob w) (hR : Reads w r ms ss ls) (h0 : (checkS r ms ss ls).2.2 = 0) (hx : inB x 0 (r.f - 1) = false) :
    Calls Tryz.prog 29 #[.agg r.cs, .int .i64 x] w fun e w' => e = .returned (.tuple #[.int .i64 0, .agg #[.int .i64 0, .int .i64 0], .int .i64 7]) ∧ Below w.heap.size w w' := by
  have hV := valid_of h0
  obtain ⟨-, -, -, ⟨hfr0, hfr1⟩, -⟩ := wholeE_ok hV.whole
  have hbl : Below w.heap.size w ((w.alloc (.cells r.cs 30)).alloc (.cells #[.int .i64 0, .int .i64 0] 25)) := B_alloc (B_alloc (Below.refl _ _) _) _
  have HC := check_any r ms ss ls _ ((G.alloc (.cells r.cs 30)).alloc (.cells #[.int .i64 0, .int .i64 0] 25)) (hR.below hbl)
  rw [h0] at HC
  generalize (checkS r ms ss ls).1 = p1 at HC
  generalize (checkS r ms ss ls).2.1 = p2 at HC
  replace HC := Lib.hid HC
  have HW := Lib.hid (fun W => within_any x 0 (r.f - 1) W)
  rw [hx] at HW
  have hwr : IntKind.i64.wrap (r.f - 1) = r.f - 1 := IntWalk.i64_in _ (by omega)
  clear h0 hx hV
  go_enter Tryz.func29, Tryz.ntmps29
  go_wp2_with (first
    | (go_at_call 19; refine HC.out.mono ?_; rintro e w1 ⟨rfl, hb1⟩; obtain ⟨hc1, hf1'⟩ := bcell hb1)
    | (go_at_call 57; refine (HW.out _).mono ?_; rintro e w2 ⟨rfl, rfl⟩))
  refine bodyPost_ret (v := .tuple #[.int .i64 0, .agg #[.int .i64 0, .int .i64 0], .int .i64 7]) (by simp [results, Tryz.results29, go_sem, hc1]) rfl ⟨rfl, ?_⟩
  exact ((B_trans hbl hb1).setCell (by simp) _).setCell (by simp) _
end Go.Proofs.YtgjpbffoalldkaaGreatDoor

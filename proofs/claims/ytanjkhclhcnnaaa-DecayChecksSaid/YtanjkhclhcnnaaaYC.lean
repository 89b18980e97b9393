/- common, morning. -/
import Derived.Test.YtanjkhclhcnnaaaWI
import Derived.Deep.DeepCutAuto
import Derived.RegionTactic
import Derived.ChangeAlike
import Derived.BigRegion
namespace Go.Proofs.Ytanjkhclhcnnaaa
open Go.RowKit Go.Shelf

theorem ret_tup {x x' y y' : Int} {b b' : Bool} (h1 : x = x') (h2 : y = y') (h3 : b = b') : Ending.returned (.tuple #[.agg #[.int .i64 x, .int .i64 y], .bool b]) = .returned (.tuple #[.agg #[.int .i64 x', .int .i64 y'], .bool b']) := by subst h1 h2 h3; rfl

set_option maxRecDepth 100000 in
set_option maxHeartbeats 8000000 in
theorem common_any (a0 a1 b0 b1 : Int) (w : World) :
    Calls Try.prog 110 #[.agg #[.int .i64 a0, .int .i64 a1], .agg #[.int .i64 b0, .int .i64 b1]] w fun e' w' => e' = .returned (.tuple #[.agg #[.int .i64 (max a0 b0), .int .i64 (min a1 b1)], .bool (decide (max a0 b0 ≤ min a1 b1))]) ∧ Below w.heap.size w w' := by
  go_enter Try.func110, Try.ntmps110
  go_wp2
  all_goals go_region
  all_goals go_wp2
  all_goals refine bodyPost_ret (v := .tuple #[.agg #[.int .i64 _, .int .i64 _], .bool _]) (by simp [results, Try.results110, go_sem]; first | (exact ⟨⟨rfl, rfl⟩, rfl⟩) | rfl) rfl ⟨ret_tup (by omega) (by omega) ?_, ?_⟩
  all_goals first | (congr 1; simp only [eq_iff_iff]; omega; done) | exact (B_alloc (B_alloc (B_alloc (B_alloc (Below.refl _ _) _) _) _) _).drew

set_option maxHeartbeats 2000000 in
theorem morning_any (t : TkA) (v : Value) (cs : Array Value) (ts : List T3) (i : Nat) (w : World) (hT : Sl3 w t.ta t.tn ts) (hi' : i < t.tn) (htn : t.tn ≤ 1000)
    (hcs : cs = #[.slice t.r.ha t.r.hn t.r.hc, .slice t.r.wa t.r.wn t.r.wc, .int .i64 t.r.own, .int .i64 t.r.feed, .int .i64 t.r.g0, .int .i64 t.r.g1, .int .i64 t.r.g2, .int .i64 t.r.lost, .int .i64 t.first, v, .int .i64 t.lo, .int .i64 t.hi, .slice t.ta t.tn t.tc]) (h1 : -1000000 ≤ (ts.getD i (0, 0, 0)).1 - t.first) (h2 : (ts.getD i (0, 0, 0)).1 - t.first ≤ 1000000) :
    Calls Try.prog 109 #[.agg cs, .int .i64 i] w fun e' w' => e' = .returned (.int .i64 ((ts.getD i (0, 0, 0)).1 - t.first)) ∧ Below w.heap.size w w' := by
  subst hcs
  obtain ⟨b, o, hta, hbs, hc⟩ := hT.at_ (by omega)
  obtain ⟨p0, -, -⟩ := hc i hi'
  generalize (ts.getD i (0, 0, 0)).1 = x at p0 h1 h2 ⊢
  clear hc hT
  rw [hta]
  clear hta
  have hil : (i : Int) < t.tn := by omega
  have hi0 : (0 : Int) ≤ i := by omega
  have u0 : IntKind.i64.wrap (x - t.first) = x - t.first := IntWalk.i64_in _ (by omega)
  go_enter Try.func109, Try.ntmps109
  go_wp2
  go_quiet (fail)
  go_wp2
  go_ret
  exact ⟨rfl, below_drewN (B_alloc (Below.refl _ _) _) _⟩
end Go.Proofs.Ytanjkhclhcnnaaa

/- keeping, common, morning, Grade. -/
import Derived.Test.YtanjkhclhcnnaaaWQ
import Derived.Test.YtanjkhclhcnnaaaWT
import Derived.Test.YtanjkhclhcnnaaaWH
import Derived.Deep.DeepCutAuto
namespace Go.Proofs.Ytanjkhclhcnnaaa
open Go.RowKit Go.Shelf

def grS (r : RuA) (i : Int) : Int := if i = 0 then r.g0 else if i = 1 then r.g1 else r.g2
def keepS (r : RuA) (g e : Int) : T2 := (if 0 < g - e then grS r (g - e - 1) else 0, if g + e < 3 then grS r (g + e) - 1 else 1000000)
def commonS (a b : T2) : T2 := (max a.1 b.1, min a.2 b.2)

set_option maxRecDepth 100000 in
set_option maxHeartbeats 8000000 in
theorem keeping_any (r : RuA) (hs ws : List T2) (d g e : Int) (w : World) (hO : RuOK r hs ws) (hg : 0 ≤ g ∧ g ≤ 3) (he : 0 ≤ e ∧ e ≤ 3) :
    Calls Try.prog 111 #[.agg r.cs, .agg #[.int .i64 d, .int .i64 g, .int .i64 e]] w fun e' w' => e' = .returned (.agg #[.int .i64 (keepS r g e).1, .int .i64 (keepS r g e).2]) ∧ Below w.heap.size w w' := by
  obtain ⟨g1, g2, g3, g4⟩ := hO.g
  have u0 : IntKind.i64.wrap (r.g0 - 1) = r.g0 - 1 := IntWalk.i64_in _ (by omega)
  have u1 : IntKind.i64.wrap (r.g1 - 1) = r.g1 - 1 := IntWalk.i64_in _ (by omega)
  have u2 : IntKind.i64.wrap (r.g2 - 1) = r.g2 - 1 := IntWalk.i64_in _ (by omega)
  clear hO
  have hgc : g = 0 ∨ g = 1 ∨ g = 2 ∨ g = 3 := by omega
  have hec : e = 0 ∨ e = 1 ∨ e = 2 ∨ e = 3 := by omega
  clear hg he
  rcases hgc with rfl | rfl | rfl | rfl <;> rcases hec with rfl | rfl | rfl | rfl
  all_goals simp only [keepS, grS]
  all_goals go_enter Try.func111, Try.ntmps111
  all_goals go_wp2
  all_goals refine bodyPost_ret (v := .agg #[.int .i64 _, .int .i64 _]) (by simp [results, Try.results111, go_sem]) rfl ⟨rfl, ?_⟩
  all_goals exact B_alloc (B_alloc (B_alloc (B_alloc (Below.refl _ _) _) _) _) _
end Go.Proofs.Ytanjkhclhcnnaaa

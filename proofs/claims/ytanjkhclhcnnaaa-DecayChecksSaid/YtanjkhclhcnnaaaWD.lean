/- climateError, levelsError, testError. -/
import Derived.Test.YtanjkhclhcnnaaaWC
namespace Go.Proofs.Ytanjkhclhcnnaaa
open Go.RowKit

theorem sl4_one (W : World) (a b c d : Int) (t n : Nat) (h : n = W.heap.size) : Sl4 (W.alloc (.cells #[.int .i64 a, .int .i64 b, .int .i64 c, .int .i64 d] t)) (some ⟨n, 0, none⟩) 1 [(a, b, c, d)] := by
  subst h
  refine ⟨rfl, fun _ => ⟨W.heap.size, 0, rfl, by simp, fun i hi => ?_⟩⟩
  obtain rfl : i = 0 := by omega
  exact ⟨by simp, by simp, by simp, by simp⟩
theorem sl4_two (W : World) (a b c d a' b' c' d' : Int) (t n : Nat) (h : n = W.heap.size) : Sl4 (W.alloc (.cells #[.int .i64 a, .int .i64 b, .int .i64 c, .int .i64 d, .int .i64 a', .int .i64 b', .int .i64 c', .int .i64 d'] t)) (some ⟨n, 0, none⟩) 2 [(a, b, c, d), (a', b', c', d')] := by
  subst h
  refine ⟨rfl, fun _ => ⟨W.heap.size, 0, rfl, by simp, fun i hi => ?_⟩⟩
  match i, hi with
  | 0, _ => exact ⟨by simp, by simp, by simp, by simp⟩
  | 1, _ => exact ⟨by simp, by simp, by simp, by simp⟩

theorem climateError_any (d : T4) (w : World) :
    Calls Try.prog 55 #[.agg #[.int .i64 d.1, .int .i64 d.2.1, .int .i64 d.2.2.1, .int .i64 d.2.2.2]] w fun e w' => e = .returned (.int .i64 (dayE d)) ∧ Below w.heap.size w w' := by
  obtain ⟨d0, d1, d2, d3⟩ := d
  unfold dayE
  simp only
  go_enter Try.func55, Try.ntmps55
  go_wp2_with (go_at_call 81; ((with_reducible refine (spansError_any _ _ _ _ _ (by decide) (sl4_two _ _ _ _ _ _ _ _ _ _ _ (by simp))).mono ?_); rintro e w1 ⟨rfl, hb⟩))
  go_ret
  exact ⟨rfl, B_trans (B_alloc (B_alloc (Below.refl _ _) _) _) hb⟩
theorem levelsError_any (n : T2) (w : World) :
    Calls Try.prog 56 #[.agg #[.int .i64 n.1, .int .i64 n.2]] w fun e w' => e = .returned (.int .i64 (lvE n)) ∧ Below w.heap.size w w' := by
  obtain ⟨d0, d1⟩ := n
  unfold lvE
  simp only
  go_enter Try.func56, Try.ntmps56
  go_wp2_with (go_at_call 81; ((with_reducible refine (spansError_any _ _ _ _ _ (by decide) (sl4_one _ _ _ _ _ _ _ (by simp))).mono ?_); rintro e w1 ⟨rfl, hb⟩))
  go_ret
  exact ⟨rfl, B_trans (B_alloc (B_alloc (Below.refl _ _) _) _) hb⟩
end Go.Proofs.Ytanjkhclhcnnaaa

/- The walk of the reference's allows; mathematics of the reference's Shrink. -/
import Derived.Test.YtgjpbffoalldkaaGreatDoorXN
import Derived.Test.YtgjpbffoalldkaaGreatDoorXT
namespace Go.Proofs.YtgjpbffoalldkaaGreatDoor
open Go.RowKit

/-- Whether the length allows so many parts, as the reference has it. -/
def allowsB (mi x0 x1 x2 p : Int) : Bool := inB (x0 * mi * (10000 - p) - 10000 * x1) (-10000 * x2) (10000 * x2)

set_option maxHeartbeats 1000000 in
set_option maxRecDepth 100000 in
theorem refAllows_any (r : RA) (f mi x0 x1 x2 p : Int) (w : World) (hg : Gauge r.g f mi) (q0 : 0 ≤ x0 * mi) (q1 : x0 * mi ≤ 4000000000) (q2 : 0 ≤ x0 * mi * (10000 - p)) (q3 : x0 * mi * (10000 - p) ≤ 40000000000000) (hp0 : 0 ≤ p) (hp1 : p ≤ 10000) (hx0 : 0 ≤ x1) (hx1 : x1 ≤ 400000000) (hx2 : 0 ≤ x2) (hx3 : x2 ≤ 400000000) :
    Calls Tryz.prog 72 #[.agg r.cs, .agg #[.int .i64 x0, .int .i64 x1, .int .i64 x2], .int .i64 p] w fun e w' => e = .returned (.bool (allowsB mi x0 x1 x2 p)) ∧ Below w.heap.size w w' := by
  have HL := Lib.hid (fun W => long_yes r.g f mi W hg)
  have w1 : IntKind.i64.wrap (x0 * mi) = x0 * mi := IntWalk.i64_in _ (by omega)
  have w2 : IntKind.i64.wrap (10000 - p) = 10000 - p := IntWalk.i64_in _ (by omega)
  have w3 : IntKind.i64.wrap (x0 * mi * (10000 - p)) = x0 * mi * (10000 - p) := IntWalk.i64_in _ (by omega)
  have w4 : IntKind.i64.wrap (10000 * x1) = 10000 * x1 := IntWalk.i64_in _ (by omega)
  have w5 : IntKind.i64.wrap (x0 * mi * (10000 - p) - 10000 * x1) = x0 * mi * (10000 - p) - 10000 * x1 := IntWalk.i64_in _ (by omega)
  have w6 : IntKind.i64.wrap (-10000 * x2) = -10000 * x2 := IntWalk.i64_in _ (by omega)
  have w7 : IntKind.i64.wrap (10000 * x2) = 10000 * x2 := IntWalk.i64_in _ (by omega)
  have HI := Lib.hid (fun W => in_any (x0 * mi * (10000 - p) - 10000 * x1) (-10000 * x2) (10000 * x2) W)
  have hb : Below w.heap.size w ((w.alloc (.cells r.cs 30)).alloc (.cells #[.int .i64 x0, .int .i64 x1, .int .i64 x2] 81)) := B_alloc (B_alloc (Below.refl _ _) _) _
  have HB := Lib.hid hb
  clear hg hb
  unfold allowsB
  generalize hRes : inB (x0 * mi * (10000 - p) - 10000 * x1) (-10000 * x2) (10000 * x2) = res at HI ⊢
  replace hRes := Lib.hid hRes
  go_enter Tryz.func72, Tryz.ntmps72
  go_wp2
  go_quiet ((go_at_call 92; exact quiet_left (HL.out _)))
  go_wp2
  all_goals go_ret
  all_goals have hr := hRes.out
  all_goals subst hr
  all_goals exact ⟨ret_bool (by simp [inB]; omega), B_drewN HB.out _⟩

theorem allows_iff (mi x0 x1 x2 p : Int) : allowsB mi x0 x1 x2 p = true ↔ okP (x0, x1, x2) mi p := by
  unfold allowsB okP overI inB
  simp only [Bool.and_eq_true, decide_eq_true_eq]
  generalize x0 * mi * (10000 - p) = z
  constructor
  · rintro ⟨a, b⟩; constructor <;> omega
  · rintro ⟨a, b⟩; constructor <;> omega
/-- What the reference's inner loop holds when all parts above q are tried, if the allowed ones are those from a to b. -/
def nextS (a b q : Int) : Int × Int := if a ≤ b ∧ q < b then (max (q + 1) a, b) else (1, 0)
theorem nextS_start (a b q : Int) (h : b ≤ q) : nextS a b q = (1, 0) := by
  unfold nextS; rw [if_neg (by omega)]
theorem nextS_yes (a b q : Int) (h0 : 0 ≤ q) (h1 : a ≤ q) (h2 : q ≤ b) : nextS a b (q - 1) = (q, max q (nextS a b q).2) := by
  unfold nextS
  rw [if_pos (by omega)]
  by_cases h : q < b
  · rw [if_pos (by omega)]; simp only [Prod.mk.injEq]; omega
  · rw [if_neg (by omega)]; simp only [Prod.mk.injEq]; omega
theorem nextS_no (a b q : Int) (h : ¬ (a ≤ q ∧ q ≤ b)) : nextS a b (q - 1) = nextS a b q := by
  unfold nextS
  by_cases h1 : a ≤ b ∧ q < b
  · rw [if_pos h1, if_pos (by omega)]; simp only [Prod.mk.injEq, and_true]; omega
  · rw [if_neg h1, if_neg (by omega)]
theorem nextS_full (a b lo : Int) (h : a ≤ b) (hl : lo ≤ a) : nextS a b (lo - 1) = (a, b) := by
  unfold nextS; rw [if_pos (by omega)]; simp only [Prod.mk.injEq, and_true]; omega
theorem nextS_none (a b q : Int) (h : b < a) : nextS a b q = (1, 0) := by
  unfold nextS; rw [if_neg (by omega)]
end Go.Proofs.YtgjpbffoalldkaaGreatDoor

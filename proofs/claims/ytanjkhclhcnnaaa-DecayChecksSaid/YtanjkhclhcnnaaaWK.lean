/- The reference's curve, Check, climate, levels. -/
import Derived.Test.YtanjkhclhcnnaaaWJ
namespace Go.Proofs.Ytanjkhclhcnnaaa
open Go.RowKit Go.Shelf

theorem dayE_eq (a b c d : Int) : dayE (a, b, c, d) = if inB a (-300) 600 && inB b (-300) 600 && inB c 0 1000 && inB d 0 1000 then (if decide (b < a) || decide (d < c) then 2 else 0) else 7 := by
  unfold dayE demandE outB turnB
  simp only [List.any_cons, List.any_nil, Bool.or_false]
  cases inB a (-300) 600 <;> cases inB b (-300) 600 <;> cases inB c 0 1000 <;> cases inB d 0 1000 <;> simp
theorem lvE_eq (a b : Int) : lvE (a, b) = if inB a 0 1000000 && inB b 0 1000000 then (if decide (b < a) then 2 else 0) else 7 := by
  unfold lvE demandE outB turnB
  simp only [List.any_cons, List.any_nil, Bool.or_false]
  cases inB a 0 1000000 <;> cases inB b 0 1000000 <;> simp

set_option maxHeartbeats 2000000 in
theorem refClimate_any (a b c d : Int) (w : World) :
    Calls Try.prog 59 #[.agg #[.int .i64 a, .int .i64 b, .int .i64 c, .int .i64 d]] w fun e w' => e = .returned (.int .i64 (dayE (a, b, c, d))) ∧ Below w.heap.size w w' := by
  rw [dayE_eq]
  have H1 := Lib.hid (fun W => in_any a (-300) 600 W)
  have H2 := Lib.hid (fun W => in_any b (-300) 600 W)
  have H3 := Lib.hid (fun W => in_any c 0 1000 W)
  have H4 := Lib.hid (fun W => in_any d 0 1000 W)
  generalize inB a (-300) 600 = q1 at H1 ⊢
  generalize inB b (-300) 600 = q2 at H2 ⊢
  generalize inB c 0 1000 = q3 at H3 ⊢
  generalize inB d 0 1000 = q4 at H4 ⊢
  have hB : ∀ x t, Below w.heap.size w (w.alloc (.cells x t)) := fun _ _ => B_alloc (Below.refl _ _) _
  replace hB := Lib.hid hB
  by_cases t1 : b < a <;> by_cases t2 : d < c <;> cases q1 <;> cases q2 <;> cases q3 <;> cases q4
  all_goals
    go_enter Try.func59, Try.ntmps59
    go_wp2_with (first | (go_at_call 52; ((with_reducible refine (H1.out _).mono ?_); rintro e w1 ⟨rfl, rfl⟩)) | (go_at_call 52; ((with_reducible refine (H2.out _).mono ?_); rintro e w1 ⟨rfl, rfl⟩)) | (go_at_call 52; ((with_reducible refine (H3.out _).mono ?_); rintro e w1 ⟨rfl, rfl⟩)) | (go_at_call 52; ((with_reducible refine (H4.out _).mono ?_); rintro e w1 ⟨rfl, rfl⟩)))
    go_ret
    exact ⟨ret_int (by simp), hB.out _ _⟩

theorem refLevel_any (n : Int) (w : World) :
    Calls Try.prog 66 #[.int .i64 n] w fun e w' => e = .returned (.bool (inB n 0 1000000)) ∧ w = w' := by
  have H1 := Lib.hid (fun W => in_any n 0 1000000 W)
  generalize inB n 0 1000000 = q at H1 ⊢
  go_enter Try.func66, Try.ntmps66
  go_wp2_with (go_at_call 52; ((with_reducible refine (H1.out _).mono ?_); rintro e w1 ⟨rfl, rfl⟩))
  go_ret
  exact ⟨rfl, rfl⟩

set_option maxHeartbeats 2000000 in
theorem refLevels_any (a b : Int) (w : World) :
    Calls Try.prog 60 #[.agg #[.int .i64 a, .int .i64 b]] w fun e w' => e = .returned (.int .i64 (lvE (a, b))) ∧ Below w.heap.size w w' := by
  rw [lvE_eq]
  have H1 := Lib.hid (fun W => refLevel_any a W)
  have H2 := Lib.hid (fun W => refLevel_any b W)
  generalize inB a 0 1000000 = q1 at H1 ⊢
  generalize inB b 0 1000000 = q2 at H2 ⊢
  have hB : ∀ x t, Below w.heap.size w (w.alloc (.cells x t)) := fun _ _ => B_alloc (Below.refl _ _) _
  replace hB := Lib.hid hB
  by_cases t1 : b < a <;> cases q1 <;> cases q2
  all_goals
    go_enter Try.func60, Try.ntmps60
    go_wp2_with (first | (go_at_call 66; ((with_reducible refine (H1.out _).mono ?_); rintro e w1 ⟨rfl, rfl⟩)) | (go_at_call 66; ((with_reducible refine (H2.out _).mono ?_); rintro e w1 ⟨rfl, rfl⟩)))
    go_ret
    exact ⟨ret_int (by simp), hB.out _ _⟩
end Go.Proofs.Ytanjkhclhcnnaaa

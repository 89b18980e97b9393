/- gain, least, most. -/
import Derived.Test.YtanjkhclhcnnaaaWQ
import Derived.Test.YtanjkhclhcnnaaaWP
namespace Go.Proofs.Ytanjkhclhcnnaaa
open Go.RowKit Go.Shelf

set_option maxHeartbeats 2000000 in
theorem gain_any (r : RuA) (hs ws : List T2) (n s : Int) (w : World) (hO : RuOK r hs ws) (h1 : 0 ≤ n) (h2 : n ≤ 1000000) (h3 : 0 ≤ s) (h4 : s ≤ 1000) :
    Calls Try.prog 106 #[.agg r.cs, .int .i64 n, .int .i64 s] w fun e w' => e = .returned (.int .i64 (gainS r n s)) ∧ Below w.heap.size w w' := by
  obtain ⟨g1, g2, g3, g4⟩ := hO.gain_bd h1 h2 h3 h4
  obtain ⟨o1, o2⟩ := hO.own
  unfold gainS at g3 g4 ⊢
  have u1 : IntKind.i64.wrap (r.own * 1000000) = r.own * 1000000 := IntWalk.i64_in _ (by omega)
  have u2 : IntKind.i64.wrap (n * r.feed) = n * r.feed := IntWalk.i64_in _ (by omega)
  have u3 : IntKind.i64.wrap (r.own * 1000000 + n * r.feed) = r.own * 1000000 + n * r.feed := IntWalk.i64_in _ (by omega)
  have u4 : IntKind.i64.wrap ((r.own * 1000000 + n * r.feed) * s) = (r.own * 1000000 + n * r.feed) * s := IntWalk.i64_in _ (by omega)
  clear hO
  go_enter Try.func106, Try.ntmps106
  go_wp2
  go_ret
  exact ⟨ret_int (by first | rfl | simp [u1, u2, u3, u4]), B_alloc (Below.refl _ _) _⟩

set_option maxHeartbeats 2000000 in
theorem least_any (r : RuA) (hs ws : List T2) (n s t : Int) (w : World) (hO : RuOK r hs ws) (h1 : 0 ≤ n) (h2 : n ≤ 1000000) (h3 : 0 ≤ s) (h4 : s ≤ 1000) :
    Calls Try.prog 85 #[.agg r.cs, .agg #[.int .i64 s, .int .i64 t], .int .i64 n] w fun e w' => e = .returned (.int .i64 (leastS r s n)) ∧ Below w.heap.size w w' := by
  obtain ⟨-, -, g3, g4⟩ := hO.gain_bd h1 h2 h3 h4
  have HC := Lib.hid (fun W => gain_any r hs ws n s W hO h1 h2 h3 h4)
  unfold leastS
  generalize gainS r n s = g at g3 g4 HC ⊢
  have hb : Below w.heap.size w ((w.alloc (.cells r.cs 96)).alloc (.cells #[.int .i64 s, .int .i64 t] 28)) := B_alloc (B_alloc (Below.refl _ _) _) _
  replace hb := Lib.hid hb
  have d1 : g.tdiv 1000000000 = g / 1000000000 := Int.tdiv_eq_ediv_of_nonneg g3
  have d2 : 0 ≤ g / 1000000000 := by omega
  have d3 : g / 1000000000 ≤ 2000000 := by omega
  have u1 : IntKind.i64.wrap (n + g / 1000000000) = n + g / 1000000000 := IntWalk.i64_in _ (by omega)
  clear hO
  go_enter Try.func85, Try.ntmps85
  go_wp2_with (go_at_call 106; ((with_reducible refine (HC.out _).mono ?_); rintro e w1 ⟨rfl, hb1⟩))
  all_goals go_ret
  all_goals exact ⟨ret_int (by omega), B_trans hb.out hb1⟩

set_option maxHeartbeats 2000000 in
theorem most_any (r : RuA) (hs ws : List T2) (n s t : Int) (w : World) (hO : RuOK r hs ws) (h1 : 0 ≤ n) (h2 : n ≤ 1000000) (h3 : 0 ≤ s) (h4 : s ≤ 1000) :
    Calls Try.prog 86 #[.agg r.cs, .agg #[.int .i64 t, .int .i64 s], .int .i64 n] w fun e w' => e = .returned (.int .i64 (mostS r s n)) ∧ Below w.heap.size w w' := by
  obtain ⟨-, -, g3, g4⟩ := hO.gain_bd h1 h2 h3 h4
  have HC := Lib.hid (fun W => gain_any r hs ws n s W hO h1 h2 h3 h4)
  unfold mostS
  generalize gainS r n s = g at g3 g4 HC ⊢
  have hb : Below w.heap.size w ((w.alloc (.cells r.cs 96)).alloc (.cells #[.int .i64 t, .int .i64 s] 28)) := B_alloc (B_alloc (Below.refl _ _) _) _
  replace hb := Lib.hid hb
  have e0 : g + 1000000000 - 1 = g + 999999999 := by omega
  have u0 : IntKind.i64.wrap (g + 1000000000) = g + 1000000000 := IntWalk.i64_in _ (by omega)
  have u2 : IntKind.i64.wrap (g + 1000000000 - 1) = g + 999999999 := by rw [e0]; exact IntWalk.i64_in _ (by omega)
  have d1 : (g + 999999999).tdiv 1000000000 = (g + 999999999) / 1000000000 := Int.tdiv_eq_ediv_of_nonneg (by omega)
  have d2 : 0 ≤ (g + 999999999) / 1000000000 := by omega
  have d3 : (g + 999999999) / 1000000000 ≤ 2000000 := by omega
  have u1 : IntKind.i64.wrap (n + (g + 999999999) / 1000000000) = n + (g + 999999999) / 1000000000 := IntWalk.i64_in _ (by omega)
  clear hO
  go_enter Try.func86, Try.ntmps86
  go_wp2_with (go_at_call 106; ((with_reducible refine (HC.out _).mono ?_); rintro e w1 ⟨rfl, hb1⟩))
  all_goals go_ret
  all_goals exact ⟨ret_int (by omega), B_trans hb.out hb1⟩
end Go.Proofs.Ytanjkhclhcnnaaa

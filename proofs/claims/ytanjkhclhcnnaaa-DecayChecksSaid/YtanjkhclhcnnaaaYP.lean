/- Grade. -/
import Derived.Test.YtanjkhclhcnnaaaWH
namespace Go.Proofs.Ytanjkhclhcnnaaa
open Go.RowKit Go.Shelf

def gradeL (r : RuA) (n : Int) : Nat := if r.g0 ≤ n then (if r.g1 ≤ n then (if r.g2 ≤ n then 3 else 2) else 1) else 0
def gradeS (r : RuA) (hs ws : List T2) (n : Int) : Int × Int := if (checkS r hs ws).2.2 ≠ 0 then (0, (checkS r hs ws).2.2) else if inB n 0 1000000 then (gradeL r n, 0) else (0, 7)

set_option maxRecDepth 100000 in
set_option maxHeartbeats 8000000 in
theorem grade_any (r : RuA) (hs ws : List T2) (n : Int) (w : World) (hR : RuR w r hs ws) :
    Calls Try.prog 24 #[.agg r.cs, .int .i64 n] w fun e w' => e = .returned (.tuple #[.int .i64 (gradeS r hs ws n).1, .int .i64 (gradeS r hs ws n).2]) ∧ Below w.heap.size w w' := by
  have hb0 : Below w.heap.size w (w.alloc (.cells r.cs 25)) := B_alloc (Below.refl _ _) _
  have H1 := Lib.hid (check_any r hs ws (w.alloc (.cells r.cs 25)) (hR.below hb0))
  have H2 := Lib.hid (fun W => within_any n 0 1000000 W)
  have hC : ∀ W, Below (w.alloc (.cells r.cs 25)).heap.size (w.alloc (.cells r.cs 25)) W → W.cell? ⟨w.heap.size, 4, none⟩ = some (.int .i64 r.g0) ∧ W.cell? ⟨w.heap.size, 5, none⟩ = some (.int .i64 r.g1) ∧ W.cell? ⟨w.heap.size, 6, none⟩ = some (.int .i64 r.g2) := fun W hb =>
    ⟨(hb.cell (p := ⟨w.heap.size, 4, none⟩) (by simp)).trans (World.cell?_alloc_at _ _ _ _ rfl), (hb.cell (p := ⟨w.heap.size, 5, none⟩) (by simp)).trans (World.cell?_alloc_at _ _ _ _ rfl), (hb.cell (p := ⟨w.heap.size, 6, none⟩) (by simp)).trans (World.cell?_alloc_at _ _ _ _ rfl)⟩
  replace hC := Lib.hid hC
  unfold gradeS
  generalize checkS r hs ws = c at H1 ⊢
  obtain ⟨c1, c2, c3⟩ := c
  simp only [tri] at H1 ⊢
  replace hb0 := Lib.hid hb0
  clear hR
  by_cases he : c3 = 0
  · subst he
    rw [if_neg (by simp)]
    cases hq : inB n 0 1000000 with
    | false =>
      rw [if_neg (by simp)]
      rw [hq] at H2
      go_enter Try.func24, Try.ntmps24
      go_wp2_with (first | (go_at_call 15; ((with_reducible refine (H1.out).mono ?_); rintro e w1 ⟨rfl, hb1⟩)) | (go_at_call 49; ((with_reducible refine (H2.out _).mono ?_); rintro e w2 ⟨rfl, rfl⟩)))
      go_ret2
      exact ⟨rfl, B_trans hb0.out hb1⟩
    | true =>
      rw [if_pos rfl]
      rw [hq] at H2
      simp only
      go_enter Try.func24, Try.ntmps24
      go_wp2_with (first | (go_at_call 15; ((with_reducible refine (H1.out).mono ?_); rintro e w1 ⟨rfl, hb1'⟩; have hb1 := Lib.hid hb1'; clear hb1')) | (go_at_call 49; ((with_reducible refine (H2.out _).mono ?_); rintro e w2 ⟨rfl, rfl⟩)))
      go_loopg [9] 3 (fun gk i wr => ∃ k : Nat, gk = 3 - k ∧ k ≤ 3 ∧ i = .int .i64 (k : Int) ∧ (1 ≤ k → r.g0 ≤ n) ∧ (2 ≤ k → r.g1 ≤ n) ∧ (3 ≤ k → r.g2 ≤ n) ∧ wr = w1)
      case atStart => exact ⟨0, rfl, by omega, rfl, fun h => by omega, fun h => by omega, fun h => by omega, rfl⟩
      case round =>
        obtain ⟨k, hgk, hk, rfl, h1, h2, h3, rfl⟩ := hrel
        obtain ⟨q0, q1, q2⟩ := hC.out _ hb1.out
        have hk4 : k = 0 ∨ k = 1 ∨ k = 2 ∨ k = 3 := by omega
        rcases hk4 with rfl | rfl | rfl | rfl
        · clear h1 h2 h3
          by_cases g : r.g0 ≤ n
          · go_wp2
            go_roundg 2
            case measure => omega
            case rel => exact ⟨1, rfl, by omega, rfl, fun _ => g, fun h => by omega, fun h => by omega, rfl⟩
          · have hz : gradeL r n = 0 := by unfold gradeL; rw [if_neg g]
            go_wp2
            go_ret2
            exact ⟨by first | rfl | (rw [hz]; rfl), B_trans hb0.out hb1.out⟩
        · replace h1 := h1 (by omega)
          clear h2 h3
          by_cases g : r.g1 ≤ n
          · go_wp2
            go_roundg 1
            case measure => omega
            case rel => exact ⟨2, rfl, by omega, rfl, fun _ => h1, fun _ => g, fun h => by omega, rfl⟩
          · have hz : gradeL r n = 1 := by unfold gradeL; rw [if_pos h1, if_neg g]
            go_wp2
            go_ret2
            exact ⟨by first | rfl | (rw [hz]; rfl), B_trans hb0.out hb1.out⟩
        · replace h1 := h1 (by omega)
          replace h2 := h2 (by omega)
          clear h3
          by_cases g : r.g2 ≤ n
          · go_wp2
            go_roundg 0
            case measure => omega
            case rel => exact ⟨3, rfl, by omega, rfl, fun _ => h1, fun _ => h2, fun _ => g, rfl⟩
          · have hz : gradeL r n = 2 := by unfold gradeL; rw [if_pos h1, if_pos h2, if_neg g]
            go_wp2
            go_ret2
            exact ⟨by first | rfl | (rw [hz]; rfl), B_trans hb0.out hb1.out⟩
        · have hz : gradeL r n = 3 := by unfold gradeL; rw [if_pos (h1 (by omega)), if_pos (h2 (by omega)), if_pos (h3 (by omega))]
          clear h1 h2 h3
          go_wp2
          go_ret2
          exact ⟨by first | rfl | (rw [hz]; rfl), B_trans hb0.out hb1.out⟩
  · rw [if_pos he]
    simp only
    go_enter Try.func24, Try.ntmps24
    go_wp2_with (first | (go_at_call 15; ((with_reducible refine (H1.out).mono ?_); rintro e w1 ⟨rfl, hb1⟩)))
    go_ret2
    exact ⟨rfl, B_trans hb0.out hb1⟩
end Go.Proofs.Ytanjkhclhcnnaaa

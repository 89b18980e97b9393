/- slices.Grow of no days. -/
import Derived.Test.YtanjkhclhcnnaaaJV
import Derived.Lib.AppendZerosOnto
import Derived.Lib.SliceRun
import Derived.Lib.Walk
namespace Go.Proofs.Ytanjkhclhcnnaaa
open Go Go.RowKit Go.Shelf

set_option maxRecDepth 100000 in
set_option maxHeartbeats 4000000 in
theorem grow_none (n : Nat) (w : World) (hn : 1 ≤ n ∧ n ≤ 400) : Calls Try.prog 99 #[.slice none 0 0, .int .i64 (n : Int)] w fun e w' => ∃ v, e = .returned v ∧ w'.ownsRow w.heap.size 39 4 v 0 [] ∧ Below w.heap.size w w' := by
  obtain ⟨n1, n2⟩ := hn
  obtain ⟨i0, hi, hz0, hs0, hy0⟩ := info_parts infoDay
  have hap := Lib.run_append_grow_zeros (P := Try.prog) w 26 3 26 39 i0 _ .i64 .i64 Try.underlying26 Try.underlying3 hi hz0 none 0 0 [] (run_firstCells_none w.drew i0.size 0 0 0) n n1 (by omega) (by omega) (by omega) (by rw [hy0]; omega) (by rw [hy0]; simp [Builtin.nextslicecap]; split <;> omega)
  obtain ⟨G, hG⟩ : ∃ G, grownCap w (0 + n) 0 39 = G := ⟨_, rfl⟩
  have hg1 := grownCap_ge w (0 + n) 0 39
  have hg2 := grownCap_le_maxLen w (0 + n) 0 39 (by unfold maxLen; omega)
  rw [hG] at hap hg1 hg2
  obtain ⟨C, hC⟩ : ∃ C, (([] : List Value).toArray ++ Builtin.zeroCells (Value.agg #[.int .i64 0, .int .i64 0, .int .i64 0, .int .i64 0]).cells n ++ Builtin.zeroCells (Value.agg #[.int .i64 0, .int .i64 0, .int .i64 0, .int .i64 0]).cells (G - (0 + n))) = C := ⟨_, rfl⟩
  have hCs : C.size = G * 4 := by
    rw [← hC, Array.size_append, Array.size_append, size_zeroCells, size_zeroCells]
    simp [Value.cells]
    omega
  rw [hC] at hap
  rw [Nat.zero_add] at hap
  have u1 : IntKind.i64.wrap (n : Int) = (n : Int) := IntWalk.i64_in _ (by omega)
  have e1 : ¬ (n : Int) < 0 := by omega
  have e2 : (0 : Int) < (n : Int) := by omega
  have HR := Lib.hid (World.ownsRow_made (base := w.heap.size) (e := 39) (size := 4) w.drew C G (Nat.le_refl _) hg2 hCs)
  clear hC hG hg1 hg2 hCs hi hz0 hs0 hy0
  go_enter Try.func99, Try.ntmps99
  go_wp2_with (at_builtin; refine Lib.wpList_append_run _ rfl _ _ _ _ rfl _ _ rfl rfl _ _ hap ?_)
  go_wp2
  refine bodyPost_ret (v := .slice (some ⟨w.heap.size, 0, none⟩) 0 G) (by simp [results, Try.results99, go_sem]) rfl ⟨_, rfl, HR.out, ?_⟩
  exact B_alloc (Below.refl _ _).drew _
end Go.Proofs.Ytanjkhclhcnnaaa

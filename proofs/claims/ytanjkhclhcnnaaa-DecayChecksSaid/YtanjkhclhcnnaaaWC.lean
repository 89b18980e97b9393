/- spansError: its deferred closure, and it itself. -/
import Derived.Test.YtanjkhclhcnnaaaWB
namespace Go.Proofs.Ytanjkhclhcnnaaa
open Go.RowKit

set_option maxRecDepth 100000 in
set_option maxHeartbeats 1000000 in
theorem catch_panicking (p : Addr) (x k : Int) (older : List PanicEntry) (w : World) (hc : w.cell? p = some (.int .i64 x)) (hz : w.frozen? p = false) :
    CallsD Try.prog 102 #[.pointer (some p)] (.panicking ({ v := .iface 32 (.int .i64 k), recovered := false } :: older)) w fun e u' w' =>
      e = .returned (.tuple #[]) ∧ u' = .panicking ({ v := .iface 32 (.int .i64 k), recovered := true } :: older) ∧ w' = w.setCell p (.int .i64 k) := by
  have hta : ∀ W : World, (Instr.typeAssert (.iface 32 (.int .i64 k)) 20 32 true).run Try.prog W = .ok (.tuple #[.int .i64 k, .bool true]) W := fun _ => rfl
  refine callsD_of_wpS Try.func102 rfl fun c₀ cs hu => ?_
  apply wpS_seq
  apply wpS_region
  simp [wpOpsS, go_sem, recoverD, hu, hta, Try.ntmps102, Exit.thenS]
  apply wpS_seq
  apply wpS_region
  simp [wpOpsS, go_sem, Exit.thenS]
  refine wpS_cond (t := true) (by simp [Act.eval, Array.replicate]) ?_
  simp only [if_true]
  apply wpS_region
  simp [wpOpsS, go_sem, hc, hz, bodyPostS, results, Try.results102]

set_option maxRecDepth 100000 in
set_option maxHeartbeats 1000000 in
theorem catch_idle (p : Addr) (w : World) :
    CallsD Try.prog 102 #[.pointer (some p)] .returning w fun e u' w' => e = .returned (.tuple #[]) ∧ u' = .returning ∧ w' = w := by
  have hta : ∀ W : World, (Instr.typeAssert .nilIface 20 32 true).run Try.prog W = .ok (.tuple #[.int .i64 0, .bool false]) W := fun _ => by kernel_rfl
  refine callsD_of_wpS Try.func102 rfl fun c₀ cs hu => ?_
  apply wpS_seq
  apply wpS_region
  simp [wpOpsS, go_sem, recoverD, hu, hta, Try.ntmps102, Exit.thenS]
  apply wpS_seq
  apply wpS_region
  simp [wpOpsS, go_sem, Exit.thenS]
  refine wpS_cond (t := false) (by simp [Act.eval, Array.replicate]) ?_
  simp only [Bool.false_eq_true, if_false]
  refine wpS_of_wp (wp_skip ?_)
  cases c₀
  simp_all [bodyPostS, results, Try.results102]

set_option maxHeartbeats 1000000 in
theorem spansError_any (xs : List T4) (a : Option Addr) (n c : Nat) (w : World) (hn : n ≤ 1000) (hS : Sl4 w a n xs) :
    Calls Try.prog 81 #[.slice a n c] w fun e w' => e = .returned (.int .i64 (demandE xs)) ∧ Below w.heap.size w w' := by
  have hmf : ∀ (fn : Fn) (first cap : Array Value) (w : World), (Instr.makeFunc fn first cap).run Try.prog w = .ok (.func fn first cap) w := fun _ _ _ _ => rfl
  have hS1 := hS.below (B_alloc (Below.refl w.heap.size w) (.cells #[.int .i64 0] 32))
  by_cases h0 : demandE xs = 0
  · have HC := Lib.hid (demand_ok xs a n c _ hn hS1 h0)
    rw [h0]
    clear h0 hS hS1
    go_enter_defers Try.func81, Try.ntmps81
    go_wp2_with (go_at_call 103; ((with_reducible refine HC.out.mono ?_); rintro e w1 ⟨rfl, hb⟩; obtain ⟨hc1, hf1⟩ := bcell hb))
    have hz : w.heap.size < w1.heap.size := by have := hb.size; simp at this; omega
    refine leaves_cons (f := 102) (args := #[.pointer (some ⟨w.heap.size, 0, none⟩)]) (by simp) (by simp [go_sem]) ?_
    refine (catch_idle ⟨w.heap.size, 0, none⟩ _).mono ?_
    rintro e u' w'' ⟨rfl, rfl, rfl⟩
    refine ⟨_, ?_, rfl, ?_⟩
    · simp [results, Try.results81, go_sem, hc1]
    · exact (B_trans (B_alloc (Below.refl _ _) _) hb).setCell (Nat.le_refl _) _
  · have HC := Lib.hid (demand_bad xs a n c _ hn hS1 h0)
    generalize demandE xs = k at HC ⊢
    clear h0 hS hS1
    go_enter_defers Try.func81, Try.ntmps81
    go_wp2_with (go_at_call 103; ((with_reducible refine HC.out.mono ?_); rintro e w1 ⟨he, hb⟩; obtain rfl := he; obtain ⟨hc1, hf1⟩ := bcell hb))
    have hz : w.heap.size < w1.heap.size := by have := hb.size; simp at this; omega
    refine leaves_cons (f := 102) (args := #[.pointer (some ⟨w.heap.size, 0, none⟩)]) (by simp) (by simp [go_sem]) ?_
    refine (catch_panicking ⟨w.heap.size, 0, none⟩ 0 k [] _ ?_ ?_).mono ?_
    · rw [hc1 _ _ (by simp)]; simp
    · rw [hf1 _ _ (by simp)]; simp
    rintro e u' w'' ⟨rfl, rfl, rfl⟩
    have hcell : (w1.setCell ⟨w.heap.size, 0, none⟩ (.int .i64 k)).cell? ⟨w.heap.size, 0, none⟩ = some (.int .i64 k) := World.cell?_setCell_same' _ _ _ (by rw [hc1 _ _ (by simp)]; simp)
    have hB : Below w.heap.size w (w1.setCell ⟨w.heap.size, 0, none⟩ (.int .i64 k)) := (B_trans (B_alloc (Below.refl _ _) _) hb).setCell (Nat.le_refl _) _
    generalize w1.setCell ⟨w.heap.size, 0, none⟩ (.int .i64 k) = W at hcell hB ⊢
    simp [Leaves, settle, results, Try.results81, go_sem, hcell, hB]
end Go.Proofs.Ytanjkhclhcnnaaa

/- The iterators over mornings, and over a slice of integers from behind. -/
import Derived.RangeFuncNested
import Derived.RangeFuncBound
import Derived.RangeFuncCalls
import Derived.RangeFuncLeaves
import Derived.Shelf.Abstract
import Derived.Shelf.RegionOpen
import Derived.WalkKit
import Derived.OwnWalkIn
import Derived.TacticsInMore
import Derived.LoopNIn
import Derived.LoopIn
import Derived.Test.YtanjkhclhcnnaaaWA
namespace Go.Proofs.Ytanjkhclhcnnaaa
open Go.RowKit Go.Shelf
attribute [local go_sem] Oper.semAt_some

theorem fins_succ {N k : Nat} (h : k < N) : (List.finRange N).take (k + 1) = (List.finRange N).take k ++ [⟨k, h⟩] := by
  rw [List.take_succ_eq_append_getElem (by simpa using h)]; simp
theorem fins_len {N k : Nat} (h : k ≤ N) : ((List.finRange N).take k).length = k := by simp [h]

/-- Two blocks stay. -/
structure KB2 (B1 B2 : Nat) (W W' : World) : Prop where
  b1 : W'.heap[B1]? = W.heap[B1]?
  b2 : W'.heap[B2]? = W.heap[B2]?
theorem KB2.refl (B1 B2 : Nat) (W : World) : KB2 B1 B2 W W := ⟨rfl, rfl⟩
theorem KB2.trans {B1 B2 : Nat} {A B C : World} (h : KB2 B1 B2 A B) (k : KB2 B1 B2 B C) : KB2 B1 B2 A C := ⟨k.b1.trans h.b1, k.b2.trans h.b2⟩
theorem KB2.c1 {B1 B2 : Nat} {W W' : World} (h : KB2 B1 B2 W W') (j : Nat) : W'.cell? ⟨B1, j, none⟩ = W.cell? ⟨B1, j, none⟩ := World.cell?_of_block h.b1
theorem KB2.c2 {B1 B2 : Nat} {W W' : World} (h : KB2 B1 B2 W W') (j : Nat) : W'.cell? ⟨B2, j, none⟩ = W.cell? ⟨B2, j, none⟩ := World.cell?_of_block h.b2
theorem KB2.put {B1 B2 : Nat} {n : Nat} (h1 : B1 < n) (h2 : B2 < n) (W : World) (l : Nat) (o' : Obj) (hl : n ≤ l) : KB2 B1 B2 W (W.putObj l o') := ⟨World.putObj_heap_other (by omega), World.putObj_heap_other (by omega)⟩

set_option maxRecDepth 100000 in
set_option maxHeartbeats 2000000 in
theorem forward1_in (F : Fence) (n : Nat) (h6 : F.fn 87) (hro : F.round = none) (hn : 1 ≤ n) (l B1 B2 N : Nat) (lo : Int) (hlo : 0 ≤ lo) (hlo2 : lo ≤ 100000) (hN : N ≤ 100000) (J Jx : List (Fin N) → World → Prop)
    (hY : ∀ pre x W, J pre W → pre.length < N → YieldAt F (n - 1) Try.prog l #[.int .i64 (lo + x.val)] W fun e W' =>
      (e = .returned (.bool true) ∧ J (pre ++ [x]) W' ∧ KB2 B1 B2 W W') ∨ (e = .returned (.bool false) ∧ Jx (pre ++ [x]) W'))
    (W : World) (hc1 : W.cell? ⟨B1, 0, none⟩ = some (.int .i64 lo)) (hc2 : W.cell? ⟨B2, 0, none⟩ = some (.int .i64 (lo + N))) (h0 : J [] W) :
    CallsIn F n Try.prog 87 #[.func (.yield l) #[] #[], .pointer (some ⟨B1, 0, none⟩), .pointer (some ⟨B2, 0, none⟩)] W fun e W' => (∃ v, e = .returned v) ∧
      ((∃ ys, ys = List.finRange N ∧ J ys W') ∨ (∃ pre, pre <+: List.finRange N ∧ Jx pre W')) := by
  refine callsIn_of_wp Try.func87 rfl h6 ?_ hro
  simp only [Try.ntmps87, List.size_toArray, List.length_cons, List.length_nil, Nat.reduceAdd, Nat.reduceSub, Array.replicate_succ, Array.replicate_zero, List.push_toArray, List.append_toArray, List.nil_append, List.cons_append]
  gi_wp2
  gi_loopw [4] (fun i wr => ∃ k : Nat, k ≤ N ∧ i = .int .i64 (lo + k) ∧ J ((List.finRange N).take k) wr ∧ KB2 B1 B2 W wr)
    (fun i _ => (lo + N - intOf i).toNat)
  case atStart => exact ⟨0, Nat.zero_le _, by simp, h0, KB2.refl _ _ _⟩
  case round =>
    obtain ⟨k, hk, rfl, hJs, hnx⟩ := hrel
    have c2 : wr.cell? ⟨B2, 0, none⟩ = some (.int .i64 (lo + N)) := (hnx.c2 0).trans hc2
    by_cases hlt : k < N
    · obtain ⟨fn, tmps, assign, body, hy, hR⟩ := hY _ ⟨k, hlt⟩ wr hJs (by rw [fins_len hk]; exact hlt)
      dsimp only at hy
      have hl1 : lo + (k : Int) < lo + N := by omega
      gi_wp2
      refine hR.mono ?_
      rintro e W3 (⟨rfl, hJ3, hk3⟩ | ⟨rfl, hJx3⟩)
      · gi_wp2
        go_roundw
        case rel => exact ⟨k + 1, by omega, by rw [show lo + ((k + 1 : Nat) : Int) = lo + (k : Int) + 1 by omega], by rw [fins_succ hlt]; exact hJ3, hnx.trans hk3⟩
        case measure => simp [intOf]; omega
      · gi_wp2
        first | (go_end0; exact ⟨⟨_, rfl⟩, .inr ⟨_, by rw [← fins_succ hlt]; exact List.take_prefix _ _, hJx3⟩⟩) | (refine bodyPost_ret (results_none rfl _ _ _) rfl ?_; exact ⟨⟨_, rfl⟩, .inr ⟨_, by rw [← fins_succ hlt]; exact List.take_prefix _ _, hJx3⟩⟩)
    · obtain rfl : k = N := by omega
      have hl1 : ¬ (lo + (k : Int) < lo + k) := by omega
      gi_wp2
      all_goals (
        refine ⟨fun _ h => (by cases h), ?_⟩
        gi_wp2
        first | (go_end0; exact ⟨⟨_, rfl⟩, .inl ⟨_, rfl, by rw [List.take_of_length_le (by simp)] at hJs; exact hJs⟩⟩) | (refine bodyPost_ret (results_none rfl _ _ _) rfl ?_; exact ⟨⟨_, rfl⟩, .inl ⟨_, rfl, by rw [List.take_of_length_le (by simp)] at hJs; exact hJs⟩⟩))
set_option maxRecDepth 100000 in
set_option maxHeartbeats 2000000 in
theorem backward1_in (F : Fence) (n : Nat) (h6 : F.fn 113) (hro : F.round = none) (hn : 1 ≤ n) (l B1 B2 N : Nat) (lo : Int) (hlo : 0 ≤ lo) (hlo2 : lo ≤ 100000) (hN : N ≤ 100000) (J Jx : List (Fin N) → World → Prop)
    (hY : ∀ pre x W, J pre W → pre.length < N → YieldAt F (n - 1) Try.prog l #[.int .i64 (lo + N - 1 - x.val)] W fun e W' =>
      (e = .returned (.bool true) ∧ J (pre ++ [x]) W' ∧ KB2 B1 B2 W W') ∨ (e = .returned (.bool false) ∧ Jx (pre ++ [x]) W'))
    (W : World) (hc1 : W.cell? ⟨B1, 0, none⟩ = some (.int .i64 lo)) (hc2 : W.cell? ⟨B2, 0, none⟩ = some (.int .i64 (lo + N))) (h0 : J [] W) :
    CallsIn F n Try.prog 113 #[.func (.yield l) #[] #[], .pointer (some ⟨B2, 0, none⟩), .pointer (some ⟨B1, 0, none⟩)] W fun e W' => (∃ v, e = .returned v) ∧
      ((∃ ys, ys = List.finRange N ∧ J ys W') ∨ (∃ pre, pre <+: List.finRange N ∧ Jx pre W')) := by
  refine callsIn_of_wp Try.func113 rfl h6 ?_ hro
  simp only [Try.ntmps113, List.size_toArray, List.length_cons, List.length_nil, Nat.reduceAdd, Nat.reduceSub, Array.replicate_succ, Array.replicate_zero, List.push_toArray, List.append_toArray, List.nil_append, List.cons_append]
  gi_wp2
  gi_loopw [4] (fun i wr => ∃ k : Nat, k ≤ N ∧ i = .int .i64 (lo + N - 1 - k) ∧ J ((List.finRange N).take k) wr ∧ KB2 B1 B2 W wr)
    (fun i _ => (intOf i + 1 - lo).toNat)
  case atStart => exact ⟨0, Nat.zero_le _, by simp, h0, KB2.refl _ _ _⟩
  case round =>
    obtain ⟨k, hk, rfl, hJs, hnx⟩ := hrel
    have c2 : wr.cell? ⟨B1, 0, none⟩ = some (.int .i64 lo) := (hnx.c1 0).trans hc1
    by_cases hlt : k < N
    · obtain ⟨fn, tmps, assign, body, hy, hR⟩ := hY _ ⟨k, hlt⟩ wr hJs (by rw [fins_len hk]; exact hlt)
      dsimp only at hy
      have hl1 : lo ≤ lo + (N : Int) - 1 - k := by omega
      have hl2 : lo + (N : Int) - 1 - k ≤ 200000 := by omega
      gi_wp2
      refine hR.mono ?_
      rintro e W3 (⟨rfl, hJ3, hk3⟩ | ⟨rfl, hJx3⟩)
      · gi_wp2
        go_roundw
        case rel => exact ⟨k + 1, by omega, by rw [show lo + (N : Int) - 1 - ((k + 1 : Nat) : Int) = lo + (N : Int) - 1 - k - 1 by omega], by rw [fins_succ hlt]; exact hJ3, hnx.trans hk3⟩
        case measure => simp [intOf]; omega
      · gi_wp2
        first | (go_end0; exact ⟨⟨_, rfl⟩, .inr ⟨_, by rw [← fins_succ hlt]; exact List.take_prefix _ _, hJx3⟩⟩) | (refine bodyPost_ret (results_none rfl _ _ _) rfl ?_; exact ⟨⟨_, rfl⟩, .inr ⟨_, by rw [← fins_succ hlt]; exact List.take_prefix _ _, hJx3⟩⟩)
    · obtain rfl : k = N := by omega
      have hl1 : ¬ (lo ≤ lo + (k : Int) - 1 - k) := by omega
      gi_wp2
      all_goals (
        refine ⟨fun _ h => (by cases h), ?_⟩
        gi_wp2
        first | (go_end0; exact ⟨⟨_, rfl⟩, .inl ⟨_, rfl, by rw [List.take_of_length_le (by simp)] at hJs; exact hJs⟩⟩) | (refine bodyPost_ret (results_none rfl _ _ _) rfl ?_; exact ⟨⟨_, rfl⟩, .inl ⟨_, rfl, by rw [List.take_of_length_le (by simp)] at hJs; exact hJs⟩⟩))

set_option maxHeartbeats 1000000 in
theorem forward_in (F : Fence) (n : Nat) (h5 : F.fn 69) (hro : F.round = none) (a b : Int) (w : World) :
    CallsIn F n Try.prog 69 #[.int .i64 a, .int .i64 b] w fun e w' => e = .returned (.func (.func 87) #[] #[.pointer (some ⟨w.heap.size, 0, none⟩), .pointer (some ⟨w.heap.size + 1, 0, none⟩)]) ∧ w' = (w.alloc (.cells #[.int .i64 a] 3)).alloc (.cells #[.int .i64 b] 3) := by
  have hmf : ∀ (fn : Fn) (first cap : Array Value) (w : World), (Instr.makeFunc fn first cap).run Try.prog w = .ok (.func fn first cap) w := fun _ _ _ _ => rfl
  refine callsIn_of_wp Try.func69 rfl h5 ?_ hro
  simp only [Try.ntmps69, List.size_toArray, List.length_cons, List.length_nil, Nat.reduceAdd, Nat.reduceSub, Array.replicate_succ, Array.replicate_zero, List.push_toArray, List.append_toArray, List.nil_append, List.cons_append]
  gi_wp2
  go_ret
  exact ⟨rfl, rfl⟩
theorem forward_stops (F : Fence) (n : Nat) (h6 : F.fn 87) (hro : F.round = none) (hn : 1 ≤ n) (B1 B2 N : Nat) (lo hi : Int) (hhi : hi = lo + N) (hlo : 0 ≤ lo) (hlo2 : lo ≤ 100000) (hN : N ≤ 100000) (w : World) (hB1 : B1 < w.heap.size) (hB2 : B2 < w.heap.size)
    (hc1 : w.cell? ⟨B1, 0, none⟩ = some (.int .i64 lo)) (hc2 : w.cell? ⟨B2, 0, none⟩ = some (.int .i64 hi)) :
    SeqStopsK F n Try.prog 87 #[.pointer (some ⟨B1, 0, none⟩), .pointer (some ⟨B2, 0, none⟩)] (fun x : Fin N => #[Value.int .i64 (lo + x.val)]) (KB2 B1 B2) (fun ys => ys = List.finRange N) (fun pre => pre <+: List.finRange N) N w := fun l J Jx W hW _ _ hY h0 =>
  forward1_in F n h6 hro hn l B1 B2 N lo hlo hlo2 hN J Jx hY W ((hW.cell (p := ⟨B1, 0, none⟩) hB1).trans hc1) ((hW.cell (p := ⟨B2, 0, none⟩) hB2).trans (by rw [hc2, hhi])) h0

set_option maxHeartbeats 1000000 in
theorem backward_in (F : Fence) (n : Nat) (h5 : F.fn 89) (hro : F.round = none) (a b : Int) (w : World) :
    CallsIn F n Try.prog 89 #[.int .i64 a, .int .i64 b] w fun e w' => e = .returned (.func (.func 113) #[] #[.pointer (some ⟨w.heap.size + 1, 0, none⟩), .pointer (some ⟨w.heap.size, 0, none⟩)]) ∧ w' = (w.alloc (.cells #[.int .i64 a] 3)).alloc (.cells #[.int .i64 b] 3) := by
  have hmf : ∀ (fn : Fn) (first cap : Array Value) (w : World), (Instr.makeFunc fn first cap).run Try.prog w = .ok (.func fn first cap) w := fun _ _ _ _ => rfl
  refine callsIn_of_wp Try.func89 rfl h5 ?_ hro
  simp only [Try.ntmps89, List.size_toArray, List.length_cons, List.length_nil, Nat.reduceAdd, Nat.reduceSub, Array.replicate_succ, Array.replicate_zero, List.push_toArray, List.append_toArray, List.nil_append, List.cons_append]
  gi_wp2
  go_ret
  exact ⟨rfl, rfl⟩
theorem backward_stops (F : Fence) (n : Nat) (h6 : F.fn 113) (hro : F.round = none) (hn : 1 ≤ n) (B1 B2 N : Nat) (lo hi : Int) (hhi : hi = lo + N) (hlo : 0 ≤ lo) (hlo2 : lo ≤ 100000) (hN : N ≤ 100000) (w : World) (hB1 : B1 < w.heap.size) (hB2 : B2 < w.heap.size)
    (hc1 : w.cell? ⟨B1, 0, none⟩ = some (.int .i64 lo)) (hc2 : w.cell? ⟨B2, 0, none⟩ = some (.int .i64 hi)) :
    SeqStopsK F n Try.prog 113 #[.pointer (some ⟨B2, 0, none⟩), .pointer (some ⟨B1, 0, none⟩)] (fun x : Fin N => #[Value.int .i64 (lo + N - 1 - x.val)]) (KB2 B1 B2) (fun ys => ys = List.finRange N) (fun pre => pre <+: List.finRange N) N w := fun l J Jx W hW _ _ hY h0 =>
  backward1_in F n h6 hro hn l B1 B2 N lo hlo hlo2 hN J Jx hY W ((hW.cell (p := ⟨B1, 0, none⟩) hB1).trans hc1) ((hW.cell (p := ⟨B2, 0, none⟩) hB2).trans (by rw [hc2, hhi])) h0
end Go.Proofs.Ytanjkhclhcnnaaa

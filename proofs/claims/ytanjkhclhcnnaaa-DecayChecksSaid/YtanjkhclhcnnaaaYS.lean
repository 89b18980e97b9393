/- The iterator over a slice of integers from behind. -/
import Derived.Test.YtanjkhclhcnnaaaYD
import Derived.IntWalk
namespace Go.Proofs.Ytanjkhclhcnnaaa
open Go.RowKit Go.Shelf
attribute [local go_sem] Oper.semAt_some

theorem sl1_kb {W W' : World} {b o n : Nat} {L : List Int} {B1 : Nat} (h : ∀ i, i < n → W.cell? ⟨b, o + i, none⟩ = some (.int .i64 (L.getD i 0))) (k : KB2 B1 b W W') : ∀ i, i < n → W'.cell? ⟨b, o + i, none⟩ = some (.int .i64 (L.getD i 0)) := fun i hi => (k.c2 _).trans (h i hi)

set_option maxRecDepth 100000 in
set_option maxHeartbeats 2000000 in
theorem backS1_pos (F : Fence) (n : Nat) (h6 : F.fn 125) (hro : F.round = none) (hn : 1 ≤ n) (l B1 b o N c : Nat) (L : List Int) (hN : N ≤ 100000) (J Jx : List (Fin N) → World → Prop)
    (hY : ∀ pre x W, J pre W → pre.length < N → YieldAt F (n - 1) Try.prog l #[.int .i64 ((N : Int) - 1 - x.val), .int .i64 (L.getD (N - 1 - x.val) 0)] W fun e W' =>
      (e = .returned (.bool true) ∧ J (pre ++ [x]) W' ∧ KB2 B1 b W W') ∨ (e = .returned (.bool false) ∧ Jx (pre ++ [x]) W'))
    (W : World) (hc1 : W.cell? ⟨B1, 0, none⟩ = some (.slice (some ⟨b, o, none⟩) N c)) (hc2 : ∀ i, i < N → W.cell? ⟨b, o + i, none⟩ = some (.int .i64 (L.getD i 0))) (h0 : J [] W) :
    CallsIn F n Try.prog 125 #[.func (.yield l) #[] #[], .pointer (some ⟨B1, 0, none⟩)] W fun e W' => (∃ v, e = .returned v) ∧
      ((∃ ys, ys = List.finRange N ∧ J ys W') ∨ (∃ pre, pre <+: List.finRange N ∧ Jx pre W')) := by
  refine callsIn_of_wp Try.func125 rfl h6 ?_ hro
  simp only [Try.ntmps125, List.size_toArray, List.length_cons, List.length_nil, Nat.reduceAdd, Nat.reduceSub, Array.replicate_succ, Array.replicate_zero, List.push_toArray, List.append_toArray, List.nil_append, List.cons_append]
  gi_wp2
  gi_loopw [3] (fun i wr => ∃ k : Nat, k ≤ N ∧ i = .int .i64 ((N : Int) - 1 - k) ∧ J ((List.finRange N).take k) wr ∧ KB2 B1 b W wr)
    (fun i _ => (intOf i + 1).toNat)
  case atStart => exact ⟨0, Nat.zero_le _, by simp, h0, KB2.refl _ _ _⟩
  case round =>
    obtain ⟨k, hk, rfl, hJs, hnx⟩ := hrel
    have c1 : wr.cell? ⟨B1, 0, none⟩ = some (.slice (some ⟨b, o, none⟩) N c) := (hnx.c1 0).trans hc1
    by_cases hlt : k < N
    · obtain ⟨fn, tmps, assign, body, hy, hR⟩ := hY _ ⟨k, hlt⟩ wr hJs (by rw [fins_len hk]; exact hlt)
      dsimp only at hy hR
      have c2 := sl1_kb hc2 hnx (N - 1 - k) (by omega)
      have hl1 : (0 : Int) ≤ (N : Int) - 1 - k := by omega
      have hl2 : (N : Int) - 1 - k < N := by omega
      have hl3 : ((N : Int) - 1 - k).toNat = N - 1 - k := by omega
      have hl4 : (k : Int) ≤ (N : Int) - 1 := by omega
      generalize L.getD (N - 1 - k) 0 = u at hy c2
      gi_wp2
      refine hR.mono ?_
      rintro e W3 (⟨rfl, hJ3, hk3⟩ | ⟨rfl, hJx3⟩)
      · gi_wp2
        go_roundw
        case rel => exact ⟨k + 1, by omega, by rw [show (N : Int) - 1 - ((k + 1 : Nat) : Int) = (N : Int) - 1 - k - 1 by omega], by rw [fins_succ hlt]; exact hJ3, hnx.trans hk3⟩
        case measure => simp [intOf]; omega
      · gi_wp2
        first | (go_end0; exact ⟨⟨_, rfl⟩, .inr ⟨_, by rw [← fins_succ hlt]; exact List.take_prefix _ _, hJx3⟩⟩) | (refine bodyPost_ret (results_none rfl _ _ _) rfl ?_; exact ⟨⟨_, rfl⟩, .inr ⟨_, by rw [← fins_succ hlt]; exact List.take_prefix _ _, hJx3⟩⟩)
    · obtain rfl : k = N := by omega
      have hl1 : ¬ ((0 : Int) ≤ (k : Int) - 1 - k) := by omega
      have hl4 : ¬ ((k : Int) ≤ (k : Int) - 1) := by omega
      gi_wp2
      all_goals (
        exact ⟨rfl, _, results_none rfl _ _ _, ⟨_, rfl⟩, .inl (by rw [List.take_of_length_le (by simp)] at hJs; exact hJs)⟩)

set_option maxRecDepth 100000 in
set_option maxHeartbeats 2000000 in
theorem backS1_zero (F : Fence) (n : Nat) (h6 : F.fn 125) (hro : F.round = none) (l B1 c : Nat) (a : Option Addr) (J Jx : List (Fin 0) → World → Prop)
    (W : World) (hc1 : W.cell? ⟨B1, 0, none⟩ = some (.slice a 0 c)) (h0 : J [] W) :
    CallsIn F n Try.prog 125 #[.func (.yield l) #[] #[], .pointer (some ⟨B1, 0, none⟩)] W fun e W' => (∃ v, e = .returned v) ∧
      ((∃ ys, ys = List.finRange 0 ∧ J ys W') ∨ (∃ pre, pre <+: List.finRange 0 ∧ Jx pre W')) := by
  refine callsIn_of_wp Try.func125 rfl h6 ?_ hro
  simp only [Try.ntmps125, List.size_toArray, List.length_cons, List.length_nil, Nat.reduceAdd, Nat.reduceSub, Array.replicate_succ, Array.replicate_zero, List.push_toArray, List.append_toArray, List.nil_append, List.cons_append]
  gi_wp2
  gi_loopw [3] (fun i wr => i = .int .i64 (-1) ∧ J [] wr) (fun _ _ => 0)
  case atStart => exact ⟨rfl, h0⟩
  case round =>
    obtain ⟨rfl, hJs⟩ := hrel
    gi_wp2
    all_goals (
      exact ⟨rfl, _, results_none rfl _ _ _, ⟨_, rfl⟩, .inl (by simpa using hJs)⟩)

set_option maxHeartbeats 1000000 in
theorem backS_in (F : Fence) (n : Nat) (h5 : F.fn 122) (hro : F.round = none) (a : Option Addr) (N c : Nat) (w : World) :
    CallsIn F n Try.prog 122 #[.slice a N c] w fun e w' => e = .returned (.func (.func 125) #[] #[.pointer (some ⟨w.heap.size, 0, none⟩)]) ∧ w' = w.alloc (.cells #[.slice a N c] 46) := by
  have hmf : ∀ (fn : Fn) (first cap : Array Value) (w : World), (Instr.makeFunc fn first cap).run Try.prog w = .ok (.func fn first cap) w := fun _ _ _ _ => rfl
  refine callsIn_of_wp Try.func122 rfl h5 ?_ hro
  simp only [Try.ntmps122, List.size_toArray, List.length_cons, List.length_nil, Nat.reduceAdd, Nat.reduceSub, Array.replicate_succ, Array.replicate_zero, List.push_toArray, List.append_toArray, List.nil_append, List.cons_append]
  gi_wp2
  go_ret
  exact ⟨rfl, rfl⟩
theorem backS_stops (F : Fence) (n : Nat) (h6 : F.fn 125) (hro : F.round = none) (hn : 1 ≤ n) (B1 b o N c : Nat) (a : Option Addr) (L : List Int) (hN : N ≤ 100000) (ha : 0 < N → a = some ⟨b, o, none⟩) (w : World) (hB1 : B1 < w.heap.size) (hb : 0 < N → b < w.heap.size)
    (hc1 : w.cell? ⟨B1, 0, none⟩ = some (.slice a N c)) (hc2 : ∀ i, i < N → w.cell? ⟨b, o + i, none⟩ = some (.int .i64 (L.getD i 0))) :
    SeqStopsK F n Try.prog 125 #[.pointer (some ⟨B1, 0, none⟩)] (fun x : Fin N => #[Value.int .i64 ((N : Int) - 1 - x.val), Value.int .i64 (L.getD (N - 1 - x.val) 0)]) (KB2 B1 b) (fun ys => ys = List.finRange N) (fun pre => pre <+: List.finRange N) N w := fun l J Jx W hW _ _ hY h0 =>
  by
  have hcW := (hW.cell (p := ⟨B1, 0, none⟩) hB1).trans hc1
  rcases Nat.eq_zero_or_pos N with e | e
  · subst e
    exact backS1_zero F n h6 hro l B1 c a J Jx W hcW h0
  · obtain rfl := ha e
    exact backS1_pos F n h6 hro hn l B1 b o N c L hN J Jx hY W hcW (fun i hi => (hW.cell (p := ⟨b, _, none⟩) (hb e)).trans (hc2 i hi)) h0
end Go.Proofs.Ytanjkhclhcnnaaa

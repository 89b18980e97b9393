/- keeping, common, morning, Grade. -/
import Derived.Test.YtanjkhclhcnnaaaMA
import Derived.Test.YtanjkhclhcnnaaaMC
import Derived.Deep.DeepCutAuto
import Derived.RegionTactic
import Derived.ChangeAlike
import Derived.BigRegion
import Derived.RangeFuncNested
import Derived.RangeFuncBound
import Derived.RangeFuncCalls
import Derived.RangeFuncLeaves
import Derived.Shelf.Abstract
import Derived.Shelf.RegionOpen
import Derived.WalkKit
import Derived.OwnWalkIn
import Derived.TacticsInMore
import Derived.LoopNIn
import Derived.LoopIn
import Derived.Deep.RegionHeld3
import Derived.Deep.LoopGhost
import Derived.IntWalk
import Derived.Deep.Draws
namespace Go.Proofs.Ytanjkhclhcnnaaa
open Go.RowKit Go.Shelf

def grS (r : RuA) (i : Int) : Int := if i = 0 then r.g0 else if i = 1 then r.g1 else r.g2
def keepS (r : RuA) (g e : Int) : T2 := (if 0 < g - e then grS r (g - e - 1) else 0, if g + e < 3 then grS r (g + e) - 1 else 1000000)
def commonS (a b : T2) : T2 := (max a.1 b.1, min a.2 b.2)

set_option maxRecDepth 100000 in
set_option maxHeartbeats 8000000 in
theorem keeping_any (r : RuA) (hs ws : List T2) (d g e : Int) (w : World) (hO : RuOK r hs ws) (hg : 0 ≤ g ∧ g ≤ 3) (he : 0 ≤ e ∧ e ≤ 3) :
    Calls Try.prog 111 #[.agg r.cs, .agg #[.int .i64 d, .int .i64 g, .int .i64 e]] w fun e' w' => e' = .returned (.agg #[.int .i64 (keepS r g e).1, .int .i64 (keepS r g e).2]) ∧ Below w.heap.size w w' := by
  obtain ⟨g1, g2, g3, g4⟩ := hO.g
  have u0 : IntKind.i64.wrap (r.g0 - 1) = r.g0 - 1 := IntWalk.i64_in _ (by omega)
  have u1 : IntKind.i64.wrap (r.g1 - 1) = r.g1 - 1 := IntWalk.i64_in _ (by omega)
  have u2 : IntKind.i64.wrap (r.g2 - 1) = r.g2 - 1 := IntWalk.i64_in _ (by omega)
  clear hO
  have hgc : g = 0 ∨ g = 1 ∨ g = 2 ∨ g = 3 := by omega
  have hec : e = 0 ∨ e = 1 ∨ e = 2 ∨ e = 3 := by omega
  clear hg he
  rcases hgc with rfl | rfl | rfl | rfl <;> rcases hec with rfl | rfl | rfl | rfl
  all_goals simp only [keepS, grS]
  all_goals go_enter Try.func111, Try.ntmps111
  all_goals go_wp2
  all_goals refine bodyPost_ret (v := .agg #[.int .i64 _, .int .i64 _]) (by simp [results, Try.results111, go_sem]) rfl ⟨rfl, ?_⟩
  all_goals exact B_alloc (B_alloc (B_alloc (B_alloc (Below.refl _ _) _) _) _) _
end Go.Proofs.Ytanjkhclhcnnaaa
/- common, morning. -/
namespace Go.Proofs.Ytanjkhclhcnnaaa
open Go.RowKit Go.Shelf

theorem ret_tup {x x' y y' : Int} {b b' : Bool} (h1 : x = x') (h2 : y = y') (h3 : b = b') : Ending.returned (.tuple #[.agg #[.int .i64 x, .int .i64 y], .bool b]) = .returned (.tuple #[.agg #[.int .i64 x', .int .i64 y'], .bool b']) := by subst h1 h2 h3; rfl

set_option maxRecDepth 100000 in
set_option maxHeartbeats 8000000 in
theorem common_any (a0 a1 b0 b1 : Int) (w : World) :
    Calls Try.prog 110 #[.agg #[.int .i64 a0, .int .i64 a1], .agg #[.int .i64 b0, .int .i64 b1]] w fun e' w' => e' = .returned (.tuple #[.agg #[.int .i64 (max a0 b0), .int .i64 (min a1 b1)], .bool (decide (max a0 b0 ≤ min a1 b1))]) ∧ Below w.heap.size w w' := by
  go_enter Try.func110, Try.ntmps110
  go_wp2
  all_goals go_region
  all_goals go_wp2
  all_goals refine bodyPost_ret (v := .tuple #[.agg #[.int .i64 _, .int .i64 _], .bool _]) (by simp [results, Try.results110, go_sem]; first | (exact ⟨⟨rfl, rfl⟩, rfl⟩) | rfl) rfl ⟨ret_tup (by omega) (by omega) ?_, ?_⟩
  all_goals first | (congr 1; simp only [eq_iff_iff]; omega; done) | exact (B_alloc (B_alloc (B_alloc (B_alloc (Below.refl _ _) _) _) _) _).drew

set_option maxHeartbeats 2000000 in
theorem morning_any (t : TkA) (v : Value) (cs : Array Value) (ts : List T3) (i : Nat) (w : World) (hT : Sl3 w t.ta t.tn ts) (hi' : i < t.tn) (htn : t.tn ≤ 1000)
    (hcs : cs = #[.slice t.r.ha t.r.hn t.r.hc, .slice t.r.wa t.r.wn t.r.wc, .int .i64 t.r.own, .int .i64 t.r.feed, .int .i64 t.r.g0, .int .i64 t.r.g1, .int .i64 t.r.g2, .int .i64 t.r.lost, .int .i64 t.first, v, .int .i64 t.lo, .int .i64 t.hi, .slice t.ta t.tn t.tc]) (h1 : -1000000 ≤ (ts.getD i (0, 0, 0)).1 - t.first) (h2 : (ts.getD i (0, 0, 0)).1 - t.first ≤ 1000000) :
    Calls Try.prog 109 #[.agg cs, .int .i64 i] w fun e' w' => e' = .returned (.int .i64 ((ts.getD i (0, 0, 0)).1 - t.first)) ∧ Below w.heap.size w w' := by
  subst hcs
  obtain ⟨b, o, hta, hbs, hc⟩ := hT.at_ (by omega)
  obtain ⟨p0, -, -⟩ := hc i hi'
  generalize (ts.getD i (0, 0, 0)).1 = x at p0 h1 h2 ⊢
  clear hc hT
  rw [hta]
  clear hta
  have hil : (i : Int) < t.tn := by omega
  have hi0 : (0 : Int) ≤ i := by omega
  have u0 : IntKind.i64.wrap (x - t.first) = x - t.first := IntWalk.i64_in _ (by omega)
  go_enter Try.func109, Try.ntmps109
  go_wp2
  go_quiet (fail)
  go_wp2
  go_ret
  exact ⟨rfl, below_drewN (B_alloc (Below.refl _ _) _) _⟩
end Go.Proofs.Ytanjkhclhcnnaaa
/- The iterators over mornings, and over a slice of integers from behind. -/
namespace Go.Proofs.Ytanjkhclhcnnaaa
open Go.RowKit Go.Shelf
attribute [local go_sem] Oper.semAt_some

theorem fins_succ {N k : Nat} (h : k < N) : (List.finRange N).take (k + 1) = (List.finRange N).take k ++ [⟨k, h⟩] := by
  rw [List.take_succ_eq_append_getElem (by simpa using h)]; simp
theorem fins_len {N k : Nat} (h : k ≤ N) : ((List.finRange N).take k).length = k := by simp [h]

/-- Two blocks stay. -/
structure KB2 (B1 B2 : Nat) (W W' : World) : Prop where
  b1 : W'.heap[B1]? = W.heap[B1]?
  b2 : W'.heap[B2]? = W.heap[B2]?
theorem KB2.refl (B1 B2 : Nat) (W : World) : KB2 B1 B2 W W := ⟨rfl, rfl⟩
theorem KB2.trans {B1 B2 : Nat} {A B C : World} (h : KB2 B1 B2 A B) (k : KB2 B1 B2 B C) : KB2 B1 B2 A C := ⟨k.b1.trans h.b1, k.b2.trans h.b2⟩
theorem KB2.c1 {B1 B2 : Nat} {W W' : World} (h : KB2 B1 B2 W W') (j : Nat) : W'.cell? ⟨B1, j, none⟩ = W.cell? ⟨B1, j, none⟩ := World.cell?_of_block h.b1
theorem KB2.c2 {B1 B2 : Nat} {W W' : World} (h : KB2 B1 B2 W W') (j : Nat) : W'.cell? ⟨B2, j, none⟩ = W.cell? ⟨B2, j, none⟩ := World.cell?_of_block h.b2
theorem KB2.put {B1 B2 : Nat} {n : Nat} (h1 : B1 < n) (h2 : B2 < n) (W : World) (l : Nat) (o' : Obj) (hl : n ≤ l) : KB2 B1 B2 W (W.putObj l o') := ⟨World.putObj_heap_other (by omega), World.putObj_heap_other (by omega)⟩

set_option maxRecDepth 100000 in
set_option maxHeartbeats 2000000 in
theorem forward1_in (F : Fence) (n : Nat) (h6 : F.fn 87) (hro : F.round = none) (hn : 1 ≤ n) (l B1 B2 N : Nat) (lo : Int) (hlo : 0 ≤ lo) (hlo2 : lo ≤ 100000) (hN : N ≤ 100000) (J Jx : List (Fin N) → World → Prop)
    (hY : ∀ pre x W, J pre W → pre.length < N → YieldAt F (n - 1) Try.prog l #[.int .i64 (lo + x.val)] W fun e W' =>
      (e = .returned (.bool true) ∧ J (pre ++ [x]) W' ∧ KB2 B1 B2 W W') ∨ (e = .returned (.bool false) ∧ Jx (pre ++ [x]) W'))
    (W : World) (hc1 : W.cell? ⟨B1, 0, none⟩ = some (.int .i64 lo)) (hc2 : W.cell? ⟨B2, 0, none⟩ = some (.int .i64 (lo + N))) (h0 : J [] W) :
    CallsIn F n Try.prog 87 #[.func (.yield l) #[] #[], .pointer (some ⟨B1, 0, none⟩), .pointer (some ⟨B2, 0, none⟩)] W fun e W' => (∃ v, e = .returned v) ∧
      ((∃ ys, ys = List.finRange N ∧ J ys W') ∨ (∃ pre, pre <+: List.finRange N ∧ Jx pre W')) := by
  refine callsIn_of_wp Try.func87 rfl h6 ?_ hro
  simp only [Try.ntmps87, List.size_toArray, List.length_cons, List.length_nil, Nat.reduceAdd, Nat.reduceSub, Array.replicate_succ, Array.replicate_zero, List.push_toArray, List.append_toArray, List.nil_append, List.cons_append]
  gi_wp2
  gi_loopw [4] (fun i wr => ∃ k : Nat, k ≤ N ∧ i = .int .i64 (lo + k) ∧ J ((List.finRange N).take k) wr ∧ KB2 B1 B2 W wr)
    (fun i _ => (lo + N - intOf i).toNat)
  case atStart => exact ⟨0, Nat.zero_le _, by simp, h0, KB2.refl _ _ _⟩
  case round =>
    obtain ⟨k, hk, rfl, hJs, hnx⟩ := hrel
    have c2 : wr.cell? ⟨B2, 0, none⟩ = some (.int .i64 (lo + N)) := (hnx.c2 0).trans hc2
    by_cases hlt : k < N
    · obtain ⟨fn, tmps, assign, body, hy, hR⟩ := hY _ ⟨k, hlt⟩ wr hJs (by rw [fins_len hk]; exact hlt)
      dsimp only at hy
      have hl1 : lo + (k : Int) < lo + N := by omega
      gi_wp2
      refine hR.mono ?_
      rintro e W3 (⟨rfl, hJ3, hk3⟩ | ⟨rfl, hJx3⟩)
      · gi_wp2
        go_roundw
        case rel => exact ⟨k + 1, by omega, by rw [show lo + ((k + 1 : Nat) : Int) = lo + (k : Int) + 1 by omega], by rw [fins_succ hlt]; exact hJ3, hnx.trans hk3⟩
        case measure => simp [intOf]; omega
      · gi_wp2
        first | (go_end0; exact ⟨⟨_, rfl⟩, .inr ⟨_, by rw [← fins_succ hlt]; exact List.take_prefix _ _, hJx3⟩⟩) | (refine bodyPost_ret (results_none rfl _ _ _) rfl ?_; exact ⟨⟨_, rfl⟩, .inr ⟨_, by rw [← fins_succ hlt]; exact List.take_prefix _ _, hJx3⟩⟩)
    · obtain rfl : k = N := by omega
      have hl1 : ¬ (lo + (k : Int) < lo + k) := by omega
      gi_wp2
      all_goals (
        refine ⟨fun _ h => (by cases h), ?_⟩
        gi_wp2
        first | (go_end0; exact ⟨⟨_, rfl⟩, .inl ⟨_, rfl, by rw [List.take_of_length_le (by simp)] at hJs; exact hJs⟩⟩) | (refine bodyPost_ret (results_none rfl _ _ _) rfl ?_; exact ⟨⟨_, rfl⟩, .inl ⟨_, rfl, by rw [List.take_of_length_le (by simp)] at hJs; exact hJs⟩⟩))
set_option maxRecDepth 100000 in
set_option maxHeartbeats 2000000 in
theorem backward1_in (F : Fence) (n : Nat) (h6 : F.fn 113) (hro : F.round = none) (hn : 1 ≤ n) (l B1 B2 N : Nat) (lo : Int) (hlo : 0 ≤ lo) (hlo2 : lo ≤ 100000) (hN : N ≤ 100000) (J Jx : List (Fin N) → World → Prop)
    (hY : ∀ pre x W, J pre W → pre.length < N → YieldAt F (n - 1) Try.prog l #[.int .i64 (lo + N - 1 - x.val)] W fun e W' =>
      (e = .returned (.bool true) ∧ J (pre ++ [x]) W' ∧ KB2 B1 B2 W W') ∨ (e = .returned (.bool false) ∧ Jx (pre ++ [x]) W'))
    (W : World) (hc1 : W.cell? ⟨B1, 0, none⟩ = some (.int .i64 lo)) (hc2 : W.cell? ⟨B2, 0, none⟩ = some (.int .i64 (lo + N))) (h0 : J [] W) :
    CallsIn F n Try.prog 113 #[.func (.yield l) #[] #[], .pointer (some ⟨B2, 0, none⟩), .pointer (some ⟨B1, 0, none⟩)] W fun e W' => (∃ v, e = .returned v) ∧
      ((∃ ys, ys = List.finRange N ∧ J ys W') ∨ (∃ pre, pre <+: List.finRange N ∧ Jx pre W')) := by
  refine callsIn_of_wp Try.func113 rfl h6 ?_ hro
  simp only [Try.ntmps113, List.size_toArray, List.length_cons, List.length_nil, Nat.reduceAdd, Nat.reduceSub, Array.replicate_succ, Array.replicate_zero, List.push_toArray, List.append_toArray, List.nil_append, List.cons_append]
  gi_wp2
  gi_loopw [4] (fun i wr => ∃ k : Nat, k ≤ N ∧ i = .int .i64 (lo + N - 1 - k) ∧ J ((List.finRange N).take k) wr ∧ KB2 B1 B2 W wr)
    (fun i _ => (intOf i + 1 - lo).toNat)
  case atStart => exact ⟨0, Nat.zero_le _, by simp, h0, KB2.refl _ _ _⟩
  case round =>
    obtain ⟨k, hk, rfl, hJs, hnx⟩ := hrel
    have c2 : wr.cell? ⟨B1, 0, none⟩ = some (.int .i64 lo) := (hnx.c1 0).trans hc1
    by_cases hlt : k < N
    · obtain ⟨fn, tmps, assign, body, hy, hR⟩ := hY _ ⟨k, hlt⟩ wr hJs (by rw [fins_len hk]; exact hlt)
      dsimp only at hy
      have hl1 : lo ≤ lo + (N : Int) - 1 - k := by omega
      have hl2 : lo + (N : Int) - 1 - k ≤ 200000 := by omega
      gi_wp2
      refine hR.mono ?_
      rintro e W3 (⟨rfl, hJ3, hk3⟩ | ⟨rfl, hJx3⟩)
      · gi_wp2
        go_roundw
        case rel => exact ⟨k + 1, by omega, by rw [show lo + (N : Int) - 1 - ((k + 1 : Nat) : Int) = lo + (N : Int) - 1 - k - 1 by omega], by rw [fins_succ hlt]; exact hJ3, hnx.trans hk3⟩
        case measure => simp [intOf]; omega
      · gi_wp2
        first | (go_end0; exact ⟨⟨_, rfl⟩, .inr ⟨_, by rw [← fins_succ hlt]; exact List.take_prefix _ _, hJx3⟩⟩) | (refine bodyPost_ret (results_none rfl _ _ _) rfl ?_; exact ⟨⟨_, rfl⟩, .inr ⟨_, by rw [← fins_succ hlt]; exact List.take_prefix _ _, hJx3⟩⟩)
    · obtain rfl : k = N := by omega
      have hl1 : ¬ (lo ≤ lo + (k : Int) - 1 - k) := by omega
      gi_wp2
      all_goals (
        refine ⟨fun _ h => (by cases h), ?_⟩
        gi_wp2
        first | (go_end0; exact ⟨⟨_, rfl⟩, .inl ⟨_, rfl, by rw [List.take_of_length_le (by simp)] at hJs; exact hJs⟩⟩) | (refine bodyPost_ret (results_none rfl _ _ _) rfl ?_; exact ⟨⟨_, rfl⟩, .inl ⟨_, rfl, by rw [List.take_of_length_le (by simp)] at hJs; exact hJs⟩⟩))

set_option maxHeartbeats 1000000 in
theorem forward_in (F : Fence) (n : Nat) (h5 : F.fn 69) (hro : F.round = none) (a b : Int) (w : World) :
    CallsIn F n Try.prog 69 #[.int .i64 a, .int .i64 b] w fun e w' => e = .returned (.func (.func 87) #[] #[.pointer (some ⟨w.heap.size, 0, none⟩), .pointer (some ⟨w.heap.size + 1, 0, none⟩)]) ∧ w' = (w.alloc (.cells #[.int .i64 a] 3)).alloc (.cells #[.int .i64 b] 3) := by
  have hmf : ∀ (fn : Fn) (first cap : Array Value) (w : World), (Instr.makeFunc fn first cap).run Try.prog w = .ok (.func fn first cap) w := fun _ _ _ _ => rfl
  refine callsIn_of_wp Try.func69 rfl h5 ?_ hro
  simp only [Try.ntmps69, List.size_toArray, List.length_cons, List.length_nil, Nat.reduceAdd, Nat.reduceSub, Array.replicate_succ, Array.replicate_zero, List.push_toArray, List.append_toArray, List.nil_append, List.cons_append]
  gi_wp2
  go_ret
  exact ⟨rfl, rfl⟩
theorem forward_stops (F : Fence) (n : Nat) (h6 : F.fn 87) (hro : F.round = none) (hn : 1 ≤ n) (B1 B2 N : Nat) (lo hi : Int) (hhi : hi = lo + N) (hlo : 0 ≤ lo) (hlo2 : lo ≤ 100000) (hN : N ≤ 100000) (w : World) (hB1 : B1 < w.heap.size) (hB2 : B2 < w.heap.size)
    (hc1 : w.cell? ⟨B1, 0, none⟩ = some (.int .i64 lo)) (hc2 : w.cell? ⟨B2, 0, none⟩ = some (.int .i64 hi)) :
    SeqStopsK F n Try.prog 87 #[.pointer (some ⟨B1, 0, none⟩), .pointer (some ⟨B2, 0, none⟩)] (fun x : Fin N => #[Value.int .i64 (lo + x.val)]) (KB2 B1 B2) (fun ys => ys = List.finRange N) (fun pre => pre <+: List.finRange N) N w := fun l J Jx W hW _ _ hY h0 =>
  forward1_in F n h6 hro hn l B1 B2 N lo hlo hlo2 hN J Jx hY W ((hW.cell (p := ⟨B1, 0, none⟩) hB1).trans hc1) ((hW.cell (p := ⟨B2, 0, none⟩) hB2).trans (by rw [hc2, hhi])) h0

set_option maxHeartbeats 1000000 in
theorem backward_in (F : Fence) (n : Nat) (h5 : F.fn 89) (hro : F.round = none) (a b : Int) (w : World) :
    CallsIn F n Try.prog 89 #[.int .i64 a, .int .i64 b] w fun e w' => e = .returned (.func (.func 113) #[] #[.pointer (some ⟨w.heap.size + 1, 0, none⟩), .pointer (some ⟨w.heap.size, 0, none⟩)]) ∧ w' = (w.alloc (.cells #[.int .i64 a] 3)).alloc (.cells #[.int .i64 b] 3) := by
  have hmf : ∀ (fn : Fn) (first cap : Array Value) (w : World), (Instr.makeFunc fn first cap).run Try.prog w = .ok (.func fn first cap) w := fun _ _ _ _ => rfl
  refine callsIn_of_wp Try.func89 rfl h5 ?_ hro
  simp only [Try.ntmps89, List.size_toArray, List.length_cons, List.length_nil, Nat.reduceAdd, Nat.reduceSub, Array.replicate_succ, Array.replicate_zero, List.push_toArray, List.append_toArray, List.nil_append, List.cons_append]
  gi_wp2
  go_ret
  exact ⟨rfl, rfl⟩
theorem backward_stops (F : Fence) (n : Nat) (h6 : F.fn 113) (hro : F.round = none) (hn : 1 ≤ n) (B1 B2 N : Nat) (lo hi : Int) (hhi : hi = lo + N) (hlo : 0 ≤ lo) (hlo2 : lo ≤ 100000) (hN : N ≤ 100000) (w : World) (hB1 : B1 < w.heap.size) (hB2 : B2 < w.heap.size)
    (hc1 : w.cell? ⟨B1, 0, none⟩ = some (.int .i64 lo)) (hc2 : w.cell? ⟨B2, 0, none⟩ = some (.int .i64 hi)) :
    SeqStopsK F n Try.prog 113 #[.pointer (some ⟨B2, 0, none⟩), .pointer (some ⟨B1, 0, none⟩)] (fun x : Fin N => #[Value.int .i64 (lo + N - 1 - x.val)]) (KB2 B1 B2) (fun ys => ys = List.finRange N) (fun pre => pre <+: List.finRange N) N w := fun l J Jx W hW _ _ hY h0 =>
  backward1_in F n h6 hro hn l B1 B2 N lo hlo hlo2 hN J Jx hY W ((hW.cell (p := ⟨B1, 0, none⟩) hB1).trans hc1) ((hW.cell (p := ⟨B2, 0, none⟩) hB2).trans (by rw [hc2, hhi])) h0
end Go.Proofs.Ytanjkhclhcnnaaa
/- What levels can come before others. -/
namespace Go.Proofs.Ytanjkhclhcnnaaa
open Go.RowKit Go.Shelf

/-- The first number from k on, at most n further, at which p holds. -/
def firstT (p : Nat → Bool) : Nat → Nat → Nat
  | 0, k => k
  | f + 1, k => if p k then k else firstT p f (k + 1)
theorem firstT_spec {p : Nat → Bool} : ∀ {f k : Nat}, k ≤ firstT p f k ∧ firstT p f k ≤ k + f ∧ (∀ t, k ≤ t → t < firstT p f k → p t = false) ∧ (firstT p f k < k + f → p (firstT p f k) = true)
  | 0, k => ⟨Nat.le_refl _, Nat.le_refl _, fun t h1 h2 => absurd h2 (by simp [firstT]; omega), fun h => absurd h (by simp [firstT])⟩
  | f + 1, k => by
    unfold firstT
    by_cases h : p k = true
    · rw [if_pos h]; exact ⟨Nat.le_refl _, by omega, fun t h1 h2 => by omega, fun _ => h⟩
    · rw [if_neg h]
      obtain ⟨a, b, c, d⟩ := firstT_spec (p := p) (f := f) (k := k + 1)
      refine ⟨by omega, by omega, fun t h1 h2 => ?_, fun h3 => d (by omega)⟩
      by_cases e : t = k
      · subst e; simpa using h
      · exact c t (by omega) h2
theorem gain_mono {r : RuA} {a b s : Int} (hf : 0 ≤ r.feed) (hs : 0 ≤ s) (h : a ≤ b) : gainS r a s ≤ gainS r b s := by
  unfold gainS
  have := Int.mul_le_mul_of_nonneg_right h hf
  exact Int.mul_le_mul_of_nonneg_right (by omega) hs
theorem least_mono {r : RuA} {a b s : Int} (hf : 0 ≤ r.feed) (hs : 0 ≤ s) (h : a ≤ b) : leastS r s a ≤ leastS r s b := by
  have := gain_mono (r := r) hf hs h
  unfold leastS; omega
theorem most_mono {r : RuA} {a b s : Int} (hf : 0 ≤ r.feed) (hs : 0 ≤ s) (h : a ≤ b) : mostS r s a ≤ mostS r s b := by
  have := gain_mono (r := r) hf hs h
  unfold mostS; omega

def lowN (r : RuA) (s1 n0 x0 : Int) (c : Nat) : Nat := firstT (fun i => decide (x0 ≤ mostS r s1 (n0 + i))) c 0
def aboveN (r : RuA) (s0 n0 x1 : Int) (c : Nat) : Nat := firstT (fun i => decide (x1 < leastS r s0 (n0 + i))) c 0
/-- The levels of a span that a level of another one can follow. -/
def beforeS (r : RuA) (s n x : T2) : T2 := (n.1 + lowN r s.2 n.1 x.1 (n.2 - n.1 + 1).toNat, n.1 + aboveN r s.1 n.1 x.2 (n.2 - n.1 + 1).toNat - 1)

/-- Cells that stay. -/
structure HB (l : List (Nat × Nat × Value)) (w W : World) : Prop where
  c : ∀ p ∈ l, W.cell? ⟨p.1, p.2.1, none⟩ = some p.2.2 ∧ p.1 < W.heap.size
  b : Below w.heap.size w W
theorem HB.at {l : List (Nat × Nat × Value)} {w W : World} (h : HB l w W) {b o : Nat} {v : Value} (i : Nat) (hi : l[i]? = some (b, o, v)) : W.cell? ⟨b, o, none⟩ = some v := (h.c (b, o, v) (List.mem_of_getElem? hi)).1
theorem HB.drew {l : List (Nat × Nat × Value)} {w W : World} (h : HB l w W) : HB l w W.drew := ⟨h.c, h.b.drew⟩
theorem HB.below {l : List (Nat × Nat × Value)} {w W W1 : World} (h : HB l w W) (hb : Below W.heap.size W W1) : HB l w W1 :=
  ⟨fun p hp => by obtain ⟨a, b⟩ := h.c p hp; exact ⟨(hb.cell (p := ⟨p.1, p.2.1, none⟩) b).trans a, Nat.lt_of_lt_of_le b hb.size⟩, B_trans h.b hb⟩

set_option maxRecDepth 100000 in
set_option maxHeartbeats 8000000 in
theorem before1_any (r : RuA) (hs ws : List T2) (s0 s1 n0 x0 : Int) (B S M X i : Nat) (w : World) (hO : RuOK r hs ws) (h1 : 0 ≤ n0) (h2 : n0 + i ≤ 1000000) (h4 : 0 ≤ s1 ∧ s1 ≤ 1000) (hB : B < w.heap.size) (hSb : S < w.heap.size) (hM : M < w.heap.size) (hX : X < w.heap.size)
    (k0 : w.cell? ⟨B, 0, none⟩ = some (.slice r.ha r.hn r.hc)) (k1 : w.cell? ⟨B, 1, none⟩ = some (.slice r.wa r.wn r.wc)) (k2 : w.cell? ⟨B, 2, none⟩ = some (.int .i64 r.own)) (k3 : w.cell? ⟨B, 3, none⟩ = some (.int .i64 r.feed)) (k4 : w.cell? ⟨B, 4, none⟩ = some (.int .i64 r.g0)) (k5 : w.cell? ⟨B, 5, none⟩ = some (.int .i64 r.g1)) (k6 : w.cell? ⟨B, 6, none⟩ = some (.int .i64 r.g2)) (k7 : w.cell? ⟨B, 7, none⟩ = some (.int .i64 r.lost)) (k8 : w.cell? ⟨S, 0, none⟩ = some (.int .i64 s0)) (k9 : w.cell? ⟨S, 1, none⟩ = some (.int .i64 s1)) (k10 : w.cell? ⟨M, 0, none⟩ = some (.int .i64 n0)) (k11 : w.cell? ⟨X, 0, none⟩ = some (.int .i64 x0)) :
    Calls Try.prog 114 #[.int .i64 i, .pointer (some ⟨B, 0, none⟩), .pointer (some ⟨S, 0, none⟩), .pointer (some ⟨M, 0, none⟩), .pointer (some ⟨X, 0, none⟩)] w fun e w' => e = .returned (.bool (decide (x0 ≤ mostS r s1 (n0 + i)))) ∧ Below w.heap.size w w' := by
  have h0 : HB [(B, 0, .slice r.ha r.hn r.hc), (B, 1, .slice r.wa r.wn r.wc), (B, 2, .int .i64 r.own), (B, 3, .int .i64 r.feed), (B, 4, .int .i64 r.g0), (B, 5, .int .i64 r.g1), (B, 6, .int .i64 r.g2), (B, 7, .int .i64 r.lost), (S, 0, .int .i64 s0), (S, 1, .int .i64 s1), (M, 0, .int .i64 n0), (X, 0, .int .i64 x0)] w w := by
    refine ⟨fun p hp => ?_, Below.refl _ _⟩
    simp only [List.mem_cons, List.not_mem_nil, or_false] at hp
    rcases hp with rfl | rfl | rfl | rfl | rfl | rfl | rfl | rfl | rfl | rfl | rfl | rfl
    all_goals first | exact ⟨k0, hB⟩ | exact ⟨k1, hB⟩ | exact ⟨k2, hB⟩ | exact ⟨k3, hB⟩ | exact ⟨k4, hB⟩ | exact ⟨k5, hB⟩ | exact ⟨k6, hB⟩ | exact ⟨k7, hB⟩ | exact ⟨k8, hSb⟩ | exact ⟨k9, hSb⟩ | exact ⟨k10, hM⟩ | exact ⟨k11, hX⟩
  clear k0 k1 k2 k3 k4 k5 k6 k7 k8 k9 k10 k11
  generalize hl : ([(B, 0, .slice r.ha r.hn r.hc), (B, 1, .slice r.wa r.wn r.wc), (B, 2, .int .i64 r.own), (B, 3, .int .i64 r.feed), (B, 4, .int .i64 r.g0), (B, 5, .int .i64 r.g1), (B, 6, .int .i64 r.g2), (B, 7, .int .i64 r.lost), (S, 0, .int .i64 s0), (S, 1, .int .i64 s1), (M, 0, .int .i64 n0), (X, 0, .int .i64 x0)] : List (Nat × Nat × Value)) = l at h0
  have HA := Lib.hid (fun W (h : HB l w W) => (show W.cell? ⟨B, 0, none⟩ = some (.slice r.ha r.hn r.hc) ∧ W.cell? ⟨B, 1, none⟩ = some (.slice r.wa r.wn r.wc) ∧ W.cell? ⟨B, 2, none⟩ = some (.int .i64 r.own) ∧ W.cell? ⟨B, 3, none⟩ = some (.int .i64 r.feed) ∧ W.cell? ⟨B, 4, none⟩ = some (.int .i64 r.g0) ∧ W.cell? ⟨B, 5, none⟩ = some (.int .i64 r.g1) ∧ W.cell? ⟨B, 6, none⟩ = some (.int .i64 r.g2) ∧ W.cell? ⟨B, 7, none⟩ = some (.int .i64 r.lost) ∧ W.cell? ⟨S, 0, none⟩ = some (.int .i64 s0) ∧ W.cell? ⟨S, 1, none⟩ = some (.int .i64 s1) ∧ W.cell? ⟨M, 0, none⟩ = some (.int .i64 n0) ∧ W.cell? ⟨X, 0, none⟩ = some (.int .i64 x0) ∧ HB l w W from ⟨h.at 0 (by rw [← hl]; rfl), h.at 1 (by rw [← hl]; rfl), h.at 2 (by rw [← hl]; rfl), h.at 3 (by rw [← hl]; rfl), h.at 4 (by rw [← hl]; rfl), h.at 5 (by rw [← hl]; rfl), h.at 6 (by rw [← hl]; rfl), h.at 7 (by rw [← hl]; rfl), h.at 8 (by rw [← hl]; rfl), h.at 9 (by rw [← hl]; rfl), h.at 10 (by rw [← hl]; rfl), h.at 11 (by rw [← hl]; rfl), h⟩))
  clear hl
  have H1 := Lib.hid (fun W => most_any r hs ws (n0 + i) s1 s0 W hO (by omega) (by omega) h4.1 h4.2)
  have u1 : IntKind.i64.wrap (n0 + i) = n0 + i := IntWalk.i64_in _ (by omega)
  generalize mostS r s1 (n0 + i) = p at H1 ⊢
  clear hO h1 h2 h4
  go_enter Try.func114, Try.ntmps114
  go_wp2
  go_region_held3 (fun W => W.cell? ⟨B, 0, none⟩ = some (.slice r.ha r.hn r.hc) ∧ W.cell? ⟨B, 1, none⟩ = some (.slice r.wa r.wn r.wc) ∧ W.cell? ⟨B, 2, none⟩ = some (.int .i64 r.own) ∧ W.cell? ⟨B, 3, none⟩ = some (.int .i64 r.feed) ∧ W.cell? ⟨B, 4, none⟩ = some (.int .i64 r.g0) ∧ W.cell? ⟨B, 5, none⟩ = some (.int .i64 r.g1) ∧ W.cell? ⟨B, 6, none⟩ = some (.int .i64 r.g2) ∧ W.cell? ⟨B, 7, none⟩ = some (.int .i64 r.lost) ∧ W.cell? ⟨S, 0, none⟩ = some (.int .i64 s0) ∧ W.cell? ⟨S, 1, none⟩ = some (.int .i64 s1) ∧ W.cell? ⟨M, 0, none⟩ = some (.int .i64 n0) ∧ W.cell? ⟨X, 0, none⟩ = some (.int .i64 x0) ∧ HB l w W) (first | exact HA.out _ h0.drew | exact HA.out _ (HB.below (hh12 (by assumption)) (by assumption))) (first | (go_at_call 86; ((with_reducible refine (H1.out _).mono ?_); rintro e w1 ⟨rfl, hb1⟩)))
  all_goals go_wp2_with fail
  all_goals go_ret
  all_goals exact ⟨rfl, (hh12 (by assumption) : HB l w _).b⟩

set_option maxRecDepth 100000 in
set_option maxHeartbeats 8000000 in
theorem before2_any (r : RuA) (hs ws : List T2) (s0 s1 n0 x1 : Int) (B S M X i : Nat) (w : World) (hO : RuOK r hs ws) (h1 : 0 ≤ n0) (h2 : n0 + i ≤ 1000000) (h3 : 0 ≤ s0 ∧ s0 ≤ 1000) (hB : B < w.heap.size) (hSb : S < w.heap.size) (hM : M < w.heap.size) (hX : X < w.heap.size)
    (k0 : w.cell? ⟨B, 0, none⟩ = some (.slice r.ha r.hn r.hc)) (k1 : w.cell? ⟨B, 1, none⟩ = some (.slice r.wa r.wn r.wc)) (k2 : w.cell? ⟨B, 2, none⟩ = some (.int .i64 r.own)) (k3 : w.cell? ⟨B, 3, none⟩ = some (.int .i64 r.feed)) (k4 : w.cell? ⟨B, 4, none⟩ = some (.int .i64 r.g0)) (k5 : w.cell? ⟨B, 5, none⟩ = some (.int .i64 r.g1)) (k6 : w.cell? ⟨B, 6, none⟩ = some (.int .i64 r.g2)) (k7 : w.cell? ⟨B, 7, none⟩ = some (.int .i64 r.lost)) (k8 : w.cell? ⟨S, 0, none⟩ = some (.int .i64 s0)) (k9 : w.cell? ⟨S, 1, none⟩ = some (.int .i64 s1)) (k10 : w.cell? ⟨M, 0, none⟩ = some (.int .i64 n0)) (k11 : w.cell? ⟨X, 1, none⟩ = some (.int .i64 x1)) :
    Calls Try.prog 115 #[.int .i64 i, .pointer (some ⟨B, 0, none⟩), .pointer (some ⟨S, 0, none⟩), .pointer (some ⟨M, 0, none⟩), .pointer (some ⟨X, 0, none⟩)] w fun e w' => e = .returned (.bool (decide (x1 < leastS r s0 (n0 + i)))) ∧ Below w.heap.size w w' := by
  have h0 : HB [(B, 0, .slice r.ha r.hn r.hc), (B, 1, .slice r.wa r.wn r.wc), (B, 2, .int .i64 r.own), (B, 3, .int .i64 r.feed), (B, 4, .int .i64 r.g0), (B, 5, .int .i64 r.g1), (B, 6, .int .i64 r.g2), (B, 7, .int .i64 r.lost), (S, 0, .int .i64 s0), (S, 1, .int .i64 s1), (M, 0, .int .i64 n0), (X, 1, .int .i64 x1)] w w := by
    refine ⟨fun p hp => ?_, Below.refl _ _⟩
    simp only [List.mem_cons, List.not_mem_nil, or_false] at hp
    rcases hp with rfl | rfl | rfl | rfl | rfl | rfl | rfl | rfl | rfl | rfl | rfl | rfl
    all_goals first | exact ⟨k0, hB⟩ | exact ⟨k1, hB⟩ | exact ⟨k2, hB⟩ | exact ⟨k3, hB⟩ | exact ⟨k4, hB⟩ | exact ⟨k5, hB⟩ | exact ⟨k6, hB⟩ | exact ⟨k7, hB⟩ | exact ⟨k8, hSb⟩ | exact ⟨k9, hSb⟩ | exact ⟨k10, hM⟩ | exact ⟨k11, hX⟩
  clear k0 k1 k2 k3 k4 k5 k6 k7 k8 k9 k10 k11
  generalize hl : ([(B, 0, .slice r.ha r.hn r.hc), (B, 1, .slice r.wa r.wn r.wc), (B, 2, .int .i64 r.own), (B, 3, .int .i64 r.feed), (B, 4, .int .i64 r.g0), (B, 5, .int .i64 r.g1), (B, 6, .int .i64 r.g2), (B, 7, .int .i64 r.lost), (S, 0, .int .i64 s0), (S, 1, .int .i64 s1), (M, 0, .int .i64 n0), (X, 1, .int .i64 x1)] : List (Nat × Nat × Value)) = l at h0
  have HA := Lib.hid (fun W (h : HB l w W) => (show W.cell? ⟨B, 0, none⟩ = some (.slice r.ha r.hn r.hc) ∧ W.cell? ⟨B, 1, none⟩ = some (.slice r.wa r.wn r.wc) ∧ W.cell? ⟨B, 2, none⟩ = some (.int .i64 r.own) ∧ W.cell? ⟨B, 3, none⟩ = some (.int .i64 r.feed) ∧ W.cell? ⟨B, 4, none⟩ = some (.int .i64 r.g0) ∧ W.cell? ⟨B, 5, none⟩ = some (.int .i64 r.g1) ∧ W.cell? ⟨B, 6, none⟩ = some (.int .i64 r.g2) ∧ W.cell? ⟨B, 7, none⟩ = some (.int .i64 r.lost) ∧ W.cell? ⟨S, 0, none⟩ = some (.int .i64 s0) ∧ W.cell? ⟨S, 1, none⟩ = some (.int .i64 s1) ∧ W.cell? ⟨M, 0, none⟩ = some (.int .i64 n0) ∧ W.cell? ⟨X, 1, none⟩ = some (.int .i64 x1) ∧ HB l w W from ⟨h.at 0 (by rw [← hl]; rfl), h.at 1 (by rw [← hl]; rfl), h.at 2 (by rw [← hl]; rfl), h.at 3 (by rw [← hl]; rfl), h.at 4 (by rw [← hl]; rfl), h.at 5 (by rw [← hl]; rfl), h.at 6 (by rw [← hl]; rfl), h.at 7 (by rw [← hl]; rfl), h.at 8 (by rw [← hl]; rfl), h.at 9 (by rw [← hl]; rfl), h.at 10 (by rw [← hl]; rfl), h.at 11 (by rw [← hl]; rfl), h⟩))
  clear hl
  have H1 := Lib.hid (fun W => least_any r hs ws (n0 + i) s0 s1 W hO (by omega) (by omega) h3.1 h3.2)
  have u1 : IntKind.i64.wrap (n0 + i) = n0 + i := IntWalk.i64_in _ (by omega)
  generalize leastS r s0 (n0 + i) = p at H1 ⊢
  clear hO h1 h2 h3
  go_enter Try.func115, Try.ntmps115
  go_wp2
  go_region_held3 (fun W => W.cell? ⟨B, 0, none⟩ = some (.slice r.ha r.hn r.hc) ∧ W.cell? ⟨B, 1, none⟩ = some (.slice r.wa r.wn r.wc) ∧ W.cell? ⟨B, 2, none⟩ = some (.int .i64 r.own) ∧ W.cell? ⟨B, 3, none⟩ = some (.int .i64 r.feed) ∧ W.cell? ⟨B, 4, none⟩ = some (.int .i64 r.g0) ∧ W.cell? ⟨B, 5, none⟩ = some (.int .i64 r.g1) ∧ W.cell? ⟨B, 6, none⟩ = some (.int .i64 r.g2) ∧ W.cell? ⟨B, 7, none⟩ = some (.int .i64 r.lost) ∧ W.cell? ⟨S, 0, none⟩ = some (.int .i64 s0) ∧ W.cell? ⟨S, 1, none⟩ = some (.int .i64 s1) ∧ W.cell? ⟨M, 0, none⟩ = some (.int .i64 n0) ∧ W.cell? ⟨X, 1, none⟩ = some (.int .i64 x1) ∧ HB l w W) (first | exact HA.out _ h0.drew | exact HA.out _ (HB.below (hh12 (by assumption)) (by assumption))) (first | (go_at_call 85; ((with_reducible refine (H1.out _).mono ?_); rintro e w1 ⟨rfl, hb1⟩)))
  all_goals go_wp2_with fail
  all_goals go_ret
  all_goals exact ⟨rfl, (hh12 (by assumption) : HB l w _).b⟩
end Go.Proofs.Ytanjkhclhcnnaaa
/- before. -/
namespace Go.Proofs.Ytanjkhclhcnnaaa
open Go.RowKit Go.Shelf

set_option maxRecDepth 100000 in
set_option maxHeartbeats 8000000 in
theorem before_any (r : RuA) (hs ws : List T2) (s0 s1 n0 n1 x0 x1 : Int) (w : World) (hO : RuOK r hs ws) (h1 : 0 ≤ n0) (h2 : n1 ≤ 1000000) (h5 : n0 ≤ n1 + 1) (h3 : 0 ≤ s0 ∧ s0 ≤ 1000) (h4 : 0 ≤ s1 ∧ s1 ≤ 1000) :
    Calls Try.prog 90 #[.agg r.cs, .agg #[.int .i64 s0, .int .i64 s1], .agg #[.int .i64 n0, .int .i64 n1], .agg #[.int .i64 x0, .int .i64 x1]] w fun e w' => e = .returned (.agg #[.int .i64 (beforeS r (s0, s1) (n0, n1) (x0, x1)).1, .int .i64 (beforeS r (s0, s1) (n0, n1) (x0, x1)).2]) ∧ Below w.heap.size w w' := by
  obtain ⟨c, hc⟩ : ∃ c : Nat, (n1 - n0 + 1).toNat = c := ⟨_, rfl⟩
  have hcn : (c : Int) = n1 - n0 + 1 := by omega
  obtain ⟨f1, -⟩ := hO.feed
  obtain ⟨W5, hW5⟩ : ∃ W5, (((((w.alloc (.cells r.cs 96)).alloc (.cells #[.int .i64 s0, .int .i64 s1] 28)).alloc (.cells #[.int .i64 n0, .int .i64 n1] 28)).alloc (.cells #[.int .i64 x0, .int .i64 x1] 28)).alloc (.cells #[.int .i64 0, .int .i64 0] 28)) = W5 := ⟨_, rfl⟩
  have hb5 : Below w.heap.size w W5 := by rw [← hW5]; exact B_alloc (B_alloc (B_alloc (B_alloc (B_alloc (Below.refl _ _) _) _) _) _) _
  have z : W5.heap.size = w.heap.size + 1 + 1 + 1 + 1 + 1 := by rw [← hW5]; simp
  have cB : ∀ j, W5.cell? ⟨w.heap.size, j, none⟩ = r.cs[j]? := fun j => by rw [← hW5, alloc_old _ _ _ _ (by first | (simp; done) | (simp; omega)), alloc_old _ _ _ _ (by first | (simp; done) | (simp; omega)), alloc_old _ _ _ _ (by first | (simp; done) | (simp; omega)), alloc_old _ _ _ _ (by simp), cells_mem rfl]
  have cS : ∀ j, W5.cell? ⟨w.heap.size + 1, j, none⟩ = (#[.int .i64 s0, .int .i64 s1] : Array Value)[j]? := fun j => by rw [← hW5, alloc_old _ _ _ _ (by first | (simp; done) | (simp; omega)), alloc_old _ _ _ _ (by first | (simp; done) | (simp; omega)), alloc_old _ _ _ _ (by simp), cells_mem (by simp)]
  have cN : ∀ j, W5.cell? ⟨w.heap.size + 1 + 1, j, none⟩ = (#[.int .i64 n0, .int .i64 n1] : Array Value)[j]? := fun j => by rw [← hW5, alloc_old _ _ _ _ (by first | (simp; done) | (simp; omega)), alloc_old _ _ _ _ (by simp), cells_mem (by simp)]
  have cX : ∀ j, W5.cell? ⟨w.heap.size + 1 + 1 + 1, j, none⟩ = (#[.int .i64 x0, .int .i64 x1] : Array Value)[j]? := fun j => by rw [← hW5, alloc_old _ _ _ _ (by simp), cells_mem (by simp)]
  have cT : ∀ j, W5.cell? ⟨w.heap.size + 1 + 1 + 1 + 1, j, none⟩ = (#[.int .i64 0, .int .i64 0] : Array Value)[j]? := fun j => by rw [← hW5, cells_mem (by simp)]
  have fT : ∀ j, W5.frozen? ⟨w.heap.size + 1 + 1 + 1 + 1, j, none⟩ = false := fun j => by rw [← hW5]; simp [go_sem]
  have e1 := firstT_spec (p := fun i => decide (x0 ≤ mostS r s1 (n0 + (i : Nat)))) (f := c) (k := 0)
  have e2 := firstT_spec (p := fun i => decide (x1 < leastS r s0 (n0 + (i : Nat)))) (f := c) (k := 0)
  rw [Nat.zero_add] at e1 e2
  have hbs : beforeS r (s0, s1) (n0, n1) (x0, x1) = (n0 + (lowN r s1 n0 x0 c : Nat), n0 + (aboveN r s0 n0 x1 c : Nat) - 1) := by unfold beforeS; simp only; rw [hc]
  rw [hbs]
  clear hbs
  have H1 := Lib.hid (fun W (hb : Below W5.heap.size W5 W) => search_any 114 #[.pointer (some ⟨w.heap.size, 0, none⟩), .pointer (some ⟨w.heap.size + 1, 0, none⟩), .pointer (some ⟨w.heap.size + 1 + 1, 0, none⟩), .pointer (some ⟨w.heap.size + 1 + 1 + 1, 0, none⟩)] (fun i => decide (x0 ≤ mostS r s1 (n0 + (i : Nat)))) c (lowN r s1 n0 x0 c) W (by omega) e1.2.1
    (fun t ht => e1.2.2.1 t (Nat.zero_le _) ht) (fun t ht1 ht2 => by
      have hp := of_decide_eq_true (e1.2.2.2 (show lowN r s1 n0 x0 c < c by omega))
      exact decide_eq_true (Int.le_trans hp (most_mono f1 h4.1 (show n0 + ((lowN r s1 n0 x0 c : Nat) : Int) ≤ n0 + (t : Nat) by omega))))
    (enters_of Try.func114 (by kernel_rfl) rfl)
    (fun i W1 hi hb1 => have hbb := B_trans hb hb1
      have hz := hbb.size
      before1_any r hs ws s0 s1 n0 x0 w.heap.size (w.heap.size + 1) (w.heap.size + 1 + 1) (w.heap.size + 1 + 1 + 1) i W1 hO h1 (by omega) h4 (by omega) (by omega) (by omega) (by omega)
      ((hbb.cell (by rw [z]; show w.heap.size < _; omega)).trans (cB 0)) ((hbb.cell (by rw [z]; show w.heap.size < _; omega)).trans (cB 1)) ((hbb.cell (by rw [z]; show w.heap.size < _; omega)).trans (cB 2)) ((hbb.cell (by rw [z]; show w.heap.size < _; omega)).trans (cB 3)) ((hbb.cell (by rw [z]; show w.heap.size < _; omega)).trans (cB 4)) ((hbb.cell (by rw [z]; show w.heap.size < _; omega)).trans (cB 5)) ((hbb.cell (by rw [z]; show w.heap.size < _; omega)).trans (cB 6)) ((hbb.cell (by rw [z]; show w.heap.size < _; omega)).trans (cB 7))
      ((hbb.cell (by rw [z]; show w.heap.size + 1 < _; omega)).trans (cS 0)) ((hbb.cell (by rw [z]; show w.heap.size + 1 < _; omega)).trans (cS 1)) ((hbb.cell (by rw [z]; show w.heap.size + 1 + 1 < _; omega)).trans (cN 0)) ((hbb.cell (by rw [z]; show w.heap.size + 1 + 1 + 1 < _; omega)).trans (cX 0))))
  have H2 := Lib.hid (fun W (hb : Below W5.heap.size W5 W) => search_any 115 #[.pointer (some ⟨w.heap.size, 0, none⟩), .pointer (some ⟨w.heap.size + 1, 0, none⟩), .pointer (some ⟨w.heap.size + 1 + 1, 0, none⟩), .pointer (some ⟨w.heap.size + 1 + 1 + 1, 0, none⟩)] (fun i => decide (x1 < leastS r s0 (n0 + (i : Nat)))) c (aboveN r s0 n0 x1 c) W (by omega) e2.2.1
    (fun t ht => e2.2.2.1 t (Nat.zero_le _) ht) (fun t ht1 ht2 => by
      have hp := of_decide_eq_true (e2.2.2.2 (show aboveN r s0 n0 x1 c < c by omega))
      exact decide_eq_true (Int.lt_of_lt_of_le hp (least_mono f1 h3.1 (show n0 + ((aboveN r s0 n0 x1 c : Nat) : Int) ≤ n0 + (t : Nat) by omega))))
    (enters_of Try.func115 (by kernel_rfl) rfl)
    (fun i W1 hi hb1 => have hbb := B_trans hb hb1
      have hz := hbb.size
      before2_any r hs ws s0 s1 n0 x1 w.heap.size (w.heap.size + 1) (w.heap.size + 1 + 1) (w.heap.size + 1 + 1 + 1) i W1 hO h1 (by omega) h3 (by omega) (by omega) (by omega) (by omega)
      ((hbb.cell (by rw [z]; show w.heap.size < _; omega)).trans (cB 0)) ((hbb.cell (by rw [z]; show w.heap.size < _; omega)).trans (cB 1)) ((hbb.cell (by rw [z]; show w.heap.size < _; omega)).trans (cB 2)) ((hbb.cell (by rw [z]; show w.heap.size < _; omega)).trans (cB 3)) ((hbb.cell (by rw [z]; show w.heap.size < _; omega)).trans (cB 4)) ((hbb.cell (by rw [z]; show w.heap.size < _; omega)).trans (cB 5)) ((hbb.cell (by rw [z]; show w.heap.size < _; omega)).trans (cB 6)) ((hbb.cell (by rw [z]; show w.heap.size < _; omega)).trans (cB 7))
      ((hbb.cell (by rw [z]; show w.heap.size + 1 < _; omega)).trans (cS 0)) ((hbb.cell (by rw [z]; show w.heap.size + 1 < _; omega)).trans (cS 1)) ((hbb.cell (by rw [z]; show w.heap.size + 1 + 1 < _; omega)).trans (cN 0)) ((hbb.cell (by rw [z]; show w.heap.size + 1 + 1 + 1 < _; omega)).trans (cX 1))))
  have hlo : lowN r s1 n0 x0 c ≤ c := e1.2.1
  have hab : aboveN r s0 n0 x1 c ≤ c := e2.2.1
  generalize lowN r s1 n0 x0 c = p at H1 hlo ⊢
  generalize aboveN r s0 n0 x1 c = q at H2 hab ⊢
  have u3 : IntKind.i64.wrap (n0 + p) = n0 + p := IntWalk.i64_in _ (by omega)
  have u4 : IntKind.i64.wrap (n0 + q) = n0 + q := IntWalk.i64_in _ (by omega)
  have u5 : IntKind.i64.wrap (n0 + q - 1) = n0 + q - 1 := IntWalk.i64_in _ (by omega)
  have hmf : ∀ (fn : Fn) (first cap : Array Value) (w : World), (Instr.makeFunc fn first cap).run Try.prog w = .ok (.func fn first cap) w := fun _ _ _ _ => rfl
  rw [hcn] at H1 H2
  have HT := Lib.hid (fun W (hb : Below W5.heap.size W5 W) => (show W.cell? ⟨w.heap.size + 1 + 1 + 1 + 1, 0, none⟩ = some (.int .i64 0) ∧ W.cell? ⟨w.heap.size + 1 + 1 + 1 + 1, 1, none⟩ = some (.int .i64 0) ∧ W.frozen? ⟨w.heap.size + 1 + 1 + 1 + 1, 0, none⟩ = false ∧ W.frozen? ⟨w.heap.size + 1 + 1 + 1 + 1, 1, none⟩ = false ∧ W.cell? ⟨w.heap.size + 1 + 1, 0, none⟩ = some (.int .i64 n0) ∧ W.cell? ⟨w.heap.size + 1 + 1, 1, none⟩ = some (.int .i64 n1) from
    ⟨(hb.cell (by rw [z]; show w.heap.size + 1 + 1 + 1 + 1 < _; omega)).trans (cT 0), (hb.cell (by rw [z]; show w.heap.size + 1 + 1 + 1 + 1 < _; omega)).trans (cT 1), (hb.frozen (by rw [z]; show w.heap.size + 1 + 1 + 1 + 1 < _; omega)).trans (fT 0), (hb.frozen (by rw [z]; show w.heap.size + 1 + 1 + 1 + 1 < _; omega)).trans (fT 1), (hb.cell (by rw [z]; show w.heap.size + 1 + 1 < _; omega)).trans (cN 0), (hb.cell (by rw [z]; show w.heap.size + 1 + 1 < _; omega)).trans (cN 1)⟩))
  replace hb5 := Lib.hid hb5
  obtain ⟨-, -, -, -, n0c, n1c⟩ := HT.out W5 (Below.refl _ _)
  clear cB cS cN cX cT fT z e1 e2 hO
  replace hW5 := Lib.hid hW5
  have hcn' := Lib.hid hcn
  have hc' := Lib.hid hc
  clear hcn hc
  go_enter Try.func90, Try.ntmps90
  go_upto_region 1 with fail
  rw [hW5.out]
  clear hW5
  go_wp2_with (first | (go_at_call 104; ((with_reducible refine (H1.out _ (Below.refl _ _)).mono ?_); rintro e w1 ⟨rfl, hb1⟩)) | (go_at_call 104; ((with_reducible refine (H2.out _ hb1).mono ?_); rintro e w2 ⟨rfl, hb2⟩; have hbw := B_trans hb1 hb2; obtain ⟨t0, t1, g0, g1, m0, m1⟩ := HT.out _ hbw)))
  refine bodyPost_ret (v := .agg #[.int .i64 (n0 + p), .int .i64 (n0 + q - 1)]) (by simp [results, Try.results90, go_sem, t0, t1]) rfl ⟨rfl, ?_⟩
  exact ((B_trans hb5.out hbw).setCell (by simp only; omega) _).setCell (by simp only; omega) _
end Go.Proofs.Ytanjkhclhcnnaaa
/- Sorting by insertion, for any comparison that only makes memory. -/
namespace Go.Proofs.Ytanjkhclhcnnaaa
open Go.RowKit Go.Shelf

theorem only_refl (w : World) (row : Option Nat) : w.grownBy w row := ⟨rfl, rfl, rfl, Nat.le_refl _, fun _ _ _ => rfl⟩
theorem only_trans {a b c : World} {row : Option Nat} (h : a.grownBy b row) (k : b.grownBy c row) : a.grownBy c row :=
  ⟨k.os.trans h.os, k.tape.trans h.tape, k.output.trans h.output, Nat.le_trans h.size k.size, fun i hi hne => (k.block i (Nat.lt_of_lt_of_le hi h.size) hne).trans (h.block i hi hne)⟩
theorem only_drew {a w : World} {row : Option Nat} (h : a.grownBy w row) : a.grownBy w.drew row := ⟨h.os, h.tape, h.output, h.size, h.block⟩
theorem only_below {w w1 : World} (row : Option Nat) (h : Below w.heap.size w w1) : w.grownBy w1 row := ⟨h.os, h.tape, h.output, h.size, fun i hi _ => h.block i hi⟩
theorem only_setCell {a w : World} {g : Nat} (h : a.grownBy w (some g)) {p : Addr} (hp : p.block = g) (u : Value) : a.grownBy (w.setCell p u) (some g) :=
  ⟨h.os, h.tape, h.output, by simpa [World.setCell] using h.size, fun i hi hne => (Below.heap_setCell w p u i (by
    rintro rfl
    exact hne (by rw [hp]))).trans (h.block i hi hne)⟩

def swapL (l : List Nat) (j : Nat) : List Nat := (l.set (j + 1) (l.getD j 0)).set j (l.getD (j + 1) 0)
/-- The element at a place moves down as long as it is less. -/
def sinkL (lt : Nat → Nat → Bool) : Nat → List Nat → List Nat
  | 0, l => l
  | j + 1, l => if lt (l.getD (j + 1) 0) (l.getD j 0) then sinkL lt j (swapL l j) else l
/-- The places up to one have been put in order. -/
def isortL (lt : Nat → Nat → Bool) (l : List Nat) : Nat → List Nat
  | 0 => l
  | i + 1 => sinkL lt (i + 1) (isortL lt l i)
theorem swapL_len (l : List Nat) (j : Nat) : (swapL l j).length = l.length := by simp [swapL]
theorem sinkL_len (lt : Nat → Nat → Bool) : ∀ (j : Nat) (l : List Nat), (sinkL lt j l).length = l.length
  | 0, _ => rfl
  | j + 1, l => by unfold sinkL; split; · rw [sinkL_len lt j, swapL_len]
                   · rfl
theorem isortL_len (lt : Nat → Nat → Bool) (l : List Nat) : ∀ i, (isortL lt l i).length = l.length
  | 0 => rfl
  | i + 1 => by unfold isortL; rw [sinkL_len, isortL_len lt l i]
theorem getD_mem_lt {l : List Nat} {n : Nat} (h : ∀ x ∈ l, x < n) {j : Nat} (hj : j < l.length) : l.getD j 0 < n := by
  have e : l.getD j 0 = l[j] := by simp [List.getD, hj]
  rw [e]; exact h _ (List.getElem_mem hj)
theorem swapL_mem {l : List Nat} {n j : Nat} (h : ∀ x ∈ l, x < n) (hj : j + 1 < l.length) : ∀ x ∈ swapL l j, x < n := by
  intro x hx
  unfold swapL at hx
  rcases List.mem_or_eq_of_mem_set hx with hx | rfl
  · rcases List.mem_or_eq_of_mem_set hx with hx | rfl
    · exact h x hx
    · exact getD_mem_lt h (by omega)
  · exact getD_mem_lt h hj
theorem sinkL_mem {lt : Nat → Nat → Bool} {n : Nat} : ∀ (j : Nat) {l : List Nat}, (∀ x ∈ l, x < n) → j < l.length → ∀ x ∈ sinkL lt j l, x < n
  | 0, _, h, _ => h
  | j + 1, l, h, hj => by
    unfold sinkL; split
    · exact sinkL_mem j (swapL_mem h hj) (by rw [swapL_len]; omega)
    · exact h
theorem isortL_mem {lt : Nat → Nat → Bool} {n : Nat} {l : List Nat} (h : ∀ x ∈ l, x < n) : ∀ i, i < l.length → ∀ x ∈ isortL lt l i, x < n
  | 0, _ => h
  | i + 1, hi => by unfold isortL; exact sinkL_mem _ (isortL_mem h i (by omega)) (by rw [isortL_len]; exact hi)

def cellsN (l : List Nat) : Array Value := (l.map fun (x : Nat) => (.int .i64 x : Value)).toArray
theorem cellsN_at {l : List Nat} {j : Nat} (hj : j < l.length) : (cellsN l)[j]? = some (.int .i64 (l.getD j 0 : Nat)) := by
  simp [cellsN, List.getD, hj]
theorem cellsN_swap {l : List Nat} {j : Nat} : ((cellsN l).setIfInBounds (j + 1) (.int .i64 (l.getD j 0 : Nat))).setIfInBounds j (.int .i64 (l.getD (j + 1) 0 : Nat)) = cellsN (swapL l j) := by
  simp [cellsN, swapL, List.map_set]
end Go.Proofs.Ytanjkhclhcnnaaa
/- The library's insertion sort. -/
namespace Go.Proofs.Ytanjkhclhcnnaaa
open Go.RowKit Go.Shelf

theorem only_drewN {a w : World} {row : Option Nat} (h : a.grownBy w row) (n : Nat) : a.grownBy (w.drewN n) row := ⟨h.os, h.tape, h.output, h.size, h.block⟩
theorem Ob.drewN {W : World} {B : Nat} {T : TypeId} {cs : Array Value} (h : Ob W B T cs) (n : Nat) : Ob (W.drewN n) B T cs := h
theorem last4 {p q r s : Prop} (h : p ∧ q ∧ r ∧ s) : s := h.2.2.2
theorem kept3 {w W W1 : World} {g : Nat} {cs : Array Value} {p q : Prop} (h : p ∧ q ∧ Ob W g 3 cs ∧ w.grownBy W (some g)) (hb : Below W.heap.size W W1) : Ob W1 g 3 cs ∧ w.grownBy W1 (some g) := ⟨h.2.2.1.below hb, only_trans h.2.2.2 (only_below _ hb)⟩

set_option maxRecDepth 100000 in
set_option maxHeartbeats 8000000 in
theorem isort_any (f : Nat) (cap : Array Value) (cv : Nat → Nat → Int) (g n cp : Nat) (l0 : List Nat) (w : World) (hn : n ≤ 1000) (hl : l0.length = n) (hm : ∀ x ∈ l0, x < n) (hO : Ob w g 3 (cellsN l0))
    (eg : ∀ args w, (callFunc f args).run Try.prog w = .ok (.enter f args) w)
    (hf : ∀ (a b : Nat) (W : World), a < n → b < n → w.grownBy W (some g) → Calls Try.prog f (#[.int .i64 a, .int .i64 b] ++ cap) W fun e w' => e = .returned (.int .i64 (cv a b)) ∧ Below W.heap.size W w') :
    Calls Try.prog 126 #[.slice (some ⟨g, 0, none⟩) n cp, .int .i64 0, .int .i64 n, .func (.func f) #[] cap] w fun e w' => e = .returned (.tuple #[]) ∧ Ob w' g 3 (cellsN (isortL (fun a b => decide (cv a b < 0)) l0 (n - 1))) ∧ w.grownBy w' (some g) := by
  replace hf := Lib.hid hf
  replace hO := Lib.hid hO
  replace hm := Lib.hid hm
  go_enter Try.func126, Try.ntmps126
  go_wp2
  go_loopg [8] n (fun gk i wr => ∃ k : Nat, gk = n - k ∧ i = .int .i64 ((k : Int) + 1) ∧ (k + 1 ≤ n ∨ k = 0) ∧ Ob wr g 3 (cellsN (isortL (fun a b => decide (cv a b < 0)) l0 k)) ∧ w.grownBy wr (some g))
  case atStart => exact ⟨0, by omega, rfl, .inr rfl, hO.out, only_refl _ _⟩
  case round =>
    obtain ⟨k, rfl, rfl, hk, hOk, hg⟩ := hrel
    have hk0 : (0 : Int) ≤ k := by omega
    by_cases hlt : k + 1 < n
    · have hkl : (k : Int) + 1 < n := by omega
      have hlen := isortL_len (fun a b => decide (cv a b < 0)) l0 k
      have hmem := Lib.hid (isortL_mem (lt := fun a b => decide (cv a b < 0)) hm.out k (by omega))
      have hnx : Hid (isortL (fun a b => decide (cv a b < 0)) l0 (k + 1) = sinkL (fun a b => decide (cv a b < 0)) (k + 1) (isortL (fun a b => decide (cv a b < 0)) l0 k)) := rfl
      generalize isortL (fun a b => decide (cv a b < 0)) l0 k = L at hOk hlen hmem hnx
      obtain ⟨wo, rfl⟩ : ∃ wo, wo = wr := ⟨_, rfl⟩
      have hOk' := Lib.hid hOk
      have hg' := Lib.hid hg
      clear hOk hg
      go_wp2
      go_loopg [9] (k + 1) (fun gj j wr => ∃ (m : Nat) (L' : List Nat), gj = m ∧ j = .int .i64 (m : Int) ∧ m ≤ k + 1 ∧ L'.length = n ∧ (∀ x ∈ L', x < n) ∧ sinkL (fun a b => decide (cv a b < 0)) m L' = sinkL (fun a b => decide (cv a b < 0)) (k + 1) L ∧ Ob wr g 3 (cellsN L') ∧ w.grownBy wr (some g))
      case atStart => exact ⟨k + 1, L, rfl, by go_num, Nat.le_refl _, by omega, hmem.out, rfl, hOk'.out, hg'.out⟩
      case round =>
        obtain ⟨m, L', hgm, hjv, hm1, hl', hm', hs, hOj, hgj⟩ := hrel
        rcases m with _ | j
        · obtain rfl := hjv
          have hs' := Lib.hid hs
          have hOj' := Lib.hid hOj
          have hgj' := Lib.hid hgj
          clear hs hOj hgj hm'
          go_wp2_with fail
          go_quiet (fail)
          go_wp2
          go_roundg (n - (k + 1))
          case measure => omega
          case rel =>
            refine ⟨k + 1, rfl, by push_cast; rfl, .inl (by omega), ?_, only_drewN hgj'.out _⟩
            rw [hnx.out, ← hs'.out]
            exact hOj'.out.drewN _
        · obtain rfl : _ = Value.int .i64 ((j : Int) + 1) := hjv.trans (by push_cast; rfl)
          have ha := getD_mem_lt hm' (show j + 1 < L'.length by omega)
          have hb := getD_mem_lt hm' (show j < L'.length by omega)
          have hx := Lib.hid (cellsN_at (l := L') (j := j + 1) (by omega))
          have hy := Lib.hid (cellsN_at (l := L') (j := j) (by omega))
          have hsw := Lib.hid (cellsN_swap (l := L') (j := j))
          have C := Lib.hid (fun W (h : w.grownBy W (some g)) => hf.out _ _ W ha hb h)
          have hx0 : ∃ x, Hid (L'.getD (j + 1) 0 = x) := ⟨_, rfl⟩
          have hy0 : ∃ x, Hid (L'.getD j 0 = x) := ⟨_, rfl⟩
          obtain ⟨x, hx0⟩ := hx0
          obtain ⟨y, hy0⟩ := hy0
          rw [hx0.out] at ha hx C hsw
          rw [hy0.out] at hb hy C hsw
          have hs' := Lib.hid hs
          have u1 : IntKind.i64.wrap ((j : Int) + 1 - 1) = j := by rw [show (j : Int) + 1 - 1 = j by omega]; exact IntWalk.i64_in _ (by omega)
          have a1 : (0 : Int) ≤ (j : Int) + 1 := by omega
          have a2 : (j : Int) + 1 < n := by omega
          have a3 : (0 : Int) ≤ (j : Int) := by omega
          have a4 : (j : Int) < n := by omega
          have a5 : ((j : Int) + 1).toNat = j + 1 := by omega
          have a6 : (0 : Int) < (j : Int) + 1 := by omega
          have u2 : IntKind.i64.wrap (j : Int) = j := IntWalk.i64_in _ (by omega)
          have HK := Lib.hid (fun W (h : Ob W g 3 (cellsN L')) (h2 : w.grownBy W (some g)) => (show W.cell? ⟨g, j + 1, none⟩ = some (.int .i64 x) ∧ W.cell? ⟨g, j, none⟩ = some (.int .i64 y) ∧ Ob W g 3 (cellsN L') ∧ w.grownBy W (some g) from ⟨(h.cell (j + 1)).trans hx.out, (h.cell j).trans hy.out, h, h2⟩))
          have hr0 := Lib.hid (And.intro hOj hgj)
          clear hOj hgj hs hx hy
          by_cases hc : cv x y < 0
          · have hlt2 := Lib.hid (show cv (L'.getD (j + 1) 0) (L'.getD j 0) < 0 from by rw [hx0.out, hy0.out]; exact hc)
            go_wp2_with fail
            go_region_held3 (fun W => W.cell? ⟨g, j + 1, none⟩ = some (.int .i64 x) ∧ W.cell? ⟨g, j, none⟩ = some (.int .i64 y) ∧ Ob W g 3 (cellsN L') ∧ w.grownBy W (some g)) (first | exact HK.out _ hr0.out.1.drew (only_drew hr0.out.2) | exact HK.out _ (kept3 (by assumption) (by assumption)).1 (kept3 (by assumption) (by assumption)).2) (((with_reducible refine (C.out _ (last4 (by assumption))).mono ?_); rintro e w1 ⟨rfl, hb1⟩))
            have hw := kept3 (HK.out _ hr0.out.1.drew (only_drew hr0.out.2)) hb1
            have v1 := (HK.out _ hw.1 hw.2).1
            have v2 := (HK.out _ hw.1 hw.2).2.1
            have v3 := hw.1.frozen (j + 1)
            have v4 := hw.1.frozen j
            replace hw := Lib.hid hw
            rename_i hHeld
            clear HK C hr0 hHeld
            go_wp2_with fail
            go_region
            go_wp2
            go_roundg j
            case measure => omega
            case rel =>
              refine ⟨j, swapL L' j, rfl, by simp, by omega, by rw [swapL_len]; exact hl', swapL_mem hm' (by omega), ?_, ?_, ?_⟩
              · rw [← hs'.out]
                conv => rhs; unfold sinkL
                rw [if_pos (by simpa using hlt2.out)]
              · rw [← hsw.out]
                exact ((hw.out.1.drewN _).set _ _).set _ _
              · exact only_setCell (only_setCell (only_drewN hw.out.2 _) rfl _) rfl _
          · have hlt2 := Lib.hid (show ¬ cv (L'.getD (j + 1) 0) (L'.getD j 0) < 0 from by rw [hx0.out, hy0.out]; exact hc)
            go_wp2_with fail
            go_region_held3 (fun W => W.cell? ⟨g, j + 1, none⟩ = some (.int .i64 x) ∧ W.cell? ⟨g, j, none⟩ = some (.int .i64 y) ∧ Ob W g 3 (cellsN L') ∧ w.grownBy W (some g)) (first | exact HK.out _ hr0.out.1.drew (only_drew hr0.out.2) | exact HK.out _ (kept3 (by assumption) (by assumption)).1 (kept3 (by assumption) (by assumption)).2) (((with_reducible refine (C.out _ (last4 (by assumption))).mono ?_); rintro e w1 ⟨rfl, hb1⟩))
            have hw := Lib.hid (kept3 (HK.out _ hr0.out.1.drew (only_drew hr0.out.2)) hb1)
            rename_i hHeld
            clear HK C hr0 hHeld
            go_wp2
            go_roundg (n - (k + 1))
            case measure => omega
            case rel =>
              refine ⟨k + 1, rfl, by push_cast; rfl, .inl (by omega), ?_, hw.out.2⟩
              rw [hnx.out, ← hs'.out]
              conv => arg 4; arg 1; unfold sinkL
              rw [if_neg (by simpa using hlt2.out)]
              exact hw.out.1
    · obtain rfl : k = n - 1 := by omega
      have hkl : ¬ ((n - 1 : Nat) : Int) + 1 < n := by omega
      have hOk' := Lib.hid hOk
      have hg' := Lib.hid hg
      clear hOk hg
      go_wp2
      go_end0
      exact ⟨rfl, hOk'.out, hg'.out⟩
end Go.Proofs.Ytanjkhclhcnnaaa
/- Sorting at most twenty, keeping the order of equals; comparing numbers. -/
namespace Go.Proofs.Ytanjkhclhcnnaaa
open Go.RowKit Go.Shelf

def cmpN (a b : Int) : Int := if a < b then -1 else if b < a then 1 else 0

theorem nan_any (a : Int) (w : World) : Calls Try.prog 124 #[.int .i64 a] w fun e w' => e = .returned (.bool false) ∧ w' = w := by
  go_enter Try.func124, Try.ntmps124
  go_wp2
  go_ret
  exact ⟨rfl, rfl⟩

set_option maxHeartbeats 2000000 in
theorem compare_any (a b : Int) (w : World) : Calls Try.prog 121 #[.int .i64 a, .int .i64 b] w fun e w' => e = .returned (.int .i64 (cmpN a b)) ∧ w' = w := by
  have N1 := Lib.hid (nan_any a)
  have N2 := Lib.hid (nan_any b)
  unfold cmpN
  by_cases h1 : a < b
  · rw [if_pos h1]
    go_enter Try.func121, Try.ntmps121
    go_wp2_with (go_at_call 124; ((first | (with_reducible refine (N1.out _).mono ?_) | (with_reducible refine (N2.out _).mono ?_)); rintro e w1 ⟨rfl, rfl⟩))
    go_ret
    exact ⟨rfl, rfl⟩
  · rw [if_neg h1]
    by_cases h2 : b < a
    · rw [if_pos h2]
      go_enter Try.func121, Try.ntmps121
      go_wp2_with (go_at_call 124; ((first | (with_reducible refine (N1.out _).mono ?_) | (with_reducible refine (N2.out _).mono ?_)); rintro e w1 ⟨rfl, rfl⟩))
      go_ret
      exact ⟨rfl, rfl⟩
    · rw [if_neg h2]
      go_enter Try.func121, Try.ntmps121
      go_wp2_with (go_at_call 124; ((first | (with_reducible refine (N1.out _).mono ?_) | (with_reducible refine (N2.out _).mono ?_)); rintro e w1 ⟨rfl, rfl⟩))
      go_ret
      exact ⟨rfl, rfl⟩

theorem isort_none (f : Nat) (cap : Array Value) (v : Value) (n : Nat) (w : World) (hn : n ≤ 1000) :
    Calls Try.prog 126 #[v, .int .i64 n, .int .i64 n, .func (.func f) #[] cap] w fun e w' => e = .returned (.tuple #[]) ∧ w' = w := by
  have h1 : (0 : Int) ≤ n := by omega
  have h2 : ¬ (n : Int) + 1 < n := by omega
  go_enter Try.func126, Try.ntmps126
  go_wp2
  go_loopg [8] 1 (fun gk i wr => i = .int .i64 ((n : Int) + 1) ∧ wr = w)
  case atStart => exact ⟨rfl, rfl⟩
  case round =>
    obtain ⟨rfl, rfl⟩ := hrel
    go_wp2
    go_end0
    exact ⟨rfl, rfl⟩

set_option maxRecDepth 100000 in
set_option maxHeartbeats 8000000 in
theorem stable_any (f : Nat) (cap : Array Value) (cv : Nat → Nat → Int) (g n cp : Nat) (l0 : List Nat) (w : World) (hn : n ≤ 20) (hl : l0.length = n) (hm : ∀ x ∈ l0, x < n) (hO : Ob w g 3 (cellsN l0))
    (eg : ∀ args w, (callFunc f args).run Try.prog w = .ok (.enter f args) w)
    (hf : ∀ (a b : Nat) (W : World), a < n → b < n → w.grownBy W (some g) → Calls Try.prog f (#[.int .i64 a, .int .i64 b] ++ cap) W fun e w' => e = .returned (.int .i64 (cv a b)) ∧ Below W.heap.size W w') :
    Calls Try.prog 123 #[.slice (some ⟨g, 0, none⟩) n cp, .int .i64 n, .func (.func f) #[] cap] w fun e w' => e = .returned (.tuple #[]) ∧ Ob w' g 3 (cellsN (isortL (fun a b => decide (cv a b < 0)) l0 (n - 1))) ∧ w.grownBy w' (some g) := by
  have H1 := Lib.hid (isort_any f cap cv g n cp l0 w (by omega) hl hm hO eg hf)
  clear hO hf hm
  generalize cellsN (isortL (fun a b => decide (cv a b < 0)) l0 (n - 1)) = R at H1 ⊢
  have H2 := Lib.hid (fun W => isort_none f cap (.slice (some ⟨g, 0, none⟩) n cp) n W (by omega))
  by_cases h20 : (20 : Int) ≤ n
  · obtain rfl : n = 20 := by omega
    have e20 : ((20 : Nat) : Int) = 20 := rfl
    rw [e20] at H1 H2 ⊢
    have hlt : ¬ (20 : Int) < 20 := by omega
    clear e20 h20 hn
    go_enter Try.func123, Try.ntmps123
    go_wp2
    go_loopg [7, 8] 1 (fun gk a b wr => (gk = 1 ∧ a = .int .i64 0 ∧ b = .int .i64 20 ∧ wr = w) ∨ (gk = 0 ∧ a = .int .i64 20 ∧ b = .int .i64 40 ∧ Ob wr g 3 R ∧ w.grownBy wr (some g)))
    case atStart => exact .inl ⟨rfl, rfl, rfl, rfl⟩
    case round =>
      rcases hrel with ⟨rfl, rfl, rfl, rfl⟩ | ⟨rfl, rfl, rfl, hR, hgr⟩
      · go_wp2_with (go_at_call 126; ((with_reducible refine (H1.out).mono ?_); rintro e w1 ⟨rfl, hR', hgr'⟩; have hR := Lib.hid hR'; have hgr := Lib.hid hgr'; clear hR' hgr'))
        go_roundg 0
        case measure => omega
        case rel => exact .inr ⟨rfl, rfl, rfl, hR.out, hgr.out⟩
      · replace hgr := Lib.hid hgr
        replace hR := Lib.hid hR
        go_wp2_with (go_at_call 126; ((with_reducible refine (H2.out _).mono ?_); rintro e w1 ⟨rfl, rfl⟩))
        go_loopg [6] 1 (fun gk b w3 => b = .int .i64 20 ∧ Ob w3 g 3 R ∧ w.grownBy w3 (some g))
        case atStart => exact ⟨rfl, hR.out, hgr.out⟩
        case round =>
          obtain ⟨rfl, h1, h2⟩ := hrel
          replace h1 := Lib.hid h1
          replace h2 := Lib.hid h2
          go_wp2
          go_end0
          exact ⟨rfl, h1.out, h2.out⟩
  · have hlt : ¬ (20 : Int) < n := by omega
    go_enter Try.func123, Try.ntmps123
    go_wp2
    go_loopg [7, 8] 1 (fun gk a b wr => a = .int .i64 0 ∧ b = .int .i64 20 ∧ wr = w)
    case atStart => exact ⟨rfl, rfl, rfl⟩
    case round =>
      obtain ⟨rfl, rfl, rfl⟩ := hrel
      go_wp2_with (go_at_call 126; ((with_reducible refine (H1.out).mono ?_); rintro e w1 ⟨rfl, hR', hgr'⟩; have hR := Lib.hid hR'; have hgr := Lib.hid hgr'; clear hR' hgr'))
      go_loopg [6] 1 (fun gk b w3 => b = .int .i64 20 ∧ Ob w3 g 3 R ∧ wr.grownBy w3 (some g))
      case atStart => exact ⟨rfl, hR.out, hgr.out⟩
      case round =>
        obtain ⟨rfl, h1, h2⟩ := hrel
        replace h1 := Lib.hid h1
        replace h2 := Lib.hid h2
        go_wp2
        go_end0
        exact ⟨rfl, h1.out, h2.out⟩

set_option maxHeartbeats 4000000 in
theorem sortStable_any (f : Nat) (cap : Array Value) (cv : Nat → Nat → Int) (g n cp : Nat) (l0 : List Nat) (w : World) (hn : n ≤ 20) (hl : l0.length = n) (hm : ∀ x ∈ l0, x < n) (hO : Ob w g 3 (cellsN l0))
    (eg : ∀ args w, (callFunc f args).run Try.prog w = .ok (.enter f args) w)
    (hf : ∀ (a b : Nat) (W : World), a < n → b < n → w.grownBy W (some g) → Calls Try.prog f (#[.int .i64 a, .int .i64 b] ++ cap) W fun e w' => e = .returned (.int .i64 (cv a b)) ∧ Below W.heap.size W w') :
    Calls Try.prog 119 #[.slice (some ⟨g, 0, none⟩) n cp, .func (.func f) #[] cap] w fun e w' => e = .returned (.tuple #[]) ∧ Ob w' g 3 (cellsN (isortL (fun a b => decide (cv a b < 0)) l0 (n - 1))) ∧ w.grownBy w' (some g) := by
  have H1 := Lib.hid (stable_any f cap cv g n cp l0 w hn hl hm hO eg hf)
  clear hO hf hm
  generalize cellsN (isortL (fun a b => decide (cv a b < 0)) l0 (n - 1)) = R at H1 ⊢
  have hb : (n : Int) ≤ 20 := by omega
  go_enter Try.func119, Try.ntmps119
  go_wp2_with (go_at_call 123; ((with_reducible refine (H1.out).mono ?_); rintro e w1 ⟨rfl, hR⟩))
  go_end0
  exact ⟨rfl, hR⟩
end Go.Proofs.Ytanjkhclhcnnaaa
/- inOrder. -/
namespace Go.Proofs.Ytanjkhclhcnnaaa
open Go.RowKit Go.Shelf

theorem reached1_any (d g e : Int) (w : World) : Calls Try.prog 108 #[.agg #[.int .i64 d, .int .i64 g, .int .i64 e]] w fun e' w' => e' = .returned (.int .i64 d) ∧ Below w.heap.size w w' := by
  go_enter Try.func108, Try.ntmps108
  go_wp2
  go_ret
  exact ⟨rfl, B_alloc (Below.refl _ _) _⟩

def dayOf (ts : List T3) (i : Nat) : Int := (ts.getD i (0, 0, 0)).1
theorem last9 {a b c d e f g h i : Prop} (x : a ∧ b ∧ c ∧ d ∧ e ∧ f ∧ g ∧ h ∧ i) : i := x.2.2.2.2.2.2.2.2

set_option maxRecDepth 100000 in
set_option maxHeartbeats 8000000 in
theorem inOrder1_any (ts : List T3) (ta : Option Addr) (tn tc Bn Bl a b : Nat) (w : World) (hT : Sl3 w ta tn ts) (htn : tn ≤ 1000) (ha : a < tn) (hb : b < tn)
    (hn : w.cell? ⟨Bn, 0, none⟩ = some (.func (.func 108) #[] #[])) (hl : w.cell? ⟨Bl, 0, none⟩ = some (.slice ta tn tc)) (hnB : Bn < w.heap.size) (hlB : Bl < w.heap.size) :
    Calls Try.prog 120 #[.int .i64 a, .int .i64 b, .pointer (some ⟨Bn, 0, none⟩), .pointer (some ⟨Bl, 0, none⟩)] w fun e w' => e = .returned (.int .i64 (cmpN (dayOf ts a) (dayOf ts b))) ∧ Below w.heap.size w w' := by
  obtain ⟨p, o, hta, hps, hc⟩ := hT.at_ (by omega)
  have hca := Lib.hid (hc a ha)
  have hcb := Lib.hid (hc b hb)
  clear hc hT
  subst hta
  unfold dayOf
  generalize ts.getD a (0, 0, 0) = x at hca ⊢
  generalize ts.getD b (0, 0, 0) = y at hcb ⊢
  obtain ⟨x0, x1, x2⟩ := x
  obtain ⟨y0, y1, y2⟩ := y
  simp only
  have HA := Lib.hid (fun W (h : Below w.heap.size w W) => (show W.cell? ⟨Bn, 0, none⟩ = some (.func (.func 108) #[] #[]) ∧ W.cell? ⟨Bl, 0, none⟩ = some (.slice (some ⟨p, o, none⟩) tn tc) ∧ W.cell? ⟨p, o + a * 3, none⟩ = some (.int .i64 x0) ∧ W.cell? ⟨p, o + a * 3 + 1, none⟩ = some (.int .i64 x1) ∧ W.cell? ⟨p, o + a * 3 + 2, none⟩ = some (.int .i64 x2) ∧ W.cell? ⟨p, o + b * 3, none⟩ = some (.int .i64 y0) ∧ W.cell? ⟨p, o + b * 3 + 1, none⟩ = some (.int .i64 y1) ∧ W.cell? ⟨p, o + b * 3 + 2, none⟩ = some (.int .i64 y2) ∧ Below w.heap.size w W from
    ⟨(h.cell (p := ⟨Bn, 0, none⟩) hnB).trans hn, (h.cell (p := ⟨Bl, 0, none⟩) hlB).trans hl, (h.cell (p := ⟨p, _, none⟩) hps).trans hca.out.1, (h.cell (p := ⟨p, _, none⟩) hps).trans hca.out.2.1, (h.cell (p := ⟨p, _, none⟩) hps).trans hca.out.2.2, (h.cell (p := ⟨p, _, none⟩) hps).trans hcb.out.1, (h.cell (p := ⟨p, _, none⟩) hps).trans hcb.out.2.1, (h.cell (p := ⟨p, _, none⟩) hps).trans hcb.out.2.2, h⟩))
  have H1 := Lib.hid (reached1_any x0 x1 x2)
  have H2 := Lib.hid (reached1_any y0 y1 y2)
  have H3 := Lib.hid (compare_any x0 y0)
  have a1 : (0 : Int) ≤ a := by omega
  have a2 : (a : Int) < tn := by omega
  have b1 : (0 : Int) ≤ b := by omega
  have b2 : (b : Int) < tn := by omega
  have hw := Lib.hid (Below.refl w.heap.size w)
  clear hca hcb hn hl
  go_enter Try.func120, Try.ntmps120
  go_wp2
  go_region_held3 (fun W => W.cell? ⟨Bn, 0, none⟩ = some (.func (.func 108) #[] #[]) ∧ W.cell? ⟨Bl, 0, none⟩ = some (.slice (some ⟨p, o, none⟩) tn tc) ∧ W.cell? ⟨p, o + a * 3, none⟩ = some (.int .i64 x0) ∧ W.cell? ⟨p, o + a * 3 + 1, none⟩ = some (.int .i64 x1) ∧ W.cell? ⟨p, o + a * 3 + 2, none⟩ = some (.int .i64 x2) ∧ W.cell? ⟨p, o + b * 3, none⟩ = some (.int .i64 y0) ∧ W.cell? ⟨p, o + b * 3 + 1, none⟩ = some (.int .i64 y1) ∧ W.cell? ⟨p, o + b * 3 + 2, none⟩ = some (.int .i64 y2) ∧ Below w.heap.size w W) (first | assumption | exact HA.out _ hw.out.drew | exact HA.out _ (B_trans (last9 (by assumption)) (by assumption))) (first | (go_at_call 108; ((with_reducible refine (H1.out _).mono ?_); rintro e w1 ⟨rfl, hb1⟩)) | (go_at_call 108; ((with_reducible refine (H2.out _).mono ?_); rintro e w1 ⟨rfl, hb1⟩)) | (go_at_call 121; ((with_reducible refine (H3.out _).mono ?_); rintro e w1 ⟨rfl, rfl⟩)))
  go_wp2_with fail
  go_ret
  exact ⟨rfl, last9 (by assumption)⟩

theorem below_only {B g : Nat} {a w W : World} (h : Below B a w) (hg : w.grownBy W (some g)) (hB : B ≤ g) (hs : B ≤ a.heap.size := by exact Nat.le_refl _) : Below B a W :=
  ⟨hg.os.trans h.os, hg.tape.trans h.tape, hg.output.trans h.output, Nat.le_trans h.size hg.size, fun i hi => (hg.block i (by have := h.size; omega) (by simp; omega)).trans (h.block i hi)⟩
def fillL (k n : Nat) : List Nat := List.range k ++ List.replicate (n - k) 0
theorem fillL_len {k n : Nat} (h : k ≤ n) : (fillL k n).length = n := by simp [fillL]; omega
theorem fillL_zero (n : Nat) : cellsN (fillL 0 n) = Array.replicate n (.int .i64 0) := by
  simp [fillL, cellsN]
theorem fillL_full (n : Nat) : fillL n n = List.range n := by simp [fillL]
theorem fillL_step {k n : Nat} (h : k < n) : (cellsN (fillL k n)).setIfInBounds k (.int .i64 (k : Nat)) = cellsN (fillL (k + 1) n) := by
  unfold fillL
  rw [show n - k = (n - (k + 1)) + 1 by omega, List.replicate_succ, List.range_succ]
  simp [cellsN]
def orderL (ts : List T3) (n : Nat) : List Nat := isortL (fun a b => decide (cmpN (dayOf ts a) (dayOf ts b) < 0)) (List.range n) (n - 1)

set_option maxRecDepth 100000 in
set_option maxHeartbeats 8000000 in
theorem inOrder_any (ts : List T3) (ta : Option Addr) (tn tc : Nat) (w : World) (hT : Sl3 w ta tn ts) (htn : tn ≤ 20) :
    Calls Try.prog 107 #[.slice ta tn tc, .func (.func 108) #[] #[]] w fun e w' => ∃ g, e = .returned (.slice (some ⟨g, 0, none⟩) tn tn) ∧ w.heap.size ≤ g ∧ Ob w' g 3 (cellsN (orderL ts tn)) ∧ Below w.heap.size w w' := by
  have b2 : (tn : Int) ≤ 20 := by omega
  have hmade : madeCells #[.int .i64 0] tn = cellsN (fillL 0 tn) := by
    rw [fillL_zero]
    apply Array.ext
    · simp [madeCells]
    · intro i h1 h2
      simp [madeCells, Nat.mod_one]
  have hmk : ∀ u : World, (Instr.makeSlice 46 (.int .i64 tn) (.int .i64 tn)).run Try.prog u = .ok (.slice (some ⟨u.heap.size, 0, none⟩) tn tn) (u.alloc (.cells (cellsN (fillL 0 tn)) 3)) := fun u => by
    have := run_makeSlice (P := Try.prog) u 46 3 Try.t3 (.int .i64 0) Try.underlying46 (by kernel_rfl) (by kernel_rfl) .i64 .i64 tn tn (by omega) (Int.le_refl _) (by show (tn : Int).toNat * 1 ≤ _; omega) (by show ((8 : Nat) : Int) * tn ≤ _; omega) (by omega)
    rw [← hmade]
    simpa [show Try.t3.size = 1 from rfl, Value.cells] using this
  clear hmade
  go_enter Try.func107, Try.ntmps107
  go_wp2
  have hO0 := Lib.hid (Ob.new ((w.alloc (.cells #[.slice ta tn tc] 29)).alloc (.cells #[.func (.func 108) #[] #[]] 145)) (cellsN (fillL 0 tn)) 3)
  go_loopg [6, 12] tn (fun gk a i wr => ∃ k : Nat, gk = tn - k ∧ i = .int .i64 k ∧ k ≤ tn ∧ Ob wr (w.heap.size + 1 + 1) 3 (cellsN (fillL k tn)) ∧ Below w.heap.size w wr ∧ Ob wr w.heap.size 29 #[.slice ta tn tc] ∧ Ob wr (w.heap.size + 1) 145 #[.func (.func 108) #[] #[]])
  case atStart =>
    refine ⟨0, by omega, rfl, Nat.zero_le _, by simpa using hO0.out, B_alloc (B_alloc (B_alloc (Below.refl _ _) _) _) _, ?_, ?_⟩
    · exact ((Ob.new w _ _).alloc _).alloc _
    · simpa using (Ob.new (w.alloc (.cells #[.slice ta tn tc] 29)) #[.func (.func 108) #[] #[]] 145).alloc (.cells (cellsN (fillL 0 tn)) 3)
  case round =>
    obtain ⟨k, hgk, rfl, hk, hO, hB, c1, c2⟩ := hrel
    by_cases hlt : k < tn
    · have h1 : (k : Int) < tn := by omega
      have h0 : (0 : Int) ≤ k := by omega
      have hst := Lib.hid (fillL_step hlt)
      have hfr := hO.frozen k
      have hce := (hO.cell k).trans (cellsN_at (by rw [fillL_len hk]; exact hlt))
      replace hO := Lib.hid hO
      replace hB := Lib.hid hB
      replace c1 := Lib.hid c1
      replace c2 := Lib.hid c2
      go_wp2
      go_roundg (tn - (k + 1))
      case measure => omega
      case rel =>
        refine ⟨k + 1, rfl, by push_cast; rfl, hlt, ?_, hB.out.setCell (by simp; omega) _, ?_, ?_⟩
        · rw [← hst.out]; exact hO.out.set _ _
        · exact c1.out.other (by simp; omega) _
        · exact c2.out.other (by simp) _
    · obtain rfl : k = tn := by omega
      have h1 : ¬ (k : Int) < k := by omega
      rw [fillL_full] at hO
      have S := Lib.hid (fun (W : World) (h : Below w.heap.size w W) => hT.below h)
      have H1 := Lib.hid (sortStable_any 120 #[.pointer (some ⟨w.heap.size + 1, 0, none⟩), .pointer (some ⟨w.heap.size, 0, none⟩)] (fun a b => cmpN (dayOf ts a) (dayOf ts b)) (w.heap.size + 1 + 1) k k (List.range k) wr htn (by simp) (by simp) hO (fun _ _ => rfl) (fun a b W ha hb hg => by
        have hbW := below_only hB hg (by omega)
        have o1 := c1.grown hg (by simp; omega)
        have o2 := c2.grown hg (by simp)
        exact inOrder1_any ts ta k tc (w.heap.size + 1) w.heap.size a b W (S.out _ hbW) (by omega) ha hb (o2.cell 0) (o1.cell 0) o2.lt o1.lt))
      replace hO := Lib.hid hO
      replace hB := Lib.hid hB
      clear c1 c2
      go_wp2_with (go_at_call 119; ((with_reducible refine (H1.out).mono ?_); rintro e w1 ⟨rfl, hR', hg'⟩; have hR := Lib.hid hR'; have hg := Lib.hid hg'; clear hR' hg'))
      go_ret
      exact ⟨_, rfl, by omega, hR.out, below_only hB.out hg.out (by omega)⟩
end Go.Proofs.Ytanjkhclhcnnaaa
/- A drawn region in a round of a range over a function: a condition on the world that is kept behind every operation. -/
namespace Go.Proofs.Ytanjkhclhcnnaaa
open Go

/-- It ends in no other way. -/
def Only (Q : Exit → Act → World → Prop) : Exit → Act → World → Prop := fun e a w => e = .normal ∧ Q .normal a w
theorem Only.mk {Q : Exit → Act → World → Prop} {a : Act} {w : World} (h : Q .normal a w) : Only Q .normal a w := ⟨rfl, h⟩
theorem Only.imp {Q : Exit → Act → World → Prop} (e : Exit) (a : Act) (w : World) (h : Only Q e a w) : Q e a w := by obtain ⟨rfl, h⟩ := h; exact h
theorem Only.not_panic {Q : Exit → Act → World → Prop} {p : Prop} {c : List PanicEntry} {a : Act} {w : World} (h : Only Q (.panic c) a w) : p := by cases h.1
theorem Only.no_out {Q : Exit → Act → World → Prop} : ¬ LetsOut (Only Q) := fun ⟨_, _, h⟩ => by cases h.1

section
variable {P : Program} {ops : Array Oper} {Q : Exit → Act → World → Prop} {S : World → Prop}
theorem rowsIn_inRound {l n : Nat} {row : String} {args : Array Value} {w : World} {R : Value → World → Prop} (h : Rows P row args w R) : RowsIn (Fence.wide.inRound l) n P row args w R :=
  fun c cs _ => let ⟨v, w', r, s⟩ := h c cs; ⟨v, w', r, stepsIn_wide.2 s⟩
/-- In a round of a loop over a function: what an operation does outside it does there too. -/
theorem wpIn_of_wp2 {o : Oper} {l n : Nat} {a : Act} {w : World} {K : Act → World → Prop} (hd : plainOp o = true) (h : o.wp P a w K Q) : o.wpIn (Fence.wide.inRound l) n P a w K Q := by
  refine ⟨fun _ _ => trivial, ?_⟩
  rw [Oper.semAt_eq _ _ _ (fun c hc => by unfold plainOp at hd; rw [hc] at hd; cases hd)]
  unfold Oper.wp at h
  generalize (execOp a.eval o).run P w = r at *
  match r, h with
  | .ok (.value v) w', h => exact h
  | .ok .skip w', h => exact h
  | .ok (.defer d) w', h => exact h
  | .ok (.enter f args) w', h => exact ⟨(fun (hz : _ = true) => Bool.noConfusion (show false = true from hz)), CallsIn.inRound l (callsIn_wide.2 h)⟩
  | .ok (.row row args) w', h => exact ⟨(fun (hz : _ = true) => Bool.noConfusion (show false = true from hz)), rowsIn_inRound h⟩
  | .halt (.panic v) w', h => exact h
theorem wpAnyIn_of_any (hno : ¬ LetsOut Q) {l n : Nat} (hd : ops.toList.all plainOp = true) : ∀ {fuel : Nat} {listed : Array Bool} {a : Act} {w : World}, wpAny P .any ops Q fuel listed a w → wpAnyIn (Fence.wide.inRound l) n P .any ops Q fuel listed a w
  | 0, _, _, _, h => h
  | fuel + 1, listed, a, w, h => ⟨h.1, fun i hi => by
      have h2 := h.2 i hi
      unfold wpOp at h2
      unfold wpOpIn
      split
      · rename_i ho; simp only [ho] at h2; exact wpAnyIn_of_any hno hd h2
      · rename_i o ho
        simp only [ho] at h2
        have hm : o ∈ ops.toList := by rw [Array.mem_toList_iff]; exact Array.mem_of_getElem? ho
        have hd1 := List.all_eq_true.1 hd o hm
        split
        · rename_i hw
          simp only [hw, if_true] at h2
          rcases h2 with h2 | ⟨_, h2⟩
          · exact wpIn_of_wp2 hd1 (Oper.wp_mono (fun a w h => wpAnyIn_of_any hno hd h) h2)
          · exact absurd h2 hno
        · rename_i hw; simp only [hw] at h2; exact ⟨fun _ _ => trivial, wpAnyIn_of_any hno hd h2⟩⟩

theorem wpIn_region_held {id l n : Nat} {a : Act} {w : World} (hm : P.follows .mixedOrders = true)
    (hd : ops.toList.all plainOp = true) (hS : S w.drew)
    (h : S w.drew → wpAnyH P .any ops (Only Q) S ops.size (Array.replicate ops.size false) a w.drew) : (Code.region id ops true).wpIn (Fence.wide.inRound l) n P Q a w :=
  wpIn_mono (wpIn_region_any hm (wpAnyIn_of_any Only.no_out hd (wpAny_of_held _ _ _ _ (h hS)))) Only.imp

theorem wpAnyIn_of_all2 {l n : Nat} (hd : ops.toList.all plainOp = true) : ∀ {fuel : Nat} {listed : Array Bool} {a : Act} {w : World}, wpAll P ops Q fuel listed a w → wpAnyIn (Fence.wide.inRound l) n P .any ops Q fuel listed a w
  | 0, _, _, _, h => h
  | fuel + 1, listed, a, w, h => ⟨h.1, fun i hi => by
      have h2 := h.2 i hi
      unfold wpOpL at h2
      unfold wpOpIn
      split
      · rename_i ho; simp only [ho] at h2; exact wpAnyIn_of_all2 hd h2
      · rename_i o ho
        simp only [ho] at h2
        have hm : o ∈ ops.toList := by rw [Array.mem_toList_iff]; exact Array.mem_of_getElem? ho
        have hd1 := List.all_eq_true.1 hd o hm
        split
        · rename_i hw; simp only [hw, if_true] at h2; exact wpIn_of_wp2 hd1 (Oper.wp_mono (fun a w h => wpAnyIn_of_all2 hd h) h2)
        · rename_i hw; simp only [hw] at h2; exact ⟨fun _ _ => trivial, wpAnyIn_of_all2 hd h2⟩⟩
theorem wpIn_region_steps2 {id l n : Nat} {w : World} {a0 : Act} {I : Nat → (Nat → Value) → World → Prop} {V : (Nat → Value) → Nat → Value} {eff : Nat → Bool} {need till : Nat → Nat} (m : Nat) (hm : P.follows .mixedOrders = true) (hn : (dstsOf ops).Nodup)
    (hafter : ((List.range ops.size).all fun i => ((ops[i]?).map fun o => o.after.all fun e => decide (e.on < i)).getD true) = true)
    {N : Nat} (hN : a0.tmps.size = N) (hs : ((dstsOf ops).all fun t => decide (t < N)) = true) (hb : readsBound ops = true)
    (hneed : needOK ops eff need = true) (htill : tillOK ops eff need till m = true) (heff : effOK ops eff need m = true)
    (hd : ops.toList.all plainOp = true)
    (hS : I 0 (fun _ => undef) w.drew) (hsteps : StepAll (fun i o => StepRun P ops I V eff need till a0 i o) ops.toList 0)
    (hend : ∀ (outs : Nat → Value) (w' : World), I m outs w' → Q .normal (flowAct a0 ops (V outs)) w') : (Code.region id ops true).wpIn (Fence.wide.inRound l) n P Q a0 w :=
  wpIn_region_any hm (wpAnyIn_of_all2 hd (wpAll_steps m hn hafter hN hs hb hneed htill heff hS (fun i o h => by
    have := hsteps.at_ i o (by rw [Array.getElem?_toList]; exact h)
    rwa [Nat.zero_add] at this) hend))
end
end Go.Proofs.Ytanjkhclhcnnaaa
/- Spans that stay in bounds; what is known, from behind, as a fold. -/
namespace Go.Proofs.Ytanjkhclhcnnaaa
open Go.RowKit Go.Shelf

/-- A span of levels that may be empty by one. -/
structure OkSp (p : T2) : Prop where
  lo : 0 ≤ p.1
  hi : p.2 ≤ 1000000
  le : p.1 ≤ p.2 + 1
/-- A span of strengths. -/
structure StrOK (p : T2) : Prop where
  lo : 0 ≤ p.1
  hi : p.2 ≤ 1000
  le : p.1 ≤ p.2
theorem gain_up {r : RuA} {hs ws : List T2} (h : RuOK r hs ws) {n s s' : Int} (hn : 0 ≤ n) (hs : s ≤ s') : gainS r n s ≤ gainS r n s' := by
  unfold gainS
  have a := Int.mul_nonneg hn h.feed.1
  have b := h.own.1
  exact Int.mul_le_mul_of_nonneg_left hs (by omega)
theorem least_most {r : RuA} {hs ws : List T2} (h : RuOK r hs ws) {n s s' : Int} (hn : 0 ≤ n) (hs : s ≤ s') : leastS r s n ≤ mostS r s' n := by
  have := gain_up h hn hs
  unfold leastS mostS
  omega
theorem before_ok {r : RuA} {hs ws : List T2} (h : RuOK r hs ws) {s n x : T2} (hs : StrOK s) (hn : OkSp n) (hx : OkSp x) : OkSp (beforeS r s n x) := by
  obtain ⟨n1, n2, n3⟩ := hn
  obtain ⟨x1, x2, x3⟩ := hx
  have hc : ((n.2 - n.1 + 1).toNat : Int) = n.2 - n.1 + 1 := by omega
  unfold beforeS
  generalize (n.2 - n.1 + 1).toNat = c at hc
  have e1 := firstT_spec (p := fun i => decide (x.1 ≤ mostS r s.2 (n.1 + (i : Int)))) (f := c) (k := 0)
  have e2 := firstT_spec (p := fun i => decide (x.2 < leastS r s.1 (n.1 + (i : Int)))) (f := c) (k := 0)
  have hle : lowN r s.2 n.1 x.1 c ≤ aboveN r s.1 n.1 x.2 c := by
    have hbc : aboveN r s.1 n.1 x.2 c ≤ c := by have := e2.2.1; rw [Nat.zero_add] at this; exact this
    rcases Nat.lt_or_ge (aboveN r s.1 n.1 x.2 c) c with h1 | h1
    · have h2 := e2.2.2.2 (by rw [Nat.zero_add]; exact h1)
      rw [decide_eq_true_eq] at h2
      have h3 := least_most h (n := n.1 + (aboveN r s.1 n.1 x.2 c : Int)) (by omega) hs.le
      rcases Nat.lt_or_ge (aboveN r s.1 n.1 x.2 c) (lowN r s.2 n.1 x.1 c) with h4 | h4
      · have h5 := e1.2.2.1 (aboveN r s.1 n.1 x.2 c) (Nat.zero_le _) h4
        rw [decide_eq_false_iff_not] at h5
        have h2' : x.2 < leastS r s.1 (n.1 + (aboveN r s.1 n.1 x.2 c : Int)) := h2
        omega
      · exact h4
    · have h2 : lowN r s.2 n.1 x.1 c ≤ c := by have := e1.2.1; rw [Nat.zero_add] at this; exact this
      omega
  have hbc : aboveN r s.1 n.1 x.2 c ≤ c := by have := e2.2.1; rw [Nat.zero_add] at this; exact this
  exact ⟨by show 0 ≤ n.1 + (lowN r s.2 n.1 x.1 c : Int); omega, by show n.1 + (aboveN r s.1 n.1 x.2 c : Int) - 1 ≤ 1000000; omega, by show n.1 + (lowN r s.2 n.1 x.1 c : Int) ≤ n.1 + (aboveN r s.1 n.1 x.2 c : Int) - 1 + 1; omega⟩

/-- One morning from behind. -/
def knownStep (r : RuA) (ss : List T2) (L : List T2) (m : Nat) : List T2 := L.set m (beforeS r (ss.getD m (0, 0)) (L.getD m (0, 0)) (L.getD (m + 1) (0, 0)))
def knownFold (r : RuA) (ss : List T2) (L : List T2) (ms : List Nat) : List T2 := ms.foldl (knownStep r ss) L
theorem known_len (r : RuA) (ss : List T2) : ∀ (ms : List Nat) (L : List T2), (knownFold r ss L ms).length = L.length
  | [], _ => rfl
  | m :: ms, L => by
    unfold knownFold
    rw [List.foldl_cons]
    have := known_len r ss ms (knownStep r ss L m)
    unfold knownFold at this
    rw [this]
    simp [knownStep]
theorem known_snoc (r : RuA) (ss : List T2) (L : List T2) (ms : List Nat) (m : Nat) : knownFold r ss L (ms ++ [m]) = knownStep r ss (knownFold r ss L ms) m := by simp [knownFold]
theorem getD_lt {L : List T2} {i : Nat} (h : i < L.length) : L.getD i (0, 0) ∈ L := by
  have e : L.getD i (0, 0) = L[i] := by simp [List.getD, h]
  rw [e]; exact List.getElem_mem h
theorem known_ok {r : RuA} {hs ws : List T2} (h : RuOK r hs ws) {ss : List T2} {N : Nat} (hss : ss.length = N) (hst : ∀ s ∈ ss, StrOK s) : ∀ (ms : List Nat) (L : List T2), L.length = N + 1 → (∀ p ∈ L, OkSp p) → (∀ m ∈ ms, m < N) → ∀ p ∈ knownFold r ss L ms, OkSp p
  | [], _, _, hL, _ => hL
  | m :: ms, L, hl, hL, hm => by
    unfold knownFold
    rw [List.foldl_cons]
    have hmN := hm m (by simp)
    refine known_ok h hss hst ms (knownStep r ss L m) (by simp [knownStep, hl]) (fun p hp => ?_) (fun x hx => hm x (by simp [hx]))
    unfold knownStep at hp
    rcases List.mem_or_eq_of_mem_set hp with h1 | rfl
    · exact hL p h1
    · exact before_ok h (hst _ (getD_lt (by omega))) (hL _ (getD_lt (by omega))) (hL _ (getD_lt (by omega)))

/-- Cells that begin with spans. -/
structure SpC (C : Array Value) (L : List T2) : Prop where
  size : L.length * 2 ≤ C.size
  c : ∀ i, i < L.length → C[i * 2]? = some (.int .i64 (L.getD i (0, 0)).1) ∧ C[i * 2 + 1]? = some (.int .i64 (L.getD i (0, 0)).2)
theorem SpC.set {C : Array Value} {L : List T2} (h : SpC C L) {m : Nat} (_hm : m < L.length) (p : T2) : SpC ((C.setIfInBounds (m * 2) (.int .i64 p.1)).setIfInBounds (m * 2 + 1) (.int .i64 p.2)) (L.set m p) := by
  refine ⟨by simpa using h.size, fun i hi => ?_⟩
  rw [List.length_set] at hi
  obtain ⟨a, b⟩ := h.c i hi
  have hz := h.size
  by_cases e : m = i
  · subst e
    have e1 : (L.set m p).getD m (0, 0) = p := by simp [List.getD, hi]
    rw [e1]
    constructor
    · rw [Array.getElem?_setIfInBounds_ne (by omega), Array.getElem?_setIfInBounds_self_of_lt (by omega)]
    · rw [Array.getElem?_setIfInBounds_self_of_lt (by simp; omega)]
  · have e1 : (L.set m p).getD i (0, 0) = L.getD i (0, 0) := by simp [List.getD, e]
    rw [e1]
    constructor
    · rw [Array.getElem?_setIfInBounds_ne (by omega), Array.getElem?_setIfInBounds_ne (by omega)]; exact a
    · rw [Array.getElem?_setIfInBounds_ne (by omega), Array.getElem?_setIfInBounds_ne (by omega)]; exact b
/-- A block of cells stays while a walk's own records are written. -/
theorem Ob.own {W W1 : World} {B : Nat} {T : TypeId} {cs : Array Value} {row : Option Nat} (h : Ob W B T cs) (hg : W.grownBy W1 row) (hr : ∀ r, row = some r → ∃ o : Obj, W.heap[r]? = some o ∧ o.isCells = false) : Ob W1 B T cs :=
  h.grown hg (fun e => by
    obtain ⟨o, h1, h2⟩ := hr B e
    unfold Ob at h
    rw [h] at h1
    cases h1
    cases h2)
theorem row_own {W W1 : World} {base : Nat} {e : TypeId} {s n : Nat} {v : Value} {xs : List Value} {row : Option Nat} (h : W.ownsRow base e s v n xs) (hg : W.grownBy W1 row) (hr : ∀ r, row = some r → ∃ o : Obj, W.heap[r]? = some o ∧ o.isCells = false) : W1.ownsRow base e s v n xs := by
  refine h.kept hg ?_
  cases hv : v.ownBlock with
  | none => exact .inl rfl
  | some g =>
    refine .inr ?_
    intro e1
    obtain ⟨o, h1, h2⟩ := hr g e1.symm
    obtain ⟨c, fz, h3⟩ := Lib.ownsRow_kind h g hv
    rw [h3] at h1
    cases h1
    cases h2
theorem below_own {B : Nat} {w W W1 : World} {row : Option Nat} (h : Below B w W) (hB : B ≤ w.heap.size) (hg : W.grownBy W1 row) (hr : ∀ r, row = some r → B ≤ r) : Below B w W1 :=
  ⟨hg.os.trans h.os, hg.tape.trans h.tape, hg.output.trans h.output, Nat.le_trans h.size hg.size, fun i hi => (hg.block i (by have := h.size; omega) (fun e => by have := hr i e.symm; omega)).trans (h.block i hi)⟩
end Go.Proofs.Ytanjkhclhcnnaaa

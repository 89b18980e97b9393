/- The iterator over a slice of integers from behind. -/
import Derived.Test.YtanjkhclhcnnaaaMA
import Derived.Test.YtanjkhclhcnnaaaMC
import Derived.Test.YtanjkhclhcnnaaaMD
import Derived.Test.YtanjkhclhcnnaaaME
import Derived.IntWalk
import Derived.Deep.RegionHeld3
import Derived.StillTailTactics
import Derived.Deep.Draws
import Derived.RangeFuncNested
namespace Go.Proofs.Ytanjkhclhcnnaaa
open Go.RowKit Go.Shelf
attribute [local go_sem] Oper.semAt_some

theorem sl1_kb {W W' : World} {b o n : Nat} {L : List Int} {B1 : Nat} (h : ∀ i, i < n → W.cell? ⟨b, o + i, none⟩ = some (.int .i64 (L.getD i 0))) (k : KB2 B1 b W W') : ∀ i, i < n → W'.cell? ⟨b, o + i, none⟩ = some (.int .i64 (L.getD i 0)) := fun i hi => (k.c2 _).trans (h i hi)

set_option maxRecDepth 100000 in
set_option maxHeartbeats 2000000 in
theorem backS1_pos (F : Fence) (n : Nat) (h6 : F.fn 125) (hro : F.round = none) (hn : 1 ≤ n) (l B1 b o N c : Nat) (L : List Int) (hN : N ≤ 100000) (J Jx : List (Fin N) → World → Prop)
    (hY : ∀ pre x W, J pre W → pre.length < N → YieldAt F (n - 1) Try.prog l #[.int .i64 ((N : Int) - 1 - x.val), .int .i64 (L.getD (N - 1 - x.val) 0)] W fun e W' =>
      (e = .returned (.bool true) ∧ J (pre ++ [x]) W' ∧ KB2 B1 b W W') ∨ (e = .returned (.bool false) ∧ Jx (pre ++ [x]) W'))
    (W : World) (hc1 : W.cell? ⟨B1, 0, none⟩ = some (.slice (some ⟨b, o, none⟩) N c)) (hc2 : ∀ i, i < N → W.cell? ⟨b, o + i, none⟩ = some (.int .i64 (L.getD i 0))) (h0 : J [] W) :
    CallsIn F n Try.prog 125 #[.func (.yield l) #[] #[], .pointer (some ⟨B1, 0, none⟩)] W fun e W' => (∃ v, e = .returned v) ∧
      ((∃ ys, ys = List.finRange N ∧ J ys W') ∨ (∃ pre, pre <+: List.finRange N ∧ Jx pre W')) := by
  refine callsIn_of_wp Try.func125 rfl h6 ?_ hro
  simp only [Try.ntmps125, List.size_toArray, List.length_cons, List.length_nil, Nat.reduceAdd, Nat.reduceSub, Array.replicate_succ, Array.replicate_zero, List.push_toArray, List.append_toArray, List.nil_append, List.cons_append]
  gi_wp2
  gi_loopw [3] (fun i wr => ∃ k : Nat, k ≤ N ∧ i = .int .i64 ((N : Int) - 1 - k) ∧ J ((List.finRange N).take k) wr ∧ KB2 B1 b W wr)
    (fun i _ => (intOf i + 1).toNat)
  case atStart => exact ⟨0, Nat.zero_le _, by simp, h0, KB2.refl _ _ _⟩
  case round =>
    obtain ⟨k, hk, rfl, hJs, hnx⟩ := hrel
    have c1 : wr.cell? ⟨B1, 0, none⟩ = some (.slice (some ⟨b, o, none⟩) N c) := (hnx.c1 0).trans hc1
    by_cases hlt : k < N
    · obtain ⟨fn, tmps, assign, body, hy, hR⟩ := hY _ ⟨k, hlt⟩ wr hJs (by rw [fins_len hk]; exact hlt)
      dsimp only at hy hR
      have c2 := sl1_kb hc2 hnx (N - 1 - k) (by omega)
      have hl1 : (0 : Int) ≤ (N : Int) - 1 - k := by omega
      have hl2 : (N : Int) - 1 - k < N := by omega
      have hl3 : ((N : Int) - 1 - k).toNat = N - 1 - k := by omega
      have hl4 : (k : Int) ≤ (N : Int) - 1 := by omega
      generalize L.getD (N - 1 - k) 0 = u at hy c2
      gi_wp2
      refine hR.mono ?_
      rintro e W3 (⟨rfl, hJ3, hk3⟩ | ⟨rfl, hJx3⟩)
      · gi_wp2
        go_roundw
        case rel => exact ⟨k + 1, by omega, by rw [show (N : Int) - 1 - ((k + 1 : Nat) : Int) = (N : Int) - 1 - k - 1 by omega], by rw [fins_succ hlt]; exact hJ3, hnx.trans hk3⟩
        case measure => simp [intOf]; omega
      · gi_wp2
        first | (go_end0; exact ⟨⟨_, rfl⟩, .inr ⟨_, by rw [← fins_succ hlt]; exact List.take_prefix _ _, hJx3⟩⟩) | (refine bodyPost_ret (results_none rfl _ _ _) rfl ?_; exact ⟨⟨_, rfl⟩, .inr ⟨_, by rw [← fins_succ hlt]; exact List.take_prefix _ _, hJx3⟩⟩)
    · obtain rfl : k = N := by omega
      have hl1 : ¬ ((0 : Int) ≤ (k : Int) - 1 - k) := by omega
      have hl4 : ¬ ((k : Int) ≤ (k : Int) - 1) := by omega
      gi_wp2
      all_goals (
        exact ⟨rfl, _, results_none rfl _ _ _, ⟨_, rfl⟩, .inl (by rw [List.take_of_length_le (by simp)] at hJs; exact hJs)⟩)

set_option maxRecDepth 100000 in
set_option maxHeartbeats 2000000 in
theorem backS1_zero (F : Fence) (n : Nat) (h6 : F.fn 125) (hro : F.round = none) (l B1 c : Nat) (a : Option Addr) (J Jx : List (Fin 0) → World → Prop)
    (W : World) (hc1 : W.cell? ⟨B1, 0, none⟩ = some (.slice a 0 c)) (h0 : J [] W) :
    CallsIn F n Try.prog 125 #[.func (.yield l) #[] #[], .pointer (some ⟨B1, 0, none⟩)] W fun e W' => (∃ v, e = .returned v) ∧
      ((∃ ys, ys = List.finRange 0 ∧ J ys W') ∨ (∃ pre, pre <+: List.finRange 0 ∧ Jx pre W')) := by
  refine callsIn_of_wp Try.func125 rfl h6 ?_ hro
  simp only [Try.ntmps125, List.size_toArray, List.length_cons, List.length_nil, Nat.reduceAdd, Nat.reduceSub, Array.replicate_succ, Array.replicate_zero, List.push_toArray, List.append_toArray, List.nil_append, List.cons_append]
  gi_wp2
  gi_loopw [3] (fun i wr => i = .int .i64 (-1) ∧ J [] wr) (fun _ _ => 0)
  case atStart => exact ⟨rfl, h0⟩
  case round =>
    obtain ⟨rfl, hJs⟩ := hrel
    gi_wp2
    all_goals (
      exact ⟨rfl, _, results_none rfl _ _ _, ⟨_, rfl⟩, .inl (by simpa using hJs)⟩)

set_option maxHeartbeats 1000000 in
theorem backS_in (F : Fence) (n : Nat) (h5 : F.fn 122) (hro : F.round = none) (a : Option Addr) (N c : Nat) (w : World) :
    CallsIn F n Try.prog 122 #[.slice a N c] w fun e w' => e = .returned (.func (.func 125) #[] #[.pointer (some ⟨w.heap.size, 0, none⟩)]) ∧ w' = w.alloc (.cells #[.slice a N c] 46) := by
  have hmf : ∀ (fn : Fn) (first cap : Array Value) (w : World), (Instr.makeFunc fn first cap).run Try.prog w = .ok (.func fn first cap) w := fun _ _ _ _ => rfl
  refine callsIn_of_wp Try.func122 rfl h5 ?_ hro
  simp only [Try.ntmps122, List.size_toArray, List.length_cons, List.length_nil, Nat.reduceAdd, Nat.reduceSub, Array.replicate_succ, Array.replicate_zero, List.push_toArray, List.append_toArray, List.nil_append, List.cons_append]
  gi_wp2
  go_ret
  exact ⟨rfl, rfl⟩
theorem backS_stops (F : Fence) (n : Nat) (h6 : F.fn 125) (hro : F.round = none) (hn : 1 ≤ n) (B1 b o N c : Nat) (a : Option Addr) (L : List Int) (hN : N ≤ 100000) (ha : 0 < N → a = some ⟨b, o, none⟩) (w : World) (hB1 : B1 < w.heap.size) (hb : 0 < N → b < w.heap.size)
    (hc1 : w.cell? ⟨B1, 0, none⟩ = some (.slice a N c)) (hc2 : ∀ i, i < N → w.cell? ⟨b, o + i, none⟩ = some (.int .i64 (L.getD i 0))) :
    SeqStopsK F n Try.prog 125 #[.pointer (some ⟨B1, 0, none⟩)] (fun x : Fin N => #[Value.int .i64 ((N : Int) - 1 - x.val), Value.int .i64 (L.getD (N - 1 - x.val) 0)]) (KB2 B1 b) (fun ys => ys = List.finRange N) (fun pre => pre <+: List.finRange N) N w := fun l J Jx W hW _ _ hY h0 =>
  by
  have hcW := (hW.cell (p := ⟨B1, 0, none⟩) hB1).trans hc1
  rcases Nat.eq_zero_or_pos N with e | e
  · subst e
    exact backS1_zero F n h6 hro l B1 c a J Jx W hcW h0
  · obtain rfl := ha e
    exact backS1_pos F n h6 hro hn l B1 b o N c L hN J Jx hY W hcW (fun i hi => (hW.cell (p := ⟨b, _, none⟩) (hb e)).trans (hc2 i hi)) h0
end Go.Proofs.Ytanjkhclhcnnaaa
/- Spans and Strikes of the reference: two slices are the same. -/
namespace Go.Proofs.Ytanjkhclhcnnaaa
open Go.RowKit Go.Shelf

/-- Two lists of pairs agree up to a place. -/
theorem same_up {A B : List T2} (h : A.length = B.length) (hs : ∀ i, i < A.length → A.getD i (0, 0) = B.getD i (0, 0)) : A = B := by
  apply List.ext_getElem h
  intro i h1 h2
  have := hs i h1
  simpa [List.getD, h1, h2] using this

set_option maxRecDepth 100000 in
set_option maxHeartbeats 8000000 in
theorem spans_any (A B : List T2) (a b : Option Addr) (n m c d : Nat) (w : World) (hA : Sl2 w a n A) (hB : Sl2 w b m B) (hn : n ≤ 100000) (hm : m ≤ 100000) :
    Calls Try.prog 30 #[.slice a n c, .slice b m d] w fun e w' => e = .returned (.bool (decide (A = B))) ∧ Below w.heap.size w w' := by
  have hla := hA.len
  have hlb := hB.len
  replace hA := Lib.hid hA
  replace hB := Lib.hid hB
  by_cases hnm : n = m
  · subst hnm
    go_enter Try.func30, Try.ntmps30
    go_wp2
    go_loopg [5] n (fun gk i wr => ∃ k : Nat, gk = n - k ∧ k ≤ n ∧ i = .int .i64 (k : Int) ∧ (∀ j, j < k → A.getD j (0, 0) = B.getD j (0, 0)) ∧ ∃ q, wr = w.drewN q)
    case atStart => exact ⟨0, rfl, Nat.zero_le _, rfl, fun j hj => absurd hj (Nat.not_lt_zero _), 0, rfl⟩
    case round =>
      obtain ⟨k, hgk, hk, rfl, hs, q, rfl⟩ := hrel
      by_cases hlt : k < n
      · obtain ⟨b1, o1, rfl, hb1, hc1⟩ := hA.out.at_ (by omega)
        obtain ⟨b2, o2, rfl, hb2, hc2⟩ := hB.out.at_ (by omega)
        obtain ⟨x0, x1⟩ := hc1 k hlt
        obtain ⟨y0, y1⟩ := hc2 k hlt
        have hkn : (k : Int) < n := by omega
        have hk0 : (0 : Int) ≤ k := by omega
        have hs' := Lib.hid hs
        clear hc1 hc2 hs
        by_cases e : A.getD k (0, 0) = B.getD k (0, 0)
        · rw [← e] at y0 y1
          have hs2 : Hid (∀ j, j < k + 1 → A.getD j (0, 0) = B.getD j (0, 0)) := fun j hj => by
            by_cases e2 : j = k
            · subst e2; exact e
            · exact hs'.out j (by omega)
          clear e
          generalize A.getD k (0, 0) = x at x0 x1 y0 y1
          go_wp2_with fail
          go_quiet (fail)
          go_wp2
          go_roundg (n - (k + 1))
          case measure => omega
          case rel => exact ⟨k + 1, rfl, hlt, by push_cast; rfl, hs2.out, _, rfl⟩
        · have hne : Hid (A ≠ B) := fun h => e (by rw [h])
          generalize A.getD k (0, 0) = x at x0 x1 e
          generalize B.getD k (0, 0) = y at y0 y1 e
          obtain ⟨x0', x1'⟩ := x
          obtain ⟨y0', y1'⟩ := y
          simp only at x0 x1 y0 y1
          have e' : ¬ (x0' = y0' ∧ x1' = y1') := fun h => e (by rw [h.1, h.2])
          clear e
          replace hne := Lib.hid (show decide (A = B) = false from decide_eq_false hne)
          clear hs'
          by_cases e0 : x0' = y0'
          · have e1 : ¬ x1' = y1' := fun h => e' ⟨e0, h⟩
            subst e0
            clear e'
            go_wp2_with fail
            go_quiet (fail)
            go_wp2
            go_ret
            exact ⟨by rw [hne.out]; rfl, below_drewN (below_drewN (Below.refl _ _) _) _⟩
          · clear e'
            go_wp2_with fail
            go_quiet (fail)
            go_wp2
            go_ret
            exact ⟨by rw [hne.out]; rfl, below_drewN (below_drewN (Below.refl _ _) _) _⟩
      · obtain rfl : k = n := by omega
        have hres : Hid (decide (A = B) = true) := decide_eq_true (same_up (by omega) (fun i hi => hs i (by omega)))
        have hkn : ¬ (k : Int) < k := by omega
        clear hs
        go_wp2
        go_ret
        exact ⟨by rw [hres.out]; rfl, below_drewN (Below.refl _ _) _⟩
  · have hres : Hid (decide (A = B) = false) := decide_eq_false (fun h => hnm (by rw [← hla, ← hlb, h]))
    have hnm' : ¬ ((n : Int) = m) := by omega
    go_enter Try.func30, Try.ntmps30
    go_wp2
    go_ret
    exact ⟨by rw [hres.out]; rfl, Below.refl _ _⟩

set_option maxRecDepth 100000 in
set_option maxHeartbeats 8000000 in
theorem strikes_any (A B : List T2) (a b : Option Addr) (n m c d : Nat) (w : World) (hA : Sl2 w a n A) (hB : Sl2 w b m B) (hn : n ≤ 100000) (hm : m ≤ 100000) :
    Calls Try.prog 31 #[.slice a n c, .slice b m d] w fun e w' => e = .returned (.bool (decide (A = B))) ∧ Below w.heap.size w w' := by
  have hla := hA.len
  have hlb := hB.len
  replace hA := Lib.hid hA
  replace hB := Lib.hid hB
  by_cases hnm : n = m
  · subst hnm
    go_enter Try.func31, Try.ntmps31
    go_wp2
    go_loopg [5] n (fun gk i wr => ∃ k : Nat, gk = n - k ∧ k ≤ n ∧ i = .int .i64 (k : Int) ∧ (∀ j, j < k → A.getD j (0, 0) = B.getD j (0, 0)) ∧ ∃ q, wr = w.drewN q)
    case atStart => exact ⟨0, rfl, Nat.zero_le _, rfl, fun j hj => absurd hj (Nat.not_lt_zero _), 0, rfl⟩
    case round =>
      obtain ⟨k, hgk, hk, rfl, hs, q, rfl⟩ := hrel
      by_cases hlt : k < n
      · obtain ⟨b1, o1, rfl, hb1, hc1⟩ := hA.out.at_ (by omega)
        obtain ⟨b2, o2, rfl, hb2, hc2⟩ := hB.out.at_ (by omega)
        obtain ⟨x0, x1⟩ := hc1 k hlt
        obtain ⟨y0, y1⟩ := hc2 k hlt
        have hkn : (k : Int) < n := by omega
        have hk0 : (0 : Int) ≤ k := by omega
        have hs' := Lib.hid hs
        clear hc1 hc2 hs
        by_cases e : A.getD k (0, 0) = B.getD k (0, 0)
        · rw [← e] at y0 y1
          have hs2 : Hid (∀ j, j < k + 1 → A.getD j (0, 0) = B.getD j (0, 0)) := fun j hj => by
            by_cases e2 : j = k
            · subst e2; exact e
            · exact hs'.out j (by omega)
          clear e
          generalize A.getD k (0, 0) = x at x0 x1 y0 y1
          go_wp2_with fail
          go_quiet (fail)
          go_wp2
          go_roundg (n - (k + 1))
          case measure => omega
          case rel => exact ⟨k + 1, rfl, hlt, by push_cast; rfl, hs2.out, _, rfl⟩
        · have hne : Hid (A ≠ B) := fun h => e (by rw [h])
          generalize A.getD k (0, 0) = x at x0 x1 e
          generalize B.getD k (0, 0) = y at y0 y1 e
          obtain ⟨x0', x1'⟩ := x
          obtain ⟨y0', y1'⟩ := y
          simp only at x0 x1 y0 y1
          have e' : ¬ (x0' = y0' ∧ x1' = y1') := fun h => e (by rw [h.1, h.2])
          clear e
          replace hne := Lib.hid (show decide (A = B) = false from decide_eq_false hne)
          clear hs'
          by_cases e0 : x0' = y0'
          · have e1 : ¬ x1' = y1' := fun h => e' ⟨e0, h⟩
            subst e0
            clear e'
            go_wp2_with fail
            go_quiet (fail)
            go_wp2
            go_ret
            exact ⟨by rw [hne.out]; rfl, below_drewN (below_drewN (Below.refl _ _) _) _⟩
          · clear e'
            go_wp2_with fail
            go_quiet (fail)
            go_wp2
            go_ret
            exact ⟨by rw [hne.out]; rfl, below_drewN (below_drewN (Below.refl _ _) _) _⟩
      · obtain rfl : k = n := by omega
        have hres : Hid (decide (A = B) = true) := decide_eq_true (same_up (by omega) (fun i hi => hs i (by omega)))
        have hkn : ¬ (k : Int) < k := by omega
        clear hs
        go_wp2
        go_ret
        exact ⟨by rw [hres.out]; rfl, below_drewN (Below.refl _ _) _⟩
  · have hres : Hid (decide (A = B) = false) := decide_eq_false (fun h => hnm (by rw [← hla, ← hlb, h]))
    have hnm' : ¬ ((n : Int) = m) := by omega
    go_enter Try.func31, Try.ntmps31
    go_wp2
    go_ret
    exact ⟨by rw [hres.out]; rfl, Below.refl _ _⟩
end Go.Proofs.Ytanjkhclhcnnaaa
/- The rule, the day and the task of the law's examples. -/
namespace Go.Proofs.Ytanjkhclhcnnaaa
open Go.RowKit Go.Shelf

def hs0 : List T2 := [(100, 100), (300, 500), (400, 1000)]
def ws0 : List T2 := [(200, 200), (600, 1000)]
def rule0 (a b : Nat) : RuA := ⟨some ⟨a, 0, none⟩, 3, 3, some ⟨b, 0, none⟩, 2, 2, 50, 10000, 1000, 5000, 20000, 1030⟩

theorem ob_sl2 {W : World} {B : Nat} {T : TypeId} {L : List T2} (h : Ob W B T (flat2 L).toArray) : Sl2 W (some ⟨B, 0, none⟩) L.length L :=
  ⟨rfl, fun _ => ⟨B, 0, rfl, h.lt, fun i hi => by
    have e := flat2_at L i hi
    rw [Nat.zero_add]
    exact ⟨(h.cell _).trans (by simpa using e.1), (h.cell _).trans (by simpa using e.2)⟩⟩⟩

set_option maxRecDepth 100000 in
set_option maxHeartbeats 8000000 in
theorem rule_any (w : World) : Calls Try.prog 36 #[] w fun e w' => ∃ a b, e = .returned (.agg (rule0 a b).cs) ∧ w.heap.size ≤ a ∧ w.heap.size ≤ b ∧ RuR w' (rule0 a b) hs0 ws0 ∧ Below w.heap.size w w' := by
  go_enter Try.func36, Try.ntmps36
  go_wp2
  refine bodyPost_ret (v := .agg (rule0 (w.heap.size + 1) (w.heap.size + 1 + 1)).cs) (by simp [results, Try.results36, go_sem, rule0]) rfl ⟨_, _, rfl, by omega, by omega, ⟨by show (3 : Nat) ≤ _; decide, by show (2 : Nat) ≤ _; decide, ?_, ?_⟩, B_alloc (B_alloc (B_alloc (Below.refl _ _) _) _) _⟩
  · refine ob_sl2 (T := 120) (L := hs0) (Ob.alloc ?_ _)
    have h := Ob.new (w.alloc (.cells #[.slice (some ⟨w.heap.size + 1, 0, none⟩) 3 3, .slice (some ⟨w.heap.size + 1 + 1, 0, none⟩) 2 2, .int .i64 50, .int .i64 10000, .int .i64 1000, .int .i64 5000, .int .i64 20000, .int .i64 1030] 25)) (flat2 hs0).toArray 120
    rw [World.size_alloc] at h
    exact h
  · refine ob_sl2 (T := 120) (L := ws0) ?_
    have h := Ob.new ((w.alloc (.cells #[.slice (some ⟨w.heap.size + 1, 0, none⟩) 3 3, .slice (some ⟨w.heap.size + 1 + 1, 0, none⟩) 2 2, .int .i64 50, .int .i64 10000, .int .i64 1000, .int .i64 5000, .int .i64 20000, .int .i64 1030] 25)).alloc (.cells (flat2 hs0).toArray 120)) (flat2 ws0).toArray 120
    rw [World.size_alloc, World.size_alloc] at h
    exact h

set_option maxHeartbeats 4000000 in
theorem day_any (w : World) : Calls Try.prog 37 #[] w fun e w' => e = .returned (.agg #[.int .i64 200, .int .i64 250, .int .i64 400, .int .i64 500]) ∧ Below w.heap.size w w' := by
  obtain ⟨w0, hw0⟩ : ∃ w0, w.alloc (.cells #[.int .i64 0, .int .i64 0, .int .i64 0, .int .i64 0] 39) = w0 := ⟨_, rfl⟩
  have hb0 : Below w.heap.size w w0 := by rw [← hw0]; exact B_alloc (Below.refl _ _) _
  have o0 : Ob w0 w.heap.size 39 #[.int .i64 0, .int .i64 0, .int .i64 0, .int .i64 0] := by rw [← hw0]; exact Ob.new _ _ _
  replace hb0 := Lib.hid hb0
  replace o0 := Lib.hid o0
  replace hw0 := Lib.hid hw0
  go_enter Try.func37, Try.ntmps37
  go_wp2_with fail
  rw [hw0.out]
  refine (span_any _ _ w0).mono ?_
  rintro e w1 ⟨rfl, hb1⟩
  go_wp2_with fail
  refine (span_any _ _ w1).mono ?_
  rintro e w2 ⟨rfl, hb2⟩
  have hbb := B_trans hb1 hb2
  have o2 := o0.out.below hbb
  have v0 := o2.cell 0
  have v1 := o2.cell 1
  have v2 := o2.cell 2
  have v3 := o2.cell 3
  have f0 := o2.frozen 0
  have f1 := o2.frozen 1
  have f2 := o2.frozen 2
  have f3 := o2.frozen 3
  simp only [List.getElem?_toArray, List.getElem?_cons_zero, List.getElem?_cons_succ] at v0 v1 v2 v3
  have hE := Lib.hid (B_trans hb0.out hbb)
  clear hb1 hb2 hbb o2
  go_wp2
  refine bodyPost_ret (v := .agg #[.int .i64 200, .int .i64 250, .int .i64 400, .int .i64 500]) (by simp [results, Try.results37, go_sem, v0, v1, v2, v3]) rfl ⟨rfl, ?_⟩
  exact (((hE.out.setCell (by simp) _).setCell (by simp) _).setCell (by simp) _).setCell (by simp) _

theorem sl2_but {W W' : World} {b n : Nat} {L : List T2} (h : Sl2 W (some ⟨b, 0, none⟩) n L) (hb : W'.heap[b]? = W.heap[b]?) (hs : b < W'.heap.size) : Sl2 W' (some ⟨b, 0, none⟩) n L :=
  ⟨h.len, fun hn => by
    obtain ⟨b', o', e, hl, hc⟩ := h.at_ hn
    cases e
    exact ⟨b, 0, rfl, hs, fun i hi => ⟨(World.cell?_of_block hb).trans (hc i hi).1, (World.cell?_of_block hb).trans (hc i hi).2⟩⟩⟩
def day0 : T4 := (200, 250, 400, 500)
def task0 (a b d : Nat) (ta : Option Addr) (tn tc : Nat) : TkA := ⟨rule0 a b, 100, some ⟨d, 0, none⟩, 3, 3, 900, 1000, ta, tn, tc⟩
def zt0 : Array Value := #[.slice none 0 0, .slice none 0 0, .int .i64 0, .int .i64 0, .int .i64 0, .int .i64 0, .int .i64 0, .int .i64 0, .int .i64 0, .slice none 0 0, .int .i64 0, .int .i64 0, .slice none 0 0]

set_option maxRecDepth 100000 in
set_option maxHeartbeats 8000000 in
theorem task_any (ta : Option Addr) (tn tc : Nat) (ts : List T3) (w : World) (hT : Sl3 w ta tn ts) (htn : tn ≤ 1000) :
    Calls Try.prog 39 #[.slice ta tn tc] w fun e w' => ∃ a b d, e = .returned (.agg (task0 a b d ta tn tc).cs) ∧ TkR w' (task0 a b d ta tn tc) hs0 ws0 [day0, day0, day0] ts ∧ Below w.heap.size w w' := by
  obtain ⟨w0, hw0⟩ : ∃ w0, w.alloc (.cells zt0 31) = w0 := ⟨_, rfl⟩
  have hb0 : Below w.heap.size w w0 := by rw [← hw0]; exact B_alloc (Below.refl _ _) _
  have z0 : w0.heap.size = w.heap.size + 1 := by rw [← hw0]; simp
  have o0 : Ob w0 w.heap.size 31 zt0 := by rw [← hw0]; exact Ob.new _ _ _
  replace hb0 := Lib.hid hb0
  replace o0 := Lib.hid o0
  replace hw0 := Lib.hid hw0
  go_enter Try.func39, Try.ntmps39
  go_wp2_with fail
  have hw0' := hw0.out
  unfold zt0 at hw0'
  rw [hw0']
  clear hw0' hw0
  refine (rule_any w0).mono ?_
  rintro e w1 ⟨ra, rb, rfl, hra, hrb, hRu, hb1⟩
  go_wp2_with fail
  refine (day_any w1).mono ?_
  rintro e w2 ⟨rfl, hb2⟩
  go_wp2_with fail
  refine (day_any w2).mono ?_
  rintro e w3 ⟨rfl, hb3⟩
  go_wp2_with fail
  refine (day_any w3).mono ?_
  rintro e w4 ⟨rfl, hb4⟩
  obtain ⟨w5, hw5⟩ : ∃ w5, w4.alloc (.cells #[.int .i64 200, .int .i64 250, .int .i64 400, .int .i64 500, .int .i64 200, .int .i64 250, .int .i64 400, .int .i64 500, .int .i64 200, .int .i64 250, .int .i64 400, .int .i64 500] 39) = w5 := ⟨_, rfl⟩
  have hb14 := B_trans hb2 (B_trans hb3 hb4)
  have hRu4 := hRu.below hb14
  have hb04 := B_trans hb1 hb14
  have hb5 : Below w4.heap.size w4 w5 := by rw [← hw5]; exact B_alloc (Below.refl _ _) _
  have o5 : Ob w5 w4.heap.size 39 #[.int .i64 200, .int .i64 250, .int .i64 400, .int .i64 500, .int .i64 200, .int .i64 250, .int .i64 400, .int .i64 500, .int .i64 200, .int .i64 250, .int .i64 400, .int .i64 500] := by rw [← hw5]; exact Ob.new _ _ _
  have hsz := hb04.size
  go_wp2_with fail
  refine (span_any _ _ w5).mono ?_
  rintro e w7 ⟨rfl, hb7⟩
  have hb47 := B_trans hb5 hb7
  have hRu7 := Lib.hid (hRu4.below hb47)
  have oD := Lib.hid (o5.below hb7)
  have hb07 := B_trans hb04 hb47
  have o7 := o0.out.below hb07
  have hE := Lib.hid (B_trans hb0.out hb07)
  have HF : Hid (∀ p0 p1 p2 p3 p4 p5 p6 p7 p8 p9 p10 p11 p12 : Value, TkR (((((((((((((w7.setCell ⟨w.heap.size, 0, none⟩ p0).setCell ⟨w.heap.size, 1, none⟩ p1).setCell ⟨w.heap.size, 2, none⟩ p2).setCell ⟨w.heap.size, 3, none⟩ p3).setCell ⟨w.heap.size, 4, none⟩ p4).setCell ⟨w.heap.size, 5, none⟩ p5).setCell ⟨w.heap.size, 6, none⟩ p6).setCell ⟨w.heap.size, 7, none⟩ p7).setCell ⟨w.heap.size, 8, none⟩ p8).setCell ⟨w.heap.size, 9, none⟩ p9).setCell ⟨w.heap.size, 10, none⟩ p10).setCell ⟨w.heap.size, 11, none⟩ p11).setCell ⟨w.heap.size, 12, none⟩ p12) (task0 ra rb w4.heap.size ta tn tc) hs0 ws0 [day0, day0, day0] ts ∧ Below w.heap.size w (((((((((((((w7.setCell ⟨w.heap.size, 0, none⟩ p0).setCell ⟨w.heap.size, 1, none⟩ p1).setCell ⟨w.heap.size, 2, none⟩ p2).setCell ⟨w.heap.size, 3, none⟩ p3).setCell ⟨w.heap.size, 4, none⟩ p4).setCell ⟨w.heap.size, 5, none⟩ p5).setCell ⟨w.heap.size, 6, none⟩ p6).setCell ⟨w.heap.size, 7, none⟩ p7).setCell ⟨w.heap.size, 8, none⟩ p8).setCell ⟨w.heap.size, 9, none⟩ p9).setCell ⟨w.heap.size, 10, none⟩ p10).setCell ⟨w.heap.size, 11, none⟩ p11).setCell ⟨w.heap.size, 12, none⟩ p12)) := by
    intro p0 p1 p2 p3 p4 p5 p6 p7 p8 p9 p10 p11 p12
    have hB : Below w.heap.size w (((((((((((((w7.setCell ⟨w.heap.size, 0, none⟩ p0).setCell ⟨w.heap.size, 1, none⟩ p1).setCell ⟨w.heap.size, 2, none⟩ p2).setCell ⟨w.heap.size, 3, none⟩ p3).setCell ⟨w.heap.size, 4, none⟩ p4).setCell ⟨w.heap.size, 5, none⟩ p5).setCell ⟨w.heap.size, 6, none⟩ p6).setCell ⟨w.heap.size, 7, none⟩ p7).setCell ⟨w.heap.size, 8, none⟩ p8).setCell ⟨w.heap.size, 9, none⟩ p9).setCell ⟨w.heap.size, 10, none⟩ p10).setCell ⟨w.heap.size, 11, none⟩ p11).setCell ⟨w.heap.size, 12, none⟩ p12) := (((((((((((((hE.out.setCell (p := ⟨w.heap.size, 0, none⟩) (Nat.le_refl _) _).setCell (p := ⟨w.heap.size, 1, none⟩) (Nat.le_refl _) _).setCell (p := ⟨w.heap.size, 2, none⟩) (Nat.le_refl _) _).setCell (p := ⟨w.heap.size, 3, none⟩) (Nat.le_refl _) _).setCell (p := ⟨w.heap.size, 4, none⟩) (Nat.le_refl _) _).setCell (p := ⟨w.heap.size, 5, none⟩) (Nat.le_refl _) _).setCell (p := ⟨w.heap.size, 6, none⟩) (Nat.le_refl _) _).setCell (p := ⟨w.heap.size, 7, none⟩) (Nat.le_refl _) _).setCell (p := ⟨w.heap.size, 8, none⟩) (Nat.le_refl _) _).setCell (p := ⟨w.heap.size, 9, none⟩) (Nat.le_refl _) _).setCell (p := ⟨w.heap.size, 10, none⟩) (Nat.le_refl _) _).setCell (p := ⟨w.heap.size, 11, none⟩) (Nat.le_refl _) _).setCell (p := ⟨w.heap.size, 12, none⟩) (Nat.le_refl _) _)
    have hk : ∀ k, k ≠ w.heap.size → (((((((((((((w7.setCell ⟨w.heap.size, 0, none⟩ p0).setCell ⟨w.heap.size, 1, none⟩ p1).setCell ⟨w.heap.size, 2, none⟩ p2).setCell ⟨w.heap.size, 3, none⟩ p3).setCell ⟨w.heap.size, 4, none⟩ p4).setCell ⟨w.heap.size, 5, none⟩ p5).setCell ⟨w.heap.size, 6, none⟩ p6).setCell ⟨w.heap.size, 7, none⟩ p7).setCell ⟨w.heap.size, 8, none⟩ p8).setCell ⟨w.heap.size, 9, none⟩ p9).setCell ⟨w.heap.size, 10, none⟩ p10).setCell ⟨w.heap.size, 11, none⟩ p11).setCell ⟨w.heap.size, 12, none⟩ p12).heap[k]? = w7.heap[k]? := fun k hk => by
      rw [Below.heap_setCell _ _ _ _ hk, Below.heap_setCell _ _ _ _ hk, Below.heap_setCell _ _ _ _ hk, Below.heap_setCell _ _ _ _ hk, Below.heap_setCell _ _ _ _ hk, Below.heap_setCell _ _ _ _ hk, Below.heap_setCell _ _ _ _ hk, Below.heap_setCell _ _ _ _ hk, Below.heap_setCell _ _ _ _ hk, Below.heap_setCell _ _ _ _ hk, Below.heap_setCell _ _ _ _ hk, Below.heap_setCell _ _ _ _ hk, Below.heap_setCell _ _ _ _ hk]
    have hz : (((((((((((((w7.setCell ⟨w.heap.size, 0, none⟩ p0).setCell ⟨w.heap.size, 1, none⟩ p1).setCell ⟨w.heap.size, 2, none⟩ p2).setCell ⟨w.heap.size, 3, none⟩ p3).setCell ⟨w.heap.size, 4, none⟩ p4).setCell ⟨w.heap.size, 5, none⟩ p5).setCell ⟨w.heap.size, 6, none⟩ p6).setCell ⟨w.heap.size, 7, none⟩ p7).setCell ⟨w.heap.size, 8, none⟩ p8).setCell ⟨w.heap.size, 9, none⟩ p9).setCell ⟨w.heap.size, 10, none⟩ p10).setCell ⟨w.heap.size, 11, none⟩ p11).setCell ⟨w.heap.size, 12, none⟩ p12).heap.size = w7.heap.size := by simp [World.setCell]
    generalize (((((((((((((w7.setCell ⟨w.heap.size, 0, none⟩ p0).setCell ⟨w.heap.size, 1, none⟩ p1).setCell ⟨w.heap.size, 2, none⟩ p2).setCell ⟨w.heap.size, 3, none⟩ p3).setCell ⟨w.heap.size, 4, none⟩ p4).setCell ⟨w.heap.size, 5, none⟩ p5).setCell ⟨w.heap.size, 6, none⟩ p6).setCell ⟨w.heap.size, 7, none⟩ p7).setCell ⟨w.heap.size, 8, none⟩ p8).setCell ⟨w.heap.size, 9, none⟩ p9).setCell ⟨w.heap.size, 10, none⟩ p10).setCell ⟨w.heap.size, 11, none⟩ p11).setCell ⟨w.heap.size, 12, none⟩ p12) = W' at hB hk hz ⊢
    have oD' : Ob W' w4.heap.size 39 #[.int .i64 200, .int .i64 250, .int .i64 400, .int .i64 500, .int .i64 200, .int .i64 250, .int .i64 400, .int .i64 500, .int .i64 200, .int .i64 250, .int .i64 400, .int .i64 500] := (hk _ (by omega)).trans oD.out
    have hRu' := hRu7.out
    have hal : ra < w7.heap.size := by
      obtain ⟨b, o, e, hl, -⟩ := hRu'.h.at_ (by show 0 < 3; omega)
      cases e; exact hl
    have hbl : rb < w7.heap.size := by
      obtain ⟨b, o, e, hl, -⟩ := hRu'.w.at_ (by show 0 < 2; omega)
      cases e; exact hl
    refine ⟨⟨⟨by show (3 : Nat) ≤ _; decide, by show (2 : Nat) ≤ _; decide, sl2_but (b := ra) hRu'.h (hk _ (by omega)) (by omega), sl2_but (b := rb) hRu'.w (hk _ (by omega)) (by omega)⟩, by show (3 : Nat) ≤ _; decide, by show tn ≤ _; omega, ⟨rfl, fun _ => ⟨w4.heap.size, 0, rfl, oD'.lt, fun i hi => ?_⟩⟩, hT.below hB⟩, hB⟩
    have hi3 : i < 3 := hi
    rcases (by omega : i = 0 ∨ i = 1 ∨ i = 2) with rfl | rfl | rfl
    · exact ⟨oD'.cell 0, oD'.cell 1, oD'.cell 2, oD'.cell 3⟩
    · exact ⟨oD'.cell 4, oD'.cell 5, oD'.cell 6, oD'.cell 7⟩
    · exact ⟨oD'.cell 8, oD'.cell 9, oD'.cell 10, oD'.cell 11⟩
  have v0 := o7.cell 0
  have f0 := o7.frozen 0
  have v1 := o7.cell 1
  have f1 := o7.frozen 1
  have v2 := o7.cell 2
  have f2 := o7.frozen 2
  have v3 := o7.cell 3
  have f3 := o7.frozen 3
  have v4 := o7.cell 4
  have f4 := o7.frozen 4
  have v5 := o7.cell 5
  have f5 := o7.frozen 5
  have v6 := o7.cell 6
  have f6 := o7.frozen 6
  have v7 := o7.cell 7
  have f7 := o7.frozen 7
  have v8 := o7.cell 8
  have f8 := o7.frozen 8
  have v9 := o7.cell 9
  have f9 := o7.frozen 9
  have v10 := o7.cell 10
  have f10 := o7.frozen 10
  have v11 := o7.cell 11
  have f11 := o7.frozen 11
  have v12 := o7.cell 12
  have f12 := o7.frozen 12
  simp only [zt0, List.getElem?_toArray, List.getElem?_cons_zero, List.getElem?_cons_succ] at v0 v1 v2 v3 v4 v5 v6 v7 v8 v9 v10 v11 v12
  have hla := oD.out.lt
  have hne : w4.heap.size ≠ w.heap.size := by omega
  clear hb1 hb2 hb3 hb4 hb14 hRu4 hb04 hb5 o5 hb7 hb47 hb07 o7 hw5 hRu
  clear oD hRu7 hE
  go_wp2_with fail
  refine bodyPost_ret (v := .agg (task0 ra rb w4.heap.size ta tn tc).cs) ?hres rfl ⟨ra, rb, w4.heap.size, rfl, HF.out _ _ _ _ _ _ _ _ _ _ _ _ _⟩
  clear HF
  simp [results, Try.results39, go_sem, v0, v1, v2, v3, v4, v5, v6, v7, v8, v9, v10, v11, v12, task0]
end Go.Proofs.Ytanjkhclhcnnaaa
/- Mathematics of by: which test strikes. -/
namespace Go.Proofs.Ytanjkhclhcnnaaa
open Go.RowKit Go.Shelf

def keepT (r : RuA) (ts : List T3) (i : Nat) : T2 := keepS r (ts.getD i (0, 0, 0)).2.1 (ts.getD i (0, 0, 0)).2.2
def nextFold (r : RuA) (ss : List T2) (p : T2) (ms : List Nat) : T2 := ms.foldl (fun p m => nextS r (ss.getD m (0, 0)) p) p
/-- Is a test struck by a former one? -/
def stopB (r : RuA) (ss : List T2) (ts : List T3) (mor : Nat → Nat) (z i : Nat) : Bool :=
  !decide (max (nextFold r ss (keepT r ts i) (List.range' (mor i) (mor z - mor i))).1 (keepT r ts z).1 ≤ min (nextFold r ss (keepT r ts i) (List.range' (mor i) (mor z - mor i))).2 (keepT r ts z).2)

/-- Levels at both ends. -/
structure InSp (p : T2) : Prop where
  a : 0 ≤ p.1 ∧ p.1 ≤ 1000000
  b : 0 ≤ p.2 ∧ p.2 ≤ 1000000
theorem next_in {r : RuA} {hs ws : List T2} (h : RuOK r hs ws) {s p : T2} (hs' : StrOK s) (hp : InSp p) : InSp (nextS r s p) := by
  have g1 := (h.gain_bd hp.a.1 hp.a.2 hs'.lo (by have := hs'.le; have := hs'.hi; omega)).2.2.1
  have g2 := (h.gain_bd hp.b.1 hp.b.2 (by have := hs'.le; have := hs'.lo; omega) hs'.hi).2.2.1
  have a1 := hp.a.1
  have b1 := hp.b.1
  refine ⟨⟨?_, ?_⟩, ⟨?_, ?_⟩⟩
  · show 0 ≤ leastS r s.1 p.1; unfold leastS; omega
  · show leastS r s.1 p.1 ≤ 1000000; unfold leastS; omega
  · show 0 ≤ mostS r s.2 p.2; unfold mostS; omega
  · show mostS r s.2 p.2 ≤ 1000000; unfold mostS; omega
theorem grS_bd {r : RuA} {hs ws : List T2} (h : RuOK r hs ws) (i : Int) : 1 ≤ grS r i ∧ grS r i ≤ 1000000 := by
  obtain ⟨a, b, c, d⟩ := h.g
  unfold grS
  split
  · omega
  · split <;> omega
theorem keep_in {r : RuA} {hs ws : List T2} (h : RuOK r hs ws) (g e : Int) : InSp (keepS r g e) := by
  have h1 := grS_bd h (g - e - 1)
  have h2 := grS_bd h (g + e)
  refine ⟨⟨?_, ?_⟩, ⟨?_, ?_⟩⟩
  all_goals (unfold keepS; simp only; split <;> omega)

def intsL (L : List Nat) : List Int := L.map fun (i : Nat) => (i : Int)
theorem intsL_getD (L : List Nat) (i : Nat) : (intsL L).getD i 0 = ((L.getD i 0 : Nat) : Int) := by
  unfold intsL
  simp only [List.getD, List.getElem?_map]
  cases L[i]? <;> rfl
theorem getD_mem {L : List Nat} {i : Nat} (h : i < L.length) : L.getD i 0 ∈ L := by
  have e : L.getD i 0 = L[i] := by simp [List.getD, h]
  rw [e]; exact List.getElem_mem h
/-- A list from behind, by what has come. -/
theorem rev_take {L : List Nat} {n : Nat} (h : L.length = n) : L.reverse = (List.finRange n).map fun x => L.getD (n - 1 - x.val) 0 := by
  subst h
  apply List.ext_getElem
  · simp
  · intro i h1 h2
    simp at h1
    have h3 : L.length - 1 - i < L.length := by omega
    simp [List.getD, h3]
theorem find_none {p : Nat → Bool} {L : List Nat} {n : Nat} (h : L.length = n) (hs : ∀ x ∈ List.finRange n, p (L.getD (n - 1 - x.val) 0) = false) : L.reverse.find? p = none := by
  rw [rev_take h, List.find?_map]
  rw [Option.map_eq_none_iff, List.find?_eq_none]
  intro x hx
  simpa using hs x hx
theorem find_at {p : Nat → Bool} {L : List Nat} {n : Nat} (h : L.length = n) {pre : List (Fin n)} {x : Fin n} (hp : pre ++ [x] <+: List.finRange n) (hs : ∀ y ∈ pre, p (L.getD (n - 1 - y.val) 0) = false) (hx : p (L.getD (n - 1 - x.val) 0) = true) : L.reverse.find? p = some (L.getD (n - 1 - x.val) 0) := by
  obtain ⟨post, hpost⟩ := hp
  rw [rev_take h, ← hpost, List.map_append, List.map_append, List.find?_append, List.find?_append]
  have h1 : (pre.map fun x => L.getD (n - 1 - x.val) 0).find? p = none := by
    rw [List.find?_map, Option.map_eq_none_iff, List.find?_eq_none]
    intro y hy
    simpa using hs y hy
  rw [h1]
  simp only [List.map_cons, List.map_nil, Option.none_or]
  rw [List.find?_cons_of_pos hx]
  rfl
/-- The last one of the former tests by which a test is struck, or -1. -/
def byS (r : RuA) (ss : List T2) (ts : List T3) (mor : Nat → Nat) (z : Nat) (L : List Nat) : Int := match L.reverse.find? (stopB r ss ts mor z) with | some i => (i : Int) | none => -1
theorem byS_none {r : RuA} {ss : List T2} {ts : List T3} {mor : Nat → Nat} {z : Nat} {L : List Nat} {n : Nat} (h : L.length = n) (hs : ∀ x ∈ List.finRange n, stopB r ss ts mor z (L.getD (n - 1 - x.val) 0) = false) : byS r ss ts mor z L = -1 := by
  unfold byS; rw [find_none h hs]
theorem byS_at {r : RuA} {ss : List T2} {ts : List T3} {mor : Nat → Nat} {z : Nat} {L : List Nat} {n : Nat} (h : L.length = n) {pre : List (Fin n)} {x : Fin n} (hp : pre ++ [x] <+: List.finRange n) (hs : ∀ y ∈ pre, stopB r ss ts mor z (L.getD (n - 1 - y.val) 0) = false) (hx : stopB r ss ts mor z (L.getD (n - 1 - x.val) 0) = true) : byS r ss ts mor z L = (L.getD (n - 1 - x.val) 0 : Nat) := by
  unfold byS; rw [find_at h hp hs hx]
end Go.Proofs.Ytanjkhclhcnnaaa
/- by: the walk. -/
namespace Go.Proofs.Ytanjkhclhcnnaaa
open Go.RowKit Go.Shelf
attribute [local go_sem] Oper.semAt_some

/-- Ends within the levels stay so. -/
theorem fold_in {r : RuA} {hs ws : List T2} (h : RuOK r hs ws) {ss : List T2} {N : Nat} (hss : ss.length = N) (hst : ∀ s ∈ ss, StrOK s) : ∀ (ms : List Nat) (p : T2), InSp p → (∀ m ∈ ms, m < N) → InSp (nextFold r ss p ms)
  | [], _, hp, _ => hp
  | m :: ms, p, hp, hm => by
    unfold nextFold
    rw [List.foldl_cons]
    exact fold_in h hss hst ms _ (next_in h (hst _ (getD_lt (by have := hm m (by simp); omega))) hp) (fun x hx => hm x (by simp [hx]))
theorem range_fin (a : Nat) : ∀ n : Nat, List.range' a n = (List.finRange n).map fun y => a + y.val := fun n => by
  apply List.ext_getElem
  · simp
  · intro i h1 h2
    simp
def KJ (Wd : World) (g : Nat) (u v : Int) (k : Nat) (outs : Nat → Value) (W : World) : Prop :=
  (1 ≤ k → outs 0 = .agg #[.int .i64 u, .int .i64 v]) ∧ (k ≤ 1 → Below Wd.heap.size Wd W) ∧ (k = 2 → ∃ W1, Below Wd.heap.size Wd W1 ∧ W = (W1.setCell ⟨g, 0, none⟩ (.int .i64 u)).setCell ⟨g, 1, none⟩ (.int .i64 v))
def jneed : Nat → Nat := fun i => [0, 0, 0, 0, 0, 0, 0, 0, 0, 1].getD i 0
def jtill : Nat → Nat := fun i => [1, 1, 1, 1, 1, 1, 1, 1, 0, 1].getD i 0
def jeff : Nat → Bool := fun i => [false, false, false, false, false, false, false, false, true, true].getD i false
def JV (T1 : Nat) (rc : Array Value) (sv : Value) (m sb so : Nat) (s n : T2) (outs : Nat → Value) : Nat → Value
  | 33 => .pointer (some ⟨T1, 0, none⟩)
  | 34 => .agg rc
  | 35 => .pointer (some ⟨T1, 9, none⟩)
  | 36 => sv
  | 37 => .int .i64 m
  | 38 => .pointer (some ⟨sb, so + m * 2, none⟩)
  | 39 => .agg #[.int .i64 s.1, .int .i64 s.2]
  | 40 => .agg #[.int .i64 n.1, .int .i64 n.2]
  | 41 => outs 0
  | _ => undef

set_option maxRecDepth 100000 in
set_option maxHeartbeats 8000000 in
theorem by_any (t : TkA) (hs ws : List T2) (sa : Option Addr) (sc N : Nat) (ss : List T2) (ts : List T3) (mor : Nat → Nat) (ka : Option Addr) (kn kc b o : Nat) (L : List Nat) (z : Nat) (w : World) (hO : RuOK t.r hs ws) (hN : N ≤ 1000) (hsl : Sl2 w sa N ss) (hst : ∀ s ∈ ss, StrOK s)
    (hT : Sl3 w t.ta t.tn ts) (htn : t.tn ≤ 1000) (hge : ∀ i, i < t.tn → 0 ≤ (ts.getD i (0, 0, 0)).2.1 ∧ (ts.getD i (0, 0, 0)).2.1 ≤ 3 ∧ 0 ≤ (ts.getD i (0, 0, 0)).2.2 ∧ (ts.getD i (0, 0, 0)).2.2 ≤ 3)
    (hmo : ∀ i, i < t.tn → (ts.getD i (0, 0, 0)).1 - t.first = (mor i : Int) ∧ mor i ≤ N) (hz : z < t.tn) (hL : ∀ i ∈ L, i < t.tn ∧ mor i ≤ mor z) (hkn : L.length = kn) (hk1 : kn ≤ 1000)
    (hka : 0 < kn → ka = some ⟨b, o, none⟩) (hkb : b < w.heap.size) (hkc : ∀ i, i < kn → w.cell? ⟨b, o + i, none⟩ = some (.int .i64 (L.getD i 0 : Nat))) :
    Calls Try.prog 112 #[.agg (t.xc (.slice sa N sc)), .slice ka kn kc, .int .i64 z] w fun e w' => e = .returned (.int .i64 (byS t.r ss ts mor z L)) ∧ Below w.heap.size w w' := by
  obtain ⟨W2, hW2⟩ : ∃ W2, ((w.alloc (.cells (t.xc (.slice sa N sc)) 104)).alloc (.cells #[.int .i64 z] 3)).alloc (.cells #[.int .i64 0] 3) = W2 := ⟨_, rfl⟩
  have hb2 : Below w.heap.size w W2 := by rw [← hW2]; exact B_alloc (B_alloc (B_alloc (Below.refl _ _) _) _) _
  have z2 : W2.heap.size = w.heap.size + 1 + 1 + 1 := by rw [← hW2]; simp
  have hT2 : Ob W2 w.heap.size 104 (t.xc (.slice sa N sc)) := by rw [← hW2]; exact ((Ob.new w _ _).alloc _).alloc _
  have hZ2 : Ob W2 (w.heap.size + 1) 3 #[.int .i64 z] := by
    rw [← hW2]
    have h := (Ob.new (w.alloc (.cells (t.xc (.slice sa N sc)) 104)) #[.int .i64 z] 3).alloc (.cells #[.int .i64 0] 3)
    rw [World.size_alloc] at h
    exact h
  have hR2 : Ob W2 (w.heap.size + 1 + 1) 3 #[.int .i64 0] := by
    rw [← hW2]
    have h := Ob.new ((w.alloc (.cells (t.xc (.slice sa N sc)) 104)).alloc (.cells #[.int .i64 z] 3)) #[.int .i64 0] 3
    rw [World.size_alloc, World.size_alloc] at h
    exact h
  replace hb2 := Lib.hid hb2
  replace hT2 := Lib.hid hT2
  replace hZ2 := Lib.hid hZ2
  replace hR2 := Lib.hid hR2
  replace hW2 := Lib.hid hW2
  refine (callsIn_wide (n := 12)).1 ?_
  refine callsIn_of_wp_marks Try.func112 rfl trivial ?_ rfl
  simp only [Try.ntmps112, List.size_toArray, List.length_cons, List.length_nil, Nat.reduceAdd, Nat.reduceSub, Array.replicate_succ, Array.replicate_zero, List.push_toArray, List.append_toArray, List.nil_append, List.cons_append]
  gi_wp2_with fail
  rw [hW2.out]
  refine ⟨trivial, (backS_in Fence.wide 11 trivial rfl ka kn kc W2).mono ?_⟩
  rintro e W5 ⟨rfl, hW5⟩
  have hb5 : Below W2.heap.size W2 W5 := by rw [hW5]; exact B_alloc (Below.refl _ _) _
  have z5 : W5.heap.size = W2.heap.size + 1 := by rw [hW5]; simp
  have d0 : W5.cell? ⟨W2.heap.size, 0, none⟩ = some (.slice ka kn kc) := by rw [hW5]; simp [go_sem]
  have I0 : Hid (Ob W5 w.heap.size 104 (t.xc (.slice sa N sc)) ∧ Ob W5 (w.heap.size + 1) 3 #[.int .i64 z] ∧ Ob W5 (w.heap.size + 1 + 1) 3 #[.int .i64 0] ∧ Below w.heap.size w W5) := ⟨hT2.out.below hb5, hZ2.out.below hb5, hR2.out.below hb5, B_trans hb2.out hb5⟩
  have hkc5 := fun i hi => (I0.out.2.2.2.cell (p := ⟨b, o + i, none⟩) hkb).trans (hkc i hi)
  clear hW5 hb5 hW2 hb2 hT2 hZ2 hR2
  rw [z2] at z5 d0 ⊢
  obtain ⟨F0, hF0⟩ : ∃ F0, w.heap.size + 1 + 1 + 1 = F0 := ⟨_, rfl⟩
  rw [hF0] at z5 d0 ⊢
  have hF : w.heap.size + 1 + 1 < F0 := by omega
  clear hF0 z2
  gi_wp2_with fail
  refine wpIn_rangeFunc_ownH rfl (by omega) (gf := 125) (lb := #[.pointer (some ⟨F0, 0, none⟩)]) rfl trivial (enters_of Try.func125 (by kernel_rfl) rfl) (backS_stops Fence.wide 11 trivial rfl (by omega) F0 b o kn kc ka (intsL L) (by omega) hka W5 (by omega) (fun _ => by omega) d0 (fun i hi => by rw [intsL_getD]; exact hkc5 i hi)) KB2.trans (fun W l o o' h1 _ _ _ => KB2.put (n := W5.heap.size) (by omega) (by omega) W l o' h1) (Below.refl _ _) (fun _ => rfl)
    (fun pre W => Ob W w.heap.size 104 (t.xc (.slice sa N sc)) ∧ Ob W (w.heap.size + 1) 3 #[.int .i64 z] ∧ Ob W (w.heap.size + 1 + 1) 3 #[.int .i64 0] ∧ Below w.heap.size w W ∧ F0 < W.heap.size ∧ ∀ y ∈ pre, stopB t.r ss ts mor z (L.getD (kn - 1 - y.val) 0) = false)
    (fun c pre W => c = Code.ret ∧ ∃ pre' x, pre = pre' ++ [x] ∧ (∀ y ∈ pre', stopB t.r ss ts mor z (L.getD (kn - 1 - y.val) 0) = false) ∧ stopB t.r ss ts mor z (L.getD (kn - 1 - x.val) 0) = true ∧ Ob W (w.heap.size + 1 + 1) 3 #[.int .i64 (L.getD (kn - 1 - x.val) 0 : Nat)] ∧ Below w.heap.size w W)
    ?own ?ownx ⟨I0.out.1, I0.out.2.1, I0.out.2.2.1, I0.out.2.2.2, by omega, fun y hy => by cases hy⟩ (fun x a' _ => a' = { tmps := #[.agg (t.xc (.slice sa N sc)), .slice ka kn kc, .int .i64 z, .pointer (some ⟨w.heap.size, 0, none⟩), undef, .pointer (some ⟨w.heap.size + 1, 0, none⟩), .pointer (some ⟨w.heap.size + 1 + 1, 0, none⟩), undef, .int .i64 ((intsL L)[kn - 1 - x.val]?.getD 0), undef, undef, undef, undef, .slice ka kn kc, .func (.func 125) #[] #[.pointer (some ⟨F0, 0, none⟩)], .int .i64 ((kn : Int) - 1 - x.val), .int .i64 ((intsL L)[kn - 1 - x.val]?.getD 0), undef, undef, undef, undef, undef, undef, undef, undef, undef, undef, undef, undef, undef, undef, undef, undef, undef, undef, undef, undef, undef, undef, undef, undef, undef, undef, undef, undef, undef, undef, undef, undef, undef, undef, undef, undef, undef, undef, undef, undef, undef], defers := [] }) ?ax ?assign ?body ?done ?stop
  case own =>
    rintro pre W W' row ⟨h1, h2, h3, h4, h5, h6⟩ hgr hr
    exact ⟨h1.own hgr (fun r e => (hr r e).2), h2.own hgr (fun r e => (hr r e).2), h3.own hgr (fun r e => (hr r e).2), below_own h4 (Nat.le_refl _) hgr (fun r e => by have := (hr r e).1; omega), Nat.lt_of_lt_of_le h5 hgr.size, h6⟩
  case ownx =>
    rintro c pre W W' row ⟨h0, pre', x, h1, h2, h3, h4, h5⟩ hgr hr
    exact ⟨h0, pre', x, h1, h2, h3, h4.own hgr (fun r e => (hr r e).2), below_own h5 (Nat.le_refl _) hgr (fun r e => by have := (hr r e).1; omega)⟩
  case ax =>
    intro x a' s W W' row hs _ _
    dsimp only at hs ⊢
    exact hs
  case assign =>
    intro l pre x W K hi hK
    gi_wp2
    exact hK _ _ (KeepsFrom.refl _ _) (KB2.refl _ _ _) hi rfl
  case body =>
    rintro l pre x a' Wb hl ⟨rec, hrec⟩ ⟨h1, h2, h3, h4, h5, h6⟩ rfl hlen
    have hxk : kn - 1 - x.val < L.length := by omega
    have hf := hL _ (getD_mem hxk)
    have hgf : (intsL L)[kn - 1 - x.val]?.getD 0 = ((L.getD (kn - 1 - x.val) 0 : Nat) : Int) := intsL_getD L _
    rw [hgf]
    clear hgf
    generalize hfe' : L.getD (kn - 1 - x.val) 0 = f at hf ⊢
    have hfe := Lib.hid hfe'
    clear hfe'
    have hTb := hT.below h4
    obtain ⟨tb, tj, hta, htb, hcc⟩ := hTb.at_ (by omega)
    have hmf := hmo f hf.1
    have hmz := hmo z hz
    have HM1 : Hid (∀ W', Below Wb.heap.size Wb W' → Calls Try.prog 109 #[.agg #[.slice t.r.ha t.r.hn t.r.hc, .slice t.r.wa t.r.wn t.r.wc, .int .i64 t.r.own, .int .i64 t.r.feed, .int .i64 t.r.g0, .int .i64 t.r.g1, .int .i64 t.r.g2, .int .i64 t.r.lost, .int .i64 t.first, .slice sa N sc, .int .i64 t.lo, .int .i64 t.hi, .slice (some ⟨tb, tj, none⟩) t.tn t.tc], .int .i64 f] W' fun e w' => e = .returned (.int .i64 (mor f : Nat)) ∧ Below W'.heap.size W' w') := fun W' hh => by
      have h := morning_any t (.slice sa N sc) #[.slice t.r.ha t.r.hn t.r.hc, .slice t.r.wa t.r.wn t.r.wc, .int .i64 t.r.own, .int .i64 t.r.feed, .int .i64 t.r.g0, .int .i64 t.r.g1, .int .i64 t.r.g2, .int .i64 t.r.lost, .int .i64 t.first, .slice sa N sc, .int .i64 t.lo, .int .i64 t.hi, .slice (some ⟨tb, tj, none⟩) t.tn t.tc] ts f W' (hTb.below hh) hf.1 htn (by rw [hta]) (by omega) (by omega)
      rwa [hmf.1] at h
    have HM2 : Hid (∀ W', Below Wb.heap.size Wb W' → Calls Try.prog 109 #[.agg #[.slice t.r.ha t.r.hn t.r.hc, .slice t.r.wa t.r.wn t.r.wc, .int .i64 t.r.own, .int .i64 t.r.feed, .int .i64 t.r.g0, .int .i64 t.r.g1, .int .i64 t.r.g2, .int .i64 t.r.lost, .int .i64 t.first, .slice sa N sc, .int .i64 t.lo, .int .i64 t.hi, .slice (some ⟨tb, tj, none⟩) t.tn t.tc], .int .i64 z] W' fun e w' => e = .returned (.int .i64 (mor z : Nat)) ∧ Below W'.heap.size W' w') := fun W' hh => by
      have h := morning_any t (.slice sa N sc) #[.slice t.r.ha t.r.hn t.r.hc, .slice t.r.wa t.r.wn t.r.wc, .int .i64 t.r.own, .int .i64 t.r.feed, .int .i64 t.r.g0, .int .i64 t.r.g1, .int .i64 t.r.g2, .int .i64 t.r.lost, .int .i64 t.first, .slice sa N sc, .int .i64 t.lo, .int .i64 t.hi, .slice (some ⟨tb, tj, none⟩) t.tn t.tc] ts z W' (hTb.below hh) hz htn (by rw [hta]) (by omega) (by omega)
      rwa [hmz.1] at h
    have HFw := Lib.hid (fun W' (p q : Int) => callsIn_wide.1 (forward_in Fence.wide 1 trivial rfl p q W'))
    obtain ⟨v0', v1', v2'⟩ := hcc z hz
    have hgz := hge z hz
    have HZ := Lib.hid (fun (W' : World) (hh : Below Wb.heap.size Wb W') => (show W'.cell? ⟨tb, tj + z * 3, none⟩ = some (.int .i64 (ts.getD z (0, 0, 0)).1) ∧ W'.cell? ⟨tb, tj + z * 3 + 1, none⟩ = some (.int .i64 (ts.getD z (0, 0, 0)).2.1) ∧ W'.cell? ⟨tb, tj + z * 3 + 2, none⟩ = some (.int .i64 (ts.getD z (0, 0, 0)).2.2) from ⟨(hh.cell (p := ⟨tb, _, none⟩) htb).trans v0', (hh.cell (p := ⟨tb, _, none⟩) htb).trans v1', (hh.cell (p := ⟨tb, _, none⟩) htb).trans v2'⟩))
    have HKz : Hid (∀ W', Calls Try.prog 111 #[.agg t.r.cs, .agg #[.int .i64 (ts.getD z (0, 0, 0)).1, .int .i64 (ts.getD z (0, 0, 0)).2.1, .int .i64 (ts.getD z (0, 0, 0)).2.2]] W' fun e' w' => e' = .returned (.agg #[.int .i64 (keepT t.r ts z).1, .int .i64 (keepT t.r ts z).2]) ∧ Below W'.heap.size W' w') := fun W' => keeping_any t.r hs ws _ _ _ W' hO ⟨hgz.1, hgz.2.1⟩ ⟨hgz.2.2.1, hgz.2.2.2⟩
    clear v0' v1' v2' hgz
    obtain ⟨y0, y1, y2⟩ := hcc f hf.1
    have hgg := hge f hf.1
    have hkpe : ∃ kp, Hid (keepT t.r ts f = kp) := ⟨_, rfl⟩
    obtain ⟨kp, hkpe⟩ := hkpe
    have hkp2 : keepS t.r (ts.getD f (0, 0, 0)).2.1 (ts.getD f (0, 0, 0)).2.2 = kp := hkpe.out
    generalize ts.getD f (0, 0, 0) = xx at y0 y1 y2 hgg hkp2
    obtain ⟨x0, x1, x2⟩ := xx
    simp only at y0 y1 y2 hgg hkp2
    have HKp := Lib.hid (fun W' => keeping_any t.r hs ws x0 x1 x2 W' hO ⟨hgg.1, hgg.2.1⟩ ⟨hgg.2.2.1, hgg.2.2.2⟩)
    have hin := keep_in hO x1 x2
    rw [hkp2] at HKp hin
    clear hkp2
    have HS := Lib.hid (fun (W' : World) (hh : Below Wb.heap.size Wb W') => (show W'.cell? ⟨w.heap.size, 0, none⟩ = some (.slice t.r.ha t.r.hn t.r.hc) ∧ W'.cell? ⟨w.heap.size, 1, none⟩ = some (.slice t.r.wa t.r.wn t.r.wc) ∧ W'.cell? ⟨w.heap.size, 2, none⟩ = some (.int .i64 t.r.own) ∧ W'.cell? ⟨w.heap.size, 3, none⟩ = some (.int .i64 t.r.feed) ∧ W'.cell? ⟨w.heap.size, 4, none⟩ = some (.int .i64 t.r.g0) ∧ W'.cell? ⟨w.heap.size, 5, none⟩ = some (.int .i64 t.r.g1) ∧ W'.cell? ⟨w.heap.size, 6, none⟩ = some (.int .i64 t.r.g2) ∧ W'.cell? ⟨w.heap.size, 7, none⟩ = some (.int .i64 t.r.lost) ∧ W'.cell? ⟨w.heap.size, 8, none⟩ = some (.int .i64 t.first) ∧ W'.cell? ⟨w.heap.size, 9, none⟩ = some (.slice sa N sc) ∧ W'.cell? ⟨w.heap.size, 10, none⟩ = some (.int .i64 t.lo) ∧ W'.cell? ⟨w.heap.size, 11, none⟩ = some (.int .i64 t.hi) ∧ W'.cell? ⟨w.heap.size, 12, none⟩ = some (.slice (some ⟨tb, tj, none⟩) t.tn t.tc) ∧ W'.cell? ⟨tb, tj + f * 3, none⟩ = some (.int .i64 x0) ∧ W'.cell? ⟨tb, tj + f * 3 + 1, none⟩ = some (.int .i64 x1) ∧ W'.cell? ⟨tb, tj + f * 3 + 2, none⟩ = some (.int .i64 x2) ∧ W'.cell? ⟨w.heap.size + 1, 0, none⟩ = some (.int .i64 z) from ⟨(hh.cell (p := ⟨w.heap.size, _, none⟩) h1.lt).trans (h1.cell 0), (hh.cell (p := ⟨w.heap.size, _, none⟩) h1.lt).trans (h1.cell 1), (hh.cell (p := ⟨w.heap.size, _, none⟩) h1.lt).trans (h1.cell 2), (hh.cell (p := ⟨w.heap.size, _, none⟩) h1.lt).trans (h1.cell 3), (hh.cell (p := ⟨w.heap.size, _, none⟩) h1.lt).trans (h1.cell 4), (hh.cell (p := ⟨w.heap.size, _, none⟩) h1.lt).trans (h1.cell 5), (hh.cell (p := ⟨w.heap.size, _, none⟩) h1.lt).trans (h1.cell 6), (hh.cell (p := ⟨w.heap.size, _, none⟩) h1.lt).trans (h1.cell 7), (hh.cell (p := ⟨w.heap.size, _, none⟩) h1.lt).trans (h1.cell 8), (hh.cell (p := ⟨w.heap.size, _, none⟩) h1.lt).trans (h1.cell 9), (hh.cell (p := ⟨w.heap.size, _, none⟩) h1.lt).trans (h1.cell 10), (hh.cell (p := ⟨w.heap.size, _, none⟩) h1.lt).trans (h1.cell 11), (hh.cell (p := ⟨w.heap.size, _, none⟩) h1.lt).trans ((h1.cell 12).trans (show some (Value.slice t.ta t.tn t.tc) = _ by rw [hta])), (hh.cell (p := ⟨tb, _, none⟩) htb).trans y0, (hh.cell (p := ⟨tb, _, none⟩) htb).trans y1, (hh.cell (p := ⟨tb, _, none⟩) htb).trans y2, (hh.cell (p := ⟨w.heap.size + 1, _, none⟩) h2.lt).trans (h2.cell 0)⟩))
    have a1 : (0 : Int) ≤ f := by omega
    have a2 : (f : Int) < t.tn := by have := hf.1; omega
    have hsum := Lib.hid (show Ob Wb w.heap.size 104 (t.xc (.slice sa N sc)) ∧ Ob Wb (w.heap.size + 1) 3 #[.int .i64 z] ∧ Ob Wb (w.heap.size + 1 + 1) 3 #[.int .i64 0] ∧ Below w.heap.size w Wb from ⟨h1, h2, h3, h4⟩)
    clear h1 h2 h3 h4 y0 y1 y2 hcc hTb hmf hmz
    gi_wp2_with fail
    rename_i K ha
    have HC : ∀ (b9 : Nat) (W9 : World), Wb.heap.size ≤ b9 → Ob W9 b9 28 #[.int .i64 kp.1, .int .i64 kp.2] → Below Wb.heap.size Wb W9 → K { tmps := #[.agg (t.xc (.slice sa N sc)), .slice ka kn kc, .int .i64 z, .pointer (some ⟨w.heap.size, 0, none⟩), undef, .pointer (some ⟨w.heap.size + 1, 0, none⟩), .pointer (some ⟨w.heap.size + 1 + 1, 0, none⟩), undef, .int .i64 f, .pointer (some ⟨b9, 0, none⟩), undef, undef, undef, .slice ka kn kc, .func (.func 125) #[] #[.pointer (some ⟨F0, 0, none⟩)], .int .i64 ((kn : Int) - 1 - x.val), .int .i64 f, .pointer (some ⟨w.heap.size, 0, none⟩), .agg #[.slice t.r.ha t.r.hn t.r.hc, .slice t.r.wa t.r.wn t.r.wc, .int .i64 t.r.own, .int .i64 t.r.feed, .int .i64 t.r.g0, .int .i64 t.r.g1, .int .i64 t.r.g2, .int .i64 t.r.lost], .pointer (some ⟨w.heap.size, 12, none⟩), .slice (some ⟨tb, tj, none⟩) t.tn t.tc, .int .i64 f, .pointer (some ⟨tb, tj + f * 3, none⟩), .agg #[.int .i64 x0, .int .i64 x1, .int .i64 x2], .agg #[.int .i64 kp.1, .int .i64 kp.2], undef, undef, undef, undef, undef, undef, undef, undef, undef, undef, undef, undef, undef, undef, undef, undef, undef, undef, undef, undef, undef, undef, undef, undef, undef, undef, undef, undef, undef, undef, undef, undef, undef], defers := [] } W9 := by
      intro b9 W9 hb9 o9 hB9
      refine ha _ _ ?_
      clear ha HKp
      gi_wp2_with fail
      rename_i K2 ha2
      refine wpIn_region_held (S := fun W => Below W9.heap.size W9 W) (by kernel_rfl) (by kernel_rfl) ((Below.refl _ W9).drew) (fun hHeld => ?_)
      refine wpAnyH_take (i := 0) (v := ?_) rfl (by kernel_rfl) (by kernel_rfl) (by kernel_rfl) (fun _ _ _ h => Only.not_panic h) (Or.inl ⟨by rfl, fun W hW => ?_⟩) (by assumption) ?_
      rotate_left
      · have hW2 := hW
        obtain ⟨f0, f1, f2, f3, f4, f5, f6, f7, f8, f9, f10, f11, f12, f13, f14, f15, f16⟩ := HS.out W (B_trans hB9 hW2)
        clear hW hW2
        go_simp
        try with_reducible rfl
      try simp only [Act.put, List.setIfInBounds_toArray]
      refine wpAnyH_take (i := 1) (v := ?_) rfl (by kernel_rfl) (by kernel_rfl) (by kernel_rfl) (fun _ _ _ h => Only.not_panic h) (Or.inl ⟨by rfl, fun W hW => ?_⟩) (by assumption) ?_
      rotate_left
      · have hW2 := hW
        obtain ⟨f0, f1, f2, f3, f4, f5, f6, f7, f8, f9, f10, f11, f12, f13, f14, f15, f16⟩ := HS.out W (B_trans hB9 hW2)
        clear hW hW2
        go_simp
        try with_reducible rfl
      try simp only [Act.put]
      refine wpAnyH_take (i := 3) (v := ?_) rfl (by kernel_rfl) (by kernel_rfl) (by kernel_rfl) (fun _ _ _ h => Only.not_panic h) (Or.inl ⟨by rfl, fun W hW => ?_⟩) (by assumption) ?_
      rotate_left
      · have hW2 := hW
        obtain ⟨f0, f1, f2, f3, f4, f5, f6, f7, f8, f9, f10, f11, f12, f13, f14, f15, f16⟩ := HS.out W (B_trans hB9 hW2)
        clear hW hW2
        go_simp
        try with_reducible rfl
      try simp only [Act.put]
      refine wpAnyH_take (i := 4) (v := ?_) rfl (by kernel_rfl) (by kernel_rfl) (by kernel_rfl) (fun _ _ _ h => Only.not_panic h) (Or.inl ⟨by rfl, fun W hW => ?_⟩) (by assumption) ?_
      rotate_left
      · have hW2 := hW
        obtain ⟨f0, f1, f2, f3, f4, f5, f6, f7, f8, f9, f10, f11, f12, f13, f14, f15, f16⟩ := HS.out W (B_trans hB9 hW2)
        clear hW hW2
        go_simp
        try with_reducible rfl
      try simp only [Act.put]
      refine wpAnyH_ready (rs := [2]) (by kernel_rfl) (by simp) ?_
      refine AllReadyH.cons rfl (fun K hK => ?_) ?_
      · go_simp
        refine (HM1.out _ (B_trans hB9 hHeld)).mono ?_
        rintro e w2 ⟨rfl, hb2⟩
        try simp only []
        refine hK.out _ _ ?_ (fun hHeld => ?_)
        · exact B_trans hHeld hb2
        clear hK K
        try simp only [Act.put, List.setIfInBounds_toArray, List.set_cons_zero, List.set_cons_succ]
        refine wpAnyH_ready (rs := [5]) (by kernel_rfl) (by simp) ?_
        refine AllReadyH.cons rfl (fun K hK => ?_) ?_
        · go_simp
          refine (HM2.out _ (B_trans hB9 hHeld)).mono ?_
          rintro e w5 ⟨rfl, hb5⟩
          try simp only []
          refine hK.out _ _ ?_ (fun hHeld => ?_)
          · exact B_trans hHeld hb5
          clear hK K
          try simp only [Act.put, List.setIfInBounds_toArray, List.set_cons_zero, List.set_cons_succ]
          refine wpAnyH_ready (rs := [6]) (by kernel_rfl) (by simp) ?_
          refine AllReadyH.cons rfl (fun K hK => ?_) ?_
          · go_simp
            refine (HFw.out _ _ _).mono ?_
            rintro e w6 ⟨rfl, hw6⟩
            try simp only []
            have hpre := hHeld
            refine hK.out _ _ ?_ (fun hHeld => ?_)
            · rw [hw6]; exact B_alloc (B_alloc hHeld _) _
            clear hK K
            try simp only [Act.put, List.setIfInBounds_toArray, List.set_cons_zero, List.set_cons_succ]
            refine wpAnyH_done (by kernel_rfl) (Only.mk ?_) _
            refine ha2 _ _ ?_
            have hz6 : w6.heap.size = w5.heap.size + 1 + 1 := by rw [hw6]; simp
            have hb6 := B_trans hB9 hHeld
            have o6 := o9.below hHeld
            have hG9 := hpre.size
            have hG8 := o9.lt
            have hG7 := hB9.size
            have e0 : w6.cell? ⟨w5.heap.size, 0, none⟩ = some (.int .i64 (mor f : Nat)) := by rw [hw6, alloc_old _ _ _ _ (by simp)]; simp [go_sem]
            have e1 : w6.cell? ⟨w5.heap.size + 1, 0, none⟩ = some (.int .i64 (mor z : Nat)) := by rw [hw6]; simp
            have hlr := (Array.getElem?_eq_some_iff.1 hrec).1
            have hrl : w6.heap[l]? = some (.loop rec) := (hb6.block l hlr).trans hrec
            have hmz := hmo z hz
            clear hw6 hpre hHeld hb2 hb5 HM1 HM2 HFw ha2
            generalize w5.heap.size = G at hz6 hG9 e0 e1 ⊢
            gi_wp2_with fail
            refine wpIn_rangeFunc_ownN (l₀ := l) (r₀ := rec) rfl hrl (by omega) (gf := 87) (lb := #[.pointer (some ⟨G, 0, none⟩), .pointer (some ⟨G + 1, 0, none⟩)]) rfl trivial (enters_of Try.func87 (by kernel_rfl) rfl) (SeqStopsK.inRound l (forward_stops Fence.wide _ trivial rfl (by omega) G (G + 1) (mor z - mor f) (mor f : Nat) (mor z : Nat) (by have := hf.2; omega) (by omega) (by omega) (by omega) w6 (by omega) (by omega) e0 e1)) KB2.trans (fun W l o o' h1 _ _ _ => KB2.put (n := w6.heap.size) (by omega) (by omega) W l o' h1) (Below.refl _ _) (fun _ => rfl)
              (fun pre W => Ob W b9 28 #[.int .i64 (nextFold t.r ss kp (pre.map fun y => mor f + y.val)).1, .int .i64 (nextFold t.r ss kp (pre.map fun y => mor f + y.val)).2] ∧ Below Wb.heap.size Wb W ∧ G + 1 < W.heap.size)
              (fun _ _ _ => False)
              ?own2 (fun _ _ _ _ _ hs _ _ => hs) ⟨by simpa [nextFold] using o6, hb6, by omega⟩ (fun y a' _ => a' = { tmps := #[.agg (t.xc (.slice sa N sc)), .slice ka kn kc, .int .i64 z, .pointer (some ⟨w.heap.size, 0, none⟩), undef, .pointer (some ⟨w.heap.size + 1, 0, none⟩), .pointer (some ⟨w.heap.size + 1 + 1, 0, none⟩), undef, .int .i64 f, .pointer (some ⟨b9, 0, none⟩), .int .i64 ((mor f : Int) + y.val), undef, undef, .slice ka kn kc, .func (.func 125) #[] #[.pointer (some ⟨F0, 0, none⟩)], .int .i64 ((kn : Int) - 1 - x.val), .int .i64 f, .pointer (some ⟨w.heap.size, 0, none⟩), .agg #[.slice t.r.ha t.r.hn t.r.hc, .slice t.r.wa t.r.wn t.r.wc, .int .i64 t.r.own, .int .i64 t.r.feed, .int .i64 t.r.g0, .int .i64 t.r.g1, .int .i64 t.r.g2, .int .i64 t.r.lost], .pointer (some ⟨w.heap.size, 12, none⟩), .slice (some ⟨tb, tj, none⟩) t.tn t.tc, .int .i64 f, .pointer (some ⟨tb, tj + f * 3, none⟩), .agg #[.int .i64 x0, .int .i64 x1, .int .i64 x2], .agg #[.int .i64 kp.1, .int .i64 kp.2], .agg #[.slice t.r.ha t.r.hn t.r.hc, .slice t.r.wa t.r.wn t.r.wc, .int .i64 t.r.own, .int .i64 t.r.feed, .int .i64 t.r.g0, .int .i64 t.r.g1, .int .i64 t.r.g2, .int .i64 t.r.lost, .int .i64 t.first, .slice sa N sc, .int .i64 t.lo, .int .i64 t.hi, .slice (some ⟨tb, tj, none⟩) t.tn t.tc], .int .i64 f, .int .i64 (mor f : Nat), .agg #[.slice t.r.ha t.r.hn t.r.hc, .slice t.r.wa t.r.wn t.r.wc, .int .i64 t.r.own, .int .i64 t.r.feed, .int .i64 t.r.g0, .int .i64 t.r.g1, .int .i64 t.r.g2, .int .i64 t.r.lost, .int .i64 t.first, .slice sa N sc, .int .i64 t.lo, .int .i64 t.hi, .slice (some ⟨tb, tj, none⟩) t.tn t.tc], .int .i64 z, .int .i64 (mor z : Nat), .func (.func 87) #[] #[.pointer (some ⟨G, 0, none⟩), .pointer (some ⟨G + 1, 0, none⟩)], .int .i64 ((mor f : Int) + y.val), undef, undef, undef, undef, undef, undef, undef, undef, undef, undef, undef, undef, undef, undef, undef, undef, undef, undef, undef, undef, undef, undef, undef, undef, undef], defers := [] }) ?ax2 ?assign2 ?body2 ?done2 ?stop2
            case own2 =>
              rintro pre W W' row ⟨h1, h2, h3⟩ hgr hr
              exact ⟨h1.own hgr (fun r e => (hr r e).2), below_own h2 (Nat.le_refl _) hgr (fun r e => by have := (hr r e).1; omega), Nat.lt_of_lt_of_le h3 hgr.size⟩
            case ax2 =>
              intro x a' s W W' row hs _ _
              dsimp only at hs ⊢
              exact hs
            case assign2 =>
              intro l pre x W K hi hK
              gi_wp2
              exact hK _ _ (KeepsFrom.refl _ _) (KB2.refl _ _ _) hi rfl
            case body2 =>
              rintro l2 pre y a' W hl2 ⟨rec2, hrec2⟩ ⟨g1, g2, g3⟩ rfl hlen
              obtain ⟨m, hm, hmm⟩ : ∃ m : Nat, ((mor f : Int) + y.val = m) ∧ m = mor f + y.val := ⟨mor f + y.val, by push_cast; rfl, rfl⟩
              have hmN : m < N := by have := y.isLt; have := hmz.2; omega
              have hstep : Hid (nextFold t.r ss kp ((pre ++ [y]).map fun y => mor f + y.val) = nextS t.r (ss.getD m (0, 0)) (nextFold t.r ss kp (pre.map fun y => mor f + y.val))) := by
                rw [Hid, hmm, List.map_append, List.map_cons, List.map_nil]; unfold nextFold; rw [List.foldl_append]; rfl
              have hpin := fold_in hO hsl.len hst (pre.map fun y => mor f + y.val) kp hin (fun q hq => by
                rw [List.mem_map] at hq
                obtain ⟨u, -, rfl⟩ := hq
                have := u.isLt; have := hmz.2; omega)
              generalize nextFold t.r ss kp (pre.map fun y => mor f + y.val) = cur at g1 hstep hpin
              obtain ⟨sb, so, hsa, hsb, hsc⟩ := (hsl.below (B_trans hsum.out.2.2.2 g2)).at_ (by omega)
              obtain ⟨s0, s1⟩ := hsc m hmN
              have es := hst _ (getD_lt (L := ss) (i := m) (by rw [hsl.len]; exact hmN))
              generalize ss.getD m (0, 0) = sm at s0 s1 es hstep
              have HN := Lib.hid (show ∀ W', Calls Try.prog 63 #[.agg t.r.cs, .agg #[.int .i64 sm.1, .int .i64 sm.2], .agg #[.int .i64 cur.1, .int .i64 cur.2]] W' fun e w' => e = .returned (.agg #[.int .i64 (nextS t.r sm cur).1, .int .i64 (nextS t.r sm cur).2]) ∧ Below W'.heap.size W' w' from fun W' => next_any t.r hs ws sm.1 sm.2 cur.1 cur.2 W' hO hpin.a hpin.b ⟨es.lo, by have := es.le; have := es.hi; omega⟩ ⟨by have := es.le; have := es.lo; omega, es.hi⟩)
              generalize hu : (nextS t.r sm cur).1 = u at HN
              generalize hv : (nextS t.r sm cur).2 = v at HN
              have hk := HS.out W g2
              have HK := Lib.hid (fun (W' : World) (hh : Below W.heap.size W W') => (show W'.cell? ⟨w.heap.size, 0, none⟩ = some (.slice t.r.ha t.r.hn t.r.hc) ∧ W'.cell? ⟨w.heap.size, 1, none⟩ = some (.slice t.r.wa t.r.wn t.r.wc) ∧ W'.cell? ⟨w.heap.size, 2, none⟩ = some (.int .i64 t.r.own) ∧ W'.cell? ⟨w.heap.size, 3, none⟩ = some (.int .i64 t.r.feed) ∧ W'.cell? ⟨w.heap.size, 4, none⟩ = some (.int .i64 t.r.g0) ∧ W'.cell? ⟨w.heap.size, 5, none⟩ = some (.int .i64 t.r.g1) ∧ W'.cell? ⟨w.heap.size, 6, none⟩ = some (.int .i64 t.r.g2) ∧ W'.cell? ⟨w.heap.size, 7, none⟩ = some (.int .i64 t.r.lost) ∧ W'.cell? ⟨w.heap.size, 9, none⟩ = some (.slice (some ⟨sb, so, none⟩) N sc) ∧ W'.cell? ⟨sb, so + m * 2, none⟩ = some (.int .i64 sm.1) ∧ W'.cell? ⟨sb, so + m * 2 + 1, none⟩ = some (.int .i64 sm.2) ∧ W'.cell? ⟨b9, 0, none⟩ = some (.int .i64 cur.1) ∧ W'.cell? ⟨b9, 1, none⟩ = some (.int .i64 cur.2) from ⟨(hh.cell (p := ⟨w.heap.size, 0, none⟩) (World.block_lt_of_cell? W ⟨w.heap.size, 0, none⟩ hk.1)).trans hk.1, (hh.cell (p := ⟨w.heap.size, 1, none⟩) (World.block_lt_of_cell? W ⟨w.heap.size, 0, none⟩ hk.1)).trans hk.2.1, (hh.cell (p := ⟨w.heap.size, 2, none⟩) (World.block_lt_of_cell? W ⟨w.heap.size, 0, none⟩ hk.1)).trans hk.2.2.1, (hh.cell (p := ⟨w.heap.size, 3, none⟩) (World.block_lt_of_cell? W ⟨w.heap.size, 0, none⟩ hk.1)).trans hk.2.2.2.1, (hh.cell (p := ⟨w.heap.size, 4, none⟩) (World.block_lt_of_cell? W ⟨w.heap.size, 0, none⟩ hk.1)).trans hk.2.2.2.2.1, (hh.cell (p := ⟨w.heap.size, 5, none⟩) (World.block_lt_of_cell? W ⟨w.heap.size, 0, none⟩ hk.1)).trans hk.2.2.2.2.2.1, (hh.cell (p := ⟨w.heap.size, 6, none⟩) (World.block_lt_of_cell? W ⟨w.heap.size, 0, none⟩ hk.1)).trans hk.2.2.2.2.2.2.1, (hh.cell (p := ⟨w.heap.size, 7, none⟩) (World.block_lt_of_cell? W ⟨w.heap.size, 0, none⟩ hk.1)).trans hk.2.2.2.2.2.2.2.1, (hh.cell (p := ⟨w.heap.size, 9, none⟩) (World.block_lt_of_cell? W ⟨w.heap.size, 0, none⟩ hk.1)).trans (hk.2.2.2.2.2.2.2.2.2.1.trans (by rw [hsa])), (hh.cell (p := ⟨sb, _, none⟩) hsb).trans s0, (hh.cell (p := ⟨sb, _, none⟩) hsb).trans s1, (hh.cell (p := ⟨b9, _, none⟩) g1.lt).trans (g1.cell 0), (hh.cell (p := ⟨b9, _, none⟩) g1.lt).trans (g1.cell 1)⟩))
              have HF := Lib.hid (fun (W' : World) (hh : Below W.heap.size W W') (q : Nat) => (hh.frozen (p := ⟨b9, q, none⟩) g1.lt).trans (g1.frozen q))
              have c1 : (0 : Int) ≤ m := by omega
              have c2 : (m : Int) < N := by omega
              have hsum2 := Lib.hid (And.intro g1 g2)
              replace hu := Lib.hid hu
              replace hv := Lib.hid hv
              clear g1 g2 s0 s1 hsc hsb es hpin hk hmm
              gi_wp2_with fail
              try rw [hm]
              clear hm
              try rw [hsa]
              refine wpIn_region_steps2 (l := l2) (I := KJ W b9 u v) (V := JV w.heap.size t.r.cs (.slice (some ⟨sb, so, none⟩) N sc) m sb so sm cur) (eff := jeff) (need := jneed) (till := jtill) 2 (by kernel_rfl) (by decide) (by kernel_rfl) rfl (by kernel_rfl) (by kernel_rfl) (by kernel_rfl) (by kernel_rfl) (by kernel_rfl) (by kernel_rfl) ⟨fun h => by omega, fun _ => (Below.refl _ W).drew, fun h => by omega⟩ ?steps ?hend
              case hend =>
                rintro outs w' ⟨-, -, hI⟩
                obtain ⟨W1, hb1, rfl⟩ := hI rfl
                obtain ⟨g1, g2⟩ := hsum2.out
                have q1 := g1.below hb1
                refine ⟨keeps_two _ _ hb1 (by omega), kb2_two _ _ hb1 (by omega) (by omega) (by omega) (by omega), ?_, ((B_trans g2 hb1).setCell hb9 _).setCell hb9 _, ?_⟩
                · rw [hstep.out, hu.out, hv.out]
                  exact (q1.set _ _).set _ _
                · have := hb1.size
                  simp only [World.setCell, Array.size_modify]
                  omega
              case steps =>
                refine ⟨⟨rfl, fun t ht k' outs u _ => by cases ht; rfl, fun k' outs W' ρ hk1 hk2 hI hc hg h_fn hr ho => ?_⟩, ?_⟩
                · have o3 := ho 3 (by kernel_rfl)
                  clear hI
                  refine step_pure rfl (v := .pointer (some ⟨w.heap.size, 0, none⟩)) (fun t ht => by cases ht; rfl) ?_
                  go_simp
                refine ⟨⟨rfl, fun t ht k' outs u _ => by cases ht; rfl, fun k' outs W' ρ hk1 hk2 hI hc hg h_fn hr ho => ?_⟩, ?_⟩
                · have r33 : ρ (.tmp 33) = .pointer (some ⟨w.heap.size, 0, none⟩) := hr 33 (by kernel_rfl)
                  have hk2' : k' ≤ 1 := hk2
                  obtain ⟨f0, f1, f2, f3, f4, f5, f6, f7, f8, f9, f10, f11, f12⟩ := HK.out W' (hI.2.1 (by omega))
                  clear hI
                  refine step_pure rfl (v := .agg t.r.cs) (fun t ht => by cases ht; rfl) ?_
                  go_simp
                refine ⟨⟨rfl, fun t ht k' outs u _ => by cases ht; rfl, fun k' outs W' ρ hk1 hk2 hI hc hg h_fn hr ho => ?_⟩, ?_⟩
                · have o3 := ho 3 (by kernel_rfl)
                  clear hI
                  refine step_pure rfl (v := .pointer (some ⟨w.heap.size, 9, none⟩)) (fun t ht => by cases ht; rfl) ?_
                  go_simp
                refine ⟨⟨rfl, fun t ht k' outs u _ => by cases ht; rfl, fun k' outs W' ρ hk1 hk2 hI hc hg h_fn hr ho => ?_⟩, ?_⟩
                · have r35 : ρ (.tmp 35) = .pointer (some ⟨w.heap.size, 9, none⟩) := hr 35 (by kernel_rfl)
                  have hk2' : k' ≤ 1 := hk2
                  obtain ⟨f0, f1, f2, f3, f4, f5, f6, f7, f8, f9, f10, f11, f12⟩ := HK.out W' (hI.2.1 (by omega))
                  clear hI
                  refine step_pure rfl (v := .slice (some ⟨sb, so, none⟩) N sc) (fun t ht => by cases ht; rfl) ?_
                  go_simp
                refine ⟨⟨rfl, fun t ht k' outs u _ => by cases ht; rfl, fun k' outs W' ρ hk1 hk2 hI hc hg h_fn hr ho => ?_⟩, ?_⟩
                · have o10 := ho 10 (by kernel_rfl)
                  clear hI
                  refine step_pure rfl (v := .int .i64 m) (fun t ht => by cases ht; rfl) ?_
                  go_simp
                refine ⟨⟨rfl, fun t ht k' outs u _ => by cases ht; rfl, fun k' outs W' ρ hk1 hk2 hI hc hg h_fn hr ho => ?_⟩, ?_⟩
                · have r36 : ρ (.tmp 36) = .slice (some ⟨sb, so, none⟩) N sc := hr 36 (by kernel_rfl)
                  have r37 : ρ (.tmp 37) = .int .i64 m := hr 37 (by kernel_rfl)
                  clear hI
                  refine step_pure rfl (v := .pointer (some ⟨sb, so + m * 2, none⟩)) (fun t ht => by cases ht; rfl) ?_
                  go_simp
                refine ⟨⟨rfl, fun t ht k' outs u _ => by cases ht; rfl, fun k' outs W' ρ hk1 hk2 hI hc hg h_fn hr ho => ?_⟩, ?_⟩
                · have r38 : ρ (.tmp 38) = .pointer (some ⟨sb, so + m * 2, none⟩) := hr 38 (by kernel_rfl)
                  have hk2' : k' ≤ 1 := hk2
                  obtain ⟨f0, f1, f2, f3, f4, f5, f6, f7, f8, f9, f10, f11, f12⟩ := HK.out W' (hI.2.1 (by omega))
                  clear hI
                  refine step_pure rfl (v := .agg #[.int .i64 sm.1, .int .i64 sm.2]) (fun t ht => by cases ht; rfl) ?_
                  go_simp
                refine ⟨⟨rfl, fun t ht k' outs u _ => by cases ht; rfl, fun k' outs W' ρ hk1 hk2 hI hc hg h_fn hr ho => ?_⟩, ?_⟩
                · have o9 := ho 9 (by kernel_rfl)
                  have hk2' : k' ≤ 1 := hk2
                  obtain ⟨f0, f1, f2, f3, f4, f5, f6, f7, f8, f9, f10, f11, f12⟩ := HK.out W' (hI.2.1 (by omega))
                  clear hI
                  refine step_pure rfl (v := .agg #[.int .i64 cur.1, .int .i64 cur.2]) (fun t ht => by cases ht; rfl) ?_
                  go_simp
                refine ⟨⟨rfl, fun t ht k' outs u (h : 0 < k') => by cases ht; show upd outs k' u 0 = outs 0; unfold upd; rw [if_neg (by omega)], fun k' outs W' ρ hk1 hk2 hI hc hg h_fn hr ho => ?_⟩, ?_⟩
                · have r34 : ρ (.tmp 34) = .agg t.r.cs := hr 34 (by kernel_rfl)
                  have r39 : ρ (.tmp 39) = .agg #[.int .i64 sm.1, .int .i64 sm.2] := hr 39 (by kernel_rfl)
                  have r40 : ρ (.tmp 40) = .agg #[.int .i64 cur.1, .int .i64 cur.2] := hr 40 (by kernel_rfl)
                  have hfn := h_fn 63
                  obtain rfl : k' = 0 := Nat.le_zero.1 hk2
                  refine step_call rfl (f := 63) (args := #[.agg t.r.cs, .agg #[.int .i64 sm.1, .int .i64 sm.2], .agg #[.int .i64 cur.1, .int .i64 cur.2]]) (w' := W') ?_ ?_
                  · clear hI; go_simp
                  · refine (HN.out W').mono ?_
                    rintro e w2 ⟨rfl, hb2⟩
                    exact ⟨_, rfl, ⟨fun _ => rfl, fun _ => B_trans (hI.2.1 (by omega)) hb2, fun h => by omega⟩, fun t ht => by cases ht; rfl⟩
                refine ⟨⟨rfl, (fun t ht => by cases ht), fun k' outs W' ρ hk1 hk2 hI hc hg h_fn hr ho => ?_⟩, trivial⟩
                · have o9 := ho 9 (by kernel_rfl)
                  obtain rfl : k' = 1 := by have h1 : 1 ≤ k' := hk1; have h2 : k' ≤ 1 := hk2; omega
                  have r41 : ρ (.tmp 41) = .agg #[.int .i64 u, .int .i64 v] := (hr 41 (by kernel_rfl)).trans (hI.1 (by omega))
                  have hbW := hI.2.1 (by omega)
                  obtain ⟨f0, f1, f2, f3, f4, f5, f6, f7, f8, f9, f10, f11, f12⟩ := HK.out W' hbW
                  have z0 := HF.out W' hbW 0
                  have z1 := HF.out W' hbW 1
                  refine step_store rfl rfl (w' := (W'.setCell ⟨b9, 0, none⟩ (.int .i64 u)).setCell ⟨b9, 1, none⟩ (.int .i64 v)) ?_ ⟨fun _ => hI.1 (by omega), fun h => by omega, fun _ => ⟨W', hbW, rfl⟩⟩
                  clear hI hbW; go_simp
            case done2 =>
              rintro xs W7 rfl ⟨g1, g2, g3⟩
              have hst2 : Hid (stopB t.r ss ts mor z f = !decide (max (nextFold t.r ss kp ((List.finRange (mor z - mor f)).map fun y => mor f + y.val)).1 (keepT t.r ts z).1 ≤ min (nextFold t.r ss kp ((List.finRange (mor z - mor f)).map fun y => mor f + y.val)).2 (keepT t.r ts z).2)) := by
                rw [Hid, ← range_fin, ← hkpe.out]
                rfl
              generalize nextFold t.r ss kp ((List.finRange (mor z - mor f)).map fun y => mor f + y.val) = cs at g1 hst2
              generalize keepT t.r ts z = kz at HKz hst2
              generalize ts.getD z (0, 0, 0) = tz at HZ HKz
              obtain ⟨z0, z1, z2⟩ := tz
              simp only at HZ HKz
              have HCm := Lib.hid (fun W' => common_any cs.1 cs.2 kz.1 kz.2 W')
              have HD := Lib.hid (fun (W' : World) (hh : Below W7.heap.size W7 W') => (show W'.cell? ⟨b9, 0, none⟩ = some (.int .i64 cs.1) ∧ W'.cell? ⟨b9, 1, none⟩ = some (.int .i64 cs.2) from ⟨(hh.cell (p := ⟨b9, _, none⟩) g1.lt).trans (g1.cell 0), (hh.cell (p := ⟨b9, _, none⟩) g1.lt).trans (g1.cell 1)⟩))
              have d1 : (0 : Int) ≤ z := by omega
              have d2 : (z : Int) < t.tn := by omega
              have hsum7 := Lib.hid g2
              clear g1
              gi_wp2_with fail
              rename_i K3 ha3
              have HE : ∀ (b11 : Nat) (W8 : World), Below Wb.heap.size Wb W8 → K3 { tmps := #[.agg (t.xc (.slice sa N sc)), .slice ka kn kc, .int .i64 z, .pointer (some ⟨w.heap.size, 0, none⟩), undef, .pointer (some ⟨w.heap.size + 1, 0, none⟩), .pointer (some ⟨w.heap.size + 1 + 1, 0, none⟩), undef, .int .i64 f, .pointer (some ⟨b9, 0, none⟩), undef, .pointer (some ⟨b11, 0, none⟩), .bool (decide (max cs.1 kz.1 ≤ min cs.2 kz.2)), .slice ka kn kc, .func (.func 125) #[] #[.pointer (some ⟨F0, 0, none⟩)], .int .i64 ((kn : Int) - 1 - x.val), .int .i64 f, .pointer (some ⟨w.heap.size, 0, none⟩), .agg #[.slice t.r.ha t.r.hn t.r.hc, .slice t.r.wa t.r.wn t.r.wc, .int .i64 t.r.own, .int .i64 t.r.feed, .int .i64 t.r.g0, .int .i64 t.r.g1, .int .i64 t.r.g2, .int .i64 t.r.lost], .pointer (some ⟨w.heap.size, 12, none⟩), .slice (some ⟨tb, tj, none⟩) t.tn t.tc, .int .i64 f, .pointer (some ⟨tb, tj + f * 3, none⟩), .agg #[.int .i64 x0, .int .i64 x1, .int .i64 x2], .agg #[.int .i64 kp.1, .int .i64 kp.2], .agg #[.slice t.r.ha t.r.hn t.r.hc, .slice t.r.wa t.r.wn t.r.wc, .int .i64 t.r.own, .int .i64 t.r.feed, .int .i64 t.r.g0, .int .i64 t.r.g1, .int .i64 t.r.g2, .int .i64 t.r.lost, .int .i64 t.first, .slice sa N sc, .int .i64 t.lo, .int .i64 t.hi, .slice (some ⟨tb, tj, none⟩) t.tn t.tc], .int .i64 f, .int .i64 (mor f : Nat), .agg #[.slice t.r.ha t.r.hn t.r.hc, .slice t.r.wa t.r.wn t.r.wc, .int .i64 t.r.own, .int .i64 t.r.feed, .int .i64 t.r.g0, .int .i64 t.r.g1, .int .i64 t.r.g2, .int .i64 t.r.lost, .int .i64 t.first, .slice sa N sc, .int .i64 t.lo, .int .i64 t.hi, .slice (some ⟨tb, tj, none⟩) t.tn t.tc], .int .i64 z, .int .i64 (mor z : Nat), .func (.func 87) #[] #[.pointer (some ⟨G, 0, none⟩), .pointer (some ⟨G + 1, 0, none⟩)], undef, undef, undef, undef, undef, undef, undef, undef, undef, undef, .tuple #[.agg #[.int .i64 (max cs.1 kz.1), .int .i64 (min cs.2 kz.2)], .bool (decide (max cs.1 kz.1 ≤ min cs.2 kz.2))], .agg #[.int .i64 cs.1, .int .i64 cs.2], .pointer (some ⟨w.heap.size, 0, none⟩), .agg #[.slice t.r.ha t.r.hn t.r.hc, .slice t.r.wa t.r.wn t.r.wc, .int .i64 t.r.own, .int .i64 t.r.feed, .int .i64 t.r.g0, .int .i64 t.r.g1, .int .i64 t.r.g2, .int .i64 t.r.lost], .pointer (some ⟨w.heap.size, 12, none⟩), .slice (some ⟨tb, tj, none⟩) t.tn t.tc, .int .i64 z, .pointer (some ⟨tb, tj + z * 3, none⟩), .agg #[.int .i64 z0, .int .i64 z1, .int .i64 z2], .agg #[.int .i64 kz.1, .int .i64 kz.2], .tuple #[.agg #[.int .i64 (max cs.1 kz.1), .int .i64 (min cs.2 kz.2)], .bool (decide (max cs.1 kz.1 ≤ min cs.2 kz.2))], .agg #[.int .i64 (max cs.1 kz.1), .int .i64 (min cs.2 kz.2)], .bool (decide (max cs.1 kz.1 ≤ min cs.2 kz.2)), undef, undef, undef], defers := [] } W8 := by
                intro b11 W8 hB8
                refine ha3 _ _ ?_
                clear ha3
                obtain ⟨j1, j2, j3, j4⟩ := hsum.out
                have m1 := j1.below hB8
                have m2 := j2.below hB8
                have m3 := j3.below hB8
                have m4 := B_trans j4 hB8
                have hkf : KeepsFrom W5.heap.size Wb W8 := ⟨hB8.size, fun k o _ hk _ => (hB8.block k (Array.getElem?_eq_some_iff.1 hk).1).trans hk⟩
                have hkb2 : KB2 F0 b Wb W8 := ⟨hB8.block _ h5, hB8.block _ (by have := j4.size; omega)⟩
                cases hok : decide (max cs.1 kz.1 ≤ min cs.2 kz.2) with
                | true =>
                  have hst3 : stopB t.r ss ts mor z f = false := by rw [hst2.out, hok]; rfl
                  have hfin := Lib.hid (show KeepsFrom W5.heap.size Wb W8 ∧ KB2 F0 b Wb W8 ∧ Ob W8 w.heap.size 104 (t.xc (.slice sa N sc)) ∧ Ob W8 (w.heap.size + 1) 3 #[.int .i64 z] ∧ Ob W8 (w.heap.size + 1 + 1) 3 #[.int .i64 0] ∧ Below w.heap.size w W8 ∧ F0 < W8.heap.size ∧ ∀ y ∈ pre ++ [x], stopB t.r ss ts mor z (L.getD (kn - 1 - y.val) 0) = false from
                    ⟨hkf, hkb2, m1, m2, m3, m4, Nat.lt_of_lt_of_le h5 hB8.size, fun y hy => by
                      rcases List.mem_append.1 hy with h | h
                      · exact h6 y h
                      · rw [List.mem_singleton] at h
                        subst h
                        rw [hfe.out]; exact hst3⟩)
                  clear j1 j2 j3 j4 m1 m2 m3 m4 hkf hkb2
                  gi_wp2
                  exact hfin.out
                | false =>
                  have hst3 : stopB t.r ss ts mor z f = true := by rw [hst2.out, hok]; rfl
                  have q0 := m3.cell 0
                  have q1 := m3.frozen 0
                  simp only [List.getElem?_toArray, List.getElem?_cons_zero] at q0
                  have hs8 := m3.set 0 (.int .i64 f)
                  have hfin := Lib.hid (show KeepsFrom W5.heap.size Wb (W8.setCell ⟨w.heap.size + 1 + 1, 0, none⟩ (.int .i64 f)) ∧ Code.ret = Code.ret ∧ ∃ pre' x', pre ++ [x] = pre' ++ [x'] ∧ (∀ y ∈ pre', stopB t.r ss ts mor z (L.getD (kn - 1 - y.val) 0) = false) ∧ stopB t.r ss ts mor z (L.getD (kn - 1 - x'.val) 0) = true ∧ Ob (W8.setCell ⟨w.heap.size + 1 + 1, 0, none⟩ (.int .i64 f)) (w.heap.size + 1 + 1) 3 #[.int .i64 (L.getD (kn - 1 - x'.val) 0 : Nat)] ∧ Below w.heap.size w (W8.setCell ⟨w.heap.size + 1 + 1, 0, none⟩ (.int .i64 f)) from
                    ⟨⟨by simpa [World.setCell] using hkf.size, fun k o hk h1 h2 => by
                        rw [Below.heap_setCell _ _ _ _ (by simp only; omega)]
                        exact hkf.same k o hk h1 h2⟩, rfl, pre, x, rfl, h6, by rw [hfe.out]; exact hst3, by rw [hfe.out]; exact hs8, m4.setCell (by simp only; omega) _⟩)
                  clear j1 j2 j3 j4 m1 m2 m3 m4 hkf hkb2 hs8
                  gi_wp2
                  refine ⟨?_, rfl, hfin.out.2.2⟩
                  first | exact hfin.out.1 | (rw [← z5]; exact hfin.out.1)
              refine wpIn_region_held (S := fun W => Below W7.heap.size W7 W) (by kernel_rfl) (by kernel_rfl) ((Below.refl _ W7).drew) (fun hHeld => ?_)
              refine wpAnyH_take (i := 0) (v := ?_) rfl (by kernel_rfl) (by kernel_rfl) (by kernel_rfl) (fun _ _ _ h => Only.not_panic h) (Or.inl ⟨by rfl, fun W hW => ?_⟩) (by assumption) ?_
              rotate_left
              · have hW2 := hW
                obtain ⟨f0, f1, f2, f3, f4, f5, f6, f7, f8, f9, f10, f11, f12, f13, f14, f15, f16⟩ := HS.out W (B_trans g2 hW2)
                obtain ⟨e0, e1, e2⟩ := HZ.out W (B_trans g2 hW2)
                obtain ⟨e3, e4⟩ := HD.out W hW2
                clear hW hW2
                go_simp
                try with_reducible rfl
              try simp only [Act.put, List.setIfInBounds_toArray]
              refine wpAnyH_take (i := 1) (v := ?_) rfl (by kernel_rfl) (by kernel_rfl) (by kernel_rfl) (fun _ _ _ h => Only.not_panic h) (Or.inl ⟨by rfl, fun W hW => ?_⟩) (by assumption) ?_
              rotate_left
              · have hW2 := hW
                obtain ⟨f0, f1, f2, f3, f4, f5, f6, f7, f8, f9, f10, f11, f12, f13, f14, f15, f16⟩ := HS.out W (B_trans g2 hW2)
                obtain ⟨e0, e1, e2⟩ := HZ.out W (B_trans g2 hW2)
                obtain ⟨e3, e4⟩ := HD.out W hW2
                clear hW hW2
                go_simp
                try with_reducible rfl
              try simp only [Act.put]
              refine wpAnyH_take (i := 2) (v := ?_) rfl (by kernel_rfl) (by kernel_rfl) (by kernel_rfl) (fun _ _ _ h => Only.not_panic h) (Or.inl ⟨by rfl, fun W hW => ?_⟩) (by assumption) ?_
              rotate_left
              · have hW2 := hW
                obtain ⟨f0, f1, f2, f3, f4, f5, f6, f7, f8, f9, f10, f11, f12, f13, f14, f15, f16⟩ := HS.out W (B_trans g2 hW2)
                obtain ⟨e0, e1, e2⟩ := HZ.out W (B_trans g2 hW2)
                obtain ⟨e3, e4⟩ := HD.out W hW2
                clear hW hW2
                go_simp
                try with_reducible rfl
              try simp only [Act.put]
              refine wpAnyH_take (i := 3) (v := ?_) rfl (by kernel_rfl) (by kernel_rfl) (by kernel_rfl) (fun _ _ _ h => Only.not_panic h) (Or.inl ⟨by rfl, fun W hW => ?_⟩) (by assumption) ?_
              rotate_left
              · have hW2 := hW
                obtain ⟨f0, f1, f2, f3, f4, f5, f6, f7, f8, f9, f10, f11, f12, f13, f14, f15, f16⟩ := HS.out W (B_trans g2 hW2)
                obtain ⟨e0, e1, e2⟩ := HZ.out W (B_trans g2 hW2)
                obtain ⟨e3, e4⟩ := HD.out W hW2
                clear hW hW2
                go_simp
                try with_reducible rfl
              try simp only [Act.put]
              refine wpAnyH_take (i := 4) (v := ?_) rfl (by kernel_rfl) (by kernel_rfl) (by kernel_rfl) (fun _ _ _ h => Only.not_panic h) (Or.inl ⟨by rfl, fun W hW => ?_⟩) (by assumption) ?_
              rotate_left
              · have hW2 := hW
                obtain ⟨f0, f1, f2, f3, f4, f5, f6, f7, f8, f9, f10, f11, f12, f13, f14, f15, f16⟩ := HS.out W (B_trans g2 hW2)
                obtain ⟨e0, e1, e2⟩ := HZ.out W (B_trans g2 hW2)
                obtain ⟨e3, e4⟩ := HD.out W hW2
                clear hW hW2
                go_simp
                try with_reducible rfl
              try simp only [Act.put]
              refine wpAnyH_take (i := 5) (v := ?_) rfl (by kernel_rfl) (by kernel_rfl) (by kernel_rfl) (fun _ _ _ h => Only.not_panic h) (Or.inl ⟨by rfl, fun W hW => ?_⟩) (by assumption) ?_
              rotate_left
              · have hW2 := hW
                obtain ⟨f0, f1, f2, f3, f4, f5, f6, f7, f8, f9, f10, f11, f12, f13, f14, f15, f16⟩ := HS.out W (B_trans g2 hW2)
                obtain ⟨e0, e1, e2⟩ := HZ.out W (B_trans g2 hW2)
                obtain ⟨e3, e4⟩ := HD.out W hW2
                clear hW hW2
                go_simp
                try with_reducible rfl
              try simp only [Act.put]
              refine wpAnyH_take (i := 6) (v := ?_) rfl (by kernel_rfl) (by kernel_rfl) (by kernel_rfl) (fun _ _ _ h => Only.not_panic h) (Or.inl ⟨by rfl, fun W hW => ?_⟩) (by assumption) ?_
              rotate_left
              · have hW2 := hW
                obtain ⟨f0, f1, f2, f3, f4, f5, f6, f7, f8, f9, f10, f11, f12, f13, f14, f15, f16⟩ := HS.out W (B_trans g2 hW2)
                obtain ⟨e0, e1, e2⟩ := HZ.out W (B_trans g2 hW2)
                obtain ⟨e3, e4⟩ := HD.out W hW2
                clear hW hW2
                go_simp
                try with_reducible rfl
              try simp only [Act.put]
              refine wpAnyH_take (i := 7) (v := ?_) rfl (by kernel_rfl) (by kernel_rfl) (by kernel_rfl) (fun _ _ _ h => Only.not_panic h) (Or.inl ⟨by rfl, fun W hW => ?_⟩) (by assumption) ?_
              rotate_left
              · have hW2 := hW
                obtain ⟨f0, f1, f2, f3, f4, f5, f6, f7, f8, f9, f10, f11, f12, f13, f14, f15, f16⟩ := HS.out W (B_trans g2 hW2)
                obtain ⟨e0, e1, e2⟩ := HZ.out W (B_trans g2 hW2)
                obtain ⟨e3, e4⟩ := HD.out W hW2
                clear hW hW2
                go_simp
                try with_reducible rfl
              try simp only [Act.put]
              refine wpAnyH_ready (rs := [8, 13]) (by kernel_rfl) (by simp) ?_
              refine AllReadyH.cons rfl (fun K hK => ?_) ?_
              · go_simp
                refine (HKz.out _).mono ?_
                rintro e w8 ⟨rfl, hb8⟩
                try simp only []
                refine hK.out _ _ ?_ (fun hHeld => ?_)
                · exact B_trans hHeld hb8
                clear hK K
                try simp only [Act.put, List.setIfInBounds_toArray, List.set_cons_zero, List.set_cons_succ]
                refine wpAnyH_ready (rs := [9, 13]) (by kernel_rfl) (by simp) ?_
                refine AllReadyH.cons rfl (fun K hK => ?_) ?_
                · go_simp
                  refine (HCm.out _).mono ?_
                  rintro e w9 ⟨rfl, hb9⟩
                  try simp only []
                  refine hK.out _ _ ?_ (fun hHeld => ?_)
                  · exact B_trans hHeld hb9
                  clear hK K
                  try simp only [Act.put, List.setIfInBounds_toArray, List.set_cons_zero, List.set_cons_succ]
                  refine wpAnyH_take (i := 10) (v := ?_) rfl (by kernel_rfl) (by kernel_rfl) (by kernel_rfl) (fun _ _ _ h => Only.not_panic h) (Or.inl ⟨by rfl, fun W hW => ?_⟩) (by assumption) ?_
                  rotate_left
                  · have hW2 := hW
                    obtain ⟨f0, f1, f2, f3, f4, f5, f6, f7, f8, f9, f10, f11, f12, f13, f14, f15, f16⟩ := HS.out W (B_trans g2 hW2)
                    obtain ⟨e0, e1, e2⟩ := HZ.out W (B_trans g2 hW2)
                    obtain ⟨e3, e4⟩ := HD.out W hW2
                    clear hW hW2
                    go_simp
                    try with_reducible rfl
                  try simp only [Act.put, List.setIfInBounds_toArray]
                  refine wpAnyH_take (i := 11) (v := ?_) rfl (by kernel_rfl) (by kernel_rfl) (by kernel_rfl) (fun _ _ _ h => Only.not_panic h) (Or.inl ⟨by rfl, fun W hW => ?_⟩) (by assumption) ?_
                  rotate_left
                  · have hW2 := hW
                    obtain ⟨f0, f1, f2, f3, f4, f5, f6, f7, f8, f9, f10, f11, f12, f13, f14, f15, f16⟩ := HS.out W (B_trans g2 hW2)
                    obtain ⟨e0, e1, e2⟩ := HZ.out W (B_trans g2 hW2)
                    obtain ⟨e3, e4⟩ := HD.out W hW2
                    clear hW hW2
                    go_simp
                    try with_reducible rfl
                  try simp only [Act.put]
                  refine wpAnyH_take (i := 12) (v := ?_) rfl (by kernel_rfl) (by kernel_rfl) (by kernel_rfl) (fun _ _ _ h => Only.not_panic h) (Or.inl ⟨by rfl, fun W hW => ?_⟩) (by assumption) ?_
                  rotate_left
                  · have hW2 := hW
                    obtain ⟨f0, f1, f2, f3, f4, f5, f6, f7, f8, f9, f10, f11, f12, f13, f14, f15, f16⟩ := HS.out W (B_trans g2 hW2)
                    obtain ⟨e0, e1, e2⟩ := HZ.out W (B_trans g2 hW2)
                    obtain ⟨e3, e4⟩ := HD.out W hW2
                    clear hW hW2
                    go_simp
                    try with_reducible rfl
                  try simp only [Act.put]
                  refine wpAnyH_ready (rs := [13]) (by kernel_rfl) (by simp) ?_
                  refine AllReadyH.cons rfl (fun K hK => ?_) ?_
                  · go_simp
                    have hpre := hHeld
                    have o9 := Lib.hid (Ob.new (w9) #[.int .i64 0, .int .i64 0] 28)
                    have hz9 := hHeld.size
                    refine hK.out _ _ ?_ (fun hHeld => ?_)
                    · exact B_alloc hHeld _
                    clear hK K
                    try simp only [Act.put, List.setIfInBounds_toArray, List.set_cons_zero, List.set_cons_succ]
                    refine wpAnyH_ready (rs := [14]) (by kernel_rfl) (by simp) ?_
                    refine AllReadyH.cons rfl (fun K hK => ?_) ?_
                    · have v0 := o9.out.cell 0
                      have v1 := o9.out.cell 1
                      have p0 := o9.out.frozen 0
                      have p1 := o9.out.frozen 1
                      simp only [List.getElem?_toArray, List.getElem?_cons_zero, List.getElem?_cons_succ] at v0 v1
                      go_simp
                      refine hK.out _ _ ?_ (fun hHeld => ?_)
                      · first | exact B_alloc hpre _ | exact (hHeld.setCell (by first | omega | (simp only; omega) | (simp; omega)) _).setCell (by first | omega | (simp only; omega) | (simp; omega)) _
                      clear hK K
                      try simp only [Act.put, List.setIfInBounds_toArray, List.set_cons_zero, List.set_cons_succ]
                      refine wpAnyH_take (i := 15) (v := ?_) rfl (by kernel_rfl) (by kernel_rfl) (by kernel_rfl) (fun _ _ _ h => Only.not_panic h) (Or.inl ⟨by rfl, fun W hW => ?_⟩) (by assumption) ?_
                      rotate_left
                      · have hW2 := hW
                        obtain ⟨f0, f1, f2, f3, f4, f5, f6, f7, f8, f9, f10, f11, f12, f13, f14, f15, f16⟩ := HS.out W (B_trans g2 hW2)
                        obtain ⟨e0, e1, e2⟩ := HZ.out W (B_trans g2 hW2)
                        obtain ⟨e3, e4⟩ := HD.out W hW2
                        clear hW hW2
                        go_simp
                        try with_reducible rfl
                      try simp only [Act.put, List.setIfInBounds_toArray]
                      refine wpAnyH_done (by kernel_rfl) (Only.mk ?_) _
                      exact HE _ _ (B_trans g2 hHeld)
                    exact AllReadyH.nil
                  exact AllReadyH.nil
                refine AllReadyH.cons rfl (fun K hK => ?_) ?_
                · go_simp
                  have hpre := hHeld
                  have o9 := Lib.hid (Ob.new (w8) #[.int .i64 0, .int .i64 0] 28)
                  have hz9 := hHeld.size
                  refine hK.out _ _ ?_ (fun hHeld => ?_)
                  · exact B_alloc hHeld _
                  clear hK K
                  try simp only [Act.put, List.setIfInBounds_toArray, List.set_cons_zero, List.set_cons_succ]
                  refine wpAnyH_ready (rs := [9]) (by kernel_rfl) (by simp) ?_
                  refine AllReadyH.cons rfl (fun K hK => ?_) ?_
                  · go_simp
                    refine (HCm.out _).mono ?_
                    rintro e w9 ⟨rfl, hb9⟩
                    try simp only []
                    replace o9 := Lib.hid (o9.out.below hb9)
                    refine hK.out _ _ ?_ (fun hHeld => ?_)
                    · exact B_trans hHeld hb9
                    clear hK K
                    try simp only [Act.put, List.setIfInBounds_toArray, List.set_cons_zero, List.set_cons_succ]
                    refine wpAnyH_take (i := 10) (v := ?_) rfl (by kernel_rfl) (by kernel_rfl) (by kernel_rfl) (fun _ _ _ h => Only.not_panic h) (Or.inl ⟨by rfl, fun W hW => ?_⟩) (by assumption) ?_
                    rotate_left
                    · have hW2 := hW
                      obtain ⟨f0, f1, f2, f3, f4, f5, f6, f7, f8, f9, f10, f11, f12, f13, f14, f15, f16⟩ := HS.out W (B_trans g2 hW2)
                      obtain ⟨e0, e1, e2⟩ := HZ.out W (B_trans g2 hW2)
                      obtain ⟨e3, e4⟩ := HD.out W hW2
                      clear hW hW2
                      go_simp
                      try with_reducible rfl
                    try simp only [Act.put, List.setIfInBounds_toArray]
                    refine wpAnyH_take (i := 11) (v := ?_) rfl (by kernel_rfl) (by kernel_rfl) (by kernel_rfl) (fun _ _ _ h => Only.not_panic h) (Or.inl ⟨by rfl, fun W hW => ?_⟩) (by assumption) ?_
                    rotate_left
                    · have hW2 := hW
                      obtain ⟨f0, f1, f2, f3, f4, f5, f6, f7, f8, f9, f10, f11, f12, f13, f14, f15, f16⟩ := HS.out W (B_trans g2 hW2)
                      obtain ⟨e0, e1, e2⟩ := HZ.out W (B_trans g2 hW2)
                      obtain ⟨e3, e4⟩ := HD.out W hW2
                      clear hW hW2
                      go_simp
                      try with_reducible rfl
                    try simp only [Act.put]
                    refine wpAnyH_take (i := 12) (v := ?_) rfl (by kernel_rfl) (by kernel_rfl) (by kernel_rfl) (fun _ _ _ h => Only.not_panic h) (Or.inl ⟨by rfl, fun W hW => ?_⟩) (by assumption) ?_
                    rotate_left
                    · have hW2 := hW
                      obtain ⟨f0, f1, f2, f3, f4, f5, f6, f7, f8, f9, f10, f11, f12, f13, f14, f15, f16⟩ := HS.out W (B_trans g2 hW2)
                      obtain ⟨e0, e1, e2⟩ := HZ.out W (B_trans g2 hW2)
                      obtain ⟨e3, e4⟩ := HD.out W hW2
                      clear hW hW2
                      go_simp
                      try with_reducible rfl
                    try simp only [Act.put]
                    refine wpAnyH_ready (rs := [14]) (by kernel_rfl) (by simp) ?_
                    refine AllReadyH.cons rfl (fun K hK => ?_) ?_
                    · have v0 := o9.out.cell 0
                      have v1 := o9.out.cell 1
                      have p0 := o9.out.frozen 0
                      have p1 := o9.out.frozen 1
                      simp only [List.getElem?_toArray, List.getElem?_cons_zero, List.getElem?_cons_succ] at v0 v1
                      go_simp
                      refine hK.out _ _ ?_ (fun hHeld => ?_)
                      · first | exact B_alloc hpre _ | exact (hHeld.setCell (by first | omega | (simp only; omega) | (simp; omega)) _).setCell (by first | omega | (simp only; omega) | (simp; omega)) _
                      clear hK K
                      try simp only [Act.put, List.setIfInBounds_toArray, List.set_cons_zero, List.set_cons_succ]
                      refine wpAnyH_take (i := 15) (v := ?_) rfl (by kernel_rfl) (by kernel_rfl) (by kernel_rfl) (fun _ _ _ h => Only.not_panic h) (Or.inl ⟨by rfl, fun W hW => ?_⟩) (by assumption) ?_
                      rotate_left
                      · have hW2 := hW
                        obtain ⟨f0, f1, f2, f3, f4, f5, f6, f7, f8, f9, f10, f11, f12, f13, f14, f15, f16⟩ := HS.out W (B_trans g2 hW2)
                        obtain ⟨e0, e1, e2⟩ := HZ.out W (B_trans g2 hW2)
                        obtain ⟨e3, e4⟩ := HD.out W hW2
                        clear hW hW2
                        go_simp
                        try with_reducible rfl
                      try simp only [Act.put, List.setIfInBounds_toArray]
                      refine wpAnyH_done (by kernel_rfl) (Only.mk ?_) _
                      exact HE _ _ (B_trans g2 hHeld)
                    exact AllReadyH.nil
                  exact AllReadyH.nil
                exact AllReadyH.nil
              refine AllReadyH.cons rfl (fun K hK => ?_) ?_
              · go_simp
                have o9 := Lib.hid (show Ob (W7.drew.alloc (.cells #[.int .i64 0, .int .i64 0] 28)) W7.heap.size 28 #[.int .i64 0, .int .i64 0] from Ob.new _ _ _)
                have hpre := hHeld
                have hz9 := hHeld.size
                refine hK.out _ _ ?_ (fun hHeld => ?_)
                · exact B_alloc hHeld _
                clear hK K
                try simp only [Act.put, List.setIfInBounds_toArray, List.set_cons_zero, List.set_cons_succ]
                refine wpAnyH_ready (rs := [8]) (by kernel_rfl) (by simp) ?_
                refine AllReadyH.cons rfl (fun K hK => ?_) ?_
                · go_simp
                  refine (HKz.out _).mono ?_
                  rintro e w8 ⟨rfl, hb8⟩
                  try simp only []
                  replace o9 := Lib.hid (o9.out.below hb8)
                  refine hK.out _ _ ?_ (fun hHeld => ?_)
                  · exact B_trans hHeld hb8
                  clear hK K
                  try simp only [Act.put, List.setIfInBounds_toArray, List.set_cons_zero, List.set_cons_succ]
                  refine wpAnyH_ready (rs := [9]) (by kernel_rfl) (by simp) ?_
                  refine AllReadyH.cons rfl (fun K hK => ?_) ?_
                  · go_simp
                    refine (HCm.out _).mono ?_
                    rintro e w9 ⟨rfl, hb9⟩
                    try simp only []
                    replace o9 := Lib.hid (o9.out.below hb9)
                    refine hK.out _ _ ?_ (fun hHeld => ?_)
                    · exact B_trans hHeld hb9
                    clear hK K
                    try simp only [Act.put, List.setIfInBounds_toArray, List.set_cons_zero, List.set_cons_succ]
                    refine wpAnyH_take (i := 10) (v := ?_) rfl (by kernel_rfl) (by kernel_rfl) (by kernel_rfl) (fun _ _ _ h => Only.not_panic h) (Or.inl ⟨by rfl, fun W hW => ?_⟩) (by assumption) ?_
                    rotate_left
                    · have hW2 := hW
                      obtain ⟨f0, f1, f2, f3, f4, f5, f6, f7, f8, f9, f10, f11, f12, f13, f14, f15, f16⟩ := HS.out W (B_trans g2 hW2)
                      obtain ⟨e0, e1, e2⟩ := HZ.out W (B_trans g2 hW2)
                      obtain ⟨e3, e4⟩ := HD.out W hW2
                      clear hW hW2
                      go_simp
                      try with_reducible rfl
                    try simp only [Act.put, List.setIfInBounds_toArray]
                    refine wpAnyH_take (i := 11) (v := ?_) rfl (by kernel_rfl) (by kernel_rfl) (by kernel_rfl) (fun _ _ _ h => Only.not_panic h) (Or.inl ⟨by rfl, fun W hW => ?_⟩) (by assumption) ?_
                    rotate_left
                    · have hW2 := hW
                      obtain ⟨f0, f1, f2, f3, f4, f5, f6, f7, f8, f9, f10, f11, f12, f13, f14, f15, f16⟩ := HS.out W (B_trans g2 hW2)
                      obtain ⟨e0, e1, e2⟩ := HZ.out W (B_trans g2 hW2)
                      obtain ⟨e3, e4⟩ := HD.out W hW2
                      clear hW hW2
                      go_simp
                      try with_reducible rfl
                    try simp only [Act.put]
                    refine wpAnyH_take (i := 12) (v := ?_) rfl (by kernel_rfl) (by kernel_rfl) (by kernel_rfl) (fun _ _ _ h => Only.not_panic h) (Or.inl ⟨by rfl, fun W hW => ?_⟩) (by assumption) ?_
                    rotate_left
                    · have hW2 := hW
                      obtain ⟨f0, f1, f2, f3, f4, f5, f6, f7, f8, f9, f10, f11, f12, f13, f14, f15, f16⟩ := HS.out W (B_trans g2 hW2)
                      obtain ⟨e0, e1, e2⟩ := HZ.out W (B_trans g2 hW2)
                      obtain ⟨e3, e4⟩ := HD.out W hW2
                      clear hW hW2
                      go_simp
                      try with_reducible rfl
                    try simp only [Act.put]
                    refine wpAnyH_ready (rs := [14]) (by kernel_rfl) (by simp) ?_
                    refine AllReadyH.cons rfl (fun K hK => ?_) ?_
                    · have v0 := o9.out.cell 0
                      have v1 := o9.out.cell 1
                      have p0 := o9.out.frozen 0
                      have p1 := o9.out.frozen 1
                      simp only [List.getElem?_toArray, List.getElem?_cons_zero, List.getElem?_cons_succ] at v0 v1
                      go_simp
                      refine hK.out _ _ ?_ (fun hHeld => ?_)
                      · first | exact B_alloc hpre _ | exact (hHeld.setCell (by first | omega | (simp only; omega) | (simp; omega)) _).setCell (by first | omega | (simp only; omega) | (simp; omega)) _
                      clear hK K
                      try simp only [Act.put, List.setIfInBounds_toArray, List.set_cons_zero, List.set_cons_succ]
                      refine wpAnyH_take (i := 15) (v := ?_) rfl (by kernel_rfl) (by kernel_rfl) (by kernel_rfl) (fun _ _ _ h => Only.not_panic h) (Or.inl ⟨by rfl, fun W hW => ?_⟩) (by assumption) ?_
                      rotate_left
                      · have hW2 := hW
                        obtain ⟨f0, f1, f2, f3, f4, f5, f6, f7, f8, f9, f10, f11, f12, f13, f14, f15, f16⟩ := HS.out W (B_trans g2 hW2)
                        obtain ⟨e0, e1, e2⟩ := HZ.out W (B_trans g2 hW2)
                        obtain ⟨e3, e4⟩ := HD.out W hW2
                        clear hW hW2
                        go_simp
                        try with_reducible rfl
                      try simp only [Act.put, List.setIfInBounds_toArray]
                      refine wpAnyH_done (by kernel_rfl) (Only.mk ?_) _
                      exact HE _ _ (B_trans g2 hHeld)
                    exact AllReadyH.nil
                  exact AllReadyH.nil
                exact AllReadyH.nil
              exact AllReadyH.nil
            case stop2 =>
              rintro c pre W _ h
              exact h.elim
          exact AllReadyH.nil
        exact AllReadyH.nil
      exact AllReadyH.nil
    refine wpIn_region_held (S := fun W => Below Wb.heap.size Wb W) (by kernel_rfl) (by kernel_rfl) ((Below.refl _ Wb).drew) (fun hHeld => ?_)
    refine wpAnyH_take (i := 0) (v := ?_) rfl (by kernel_rfl) (by kernel_rfl) (by kernel_rfl) (fun _ _ _ h => Only.not_panic h) (Or.inl ⟨by rfl, fun W hW => ?_⟩) (by assumption) ?_
    rotate_left
    · have hW2 := hW
      obtain ⟨f0, f1, f2, f3, f4, f5, f6, f7, f8, f9, f10, f11, f12, f13, f14, f15, f16⟩ := HS.out W hW2
      clear hW hW2
      go_simp
      try with_reducible rfl
    try simp only [Act.put, List.setIfInBounds_toArray]
    refine wpAnyH_take (i := 1) (v := ?_) rfl (by kernel_rfl) (by kernel_rfl) (by kernel_rfl) (fun _ _ _ h => Only.not_panic h) (Or.inl ⟨by rfl, fun W hW => ?_⟩) (by assumption) ?_
    rotate_left
    · have hW2 := hW
      obtain ⟨f0, f1, f2, f3, f4, f5, f6, f7, f8, f9, f10, f11, f12, f13, f14, f15, f16⟩ := HS.out W hW2
      clear hW hW2
      go_simp
      try with_reducible rfl
    try simp only [Act.put]
    refine wpAnyH_take (i := 2) (v := ?_) rfl (by kernel_rfl) (by kernel_rfl) (by kernel_rfl) (fun _ _ _ h => Only.not_panic h) (Or.inl ⟨by rfl, fun W hW => ?_⟩) (by assumption) ?_
    rotate_left
    · have hW2 := hW
      obtain ⟨f0, f1, f2, f3, f4, f5, f6, f7, f8, f9, f10, f11, f12, f13, f14, f15, f16⟩ := HS.out W hW2
      clear hW hW2
      go_simp
      try with_reducible rfl
    try simp only [Act.put]
    refine wpAnyH_take (i := 3) (v := ?_) rfl (by kernel_rfl) (by kernel_rfl) (by kernel_rfl) (fun _ _ _ h => Only.not_panic h) (Or.inl ⟨by rfl, fun W hW => ?_⟩) (by assumption) ?_
    rotate_left
    · have hW2 := hW
      obtain ⟨f0, f1, f2, f3, f4, f5, f6, f7, f8, f9, f10, f11, f12, f13, f14, f15, f16⟩ := HS.out W hW2
      clear hW hW2
      go_simp
      try with_reducible rfl
    try simp only [Act.put]
    refine wpAnyH_take (i := 4) (v := ?_) rfl (by kernel_rfl) (by kernel_rfl) (by kernel_rfl) (fun _ _ _ h => Only.not_panic h) (Or.inl ⟨by rfl, fun W hW => ?_⟩) (by assumption) ?_
    rotate_left
    · have hW2 := hW
      obtain ⟨f0, f1, f2, f3, f4, f5, f6, f7, f8, f9, f10, f11, f12, f13, f14, f15, f16⟩ := HS.out W hW2
      clear hW hW2
      go_simp
      try with_reducible rfl
    try simp only [Act.put]
    refine wpAnyH_take (i := 5) (v := ?_) rfl (by kernel_rfl) (by kernel_rfl) (by kernel_rfl) (fun _ _ _ h => Only.not_panic h) (Or.inl ⟨by rfl, fun W hW => ?_⟩) (by assumption) ?_
    rotate_left
    · have hW2 := hW
      obtain ⟨f0, f1, f2, f3, f4, f5, f6, f7, f8, f9, f10, f11, f12, f13, f14, f15, f16⟩ := HS.out W hW2
      clear hW hW2
      go_simp
      try with_reducible rfl
    try simp only [Act.put]
    refine wpAnyH_take (i := 6) (v := ?_) rfl (by kernel_rfl) (by kernel_rfl) (by kernel_rfl) (fun _ _ _ h => Only.not_panic h) (Or.inl ⟨by rfl, fun W hW => ?_⟩) (by assumption) ?_
    rotate_left
    · have hW2 := hW
      obtain ⟨f0, f1, f2, f3, f4, f5, f6, f7, f8, f9, f10, f11, f12, f13, f14, f15, f16⟩ := HS.out W hW2
      clear hW hW2
      go_simp
      try with_reducible rfl
    try simp only [Act.put]
    refine wpAnyH_ready (rs := [7, 8]) (by kernel_rfl) (by simp) ?_
    refine AllReadyH.cons rfl (fun K hK => ?_) ?_
    · go_simp
      refine (HKp.out _).mono ?_
      rintro e w7 ⟨rfl, hb7⟩
      try simp only []
      refine hK.out _ _ ?_ (fun hHeld => ?_)
      · exact B_trans hHeld hb7
      clear hK K
      try simp only [Act.put, List.setIfInBounds_toArray, List.set_cons_zero, List.set_cons_succ]
      refine wpAnyH_ready (rs := [8]) (by kernel_rfl) (by simp) ?_
      refine AllReadyH.cons rfl (fun K hK => ?_) ?_
      · go_simp
        have hpre := hHeld
        have o9 := Lib.hid (Ob.new (w7) #[.int .i64 0, .int .i64 0] 28)
        have hb9 := hHeld.size
        refine hK.out _ _ ?_ (fun hHeld => ?_)
        · exact B_alloc hHeld _
        clear hK K
        try simp only [Act.put, List.setIfInBounds_toArray, List.set_cons_zero, List.set_cons_succ]
        refine wpAnyH_ready (rs := [9]) (by kernel_rfl) (by simp) ?_
        refine AllReadyH.cons rfl (fun K hK => ?_) ?_
        · have v0 := o9.out.cell 0
          have v1 := o9.out.cell 1
          have g0 := o9.out.frozen 0
          have g1 := o9.out.frozen 1
          simp only [List.getElem?_toArray, List.getElem?_cons_zero, List.getElem?_cons_succ] at v0 v1
          go_simp
          refine hK.out _ _ ?_ (fun hHeld => ?_)
          · first | exact B_alloc hpre _ | exact (hHeld.setCell (by first | omega | (simp only; omega) | (simp; omega)) _).setCell (by first | omega | (simp only; omega) | (simp; omega)) _
          clear hK K
          try simp only [Act.put, List.setIfInBounds_toArray, List.set_cons_zero, List.set_cons_succ]
          refine wpAnyH_done (by kernel_rfl) (Only.mk ?_) _
          first | exact HC _ _ (by omega) (Ob.new _ _ _) hHeld | exact HC _ _ (Nat.le_refl _) ((o9.out.set 0 _).set 1 _) hHeld
        exact AllReadyH.nil
      exact AllReadyH.nil
    refine AllReadyH.cons rfl (fun K hK => ?_) ?_
    · go_simp
      have o9 := Lib.hid (show Ob (Wb.drew.alloc (.cells #[.int .i64 0, .int .i64 0] 28)) Wb.heap.size 28 #[.int .i64 0, .int .i64 0] from Ob.new _ _ _)
      have hpre := hHeld
      refine hK.out _ _ ?_ (fun hHeld => ?_)
      · exact B_alloc hHeld _
      clear hK K
      try simp only [Act.put, List.setIfInBounds_toArray, List.set_cons_zero, List.set_cons_succ]
      refine wpAnyH_ready (rs := [7]) (by kernel_rfl) (by simp) ?_
      refine AllReadyH.cons rfl (fun K hK => ?_) ?_
      · go_simp
        refine (HKp.out _).mono ?_
        rintro e w7 ⟨rfl, hb7⟩
        try simp only []
        replace o9 := Lib.hid (o9.out.below hb7)
        refine hK.out _ _ ?_ (fun hHeld => ?_)
        · exact B_trans hHeld hb7
        clear hK K
        try simp only [Act.put, List.setIfInBounds_toArray, List.set_cons_zero, List.set_cons_succ]
        refine wpAnyH_ready (rs := [9]) (by kernel_rfl) (by simp) ?_
        refine AllReadyH.cons rfl (fun K hK => ?_) ?_
        · have v0 := o9.out.cell 0
          have v1 := o9.out.cell 1
          have g0 := o9.out.frozen 0
          have g1 := o9.out.frozen 1
          simp only [List.getElem?_toArray, List.getElem?_cons_zero, List.getElem?_cons_succ] at v0 v1
          go_simp
          refine hK.out _ _ ?_ (fun hHeld => ?_)
          · first | exact B_alloc hpre _ | exact (hHeld.setCell (by first | omega | (simp only; omega) | (simp; omega)) _).setCell (by first | omega | (simp only; omega) | (simp; omega)) _
          clear hK K
          try simp only [Act.put, List.setIfInBounds_toArray, List.set_cons_zero, List.set_cons_succ]
          refine wpAnyH_done (by kernel_rfl) (Only.mk ?_) _
          first | exact HC _ _ (by omega) (Ob.new _ _ _) hHeld | exact HC _ _ (Nat.le_refl _) ((o9.out.set 0 _).set 1 _) hHeld
        exact AllReadyH.nil
      exact AllReadyH.nil
    exact AllReadyH.nil
  case done =>
    rintro D xs W hD rfl ⟨h1, h2, h3, h4, h5, h6⟩ hK
    have hres := Lib.hid (byS_none hkn h6)
    have c0 := h3.cell 0
    have f0 := h3.frozen 0
    simp only [List.getElem?_toArray, List.getElem?_cons_zero] at c0
    have hs4 := h3.set 0 (.int .i64 (-1))
    have e6 := h4.setCell (p := ⟨w.heap.size + 1 + 1, 0, none⟩) (by simp only; omega) (.int .i64 (-1))
    have eK : (W.setCell ⟨w.heap.size + 1 + 1, 0, none⟩ (.int .i64 (-1))).heap[D]? = some (.deferred (some [])) := (Below.heap_setCell _ _ _ _ (by simp only; omega)).trans hK
    have hq := grownBy_putObj' (W.setCell ⟨w.heap.size + 1 + 1, 0, none⟩ (.int .i64 (-1))) D (.deferred none)
    have E6 := Lib.hid (below_own e6 (Nat.le_refl _) hq (fun r e => by cases e; omega))
    have c1 := (hs4.grown hq (by intro e; cases e; omega)).cell 0
    simp only [List.setIfInBounds_toArray, List.set_cons_zero, List.getElem?_toArray, List.getElem?_cons_zero] at c1
    clear h1 h2 h3 h4 h6 hs4 e6 hq
    gi_wp2
    refine ⟨by simp, .inl ⟨_, _, rfl, run_takeDeferred eK, ?_⟩⟩
    exact ⟨.int .i64 (-1), by simp [results, Try.results112, go_sem, c1], ⟨by rw [hres.out], E6.out⟩⟩
  case stop =>
    rintro D c pre W hD hpre ⟨rfl, pre', x, rfl, h2, h3, h4, h5⟩ hK
    have hres := Lib.hid (byS_at hkn hpre h2 h3)
    have hq := grownBy_putObj' W D (.deferred none)
    have E6 := Lib.hid (below_own h5 (Nat.le_refl _) hq (fun r e => by cases e; omega))
    have c1 := (h4.grown hq (by intro e; cases e; omega)).cell 0
    simp only [List.getElem?_toArray, List.getElem?_cons_zero] at c1
    clear h2 h3 h4 h5 hq
    gi_wp2
    refine ⟨by simp, .inl ⟨_, _, rfl, run_takeDeferred hK, ?_⟩⟩
    exact ⟨.int .i64 (L.getD (kn - 1 - x.val) 0 : Nat), by simp [results, Try.results112, go_sem, c1], ⟨by rw [hres.out], E6.out⟩⟩
end Go.Proofs.Ytanjkhclhcnnaaa

/- Spans and Strikes of the reference: two slices are the same. -/
import Derived.Test.YtanjkhclhcnnaaaWJ
import Derived.Deep.RegionHeld3
import Derived.StillTailTactics
import Derived.Deep.Draws
namespace Go.Proofs.Ytanjkhclhcnnaaa
open Go.RowKit Go.Shelf

/-- Two lists of pairs agree up to a place. -/
theorem same_up {A B : List T2} (h : A.length = B.length) (hs : ∀ i, i < A.length → A.getD i (0, 0) = B.getD i (0, 0)) : A = B := by
  apply List.ext_getElem h
  intro i h1 h2
  have := hs i h1
  simpa [List.getD, h1, h2] using this

set_option maxRecDepth 100000 in
set_option maxHeartbeats 8000000 in
theorem spans_any (A B : List T2) (a b : Option Addr) (n m c d : Nat) (w : World) (hA : Sl2 w a n A) (hB : Sl2 w b m B) (hn : n ≤ 100000) (hm : m ≤ 100000) :
    Calls Try.prog 30 #[.slice a n c, .slice b m d] w fun e w' => e = .returned (.bool (decide (A = B))) ∧ Below w.heap.size w w' := by
  have hla := hA.len
  have hlb := hB.len
  replace hA := Lib.hid hA
  replace hB := Lib.hid hB
  by_cases hnm : n = m
  · subst hnm
    go_enter Try.func30, Try.ntmps30
    go_wp2
    go_loopg [5] n (fun gk i wr => ∃ k : Nat, gk = n - k ∧ k ≤ n ∧ i = .int .i64 (k : Int) ∧ (∀ j, j < k → A.getD j (0, 0) = B.getD j (0, 0)) ∧ ∃ q, wr = w.drewN q)
    case atStart => exact ⟨0, rfl, Nat.zero_le _, rfl, fun j hj => absurd hj (Nat.not_lt_zero _), 0, rfl⟩
    case round =>
      obtain ⟨k, hgk, hk, rfl, hs, q, rfl⟩ := hrel
      by_cases hlt : k < n
      · obtain ⟨b1, o1, rfl, hb1, hc1⟩ := hA.out.at_ (by omega)
        obtain ⟨b2, o2, rfl, hb2, hc2⟩ := hB.out.at_ (by omega)
        obtain ⟨x0, x1⟩ := hc1 k hlt
        obtain ⟨y0, y1⟩ := hc2 k hlt
        have hkn : (k : Int) < n := by omega
        have hk0 : (0 : Int) ≤ k := by omega
        have hs' := Lib.hid hs
        clear hc1 hc2 hs
        by_cases e : A.getD k (0, 0) = B.getD k (0, 0)
        · rw [← e] at y0 y1
          have hs2 : Hid (∀ j, j < k + 1 → A.getD j (0, 0) = B.getD j (0, 0)) := fun j hj => by
            by_cases e2 : j = k
            · subst e2; exact e
            · exact hs'.out j (by omega)
          clear e
          generalize A.getD k (0, 0) = x at x0 x1 y0 y1
          go_wp2_with fail
          go_quiet (fail)
          go_wp2
          go_roundg (n - (k + 1))
          case measure => omega
          case rel => exact ⟨k + 1, rfl, hlt, by push_cast; rfl, hs2.out, _, rfl⟩
        · have hne : Hid (A ≠ B) := fun h => e (by rw [h])
          generalize A.getD k (0, 0) = x at x0 x1 e
          generalize B.getD k (0, 0) = y at y0 y1 e
          obtain ⟨x0', x1'⟩ := x
          obtain ⟨y0', y1'⟩ := y
          simp only at x0 x1 y0 y1
          have e' : ¬ (x0' = y0' ∧ x1' = y1') := fun h => e (by rw [h.1, h.2])
          clear e
          replace hne := Lib.hid (show decide (A = B) = false from decide_eq_false hne)
          clear hs'
          by_cases e0 : x0' = y0'
          · have e1 : ¬ x1' = y1' := fun h => e' ⟨e0, h⟩
            subst e0
            clear e'
            go_wp2_with fail
            go_quiet (fail)
            go_wp2
            go_ret
            exact ⟨by rw [hne.out]; rfl, below_drewN (below_drewN (Below.refl _ _) _) _⟩
          · clear e'
            go_wp2_with fail
            go_quiet (fail)
            go_wp2
            go_ret
            exact ⟨by rw [hne.out]; rfl, below_drewN (below_drewN (Below.refl _ _) _) _⟩
      · obtain rfl : k = n := by omega
        have hres : Hid (decide (A = B) = true) := decide_eq_true (same_up (by omega) (fun i hi => hs i (by omega)))
        have hkn : ¬ (k : Int) < k := by omega
        clear hs
        go_wp2
        go_ret
        exact ⟨by rw [hres.out]; rfl, below_drewN (Below.refl _ _) _⟩
  · have hres : Hid (decide (A = B) = false) := decide_eq_false (fun h => hnm (by rw [← hla, ← hlb, h]))
    have hnm' : ¬ ((n : Int) = m) := by omega
    go_enter Try.func30, Try.ntmps30
    go_wp2
    go_ret
    exact ⟨by rw [hres.out]; rfl, Below.refl _ _⟩

set_option maxRecDepth 100000 in
set_option maxHeartbeats 8000000 in
theorem strikes_any (A B : List T2) (a b : Option Addr) (n m c d : Nat) (w : World) (hA : Sl2 w a n A) (hB : Sl2 w b m B) (hn : n ≤ 100000) (hm : m ≤ 100000) :
    Calls Try.prog 31 #[.slice a n c, .slice b m d] w fun e w' => e = .returned (.bool (decide (A = B))) ∧ Below w.heap.size w w' := by
  have hla := hA.len
  have hlb := hB.len
  replace hA := Lib.hid hA
  replace hB := Lib.hid hB
  by_cases hnm : n = m
  · subst hnm
    go_enter Try.func31, Try.ntmps31
    go_wp2
    go_loopg [5] n (fun gk i wr => ∃ k : Nat, gk = n - k ∧ k ≤ n ∧ i = .int .i64 (k : Int) ∧ (∀ j, j < k → A.getD j (0, 0) = B.getD j (0, 0)) ∧ ∃ q, wr = w.drewN q)
    case atStart => exact ⟨0, rfl, Nat.zero_le _, rfl, fun j hj => absurd hj (Nat.not_lt_zero _), 0, rfl⟩
    case round =>
      obtain ⟨k, hgk, hk, rfl, hs, q, rfl⟩ := hrel
      by_cases hlt : k < n
      · obtain ⟨b1, o1, rfl, hb1, hc1⟩ := hA.out.at_ (by omega)
        obtain ⟨b2, o2, rfl, hb2, hc2⟩ := hB.out.at_ (by omega)
        obtain ⟨x0, x1⟩ := hc1 k hlt
        obtain ⟨y0, y1⟩ := hc2 k hlt
        have hkn : (k : Int) < n := by omega
        have hk0 : (0 : Int) ≤ k := by omega
        have hs' := Lib.hid hs
        clear hc1 hc2 hs
        by_cases e : A.getD k (0, 0) = B.getD k (0, 0)
        · rw [← e] at y0 y1
          have hs2 : Hid (∀ j, j < k + 1 → A.getD j (0, 0) = B.getD j (0, 0)) := fun j hj => by
            by_cases e2 : j = k
            · subst e2; exact e
            · exact hs'.out j (by omega)
          clear e
          generalize A.getD k (0, 0) = x at x0 x1 y0 y1
          go_wp2_with fail
          go_quiet (fail)
          go_wp2
          go_roundg (n - (k + 1))
          case measure => omega
          case rel => exact ⟨k + 1, rfl, hlt, by push_cast; rfl, hs2.out, _, rfl⟩
        · have hne : Hid (A ≠ B) := fun h => e (by rw [h])
          generalize A.getD k (0, 0) = x at x0 x1 e
          generalize B.getD k (0, 0) = y at y0 y1 e
          obtain ⟨x0', x1'⟩ := x
          obtain ⟨y0', y1'⟩ := y
          simp only at x0 x1 y0 y1
          have e' : ¬ (x0' = y0' ∧ x1' = y1') := fun h => e (by rw [h.1, h.2])
          clear e
          replace hne := Lib.hid (show decide (A = B) = false from decide_eq_false hne)
          clear hs'
          by_cases e0 : x0' = y0'
          · have e1 : ¬ x1' = y1' := fun h => e' ⟨e0, h⟩
            subst e0
            clear e'
            go_wp2_with fail
            go_quiet (fail)
            go_wp2
            go_ret
            exact ⟨by rw [hne.out]; rfl, below_drewN (below_drewN (Below.refl _ _) _) _⟩
          · clear e'
            go_wp2_with fail
            go_quiet (fail)
            go_wp2
            go_ret
            exact ⟨by rw [hne.out]; rfl, below_drewN (below_drewN (Below.refl _ _) _) _⟩
      · obtain rfl : k = n := by omega
        have hres : Hid (decide (A = B) = true) := decide_eq_true (same_up (by omega) (fun i hi => hs i (by omega)))
        have hkn : ¬ (k : Int) < k := by omega
        clear hs
        go_wp2
        go_ret
        exact ⟨by rw [hres.out]; rfl, below_drewN (Below.refl _ _) _⟩
  · have hres : Hid (decide (A = B) = false) := decide_eq_false (fun h => hnm (by rw [← hla, ← hlb, h]))
    have hnm' : ¬ ((n : Int) = m) := by omega
    go_enter Try.func31, Try.ntmps31
    go_wp2
    go_ret
    exact ⟨by rw [hres.out]; rfl, Below.refl _ _⟩
end Go.Proofs.Ytanjkhclhcnnaaa

/- From behind: the mathematics. -/
import Derived.Test.YtanjkhclhcnnaaaDM
namespace Go.Proofs.Ytanjkhclhcnnaaa
open Go.RowKit Go.Shelf

theorem low_test {r : RuA} {s1 n0 x0 : Int} {c i : Nat} (h : lowN r s1 n0 x0 c < c) (hi : i ≤ lowN r s1 n0 x0 c) : mostS r s1 (n0 + i) < x0 ↔ i < lowN r s1 n0 x0 c := by
  obtain ⟨-, -, h3, h4⟩ := @firstT_spec (fun i => decide (x0 ≤ mostS r s1 (n0 + i))) c 0
  have h5 := h4 (by unfold lowN at h; omega)
  constructor
  · intro hlt
    rcases Nat.lt_or_ge i (lowN r s1 n0 x0 c) with h6 | h6
    · exact h6
    · obtain rfl : i = lowN r s1 n0 x0 c := by omega
      have h7 := of_decide_eq_true h5
      have h8 : x0 ≤ mostS r s1 (n0 + (lowN r s1 n0 x0 c : Nat)) := h7
      omega
  · intro hlt
    have h7 := of_decide_eq_false (h3 i (Nat.zero_le _) hlt)
    omega
theorem high_test {r : RuA} {s0 n0 x1 : Int} {c i : Nat} (hf : 0 ≤ r.feed) (hs : 0 ≤ s0) (hi : i < c) : x1 < leastS r s0 (n0 + i) ↔ aboveN r s0 n0 x1 c ≤ i := by
  obtain ⟨-, -, h3, h4⟩ := @firstT_spec (fun i => decide (x1 < leastS r s0 (n0 + i))) c 0
  constructor
  · intro hlt
    rcases Nat.lt_or_ge i (aboveN r s0 n0 x1 c) with h6 | h6
    · have h7 := of_decide_eq_false (h3 i (Nat.zero_le _) h6)
      exact absurd hlt h7
    · exact h6
  · intro hle
    have h5 := of_decide_eq_true (h4 (by unfold aboveN at hle; omega))
    have h8 : x1 < leastS r s0 (n0 + (aboveN r s0 n0 x1 c : Nat)) := h5
    have h9 := least_mono (r := r) (a := n0 + (aboveN r s0 n0 x1 c : Nat)) (b := n0 + i) hf hs (by omega)
    omega
/-- A span within another one (both ends, be it empty). -/
structure In2 (x o : T2) : Prop where
  a : o.1 ≤ x.1 ∧ x.1 ≤ o.2
  b : o.1 ≤ x.2 ∧ x.2 ≤ o.2
/-- What a morning's levels and the next one's have to do with each other. -/
structure Fol (r : RuA) (s n o : T2) : Prop where
  le : n.1 ≤ n.2
  lo : leastS r s.1 n.1 ≤ o.1
  hi : o.2 ≤ mostS r s.2 n.2
theorem low_lt {r : RuA} {s n o x : T2} (h : Fol r s n o) (hx : In2 x o) : lowN r s.2 n.1 x.1 (n.2 - n.1 + 1).toNat < (n.2 - n.1 + 1).toNat := by
  obtain ⟨h1, h2, h3⟩ := h
  obtain ⟨⟨a1, a2⟩, b1, b2⟩ := hx
  obtain ⟨-, e2, e3, e4⟩ := @firstT_spec (fun i => decide (x.1 ≤ mostS r s.2 (n.1 + i))) (n.2 - n.1 + 1).toNat 0
  rcases Nat.lt_or_ge (lowN r s.2 n.1 x.1 (n.2 - n.1 + 1).toNat) (n.2 - n.1 + 1).toNat with h | h
  · exact h
  · have h7 := of_decide_eq_false (e3 ((n.2 - n.1).toNat) (Nat.zero_le _) (by unfold lowN at h; omega))
    rw [show n.1 + (((n.2 - n.1).toNat : Nat) : Int) = n.2 by omega] at h7
    omega
theorem above_pos {r : RuA} {s n o x : T2} (hf : 0 ≤ r.feed) (hs : 0 ≤ s.1) (h : Fol r s n o) (hx : In2 x o) : 0 < aboveN r s.1 n.1 x.2 (n.2 - n.1 + 1).toNat := by
  obtain ⟨h1, h2, h3⟩ := h
  obtain ⟨⟨a1, a2⟩, b1, b2⟩ := hx
  rcases Nat.eq_zero_or_pos (aboveN r s.1 n.1 x.2 (n.2 - n.1 + 1).toNat) with h | h
  · have := (high_test (r := r) (s0 := s.1) (n0 := n.1) (x1 := x.2) (c := (n.2 - n.1 + 1).toNat) (i := 0) hf hs (by omega)).2 (by omega)
    rw [show n.1 + ((0 : Nat) : Int) = n.1 by omega] at this
    omega
  · exact h
theorem above_le (r : RuA) (s0 n0 x1 : Int) (c : Nat) : aboveN r s0 n0 x1 c ≤ c := by
  obtain ⟨-, e2, -, -⟩ := @firstT_spec (fun i => decide (x1 < leastS r s0 (n0 + i))) c 0
  unfold aboveN
  omega
theorem before_in {r : RuA} {s n o x : T2} (hf : 0 ≤ r.feed) (hs : 0 ≤ s.1) (h : Fol r s n o) (hx : In2 x o) : In2 (beforeS r s n x) n := by
  have h1 := low_lt h hx
  have h2 := above_pos hf hs h hx
  have h3 := above_le r s.1 n.1 x.2 (n.2 - n.1 + 1).toNat
  have h4 := h.le
  unfold beforeS
  exact ⟨⟨by simp only; omega, by simp only; omega⟩, by simp only; omega, by simp only; omega⟩
/-- A row of levels in which each morning follows from the one before. -/
def Row (r : RuA) (ss L : List T2) : Prop := (∀ i, i < L.length → (L.getD i (0, 0)).1 ≤ (L.getD i (0, 0)).2) ∧ ∀ m, m + 1 < L.length → leastS r (ss.getD m (0, 0)).1 (L.getD m (0, 0)).1 ≤ (L.getD (m + 1) (0, 0)).1 ∧ (L.getD (m + 1) (0, 0)).2 ≤ mostS r (ss.getD m (0, 0)).2 (L.getD m (0, 0)).2
theorem Row.fol {r : RuA} {ss L : List T2} (h : Row r ss L) {m : Nat} (hm : m + 1 < L.length) : Fol r (ss.getD m (0, 0)) (L.getD m (0, 0)) (L.getD (m + 1) (0, 0)) := ⟨h.1 m (by omega), (h.2 m hm).1, (h.2 m hm).2⟩
theorem eat_sub (r : RuA) (ss : List T2) (ts : List T3) (mor : Nat → Nat) (m : Nat) : ∀ (W tk : List Nat) (can : T2) (st : List T2), can.1 ≤ (eatS r ss ts mor m W tk can st).2.2.1.1 ∧ (eatS r ss ts mor m W tk can st).2.2.1.2 ≤ can.2
  | [], tk, can, st => by rw [eat_nil]; exact ⟨Int.le_refl _, Int.le_refl _⟩
  | i :: W, tk, can, st => by
    by_cases hm : mor i = m
    · by_cases hc : max can.1 (keepT r ts i).1 ≤ min can.2 (keepT r ts i).2
      · rw [eat_take r ss ts mor W tk can st hm hc]
        have := eat_sub r ss ts mor m W (tk ++ [i]) (max can.1 (keepT r ts i).1, min can.2 (keepT r ts i).2) st
        simp only at this
        omega
      · rw [eat_strike r ss ts mor W tk can st hm hc]
        exact eat_sub r ss ts mor m W tk can _
    · rw [eat_no r ss ts mor W tk can st hm]
      exact ⟨Int.le_refl _, Int.le_refl _⟩
theorem getD_snoc {L : List T2} {p : T2} {i : Nat} : (L ++ [p]).getD i (0, 0) = if i < L.length then L.getD i (0, 0) else if i = L.length then p else (0, 0) := by
  simp only [List.getD]
  split
  · rename_i h; rw [List.getElem?_append_left h]
  · split
    · rename_i h; subst h; simp
    · rw [List.getElem?_append_right (by omega), List.getElem?_eq_none (by simp; omega)]; rfl
theorem reach_row {r : RuA} {hs ws : List T2} (h : RuOK r hs ws) {ss : List T2} {N : Nat} (hss : ss.length = N) (hst : ∀ s ∈ ss, StrOK s) (ts : List T3) (mor : Nat → Nat) (L : List Nat) {p : T2} (hp : CanOK p) : ∀ k, k ≤ N + 1 →
    Row r ss (reachS r ss ts mor ⟨L, [], p, [], []⟩ (List.range k)).lev ∧ CanOK (reachS r ss ts mor ⟨L, [], p, [], []⟩ (List.range k)).can ∧ (reachS r ss ts mor ⟨L, [], p, [], []⟩ (List.range k)).lev.length = k ∧ (0 < k → (reachS r ss ts mor ⟨L, [], p, [], []⟩ (List.range k)).lev.getD (k - 1) (0, 0) = (reachS r ss ts mor ⟨L, [], p, [], []⟩ (List.range k)).can)
  | 0, _ => ⟨⟨fun i hi => by simp [reachS] at hi, fun m hm => by simp [reachS] at hm⟩, hp, rfl, fun h => by omega⟩
  | k + 1, hk => by
    obtain ⟨h1, h2, h3, h4⟩ := reach_row h hss hst ts mor L hp k (by omega)
    rw [List.range_succ, reach_snoc]
    generalize reachS r ss ts mor ⟨L, [], p, [], []⟩ (List.range k) = R at h1 h2 h3 h4
    have hc : CanOK (eatS r ss ts mor k R.wait R.taken (canS r ss k R.can) R.struck).2.2.1 := eat_can h ss ts mor k R.wait R.taken _ R.struck (h2.can h hss hst (by omega))
    have hsub := eat_sub r ss ts mor k R.wait R.taken (canS r ss k R.can) R.struck
    unfold stepR
    generalize (eatS r ss ts mor k R.wait R.taken (canS r ss k R.can) R.struck).2.2.1 = c at hc hsub
    refine ⟨⟨?_, ?_⟩, hc, by simp [h3], fun _ => by rw [getD_snoc, if_neg (by omega), if_pos (by omega)]⟩
    · intro i hi
      simp only [List.length_append, List.length_cons, List.length_nil] at hi
      rw [getD_snoc]
      by_cases h5 : i < R.lev.length
      · rw [if_pos h5]; exact h1.1 i h5
      · rw [if_neg h5, if_pos (by omega)]; exact hc.le
    · intro m hm
      simp only [List.length_append, List.length_cons, List.length_nil] at hm
      rw [getD_snoc, getD_snoc, if_pos (by omega)]
      by_cases h5 : m + 1 < R.lev.length
      · rw [if_pos h5]; exact h1.2 m h5
      · rw [if_neg h5, if_pos (by omega)]
        obtain rfl : k = m + 1 := by omega
        have h6 := h4 (by omega)
        rw [show m + 1 - 1 = m by omega] at h6
        rw [h6]
        unfold canS at hsub
        rw [if_pos (by omega), show m + 1 - 1 = m by omega] at hsub
        exact hsub
def backN (N j : Nat) : List Nat := (List.range j).map fun x => N - 1 - x
theorem backN_succ (N j : Nat) : backN N (j + 1) = backN N j ++ [N - 1 - j] := by simp [backN, List.range_succ]
theorem backN_all (N : Nat) : backL N (List.finRange N) = backN N N := by
  apply List.ext_getElem
  · simp [backL, backN]
  · intro i h1 h2
    simp [backL, backN]
theorem getD_set {L : List T2} {m i : Nat} {p : T2} (hm : m < L.length) : (L.set m p).getD i (0, 0) = if i = m then p else L.getD i (0, 0) := by
  by_cases h : i = m
  · subst h; simp [List.getD, hm]
  · rw [if_neg h]; simp [List.getD, show m ≠ i from fun e => h e.symm]
/-- From behind, each morning's span stays within what it was, and those before are as they were. -/
theorem back_in {r : RuA} {ss L : List T2} {N : Nat} (hf : 0 ≤ r.feed) (hst : ∀ s ∈ ss, StrOK s) (hss : ss.length = N) (hR : Row r ss L) (hl : L.length = N + 1) : ∀ j, j ≤ N →
    (∀ i, i < N - j → (knownFold r ss L (backN N j)).getD i (0, 0) = L.getD i (0, 0)) ∧ ∀ i, i ≤ N → In2 ((knownFold r ss L (backN N j)).getD i (0, 0)) (L.getD i (0, 0))
  | 0, _ => ⟨fun _ _ => rfl, fun i hi => ⟨⟨Int.le_refl _, hR.1 i (by omega)⟩, hR.1 i (by omega), Int.le_refl _⟩⟩
  | j + 1, hj => by
    obtain ⟨h1, h2⟩ := back_in hf hst hss hR hl j (by omega)
    rw [backN_succ, known_snoc]
    have hlen := known_len r ss (backN N j) L
    generalize knownFold r ss L (backN N j) = K at h1 h2 hlen
    unfold knownStep
    rw [h1 (N - 1 - j) (by omega)]
    refine ⟨fun i hi => ?_, fun i hi => ?_⟩
    · rw [getD_set (by omega), if_neg (by omega)]
      exact h1 i (by omega)
    · rw [getD_set (by omega)]
      by_cases h : i = N - 1 - j
      · rw [if_pos h, h]
        exact before_in hf (hst _ (getD_lt (by omega))).lo (hR.fol (by omega)) (h2 _ (by omega))
      · rw [if_neg h]
        exact h2 i hi
end Go.Proofs.Ytanjkhclhcnnaaa

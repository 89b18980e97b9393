/- The reference's order. -/
import Derived.Test.YtanjkhclhcnnaaaDJ
import Derived.Test.YtanjkhclhcnnaaaMD
namespace Go.Proofs.Ytanjkhclhcnnaaa
open Go.RowKit Go.Shelf

theorem row1_form {W : World} {base : Nat} {e : TypeId} {v : Value} {n : Nat} {xs : List Nat} (h : W.ownsRow base e 1 v n (ints xs)) (hn : 0 < n) :
    ∃ q cap cur, v = .slice (some ⟨q, 0, none⟩) n cap ∧ base ≤ q ∧ Ob W q e cur ∧ n ≤ cap ∧ cap ≤ maxLen ∧ cur.size = cap * 1 ∧ cur.toList.take (n * 1) = ints xs := by
  rcases h.2 with ⟨-, h2⟩ | ⟨q, cap, cur, h1, h2, h3, h4, h5, h6, h7⟩
  · omega
  · exact ⟨q, cap, cur, h1, h2, h3, h4, h5, h6, h7⟩
theorem row1_cell {W : World} {e : TypeId} {q n : Nat} {cur : Array Value} {xs : List Nat} (hO : Ob W q e cur) (ht : cur.toList.take (n * 1) = ints xs) (hx : xs.length = n) {j : Nat} (hj : j < n) : W.cell? ⟨q, j, none⟩ = some (.int .i64 (xs.getD j 0 : Nat)) := by
  rw [hO.cell]
  have e2 : (cur.toList.take (n * 1))[j]? = (ints xs)[j]? := by rw [ht]
  rw [List.getElem?_take_of_lt (by omega)] at e2
  have e3 : cur[j]? = (ints xs)[j]? := by simpa using e2
  rw [e3]
  simp [ints, List.getD, show j < xs.length by omega]
theorem row1_set {W : World} {base : Nat} {e : TypeId} {q n cap : Nat} {xs : List Nat} (h : W.ownsRow base e 1 (.slice (some ⟨q, 0, none⟩) n cap) n (ints xs)) (j a : Nat) (hn : 0 < n) : (W.setCell ⟨q, j, none⟩ (.int .i64 (a : Nat))).ownsRow base e 1 (.slice (some ⟨q, 0, none⟩) n cap) n (ints (xs.set j a)) := by
  obtain ⟨q', cap', cur, he, h2, h3, h4, h5, h6, h7⟩ := row1_form h hn
  cases he
  refine ⟨by have := h.1; simpa [ints] using this, Or.inr ⟨q, cap, cur.setIfInBounds j (.int .i64 (a : Nat)), rfl, h2, h3.set j _, h4, h5, by simpa using h6, ?_⟩⟩
  rw [Array.toList_setIfInBounds, List.take_set, h7]
  simp [ints, List.map_set]

def ltD (ts : List T3) (a b : Nat) : Bool := decide (cmpN (dayOf ts a) (dayOf ts b) < 0)
theorem ltD_iff (ts : List T3) (a b : Nat) : ltD ts a b = decide (dayOf ts a < dayOf ts b) := by
  unfold ltD
  congr 1
  simp only [eq_iff_iff]
  unfold cmpN
  constructor
  · intro h; split at h
    · assumption
    · split at h <;> omega
  · intro h; rw [if_pos h]; omega
theorem swap_take (l : List Nat) (j k : Nat) (hk : j + 1 < k) : swapL (l.take k) j = (swapL l j).take k := by
  unfold swapL
  rw [List.take_set, List.take_set]
  have e : ∀ i, i < k → (l.take k).getD i 0 = l.getD i 0 := fun i hi => by simp [List.getD, List.getElem?_take_of_lt hi]
  rw [e j (by omega), e (j + 1) hk]
theorem sink_take (lt : Nat → Nat → Bool) : ∀ (j : Nat) (l : List Nat) (k : Nat), j < k → sinkL lt j (l.take k) = (sinkL lt j l).take k
  | 0, _, _, _ => rfl
  | j + 1, l, k, hk => by
    have e : ∀ i, i < k → (l.take k).getD i 0 = l.getD i 0 := fun i hi => by simp [List.getD, List.getElem?_take_of_lt hi]
    unfold sinkL
    rw [e j (by omega), e (j + 1) hk]
    split
    · rw [swap_take l j k hk, sink_take lt j _ k (by omega)]
    · rfl
theorem sink_past (lt : Nat → Nat → Bool) : ∀ (j : Nat) (l : List Nat) (i : Nat), j < i → j < l.length → (sinkL lt j l).getD i 0 = l.getD i 0
  | 0, _, _, _, _ => rfl
  | j + 1, l, i, hi, hl => by
    unfold sinkL
    split
    · rw [sink_past lt j _ i (by omega) (by rw [swapL_len]; omega), swapL_at hl, if_neg (by omega), if_neg (by omega)]
    · rfl
theorem isort_past (lt : Nat → Nat → Bool) (l : List Nat) : ∀ (k i : Nat), k < i → k < l.length → (isortL lt l k).getD i 0 = l.getD i 0
  | 0, _, _, _ => rfl
  | k + 1, i, hi, hl => by
    unfold isortL
    rw [sink_past lt _ _ i hi (by rw [isortL_len]; exact hl), isort_past lt l k i (by omega) (by omega)]
/-- The first k tests in order. -/
def OL (ts : List T3) (n k : Nat) : List Nat := (isortL (ltD ts) (List.range n) (k - 1)).take k
theorem OL_len (ts : List T3) {n k : Nat} (h : k ≤ n) : (OL ts n k).length = k := by unfold OL; rw [List.length_take, isortL_len]; simp; omega
theorem OL_step (ts : List T3) {n k : Nat} (h : k < n) : sinkL (ltD ts) k (OL ts n k ++ [k]) = OL ts n (k + 1) := by
  have e1 : OL ts n k ++ [k] = (isortL (ltD ts) (List.range n) (k - 1)).take (k + 1) := by
    have hl : k < (isortL (ltD ts) (List.range n) (k - 1)).length := by rw [isortL_len]; simpa using h
    rw [List.take_succ_eq_append_getElem hl]
    unfold OL
    congr 2
    rcases Nat.eq_zero_or_pos k with rfl | hk
    · simp [isortL]
    · have := isort_past (ltD ts) (List.range n) (k - 1) k (by omega) (by simp; omega)
      rw [List.getD_eq_getElem?_getD, List.getElem?_eq_getElem hl] at this
      simp only [Option.getD_some] at this
      rw [this]
      simp [List.getD, h]
  rw [e1, sink_take _ k _ (k + 1) (by omega)]
  unfold OL
  rw [Nat.add_sub_cancel]
  congr 1
  rcases Nat.eq_zero_or_pos k with rfl | hk
  · rfl
  · obtain ⟨j, rfl⟩ : ∃ j, k = j + 1 := ⟨k - 1, by omega⟩
    rfl
theorem OL_all (ts : List T3) (n : Nat) : OL ts n n = orderL ts n := by
  unfold OL orderL
  rw [List.take_of_length_le (by rw [isortL_len]; simp)]
  rfl
end Go.Proofs.Ytanjkhclhcnnaaa

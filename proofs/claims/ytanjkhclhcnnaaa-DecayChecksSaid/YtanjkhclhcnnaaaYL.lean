/- Spans that stay in bounds; what is known, from behind, as a fold. -/
import Derived.Test.YtanjkhclhcnnaaaYF
import Derived.Test.YtanjkhclhcnnaaaYG
import Derived.Test.YtanjkhclhcnnaaaYD
namespace Go.Proofs.Ytanjkhclhcnnaaa
open Go.RowKit Go.Shelf

/-- A span of levels that may be empty by one. -/
structure OkSp (p : T2) : Prop where
  lo : 0 ≤ p.1
  hi : p.2 ≤ 1000000
  le : p.1 ≤ p.2 + 1
/-- A span of strengths. -/
structure StrOK (p : T2) : Prop where
  lo : 0 ≤ p.1
  hi : p.2 ≤ 1000
  le : p.1 ≤ p.2
theorem gain_up {r : RuA} {hs ws : List T2} (h : RuOK r hs ws) {n s s' : Int} (hn : 0 ≤ n) (hs : s ≤ s') : gainS r n s ≤ gainS r n s' := by
  unfold gainS
  have a := Int.mul_nonneg hn h.feed.1
  have b := h.own.1
  exact Int.mul_le_mul_of_nonneg_left hs (by omega)
theorem least_most {r : RuA} {hs ws : List T2} (h : RuOK r hs ws) {n s s' : Int} (hn : 0 ≤ n) (hs : s ≤ s') : leastS r s n ≤ mostS r s' n := by
  have := gain_up h hn hs
  unfold leastS mostS
  omega
theorem before_ok {r : RuA} {hs ws : List T2} (h : RuOK r hs ws) {s n x : T2} (hs : StrOK s) (hn : OkSp n) (hx : OkSp x) : OkSp (beforeS r s n x) := by
  obtain ⟨n1, n2, n3⟩ := hn
  obtain ⟨x1, x2, x3⟩ := hx
  have hc : ((n.2 - n.1 + 1).toNat : Int) = n.2 - n.1 + 1 := by omega
  unfold beforeS
  generalize (n.2 - n.1 + 1).toNat = c at hc
  have e1 := firstT_spec (p := fun i => decide (x.1 ≤ mostS r s.2 (n.1 + (i : Int)))) (f := c) (k := 0)
  have e2 := firstT_spec (p := fun i => decide (x.2 < leastS r s.1 (n.1 + (i : Int)))) (f := c) (k := 0)
  have hle : lowN r s.2 n.1 x.1 c ≤ aboveN r s.1 n.1 x.2 c := by
    have hbc : aboveN r s.1 n.1 x.2 c ≤ c := by have := e2.2.1; rw [Nat.zero_add] at this; exact this
    rcases Nat.lt_or_ge (aboveN r s.1 n.1 x.2 c) c with h1 | h1
    · have h2 := e2.2.2.2 (by rw [Nat.zero_add]; exact h1)
      rw [decide_eq_true_eq] at h2
      have h3 := least_most h (n := n.1 + (aboveN r s.1 n.1 x.2 c : Int)) (by omega) hs.le
      rcases Nat.lt_or_ge (aboveN r s.1 n.1 x.2 c) (lowN r s.2 n.1 x.1 c) with h4 | h4
      · have h5 := e1.2.2.1 (aboveN r s.1 n.1 x.2 c) (Nat.zero_le _) h4
        rw [decide_eq_false_iff_not] at h5
        have h2' : x.2 < leastS r s.1 (n.1 + (aboveN r s.1 n.1 x.2 c : Int)) := h2
        omega
      · exact h4
    · have h2 : lowN r s.2 n.1 x.1 c ≤ c := by have := e1.2.1; rw [Nat.zero_add] at this; exact this
      omega
  have hbc : aboveN r s.1 n.1 x.2 c ≤ c := by have := e2.2.1; rw [Nat.zero_add] at this; exact this
  exact ⟨by show 0 ≤ n.1 + (lowN r s.2 n.1 x.1 c : Int); omega, by show n.1 + (aboveN r s.1 n.1 x.2 c : Int) - 1 ≤ 1000000; omega, by show n.1 + (lowN r s.2 n.1 x.1 c : Int) ≤ n.1 + (aboveN r s.1 n.1 x.2 c : Int) - 1 + 1; omega⟩

/-- One morning from behind. -/
def knownStep (r : RuA) (ss : List T2) (L : List T2) (m : Nat) : List T2 := L.set m (beforeS r (ss.getD m (0, 0)) (L.getD m (0, 0)) (L.getD (m + 1) (0, 0)))
def knownFold (r : RuA) (ss : List T2) (L : List T2) (ms : List Nat) : List T2 := ms.foldl (knownStep r ss) L
theorem known_len (r : RuA) (ss : List T2) : ∀ (ms : List Nat) (L : List T2), (knownFold r ss L ms).length = L.length
  | [], _ => rfl
  | m :: ms, L => by
    unfold knownFold
    rw [List.foldl_cons]
    have := known_len r ss ms (knownStep r ss L m)
    unfold knownFold at this
    rw [this]
    simp [knownStep]
theorem known_snoc (r : RuA) (ss : List T2) (L : List T2) (ms : List Nat) (m : Nat) : knownFold r ss L (ms ++ [m]) = knownStep r ss (knownFold r ss L ms) m := by simp [knownFold]
theorem getD_lt {L : List T2} {i : Nat} (h : i < L.length) : L.getD i (0, 0) ∈ L := by
  have e : L.getD i (0, 0) = L[i] := by simp [List.getD, h]
  rw [e]; exact List.getElem_mem h
theorem known_ok {r : RuA} {hs ws : List T2} (h : RuOK r hs ws) {ss : List T2} {N : Nat} (hss : ss.length = N) (hst : ∀ s ∈ ss, StrOK s) : ∀ (ms : List Nat) (L : List T2), L.length = N + 1 → (∀ p ∈ L, OkSp p) → (∀ m ∈ ms, m < N) → ∀ p ∈ knownFold r ss L ms, OkSp p
  | [], _, _, hL, _ => hL
  | m :: ms, L, hl, hL, hm => by
    unfold knownFold
    rw [List.foldl_cons]
    have hmN := hm m (by simp)
    refine known_ok h hss hst ms (knownStep r ss L m) (by simp [knownStep, hl]) (fun p hp => ?_) (fun x hx => hm x (by simp [hx]))
    unfold knownStep at hp
    rcases List.mem_or_eq_of_mem_set hp with h1 | rfl
    · exact hL p h1
    · exact before_ok h (hst _ (getD_lt (by omega))) (hL _ (getD_lt (by omega))) (hL _ (getD_lt (by omega)))

/-- Cells that begin with spans. -/
structure SpC (C : Array Value) (L : List T2) : Prop where
  size : L.length * 2 ≤ C.size
  c : ∀ i, i < L.length → C[i * 2]? = some (.int .i64 (L.getD i (0, 0)).1) ∧ C[i * 2 + 1]? = some (.int .i64 (L.getD i (0, 0)).2)
theorem SpC.set {C : Array Value} {L : List T2} (h : SpC C L) {m : Nat} (_hm : m < L.length) (p : T2) : SpC ((C.setIfInBounds (m * 2) (.int .i64 p.1)).setIfInBounds (m * 2 + 1) (.int .i64 p.2)) (L.set m p) := by
  refine ⟨by simpa using h.size, fun i hi => ?_⟩
  rw [List.length_set] at hi
  obtain ⟨a, b⟩ := h.c i hi
  have hz := h.size
  by_cases e : m = i
  · subst e
    have e1 : (L.set m p).getD m (0, 0) = p := by simp [List.getD, hi]
    rw [e1]
    constructor
    · rw [Array.getElem?_setIfInBounds_ne (by omega), Array.getElem?_setIfInBounds_self_of_lt (by omega)]
    · rw [Array.getElem?_setIfInBounds_self_of_lt (by simp; omega)]
  · have e1 : (L.set m p).getD i (0, 0) = L.getD i (0, 0) := by simp [List.getD, e]
    rw [e1]
    constructor
    · rw [Array.getElem?_setIfInBounds_ne (by omega), Array.getElem?_setIfInBounds_ne (by omega)]; exact a
    · rw [Array.getElem?_setIfInBounds_ne (by omega), Array.getElem?_setIfInBounds_ne (by omega)]; exact b
/-- A block of cells stays while a walk's own records are written. -/
theorem Ob.own {W W1 : World} {B : Nat} {T : TypeId} {cs : Array Value} {row : Option Nat} (h : Ob W B T cs) (hg : W.grownBy W1 row) (hr : ∀ r, row = some r → ∃ o : Obj, W.heap[r]? = some o ∧ o.isCells = false) : Ob W1 B T cs :=
  h.grown hg (fun e => by
    obtain ⟨o, h1, h2⟩ := hr B e
    unfold Ob at h
    rw [h] at h1
    cases h1
    cases h2)
theorem row_own {W W1 : World} {base : Nat} {e : TypeId} {s n : Nat} {v : Value} {xs : List Value} {row : Option Nat} (h : W.ownsRow base e s v n xs) (hg : W.grownBy W1 row) (hr : ∀ r, row = some r → ∃ o : Obj, W.heap[r]? = some o ∧ o.isCells = false) : W1.ownsRow base e s v n xs := by
  refine h.kept hg ?_
  cases hv : v.ownBlock with
  | none => exact .inl rfl
  | some g =>
    refine .inr ?_
    intro e1
    obtain ⟨o, h1, h2⟩ := hr g e1.symm
    obtain ⟨c, fz, h3⟩ := Lib.ownsRow_kind h g hv
    rw [h3] at h1
    cases h1
    cases h2
theorem below_own {B : Nat} {w W W1 : World} {row : Option Nat} (h : Below B w W) (hB : B ≤ w.heap.size) (hg : W.grownBy W1 row) (hr : ∀ r, row = some r → B ≤ r) : Below B w W1 :=
  ⟨hg.os.trans h.os, hg.tape.trans h.tape, hg.output.trans h.output, Nat.le_trans h.size hg.size, fun i hi => (hg.block i (by have := h.size; omega) (fun e => by have := hr i e.symm; omega)).trans (h.block i hi)⟩
end Go.Proofs.Ytanjkhclhcnnaaa

/- What the parts are that lengths leave: plain mathematics on Shrink. -/
import Derived.Test.YtgjpbffoalldkaaGreatDoorWF
namespace Go.Proofs.YtgjpbffoalldkaaGreatDoor

theorem climb_spec (bad : Int → Bool) : ∀ (n : Nat) (lo hi : Int), hi - lo + 1 ≤ n → lo ≤ climb bad n lo hi ∧ (∀ q, lo ≤ q → q < climb bad n lo hi → bad q = true) ∧ (climb bad n lo hi ≤ hi → bad (climb bad n lo hi) = false)
  | 0, lo, hi, hn => by
    refine ⟨Int.le_refl _, fun q a b => ?_, fun h => ?_⟩
    · unfold climb at b; omega
    · unfold climb at h; omega
  | n + 1, lo, hi, hn => by
    unfold climb
    by_cases h : lo ≤ hi ∧ bad lo = true
    · rw [if_pos h]
      obtain ⟨h1, h2, h3⟩ := climb_spec bad n (lo + 1) hi (by omega)
      refine ⟨by omega, fun q a b => ?_, h3⟩
      by_cases e : q = lo
      · rw [e]; exact h.2
      · exact h2 q (by omega) b
    · rw [if_neg h]
      refine ⟨Int.le_refl _, fun q a b => by omega, fun hl => ?_⟩
      cases hb : bad lo with
      | false => rfl
      | true => exact absurd ⟨hl, hb⟩ h
theorem fall_spec (bad : Int → Bool) : ∀ (n : Nat) (lo hi : Int), hi - lo + 1 ≤ n → fall bad n lo hi ≤ hi ∧ (∀ q, fall bad n lo hi < q → q ≤ hi → bad q = true) ∧ (lo ≤ fall bad n lo hi → bad (fall bad n lo hi) = false)
  | 0, lo, hi, hn => by
    refine ⟨Int.le_refl _, fun q a b => ?_, fun h => ?_⟩
    · unfold fall at a; omega
    · unfold fall at h; omega
  | n + 1, lo, hi, hn => by
    unfold fall
    by_cases h : lo ≤ hi ∧ bad hi = true
    · rw [if_pos h]
      obtain ⟨h1, h2, h3⟩ := fall_spec bad n lo (hi - 1) (by omega)
      refine ⟨by omega, fun q a b => ?_, h3⟩
      by_cases e : q = hi
      · rw [e]; exact h.2
      · exact h2 q a (by omega)
    · rw [if_neg h]
      refine ⟨Int.le_refl _, fun q a b => by omega, fun hl => ?_⟩
      cases hb : bad hi with
      | false => rfl
      | true => exact absurd ⟨hl, hb⟩ h

/-- A length allows so many parts. -/
def okP (l : T3) (mi p : Int) : Prop := overI l mi p ≤ l.2.2 * 10000 ∧ -l.2.2 * 10000 ≤ overI l mi p
theorem over_mono (l : T3) {mi p q : Int} (h1 : 0 ≤ l.1) (h2 : 0 ≤ mi) (h : p ≤ q) : overI l mi q ≤ overI l mi p := by
  unfold overI
  have := Int.mul_le_mul_of_nonneg_left (show 10000 - q ≤ 10000 - p by omega) (Int.mul_nonneg h1 h2)
  omega
/-- The span that a length leaves of a span. -/
theorem nar_spec (l : T3) {mi lo hi : Int} (h1 : 0 ≤ l.1) (h2 : 0 ≤ mi) (h3 : 0 ≤ lo) (h4 : hi ≤ 500) (p : Int) : (narLo l mi lo hi ≤ p ∧ p ≤ narHi l mi lo hi) ↔ (lo ≤ p ∧ p ≤ hi ∧ okP l mi p) := by
  obtain ⟨a1, a2, a3⟩ := climb_spec (tooLong l mi) 502 lo hi (by omega)
  obtain ⟨b1, b2, b3⟩ := fall_spec (tooShort l mi) 502 (narLo l mi lo hi) hi (by unfold narLo; omega)
  have e1 : narLo l mi lo hi = climb (tooLong l mi) 502 lo hi := rfl
  have e2 : narHi l mi lo hi = fall (tooShort l mi) 502 (narLo l mi lo hi) hi := rfl
  rw [← e1] at a1 a2 a3
  rw [← e2] at b1 b2 b3
  constructor
  · rintro ⟨c1, c2⟩
    have d1 := a3 (by omega)
    have d2 := b3 (by omega)
    unfold tooLong at d1
    unfold tooShort at d2
    rw [decide_eq_false_iff_not] at d1 d2
    have m1 := over_mono l h1 h2 c1
    have m2 := over_mono l h1 h2 c2
    exact ⟨by omega, by omega, by omega, by omega⟩
  · rintro ⟨c1, c2, c3, c4⟩
    refine ⟨?_, ?_⟩
    · by_cases h : narLo l mi lo hi ≤ p
      · exact h
      · have := a2 p c1 (by omega)
        unfold tooLong at this
        rw [decide_eq_true_eq] at this
        omega
    · by_cases h : p ≤ narHi l mi lo hi
      · exact h
      · have := b2 p (by omega) c2
        unfold tooShort at this
        rw [decide_eq_true_eq] at this
        omega
/-- The parts that the first k lengths leave. -/
theorem shr_spec {mi : Int} {ls : List T3} (hm : 0 ≤ mi) : ∀ (k : Nat), (∀ i, i < k → 0 ≤ (ls.getD i (0, 0, 0)).1) → ∀ p : Int, ((shr mi ls k).1 ≤ p ∧ p ≤ (shr mi ls k).2) ↔ (0 ≤ p ∧ p ≤ 500 ∧ ∀ i, i < k → okP (ls.getD i (0, 0, 0)) mi p)
  | 0, _, p => ⟨fun h => ⟨h.1, h.2, fun i hi => absurd hi (Nat.not_lt_zero i)⟩, fun h => ⟨h.1, h.2.1⟩⟩
  | k + 1, hl, p => by
    obtain ⟨s1, s2⟩ := shr_bd mi ls k
    have ih := shr_spec hm k (fun i hi => hl i (by omega)) p
    rw [show shr mi ls (k + 1) = (narLo (ls.getD k (0, 0, 0)) mi (shr mi ls k).1 (shr mi ls k).2, narHi (ls.getD k (0, 0, 0)) mi (shr mi ls k).1 (shr mi ls k).2) from rfl]
    simp only
    rw [nar_spec _ (hl k (by omega)) hm s1 s2 p]
    constructor
    · rintro ⟨c1, c2, c3⟩
      obtain ⟨d1, d2, d3⟩ := ih.1 ⟨c1, c2⟩
      refine ⟨d1, d2, fun i hi => ?_⟩
      by_cases e : i = k
      · rw [e]; exact c3
      · exact d3 i (by omega)
    · rintro ⟨c1, c2, c3⟩
      obtain ⟨d1, d2⟩ := ih.2 ⟨c1, c2, fun i hi => c3 i (by omega)⟩
      exact ⟨d1, d2, c3 k (by omega)⟩
/-- If some parts are possible by all lengths, Shrink returns a span that has them, and -1. -/
theorem shrink_has {mi : Int} {ls : List T3} {p : Int} (hm : 0 ≤ mi) (hp : 0 ≤ p) (hp5 : p ≤ 500) : ∀ (n k : Nat), (∀ i, i < k + n → 0 ≤ (ls.getD i (0, 0, 0)).1) → (∀ i, i < k + n → okP (ls.getD i (0, 0, 0)) mi p) → ∃ a b, shrinkR mi ls n k = (a, b, -1) ∧ a ≤ p ∧ p ≤ b
  | 0, k, hl, hok => by
    have h := (shr_spec hm k (fun i hi => hl i (by omega)) p).2 ⟨hp, hp5, fun i hi => hok i (by omega)⟩
    exact ⟨_, _, rfl, h.1, h.2⟩
  | n + 1, k, hl, hok => by
    have h := (shr_spec hm (k + 1) (fun i hi => hl i (by omega)) p).2 ⟨hp, hp5, fun i hi => hok i (by omega)⟩
    unfold shrinkR
    rw [if_pos (by omega)]
    exact shrink_has hm hp hp5 n (k + 1) (fun i hi => hl i (by omega)) (fun i hi => hok i (by omega))
end Go.Proofs.YtgjpbffoalldkaaGreatDoor

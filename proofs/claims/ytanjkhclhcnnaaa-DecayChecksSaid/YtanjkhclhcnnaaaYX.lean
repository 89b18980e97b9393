/- Mathematics of reached: mornings from before, tests taken or struck; the order of tests is ascending by day. -/
import Derived.Test.YtanjkhclhcnnaaaYW
import Derived.Test.YtanjkhclhcnnaaaYJ
namespace Go.Proofs.Ytanjkhclhcnnaaa
open Go.RowKit Go.Shelf

theorem swapL_at {l : List Nat} {j : Nat} (hj : j + 1 < l.length) (k : Nat) : (swapL l j).getD k 0 = if k = j then l.getD (j + 1) 0 else if k = j + 1 then l.getD j 0 else l.getD k 0 := by
  unfold swapL
  simp only [List.getD, List.getElem?_set, List.length_set]
  by_cases h1 : k = j
  · subst h1; simp [show k < l.length by omega]
  · by_cases h2 : k = j + 1
    · subst h2; simp [hj]
    · simp [Ne.symm h1, Ne.symm h2, h1, h2]
/-- In order up to a place, but for one element, which is not above those behind it. -/
structure SinkInv (f : Nat → Int) (l : List Nat) (j k : Nat) : Prop where
  a : ∀ a b, a < b → b < k → a ≠ j → b ≠ j → f (l.getD a 0) ≤ f (l.getD b 0)
  b : ∀ b, j < b → b < k → f (l.getD j 0) ≤ f (l.getD b 0)
def UpTo (f : Nat → Int) (l : List Nat) (k : Nat) : Prop := ∀ a b, a < b → b < k → f (l.getD a 0) ≤ f (l.getD b 0)
theorem sink_up {f : Nat → Int} {lt : Nat → Nat → Bool} (hlt : ∀ a b, lt a b = decide (f a < f b)) : ∀ (j : Nat) (l : List Nat) (k : Nat), j < l.length → j < k → SinkInv f l j k → UpTo f (sinkL lt j l) k
  | 0, l, k, _, _, h => by
    intro a b hab hb
    show f (l.getD a 0) ≤ f (l.getD b 0)
    rcases Nat.eq_zero_or_pos a with rfl | ha
    · exact h.b b hab hb
    · exact h.a a b hab hb (by omega) (by omega)
  | j + 1, l, k, hl, hk, h => by
    unfold sinkL
    rw [hlt]
    split
    · rename_i hc
      have hc' := of_decide_eq_true hc
      refine sink_up hlt j (swapL l j) k (by rw [swapL_len]; omega) (by omega) ⟨fun a b hab hb ha1 hb1 => ?_, fun b hb1 hb2 => ?_⟩
      · rw [swapL_at hl, swapL_at hl, if_neg ha1, if_neg hb1]
        by_cases e1 : a = j + 1
        · rw [if_pos e1, if_neg (by omega)]
          exact h.a j b (by omega) hb (by omega) (by omega)
        · rw [if_neg e1]
          by_cases e2 : b = j + 1
          · rw [if_pos e2]
            exact h.a a j (by omega) (by omega) (by omega) (by omega)
          · rw [if_neg e2]
            exact h.a a b hab hb e1 e2
      · rw [swapL_at hl, swapL_at hl, if_pos rfl, if_neg (by omega)]
        by_cases e2 : b = j + 1
        · rw [if_pos e2]; omega
        · rw [if_neg e2]
          exact h.b b (by omega) hb2
    · rename_i hc
      have hc' : ¬ f (l.getD (j + 1) 0) < f (l.getD j 0) := fun e => hc (decide_eq_true e)
      intro a b hab hb
      by_cases e1 : a = j + 1
      · subst e1; exact h.b b hab hb
      · by_cases e2 : b = j + 1
        · subst e2
          rcases Nat.lt_or_ge a j with h1 | h1
          · have := h.a a j h1 (by omega) (by omega) (by omega); omega
          · obtain rfl : a = j := by omega
            omega
        · exact h.a a b hab hb e1 e2
theorem isort_up {f : Nat → Int} {lt : Nat → Nat → Bool} (hlt : ∀ a b, lt a b = decide (f a < f b)) {l : List Nat} : ∀ (i : Nat), i < l.length → UpTo f (isortL lt l i) (i + 1)
  | 0, _ => by intro a b hab hb; omega
  | i + 1, hi => by
    unfold isortL
    have ih := isort_up hlt (l := l) i (by omega)
    refine sink_up hlt (i + 1) _ (i + 1 + 1) (by rw [isortL_len]; exact hi) (by omega) ⟨fun a b hab hb ha1 hb1 => ih a b hab (by omega), fun b hb1 hb2 => by omega⟩
theorem orderL_len (ts : List T3) (n : Nat) : (orderL ts n).length = n := by unfold orderL; rw [isortL_len]; simp
theorem orderL_lt (ts : List T3) (n : Nat) : ∀ x ∈ orderL ts n, x < n := by
  unfold orderL
  rcases Nat.eq_zero_or_pos n with rfl | hn
  · simp [isortL]
  · exact isortL_mem (by simp) _ (by simp; omega)
theorem orderL_up (ts : List T3) (n a b : Nat) (hab : a < b) (hb : b < n) : dayOf ts ((orderL ts n).getD a 0) ≤ dayOf ts ((orderL ts n).getD b 0) := by
  unfold orderL
  refine isort_up (f := dayOf ts) (fun x y => ?_) (n - 1) (by simp; omega) a b hab (by omega)
  congr 1
  simp only [eq_iff_iff]
  unfold cmpN
  constructor
  · intro h; split at h
    · assumption
    · split at h <;> omega
  · intro h; rw [if_pos h]; omega

/-- What is known while mornings come: tests that wait, tests taken, the levels that can be, tests struck, the levels of the mornings. -/
structure RS where
  wait : List Nat
  taken : List Nat
  can : T2
  struck : List T2
  lev : List T2
/-- The tests of one morning. -/
def eatS (r : RuA) (ss : List T2) (ts : List T3) (mor : Nat → Nat) (m : Nat) : List Nat → List Nat → T2 → List T2 → List Nat × List Nat × T2 × List T2
  | [], tk, can, st => ([], tk, can, st)
  | i :: rest, tk, can, st =>
    if mor i = m then
      if max can.1 (keepT r ts i).1 ≤ min can.2 (keepT r ts i).2 then eatS r ss ts mor m rest (tk ++ [i]) (max can.1 (keepT r ts i).1, min can.2 (keepT r ts i).2) st
      else eatS r ss ts mor m rest tk can (st ++ [((i : Int), byS r ss ts mor i tk)])
    else (i :: rest, tk, can, st)
def canS (r : RuA) (ss : List T2) (m : Nat) (p : T2) : T2 := if 0 < m then nextS r (ss.getD (m - 1) (0, 0)) p else p
def stepR (r : RuA) (ss : List T2) (ts : List T3) (mor : Nat → Nat) (S : RS) (m : Nat) : RS :=
  ⟨(eatS r ss ts mor m S.wait S.taken (canS r ss m S.can) S.struck).1, (eatS r ss ts mor m S.wait S.taken (canS r ss m S.can) S.struck).2.1, (eatS r ss ts mor m S.wait S.taken (canS r ss m S.can) S.struck).2.2.1, (eatS r ss ts mor m S.wait S.taken (canS r ss m S.can) S.struck).2.2.2, S.lev ++ [(eatS r ss ts mor m S.wait S.taken (canS r ss m S.can) S.struck).2.2.1]⟩
def reachS (r : RuA) (ss : List T2) (ts : List T3) (mor : Nat → Nat) (S : RS) (ms : List Nat) : RS := ms.foldl (stepR r ss ts mor) S
theorem reach_snoc (r : RuA) (ss : List T2) (ts : List T3) (mor : Nat → Nat) (S : RS) (ms : List Nat) (m : Nat) : reachS r ss ts mor S (ms ++ [m]) = stepR r ss ts mor (reachS r ss ts mor S ms) m := by simp [reachS]
theorem eat_nil (r : RuA) (ss : List T2) (ts : List T3) (mor : Nat → Nat) (m : Nat) (tk : List Nat) (can : T2) (st : List T2) : eatS r ss ts mor m [] tk can st = ([], tk, can, st) := by unfold eatS; rfl
theorem eat_no (r : RuA) (ss : List T2) (ts : List T3) (mor : Nat → Nat) {m i : Nat} (rest : List Nat) (tk : List Nat) (can : T2) (st : List T2) (h : mor i ≠ m) : eatS r ss ts mor m (i :: rest) tk can st = (i :: rest, tk, can, st) := by unfold eatS; rw [if_neg h]
theorem eat_take (r : RuA) (ss : List T2) (ts : List T3) (mor : Nat → Nat) {m i : Nat} (rest : List Nat) (tk : List Nat) (can : T2) (st : List T2) (h : mor i = m) (hc : max can.1 (keepT r ts i).1 ≤ min can.2 (keepT r ts i).2) : eatS r ss ts mor m (i :: rest) tk can st = eatS r ss ts mor m rest (tk ++ [i]) (max can.1 (keepT r ts i).1, min can.2 (keepT r ts i).2) st := by
  conv => lhs; unfold eatS
  rw [if_pos h, if_pos hc]
theorem eat_strike (r : RuA) (ss : List T2) (ts : List T3) (mor : Nat → Nat) {m i : Nat} (rest : List Nat) (tk : List Nat) (can : T2) (st : List T2) (h : mor i = m) (hc : ¬ max can.1 (keepT r ts i).1 ≤ min can.2 (keepT r ts i).2) : eatS r ss ts mor m (i :: rest) tk can st = eatS r ss ts mor m rest tk can (st ++ [((i : Int), byS r ss ts mor i tk)]) := by
  conv => lhs; unfold eatS
  rw [if_pos h, if_neg hc]
/-- Tests taken are not later than those that wait. -/
def TkInv (mor : Nat → Nat) (L : List Nat) (n : Nat) (tk : List Nat) (c : Nat) : Prop := ∀ i ∈ tk, i < n ∧ ∀ q, c ≤ q → q < n → mor i ≤ mor (L.getD q 0)
theorem TkInv.next {mor : Nat → Nat} {L : List Nat} {n : Nat} {tk : List Nat} {c : Nat} (h : TkInv mor L n tk c) : TkInv mor L n tk (c + 1) := fun i hi => ⟨(h i hi).1, fun q h1 h2 => (h i hi).2 q (by omega) h2⟩
theorem TkInv.take {mor : Nat → Nat} {L : List Nat} {n : Nat} {tk : List Nat} {c : Nat} (h : TkInv mor L n tk c) (hl : L.getD c 0 < n) (hu : ∀ q, c < q → q < n → mor (L.getD c 0) ≤ mor (L.getD q 0)) : TkInv mor L n (tk ++ [L.getD c 0]) (c + 1) := fun i hi => by
  rcases List.mem_append.1 hi with h1 | h1
  · exact h.next i h1
  · rw [List.mem_singleton] at h1
    subst h1
    exact ⟨hl, fun q h2 h3 => hu q (by omega) h3⟩
theorem drop_at {L : List Nat} {c : Nat} (h : c < L.length) : L.drop c = L.getD c 0 :: L.drop (c + 1) := by
  rw [List.drop_eq_getElem_cons h]; simp [List.getD, h]

/-- Levels with both ends within bounds, not empty. -/
structure CanOK (p : T2) : Prop extends InSp p where
  le : p.1 ≤ p.2
theorem CanOK.ok {p : T2} (h : CanOK p) : OkSp p := ⟨h.a.1, h.b.2, by have := h.le; omega⟩
theorem CanOK.next {r : RuA} {hs ws : List T2} (h : RuOK r hs ws) {s p : T2} (hs' : StrOK s) (hp : CanOK p) : CanOK (nextS r s p) := by
  refine ⟨next_in h hs' hp.toInSp, ?_⟩
  show leastS r s.1 p.1 ≤ mostS r s.2 p.2
  exact Int.le_trans (least_mono h.feed.1 hs'.lo hp.le) (least_most h hp.b.1 hs'.le)
theorem CanOK.can {r : RuA} {hs ws : List T2} (h : RuOK r hs ws) {ss : List T2} {N : Nat} (hss : ss.length = N) (hst : ∀ s ∈ ss, StrOK s) {p : T2} (hp : CanOK p) {m : Nat} (hm : m ≤ N) : CanOK (canS r ss m p) := by
  unfold canS
  split
  · exact hp.next h (hst _ (getD_lt (by omega)))
  · exact hp
theorem CanOK.both {p q : T2} (hp : CanOK p) (hq : InSp q) (h : max p.1 q.1 ≤ min p.2 q.2) : CanOK (max p.1 q.1, min p.2 q.2) :=
  ⟨⟨⟨by have := hp.a.1; show 0 ≤ max p.1 q.1; omega, by have := hp.a.2; have := hq.a.2; show max p.1 q.1 ≤ 1000000; omega⟩, ⟨by have := hp.b.1; have := hq.b.1; show 0 ≤ min p.2 q.2; omega, by have := hp.b.2; show min p.2 q.2 ≤ 1000000; omega⟩⟩, h⟩
/-- What stays true of the levels. -/
theorem eat_can {r : RuA} {hs ws : List T2} (h : RuOK r hs ws) (ss : List T2) (ts : List T3) (mor : Nat → Nat) (m : Nat) : ∀ (L tk : List Nat) (can : T2) (st : List T2), CanOK can → CanOK (eatS r ss ts mor m L tk can st).2.2.1
  | [], tk, can, st, hc => by rw [eat_nil]; exact hc
  | i :: rest, tk, can, st, hc => by
    by_cases h1 : mor i = m
    · by_cases h2 : max can.1 (keepT r ts i).1 ≤ min can.2 (keepT r ts i).2
      · rw [eat_take r ss ts mor rest tk can st h1 h2]; exact eat_can h ss ts mor m rest _ _ _ (hc.both (keep_in h _ _) h2)
      · rw [eat_strike r ss ts mor rest tk can st h1 h2]; exact eat_can h ss ts mor m rest _ _ _ hc
    · rw [eat_no r ss ts mor rest tk can st h1]; exact hc
theorem reach_ok {r : RuA} {hs ws : List T2} (h : RuOK r hs ws) {ss : List T2} {N : Nat} (hss : ss.length = N) (hst : ∀ s ∈ ss, StrOK s) (ts : List T3) (mor : Nat → Nat) : ∀ (ms : List Nat) (S : RS), (∀ m ∈ ms, m ≤ N) → CanOK S.can → (∀ p ∈ S.lev, OkSp p) → CanOK (reachS r ss ts mor S ms).can ∧ (∀ p ∈ (reachS r ss ts mor S ms).lev, OkSp p) ∧ (reachS r ss ts mor S ms).lev.length = S.lev.length + ms.length
  | [], S, _, hc, hl => ⟨hc, hl, rfl⟩
  | m :: ms, S, hm, hc, hl => by
    have hc' : CanOK (stepR r ss ts mor S m).can := eat_can h ss ts mor m S.wait S.taken _ S.struck (hc.can h hss hst (hm m (by simp)))
    have ih := reach_ok h hss hst ts mor ms (stepR r ss ts mor S m) (fun x hx => hm x (by simp [hx])) hc' (fun p hp => by
      rcases List.mem_append.1 (show p ∈ S.lev ++ [_] from hp) with h1 | h1
      · exact hl p h1
      · rw [List.mem_singleton] at h1; rw [h1]; exact hc'.ok)
    have e : (stepR r ss ts mor S m).lev.length = S.lev.length + 1 := by show (S.lev ++ [_]).length = _; simp
    refine ⟨ih.1, ih.2.1, ?_⟩
    show (reachS r ss ts mor (stepR r ss ts mor S m) ms).lev.length = _
    rw [ih.2.2, e, List.length_cons]; omega
def ints (l : List Nat) : List Value := l.map fun (i : Nat) => .int .i64 i
theorem ints_len (l : List Nat) : (ints l).length = l.length := by simp [ints]
theorem ints_snoc (l : List Nat) (i : Nat) : ints (l ++ [i]) = ints l ++ [.int .i64 i] := by simp [ints]
end Go.Proofs.Ytanjkhclhcnnaaa

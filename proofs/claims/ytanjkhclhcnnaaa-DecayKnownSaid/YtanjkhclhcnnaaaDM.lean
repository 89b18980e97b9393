/- The reference's taken: the mathematics. -/
import Derived.Test.YtanjkhclhcnnaaaDL
namespace Go.Proofs.Ytanjkhclhcnnaaa
open Go.RowKit Go.Shelf

/-- The last of those taken that strikes. -/
def lastBy (r : RuA) (ss : List T2) (ts : List T3) (mor : Nat → Nat) (z : Nat) (L : List Nat) : Int := L.foldl (fun b j => if stopB r ss ts mor z j then (j : Int) else b) (-1)
theorem lastBy_snoc (r : RuA) (ss : List T2) (ts : List T3) (mor : Nat → Nat) (z : Nat) (L : List Nat) (x : Nat) : lastBy r ss ts mor z (L ++ [x]) = if stopB r ss ts mor z x then (x : Int) else lastBy r ss ts mor z L := by simp [lastBy]
theorem lastBy_rev (r : RuA) (ss : List T2) (ts : List T3) (mor : Nat → Nat) (z : Nat) : ∀ M : List Nat, lastBy r ss ts mor z M.reverse = match M.find? (stopB r ss ts mor z) with | some i => (i : Int) | none => -1
  | [] => rfl
  | x :: M => by
    rw [List.reverse_cons, lastBy_snoc, List.find?_cons]
    cases stopB r ss ts mor z x
    · simpa using lastBy_rev r ss ts mor z M
    · rfl
theorem lastBy_eq (r : RuA) (ss : List T2) (ts : List T3) (mor : Nat → Nat) (z : Nat) (L : List Nat) : lastBy r ss ts mor z L = byS r ss ts mor z L := by
  have h := lastBy_rev r ss ts mor z L.reverse
  rw [List.reverse_reverse] at h
  exact h

structure TS where
  good : List Nat
  struck : List T2
  now : T2
  day : Nat
def onS (r : RuA) (ss : List T2) (p : T2) (a b : Nat) : T2 := nextFold r ss p (List.range' a (b - a))
theorem onS_self (r : RuA) (ss : List T2) (p : T2) (a : Nat) : onS r ss p a a = p := by simp [onS, nextFold]
theorem onS_step (r : RuA) (ss : List T2) (p : T2) {a b : Nat} (h : a ≤ b) : onS r ss p a (b + 1) = nextS r (ss.getD b (0, 0)) (onS r ss p a b) := by
  unfold onS nextFold
  rw [show b + 1 - a = (b - a) + 1 by omega, List.range'_concat, List.foldl_append]
  simp [show a + (b - a) = b by omega]
def joinS (p q : T2) : T2 := (max p.1 q.1, min p.2 q.2)
/-- The reference's step: one test of the order. -/
def takeS (r : RuA) (ss : List T2) (ts : List T3) (mor : Nat → Nat) (S : TS) (i : Nat) : TS :=
  if (joinS (onS r ss S.now S.day (mor i)) (keepT r ts i)).1 ≤ (joinS (onS r ss S.now S.day (mor i)) (keepT r ts i)).2 then ⟨S.good ++ [i], S.struck, joinS (onS r ss S.now S.day (mor i)) (keepT r ts i), mor i⟩
  else ⟨S.good, S.struck ++ [((i : Int), lastBy r ss ts mor i S.good)], onS r ss S.now S.day (mor i), mor i⟩
theorem eat_takes (r : RuA) (ss : List T2) (ts : List T3) (mor : Nat → Nat) (m : Nat) : ∀ (W : List Nat) (S : TS), S.day ≤ m → ∃ c, c ≤ W.length ∧
    eatS r ss ts mor m W S.good (onS r ss S.now S.day m) S.struck = (W.drop c, ((W.take c).foldl (takeS r ss ts mor) S).good, onS r ss ((W.take c).foldl (takeS r ss ts mor) S).now ((W.take c).foldl (takeS r ss ts mor) S).day m, ((W.take c).foldl (takeS r ss ts mor) S).struck) ∧
    ((W.take c).foldl (takeS r ss ts mor) S).day ≤ m ∧ (∀ i, (W.drop c).head? = some i → mor i ≠ m)
  | [], S, h => ⟨0, Nat.le_refl _, by rw [eat_nil]; rfl, h, by intro i hi; simp at hi⟩
  | i :: W, S, h => by
    by_cases hm : mor i = m
    · by_cases hc : max (onS r ss S.now S.day m).1 (keepT r ts i).1 ≤ min (onS r ss S.now S.day m).2 (keepT r ts i).2
      · have e : takeS r ss ts mor S i = ⟨S.good ++ [i], S.struck, joinS (onS r ss S.now S.day m) (keepT r ts i), m⟩ := by
          unfold takeS
          rw [hm, if_pos (by unfold joinS; exact hc)]
        obtain ⟨c, h1, h2, h3, h4⟩ := eat_takes r ss ts mor m W (takeS r ss ts mor S i) (by rw [e]; exact Nat.le_refl _)
        refine ⟨c + 1, by simp; omega, ?_, h3, h4⟩
        rw [eat_take r ss ts mor W S.good _ S.struck hm hc]
        rw [e, onS_self] at h2
        simp only [List.take_succ_cons, List.drop_succ_cons, List.foldl_cons, e]
        exact h2
      · have e : takeS r ss ts mor S i = ⟨S.good, S.struck ++ [((i : Int), byS r ss ts mor i S.good)], onS r ss S.now S.day m, m⟩ := by
          unfold takeS
          rw [hm, if_neg (by unfold joinS; exact hc), lastBy_eq]
        obtain ⟨c, h1, h2, h3, h4⟩ := eat_takes r ss ts mor m W (takeS r ss ts mor S i) (by rw [e]; exact Nat.le_refl _)
        refine ⟨c + 1, by simp; omega, ?_, h3, h4⟩
        rw [eat_strike r ss ts mor W S.good _ S.struck hm hc]
        rw [e, onS_self] at h2
        simp only [List.take_succ_cons, List.drop_succ_cons, List.foldl_cons, e]
        exact h2
    · exact ⟨0, by omega, by rw [eat_no r ss ts mor W S.good _ S.struck hm]; rfl, h, by intro j hj; simp at hj; rw [← hj]; exact hm⟩

theorem reach_takes (r : RuA) (ss : List T2) (ts : List T3) (mor : Nat → Nat) (L : List Nat) (p : T2) (hL : L.Pairwise (fun a b => mor a ≤ mor b)) : ∀ k : Nat, ∃ c, c ≤ L.length ∧
    (reachS r ss ts mor ⟨L, [], p, [], []⟩ (List.range k)).wait = L.drop c ∧
    (reachS r ss ts mor ⟨L, [], p, [], []⟩ (List.range k)).taken = ((L.take c).foldl (takeS r ss ts mor) ⟨[], [], p, 0⟩).good ∧
    (reachS r ss ts mor ⟨L, [], p, [], []⟩ (List.range k)).struck = ((L.take c).foldl (takeS r ss ts mor) ⟨[], [], p, 0⟩).struck ∧
    (reachS r ss ts mor ⟨L, [], p, [], []⟩ (List.range k)).can = onS r ss ((L.take c).foldl (takeS r ss ts mor) ⟨[], [], p, 0⟩).now ((L.take c).foldl (takeS r ss ts mor) ⟨[], [], p, 0⟩).day (k - 1) ∧
    ((L.take c).foldl (takeS r ss ts mor) ⟨[], [], p, 0⟩).day ≤ k - 1 ∧ (∀ i ∈ L.drop c, k ≤ mor i)
  | 0 => ⟨0, Nat.zero_le _, rfl, rfl, rfl, by rw [show (0 : Nat) - 1 = 0 from rfl]; exact (onS_self _ _ _ _).symm, Nat.le_refl _, fun _ _ => Nat.zero_le _⟩
  | k + 1 => by
    obtain ⟨c, h0, h1, h2, h3, h4, h5, h6⟩ := reach_takes r ss ts mor L p hL k
    rw [List.range_succ, reach_snoc]
    generalize reachS r ss ts mor ⟨L, [], p, [], []⟩ (List.range k) = R at h1 h2 h3 h4
    generalize hS : (L.take c).foldl (takeS r ss ts mor) ⟨[], [], p, 0⟩ = S at h2 h3 h4 h5
    have e : canS r ss k R.can = onS r ss S.now S.day k := by
      unfold canS
      rcases Nat.eq_zero_or_pos k with rfl | hk
      · simpa using h4
      · rw [if_pos hk, h4, ← onS_step r ss S.now h5, show k - 1 + 1 = k by omega]
    obtain ⟨d, g0, g1, g2, g3⟩ := eat_takes r ss ts mor k (L.drop c) S (by omega)
    have e2 : L.take (c + d) = L.take c ++ (L.drop c).take d := by rw [List.take_add]
    have e3 : L.drop (c + d) = (L.drop c).drop d := by rw [List.drop_drop]
    refine ⟨c + d, by simp at g0; omega, ?_, ?_, ?_, ?_, ?_, ?_⟩
    · unfold stepR; rw [e, h1, h2, h3, g1, e3]
    · unfold stepR; rw [e, h1, h2, h3, g1, e2, List.foldl_append, hS]
    · unfold stepR; rw [e, h1, h2, h3, g1, e2, List.foldl_append, hS]
    · unfold stepR; rw [e, h1, h2, h3, g1, e2, List.foldl_append, hS]; rfl
    · rw [e2, List.foldl_append, hS]; exact g2
    · rw [e3]
      have hp : ((L.drop c).drop d).Pairwise (fun a b => mor a ≤ mor b) := (hL.drop).drop
      have hge : ∀ i ∈ (L.drop c).drop d, k ≤ mor i := fun i hi => h6 i (List.mem_of_mem_drop hi)
      generalize (L.drop c).drop d = M at hp hge g3
      rcases M with _ | ⟨x, M⟩
      · intro i hi; simp at hi
      · have hx : k + 1 ≤ mor x := by
          have := g3 x rfl
          have := hge x (by simp)
          omega
        intro i hi
        rcases List.mem_cons.1 hi with rfl | hi
        · exact hx
        · exact Nat.le_trans hx ((List.pairwise_cons.1 hp).1 i hi)
theorem reach_all (r : RuA) (ss : List T2) (ts : List T3) (mor : Nat → Nat) (L : List Nat) (p : T2) (hL : L.Pairwise (fun a b => mor a ≤ mor b)) {k : Nat} (hk : ∀ i ∈ L, mor i < k) :
    (reachS r ss ts mor ⟨L, [], p, [], []⟩ (List.range k)).taken = (L.foldl (takeS r ss ts mor) ⟨[], [], p, 0⟩).good ∧ (reachS r ss ts mor ⟨L, [], p, [], []⟩ (List.range k)).struck = (L.foldl (takeS r ss ts mor) ⟨[], [], p, 0⟩).struck := by
  obtain ⟨c, h0, h1, h2, h3, h4, h5, h6⟩ := reach_takes r ss ts mor L p hL k
  have hc : L.take c = L := by
    rcases Nat.lt_or_ge c L.length with h | h
    · have hm : L[c] ∈ L.drop c := by rw [List.drop_eq_getElem_cons h]; exact List.mem_cons_self
      have := h6 _ hm
      have := hk _ (List.getElem_mem h)
      omega
    · exact List.take_of_length_le h
  rw [hc] at h2 h3
  exact ⟨h2, h3⟩
/-- What the reference holds for one morning. -/
def mornS (r : RuA) (ss : List T2) (ts : List T3) (mor : Nat → Nat) (F : List Nat) (p : T2) (m : Nat) : T2 := F.foldl (fun p i => if mor i = m then joinS p (keepT r ts i) else p) (canS r ss m p)
def knS (r : RuA) (ss : List T2) (ts : List T3) (mor : Nat → Nat) (F : List Nat) (p : T2) : Nat → List T2 × T2
  | 0 => ([], p)
  | k + 1 => ((knS r ss ts mor F p k).1 ++ [mornS r ss ts mor F (knS r ss ts mor F p k).2 k], mornS r ss ts mor F (knS r ss ts mor F p k).2 k)
theorem morn_all (r : RuA) (ts : List T3) (mor : Nat → Nat) (m : Nat) : ∀ (G : List Nat) (p : T2), (∀ i ∈ G, mor i = m) → G.foldl (fun p i => if mor i = m then joinS p (keepT r ts i) else p) p = G.foldl (fun p i => joinS p (keepT r ts i)) p
  | [], _, _ => rfl
  | i :: G, p, h => by
    rw [List.foldl_cons, List.foldl_cons, if_pos (h i (by simp))]
    exact morn_all r ts mor m G _ fun j hj => h j (by simp [hj])
theorem morn_none (r : RuA) (ts : List T3) (mor : Nat → Nat) (m : Nat) : ∀ (G : List Nat) (p : T2), (∀ i ∈ G, mor i ≠ m) → G.foldl (fun p i => if mor i = m then joinS p (keepT r ts i) else p) p = p
  | [], _, _ => rfl
  | i :: G, p, h => by
    rw [List.foldl_cons, if_neg (h i (by simp))]
    exact morn_none r ts mor m G _ fun j hj => h j (by simp [hj])
theorem eat_morn (r : RuA) (ss : List T2) (ts : List T3) (mor : Nat → Nat) (m : Nat) : ∀ (W tk : List Nat) (can : T2) (st : List T2), ∃ G, (∀ i ∈ G, mor i = m) ∧
    (eatS r ss ts mor m W tk can st).2.1 = tk ++ G ∧ (eatS r ss ts mor m W tk can st).2.2.1 = G.foldl (fun p i => joinS p (keepT r ts i)) can
  | [], tk, can, st => ⟨[], by simp, by rw [eat_nil]; simp, by rw [eat_nil]; rfl⟩
  | i :: W, tk, can, st => by
    by_cases hm : mor i = m
    · by_cases hc : max can.1 (keepT r ts i).1 ≤ min can.2 (keepT r ts i).2
      · rw [eat_take r ss ts mor W tk can st hm hc]
        obtain ⟨G, h1, h2, h3⟩ := eat_morn r ss ts mor m W (tk ++ [i]) (max can.1 (keepT r ts i).1, min can.2 (keepT r ts i).2) st
        refine ⟨i :: G, ?_, by rw [h2]; simp, by rw [h3]; rfl⟩
        intro j hj
        rcases List.mem_cons.1 hj with rfl | hj
        · exact hm
        · exact h1 j hj
      · rw [eat_strike r ss ts mor W tk can st hm hc]
        exact eat_morn r ss ts mor m W tk can _
    · exact ⟨[], by simp, by rw [eat_no r ss ts mor W tk can st hm]; simp, by rw [eat_no r ss ts mor W tk can st hm]; rfl⟩
theorem reach_more (r : RuA) (ss : List T2) (ts : List T3) (mor : Nat → Nat) (S : RS) : ∀ d k : Nat, ∃ X, (∀ i ∈ X, k ≤ mor i) ∧ (reachS r ss ts mor S (List.range (k + d))).taken = (reachS r ss ts mor S (List.range k)).taken ++ X
  | 0, k => ⟨[], by simp, by simp⟩
  | d + 1, k => by
    obtain ⟨X, h1, h2⟩ := reach_more r ss ts mor S d k
    rw [show k + (d + 1) = (k + d) + 1 by omega, List.range_succ, reach_snoc]
    generalize reachS r ss ts mor S (List.range (k + d)) = R at h2
    obtain ⟨G, g1, g2, -⟩ := eat_morn r ss ts mor (k + d) R.wait R.taken (canS r ss (k + d) R.can) R.struck
    refine ⟨X ++ G, ?_, by unfold stepR; rw [g2, h2]; simp⟩
    intro i hi
    rcases List.mem_append.1 hi with hi | hi
    · exact h1 i hi
    · have := g1 i hi
      omega
theorem reach_before (r : RuA) (ss : List T2) (ts : List T3) (mor : Nat → Nat) (L : List Nat) (p : T2) : ∀ k : Nat, ∀ i ∈ (reachS r ss ts mor ⟨L, [], p, [], []⟩ (List.range k)).taken, mor i < k
  | 0 => by intro i hi; simp [reachS] at hi
  | k + 1 => by
    have h := reach_before r ss ts mor L p k
    rw [List.range_succ, reach_snoc]
    generalize reachS r ss ts mor ⟨L, [], p, [], []⟩ (List.range k) = R at h
    obtain ⟨G, g1, g2, -⟩ := eat_morn r ss ts mor k R.wait R.taken (canS r ss k R.can) R.struck
    intro i hi
    unfold stepR at hi
    rw [g2] at hi
    rcases List.mem_append.1 hi with hi | hi
    · have := h i hi
      omega
    · have := g1 i hi
      omega
/-- Morning by morning, and test by test: the same levels. -/
theorem reach_known (r : RuA) (ss : List T2) (ts : List T3) (mor : Nat → Nat) (L : List Nat) (p : T2) (n : Nat) : ∀ k, k ≤ n → (reachS r ss ts mor ⟨L, [], p, [], []⟩ (List.range k)).lev = (knS r ss ts mor (reachS r ss ts mor ⟨L, [], p, [], []⟩ (List.range n)).taken p k).1 ∧ (reachS r ss ts mor ⟨L, [], p, [], []⟩ (List.range k)).can = (knS r ss ts mor (reachS r ss ts mor ⟨L, [], p, [], []⟩ (List.range n)).taken p k).2
  | 0, _ => ⟨rfl, rfl⟩
  | k + 1, hk => by
    obtain ⟨h1, h2⟩ := reach_known r ss ts mor L p n k (by omega)
    obtain ⟨X, x1, x2⟩ := reach_more r ss ts mor ⟨L, [], p, [], []⟩ (n - (k + 1)) (k + 1)
    have hb := reach_before r ss ts mor L p k
    rw [show k + 1 + (n - (k + 1)) = n by omega] at x2
    generalize hF : (reachS r ss ts mor ⟨L, [], p, [], []⟩ (List.range n)).taken = F at h1 h2 x2 ⊢
    rw [List.range_succ, reach_snoc] at x2 ⊢
    generalize reachS r ss ts mor ⟨L, [], p, [], []⟩ (List.range k) = R at h1 h2 x2 hb ⊢
    obtain ⟨G, g1, g2, g3⟩ := eat_morn r ss ts mor k R.wait R.taken (canS r ss k R.can) R.struck
    have hF2 : F = R.taken ++ G ++ X := by rw [x2]; unfold stepR; rw [g2]
    have hm : mornS r ss ts mor F R.can k = G.foldl (fun p i => joinS p (keepT r ts i)) (canS r ss k R.can) := by
      unfold mornS
      rw [hF2, List.foldl_append, List.foldl_append, morn_none r ts mor k R.taken _ (fun i hi => by have := hb i hi; omega), morn_all r ts mor k G _ g1, morn_none r ts mor k X _ (fun i hi => by have := x1 i hi; omega)]
    unfold knS stepR
    rw [← h1, ← h2, hm, g3]
    exact ⟨rfl, rfl⟩
end Go.Proofs.Ytanjkhclhcnnaaa

/- The mathematics of taken tests, levels, courses, strikes, cut tasks and fewer tests (joined; no walk). -/
import Derived.Test.YtijkhpaiiieanaaMH
namespace Go.Proofs.Ytijkhpaiiieanaa
open Go.RowKit Go.Shelf

theorem row1_form {W : World} {base : Nat} {e : TypeId} {v : Value} {n : Nat} {xs : List Nat} (h : W.ownsRow base e 1 v n (ints xs)) (hn : 0 < n) :
    ∃ q cap cur, v = .slice (some ⟨q, 0, none⟩) n cap ∧ base ≤ q ∧ Ob W q e cur ∧ n ≤ cap ∧ cap ≤ maxLen ∧ cur.size = cap * 1 ∧ cur.toList.take (n * 1) = ints xs := by
  rcases h.2 with ⟨-, h2⟩ | ⟨q, cap, cur, h1, h2, h3, h4, h5, h6, h7⟩
  · omega
  · exact ⟨q, cap, cur, h1, h2, h3, h4, h5, h6, h7⟩
theorem row1_cell {W : World} {e : TypeId} {q n : Nat} {cur : Array Value} {xs : List Nat} (hO : Ob W q e cur) (ht : cur.toList.take (n * 1) = ints xs) (hx : xs.length = n) {j : Nat} (hj : j < n) : W.cell? ⟨q, j, none⟩ = some (.int .i64 (xs.getD j 0 : Nat)) := by
  rw [hO.cell]
  have e2 : (cur.toList.take (n * 1))[j]? = (ints xs)[j]? := by rw [ht]
  rw [List.getElem?_take_of_lt (by omega)] at e2
  have e3 : cur[j]? = (ints xs)[j]? := by simpa using e2
  rw [e3]
  simp [ints, List.getD, show j < xs.length by omega]
theorem row1_set {W : World} {base : Nat} {e : TypeId} {q n cap : Nat} {xs : List Nat} (h : W.ownsRow base e 1 (.slice (some ⟨q, 0, none⟩) n cap) n (ints xs)) (j a : Nat) (hn : 0 < n) : (W.setCell ⟨q, j, none⟩ (.int .i64 (a : Nat))).ownsRow base e 1 (.slice (some ⟨q, 0, none⟩) n cap) n (ints (xs.set j a)) := by
  obtain ⟨q', cap', cur, he, h2, h3, h4, h5, h6, h7⟩ := row1_form h hn
  cases he
  refine ⟨by have := h.1; simpa [ints] using this, Or.inr ⟨q, cap, cur.setIfInBounds j (.int .i64 (a : Nat)), rfl, h2, h3.set j _, h4, h5, by simpa using h6, ?_⟩⟩
  rw [Array.toList_setIfInBounds, List.take_set, h7]
  simp [ints, List.map_set]
def ltD (ts : List T3) (a b : Nat) : Bool := decide (cmpN (dayOf ts a) (dayOf ts b) < 0)
theorem ltD_iff (ts : List T3) (a b : Nat) : ltD ts a b = decide (dayOf ts a < dayOf ts b) := by
  unfold ltD
  congr 1
  simp only [eq_iff_iff]
  unfold cmpN
  constructor
  · intro h; split at h
    · assumption
    · split at h <;> omega
  · intro h; rw [if_pos h]; omega
theorem swap_take (l : List Nat) (j k : Nat) (hk : j + 1 < k) : swapL (l.take k) j = (swapL l j).take k := by
  unfold swapL
  rw [List.take_set, List.take_set]
  have e : ∀ i, i < k → (l.take k).getD i 0 = l.getD i 0 := fun i hi => by simp [List.getD, List.getElem?_take_of_lt hi]
  rw [e j (by omega), e (j + 1) hk]
theorem sink_take (lt : Nat → Nat → Bool) : ∀ (j : Nat) (l : List Nat) (k : Nat), j < k → sinkL lt j (l.take k) = (sinkL lt j l).take k
  | 0, _, _, _ => rfl
  | j + 1, l, k, hk => by
    have e : ∀ i, i < k → (l.take k).getD i 0 = l.getD i 0 := fun i hi => by simp [List.getD, List.getElem?_take_of_lt hi]
    unfold sinkL
    rw [e j (by omega), e (j + 1) hk]
    split
    · rw [swap_take l j k hk, sink_take lt j _ k (by omega)]
    · rfl
theorem sink_past (lt : Nat → Nat → Bool) : ∀ (j : Nat) (l : List Nat) (i : Nat), j < i → j < l.length → (sinkL lt j l).getD i 0 = l.getD i 0
  | 0, _, _, _, _ => rfl
  | j + 1, l, i, hi, hl => by
    unfold sinkL
    split
    · rw [sink_past lt j _ i (by omega) (by rw [swapL_len]; omega), swapL_at hl, if_neg (by omega), if_neg (by omega)]
    · rfl
theorem isort_past (lt : Nat → Nat → Bool) (l : List Nat) : ∀ (k i : Nat), k < i → k < l.length → (isortL lt l k).getD i 0 = l.getD i 0
  | 0, _, _, _ => rfl
  | k + 1, i, hi, hl => by
    unfold isortL
    rw [sink_past lt _ _ i hi (by rw [isortL_len]; exact hl), isort_past lt l k i (by omega) (by omega)]
/-- The first k tests in order. -/
def OL (ts : List T3) (n k : Nat) : List Nat := (isortL (ltD ts) (List.range n) (k - 1)).take k
theorem OL_len (ts : List T3) {n k : Nat} (h : k ≤ n) : (OL ts n k).length = k := by unfold OL; rw [List.length_take, isortL_len]; simp; omega
theorem OL_step (ts : List T3) {n k : Nat} (h : k < n) : sinkL (ltD ts) k (OL ts n k ++ [k]) = OL ts n (k + 1) := by
  have e1 : OL ts n k ++ [k] = (isortL (ltD ts) (List.range n) (k - 1)).take (k + 1) := by
    have hl : k < (isortL (ltD ts) (List.range n) (k - 1)).length := by rw [isortL_len]; simpa using h
    rw [List.take_succ_eq_append_getElem hl]
    unfold OL
    congr 2
    rcases Nat.eq_zero_or_pos k with rfl | hk
    · simp [isortL]
    · have := isort_past (ltD ts) (List.range n) (k - 1) k (by omega) (by simp; omega)
      rw [List.getD_eq_getElem?_getD, List.getElem?_eq_getElem hl] at this
      simp only [Option.getD_some] at this
      rw [this]
      simp [List.getD, h]
  rw [e1, sink_take _ k _ (k + 1) (by omega)]
  unfold OL
  rw [Nat.add_sub_cancel]
  congr 1
  rcases Nat.eq_zero_or_pos k with rfl | hk
  · rfl
  · obtain ⟨j, rfl⟩ : ∃ j, k = j + 1 := ⟨k - 1, by omega⟩
    rfl
theorem OL_all (ts : List T3) (n : Nat) : OL ts n n = orderL ts n := by
  unfold OL orderL
  rw [List.take_of_length_le (by rw [isortL_len]; simp)]
  rfl
/-- The last of those taken that strikes. -/
def lastBy (r : RuA) (ss : List T2) (ts : List T3) (mor : Nat → Nat) (z : Nat) (L : List Nat) : Int := L.foldl (fun b j => if stopB r ss ts mor z j then (j : Int) else b) (-1)
theorem lastBy_snoc (r : RuA) (ss : List T2) (ts : List T3) (mor : Nat → Nat) (z : Nat) (L : List Nat) (x : Nat) : lastBy r ss ts mor z (L ++ [x]) = if stopB r ss ts mor z x then (x : Int) else lastBy r ss ts mor z L := by simp [lastBy]
theorem lastBy_rev (r : RuA) (ss : List T2) (ts : List T3) (mor : Nat → Nat) (z : Nat) : ∀ M : List Nat, lastBy r ss ts mor z M.reverse = match M.find? (stopB r ss ts mor z) with | some i => (i : Int) | none => -1
  | [] => rfl
  | x :: M => by
    rw [List.reverse_cons, lastBy_snoc, List.find?_cons]
    cases stopB r ss ts mor z x
    · simpa using lastBy_rev r ss ts mor z M
    · rfl
theorem lastBy_eq (r : RuA) (ss : List T2) (ts : List T3) (mor : Nat → Nat) (z : Nat) (L : List Nat) : lastBy r ss ts mor z L = byS r ss ts mor z L := by
  have h := lastBy_rev r ss ts mor z L.reverse
  rw [List.reverse_reverse] at h
  exact h
structure TS where
  good : List Nat
  struck : List T2
  now : T2
  day : Nat
def onS (r : RuA) (ss : List T2) (p : T2) (a b : Nat) : T2 := nextFold r ss p (List.range' a (b - a))
theorem onS_self (r : RuA) (ss : List T2) (p : T2) (a : Nat) : onS r ss p a a = p := by simp [onS, nextFold]
theorem onS_step (r : RuA) (ss : List T2) (p : T2) {a b : Nat} (h : a ≤ b) : onS r ss p a (b + 1) = nextS r (ss.getD b (0, 0)) (onS r ss p a b) := by
  unfold onS nextFold
  rw [show b + 1 - a = (b - a) + 1 by omega, List.range'_concat, List.foldl_append]
  simp [show a + (b - a) = b by omega]
def joinS (p q : T2) : T2 := (max p.1 q.1, min p.2 q.2)
/-- The reference's step: one test of the order. -/
def takeS (r : RuA) (ss : List T2) (ts : List T3) (mor : Nat → Nat) (S : TS) (i : Nat) : TS :=
  if (joinS (onS r ss S.now S.day (mor i)) (keepT r ts i)).1 ≤ (joinS (onS r ss S.now S.day (mor i)) (keepT r ts i)).2 then ⟨S.good ++ [i], S.struck, joinS (onS r ss S.now S.day (mor i)) (keepT r ts i), mor i⟩
  else ⟨S.good, S.struck ++ [((i : Int), lastBy r ss ts mor i S.good)], onS r ss S.now S.day (mor i), mor i⟩
theorem eat_takes (r : RuA) (ss : List T2) (ts : List T3) (mor : Nat → Nat) (m : Nat) : ∀ (W : List Nat) (S : TS), S.day ≤ m → ∃ c, c ≤ W.length ∧
    eatS r ss ts mor m W S.good (onS r ss S.now S.day m) S.struck = (W.drop c, ((W.take c).foldl (takeS r ss ts mor) S).good, onS r ss ((W.take c).foldl (takeS r ss ts mor) S).now ((W.take c).foldl (takeS r ss ts mor) S).day m, ((W.take c).foldl (takeS r ss ts mor) S).struck) ∧
    ((W.take c).foldl (takeS r ss ts mor) S).day ≤ m ∧ (∀ i, (W.drop c).head? = some i → mor i ≠ m)
  | [], S, h => ⟨0, Nat.le_refl _, by rw [eat_nil]; rfl, h, by intro i hi; simp at hi⟩
  | i :: W, S, h => by
    by_cases hm : mor i = m
    · by_cases hc : max (onS r ss S.now S.day m).1 (keepT r ts i).1 ≤ min (onS r ss S.now S.day m).2 (keepT r ts i).2
      · have e : takeS r ss ts mor S i = ⟨S.good ++ [i], S.struck, joinS (onS r ss S.now S.day m) (keepT r ts i), m⟩ := by
          unfold takeS
          rw [hm, if_pos (by unfold joinS; exact hc)]
        obtain ⟨c, h1, h2, h3, h4⟩ := eat_takes r ss ts mor m W (takeS r ss ts mor S i) (by rw [e]; exact Nat.le_refl _)
        refine ⟨c + 1, by simp; omega, ?_, h3, h4⟩
        rw [eat_take r ss ts mor W S.good _ S.struck hm hc]
        rw [e, onS_self] at h2
        simp only [List.take_succ_cons, List.drop_succ_cons, List.foldl_cons, e]
        exact h2
      · have e : takeS r ss ts mor S i = ⟨S.good, S.struck ++ [((i : Int), byS r ss ts mor i S.good)], onS r ss S.now S.day m, m⟩ := by
          unfold takeS
          rw [hm, if_neg (by unfold joinS; exact hc), lastBy_eq]
        obtain ⟨c, h1, h2, h3, h4⟩ := eat_takes r ss ts mor m W (takeS r ss ts mor S i) (by rw [e]; exact Nat.le_refl _)
        refine ⟨c + 1, by simp; omega, ?_, h3, h4⟩
        rw [eat_strike r ss ts mor W S.good _ S.struck hm hc]
        rw [e, onS_self] at h2
        simp only [List.take_succ_cons, List.drop_succ_cons, List.foldl_cons, e]
        exact h2
    · exact ⟨0, by omega, by rw [eat_no r ss ts mor W S.good _ S.struck hm]; rfl, h, by intro j hj; simp at hj; rw [← hj]; exact hm⟩
theorem reach_takes (r : RuA) (ss : List T2) (ts : List T3) (mor : Nat → Nat) (L : List Nat) (p : T2) (hL : L.Pairwise (fun a b => mor a ≤ mor b)) : ∀ k : Nat, ∃ c, c ≤ L.length ∧
    (reachS r ss ts mor ⟨L, [], p, [], []⟩ (List.range k)).wait = L.drop c ∧
    (reachS r ss ts mor ⟨L, [], p, [], []⟩ (List.range k)).taken = ((L.take c).foldl (takeS r ss ts mor) ⟨[], [], p, 0⟩).good ∧
    (reachS r ss ts mor ⟨L, [], p, [], []⟩ (List.range k)).struck = ((L.take c).foldl (takeS r ss ts mor) ⟨[], [], p, 0⟩).struck ∧
    (reachS r ss ts mor ⟨L, [], p, [], []⟩ (List.range k)).can = onS r ss ((L.take c).foldl (takeS r ss ts mor) ⟨[], [], p, 0⟩).now ((L.take c).foldl (takeS r ss ts mor) ⟨[], [], p, 0⟩).day (k - 1) ∧
    ((L.take c).foldl (takeS r ss ts mor) ⟨[], [], p, 0⟩).day ≤ k - 1 ∧ (∀ i ∈ L.drop c, k ≤ mor i)
  | 0 => ⟨0, Nat.zero_le _, rfl, rfl, rfl, by rw [show (0 : Nat) - 1 = 0 from rfl]; exact (onS_self _ _ _ _).symm, Nat.le_refl _, fun _ _ => Nat.zero_le _⟩
  | k + 1 => by
    obtain ⟨c, h0, h1, h2, h3, h4, h5, h6⟩ := reach_takes r ss ts mor L p hL k
    rw [List.range_succ, reach_snoc]
    generalize reachS r ss ts mor ⟨L, [], p, [], []⟩ (List.range k) = R at h1 h2 h3 h4
    generalize hS : (L.take c).foldl (takeS r ss ts mor) ⟨[], [], p, 0⟩ = S at h2 h3 h4 h5
    have e : canS r ss k R.can = onS r ss S.now S.day k := by
      unfold canS
      rcases Nat.eq_zero_or_pos k with rfl | hk
      · simpa using h4
      · rw [if_pos hk, h4, ← onS_step r ss S.now h5, show k - 1 + 1 = k by omega]
    obtain ⟨d, g0, g1, g2, g3⟩ := eat_takes r ss ts mor k (L.drop c) S (by omega)
    have e2 : L.take (c + d) = L.take c ++ (L.drop c).take d := by rw [List.take_add]
    have e3 : L.drop (c + d) = (L.drop c).drop d := by rw [List.drop_drop]
    refine ⟨c + d, by simp at g0; omega, ?_, ?_, ?_, ?_, ?_, ?_⟩
    · unfold stepR; rw [e, h1, h2, h3, g1, e3]
    · unfold stepR; rw [e, h1, h2, h3, g1, e2, List.foldl_append, hS]
    · unfold stepR; rw [e, h1, h2, h3, g1, e2, List.foldl_append, hS]
    · unfold stepR; rw [e, h1, h2, h3, g1, e2, List.foldl_append, hS]; rfl
    · rw [e2, List.foldl_append, hS]; exact g2
    · rw [e3]
      have hp : ((L.drop c).drop d).Pairwise (fun a b => mor a ≤ mor b) := (hL.drop).drop
      have hge : ∀ i ∈ (L.drop c).drop d, k ≤ mor i := fun i hi => h6 i (List.mem_of_mem_drop hi)
      generalize (L.drop c).drop d = M at hp hge g3
      rcases M with _ | ⟨x, M⟩
      · intro i hi; simp at hi
      · have hx : k + 1 ≤ mor x := by
          have := g3 x rfl
          have := hge x (by simp)
          omega
        intro i hi
        rcases List.mem_cons.1 hi with rfl | hi
        · exact hx
        · exact Nat.le_trans hx ((List.pairwise_cons.1 hp).1 i hi)
theorem reach_all (r : RuA) (ss : List T2) (ts : List T3) (mor : Nat → Nat) (L : List Nat) (p : T2) (hL : L.Pairwise (fun a b => mor a ≤ mor b)) {k : Nat} (hk : ∀ i ∈ L, mor i < k) :
    (reachS r ss ts mor ⟨L, [], p, [], []⟩ (List.range k)).taken = (L.foldl (takeS r ss ts mor) ⟨[], [], p, 0⟩).good ∧ (reachS r ss ts mor ⟨L, [], p, [], []⟩ (List.range k)).struck = (L.foldl (takeS r ss ts mor) ⟨[], [], p, 0⟩).struck := by
  obtain ⟨c, h0, h1, h2, h3, h4, h5, h6⟩ := reach_takes r ss ts mor L p hL k
  have hc : L.take c = L := by
    rcases Nat.lt_or_ge c L.length with h | h
    · have hm : L[c] ∈ L.drop c := by rw [List.drop_eq_getElem_cons h]; exact List.mem_cons_self
      have := h6 _ hm
      have := hk _ (List.getElem_mem h)
      omega
    · exact List.take_of_length_le h
  rw [hc] at h2 h3
  exact ⟨h2, h3⟩
/-- What the reference holds for one morning. -/
def mornS (r : RuA) (ss : List T2) (ts : List T3) (mor : Nat → Nat) (F : List Nat) (p : T2) (m : Nat) : T2 := F.foldl (fun p i => if mor i = m then joinS p (keepT r ts i) else p) (canS r ss m p)
def knS (r : RuA) (ss : List T2) (ts : List T3) (mor : Nat → Nat) (F : List Nat) (p : T2) : Nat → List T2 × T2
  | 0 => ([], p)
  | k + 1 => ((knS r ss ts mor F p k).1 ++ [mornS r ss ts mor F (knS r ss ts mor F p k).2 k], mornS r ss ts mor F (knS r ss ts mor F p k).2 k)
theorem morn_all (r : RuA) (ts : List T3) (mor : Nat → Nat) (m : Nat) : ∀ (G : List Nat) (p : T2), (∀ i ∈ G, mor i = m) → G.foldl (fun p i => if mor i = m then joinS p (keepT r ts i) else p) p = G.foldl (fun p i => joinS p (keepT r ts i)) p
  | [], _, _ => rfl
  | i :: G, p, h => by
    rw [List.foldl_cons, List.foldl_cons, if_pos (h i (by simp))]
    exact morn_all r ts mor m G _ fun j hj => h j (by simp [hj])
theorem morn_none (r : RuA) (ts : List T3) (mor : Nat → Nat) (m : Nat) : ∀ (G : List Nat) (p : T2), (∀ i ∈ G, mor i ≠ m) → G.foldl (fun p i => if mor i = m then joinS p (keepT r ts i) else p) p = p
  | [], _, _ => rfl
  | i :: G, p, h => by
    rw [List.foldl_cons, if_neg (h i (by simp))]
    exact morn_none r ts mor m G _ fun j hj => h j (by simp [hj])
theorem eat_morn (r : RuA) (ss : List T2) (ts : List T3) (mor : Nat → Nat) (m : Nat) : ∀ (W tk : List Nat) (can : T2) (st : List T2), ∃ G, (∀ i ∈ G, mor i = m) ∧
    (eatS r ss ts mor m W tk can st).2.1 = tk ++ G ∧ (eatS r ss ts mor m W tk can st).2.2.1 = G.foldl (fun p i => joinS p (keepT r ts i)) can
  | [], tk, can, st => ⟨[], by simp, by rw [eat_nil]; simp, by rw [eat_nil]; rfl⟩
  | i :: W, tk, can, st => by
    by_cases hm : mor i = m
    · by_cases hc : max can.1 (keepT r ts i).1 ≤ min can.2 (keepT r ts i).2
      · rw [eat_take r ss ts mor W tk can st hm hc]
        obtain ⟨G, h1, h2, h3⟩ := eat_morn r ss ts mor m W (tk ++ [i]) (max can.1 (keepT r ts i).1, min can.2 (keepT r ts i).2) st
        refine ⟨i :: G, ?_, by rw [h2]; simp, by rw [h3]; rfl⟩
        intro j hj
        rcases List.mem_cons.1 hj with rfl | hj
        · exact hm
        · exact h1 j hj
      · rw [eat_strike r ss ts mor W tk can st hm hc]
        exact eat_morn r ss ts mor m W tk can _
    · exact ⟨[], by simp, by rw [eat_no r ss ts mor W tk can st hm]; simp, by rw [eat_no r ss ts mor W tk can st hm]; rfl⟩
theorem reach_more (r : RuA) (ss : List T2) (ts : List T3) (mor : Nat → Nat) (S : RS) : ∀ d k : Nat, ∃ X, (∀ i ∈ X, k ≤ mor i) ∧ (reachS r ss ts mor S (List.range (k + d))).taken = (reachS r ss ts mor S (List.range k)).taken ++ X
  | 0, k => ⟨[], by simp, by simp⟩
  | d + 1, k => by
    obtain ⟨X, h1, h2⟩ := reach_more r ss ts mor S d k
    rw [show k + (d + 1) = (k + d) + 1 by omega, List.range_succ, reach_snoc]
    generalize reachS r ss ts mor S (List.range (k + d)) = R at h2
    obtain ⟨G, g1, g2, -⟩ := eat_morn r ss ts mor (k + d) R.wait R.taken (canS r ss (k + d) R.can) R.struck
    refine ⟨X ++ G, ?_, by unfold stepR; rw [g2, h2]; simp⟩
    intro i hi
    rcases List.mem_append.1 hi with hi | hi
    · exact h1 i hi
    · have := g1 i hi
      omega
theorem reach_before (r : RuA) (ss : List T2) (ts : List T3) (mor : Nat → Nat) (L : List Nat) (p : T2) : ∀ k : Nat, ∀ i ∈ (reachS r ss ts mor ⟨L, [], p, [], []⟩ (List.range k)).taken, mor i < k
  | 0 => by intro i hi; simp [reachS] at hi
  | k + 1 => by
    have h := reach_before r ss ts mor L p k
    rw [List.range_succ, reach_snoc]
    generalize reachS r ss ts mor ⟨L, [], p, [], []⟩ (List.range k) = R at h
    obtain ⟨G, g1, g2, -⟩ := eat_morn r ss ts mor k R.wait R.taken (canS r ss k R.can) R.struck
    intro i hi
    unfold stepR at hi
    rw [g2] at hi
    rcases List.mem_append.1 hi with hi | hi
    · have := h i hi
      omega
    · have := g1 i hi
      omega
/-- Morning by morning, and test by test: the same levels. -/
theorem reach_known (r : RuA) (ss : List T2) (ts : List T3) (mor : Nat → Nat) (L : List Nat) (p : T2) (n : Nat) : ∀ k, k ≤ n → (reachS r ss ts mor ⟨L, [], p, [], []⟩ (List.range k)).lev = (knS r ss ts mor (reachS r ss ts mor ⟨L, [], p, [], []⟩ (List.range n)).taken p k).1 ∧ (reachS r ss ts mor ⟨L, [], p, [], []⟩ (List.range k)).can = (knS r ss ts mor (reachS r ss ts mor ⟨L, [], p, [], []⟩ (List.range n)).taken p k).2
  | 0, _ => ⟨rfl, rfl⟩
  | k + 1, hk => by
    obtain ⟨h1, h2⟩ := reach_known r ss ts mor L p n k (by omega)
    obtain ⟨X, x1, x2⟩ := reach_more r ss ts mor ⟨L, [], p, [], []⟩ (n - (k + 1)) (k + 1)
    have hb := reach_before r ss ts mor L p k
    rw [show k + 1 + (n - (k + 1)) = n by omega] at x2
    generalize hF : (reachS r ss ts mor ⟨L, [], p, [], []⟩ (List.range n)).taken = F at h1 h2 x2 ⊢
    rw [List.range_succ, reach_snoc] at x2 ⊢
    generalize reachS r ss ts mor ⟨L, [], p, [], []⟩ (List.range k) = R at h1 h2 x2 hb ⊢
    obtain ⟨G, g1, g2, g3⟩ := eat_morn r ss ts mor k R.wait R.taken (canS r ss k R.can) R.struck
    have hF2 : F = R.taken ++ G ++ X := by rw [x2]; unfold stepR; rw [g2]
    have hm : mornS r ss ts mor F R.can k = G.foldl (fun p i => joinS p (keepT r ts i)) (canS r ss k R.can) := by
      unfold mornS
      rw [hF2, List.foldl_append, List.foldl_append, morn_none r ts mor k R.taken _ (fun i hi => by have := hb i hi; omega), morn_all r ts mor k G _ g1, morn_none r ts mor k X _ (fun i hi => by have := x1 i hi; omega)]
    unfold knS stepR
    rw [← h1, ← h2, hm, g3]
    exact ⟨rfl, rfl⟩
theorem low_test {r : RuA} {s1 n0 x0 : Int} {c i : Nat} (h : lowN r s1 n0 x0 c < c) (hi : i ≤ lowN r s1 n0 x0 c) : mostS r s1 (n0 + i) < x0 ↔ i < lowN r s1 n0 x0 c := by
  obtain ⟨-, -, h3, h4⟩ := @firstT_spec (fun i => decide (x0 ≤ mostS r s1 (n0 + i))) c 0
  have h5 := h4 (by unfold lowN at h; omega)
  constructor
  · intro hlt
    rcases Nat.lt_or_ge i (lowN r s1 n0 x0 c) with h6 | h6
    · exact h6
    · obtain rfl : i = lowN r s1 n0 x0 c := by omega
      have h7 := of_decide_eq_true h5
      have h8 : x0 ≤ mostS r s1 (n0 + (lowN r s1 n0 x0 c : Nat)) := h7
      omega
  · intro hlt
    have h7 := of_decide_eq_false (h3 i (Nat.zero_le _) hlt)
    omega
theorem high_test {r : RuA} {s0 n0 x1 : Int} {c i : Nat} (hf : 0 ≤ r.feed) (hs : 0 ≤ s0) (hi : i < c) : x1 < leastS r s0 (n0 + i) ↔ aboveN r s0 n0 x1 c ≤ i := by
  obtain ⟨-, -, h3, h4⟩ := @firstT_spec (fun i => decide (x1 < leastS r s0 (n0 + i))) c 0
  constructor
  · intro hlt
    rcases Nat.lt_or_ge i (aboveN r s0 n0 x1 c) with h6 | h6
    · have h7 := of_decide_eq_false (h3 i (Nat.zero_le _) h6)
      exact absurd hlt h7
    · exact h6
  · intro hle
    have h5 := of_decide_eq_true (h4 (by unfold aboveN at hle; omega))
    have h8 : x1 < leastS r s0 (n0 + (aboveN r s0 n0 x1 c : Nat)) := h5
    have h9 := least_mono (r := r) (a := n0 + (aboveN r s0 n0 x1 c : Nat)) (b := n0 + i) hf hs (by omega)
    omega
/-- A span within another one (both ends, be it empty). -/
structure In2 (x o : T2) : Prop where
  a : o.1 ≤ x.1 ∧ x.1 ≤ o.2
  b : o.1 ≤ x.2 ∧ x.2 ≤ o.2
/-- What a morning's levels and the next one's have to do with each other. -/
structure Fol (r : RuA) (s n o : T2) : Prop where
  le : n.1 ≤ n.2
  lo : leastS r s.1 n.1 ≤ o.1
  hi : o.2 ≤ mostS r s.2 n.2
theorem low_lt {r : RuA} {s n o x : T2} (h : Fol r s n o) (hx : In2 x o) : lowN r s.2 n.1 x.1 (n.2 - n.1 + 1).toNat < (n.2 - n.1 + 1).toNat := by
  obtain ⟨h1, h2, h3⟩ := h
  obtain ⟨⟨a1, a2⟩, b1, b2⟩ := hx
  obtain ⟨-, e2, e3, e4⟩ := @firstT_spec (fun i => decide (x.1 ≤ mostS r s.2 (n.1 + i))) (n.2 - n.1 + 1).toNat 0
  rcases Nat.lt_or_ge (lowN r s.2 n.1 x.1 (n.2 - n.1 + 1).toNat) (n.2 - n.1 + 1).toNat with h | h
  · exact h
  · have h7 := of_decide_eq_false (e3 ((n.2 - n.1).toNat) (Nat.zero_le _) (by unfold lowN at h; omega))
    rw [show n.1 + (((n.2 - n.1).toNat : Nat) : Int) = n.2 by omega] at h7
    omega
theorem above_pos {r : RuA} {s n o x : T2} (hf : 0 ≤ r.feed) (hs : 0 ≤ s.1) (h : Fol r s n o) (hx : In2 x o) : 0 < aboveN r s.1 n.1 x.2 (n.2 - n.1 + 1).toNat := by
  obtain ⟨h1, h2, h3⟩ := h
  obtain ⟨⟨a1, a2⟩, b1, b2⟩ := hx
  rcases Nat.eq_zero_or_pos (aboveN r s.1 n.1 x.2 (n.2 - n.1 + 1).toNat) with h | h
  · have := (high_test (r := r) (s0 := s.1) (n0 := n.1) (x1 := x.2) (c := (n.2 - n.1 + 1).toNat) (i := 0) hf hs (by omega)).2 (by omega)
    rw [show n.1 + ((0 : Nat) : Int) = n.1 by omega] at this
    omega
  · exact h
theorem above_le (r : RuA) (s0 n0 x1 : Int) (c : Nat) : aboveN r s0 n0 x1 c ≤ c := by
  obtain ⟨-, e2, -, -⟩ := @firstT_spec (fun i => decide (x1 < leastS r s0 (n0 + i))) c 0
  unfold aboveN
  omega
theorem before_in {r : RuA} {s n o x : T2} (hf : 0 ≤ r.feed) (hs : 0 ≤ s.1) (h : Fol r s n o) (hx : In2 x o) : In2 (beforeS r s n x) n := by
  have h1 := low_lt h hx
  have h2 := above_pos hf hs h hx
  have h3 := above_le r s.1 n.1 x.2 (n.2 - n.1 + 1).toNat
  have h4 := h.le
  unfold beforeS
  exact ⟨⟨by simp only; omega, by simp only; omega⟩, by simp only; omega, by simp only; omega⟩
/-- A row of levels in which each morning follows from the one before. -/
def Row (r : RuA) (ss L : List T2) : Prop := (∀ i, i < L.length → (L.getD i (0, 0)).1 ≤ (L.getD i (0, 0)).2) ∧ ∀ m, m + 1 < L.length → leastS r (ss.getD m (0, 0)).1 (L.getD m (0, 0)).1 ≤ (L.getD (m + 1) (0, 0)).1 ∧ (L.getD (m + 1) (0, 0)).2 ≤ mostS r (ss.getD m (0, 0)).2 (L.getD m (0, 0)).2
theorem Row.fol {r : RuA} {ss L : List T2} (h : Row r ss L) {m : Nat} (hm : m + 1 < L.length) : Fol r (ss.getD m (0, 0)) (L.getD m (0, 0)) (L.getD (m + 1) (0, 0)) := ⟨h.1 m (by omega), (h.2 m hm).1, (h.2 m hm).2⟩
theorem eat_sub (r : RuA) (ss : List T2) (ts : List T3) (mor : Nat → Nat) (m : Nat) : ∀ (W tk : List Nat) (can : T2) (st : List T2), can.1 ≤ (eatS r ss ts mor m W tk can st).2.2.1.1 ∧ (eatS r ss ts mor m W tk can st).2.2.1.2 ≤ can.2
  | [], tk, can, st => by rw [eat_nil]; exact ⟨Int.le_refl _, Int.le_refl _⟩
  | i :: W, tk, can, st => by
    by_cases hm : mor i = m
    · by_cases hc : max can.1 (keepT r ts i).1 ≤ min can.2 (keepT r ts i).2
      · rw [eat_take r ss ts mor W tk can st hm hc]
        have := eat_sub r ss ts mor m W (tk ++ [i]) (max can.1 (keepT r ts i).1, min can.2 (keepT r ts i).2) st
        simp only at this
        omega
      · rw [eat_strike r ss ts mor W tk can st hm hc]
        exact eat_sub r ss ts mor m W tk can _
    · rw [eat_no r ss ts mor W tk can st hm]
      exact ⟨Int.le_refl _, Int.le_refl _⟩
theorem getD_snoc {L : List T2} {p : T2} {i : Nat} : (L ++ [p]).getD i (0, 0) = if i < L.length then L.getD i (0, 0) else if i = L.length then p else (0, 0) := by
  simp only [List.getD]
  split
  · rename_i h; rw [List.getElem?_append_left h]
  · split
    · rename_i h; subst h; simp
    · rw [List.getElem?_append_right (by omega), List.getElem?_eq_none (by simp; omega)]; rfl
theorem reach_row {r : RuA} {hs ws : List T2} (h : RuOK r hs ws) {ss : List T2} {N : Nat} (hss : ss.length = N) (hst : ∀ s ∈ ss, StrOK s) (ts : List T3) (mor : Nat → Nat) (L : List Nat) {p : T2} (hp : CanOK p) : ∀ k, k ≤ N + 1 →
    Row r ss (reachS r ss ts mor ⟨L, [], p, [], []⟩ (List.range k)).lev ∧ CanOK (reachS r ss ts mor ⟨L, [], p, [], []⟩ (List.range k)).can ∧ (reachS r ss ts mor ⟨L, [], p, [], []⟩ (List.range k)).lev.length = k ∧ (0 < k → (reachS r ss ts mor ⟨L, [], p, [], []⟩ (List.range k)).lev.getD (k - 1) (0, 0) = (reachS r ss ts mor ⟨L, [], p, [], []⟩ (List.range k)).can)
  | 0, _ => ⟨⟨fun i hi => by simp [reachS] at hi, fun m hm => by simp [reachS] at hm⟩, hp, rfl, fun h => by omega⟩
  | k + 1, hk => by
    obtain ⟨h1, h2, h3, h4⟩ := reach_row h hss hst ts mor L hp k (by omega)
    rw [List.range_succ, reach_snoc]
    generalize reachS r ss ts mor ⟨L, [], p, [], []⟩ (List.range k) = R at h1 h2 h3 h4
    have hc : CanOK (eatS r ss ts mor k R.wait R.taken (canS r ss k R.can) R.struck).2.2.1 := eat_can h ss ts mor k R.wait R.taken _ R.struck (h2.can h hss hst (by omega))
    have hsub := eat_sub r ss ts mor k R.wait R.taken (canS r ss k R.can) R.struck
    unfold stepR
    generalize (eatS r ss ts mor k R.wait R.taken (canS r ss k R.can) R.struck).2.2.1 = c at hc hsub
    refine ⟨⟨?_, ?_⟩, hc, by simp [h3], fun _ => by rw [getD_snoc, if_neg (by omega), if_pos (by omega)]⟩
    · intro i hi
      simp only [List.length_append, List.length_cons, List.length_nil] at hi
      rw [getD_snoc]
      by_cases h5 : i < R.lev.length
      · rw [if_pos h5]; exact h1.1 i h5
      · rw [if_neg h5, if_pos (by omega)]; exact hc.le
    · intro m hm
      simp only [List.length_append, List.length_cons, List.length_nil] at hm
      rw [getD_snoc, getD_snoc, if_pos (by omega)]
      by_cases h5 : m + 1 < R.lev.length
      · rw [if_pos h5]; exact h1.2 m h5
      · rw [if_neg h5, if_pos (by omega)]
        obtain rfl : k = m + 1 := by omega
        have h6 := h4 (by omega)
        rw [show m + 1 - 1 = m by omega] at h6
        rw [h6]
        unfold canS at hsub
        rw [if_pos (by omega), show m + 1 - 1 = m by omega] at hsub
        exact hsub
def backN (N j : Nat) : List Nat := (List.range j).map fun x => N - 1 - x
theorem backN_succ (N j : Nat) : backN N (j + 1) = backN N j ++ [N - 1 - j] := by simp [backN, List.range_succ]
theorem backN_all (N : Nat) : backL N (List.finRange N) = backN N N := by
  apply List.ext_getElem
  · simp [backL, backN]
  · intro i h1 h2
    simp [backL, backN]
theorem getD_set {L : List T2} {m i : Nat} {p : T2} (hm : m < L.length) : (L.set m p).getD i (0, 0) = if i = m then p else L.getD i (0, 0) := by
  by_cases h : i = m
  · subst h; simp [List.getD, hm]
  · rw [if_neg h]; simp [List.getD, show m ≠ i from fun e => h e.symm]
/-- From behind, each morning's span stays within what it was, and those before are as they were. -/
theorem back_in {r : RuA} {ss L : List T2} {N : Nat} (hf : 0 ≤ r.feed) (hst : ∀ s ∈ ss, StrOK s) (hss : ss.length = N) (hR : Row r ss L) (hl : L.length = N + 1) : ∀ j, j ≤ N →
    (∀ i, i < N - j → (knownFold r ss L (backN N j)).getD i (0, 0) = L.getD i (0, 0)) ∧ ∀ i, i ≤ N → In2 ((knownFold r ss L (backN N j)).getD i (0, 0)) (L.getD i (0, 0))
  | 0, _ => ⟨fun _ _ => rfl, fun i hi => ⟨⟨Int.le_refl _, hR.1 i (by omega)⟩, hR.1 i (by omega), Int.le_refl _⟩⟩
  | j + 1, hj => by
    obtain ⟨h1, h2⟩ := back_in hf hst hss hR hl j (by omega)
    rw [backN_succ, known_snoc]
    have hlen := known_len r ss (backN N j) L
    generalize knownFold r ss L (backN N j) = K at h1 h2 hlen
    unfold knownStep
    rw [h1 (N - 1 - j) (by omega)]
    refine ⟨fun i hi => ?_, fun i hi => ?_⟩
    · rw [getD_set (by omega), if_neg (by omega)]
      exact h1 i (by omega)
    · rw [getD_set (by omega)]
      by_cases h : i = N - 1 - j
      · rw [if_pos h, h]
        exact before_in hf (hst _ (getD_lt (by omega))).lo (hR.fol (by omega)) (h2 _ (by omega))
      · rw [if_neg h]
        exact h2 i hi
def takeF (t : TkA) (hs ws : List T2) (ds : List T4) (ts : List T3) (c : Nat) : TS := ((orderL ts t.tn).take c).foldl (takeS t.r (ds.map (strS hs ws)) ts (morT t ts)) ⟨[], [], (t.lo, t.hi), 0⟩
theorem takeF_step (t : TkA) (hs ws : List T2) (ds : List T4) (ts : List T3) {c : Nat} (h : c < t.tn) : takeF t hs ws ds ts (c + 1) = takeS t.r (ds.map (strS hs ws)) ts (morT t ts) (takeF t hs ws ds ts c) ((orderL ts t.tn).getD c 0) := by
  have hl := orderL_len ts t.tn
  unfold takeF
  rw [List.take_succ_eq_append_getElem (by omega), List.foldl_append]
  simp [List.getD, hl, h]
/-- The last of those taken that strikes, so far. -/
theorem lastBy_take (r : RuA) (ss : List T2) (ts : List T3) (mor : Nat → Nat) (z : Nat) {L : List Nat} {e : Nat} (h : e < L.length) : lastBy r ss ts mor z (L.take (e + 1)) = if stopB r ss ts mor z (L.getD e 0) then (L.getD e 0 : Int) else lastBy r ss ts mor z (L.take e) := by
  rw [List.take_succ_eq_append_getElem h, lastBy_snoc]
  simp [List.getD, h]
theorem lastBy_all (r : RuA) (ss : List T2) (ts : List T3) (mor : Nat → Nat) (z : Nat) (L : List Nat) : lastBy r ss ts mor z (L.take L.length) = lastBy r ss ts mor z L := by rw [List.take_length]
theorem lastBy_bd (r : RuA) (ss : List T2) (ts : List T3) (mor : Nat → Nat) (z : Nat) (N : Nat) : ∀ (M : List Nat), (∀ i ∈ M, i < N) → -1 ≤ lastBy r ss ts mor z M.reverse ∧ lastBy r ss ts mor z M.reverse ≤ N
  | [], _ => by simp [lastBy]
  | x :: M, h => by
    rw [List.reverse_cons, lastBy_snoc]
    have h1 := h x (by simp)
    split
    · omega
    · exact lastBy_bd r ss ts mor z N M fun i hi => h i (by simp [hi])
theorem SpC.lo {C : Array Value} {L : List T2} (h : SpC C L) {m : Nat} (hm : m < L.length) (x : Int) : SpC (C.setIfInBounds (m * 2) (.int .i64 x)) (L.set m (x, (L.getD m (0, 0)).2)) := by
  refine ⟨by simpa using h.size, fun i hi => ?_⟩
  rw [List.length_set] at hi
  obtain ⟨a, b⟩ := h.c i hi
  have hz := h.size
  rw [getD_set hm]
  by_cases e : i = m
  · subst e
    rw [if_pos rfl]
    exact ⟨by rw [Array.getElem?_setIfInBounds_self_of_lt (by omega)], by rw [Array.getElem?_setIfInBounds_ne (by omega)]; exact b⟩
  · rw [if_neg e]
    exact ⟨by rw [Array.getElem?_setIfInBounds_ne (by omega)]; exact a, by rw [Array.getElem?_setIfInBounds_ne (by omega)]; exact b⟩
theorem SpC.hi {C : Array Value} {L : List T2} (h : SpC C L) {m : Nat} (hm : m < L.length) (x : Int) : SpC (C.setIfInBounds (m * 2 + 1) (.int .i64 x)) (L.set m ((L.getD m (0, 0)).1, x)) := by
  refine ⟨by simpa using h.size, fun i hi => ?_⟩
  rw [List.length_set] at hi
  obtain ⟨a, b⟩ := h.c i hi
  have hz := h.size
  rw [getD_set hm]
  by_cases e : i = m
  · subst e
    rw [if_pos rfl]
    exact ⟨by rw [Array.getElem?_setIfInBounds_ne (by omega)]; exact a, by rw [Array.getElem?_setIfInBounds_self_of_lt (by omega)]⟩
  · rw [if_neg e]
    exact ⟨by rw [Array.getElem?_setIfInBounds_ne (by omega)]; exact a, by rw [Array.getElem?_setIfInBounds_ne (by omega)]; exact b⟩
theorem set_getD {L : List T2} {m : Nat} (hm : m < L.length) : L.set m (L.getD m (0, 0)) = L := by
  apply List.ext_getElem
  · simp
  · intro i h1 h2
    by_cases e : m = i
    · subst e; simp [List.getD, hm]
    · simp [e]
/-- What is held of a morning, so far. -/
def mf (r : RuA) (ts : List T3) (mor : Nat → Nat) (m : Nat) (p : T2) (M : List Nat) : T2 := M.foldl (fun p i => if mor i = m then joinS p (keepT r ts i) else p) p
theorem mf_take (r : RuA) (ts : List T3) (mor : Nat → Nat) (m : Nat) (p : T2) {F : List Nat} {e : Nat} (h : e < F.length) : mf r ts mor m p (F.take (e + 1)) = if mor (F.getD e 0) = m then joinS (mf r ts mor m p (F.take e)) (keepT r ts (F.getD e 0)) else mf r ts mor m p (F.take e) := by
  unfold mf
  rw [List.take_succ_eq_append_getElem h, List.foldl_append]
  simp [List.getD, h]
theorem kn_step (r : RuA) (ss : List T2) (ts : List T3) (mor : Nat → Nat) (F : List Nat) (p : T2) (k : Nat) : knS r ss ts mor F p (k + 1) = ((knS r ss ts mor F p k).1 ++ [mf r ts mor k (canS r ss k (knS r ss ts mor F p k).2) (F.take F.length)], mf r ts mor k (canS r ss k (knS r ss ts mor F p k).2) (F.take F.length)) := by
  rw [List.take_length]; rfl
theorem order_pair (t : TkA) (ts : List T3) : (orderL ts t.tn).Pairwise (fun a b => morT t ts a ≤ morT t ts b) := by
  rw [List.pairwise_iff_getElem]
  intro i j hi hj hij
  have hl := orderL_len ts t.tn
  have h := orderL_up ts t.tn i j hij (by omega)
  rw [List.getD_eq_getElem?_getD, List.getD_eq_getElem?_getD, List.getElem?_eq_getElem hi, List.getElem?_eq_getElem hj] at h
  simp only [Option.getD_some] at h
  unfold dayOf at h
  unfold morT
  omega
/-- The levels of the reference are those of the program, before it goes backward. -/
theorem kn_reach {t : TkA} {hs ws : List T2} {ds : List T4} {ts : List T3} (hO : RuOK t.r hs ws) (hst : ∀ s ∈ ds.map (strS hs ws), StrOK s) (hdl : ds.length = t.dn) (hp : CanOK (t.lo, t.hi))
    (hmor : ∀ i, i < t.tn → morT t ts i ≤ t.dn) (hup : (orderL ts t.tn).Pairwise (fun a b => morT t ts a ≤ morT t ts b)) :
    (reachT t hs ws ds ts).struck = ((orderL ts t.tn).foldl (takeS t.r (ds.map (strS hs ws)) ts (morT t ts)) ⟨[], [], (t.lo, t.hi), 0⟩).struck ∧
    ∀ k, k ≤ t.dn + 1 → CanOK (knS t.r (ds.map (strS hs ws)) ts (morT t ts) ((orderL ts t.tn).foldl (takeS t.r (ds.map (strS hs ws)) ts (morT t ts)) ⟨[], [], (t.lo, t.hi), 0⟩).good (t.lo, t.hi) k).2 ∧
      (knS t.r (ds.map (strS hs ws)) ts (morT t ts) ((orderL ts t.tn).foldl (takeS t.r (ds.map (strS hs ws)) ts (morT t ts)) ⟨[], [], (t.lo, t.hi), 0⟩).good (t.lo, t.hi) k).1.length = k ∧
      (k = t.dn + 1 → (knS t.r (ds.map (strS hs ws)) ts (morT t ts) ((orderL ts t.tn).foldl (takeS t.r (ds.map (strS hs ws)) ts (morT t ts)) ⟨[], [], (t.lo, t.hi), 0⟩).good (t.lo, t.hi) k).1 = (reachT t hs ws ds ts).lev) := by
  obtain ⟨h1, h2⟩ := reach_all t.r (ds.map (strS hs ws)) ts (morT t ts) (orderL ts t.tn) (t.lo, t.hi) hup (k := t.dn + 1) (fun i hi => by have := hmor i (orderL_lt ts t.tn i hi); omega)
  refine ⟨h2, fun k hk => ?_⟩
  obtain ⟨k1, k2⟩ := reach_known t.r (ds.map (strS hs ws)) ts (morT t ts) (orderL ts t.tn) (t.lo, t.hi) (t.dn + 1) k hk
  rw [h1] at k1 k2
  obtain ⟨-, r2, r3, -⟩ := reach_row (N := t.dn) hO (by rw [List.length_map, hdl]) hst ts (morT t ts) (orderL ts t.tn) hp k hk
  rw [← k1, ← k2]
  exact ⟨r2, r3, fun e => by rw [e]; rfl⟩
/-- So many 255ths of a span on. -/
def partS (p : T2) (n : Int) : Int := p.1 + (p.2 - p.1) * n / 255
theorem part_mul {p : T2} {n : Int} (hp : CanOK p) (hn : 0 ≤ n ∧ n ≤ 255) : 0 ≤ (p.2 - p.1) * n ∧ (p.2 - p.1) * n ≤ 255000000 ∧ (p.2 - p.1) * n ≤ (p.2 - p.1) * 255 := by
  have h1 := hp.a.1
  have h2 := hp.b.2
  have h3 := hp.le
  have h4 : 0 ≤ (p.2 - p.1) * n := Int.mul_nonneg (by omega) hn.1
  have h5 : (p.2 - p.1) * n ≤ (p.2 - p.1) * 255 := Int.mul_le_mul_of_nonneg_left hn.2 (by omega)
  exact ⟨h4, by omega, h5⟩
theorem part_in {p : T2} {n : Int} (hp : CanOK p) (hn : 0 ≤ n ∧ n ≤ 255) : p.1 ≤ partS p n ∧ partS p n ≤ p.2 := by
  obtain ⟨h1, h2, h3⟩ := part_mul hp hn
  unfold partS
  omega
/-- Is a test among the strikes? -/
def strkB (S : List T2) (x : Int) : Bool := S.any fun p => p.1 == x
theorem strkB_at {S : List T2} {x : Int} {k : Nat} (hk : k < S.length) (h : (S.getD k (0, 0)).1 = x) : strkB S x = true := by
  unfold strkB
  rw [List.any_eq_true]
  exact ⟨S.getD k (0, 0), by simp [List.getD, hk], by simpa using h⟩
theorem strkB_no {S : List T2} {x : Int} (h : ∀ k, k < S.length → (S.getD k (0, 0)).1 ≠ x) : strkB S x = false := by
  unfold strkB
  rw [List.any_eq_false]
  intro p hp
  obtain ⟨k, hk, rfl⟩ := List.mem_iff_getElem.1 hp
  have := h k hk
  simpa [List.getD, hk] using this
/-- A slice of small integers, with their bounds. -/
structure Nums (w : World) (kd : IntKind) (lo hi : Int) (a : Option Addr) (n : Nat) (zs : List Int) : Prop where
  len : zs.length = n
  le : n ≤ 140737488351232
  at_ : 0 < n → ∃ b o, a = some ⟨b, o, none⟩ ∧ b < w.heap.size ∧ ∀ i, i < n → w.cell? ⟨b, o + i, none⟩ = some (.int kd (zs.getD i 0)) ∧ lo ≤ zs.getD i 0 ∧ zs.getD i 0 ≤ hi
theorem Nums.below {w w' : World} {kd : IntKind} {lo hi : Int} {a : Option Addr} {n : Nat} {zs : List Int} (h : Nums w kd lo hi a n zs) (hb : Below w.heap.size w w') : Nums w' kd lo hi a n zs :=
  ⟨h.len, h.le, fun hn => let ⟨b, o, e, hl, hc⟩ := h.at_ hn; ⟨b, o, e, Nat.lt_of_lt_of_le hl hb.size, fun i hi => ⟨(hb.cell (p := ⟨b, o + i, none⟩) hl).trans (hc i hi).1, (hc i hi).2⟩⟩⟩
def intsZ (l : List Int) : List Value := l.map fun i => .int .i64 i
theorem intsZ_snoc (l : List Int) (i : Int) : intsZ (l ++ [i]) = intsZ l ++ [.int .i64 i] := by simp [intsZ]
theorem rowz_form {W : World} {base : Nat} {e : TypeId} {v : Value} {n : Nat} {xs : List Int} (h : W.ownsRow base e 1 v n (intsZ xs)) (hn : 0 < n) :
    ∃ q cap cur, v = .slice (some ⟨q, 0, none⟩) n cap ∧ base ≤ q ∧ Ob W q e cur ∧ n ≤ cap ∧ cap ≤ maxLen ∧ cur.size = cap * 1 ∧ cur.toList.take (n * 1) = intsZ xs := by
  rcases h.2 with ⟨-, h2⟩ | ⟨q, cap, cur, h1, h2, h3, h4, h5, h6, h7⟩
  · omega
  · exact ⟨q, cap, cur, h1, h2, h3, h4, h5, h6, h7⟩
theorem rowz_cell {W : World} {e : TypeId} {q n : Nat} {cur : Array Value} {xs : List Int} (hO : Ob W q e cur) (ht : cur.toList.take (n * 1) = intsZ xs) (hx : xs.length = n) {j : Nat} (hj : j < n) : W.cell? ⟨q, j, none⟩ = some (.int .i64 (xs.getD j 0)) := by
  rw [hO.cell]
  have e2 : (cur.toList.take (n * 1))[j]? = (intsZ xs)[j]? := by rw [ht]
  rw [List.getElem?_take_of_lt (by omega)] at e2
  have e3 : cur[j]? = (intsZ xs)[j]? := by simpa using e2
  rw [e3]
  simp [intsZ, List.getD, hx, hj]
theorem rowz_sl1 {W : World} {base : Nat} {e : TypeId} {v : Value} {xs : List Int} (h : W.ownsRow base e 1 v xs.length (intsZ xs)) : ∃ a c, v = .slice a xs.length c ∧ Sl1 W a xs.length xs := by
  rcases Nat.eq_zero_or_pos xs.length with h0 | h0
  · rcases h.2 with ⟨e1, e2⟩ | ⟨q, cap, cur, e1, -⟩
    · exact ⟨none, 0, by rw [e1, h0], rfl, fun h => by omega⟩
    · exact ⟨_, _, e1, rfl, fun h => by omega⟩
  · obtain ⟨q, cap, cur, rfl, -, hO, -, -, -, ht⟩ := rowz_form h h0
    exact ⟨_, _, rfl, rfl, fun _ => ⟨q, 0, rfl, hO.lt, fun i hi => by rw [Nat.zero_add]; exact rowz_cell hO ht rfl hi⟩⟩
/-- By how many 255ths a step goes. -/
def stepB (bs : List Int) (i : Nat) : Int := if 0 < bs.length then bs.getD (i % bs.length) 0 else 0
/-- The level of a course on a morning. -/
def courseN (r : RuA) (ss : List T2) (p : T2) (x0 : Int) (bs : List Int) : Nat → Int
  | 0 => partS p x0
  | k + 1 => partS (nextS r (ss.getD k (0, 0)) (courseN r ss p x0 bs k, courseN r ss p x0 bs k)) (stepB bs k)
def courseL (r : RuA) (ss : List T2) (p : T2) (x0 : Int) (bs : List Int) (k : Nat) : List Int := (List.range (k + 1)).map (courseN r ss p x0 bs)
theorem courseL_len (r : RuA) (ss : List T2) (p : T2) (x0 : Int) (bs : List Int) (k : Nat) : (courseL r ss p x0 bs k).length = k + 1 := by simp [courseL]
theorem courseL_at (r : RuA) (ss : List T2) (p : T2) (x0 : Int) (bs : List Int) {k i : Nat} (h : i ≤ k) : (courseL r ss p x0 bs k).getD i 0 = courseN r ss p x0 bs i := by
  simp [courseL, List.getD, show i < k + 1 by omega]
theorem courseL_snoc (r : RuA) (ss : List T2) (p : T2) (x0 : Int) (bs : List Int) (k : Nat) : courseL r ss p x0 bs (k + 1) = courseL r ss p x0 bs k ++ [courseN r ss p x0 bs (k + 1)] := by
  unfold courseL
  rw [List.range_succ, List.map_append]
  rfl
theorem one_can {n : Int} (h : 0 ≤ n ∧ n ≤ 1000000) : CanOK (n, n) := ⟨⟨h, h⟩, Int.le_refl _⟩
theorem course_in {r : RuA} {hs ws : List T2} (h : RuOK r hs ws) {ss : List T2} {N : Nat} (hss : ss.length = N) (hst : ∀ s ∈ ss, StrOK s) {p : T2} (hp : CanOK p) {x0 : Int} (hx : 0 ≤ x0 ∧ x0 ≤ 255) {bs : List Int} (hbs : ∀ i, 0 ≤ stepB bs i ∧ stepB bs i ≤ 255) : ∀ k, k ≤ N → 0 ≤ courseN r ss p x0 bs k ∧ courseN r ss p x0 bs k ≤ 1000000
  | 0, _ => by
    have h1 := part_in hp hx
    have h2 := hp.a.1
    have h3 := hp.b.2
    show 0 ≤ partS p x0 ∧ partS p x0 ≤ 1000000
    omega
  | k + 1, hk => by
    have ih := course_in h hss hst hp hx hbs k (by omega)
    have hc := (one_can ih).next h (hst _ (getD_lt (L := ss) (i := k) (by omega)))
    have h1 := part_in hc (hbs k)
    have h2 := hc.a.1
    have h3 := hc.b.2
    show 0 ≤ partS _ _ ∧ partS _ _ ≤ 1000000
    omega
theorem nums_step {w : World} {a : Option Addr} {n : Nat} {bs : List Int} (h : Nums w .u8 0 255 a n bs) (i : Nat) : 0 ≤ stepB bs i ∧ stepB bs i ≤ 255 := by
  unfold stepB
  split
  · rename_i h0
    rw [h.len] at h0
    obtain ⟨b, o, -, -, hc⟩ := h.at_ h0
    have h1 := hc (i % n) (Nat.mod_lt _ h0)
    rw [h.len]
    exact h1.2
  · exact ⟨Int.le_refl _, by decide⟩
theorem row_one {W : World} {base : Nat} (e : TypeId) (i : Int) (h : base ≤ W.heap.size) : (W.alloc (.cells #[.int .i64 i] e)).ownsRow base e 1 (.slice (some ⟨W.heap.size, 0, none⟩) 1 1) 1 (intsZ [i]) :=
  ⟨rfl, .inr ⟨W.heap.size, 1, #[.int .i64 i], rfl, h, Ob.new _ _ _, Nat.le_refl _, by unfold maxLen; omega, rfl, rfl⟩⟩
/-- A level within a span. -/
def InP (n : Int) (p : T2) : Prop := p.1 ≤ n ∧ n ≤ p.2
theorem InP.next {r : RuA} {n m : Int} {s p : T2} (hf : 0 ≤ r.feed) (hs : StrOK s) (h : InP n p) (hm : InP m (nextS r s (n, n))) : InP m (nextS r s p) := by
  obtain ⟨h1, h2⟩ := h
  obtain ⟨m1, m2⟩ := hm
  have a := least_mono (r := r) (a := p.1) (b := n) hf hs.lo h1
  have b := most_mono (r := r) (a := n) (b := p.2) hf (show 0 ≤ s.2 by have := hs.lo; have := hs.le; omega) h2
  exact ⟨Int.le_trans a m1, Int.le_trans m2 b⟩
theorem InP.join {n : Int} {p q : T2} (h : InP n p) (g : InP n q) : InP n (joinS p q) := by
  obtain ⟨h1, h2⟩ := h
  obtain ⟨g1, g2⟩ := g
  unfold joinS
  exact ⟨by show max p.1 q.1 ≤ n; omega, by show n ≤ min p.2 q.2; omega⟩
/-- A course: it begins at first, and each level follows the one before it. -/
structure Crs (r : RuA) (ss : List T2) (N : Nat) (p : T2) (c : Nat → Int) : Prop where
  at0 : InP (c 0) p
  next : ∀ k, k < N → InP (c (k + 1)) (nextS r (ss.getD k (0, 0)) (c k, c k))
theorem morn_in {r : RuA} {ts : List T3} {mor : Nat → Nat} {m : Nat} {n : Int} : ∀ (F : List Nat) (p : T2), (∀ i ∈ F, mor i = m → InP n (keepT r ts i)) → InP n p → InP n (F.foldl (fun p i => if mor i = m then joinS p (keepT r ts i) else p) p)
  | [], _, _, h => h
  | i :: F, p, hF, h => by
    rw [List.foldl_cons]
    refine morn_in F _ (fun j hj => hF j (by simp [hj])) ?_
    split
    · rename_i hm
      exact h.join (hF i (by simp) hm)
    · exact h
theorem kn_in {r : RuA} {ss : List T2} {N : Nat} {p : T2} {c : Nat → Int} (hf : 0 ≤ r.feed) (hss : ss.length = N) (hst : ∀ s ∈ ss, StrOK s) (hc : Crs r ss N p c) (ts : List T3) (mor : Nat → Nat) {F : List Nat} (hF : ∀ i ∈ F, InP (c (mor i)) (keepT r ts i)) : ∀ k, k ≤ N + 1 →
    InP (c (k - 1)) (knS r ss ts mor F p k).2 ∧ (knS r ss ts mor F p k).1.length = k ∧ ∀ j, j < k → InP (c j) ((knS r ss ts mor F p k).1.getD j (0, 0))
  | 0, _ => ⟨hc.at0, rfl, fun j hj => by omega⟩
  | k + 1, hk => by
    obtain ⟨h1, h2, h3⟩ := kn_in hf hss hst hc ts mor hF k (by omega)
    have hm : InP (c k) (mornS r ss ts mor F (knS r ss ts mor F p k).2 k) := by
      unfold mornS
      refine morn_in F _ (fun i hi hm => by rw [← hm]; exact hF i hi) ?_
      unfold canS
      rcases Nat.eq_zero_or_pos k with rfl | h0
      · rw [if_neg (by omega)]
        exact h1
      · rw [if_pos h0]
        have h4 := hc.next (k - 1) (by omega)
        rw [show k - 1 + 1 = k by omega] at h4
        exact h1.next hf (hst _ (getD_lt (by omega))) h4
    refine ⟨hm, ?_, fun j hj => ?_⟩
    · show ((knS r ss ts mor F p k).1 ++ [_]).length = k + 1
      simp [h2]
    · show InP (c j) (((knS r ss ts mor F p k).1 ++ [mornS r ss ts mor F (knS r ss ts mor F p k).2 k]).getD j (0, 0))
      rw [getD_snoc]
      by_cases e : j < k
      · rw [if_pos (by omega)]; exact h3 j e
      · obtain rfl : j = k := by omega
        rw [if_neg (by omega), if_pos h2.symm]; exact hm
theorem before_mem {r : RuA} {s n x : T2} {a b : Int} (hf : 0 ≤ r.feed) (hs : 0 ≤ s.1) (ha : InP a n) (hb : InP b x) (hab : InP b (nextS r s (a, a))) : InP a (beforeS r s n x) := by
  obtain ⟨a1, a2⟩ := ha
  obtain ⟨b1, b2⟩ := hb
  obtain ⟨c1, c2⟩ := hab
  have c1' : leastS r s.1 a ≤ b := c1
  have c2' : b ≤ mostS r s.2 a := c2
  have hi : n.1 + (((a - n.1).toNat : Nat) : Int) = a := by omega
  have hlt : (a - n.1).toNat < (n.2 - n.1 + 1).toNat := by omega
  have hl : lowN r s.2 n.1 x.1 (n.2 - n.1 + 1).toNat ≤ (a - n.1).toNat := by
    obtain ⟨-, -, h3, -⟩ := @firstT_spec (fun i => decide (x.1 ≤ mostS r s.2 (n.1 + i))) (n.2 - n.1 + 1).toNat 0
    rcases Nat.lt_or_ge (a - n.1).toNat (lowN r s.2 n.1 x.1 (n.2 - n.1 + 1).toNat) with h | h
    · have := of_decide_eq_false (h3 _ (Nat.zero_le _) h)
      rw [hi] at this
      omega
    · exact h
  have hh : (a - n.1).toNat < aboveN r s.1 n.1 x.2 (n.2 - n.1 + 1).toNat := by
    have := (high_test (r := r) (s0 := s.1) (n0 := n.1) (x1 := x.2) (c := (n.2 - n.1 + 1).toNat) (i := (a - n.1).toNat) hf hs hlt)
    rw [hi] at this
    rcases Nat.lt_or_ge (a - n.1).toNat (aboveN r s.1 n.1 x.2 (n.2 - n.1 + 1).toNat) with h | h
    · exact h
    · have := this.2 h
      omega
  unfold beforeS
  exact ⟨by show n.1 + _ ≤ a; omega, by show a ≤ n.1 + _ - 1; omega⟩
theorem known_in {r : RuA} {ss : List T2} {N : Nat} {p : T2} {c : Nat → Int} (hf : 0 ≤ r.feed) (hss : ss.length = N) (hst : ∀ s ∈ ss, StrOK s) (hc : Crs r ss N p c) : ∀ (ms : List Nat) (L : List T2), L.length = N + 1 → (∀ m ∈ ms, m < N) → (∀ j, j ≤ N → InP (c j) (L.getD j (0, 0))) → ∀ j, j ≤ N → InP (c j) ((knownFold r ss L ms).getD j (0, 0))
  | [], _, _, _, h => h
  | m :: ms, L, hl, hm, h => by
    have hmN := hm m (by simp)
    have e : knownFold r ss L (m :: ms) = knownFold r ss (knownStep r ss L m) ms := rfl
    rw [e]
    refine known_in hf hss hst hc ms _ (by unfold knownStep; rw [List.length_set, hl]) (fun k hk => hm k (by simp [hk])) (fun j hj => ?_)
    unfold knownStep
    rw [getD_set (by omega)]
    by_cases ej : j = m
    · rw [if_pos ej]
      subst ej
      exact before_mem hf (hst _ (getD_lt (by omega))).lo (h j (by omega)) (h (j + 1) (by omega)) (hc.next j hmN)
    · rw [if_neg ej]; exact h j hj
/-- The levels of each morning have each course that keeps to the tests taken. -/
theorem lev_in {t : TkA} {hs ws : List T2} {ds : List T4} {ts : List T3} {c : Nat → Int} (he : (taskS t hs ws ds ts).2.2 = 0) (hdl : ds.length = t.dn) (hc : Crs t.r (ds.map (strS hs ws)) t.dn (t.lo, t.hi) c) (hF : ∀ i ∈ (reachT t hs ws ds ts).taken, InP (c (morT t ts i)) (keepT t.r ts i)) : ∀ j, j ≤ t.dn → InP (c j) ((levT t hs ws ds ts).getD j (0, 0)) := by
  have ok := TaskOK.of he
  have hO := RuOK.of ok.r
  have hst := days_str hO hdl ok.days
  have hss : (ds.map (strS hs ws)).length = t.dn := by rw [List.length_map, hdl]
  obtain ⟨-, h2, h3⟩ := kn_in hO.feed.1 hss hst hc ts (morT t ts) hF (t.dn + 1) (Nat.le_refl _)
  obtain ⟨k1, -⟩ := reach_known t.r (ds.map (strS hs ws)) ts (morT t ts) (orderL ts t.tn) (t.lo, t.hi) (t.dn + 1) (t.dn + 1) (Nat.le_refl _)
  have k2 : (reachT t hs ws ds ts).lev = (knS t.r (ds.map (strS hs ws)) ts (morT t ts) (reachT t hs ws ds ts).taken (t.lo, t.hi) (t.dn + 1)).1 := k1
  unfold levT
  refine known_in hO.feed.1 hss hst hc _ _ (by rw [k2, h2]) (fun m hm => ?_) (fun j hj => by rw [k2]; exact h3 j (by omega))
  rw [backN_all] at hm
  unfold backN at hm
  rw [List.mem_map] at hm
  obtain ⟨x, hx, rfl⟩ := hm
  rw [List.mem_range] at hx
  omega
/-- No element twice. -/
def ND (l : List Nat) : Prop := ∀ a b, a < l.length → b < l.length → l.getD a 0 = l.getD b 0 → a = b
theorem swap_nd {l : List Nat} {j : Nat} (hj : j + 1 < l.length) (h : ND l) : ND (swapL l j) := by
  intro a b ha hb e
  rw [swapL_len] at ha hb
  rw [swapL_at hj, swapL_at hj] at e
  by_cases a1 : a = j
  · rw [if_pos a1] at e
    by_cases b1 : b = j
    · omega
    · rw [if_neg b1] at e
      by_cases b2 : b = j + 1
      · rw [if_pos b2] at e
        have := h _ _ hj (by omega) e
        omega
      · rw [if_neg b2] at e
        have := h _ _ hj hb e
        omega
  · rw [if_neg a1] at e
    by_cases a2 : a = j + 1
    · rw [if_pos a2] at e
      by_cases b1 : b = j
      · rw [if_pos b1] at e
        have := h _ _ (by omega) hj e
        omega
      · rw [if_neg b1] at e
        by_cases b2 : b = j + 1
        · omega
        · rw [if_neg b2] at e
          have := h _ _ (by omega) hb e
          omega
    · rw [if_neg a2] at e
      by_cases b1 : b = j
      · rw [if_pos b1] at e
        have := h _ _ ha hj e
        omega
      · rw [if_neg b1] at e
        by_cases b2 : b = j + 1
        · rw [if_pos b2] at e
          have := h _ _ ha (by omega) e
          omega
        · rw [if_neg b2] at e
          exact h _ _ ha hb e
theorem sink_nd {lt : Nat → Nat → Bool} : ∀ (j : Nat) (l : List Nat), j < l.length → ND l → ND (sinkL lt j l)
  | 0, _, _, h => h
  | j + 1, l, hj, h => by
    unfold sinkL
    split
    · exact sink_nd j _ (by rw [swapL_len]; omega) (swap_nd hj h)
    · exact h
theorem isort_nd {lt : Nat → Nat → Bool} {l : List Nat} (h : ND l) : ∀ i, i < l.length → ND (isortL lt l i)
  | 0, _ => h
  | i + 1, hi => by
    unfold isortL
    exact sink_nd _ _ (by rw [isortL_len]; exact hi) (isort_nd h i (by omega))
theorem order_nd (ts : List T3) (n : Nat) : ND (orderL ts n) := by
  unfold orderL
  have h : ND (List.range n) := by
    intro a b ha hb e
    simp at ha hb
    simpa [List.getD, ha, hb] using e
  rcases Nat.eq_zero_or_pos n with rfl | hn
  · exact h
  · exact isort_nd h _ (by simp; omega)
/-- No test is taken and struck. -/
theorem take_apart (t : TkA) (hs ws : List T2) (ds : List T4) (ts : List T3) : ∀ c, c ≤ t.tn → (∀ i ∈ (takeF t hs ws ds ts c).good, ∃ a, a < c ∧ (orderL ts t.tn).getD a 0 = i) ∧ (∀ s ∈ (takeF t hs ws ds ts c).struck, ∃ a, a < c ∧ s.1 = ((orderL ts t.tn).getD a 0 : Nat)) ∧ ∀ i ∈ (takeF t hs ws ds ts c).good, ∀ s ∈ (takeF t hs ws ds ts c).struck, s.1 ≠ (i : Int)
  | 0, _ => ⟨fun i hi => by simp [takeF] at hi, fun i hi => by simp [takeF] at hi, fun i hi => by simp [takeF] at hi⟩
  | c + 1, h => by
    obtain ⟨h1, h2, h3⟩ := take_apart t hs ws ds ts c (by omega)
    have hnd := order_nd ts t.tn
    have hl := orderL_len ts t.tn
    have hne : ∀ a, a < c → (orderL ts t.tn).getD a 0 ≠ (orderL ts t.tn).getD c 0 := fun a ha e => by
      have := hnd a c (by omega) (by omega) e
      omega
    rw [takeF_step t hs ws ds ts (by omega)]
    generalize takeF t hs ws ds ts c = S at h1 h2 h3
    unfold takeS
    split
    · refine ⟨fun i hi => ?_, fun s hs' => ?_, fun i hi s hs' => ?_⟩
      · rcases List.mem_append.1 hi with hi | hi
        · obtain ⟨a, ha, e⟩ := h1 i hi
          exact ⟨a, by omega, e⟩
        · rw [List.mem_singleton] at hi
          exact ⟨c, by omega, hi.symm⟩
      · obtain ⟨a, ha, e⟩ := h2 s hs'
        exact ⟨a, by omega, e⟩
      · rcases List.mem_append.1 hi with hi | hi
        · exact h3 i hi s hs'
        · rw [List.mem_singleton] at hi
          obtain ⟨a, ha, e⟩ := h2 s hs'
          have := hne a ha
          rw [e, hi]
          omega
    · refine ⟨fun i hi => ?_, fun s hs' => ?_, fun i hi s hs' => ?_⟩
      · obtain ⟨a, ha, e⟩ := h1 i hi
        exact ⟨a, by omega, e⟩
      · rcases List.mem_append.1 hs' with hs' | hs'
        · obtain ⟨a, ha, e⟩ := h2 s hs'
          exact ⟨a, by omega, e⟩
        · rw [List.mem_singleton] at hs'
          exact ⟨c, by omega, by rw [hs']⟩
      · rcases List.mem_append.1 hs' with hs' | hs'
        · exact h3 i hi s hs'
        · rw [List.mem_singleton] at hs'
          obtain ⟨a, ha, e⟩ := h1 i hi
          have := hne a ha
          rw [hs']
          simp only
          omega
theorem takeF_whole (t : TkA) (hs ws : List T2) (ds : List T4) (ts : List T3) : takeF t hs ws ds ts t.tn = (orderL ts t.tn).foldl (takeS t.r (ds.map (strS hs ws)) ts (morT t ts)) ⟨[], [], (t.lo, t.hi), 0⟩ := by
  unfold takeF
  rw [List.take_of_length_le (by rw [orderL_len]; exact Nat.le_refl _)]
/-- What is taken is not struck, and is a test. -/
theorem taken_ok {t : TkA} {hs ws : List T2} {ds : List T4} {ts : List T3} (hmor : ∀ i, i < t.tn → morT t ts i ≤ t.dn) : ∀ i ∈ (reachT t hs ws ds ts).taken, i < t.tn ∧ strkB (reachT t hs ws ds ts).struck i = false := by
  obtain ⟨h1, h2⟩ := reach_all t.r (ds.map (strS hs ws)) ts (morT t ts) (orderL ts t.tn) (t.lo, t.hi) (order_pair t ts) (k := t.dn + 1) (fun i hi => by have := hmor i (orderL_lt ts t.tn i hi); omega)
  have h1' : (reachT t hs ws ds ts).taken = (takeF t hs ws ds ts t.tn).good := by rw [takeF_whole]; exact h1
  have h2' : (reachT t hs ws ds ts).struck = (takeF t hs ws ds ts t.tn).struck := by rw [takeF_whole]; exact h2
  obtain ⟨a1, a2, a3⟩ := take_apart t hs ws ds ts t.tn (Nat.le_refl _)
  rw [h1', h2']
  intro i hi
  obtain ⟨a, ha, e⟩ := a1 i hi
  refine ⟨?_, ?_⟩
  · rw [← e]
    have hl := orderL_len ts t.tn
    exact getD_mem_lt (orderL_lt ts t.tn) (by omega)
  · refine strkB_no fun k hk => ?_
    exact a3 i hi _ (getD_lt hk)
/-- A course does not descend. -/
theorem crs_up {r : RuA} {hs ws : List T2} (h : RuOK r hs ws) {ss : List T2} {N : Nat} {p : T2} {c : Nat → Int} (hss : ss.length = N) (hst : ∀ s ∈ ss, StrOK s) (hc : Crs r ss N p c) (hb : ∀ k, k ≤ N → 0 ≤ c k ∧ c k ≤ 1000000) : ∀ d j, j + d ≤ N → c j ≤ c (j + d)
  | 0, _, _ => Int.le_refl _
  | d + 1, j, hj => by
    have h1 := crs_up h hss hst hc hb d j (by omega)
    have h2 := (hc.next (j + d) (by omega)).1
    have h3 := hb (j + d) (by omega)
    have hs := hst _ (getD_lt (L := ss) (i := j + d) (by omega))
    have h4 := (h.gain_bd h3.1 h3.2 hs.lo (by have := hs.le; have := hs.hi; omega)).2.2.1
    have h5 : leastS r (ss.getD (j + d) (0, 0)).1 (c (j + d)) ≤ c (j + d + 1) := h2
    unfold leastS at h5
    have h6 : 0 ≤ gainS r (c (j + d)) (ss.getD (j + d) (0, 0)).1 / 1000000000 := Int.ediv_nonneg h4 (by decide)
    have h7 : c (j + d) ≤ c (j + d + 1) := by omega
    rw [show j + (d + 1) = j + d + 1 by omega]
    omega
/-- The first morning at which a level can be so great, and by which it is. -/
theorem lost_lo {L : List T2} {first lost n : Int} {i : Nat} (hi : i < L.length) (h0 : 0 ≤ first) (hn : InP n (L.getD i (0, 0))) (hl : lost ≤ n) : 0 ≤ lostS (fun x => decide (lost ≤ x.2)) first L ∧ lostS (fun x => decide (lost ≤ x.2)) first L ≤ first + i := by
  obtain ⟨-, e2, e3, -⟩ := @firstT_spec (fun i => decide (lost ≤ (L.getD i (0, 0)).2)) L.length 0
  have hle : firstT (fun i => decide (lost ≤ (L.getD i (0, 0)).2)) L.length 0 ≤ i := by
    rcases Nat.lt_or_ge i (firstT (fun i => decide (lost ≤ (L.getD i (0, 0)).2)) L.length 0) with h | h
    · have h7 : ¬ lost ≤ (L.getD i (0, 0)).2 := of_decide_eq_false (e3 i (Nat.zero_le _) h)
      have h8 := hn.2
      omega
    · exact h
  have hx : idxS (fun x => decide (lost ≤ x.2)) L = (firstT (fun i => decide (lost ≤ (L.getD i (0, 0)).2)) L.length 0 : Nat) := by
    have e : idxS (fun x => decide (lost ≤ x.2)) L = if firstT (fun i => decide (lost ≤ (L.getD i (0, 0)).2)) L.length 0 < L.length then ((firstT (fun i => decide (lost ≤ (L.getD i (0, 0)).2)) L.length 0 : Nat) : Int) else -1 := rfl
    rw [e, if_pos (by omega)]
  unfold lostS
  rw [hx, if_pos (by omega)]
  omega
theorem lost_hi {L : List T2} {first lost : Int} (h : 0 ≤ lostS (fun x => decide (lost ≤ x.1)) first L) : ∃ j, j < L.length ∧ lostS (fun x => decide (lost ≤ x.1)) first L = first + (j : Nat) ∧ lost ≤ (L.getD j (0, 0)).1 := by
  obtain ⟨-, e2, -, e4⟩ := @firstT_spec (fun i => decide (lost ≤ (L.getD i (0, 0)).1)) L.length 0
  unfold lostS at h ⊢
  by_cases hx : firstT (fun i => decide (lost ≤ (L.getD i (0, 0)).1)) L.length 0 < L.length
  · have hi : idxS (fun x => decide (lost ≤ x.1)) L = (firstT (fun i => decide (lost ≤ (L.getD i (0, 0)).1)) L.length 0 : Nat) := by
      have e : idxS (fun x => decide (lost ≤ x.1)) L = if firstT (fun i => decide (lost ≤ (L.getD i (0, 0)).1)) L.length 0 < L.length then ((firstT (fun i => decide (lost ≤ (L.getD i (0, 0)).1)) L.length 0 : Nat) : Int) else -1 := rfl
      rw [e, if_pos hx]
    refine ⟨_, hx, by rw [hi, if_pos (by omega)], ?_⟩
    exact of_decide_eq_true (e4 (by omega))
  · have hi : idxS (fun x => decide (lost ≤ x.1)) L = -1 := by
      have e : idxS (fun x => decide (lost ≤ x.1)) L = if firstT (fun i => decide (lost ≤ (L.getD i (0, 0)).1)) L.length 0 < L.length then ((firstT (fun i => decide (lost ≤ (L.getD i (0, 0)).1)) L.length 0 : Nat) : Int) else -1 := rfl
      rw [e, if_neg hx]
    rw [hi, if_neg (by omega)] at h
    omega
/-- Tests as cells. -/
def flat3 (l : List T3) : List Value := l.flatMap fun x => [.int .i64 x.1, .int .i64 x.2.1, .int .i64 x.2.2]
theorem flat3_len : ∀ l : List T3, (flat3 l).length = l.length * 3
  | [] => rfl
  | x :: l => by have := flat3_len l; simp [flat3] at this ⊢; omega
theorem flat3_snoc (l : List T3) (x : T3) : flat3 (l ++ [x]) = flat3 l ++ [.int .i64 x.1, .int .i64 x.2.1, .int .i64 x.2.2] := by simp [flat3]
theorem flat3_at : ∀ (l : List T3) (i : Nat), i < l.length → (flat3 l)[i * 3]? = some (.int .i64 (l.getD i (0, 0, 0)).1) ∧ (flat3 l)[i * 3 + 1]? = some (.int .i64 (l.getD i (0, 0, 0)).2.1) ∧ (flat3 l)[i * 3 + 2]? = some (.int .i64 (l.getD i (0, 0, 0)).2.2)
  | [], i, h => by cases h
  | x :: l, 0, _ => ⟨rfl, rfl, rfl⟩
  | x :: l, i + 1, h => by
    have e : flat3 (x :: l) = [.int .i64 x.1, .int .i64 x.2.1, .int .i64 x.2.2] ++ flat3 l := rfl
    have ih := flat3_at l i (by simpa using h)
    rw [e, show (i + 1) * 3 = 3 + i * 3 by omega, show 3 + i * 3 + 1 = 3 + (i * 3 + 1) by omega, show 3 + i * 3 + 2 = 3 + (i * 3 + 2) by omega]
    rw [List.getElem?_append_right (by simp), List.getElem?_append_right (by simp), List.getElem?_append_right (by simp)]
    simpa using ih
theorem sl3_row {W : World} {B : Nat} {t : TypeId} {v : Value} {L : List T3} {n : Nat} (h : W.ownsRow B t 3 v n (flat3 L)) : ∃ a c, v = .slice a n c ∧ Sl3 W a n L ∧ n = L.length := by
  have hn : n = L.length := by have := h.1; rw [flat3_len] at this; omega
  rcases h.2 with ⟨rfl, rfl⟩ | ⟨g, cap, cur, rfl, hb, hg, hc1, hc2, hs, ht⟩
  · exact ⟨none, 0, rfl, ⟨hn.symm, fun h => absurd h (Nat.lt_irrefl 0)⟩, hn⟩
  · refine ⟨_, cap, rfl, ⟨hn.symm, fun _ => ⟨g, 0, rfl, (Array.getElem?_eq_some_iff.1 hg).1, fun i hi => ?_⟩⟩, hn⟩
    obtain ⟨x0, x1, x2⟩ := flat3_at L i (by omega)
    have key : ∀ j, j < n * 3 → W.cell? ⟨g, j, none⟩ = (flat3 L)[j]? := fun j hj => by
      rw [← ht, List.getElem?_take, if_pos hj]
      simp [World.cell?, hg]
    rw [show 0 + i * 3 = i * 3 by omega]
    exact ⟨(key _ (by omega)).trans x0, (key _ (by omega)).trans x1, (key _ (by omega)).trans x2⟩
/-- The grade of a test made true, wrong by at most its error, in turn. -/
def gradeN (gl e : Int) (i : Nat) : Int := min 3 (max 0 (gl + e * ((i % 3 : Nat) - 1)))
theorem gradeN_ok {gl e : Int} (h : 0 ≤ gl ∧ gl ≤ 3) (he : 0 ≤ e ∧ e ≤ 3) (i : Nat) : (0 ≤ gradeN gl e i ∧ gradeN gl e i ≤ 3) ∧ gl - gradeN gl e i ≤ e ∧ gradeN gl e i - gl ≤ e := by
  unfold gradeN
  have h3 : i % 3 = 0 ∨ i % 3 = 1 ∨ i % 3 = 2 := by omega
  rcases h3 with h3 | h3 | h3 <;> rw [h3] <;> omega
/-- The tests, made true of a course. -/
def trueT (t : TkA) (ts : List T3) (c : Nat → Int) (k : Nat) : List T3 := (List.range k).map fun i => ((ts.getD i (0, 0, 0)).1, gradeN (gradeL t.r (c (morT t ts i)) : Nat) (ts.getD i (0, 0, 0)).2.2 i, (ts.getD i (0, 0, 0)).2.2)
theorem trueT_snoc (t : TkA) (ts : List T3) (c : Nat → Int) (k : Nat) : trueT t ts c (k + 1) = trueT t ts c k ++ [((ts.getD k (0, 0, 0)).1, gradeN (gradeL t.r (c (morT t ts k)) : Nat) (ts.getD k (0, 0, 0)).2.2 k, (ts.getD k (0, 0, 0)).2.2)] := by
  unfold trueT
  rw [List.range_succ, List.map_append]
  rfl
theorem trueT_len (t : TkA) (ts : List T3) (c : Nat → Int) (k : Nat) : (trueT t ts c k).length = k := by simp [trueT]
theorem trueT_at (t : TkA) (ts : List T3) (c : Nat → Int) {k i : Nat} (h : i < k) : (trueT t ts c k).getD i (0, 0, 0) = ((ts.getD i (0, 0, 0)).1, gradeN (gradeL t.r (c (morT t ts i)) : Nat) (ts.getD i (0, 0, 0)).2.2 i, (ts.getD i (0, 0, 0)).2.2) := by simp [trueT, List.getD, h]
theorem gradeL_bd (r : RuA) (n : Int) : 0 ≤ ((gradeL r n : Nat) : Int) ∧ ((gradeL r n : Nat) : Int) ≤ 3 := by
  unfold gradeL
  split <;> (try split) <;> (try split) <;> omega
/-- A task with other tests. -/
abbrev TkA.with_ (t : TkA) (ua : Option Addr) (un uc : Nat) : TkA := { t with ta := ua, tn := un, tc := uc }
theorem true_task {t : TkA} {hs ws : List T2} {ds : List T4} {ts : List T3} (he : (taskS t hs ws ds ts).2.2 = 0) (c : Nat → Int) (ua : Option Addr) (uc : Nat) : (taskS (t.with_ ua t.tn uc) hs ws ds (trueT t ts c t.tn)).2.2 = 0 := by
  have ok := TaskOK.of he
  have hts := tests_ok ok.tests
  have h1 : (testsE t.first t.dn (trueT t ts c t.tn) t.tn).2 = 0 := firstE_all.2 fun i hi => by
    rw [trueT_at t ts c hi]
    obtain ⟨x1, x2, x3⟩ := hts i hi
    have h2 := (gradeN_ok (gradeL_bd t.r (c (morT t ts i))) x3 i).1
    unfold testE
    rw [if_pos]
    rw [Bool.and_eq_true, Bool.and_eq_true, inB_iff, inB_iff, inB_iff]
    exact ⟨⟨x1, h2⟩, x3⟩
  unfold taskS
  rw [if_neg (by simpa using ok.r), if_neg (by have := ok.dn; have := ok.tn; simp only; omega), if_pos (inB_iff.2 ok.first), if_neg (by simpa using ok.days), if_neg (by simpa using ok.start), if_neg (by simpa using h1)]
/-- Levels on a later morning have the course. -/
theorem on_crs {r : RuA} {ss : List T2} {N : Nat} {p : T2} {c : Nat → Int} (hf : 0 ≤ r.feed) (hss : ss.length = N) (hst : ∀ s ∈ ss, StrOK s) (hc : Crs r ss N p c) {q : T2} {a : Nat} (h : InP (c a) q) : ∀ d, a + d ≤ N → InP (c (a + d)) (onS r ss q a (a + d))
  | 0, _ => by rw [Nat.add_zero, onS_self]; exact h
  | d + 1, hd => by
    have ih := on_crs hf hss hst hc h d (by omega)
    rw [show a + (d + 1) = a + d + 1 by omega, onS_step r ss q (show a ≤ a + d by omega)]
    exact ih.next hf (hst _ (getD_lt (by omega))) (hc.next (a + d) (by omega))
/-- If a course keeps to all tests, none is struck. -/
theorem none_struck {t : TkA} {hs ws : List T2} {ds : List T4} {ts : List T3} {c : Nat → Int} (he : (taskS t hs ws ds ts).2.2 = 0) (hdl : ds.length = t.dn) (hc : Crs t.r (ds.map (strS hs ws)) t.dn (t.lo, t.hi) c) (hk : ∀ i, i < t.tn → InP (c (morT t ts i)) (keepT t.r ts i)) : (reachT t hs ws ds ts).struck = [] ∧ ∀ j, j ≤ t.dn → InP (c j) ((levT t hs ws ds ts).getD j (0, 0)) := by
  have ok := TaskOK.of he
  have hO := RuOK.of ok.r
  have hst := days_str hO hdl ok.days
  have hss : (ds.map (strS hs ws)).length = t.dn := by rw [List.length_map, hdl]
  have hts := tests_ok ok.tests
  have hmor : ∀ i, i < t.tn → morT t ts i ≤ t.dn := fun i hi => by have := hts i hi; unfold morT; omega
  obtain ⟨-, h2⟩ := reach_all t.r (ds.map (strS hs ws)) ts (morT t ts) (orderL ts t.tn) (t.lo, t.hi) (order_pair t ts) (k := t.dn + 1) (fun i hi => by have := hmor i (orderL_lt ts t.tn i hi); omega)
  have h2' : (reachT t hs ws ds ts).struck = (takeF t hs ws ds ts t.tn).struck := by rw [takeF_whole]; exact h2
  have hl := orderL_len ts t.tn
  have hup := List.pairwise_iff_getElem.1 (order_pair t ts)
  have key : ∀ k, k ≤ t.tn → (takeF t hs ws ds ts k).struck = [] ∧ InP (c (takeF t hs ws ds ts k).day) (takeF t hs ws ds ts k).now ∧ (takeF t hs ws ds ts k).day ≤ t.dn ∧ ∀ a, k ≤ a → a < t.tn → (takeF t hs ws ds ts k).day ≤ morT t ts ((orderL ts t.tn).getD a 0) := by
    intro k
    induction k with
    | zero => exact fun _ => ⟨rfl, hc.at0, Nat.zero_le _, fun a _ _ => Nat.zero_le _⟩
    | succ k ih =>
      intro hk'
      obtain ⟨i1, i2, i3, i4⟩ := ih (by omega)
      have hlt : (orderL ts t.tn).getD k 0 < t.tn := getD_mem_lt (orderL_lt ts t.tn) (by omega)
      have hm := hmor _ hlt
      have hd := i4 k (Nat.le_refl _) (by omega)
      have hn := on_crs hO.feed.1 hss hst hc i2 (morT t ts ((orderL ts t.tn).getD k 0) - (takeF t hs ws ds ts k).day) (by omega)
      rw [show (takeF t hs ws ds ts k).day + (morT t ts ((orderL ts t.tn).getD k 0) - (takeF t hs ws ds ts k).day) = morT t ts ((orderL ts t.tn).getD k 0) by omega] at hn
      have hj := hn.join (hk _ hlt)
      have hle : (joinS (onS t.r (ds.map (strS hs ws)) (takeF t hs ws ds ts k).now (takeF t hs ws ds ts k).day (morT t ts ((orderL ts t.tn).getD k 0))) (keepT t.r ts ((orderL ts t.tn).getD k 0))).1 ≤ (joinS (onS t.r (ds.map (strS hs ws)) (takeF t hs ws ds ts k).now (takeF t hs ws ds ts k).day (morT t ts ((orderL ts t.tn).getD k 0))) (keepT t.r ts ((orderL ts t.tn).getD k 0))).2 := Int.le_trans hj.1 hj.2
      rw [takeF_step t hs ws ds ts (by omega)]
      unfold takeS
      rw [if_pos hle]
      refine ⟨i1, hj, hm, fun a ha hat => ?_⟩
      have h5 := hup k a (by omega) (by omega) (by omega)
      simpa [List.getD, hl, hat, show k < t.tn by omega] using h5
  exact ⟨by rw [h2']; exact (key t.tn (Nat.le_refl _)).1, lev_in he hdl hc fun i hi => hk i (taken_ok hmor i hi).1⟩
/-- No level is left out between what follows two neighbours. -/
theorem least_step {r : RuA} {hs ws : List T2} (h : RuOK r hs ws) {s : T2} (hs' : StrOK s) {n : Int} (h0 : 0 ≤ n) : leastS r s.1 (n + 1) ≤ mostS r s.2 n + 1 := by
  have hg := gain_up h (s := s.1) (s' := s.2) h0 hs'.le
  have hf := h.feed
  have e : gainS r (n + 1) s.1 = gainS r n s.1 + r.feed * s.1 := by
    unfold gainS
    rw [Int.add_mul n 1 r.feed, Int.one_mul, ← Int.add_assoc, Int.add_mul]
  have hd1 : 0 ≤ r.feed * s.1 := Int.mul_nonneg hf.1 hs'.lo
  have hd2 : r.feed * s.1 ≤ 999999 * 1000 := Int.mul_le_mul hf.2 (by have := hs'.le; have := hs'.hi; omega) hs'.lo (by decide)
  unfold leastS mostS
  rw [e]
  omega
/-- From each level of a span one of the next one can follow, and each end follows one. -/
structure Just (r : RuA) (s b x : T2) : Prop where
  le : b.1 ≤ b.2
  fol : ∀ l, b.1 ≤ l → l ≤ b.2 → x.1 ≤ mostS r s.2 l ∧ leastS r s.1 l ≤ x.2
  lo : leastS r s.1 b.1 ≤ x.1
  hi : x.2 ≤ mostS r s.2 b.2
theorem before_just {r : RuA} {hs ws : List T2} (h : RuOK r hs ws) {s n o x : T2} (hs' : StrOK s) (hn0 : 0 ≤ n.1) (hF : Fol r s n o) (hx : In2 x o) (hle : x.1 ≤ x.2) : Just r s (beforeS r s n x) x := by
  have hs2 : 0 ≤ s.2 := by have := hs'.lo; have := hs'.le; omega
  have hl := low_lt hF hx
  have ha := above_pos h.feed.1 hs'.lo hF hx
  have hal := above_le r s.1 n.1 x.2 (n.2 - n.1 + 1).toNat
  have hlow := fun i (hi : i ≤ lowN r s.2 n.1 x.1 (n.2 - n.1 + 1).toNat) => low_test (i := i) hl hi
  have hhigh := fun i (hi : i < (n.2 - n.1 + 1).toNat) => high_test (r := r) (s0 := s.1) (n0 := n.1) (x1 := x.2) (i := i) h.feed.1 hs'.lo hi
  have hne := hF.le
  obtain ⟨⟨x1, x2⟩, x3, x4⟩ := hx
  have hFlo := hF.lo
  have hFhi := hF.hi
  unfold beforeS
  generalize lowN r s.2 n.1 x.1 (n.2 - n.1 + 1).toNat = A at hl hlow
  generalize aboveN r s.1 n.1 x.2 (n.2 - n.1 + 1).toNat = B at ha hal hhigh
  -- the least level from which the Lo can be reached
  have hAm : x.1 ≤ mostS r s.2 (n.1 + A) := by
    have h1 := hlow A (Nat.le_refl _)
    rcases Int.lt_or_le (mostS r s.2 (n.1 + A)) x.1 with h2 | h2
    · have := h1.1 h2; omega
    · exact h2
  have hAl : leastS r s.1 (n.1 + A) ≤ x.1 := by
    rcases Nat.eq_zero_or_pos A with h0 | h0
    · subst h0
      simp only [Int.natCast_zero, Int.add_zero]
      omega
    · have h1 := (hlow (A - 1) (by omega)).2 (by omega)
      have h2 := least_step h hs' (n := n.1 + ((A - 1 : Nat) : Int)) (by omega)
      rw [show n.1 + ((A - 1 : Nat) : Int) + 1 = n.1 + A by omega] at h2
      omega
  -- the greatest level from which the Hi can be reached
  have hBm : leastS r s.1 (n.1 + ((B - 1 : Nat) : Int)) ≤ x.2 := by
    have h1 := hhigh (B - 1) (by omega)
    rcases Int.lt_or_le x.2 (leastS r s.1 (n.1 + ((B - 1 : Nat) : Int))) with h2 | h2
    · have := h1.1 h2; omega
    · exact h2
  have hBh : x.2 ≤ mostS r s.2 (n.1 + ((B - 1 : Nat) : Int)) := by
    rcases Nat.lt_or_ge B (n.2 - n.1 + 1).toNat with h0 | h0
    · have h1 := (hhigh B h0).2 (Nat.le_refl _)
      have h2 := least_step h hs' (n := n.1 + ((B - 1 : Nat) : Int)) (by omega)
      rw [show n.1 + ((B - 1 : Nat) : Int) + 1 = n.1 + B by omega] at h2
      omega
    · rw [show n.1 + ((B - 1 : Nat) : Int) = n.2 by omega]
      omega
  have hAB : A ≤ B - 1 := by
    rcases Nat.lt_or_ge A B with h0 | h0
    · omega
    · have h1 := (hhigh A hl).2 h0
      omega
  refine ⟨by show n.1 + (A : Int) ≤ n.1 + (B : Int) - 1; omega, fun l l1 l2 => ?_, hAl, ?_⟩
  · have l1' : n.1 + (A : Int) ≤ l := l1
    have l2' : l ≤ n.1 + (B : Int) - 1 := l2
    have m1 := most_mono (r := r) (a := n.1 + A) (b := l) h.feed.1 hs2 l1'
    have m2 := least_mono (r := r) (a := l) (b := n.1 + ((B - 1 : Nat) : Int)) h.feed.1 hs'.lo (by omega)
    exact ⟨Int.le_trans hAm m1, Int.le_trans m2 hBm⟩
  · show x.2 ≤ mostS r s.2 (n.1 + (B : Int) - 1)
    rw [show n.1 + (B : Int) - 1 = n.1 + ((B - 1 : Nat) : Int) by omega]
    exact hBh
theorem back_just {r : RuA} {hs ws : List T2} (h : RuOK r hs ws) {ss L : List T2} {N : Nat} (hst : ∀ s ∈ ss, StrOK s) (hss : ss.length = N) (hR : Row r ss L) (hok : ∀ p ∈ L, OkSp p) (hl : L.length = N + 1) : ∀ j, j ≤ N →
    (∀ m, N - j ≤ m → m < N → Just r (ss.getD m (0, 0)) ((knownFold r ss L (backN N j)).getD m (0, 0)) ((knownFold r ss L (backN N j)).getD (m + 1) (0, 0))) ∧ ∀ i, i ≤ N → ((knownFold r ss L (backN N j)).getD i (0, 0)).1 ≤ ((knownFold r ss L (backN N j)).getD i (0, 0)).2
  | 0, _ => ⟨fun m h1 h2 => by omega, fun i hi => hR.1 i (by omega)⟩
  | j + 1, hj => by
    obtain ⟨h1, h2⟩ := back_just h hst hss hR hok hl j (by omega)
    obtain ⟨b1, b2⟩ := back_in h.feed.1 hst hss hR hl j (by omega)
    rw [backN_succ, known_snoc]
    have hlen := known_len r ss (backN N j) L
    generalize knownFold r ss L (backN N j) = K at h1 h2 b1 b2 hlen
    unfold knownStep
    rw [b1 (N - 1 - j) (by omega)]
    have hoo := hok _ (getD_lt (L := L) (i := N - 1 - j) (by omega))
    have hJ := before_just h (hst _ (getD_lt (L := ss) (i := N - 1 - j) (by omega))) hoo.lo (hR.fol (m := N - 1 - j) (by omega)) (b2 (N - 1 - j + 1) (by omega)) (h2 (N - 1 - j + 1) (by omega))
    refine ⟨fun m m1 m2 => ?_, fun i hi => ?_⟩
    · rw [getD_set (by omega), getD_set (by omega)]
      by_cases e : m = N - 1 - j
      · rw [if_pos e, if_neg (by omega), e]
        exact hJ
      · rw [if_neg e, if_neg (by omega)]
        exact h1 m (by omega) m2
    · rw [getD_set (by omega)]
      by_cases e : i = N - 1 - j
      · rw [if_pos e]; exact hJ.le
      · rw [if_neg e]; exact h2 i hi
/-- What is held of a morning is within what was, and within each test's levels. -/
theorem morn_sub {r : RuA} {ts : List T3} {mor : Nat → Nat} {m : Nat} : ∀ (F : List Nat) (p : T2), p.1 ≤ (F.foldl (fun p i => if mor i = m then joinS p (keepT r ts i) else p) p).1 ∧ (F.foldl (fun p i => if mor i = m then joinS p (keepT r ts i) else p) p).2 ≤ p.2 ∧ ∀ i ∈ F, mor i = m → (keepT r ts i).1 ≤ (F.foldl (fun p i => if mor i = m then joinS p (keepT r ts i) else p) p).1 ∧ (F.foldl (fun p i => if mor i = m then joinS p (keepT r ts i) else p) p).2 ≤ (keepT r ts i).2
  | [], _ => ⟨Int.le_refl _, Int.le_refl _, fun i hi => by cases hi⟩
  | j :: F, p => by
    rw [List.foldl_cons]
    obtain ⟨h1, h2, h3⟩ := morn_sub (r := r) (ts := ts) (mor := mor) (m := m) F (if mor j = m then joinS p (keepT r ts j) else p)
    generalize F.foldl (fun p i => if mor i = m then joinS p (keepT r ts i) else p) (if mor j = m then joinS p (keepT r ts j) else p) = R at h1 h2 h3
    by_cases e : mor j = m
    · rw [if_pos e] at h1 h2
      have a1 : max p.1 (keepT r ts j).1 ≤ R.1 := h1
      have a2 : R.2 ≤ min p.2 (keepT r ts j).2 := h2
      refine ⟨by omega, by omega, fun i hi hm => ?_⟩
      rcases List.mem_cons.1 hi with rfl | hi
      · exact ⟨by omega, by omega⟩
      · exact h3 i hi hm
    · rw [if_neg e] at h1 h2
      refine ⟨h1, h2, fun i hi hm => ?_⟩
      rcases List.mem_cons.1 hi with rfl | hi
      · exact absurd hm e
      · exact h3 i hi hm
theorem kn_at {r : RuA} {ss : List T2} {ts : List T3} {mor : Nat → Nat} {F : List Nat} {p : T2} : ∀ k, (knS r ss ts mor F p k).1.length = k ∧ ∀ j, j < k → (knS r ss ts mor F p k).1.getD j (0, 0) = mornS r ss ts mor F (knS r ss ts mor F p j).2 j
  | 0 => ⟨rfl, fun j hj => by omega⟩
  | k + 1 => by
    obtain ⟨h1, h2⟩ := kn_at (r := r) (ss := ss) (ts := ts) (mor := mor) (F := F) (p := p) k
    refine ⟨?_, fun j hj => ?_⟩
    · show ((knS r ss ts mor F p k).1 ++ [_]).length = k + 1
      simp [h1]
    · show ((knS r ss ts mor F p k).1 ++ [mornS r ss ts mor F (knS r ss ts mor F p k).2 k]).getD j (0, 0) = _
      rw [getD_snoc]
      by_cases e : j < k
      · rw [if_pos (by omega)]; exact h2 j e
      · obtain rfl : j = k := by omega
        rw [if_neg (by omega), if_pos h1.symm]
/-- An element is in a list, by its place. -/
def Has (l : List Nat) (i : Nat) : Prop := ∃ a, a < l.length ∧ l.getD a 0 = i
theorem swap_has {l : List Nat} {j i : Nat} (hj : j + 1 < l.length) (h : Has l i) : Has (swapL l j) i := by
  obtain ⟨a, ha, e⟩ := h
  by_cases a1 : a = j
  · exact ⟨j + 1, by rw [swapL_len]; exact hj, by rw [swapL_at hj, if_neg (by omega), if_pos rfl, ← a1]; exact e⟩
  · by_cases a2 : a = j + 1
    · exact ⟨j, by rw [swapL_len]; omega, by rw [swapL_at hj, if_pos rfl, ← a2]; exact e⟩
    · exact ⟨a, by rw [swapL_len]; exact ha, by rw [swapL_at hj, if_neg a1, if_neg a2]; exact e⟩
theorem sink_has {lt : Nat → Nat → Bool} {i : Nat} : ∀ (j : Nat) (l : List Nat), j < l.length → Has l i → Has (sinkL lt j l) i
  | 0, _, _, h => h
  | j + 1, l, hj, h => by
    unfold sinkL
    split
    · exact sink_has j _ (by rw [swapL_len]; omega) (swap_has hj h)
    · exact h
theorem isort_has {lt : Nat → Nat → Bool} {l : List Nat} {i : Nat} (h : Has l i) : ∀ k, k < l.length → Has (isortL lt l k) i
  | 0, _ => h
  | k + 1, hk => by
    unfold isortL
    exact sink_has _ _ (by rw [isortL_len]; exact hk) (isort_has h k (by omega))
theorem order_has (ts : List T3) {n i : Nat} (hi : i < n) : Has (orderL ts n) i := by
  unfold orderL
  exact isort_has ⟨i, by simpa using hi, by simp [List.getD, hi]⟩ _ (by simp; omega)
/-- Each test is taken or struck. -/
theorem take_each (t : TkA) (hs ws : List T2) (ds : List T4) (ts : List T3) : ∀ c, c ≤ t.tn → ∀ a, a < c → (orderL ts t.tn).getD a 0 ∈ (takeF t hs ws ds ts c).good ∨ strkB (takeF t hs ws ds ts c).struck ((orderL ts t.tn).getD a 0 : Nat) = true
  | 0, _, a, h => by omega
  | c + 1, h, a, ha => by
    have ih := take_each t hs ws ds ts c (by omega)
    rw [takeF_step t hs ws ds ts (by omega)]
    generalize takeF t hs ws ds ts c = S at ih
    have hsn : ∀ q x, strkB S.struck x = true → strkB (S.struck ++ [q]) x = true := fun q x hx => by
      unfold strkB at hx ⊢
      rw [List.any_append, hx, Bool.true_or]
    unfold takeS
    by_cases e : a = c
    · subst e
      split
      · exact .inl (by simp)
      · refine .inr ?_
        unfold strkB
        rw [List.any_append]
        simp
    · have h1 := ih a (by omega)
      split
      · rcases h1 with h1 | h1
        · exact .inl (List.mem_append.2 (.inl h1))
        · exact .inr h1
      · rcases h1 with h1 | h1
        · exact .inl h1
        · exact .inr (hsn _ _ h1)
/-- A test that is not struck is taken. -/
theorem fine_taken {t : TkA} {hs ws : List T2} {ds : List T4} {ts : List T3} (hmor : ∀ i, i < t.tn → morT t ts i ≤ t.dn) {i : Nat} (hi : i < t.tn) (h : strkB (reachT t hs ws ds ts).struck i = false) : i ∈ (reachT t hs ws ds ts).taken := by
  obtain ⟨h1, h2⟩ := reach_all t.r (ds.map (strS hs ws)) ts (morT t ts) (orderL ts t.tn) (t.lo, t.hi) (order_pair t ts) (k := t.dn + 1) (fun i hi => by have := hmor i (orderL_lt ts t.tn i hi); omega)
  have h1' : (reachT t hs ws ds ts).taken = (takeF t hs ws ds ts t.tn).good := by rw [takeF_whole]; exact h1
  have h2' : (reachT t hs ws ds ts).struck = (takeF t hs ws ds ts t.tn).struck := by rw [takeF_whole]; exact h2
  obtain ⟨a, ha, e⟩ := order_has ts hi
  rw [orderL_len] at ha
  have h3 := take_each t hs ws ds ts t.tn (Nat.le_refl _) a ha
  rw [e] at h3
  rw [h2'] at h
  rw [h1']
  rcases h3 with h3 | h3
  · exact h3
  · rw [h] at h3; cases h3
/-- All that DecayJust says of the levels. -/
theorem lev_just {t : TkA} {hs ws : List T2} {ds : List T4} {ts : List T3} (he : (taskS t hs ws ds ts).2.2 = 0) (hdl : ds.length = t.dn) :
    (∀ m, m < t.dn → Just t.r ((ds.map (strS hs ws)).getD m (0, 0)) ((levT t hs ws ds ts).getD m (0, 0)) ((levT t hs ws ds ts).getD (m + 1) (0, 0))) ∧
    (∀ i, i ≤ t.dn → 0 ≤ ((levT t hs ws ds ts).getD i (0, 0)).1 ∧ ((levT t hs ws ds ts).getD i (0, 0)).1 ≤ ((levT t hs ws ds ts).getD i (0, 0)).2 ∧ ((levT t hs ws ds ts).getD i (0, 0)).2 ≤ 1000000) ∧
    (t.lo ≤ ((levT t hs ws ds ts).getD 0 (0, 0)).1 ∧ ((levT t hs ws ds ts).getD 0 (0, 0)).2 ≤ t.hi) ∧
    ∀ i, i < t.tn → strkB (reachT t hs ws ds ts).struck i = false → InP ((levT t hs ws ds ts).getD (morT t ts i) (0, 0)).1 (keepT t.r ts i) ∧ InP ((levT t hs ws ds ts).getD (morT t ts i) (0, 0)).2 (keepT t.r ts i) := by
  have ok := TaskOK.of he
  have hO := RuOK.of ok.r
  have hst := days_str hO hdl ok.days
  have hss : (ds.map (strS hs ws)).length = t.dn := by rw [List.length_map, hdl]
  have hp := lv_ok ok.start
  have hts := tests_ok ok.tests
  have hmor : ∀ i, i < t.tn → morT t ts i ≤ t.dn := fun i hi => by have := hts i hi; unfold morT; omega
  obtain ⟨hrow, -, hlen, -⟩ := reach_row (N := t.dn) hO hss hst ts (morT t ts) (orderL ts t.tn) hp (t.dn + 1) (Nat.le_refl _)
  have hlok := (reach_ok (N := t.dn) hO hss hst ts (morT t ts) (List.range (t.dn + 1)) ⟨orderL ts t.tn, [], (t.lo, t.hi), [], []⟩ (fun m hm => by rw [List.mem_range] at hm; omega) hp (fun p hp => by cases hp)).2.1
  obtain ⟨k1, -⟩ := reach_known t.r (ds.map (strS hs ws)) ts (morT t ts) (orderL ts t.tn) (t.lo, t.hi) (t.dn + 1) (t.dn + 1) (Nat.le_refl _)
  have kk : ∀ j, j ≤ t.dn → (reachT t hs ws ds ts).lev.getD j (0, 0) = mornS t.r (ds.map (strS hs ws)) ts (morT t ts) (reachT t hs ws ds ts).taken (knS t.r (ds.map (strS hs ws)) ts (morT t ts) (reachT t hs ws ds ts).taken (t.lo, t.hi) j).2 j := fun j hj => by
    rw [show (reachT t hs ws ds ts).lev = (knS t.r (ds.map (strS hs ws)) ts (morT t ts) (reachT t hs ws ds ts).taken (t.lo, t.hi) (t.dn + 1)).1 from k1]
    exact (kn_at (t.dn + 1)).2 j (by omega)
  have hft := fun i (hi : i < t.tn) => fine_taken (hs := hs) (ws := ws) (ds := ds) hmor hi
  have hlen' : (reachT t hs ws ds ts).lev.length = t.dn + 1 := hlen
  have hrow' : Row t.r (ds.map (strS hs ws)) (reachT t hs ws ds ts).lev := hrow
  have hlok' : ∀ p ∈ (reachT t hs ws ds ts).lev, OkSp p := hlok
  unfold levT
  rw [backN_all]
  generalize (reachT t hs ws ds ts).taken = F at kk hft
  generalize (reachT t hs ws ds ts).lev = L at kk hlen' hrow' hlok'
  obtain ⟨j1, j2⟩ := back_just hO hst hss hrow' hlok' hlen' t.dn (Nat.le_refl _)
  obtain ⟨-, b2⟩ := back_in hO.feed.1 hst hss hrow' hlen' t.dn (Nat.le_refl _)
  have hbd : ∀ i, i ≤ t.dn → 0 ≤ (L.getD i (0, 0)).1 ∧ (L.getD i (0, 0)).2 ≤ 1000000 := fun i hi => by
    have h := hlok' _ (getD_lt (L := L) (i := i) (by omega))
    exact ⟨h.lo, h.hi⟩
  refine ⟨fun m hm => j1 m (by omega) hm, fun i hi => ?_, ?_, fun i hi hs' => ?_⟩
  · obtain ⟨⟨x1, x2⟩, x3, x4⟩ := b2 i hi
    have := hbd i hi
    exact ⟨by omega, j2 i hi, by omega⟩
  · obtain ⟨⟨x1, x2⟩, x3, x4⟩ := b2 0 (Nat.zero_le _)
    have h0 := kk 0 (Nat.zero_le _)
    obtain ⟨m1, m2, -⟩ := morn_sub (r := t.r) (ts := ts) (mor := morT t ts) (m := 0) F (t.lo, t.hi)
    have e : mornS t.r (ds.map (strS hs ws)) ts (morT t ts) F (knS t.r (ds.map (strS hs ws)) ts (morT t ts) F (t.lo, t.hi) 0).2 0 = F.foldl (fun p i => if morT t ts i = 0 then joinS p (keepT t.r ts i) else p) (t.lo, t.hi) := rfl
    rw [e] at h0
    rw [← h0] at m1 m2
    exact ⟨Int.le_trans m1 x1, Int.le_trans x4 m2⟩
  · have hm := hmor i hi
    obtain ⟨⟨x1, x2⟩, x3, x4⟩ := b2 (morT t ts i) hm
    have h0 := kk (morT t ts i) hm
    obtain ⟨-, -, m3⟩ := morn_sub (r := t.r) (ts := ts) (mor := morT t ts) (m := morT t ts i) F (canS t.r (ds.map (strS hs ws)) (morT t ts i) (knS t.r (ds.map (strS hs ws)) ts (morT t ts) F (t.lo, t.hi) (morT t ts i)).2)
    obtain ⟨n1, n2⟩ := m3 i (hft i hi hs') rfl
    have e : mornS t.r (ds.map (strS hs ws)) ts (morT t ts) F (knS t.r (ds.map (strS hs ws)) ts (morT t ts) F (t.lo, t.hi) (morT t ts i)).2 (morT t ts i) = F.foldl (fun p j => if morT t ts j = morT t ts i then joinS p (keepT t.r ts j) else p) (canS t.r (ds.map (strS hs ws)) (morT t ts i) (knS t.r (ds.map (strS hs ws)) ts (morT t ts) F (t.lo, t.hi) (morT t ts i)).2) := rfl
    rw [e] at h0
    rw [← h0] at n1 n2
    exact ⟨⟨by omega, by omega⟩, by omega, by omega⟩
/-- No level is in both spans. -/
def JE (p q : T2) : Prop := ¬ max p.1 q.1 ≤ min p.2 q.2
theorem JE.no {p q : T2} {n : Int} (h : JE p q) (hp : InP n p) (hq : InP n q) : False := by
  obtain ⟨a, b⟩ := hp
  obtain ⟨c, d⟩ := hq
  exact h (by omega)
theorem onS_trans (r : RuA) (ss : List T2) (p : T2) {a b c : Nat} (h : a ≤ b) (k : b ≤ c) : onS r ss (onS r ss p a b) b c = onS r ss p a c := by
  unfold onS nextFold
  rw [show c - a = (b - a) + (c - b) by omega, ← List.range'_append_1, List.foldl_append, show a + (b - a) = b by omega]
theorem fold_fst (r : RuA) (ss : List T2) : ∀ (ms : List Nat) (p q : T2), p.1 = q.1 → (nextFold r ss p ms).1 = (nextFold r ss q ms).1
  | [], _, _, h => h
  | m :: ms, p, q, h => by
    show (nextFold r ss (nextS r (ss.getD m (0, 0)) p) ms).1 = (nextFold r ss (nextS r (ss.getD m (0, 0)) q) ms).1
    exact fold_fst r ss ms _ _ (by unfold nextS; simp only; rw [h])
theorem fold_snd (r : RuA) (ss : List T2) : ∀ (ms : List Nat) (p q : T2), p.2 = q.2 → (nextFold r ss p ms).2 = (nextFold r ss q ms).2
  | [], _, _, h => h
  | m :: ms, p, q, h => by
    show (nextFold r ss (nextS r (ss.getD m (0, 0)) p) ms).2 = (nextFold r ss (nextS r (ss.getD m (0, 0)) q) ms).2
    exact fold_snd r ss ms _ _ (by unfold nextS; simp only; rw [h])
theorem onS_fst (r : RuA) (ss : List T2) {p q : T2} (a b : Nat) (h : p.1 = q.1) : (onS r ss p a b).1 = (onS r ss q a b).1 := fold_fst r ss _ p q h
theorem onS_snd (r : RuA) (ss : List T2) {p q : T2} (a b : Nat) (h : p.2 = q.2) : (onS r ss p a b).2 = (onS r ss q a b).2 := fold_snd r ss _ p q h
theorem onS_can {r : RuA} {hs ws : List T2} (h : RuOK r hs ws) {ss : List T2} (hst : ∀ s ∈ ss, StrOK s) {p : T2} (hp : CanOK p) (a : Nat) : ∀ d, a + d ≤ ss.length → CanOK (onS r ss p a (a + d))
  | 0, _ => by rw [Nat.add_zero, onS_self]; exact hp
  | d + 1, hd => by
    rw [← Nat.add_assoc, onS_step r ss p (Nat.le_add_right a d)]
    exact (onS_can h hst hp a d (by omega)).next h (hst _ (getD_lt (by omega)))
/-- The order of tests of one day. -/
def Stab (ts : List T3) (l : List Nat) : Prop := ∀ a b, a < b → b < l.length → dayOf ts (l.getD a 0) = dayOf ts (l.getD b 0) → l.getD a 0 < l.getD b 0
theorem swap_stab {ts : List T3} {l : List Nat} {j : Nat} (hj : j + 1 < l.length) (hd : dayOf ts (l.getD (j + 1) 0) < dayOf ts (l.getD j 0)) (h : Stab ts l) : Stab ts (swapL l j) := by
  intro a b hab hb e
  rw [swapL_len] at hb
  rw [swapL_at hj, swapL_at hj] at e ⊢
  by_cases a1 : a = j
  · rw [if_pos a1] at e ⊢
    by_cases b1 : b = j
    · omega
    · rw [if_neg b1] at e ⊢
      by_cases b2 : b = j + 1
      · rw [if_pos b2] at e; omega
      · rw [if_neg b2] at e ⊢
        exact h _ _ (by omega) hb e
  · rw [if_neg a1] at e ⊢
    by_cases a2 : a = j + 1
    · rw [if_pos a2] at e ⊢
      by_cases b1 : b = j
      · omega
      · rw [if_neg b1] at e ⊢
        by_cases b2 : b = j + 1
        · omega
        · rw [if_neg b2] at e ⊢
          exact h _ _ (by omega) hb e
    · rw [if_neg a2] at e ⊢
      by_cases b1 : b = j
      · rw [if_pos b1] at e ⊢
        exact h _ _ (by omega) hj e
      · rw [if_neg b1] at e ⊢
        by_cases b2 : b = j + 1
        · rw [if_pos b2] at e ⊢
          exact h _ _ (by omega) (by omega) e
        · rw [if_neg b2] at e ⊢
          exact h _ _ hab hb e
theorem sink_stab {ts : List T3} : ∀ (j : Nat) (l : List Nat), j < l.length → Stab ts l → Stab ts (sinkL (ltD ts) j l)
  | 0, _, _, h => h
  | j + 1, l, hj, h => by
    unfold sinkL
    split
    · rename_i hlt
      rw [ltD_iff] at hlt
      exact sink_stab j _ (by rw [swapL_len]; omega) (swap_stab hj (of_decide_eq_true hlt) h)
    · exact h
theorem isort_stab {ts : List T3} {l : List Nat} (h : Stab ts l) : ∀ i, i < l.length → Stab ts (isortL (ltD ts) l i)
  | 0, _ => h
  | i + 1, hi => by
    unfold isortL
    exact sink_stab _ _ (by rw [isortL_len]; exact hi) (isort_stab h i (by omega))
theorem order_stab (ts : List T3) (n : Nat) : Stab ts (orderL ts n) := by
  have h : Stab ts (List.range n) := by
    intro a b hab hb _
    simp at hb
    simp [List.getD, hb, show a < n by omega]
    exact hab
  rcases Nat.eq_zero_or_pos n with rfl | hn
  · exact h
  · show Stab ts (isortL (ltD ts) (List.range n) (n - 1))
    exact isort_stab h _ (by simp; omega)
/-- What is said of one strike. -/
def Nm (t : TkA) (hs ws : List T2) (ds : List T4) (ts : List T3) (good : List Nat) (s : T2) : Prop :=
  ∃ n, n < t.tn ∧ s.1 = (n : Nat) ∧ ((s.2 = -1 ∧ JE (onS t.r (ds.map (strS hs ws)) (t.lo, t.hi) 0 (morT t ts n)) (keepT t.r ts n)) ∨
    ∃ i : Nat, i ∈ good ∧ i < t.tn ∧ s.2 = (i : Nat) ∧ dayOf ts i ≤ dayOf ts n ∧ (dayOf ts i = dayOf ts n → i < n) ∧ JE (onS t.r (ds.map (strS hs ws)) (keepT t.r ts i) (morT t ts i) (morT t ts n)) (keepT t.r ts n))
theorem Nm.more {t : TkA} {hs ws : List T2} {ds : List T4} {ts : List T3} {good : List Nat} {s : T2} (h : Nm t hs ws ds ts good s) (x : Nat) : Nm t hs ws ds ts (good ++ [x]) s := by
  obtain ⟨n, h1, h2, h3 | ⟨i, h3, h4⟩⟩ := h
  · exact ⟨n, h1, h2, .inl h3⟩
  · exact ⟨n, h1, h2, .inr ⟨i, List.mem_append.2 (.inl h3), h4⟩⟩
/-- Where the ends of what is known now come from. -/
structure Sr (t : TkA) (hs ws : List T2) (ds : List T4) (ts : List T3) (S : TS) : Prop where
  can : CanOK S.now
  lo : S.now.1 = (onS t.r (ds.map (strS hs ws)) (t.lo, t.hi) 0 S.day).1 ∨ ∃ i ∈ S.good, morT t ts i ≤ S.day ∧ S.now.1 = (onS t.r (ds.map (strS hs ws)) (keepT t.r ts i) (morT t ts i) S.day).1
  hi : S.now.2 = (onS t.r (ds.map (strS hs ws)) (t.lo, t.hi) 0 S.day).2 ∨ ∃ i ∈ S.good, morT t ts i ≤ S.day ∧ S.now.2 = (onS t.r (ds.map (strS hs ws)) (keepT t.r ts i) (morT t ts i) S.day).2
theorem Sr.on {t : TkA} {hs ws : List T2} {ds : List T4} {ts : List T3} (hO : RuOK t.r hs ws) (hst : ∀ s ∈ ds.map (strS hs ws), StrOK s) {S : TS} (h : Sr t hs ws ds ts S) {m : Nat} (hm : S.day ≤ m) (hml : m ≤ (ds.map (strS hs ws)).length) : Sr t hs ws ds ts ⟨S.good, S.struck, onS t.r (ds.map (strS hs ws)) S.now S.day m, m⟩ := by
  obtain ⟨h1, h2, h3⟩ := h
  refine ⟨?_, ?_, ?_⟩
  · have := onS_can hO hst h1 S.day (m - S.day) (by omega)
    rw [show S.day + (m - S.day) = m by omega] at this
    exact this
  · rcases h2 with h2 | ⟨i, hi, hd, h2⟩
    · exact .inl (by simp only; rw [onS_fst _ _ S.day m h2, onS_trans _ _ _ (Nat.zero_le _) hm])
    · exact .inr ⟨i, hi, Nat.le_trans hd hm, by simp only; rw [onS_fst _ _ S.day m h2, onS_trans _ _ _ hd hm]⟩
  · rcases h3 with h3 | ⟨i, hi, hd, h3⟩
    · exact .inl (by simp only; rw [onS_snd _ _ S.day m h3, onS_trans _ _ _ (Nat.zero_le _) hm])
    · exact .inr ⟨i, hi, Nat.le_trans hd hm, by simp only; rw [onS_snd _ _ S.day m h3, onS_trans _ _ _ hd hm]⟩
theorem Sr.take {t : TkA} {hs ws : List T2} {ds : List T4} {ts : List T3} (hO : RuOK t.r hs ws) {S : TS} (h : Sr t hs ws ds ts S) {z : Nat} (hz : morT t ts z = S.day) (hc : (joinS S.now (keepT t.r ts z)).1 ≤ (joinS S.now (keepT t.r ts z)).2) (st : List T2) : Sr t hs ws ds ts ⟨S.good ++ [z], st, joinS S.now (keepT t.r ts z), S.day⟩ := by
  obtain ⟨h1, h2, h3⟩ := h
  have hk := keep_in hO (ts.getD z (0, 0, 0)).2.1 (ts.getD z (0, 0, 0)).2.2
  have hk' : InSp (keepT t.r ts z) := hk
  have hself : onS t.r (ds.map (strS hs ws)) (keepT t.r ts z) (morT t ts z) S.day = keepT t.r ts z := by rw [hz, onS_self]
  refine ⟨⟨⟨?_, ?_⟩, hc⟩, ?_, ?_⟩
  · have := h1.a; have := hk'.a
    show 0 ≤ max S.now.1 (keepT t.r ts z).1 ∧ max S.now.1 (keepT t.r ts z).1 ≤ 1000000
    omega
  · have := h1.b; have := hk'.b
    show 0 ≤ min S.now.2 (keepT t.r ts z).2 ∧ min S.now.2 (keepT t.r ts z).2 ≤ 1000000
    omega
  · by_cases e : (keepT t.r ts z).1 ≤ S.now.1
    · have e1 : (joinS S.now (keepT t.r ts z)).1 = S.now.1 := by show max _ _ = _; omega
      rcases h2 with h2 | ⟨i, hi, hd, h2⟩
      · exact .inl (by rw [e1]; exact h2)
      · exact .inr ⟨i, List.mem_append.2 (.inl hi), hd, by rw [e1]; exact h2⟩
    · have e1 : (joinS S.now (keepT t.r ts z)).1 = (keepT t.r ts z).1 := by show max _ _ = _; omega
      exact .inr ⟨z, by simp, Nat.le_of_eq hz, by rw [e1, hself]⟩
  · by_cases e : S.now.2 ≤ (keepT t.r ts z).2
    · have e1 : (joinS S.now (keepT t.r ts z)).2 = S.now.2 := by show min _ _ = _; omega
      rcases h3 with h3 | ⟨i, hi, hd, h3⟩
      · exact .inl (by rw [e1]; exact h3)
      · exact .inr ⟨i, List.mem_append.2 (.inl hi), hd, by rw [e1]; exact h3⟩
    · have e1 : (joinS S.now (keepT t.r ts z)).2 = (keepT t.r ts z).2 := by show min _ _ = _; omega
      exact .inr ⟨z, by simp, Nat.le_of_eq hz, by rw [e1, hself]⟩
theorem stop_iff {r : RuA} {ss : List T2} {ts : List T3} {mor : Nat → Nat} {z i : Nat} : stopB r ss ts mor z i = true ↔ JE (onS r ss (keepT r ts i) (mor i) (mor z)) (keepT r ts z) := by
  unfold stopB JE onS
  simp
/-- What strikes a test: one that is taken, or else Start. -/
theorem Sr.by {t : TkA} {hs ws : List T2} {ds : List T4} {ts : List T3} {S : TS} (h : Sr t hs ws ds ts S) {z : Nat} (hz : morT t ts z = S.day) (hc : JE S.now (keepT t.r ts z)) :
    (lastBy t.r (ds.map (strS hs ws)) ts (morT t ts) z S.good = -1 ∧ JE (onS t.r (ds.map (strS hs ws)) (t.lo, t.hi) 0 (morT t ts z)) (keepT t.r ts z)) ∨
    ∃ i : Nat, i ∈ S.good ∧ lastBy t.r (ds.map (strS hs ws)) ts (morT t ts) z S.good = (i : Nat) ∧ JE (onS t.r (ds.map (strS hs ws)) (keepT t.r ts i) (morT t ts i) (morT t ts z)) (keepT t.r ts z) := by
  rw [lastBy_eq]
  unfold byS
  cases hf : S.good.reverse.find? (stopB t.r (ds.map (strS hs ws)) ts (morT t ts) z) with
  | some i => exact .inr ⟨i, by simpa using List.mem_of_find?_eq_some hf, rfl, stop_iff.1 (List.find?_some hf)⟩
  | none =>
    refine .inl ⟨rfl, fun hn => ?_⟩
    have hno : ∀ i ∈ S.good, max (onS t.r (ds.map (strS hs ws)) (keepT t.r ts i) (morT t ts i) (morT t ts z)).1 (keepT t.r ts z).1 ≤ min (onS t.r (ds.map (strS hs ws)) (keepT t.r ts i) (morT t ts i) (morT t ts z)).2 (keepT t.r ts z).2 := fun i hi => by
      have h1 := List.find?_eq_none.1 hf i (by simpa using hi)
      rw [stop_iff] at h1
      exact Classical.not_not.1 h1
    rw [hz] at hn hno
    have hle := h.can.le
    have hlo : S.now.1 ≤ (keepT t.r ts z).2 := by
      rcases h.lo with h2 | ⟨i, hi, -, h2⟩
      · omega
      · have := hno i hi; omega
    have hhi : (keepT t.r ts z).1 ≤ S.now.2 := by
      rcases h.hi with h2 | ⟨i, hi, -, h2⟩
      · omega
      · have := hno i hi; omega
    exact hc (by omega)
theorem named_take {t : TkA} {hs ws : List T2} {ds : List T4} {ts : List T3} (hO : RuOK t.r hs ws) (hst : ∀ s ∈ ds.map (strS hs ws), StrOK s) (hss : (ds.map (strS hs ws)).length = t.dn) (hp : CanOK (t.lo, t.hi)) (hmor : ∀ i, i < t.tn → morT t ts i ≤ t.dn) : ∀ c, c ≤ t.tn →
    Sr t hs ws ds ts (takeF t hs ws ds ts c) ∧ (∀ a, c ≤ a → a < t.tn → (takeF t hs ws ds ts c).day ≤ morT t ts ((orderL ts t.tn).getD a 0)) ∧ ∀ s ∈ (takeF t hs ws ds ts c).struck, Nm t hs ws ds ts (takeF t hs ws ds ts c).good s
  | 0, _ => ⟨⟨hp, .inl (by rw [show (takeF t hs ws ds ts 0).day = 0 from rfl, onS_self]; rfl), .inl (by rw [show (takeF t hs ws ds ts 0).day = 0 from rfl, onS_self]; rfl)⟩, fun a _ _ => Nat.zero_le _, fun s hs' => by simp [takeF] at hs'⟩
  | c + 1, hc => by
    obtain ⟨h1, h2, h3⟩ := named_take hO hst hss hp hmor c (by omega)
    obtain ⟨a1, -, -⟩ := take_apart t hs ws ds ts c (by omega)
    have hl := orderL_len ts t.tn
    have hz : (orderL ts t.tn).getD c 0 < t.tn := getD_mem_lt (orderL_lt ts t.tn) (by omega)
    have hd := h2 c (Nat.le_refl _) (by omega)
    have hup : ∀ a, c ≤ a → a < t.tn → morT t ts ((orderL ts t.tn).getD c 0) ≤ morT t ts ((orderL ts t.tn).getD a 0) := fun a ha hat => by
      rcases Nat.eq_or_lt_of_le ha with rfl | ha
      · exact Nat.le_refl _
      · have := orderL_up ts t.tn c a ha hat
        unfold dayOf at this
        unfold morT
        omega
    have hbef : ∀ i ∈ (takeF t hs ws ds ts c).good, i < t.tn ∧ dayOf ts i ≤ dayOf ts ((orderL ts t.tn).getD c 0) ∧ (dayOf ts i = dayOf ts ((orderL ts t.tn).getD c 0) → i < (orderL ts t.tn).getD c 0) := fun i hi => by
      obtain ⟨a, ha, e⟩ := a1 i hi
      rw [← e]
      exact ⟨getD_mem_lt (orderL_lt ts t.tn) (by omega), orderL_up ts t.tn a c ha (by omega), order_stab ts t.tn a c ha (by omega)⟩
    rw [takeF_step t hs ws ds ts (by omega)]
    generalize (orderL ts t.tn).getD c 0 = z at hz hd hup hbef
    generalize takeF t hs ws ds ts c = S at h1 h3 hd hbef
    have g := h1.on hO hst hd (by rw [hss]; exact hmor z hz)
    unfold takeS
    split
    · rename_i hj
      exact ⟨g.take hO (z := z) rfl hj _, fun a ha hat => hup a (by omega) hat, fun s hs' => (h3 s hs').more z⟩
    · rename_i hj
      refine ⟨⟨g.can, g.lo, g.hi⟩, fun a ha hat => hup a (by omega) hat, fun s hs' => ?_⟩
      rcases List.mem_append.1 hs' with hs' | hs'
      · exact h3 s hs'
      · rw [List.mem_singleton] at hs'
        subst hs'
        refine ⟨z, hz, rfl, ?_⟩
        rcases g.by (z := z) rfl hj with ⟨b1, b2⟩ | ⟨i, b1, b2, b3⟩
        · exact .inl ⟨b1, b2⟩
        · obtain ⟨c1, c2, c3⟩ := hbef i b1
          exact .inr ⟨i, b1, c1, b2, c2, c3, b3⟩
/-- All that DecayNamed says of the strikes. -/
theorem named_all {t : TkA} {hs ws : List T2} {ds : List T4} {ts : List T3} (he : (taskS t hs ws ds ts).2.2 = 0) (hdl : ds.length = t.dn) :
    strkB (reachT t hs ws ds ts).struck (-1) = false ∧ ∀ k, k < (reachT t hs ws ds ts).struck.length → Nm t hs ws ds ts (reachT t hs ws ds ts).taken ((reachT t hs ws ds ts).struck.getD k (0, 0)) := by
  have ok := TaskOK.of he
  have hO := RuOK.of ok.r
  have hst := days_str hO hdl ok.days
  have hss : (ds.map (strS hs ws)).length = t.dn := by rw [List.length_map, hdl]
  have hp := lv_ok ok.start
  have hts := tests_ok ok.tests
  have hmor : ∀ i, i < t.tn → morT t ts i ≤ t.dn := fun i hi => by have := hts i hi; unfold morT; omega
  obtain ⟨h1, h2⟩ := reach_all t.r (ds.map (strS hs ws)) ts (morT t ts) (orderL ts t.tn) (t.lo, t.hi) (order_pair t ts) (k := t.dn + 1) (fun i hi => by have := hmor i (orderL_lt ts t.tn i hi); omega)
  have h1' : (reachT t hs ws ds ts).taken = (takeF t hs ws ds ts t.tn).good := by rw [takeF_whole]; exact h1
  have h2' : (reachT t hs ws ds ts).struck = (takeF t hs ws ds ts t.tn).struck := by rw [takeF_whole]; exact h2
  obtain ⟨-, -, h3⟩ := named_take hO hst hss hp hmor t.tn (Nat.le_refl _)
  rw [h1', h2']
  refine ⟨strkB_no fun k hk => ?_, fun k hk => h3 _ (getD_lt hk)⟩
  obtain ⟨n, -, e, -⟩ := h3 _ (getD_lt hk)
  omega
/-- A course from a morning on is in what its first levels lead to. -/
theorem on_in {r : RuA} {ss : List T2} (hf : 0 ≤ r.feed) (hst : ∀ s ∈ ss, StrOK s) {c : Nat → Int} {p : T2} {a N : Nat} (h0 : InP (c 0) p) (hn : ∀ k, k < N → InP (c (k + 1)) (nextS r (ss.getD (a + k) (0, 0)) (c k, c k))) (ha : a + N ≤ ss.length) : ∀ k, k ≤ N → InP (c k) (onS r ss p a (a + k))
  | 0, _ => by rw [Nat.add_zero, onS_self]; exact h0
  | k + 1, hk => by
    rw [← Nat.add_assoc, onS_step r ss p (Nat.le_add_right a k)]
    exact (on_in hf hst h0 hn ha k (by omega)).next hf (hst _ (getD_lt (by omega))) (hn k (by omega))
abbrev TkA.bare_ (t : TkA) : TkA := ⟨t.r, t.first, t.da, t.dn, t.dc, t.lo, t.hi, none, 0, 0⟩
/-- Where the days from one on lie. -/
def TkA.lateA (t : TkA) (k : Nat) : Option Addr := if t.dc = k then t.da else t.da.map (·.add (k * 4))
abbrev TkA.from_ (t : TkA) (k : Nat) : TkA := ⟨t.r, t.first + (k : Int), t.lateA k, t.dn - k, t.dc - k, 0, 1000000, none, 0, 0⟩
theorem Ob.thirteen {W : World} {X : Nat} {T : TypeId} {a b c d e f g h i j k l m : Value} (o : Ob W X T #[a, b, c, d, e, f, g, h, i, j, k, l, m]) : W.cell? ⟨X, 0, none⟩ = some a ∧ W.cell? ⟨X, 1, none⟩ = some b ∧ W.cell? ⟨X, 2, none⟩ = some c ∧ W.cell? ⟨X, 3, none⟩ = some d ∧ W.cell? ⟨X, 4, none⟩ = some e ∧ W.cell? ⟨X, 5, none⟩ = some f ∧ W.cell? ⟨X, 6, none⟩ = some g ∧ W.cell? ⟨X, 7, none⟩ = some h ∧ W.cell? ⟨X, 8, none⟩ = some i ∧ W.cell? ⟨X, 9, none⟩ = some j ∧ W.cell? ⟨X, 10, none⟩ = some k ∧ W.cell? ⟨X, 11, none⟩ = some l ∧ W.cell? ⟨X, 12, none⟩ = some m :=
  ⟨o.cell 0, o.cell 1, o.cell 2, o.cell 3, o.cell 4, o.cell 5, o.cell 6, o.cell 7, o.cell 8, o.cell 9, o.cell 10, o.cell 11, o.cell 12⟩
theorem Ob.three {W : World} {X : Nat} {T : TypeId} {a b c : Value} (o : Ob W X T #[a, b, c]) : W.cell? ⟨X, 0, none⟩ = some a ∧ W.cell? ⟨X, 1, none⟩ = some b ∧ W.cell? ⟨X, 2, none⟩ = some c := ⟨o.cell 0, o.cell 1, o.cell 2⟩
theorem TaskOK.zero {t : TkA} {hs ws : List T2} {ds : List T4} {ts : List T3} (ok : TaskOK t hs ws ds ts) : (taskS t hs ws ds ts).2.2 = 0 := by
  unfold taskS
  rw [if_neg (by simpa using ok.r), if_neg (by have := ok.dn; have := ok.tn; omega), if_pos (inB_iff.2 ok.first), if_neg (by simpa using ok.days), if_neg (by simpa using ok.start), if_neg (by simpa using ok.tests)]
theorem TaskOK.bare {t : TkA} {hs ws : List T2} {ds : List T4} {ts : List T3} (ok : TaskOK t hs ws ds ts) : TaskOK t.bare_ hs ws ds [] := ⟨ok.r, ok.dn, Nat.zero_le _, ok.first, ok.days, ok.start, rfl⟩
theorem drop4_at (ds : List T4) (k i : Nat) : (ds.drop k).getD i (0, 0, 0, 0) = ds.getD (k + i) (0, 0, 0, 0) := by simp [List.getD]
theorem TaskOK.late {t : TkA} {hs ws : List T2} {ds : List T4} {ts : List T3} (ok : TaskOK t hs ws ds ts) {k : Nat} (hk : k ≤ t.dn) : TaskOK (t.from_ k) hs ws (ds.drop k) [] := by
  have h1 := ok.dn
  have h2 := ok.first
  refine ⟨ok.r, by show t.dn - k ≤ 400; omega, Nat.zero_le _, ?_, ?_, by kernel_rfl, rfl⟩
  · show 0 ≤ t.first + (k : Int) ∧ t.first + (k : Int) ≤ 80000 - ((t.dn - k : Nat) : Int)
    omega
  · refine firstE_all.2 fun i hi => ?_
    have hi' : i < t.dn - k := hi
    rw [drop4_at]
    exact firstE_all.1 ok.days (k + i) (by omega)
theorem sl4_drop {W : World} {a : Option Addr} {n c : Nat} {ds : List T4} (h : Sl4 W a n ds) (hnc : n ≤ c) {k : Nat} : Sl4 W (if c = k then a else a.map (·.add (k * 4))) (n - k) (ds.drop k) := by
  refine ⟨by rw [List.length_drop, h.len], fun hp => ?_⟩
  obtain ⟨b, o, rfl, hb, hc⟩ := h.at_ (by omega)
  rw [if_neg (by omega)]
  refine ⟨b, o + k * 4, by simp [Addr.add], hb, fun i hi => ?_⟩
  obtain ⟨c0, c1, c2, c3⟩ := hc (k + i) (by omega)
  rw [drop4_at, show o + k * 4 + i * 4 = o + (k + i) * 4 by omega]
  exact ⟨c0, c1, c2, c3⟩
theorem TkR.bare {W : World} {t : TkA} {hs ws : List T2} {ds : List T4} {ts : List T3} (h : TkR W t hs ws ds ts) : TkR W t.bare_ hs ws ds [] := ⟨h.r, h.dn, Nat.zero_le _, h.d, ⟨rfl, fun h => absurd h (Nat.lt_irrefl 0)⟩⟩
theorem TkR.late {W : World} {t : TkA} {hs ws : List T2} {ds : List T4} {ts : List T3} (h : TkR W t hs ws ds ts) (hc : t.dn ≤ t.dc) (k : Nat) : TkR W (t.from_ k) hs ws (ds.drop k) [] := ⟨h.r, by have := h.dn; show t.dn - k ≤ _; omega, Nat.zero_le _, sl4_drop h.d hc, ⟨rfl, fun h => absurd h (Nat.lt_irrefl 0)⟩⟩
/-- To a test that is struck by Start no course keeps. -/
theorem nm_bare {t : TkA} {hs ws : List T2} {ds : List T4} {ts : List T3} (ok : TaskOK t hs ws ds ts) (hdl : ds.length = t.dn) {n : Nat} (hm : morT t ts n ≤ t.dn) (hJ : JE (onS t.r (ds.map (strS hs ws)) (t.lo, t.hi) 0 (morT t ts n)) (keepT t.r ts n)) {c : Nat → Int} (hc : Crs t.r (ds.map (strS hs ws)) t.dn (t.lo, t.hi) c) : ¬ InP (c (morT t ts n)) (keepT t.r ts n) := fun hk => by
  have hO := RuOK.of ok.r
  have hst := days_str hO hdl ok.days
  have h := on_in (a := 0) (N := t.dn) hO.feed.1 hst hc.at0 (fun k hk => by rw [Nat.zero_add]; exact hc.next k hk) (by rw [List.length_map]; omega) (morT t ts n) hm
  rw [Nat.zero_add] at h
  exact hJ.no h hk
/-- To a test that is struck by another one no course keeps that keeps to that one. -/
theorem nm_from {t : TkA} {hs ws : List T2} {ds : List T4} {ts : List T3} (ok : TaskOK t hs ws ds ts) (hdl : ds.length = t.dn) {n i : Nat} (hm : morT t ts n ≤ t.dn) (hin : morT t ts i ≤ morT t ts n) (hJ : JE (onS t.r (ds.map (strS hs ws)) (keepT t.r ts i) (morT t ts i) (morT t ts n)) (keepT t.r ts n)) {c : Nat → Int} (hc : Crs t.r ((ds.drop (morT t ts i)).map (strS hs ws)) (t.dn - morT t ts i) (0, 1000000) c) (h0 : InP (c 0) (keepT t.r ts i)) : ¬ InP (c (morT t ts n - morT t ts i)) (keepT t.r ts n) := fun hk => by
  have hO := RuOK.of ok.r
  have hst := days_str hO hdl ok.days
  have h := on_in (ss := ds.map (strS hs ws)) (a := morT t ts i) (N := t.dn - morT t ts i) hO.feed.1 hst h0 (fun k hk => by
    have h1 := hc.next k hk
    rw [show ((ds.drop (morT t ts i)).map (strS hs ws)).getD k (0, 0) = (ds.map (strS hs ws)).getD (morT t ts i + k) (0, 0) by simp [List.getD]] at h1
    exact h1) (by rw [List.length_map]; omega) (morT t ts n - morT t ts i) (by omega)
  rw [show morT t ts i + (morT t ts n - morT t ts i) = morT t ts n by omega] at h
  exact hJ.no h hk
theorem box_pair (W : World) (a b : Array Value) (T : TypeId) : Ob ((W.alloc (.cells a T)).alloc (.cells b T)) W.heap.size T a ∧ Ob ((W.alloc (.cells a T)).alloc (.cells b T)) (W.heap.size + 1) T b ∧ Below W.heap.size W ((W.alloc (.cells a T)).alloc (.cells b T)) := by
  refine ⟨(Ob.new _ _ _).alloc _, ?_, B_alloc (B_alloc (Below.refl _ _) _) _⟩
  have h := Ob.new (W.alloc (.cells a T)) b T
  simpa using h
theorem least_le_most {r : RuA} {hs ws : List T2} (h : RuOK r hs ws) {s : T2} (hs' : StrOK s) {n : Int} (hn : 0 ≤ n) : leastS r s.1 n ≤ mostS r s.2 n := by
  have h1 := gain_up h hn hs'.le
  unfold leastS mostS
  omega
/-- What follows from all levels of a morning does not take any of them away. -/
theorem before_self {r : RuA} {hs ws : List T2} (h : RuOK r hs ws) {s n : T2} (hs' : StrOK s) (hn : CanOK n) : beforeS r s n (nextS r s n) = n := by
  have hle := hn.le
  have hs2 : 0 ≤ s.1 := hs'.lo
  have hlow : lowN r s.2 n.1 (nextS r s n).1 (n.2 - n.1 + 1).toNat = 0 := by
    obtain ⟨-, -, e3, -⟩ := @firstT_spec (fun i => decide ((nextS r s n).1 ≤ mostS r s.2 (n.1 + i))) (n.2 - n.1 + 1).toNat 0
    rcases Nat.eq_zero_or_pos (lowN r s.2 n.1 (nextS r s n).1 (n.2 - n.1 + 1).toNat) with h0 | h0
    · exact h0
    · have h1 := of_decide_eq_false (e3 0 (Nat.le_refl _) h0)
      have h2 := least_le_most h hs' hn.a.1
      have h3 : ¬ leastS r s.1 n.1 ≤ mostS r s.2 (n.1 + ((0 : Nat) : Int)) := h1
      rw [show n.1 + ((0 : Nat) : Int) = n.1 by omega] at h3
      exact absurd h2 h3
  have habove : aboveN r s.1 n.1 (nextS r s n).2 (n.2 - n.1 + 1).toNat = (n.2 - n.1 + 1).toNat := by
    obtain ⟨-, e2, -, e4⟩ := @firstT_spec (fun i => decide ((nextS r s n).2 < leastS r s.1 (n.1 + i))) (n.2 - n.1 + 1).toNat 0
    have e2' : aboveN r s.1 n.1 (nextS r s n).2 (n.2 - n.1 + 1).toNat ≤ (n.2 - n.1 + 1).toNat := by unfold aboveN; omega
    rcases Nat.lt_or_ge (aboveN r s.1 n.1 (nextS r s n).2 (n.2 - n.1 + 1).toNat) (n.2 - n.1 + 1).toNat with h0 | h0
    · have h1 := of_decide_eq_true (e4 (by unfold aboveN at h0; omega))
      have h3 : mostS r s.2 n.2 < leastS r s.1 (n.1 + ((aboveN r s.1 n.1 (nextS r s n).2 (n.2 - n.1 + 1).toNat : Nat) : Int)) := h1
      have h4 := least_le_most h hs' hn.b.1
      have h5 := least_mono (r := r) (s := s.1) (a := n.1 + ((aboveN r s.1 n.1 (nextS r s n).2 (n.2 - n.1 + 1).toNat : Nat) : Int)) (b := n.2) h.feed.1 hs2 (by omega)
      omega
    · omega
  unfold beforeS
  rw [hlow, habove]
  refine Prod.ext ?_ ?_
  · show n.1 + ((0 : Nat) : Int) = n.1; omega
  · show n.1 + (((n.2 - n.1 + 1).toNat : Nat) : Int) - 1 = n.2; omega
/-- Without tests each morning's levels are what the first ones lead to. -/
theorem kn_none (r : RuA) (ss : List T2) (ts : List T3) (mor : Nat → Nat) (p : T2) : ∀ k, (knS r ss ts mor [] p k).2 = onS r ss p 0 (k - 1) ∧ mornS r ss ts mor [] (knS r ss ts mor [] p k).2 k = onS r ss p 0 k
  | 0 => ⟨(onS_self _ _ _ _).symm, (onS_self _ _ _ _).symm⟩
  | k + 1 => by
    obtain ⟨h1, h2⟩ := kn_none r ss ts mor p k
    have e : (knS r ss ts mor [] p (k + 1)).2 = onS r ss p 0 k := h2
    refine ⟨e, ?_⟩
    have e2 : mornS r ss ts mor [] (knS r ss ts mor [] p (k + 1)).2 (k + 1) = canS r ss (k + 1) (knS r ss ts mor [] p (k + 1)).2 := rfl
    rw [e2, e]
    unfold canS
    rw [if_pos (by omega), onS_step r ss p (Nat.zero_le k), Nat.add_sub_cancel]
theorem known_same {r : RuA} {ss L : List T2} : ∀ (ms : List Nat), (∀ m ∈ ms, m < L.length ∧ beforeS r (ss.getD m (0, 0)) (L.getD m (0, 0)) (L.getD (m + 1) (0, 0)) = L.getD m (0, 0)) → knownFold r ss L ms = L
  | [], _ => rfl
  | m :: ms, h => by
    obtain ⟨h1, h2⟩ := h m (by simp)
    have e : knownStep r ss L m = L := by unfold knownStep; rw [h2, set_getD h1]
    have e2 : knownFold r ss L (m :: ms) = knownFold r ss (knownStep r ss L m) ms := rfl
    rw [e2, e]
    exact known_same ms fun k hk => h k (by simp [hk])
theorem bare_lev {t : TkA} {hs ws : List T2} {ds : List T4} {ts : List T3} (he : (taskS t hs ws ds ts).2.2 = 0) (hdl : ds.length = t.dn) (htn : t.tn = 0) : ∀ j, j ≤ t.dn → (levT t hs ws ds ts).getD j (0, 0) = onS t.r (ds.map (strS hs ws)) (t.lo, t.hi) 0 j := by
  have ok := TaskOK.of he
  have hO := RuOK.of ok.r
  have hst := days_str hO hdl ok.days
  have hss : (ds.map (strS hs ws)).length = t.dn := by rw [List.length_map, hdl]
  have hp := lv_ok ok.start
  have hord : orderL ts t.tn = [] := List.length_eq_zero_iff.1 (by rw [orderL_len, htn])
  obtain ⟨h1, -⟩ := reach_all t.r (ds.map (strS hs ws)) ts (morT t ts) (orderL ts t.tn) (t.lo, t.hi) (order_pair t ts) (k := t.dn + 1) (fun i hi => by rw [hord] at hi; cases hi)
  have h1' : (reachT t hs ws ds ts).taken = [] := by
    have : (reachT t hs ws ds ts).taken = ((orderL ts t.tn).foldl (takeS t.r (ds.map (strS hs ws)) ts (morT t ts)) ⟨[], [], (t.lo, t.hi), 0⟩).good := h1
    rw [this, hord]
    rfl
  obtain ⟨k1, -⟩ := reach_known t.r (ds.map (strS hs ws)) ts (morT t ts) (orderL ts t.tn) (t.lo, t.hi) (t.dn + 1) (t.dn + 1) (Nat.le_refl _)
  have k1' : (reachT t hs ws ds ts).lev = (knS t.r (ds.map (strS hs ws)) ts (morT t ts) (reachT t hs ws ds ts).taken (t.lo, t.hi) (t.dn + 1)).1 := k1
  rw [h1'] at k1'
  have kl := (kn_at (r := t.r) (ss := ds.map (strS hs ws)) (ts := ts) (mor := morT t ts) (F := []) (p := (t.lo, t.hi)) (t.dn + 1))
  have hlen : (reachT t hs ws ds ts).lev.length = t.dn + 1 := by rw [k1']; exact kl.1
  have hat : ∀ j, j ≤ t.dn → (reachT t hs ws ds ts).lev.getD j (0, 0) = onS t.r (ds.map (strS hs ws)) (t.lo, t.hi) 0 j := fun j hj => by
    rw [k1', kl.2 j (by omega)]
    exact (kn_none t.r (ds.map (strS hs ws)) ts (morT t ts) (t.lo, t.hi) j).2
  have hsame : levT t hs ws ds ts = (reachT t hs ws ds ts).lev := by
    unfold levT
    rw [backN_all]
    refine known_same _ fun m hm => ?_
    unfold backN at hm
    rw [List.mem_map] at hm
    obtain ⟨x, hx, rfl⟩ := hm
    rw [List.mem_range] at hx
    refine ⟨by omega, ?_⟩
    rw [hat _ (by omega), hat _ (by omega), onS_step _ _ _ (Nat.zero_le _)]
    have hc := onS_can hO hst hp 0 (t.dn - 1 - x) (by omega)
    rw [Nat.zero_add] at hc
    exact before_self hO (hst _ (getD_lt (by omega))) hc
  intro j hj
  rw [hsame]
  exact hat j hj
/-- Both ends no higher. -/
def Le2 (p q : T2) : Prop := p.1 ≤ q.1 ∧ p.2 ≤ q.2
theorem gain_le {r r' : RuA} (ho : 0 ≤ r'.own ∧ r'.own ≤ r.own) (hf : 0 ≤ r'.feed ∧ r'.feed ≤ r.feed) {n n' s s' : Int} (hn : 0 ≤ n' ∧ n' ≤ n) (hs : 0 ≤ s' ∧ s' ≤ s) : gainS r' n' s' ≤ gainS r n s := by
  unfold gainS
  have h1 : n' * r'.feed ≤ n * r.feed := Int.mul_le_mul hn.2 hf.2 hf.1 (by omega)
  have h2 : 0 ≤ n' * r'.feed := Int.mul_nonneg hn.1 hf.1
  exact Int.mul_le_mul (by omega) hs.2 hs.1 (by omega)
theorem next_le {r r' : RuA} (ho : 0 ≤ r'.own ∧ r'.own ≤ r.own) (hf : 0 ≤ r'.feed ∧ r'.feed ≤ r.feed) {n n' s s' : T2} (hn : Le2 n' n) (hn' : CanOK n') (hs : Le2 s' s) (hs' : StrOK s') : Le2 (nextS r' s' n') (nextS r s n) := by
  have a := gain_le ho hf ⟨hn'.a.1, hn.1⟩ ⟨hs'.lo, hs.1⟩
  have b := gain_le ho hf ⟨hn'.b.1, hn.2⟩ ⟨Int.le_trans hs'.lo hs'.le, hs.2⟩
  have h1 := hn.1
  have h2 := hn.2
  refine ⟨?_, ?_⟩
  · show leastS r' s'.1 n'.1 ≤ leastS r s.1 n.1
    unfold leastS; omega
  · show mostS r' s'.2 n'.2 ≤ mostS r s.2 n.2
    unfold mostS; omega
theorem on_le {r r' : RuA} {hs ws : List T2} (h' : RuOK r' hs ws) (ho : r'.own ≤ r.own) (hf : r'.feed ≤ r.feed) {ss ss' : List T2} {p p' : T2} (hp : Le2 p' p) (hp' : CanOK p') (hst' : ∀ s ∈ ss', StrOK s) (hss : ∀ k, k < ss'.length → Le2 (ss'.getD k (0, 0)) (ss.getD k (0, 0))) : ∀ j, j ≤ ss'.length → Le2 (onS r' ss' p' 0 j) (onS r ss p 0 j)
  | 0, _ => by rw [onS_self, onS_self]; exact hp
  | j + 1, hj => by
    rw [onS_step _ _ _ (Nat.zero_le j), onS_step _ _ _ (Nat.zero_le j)]
    have hc := onS_can h' hst' hp' 0 j (by omega)
    rw [Nat.zero_add] at hc
    exact next_le ⟨h'.own.1, ho⟩ ⟨h'.feed.1, hf⟩ (on_le h' ho hf hp hp' hst' hss j (by omega)) hc (hss j (by omega)) (hst' _ (getD_lt (by omega)))
/-- As late, or later (below 0: never). -/
def lateB (a b : Int) : Bool := decide (a < 0) || (decide (0 ≤ b) && decide (b ≤ a))
theorem lost_late {p q : T2 → Bool} {first : Int} (h0 : 0 ≤ first) {L M : List T2} (hl : M.length = L.length) (h : ∀ j, j < L.length → q (M.getD j (0, 0)) = true → p (L.getD j (0, 0)) = true) : lateB (lostS q first M) (lostS p first L) = true := by
  obtain ⟨-, e2, e3, e4⟩ := @firstT_spec (fun i => p (L.getD i (0, 0))) L.length 0
  obtain ⟨-, g2, g3, g4⟩ := @firstT_spec (fun i => q (M.getD i (0, 0))) M.length 0
  have hx : ∀ (f : T2 → Bool) (N : List T2), idxS f N = if firstT (fun i => f (N.getD i (0, 0))) N.length 0 < N.length then ((firstT (fun i => f (N.getD i (0, 0))) N.length 0 : Nat) : Int) else -1 := fun f N => rfl
  by_cases hq : firstT (fun i => q (M.getD i (0, 0))) M.length 0 < M.length
  · have h1 := h _ (by omega) (g4 (by omega))
    have h2 : firstT (fun i => p (L.getD i (0, 0))) L.length 0 ≤ firstT (fun i => q (M.getD i (0, 0))) M.length 0 := by
      rcases Nat.lt_or_ge (firstT (fun i => q (M.getD i (0, 0))) M.length 0) (firstT (fun i => p (L.getD i (0, 0))) L.length 0) with h3 | h3
      · have := e3 _ (Nat.zero_le _) h3
        rw [h1] at this; cases this
      · exact h3
    unfold lateB lostS
    rw [hx q M, hx p L, if_pos hq, if_pos (show firstT (fun i => p (L.getD i (0, 0))) L.length 0 < L.length by omega), if_pos (by omega), if_pos (by omega)]
    simp only [Bool.or_eq_true, Bool.and_eq_true, decide_eq_true_eq]
    omega
  · unfold lateB lostS
    rw [hx q M, if_neg hq, if_neg (by omega)]
    simp
/-- A climate that is colder and drier. -/
def lowerF (d : T4) (a b : Int) : T4 := (max (-300) (d.1 - a), max (-300) (d.2.1 - a), max 0 (d.2.2.1 - b), max 0 (d.2.2.2 - b))
theorem day_bd {d : T4} (h : dayE d = 0) : (-300 ≤ d.1 ∧ d.1 ≤ d.2.1 ∧ d.2.1 ≤ 600) ∧ 0 ≤ d.2.2.1 ∧ d.2.2.1 ≤ d.2.2.2 ∧ d.2.2.2 ≤ 1000 := by
  have h1 := demand_zero h (d.1, d.2.1, -300, 600) (by simp)
  have h2 := demand_zero h (d.2.2.1, d.2.2.2, 0, 1000) (by simp)
  have a1 := out_no h1.1
  have a2 := turn_no h1.2
  have b1 := out_no h2.1
  have b2 := turn_no h2.2
  try simp only at a1 a2 b1 b2
  omega
theorem lower_ok {d : T4} (h : dayE d = 0) {a b : Int} (ha : 0 ≤ a) (hb : 0 ≤ b) : dayE (lowerF d a b) = 0 := by
  have h1 := day_bd h
  unfold dayE demandE lowerF
  simp [outB, turnB, inB]
  omega
theorem lower_str {r : RuA} {hs ws : List T2} (hO : RuOK r hs ws) {d : T4} (h : dayE d = 0) {a b : Int} (ha : 0 ≤ a) (hb : 0 ≤ b) : Le2 (strS hs ws (lowerF d a b)) (strS hs ws d) := by
  have h1 := day_bd h
  exact ⟨strength_mono hO (show max (-300) (d.1 - a) ≤ d.1 by omega) (show max 0 (d.2.2.1 - b) ≤ d.2.2.1 by omega), strength_mono hO (show max (-300) (d.2.1 - a) ≤ d.2.1 by omega) (show max 0 (d.2.2.2 - b) ≤ d.2.2.2 by omega)⟩
/-- By so many 255ths of itself less. -/
def lessS (n x : Int) : Int := n - n / 255 * x
theorem less_bd {n x : Int} (hn : 0 ≤ n) (hx : 0 ≤ x ∧ x ≤ 255) : 0 ≤ lessS n x ∧ lessS n x ≤ n := by
  unfold lessS
  have h1 : 0 ≤ n / 255 := Int.ediv_nonneg hn (by decide)
  have h2 : n / 255 * x ≤ n / 255 * 255 := Int.mul_le_mul_of_nonneg_left hx.2 h1
  have h3 : 0 ≤ n / 255 * x := Int.mul_nonneg h1 hx.1
  omega
/-- The task that is cooler, drier and lower: its days lie elsewhere, and it has no tests. -/
abbrev TkA.cool_ (t : TkA) (x0 x1 x2 : Int) (da : Option Addr) (dc : Nat) : TkA := ⟨⟨t.r.ha, t.r.hn, t.r.hc, t.r.wa, t.r.wn, t.r.wc, lessS t.r.own x1, lessS t.r.feed x2, t.r.g0, t.r.g1, t.r.g2, t.r.lost⟩, t.first, da, t.dn, dc, t.lo - t.lo / 255 * x0, t.hi - t.lo / 255 * x0, none, 0, 0⟩
theorem TaskOK.cool {t : TkA} {hs ws : List T2} {ds : List T4} {ts : List T3} (ok : TaskOK t hs ws ds ts) (hdl : ds.length = t.dn) {x0 x1 x2 a b : Int} (h0 : 0 ≤ x0 ∧ x0 ≤ 255) (h1 : 0 ≤ x1 ∧ x1 ≤ 255) (h2 : 0 ≤ x2 ∧ x2 ≤ 255) (ha : 0 ≤ a) (hb : 0 ≤ b) (da : Option Addr) (dc : Nat) : TaskOK (t.cool_ x0 x1 x2 da dc) hs ws (ds.map fun d => lowerF d a b) [] := by
  have hO := RuOK.of ok.r
  have hp := lv_ok ok.start
  have c1 := less_bd hO.own.1 h1
  have c2 := less_bd hO.feed.1 h2
  have c3 := less_bd (n := t.lo) hp.a.1 h0
  unfold lessS at c3
  have hown := hO.own
  have hfeed := hO.feed
  have hr := ok.r
  have e1 := hp.le
  have e2 := hp.b
  simp only at e1 e2
  refine ⟨?_, ok.dn, Nat.zero_le _, ok.first, ?_, ?_, rfl⟩
  · unfold checkS at hr ⊢
    by_cases g1 : (curveE hs (-300) 600).2 = 0
    · rw [if_neg (by simpa using g1)] at hr ⊢
      by_cases g2 : (curveE ws 0 1000).2 = 0
      · rw [if_neg (by simpa using g2)] at hr ⊢
        rw [if_pos (by rw [Bool.and_eq_true, inB_iff, inB_iff]; exact ⟨hown, hfeed⟩)] at hr
        rw [if_pos (by rw [Bool.and_eq_true, inB_iff, inB_iff]; exact ⟨⟨c1.1, by show lessS t.r.own x1 ≤ _; omega⟩, c2.1, by show lessS t.r.feed x2 ≤ _; omega⟩)]
        exact hr
      · rw [if_pos g2] at hr; exact absurd hr g2
    · rw [if_pos g1] at hr; exact absurd hr g1
  · refine firstE_all.2 fun i hi => ?_
    have hi' : i < t.dn := hi
    have e : (ds.map fun d => lowerF d a b).getD i (0, 0, 0, 0) = lowerF (ds.getD i (0, 0, 0, 0)) a b := by simp [List.getD, hdl, hi']
    rw [e]
    exact lower_ok (firstE_all.1 ok.days i hi') ha hb
  · show lvE (t.lo - t.lo / 255 * x0, t.hi - t.lo / 255 * x0) = 0
    unfold lvE demandE
    simp [outB, turnB, inB]
    omega
theorem cool_lev {t : TkA} {hs ws : List T2} {ds : List T4} (ok : TaskOK t hs ws ds []) (htn : t.tn = 0) (hdl : ds.length = t.dn) {x0 x1 x2 a b : Int} (h0 : 0 ≤ x0 ∧ x0 ≤ 255) (h1 : 0 ≤ x1 ∧ x1 ≤ 255) (h2 : 0 ≤ x2 ∧ x2 ≤ 255) (ha : 0 ≤ a) (hb : 0 ≤ b) (da : Option Addr) (dc : Nat) :
    (∀ j, j ≤ t.dn → Le2 ((levT (t.cool_ x0 x1 x2 da dc) hs ws (ds.map fun d => lowerF d a b) []).getD j (0, 0)) ((levT t hs ws ds []).getD j (0, 0))) ∧
    lateB (lostP (t.cool_ x0 x1 x2 da dc) (levT (t.cool_ x0 x1 x2 da dc) hs ws (ds.map fun d => lowerF d a b) [])).1 (lostP t (levT t hs ws ds [])).1 = true ∧ lateB (lostP (t.cool_ x0 x1 x2 da dc) (levT (t.cool_ x0 x1 x2 da dc) hs ws (ds.map fun d => lowerF d a b) [])).2 (lostP t (levT t hs ws ds [])).2 = true := by
  have ok' := ok.cool hdl h0 h1 h2 ha hb da dc
  have hO := RuOK.of ok.r
  have hO' := RuOK.of ok'.r
  have hdl' : (ds.map fun d => lowerF d a b).length = (t.cool_ x0 x1 x2 da dc).dn := by rw [List.length_map]; exact hdl
  have hst' := days_str hO' hdl' ok'.days
  have hp := lv_ok ok.start
  have hp' := lv_ok ok'.start
  have l1 := bare_lev ok.zero hdl htn
  have l2 := bare_lev ok'.zero hdl' rfl
  have c1 := less_bd hO.own.1 h1
  have c2 := less_bd hO.feed.1 h2
  have c3 : 0 ≤ t.lo / 255 * x0 := Int.mul_nonneg (Int.ediv_nonneg hp.a.1 (by decide)) h0.1
  have hle : ∀ j, j ≤ t.dn → Le2 ((levT (t.cool_ x0 x1 x2 da dc) hs ws (ds.map fun d => lowerF d a b) []).getD j (0, 0)) ((levT t hs ws ds []).getD j (0, 0)) := fun j hj => by
    rw [l1 j hj, l2 j hj]
    refine on_le (ss := ds.map (strS hs ws)) hO' c1.2 c2.2 ⟨by show t.lo - t.lo / 255 * x0 ≤ t.lo; omega, by show t.hi - t.lo / 255 * x0 ≤ t.hi; omega⟩ hp' hst' (fun k hk => ?_) j (by rw [List.length_map, List.length_map, hdl]; exact hj)
    rw [List.length_map, List.length_map, hdl] at hk
    have e1 : ((ds.map fun d => lowerF d a b).map (strS hs ws)).getD k (0, 0) = strS hs ws (lowerF (ds.getD k (0, 0, 0, 0)) a b) := by simp [List.getD, hdl, hk]
    have e2 : (ds.map (strS hs ws)).getD k (0, 0) = strS hs ws (ds.getD k (0, 0, 0, 0)) := by simp [List.getD, hdl, hk]
    rw [e1, e2]
    exact lower_str hO (firstE_all.1 ok.days k hk) ha hb
  have n1 := levT_len ok.zero hdl
  have n2 : (levT (t.cool_ x0 x1 x2 da dc) hs ws (ds.map fun d => lowerF d a b) []).length = t.dn + 1 := levT_len ok'.zero hdl'
  have hf := ok.first.1
  refine ⟨hle, ?_, ?_⟩
  · refine lost_late hf (by omega) fun j hj hq => ?_
    have h := (hle j (by omega)).2
    have hq' := of_decide_eq_true hq
    exact decide_eq_true (Int.le_trans hq' h)
  · refine lost_late hf (by omega) fun j hj hq => ?_
    have h := (hle j (by omega)).1
    have hq' := of_decide_eq_true hq
    exact decide_eq_true (Int.le_trans hq' h)
/-- A list that a strict order has sorted is one by its members. -/
theorem eq_sorted {R : Nat → Nat → Prop} (has : ∀ a b, R a b → R b a → False) : ∀ (l m : List Nat), l.Pairwise R → m.Pairwise R → (∀ x, x ∈ l ↔ x ∈ m) → l = m
  | [], [], _, _, _ => rfl
  | [], b :: m, _, _, h => absurd ((h b).2 (by simp)) (by simp)
  | a :: l, [], _, _, h => absurd ((h a).1 (by simp)) (by simp)
  | a :: l, b :: m, hl, hm, h => by
    obtain ⟨hl1, hl2⟩ := List.pairwise_cons.1 hl
    obtain ⟨hm1, hm2⟩ := List.pairwise_cons.1 hm
    have hab : a = b := by
      rcases List.mem_cons.1 ((h a).1 (by simp)) with e | e
      · exact e
      · rcases List.mem_cons.1 ((h b).2 (by simp)) with e' | e'
        · exact e'.symm
        · exact (has _ _ (hm1 a e) (hl1 b e')).elim
    subst hab
    rw [eq_sorted has l m hl2 hm2 fun x => ⟨fun hx => ?_, fun hx => ?_⟩]
    · rcases List.mem_cons.1 ((h x).1 (by simp [hx])) with e | e
      · subst e; exact (has _ _ (hl1 _ hx) (hl1 _ hx)).elim
      · exact e
    · rcases List.mem_cons.1 ((h x).2 (by simp [hx])) with e | e
      · subst e; exact (has _ _ (hm1 _ hx) (hm1 _ hx)).elim
      · exact e
theorem split_sorted {P : Nat → Bool} : ∀ (l : List Nat), l.Pairwise (fun a b => P b = true → P a = true) → l = l.filter P ++ l.filter fun x => !P x
  | [], _ => rfl
  | a :: l, h => by
    obtain ⟨h1, h2⟩ := List.pairwise_cons.1 h
    have ih := split_sorted l h2
    cases ha : P a with
    | true =>
      rw [List.filter_cons_of_pos (by simpa using ha), List.filter_cons_of_neg (by simp [ha]), List.cons_append, ← ih]
    | false =>
      have hn : ∀ x ∈ l, P x = false := fun x hx => by
        cases hq : P x with
        | false => rfl
        | true => rw [h1 x hx hq] at ha; cases ha
      rw [List.filter_cons_of_neg (by simp [ha]), List.filter_cons_of_pos (by simp [ha])]
      rw [List.filter_eq_nil_iff.2 (fun x hx => by simp [hn x hx]), List.filter_eq_self.2 (fun x hx => by simp [hn x hx])]
      rfl
def Rt (ts : List T3) (a b : Nat) : Prop := dayOf ts a < dayOf ts b ∨ (dayOf ts a = dayOf ts b ∧ a < b)
theorem Rt.asym {ts : List T3} (a b : Nat) (h : Rt ts a b) (k : Rt ts b a) : False := by
  unfold Rt at h k
  omega
theorem order_Rt (ts : List T3) (n : Nat) : (orderL ts n).Pairwise (Rt ts) := by
  rw [List.pairwise_iff_getElem]
  intro i j hi hj hij
  have hl := orderL_len ts n
  have h1 := orderL_up ts n i j hij (by omega)
  have h2 := order_stab ts n i j hij hj
  rw [List.getD_eq_getElem?_getD, List.getD_eq_getElem?_getD, List.getElem?_eq_getElem hi, List.getElem?_eq_getElem hj] at h1 h2
  simp only [Option.getD_some] at h1 h2
  unfold Rt
  by_cases e : dayOf ts (orderL ts n)[i] = dayOf ts (orderL ts n)[j]
  · exact .inr ⟨e, h2 e⟩
  · exact .inl (by omega)
theorem order_mem (ts : List T3) (n x : Nat) : x ∈ orderL ts n ↔ x < n := by
  refine ⟨orderL_lt ts n x, fun h => ?_⟩
  obtain ⟨a, ha, e⟩ := order_has ts h
  rw [← e]
  simp [List.getD, ha]
/-- Is a test one of a morning up to one? -/
def upB (t : TkA) (ts : List T3) (k i : Nat) : Bool := decide ((ts.getD i (0, 0, 0)).1 ≤ t.first + (k : Int))
/-- The tests kept, by their places. -/
def keptL (t : TkA) (ts : List T3) (k n : Nat) : List Nat := (List.range n).filter (upB t ts k)
def cutL (t : TkA) (ts : List T3) (k n : Nat) : List T3 := (keptL t ts k n).map fun i => ts.getD i (0, 0, 0)
theorem kept_snoc (t : TkA) (ts : List T3) (k n : Nat) : keptL t ts k (n + 1) = if upB t ts k n = true then keptL t ts k n ++ [n] else keptL t ts k n := by
  unfold keptL
  rw [List.range_succ, List.filter_append]
  cases h : upB t ts k n <;> simp [h]
theorem cut_snoc (t : TkA) (ts : List T3) (k n : Nat) : cutL t ts k (n + 1) = if upB t ts k n = true then cutL t ts k n ++ [ts.getD n (0, 0, 0)] else cutL t ts k n := by
  unfold cutL
  rw [kept_snoc]
  split <;> simp
theorem cut_len (t : TkA) (ts : List T3) (k n : Nat) : (cutL t ts k n).length ≤ n := by
  unfold cutL keptL
  rw [List.length_map]
  exact Nat.le_trans (List.length_filter_le _ _) (by simp)
theorem kept_up (t : TkA) (ts : List T3) (k n : Nat) : (keptL t ts k n).Pairwise (· < ·) := by
  unfold keptL
  exact List.Pairwise.filter _ (by simpa using List.pairwise_lt_range (n := n))
theorem kept_mem {t : TkA} {ts : List T3} {k n x : Nat} : x ∈ keptL t ts k n ↔ x < n ∧ upB t ts k x = true := by
  unfold keptL
  rw [List.mem_filter, List.mem_range]
theorem cut_at (t : TkA) (ts : List T3) (k n : Nat) {j : Nat} (h : j < (keptL t ts k n).length) : (cutL t ts k n).getD j (0, 0, 0) = ts.getD ((keptL t ts k n).getD j 0) (0, 0, 0) := by
  unfold cutL
  simp [List.getD, h]
/-- The order of the tests kept is that of all, as far as they are kept. -/
theorem cut_order (t : TkA) (ts : List T3) (k n : Nat) : (orderL (cutL t ts k n) (keptL t ts k n).length).map (fun j => (keptL t ts k n).getD j 0) = (orderL ts n).filter (upB t ts k) := by
  have hmono : ∀ i j, i < j → j < (keptL t ts k n).length → (keptL t ts k n).getD i 0 < (keptL t ts k n).getD j 0 := fun i j hij hj => by
    have h := (List.pairwise_iff_getElem.1 (kept_up t ts k n)) i j (by omega) hj hij
    simpa [List.getD, hj, show i < (keptL t ts k n).length by omega] using h
  refine eq_sorted (R := Rt ts) Rt.asym _ _ ?_ (List.Pairwise.filter _ (order_Rt ts n)) fun x => ?_
  · rw [List.pairwise_map]
    refine (order_Rt (cutL t ts k n) (keptL t ts k n).length).imp_of_mem fun {a b} ha hb h => ?_
    have ha' := (order_mem _ _ _).1 ha
    have hb' := (order_mem _ _ _).1 hb
    unfold Rt dayOf at h ⊢
    rw [cut_at t ts k n ha', cut_at t ts k n hb'] at h
    rcases h with h | ⟨h1, h2⟩
    · exact .inl h
    · exact .inr ⟨h1, hmono a b h2 hb'⟩
  · rw [List.mem_map, List.mem_filter, order_mem]
    constructor
    · rintro ⟨j, hj, rfl⟩
      have hj' := (order_mem _ _ _).1 hj
      have h := (kept_mem (t := t) (ts := ts) (k := k) (n := n)).1 (show (keptL t ts k n).getD j 0 ∈ keptL t ts k n by simp [List.getD, hj'])
      exact h
    · intro h
      obtain ⟨j, hj, e⟩ := List.mem_iff_getElem.1 (kept_mem.2 h)
      exact ⟨j, (order_mem _ _ _).2 hj, by simp [List.getD, hj, e]⟩
theorem onS_same (r : RuA) {ss ss' : List T2} {k : Nat} (hs : ∀ m, m < k → ss'.getD m (0, 0) = ss.getD m (0, 0)) (p : T2) (a : Nat) : ∀ d, a + d ≤ k → onS r ss' p a (a + d) = onS r ss p a (a + d)
  | 0, _ => by rw [Nat.add_zero, onS_self, onS_self]
  | d + 1, hd => by
    rw [← Nat.add_assoc, onS_step _ _ _ (Nat.le_add_right a d), onS_step _ _ _ (Nat.le_add_right a d), onS_same r hs p a d (by omega), hs _ (by omega)]
/-- Tests taken of the cut task are those taken of the whole, one by one. -/
theorem take_same (r : RuA) {ss ss' : List T2} {ts ts' : List T3} {mor mor' g : Nat → Nat} {k : Nat} (hs : ∀ m, m < k → ss'.getD m (0, 0) = ss.getD m (0, 0)) : ∀ (O : List Nat) (S S' : TS), (∀ j ∈ O, keepT r ts' j = keepT r ts (g j) ∧ mor' j = mor (g j) ∧ mor' j ≤ k) → O.Pairwise (fun a b => mor' a ≤ mor' b) → (∀ j ∈ O, S'.day ≤ mor' j) →
    S.good = S'.good.map g → S.now = S'.now → S.day = S'.day → ((O.map g).foldl (takeS r ss ts mor) S).good = (O.foldl (takeS r ss' ts' mor') S').good.map g
  | [], _, _, _, _, _, h, _, _ => h
  | j :: O, S, S', hO, hp, hd, h1, h2, h3 => by
    obtain ⟨e1, e2, e3⟩ := hO j (by simp)
    obtain ⟨p1, p2⟩ := List.pairwise_cons.1 hp
    have hdj := hd j (by simp)
    have hon : onS r ss' S'.now S'.day (mor' j) = onS r ss S.now S.day (mor (g j)) := by
      have := onS_same r hs S'.now S'.day (mor' j - S'.day) (by omega)
      rw [show S'.day + (mor' j - S'.day) = mor' j by omega] at this
      rw [this, h2, h3, e2]
    rw [List.map_cons, List.foldl_cons, List.foldl_cons]
    have hx : (takeS r ss ts mor S (g j)).good = (takeS r ss' ts' mor' S' j).good.map g ∧ (takeS r ss ts mor S (g j)).now = (takeS r ss' ts' mor' S' j).now ∧ (takeS r ss ts mor S (g j)).day = (takeS r ss' ts' mor' S' j).day ∧ (takeS r ss' ts' mor' S' j).day = mor' j := by
      unfold takeS
      rw [hon, e1]
      split
      · exact ⟨by simp [h1], rfl, e2.symm, rfl⟩
      · exact ⟨h1, rfl, e2.symm, rfl⟩
    obtain ⟨x1, x2, x3, x4⟩ := hx
    exact take_same r hs O _ _ (fun i hi => hO i (by simp [hi])) p2 (fun i hi => by rw [x4]; exact p1 i hi) x1 x2 x3
theorem take_more (r : RuA) (ss : List T2) (ts : List T3) (mor : Nat → Nat) : ∀ (O : List Nat) (S : TS), ∃ X, (∀ i ∈ X, i ∈ O) ∧ (O.foldl (takeS r ss ts mor) S).good = S.good ++ X
  | [], S => ⟨[], by simp, by simp⟩
  | j :: O, S => by
    obtain ⟨X, h1, h2⟩ := take_more r ss ts mor O (takeS r ss ts mor S j)
    rw [List.foldl_cons, h2]
    unfold takeS
    split
    · exact ⟨j :: X, fun i hi => by rcases List.mem_cons.1 hi with rfl | hi; exact List.mem_cons_self; exact List.mem_cons_of_mem _ (h1 i hi), by simp⟩
    · exact ⟨X, fun i hi => List.mem_cons_of_mem _ (h1 i hi), rfl⟩
theorem morn_map (r : RuA) {ts ts' : List T3} {mor mor' g : Nat → Nat} (m : Nat) : ∀ (F : List Nat) (p : T2), (∀ j ∈ F, keepT r ts' j = keepT r ts (g j) ∧ mor' j = mor (g j)) → (F.map g).foldl (fun p i => if mor i = m then joinS p (keepT r ts i) else p) p = F.foldl (fun p i => if mor' i = m then joinS p (keepT r ts' i) else p) p
  | [], _, _ => rfl
  | j :: F, p, h => by
    obtain ⟨e1, e2⟩ := h j (by simp)
    rw [List.map_cons, List.foldl_cons, List.foldl_cons, e1, e2]
    exact morn_map r m F _ fun i hi => h i (by simp [hi])
/-- So the levels of the mornings up to the cut are the same, before one goes backward. -/
theorem kn_same (r : RuA) {ss ss' : List T2} {ts ts' : List T3} {mor mor' g : Nat → Nat} {k : Nat} (hs : ∀ m, m < k → ss'.getD m (0, 0) = ss.getD m (0, 0)) {F X : List Nat} (hF : ∀ j ∈ F, keepT r ts' j = keepT r ts (g j) ∧ mor' j = mor (g j)) (hX : ∀ i ∈ X, k < mor i) (p : T2) : ∀ m, m ≤ k + 1 → knS r ss ts mor (F.map g ++ X) p m = knS r ss' ts' mor' F p m
  | 0, _ => rfl
  | m + 1, hm => by
    have ih := kn_same r hs hF hX p m (by omega)
    have e : mornS r ss ts mor (F.map g ++ X) (knS r ss ts mor (F.map g ++ X) p m).2 m = mornS r ss' ts' mor' F (knS r ss' ts' mor' F p m).2 m := by
      unfold mornS
      rw [ih, List.foldl_append, morn_none r ts mor m X _ (fun i hi => by have := hX i hi; omega), morn_map r m F _ hF]
      congr 1
      unfold canS
      split
      · rw [hs (m - 1) (by omega)]
      · rfl
    show ((knS r ss ts mor (F.map g ++ X) p m).1 ++ [_], _) = ((knS r ss' ts' mor' F p m).1 ++ [_], _)
    rw [e, ih]
/-- From behind, each morning's levels follow from the next one's. -/
theorem back_at {r : RuA} {ss L : List T2} {N : Nat} (hl : L.length = N + 1) : ∀ j, j ≤ N →
    (∀ m, m < N - j → (knownFold r ss L (backN N j)).getD m (0, 0) = L.getD m (0, 0)) ∧ (knownFold r ss L (backN N j)).getD N (0, 0) = L.getD N (0, 0) ∧
    ∀ m, N - j ≤ m → m < N → (knownFold r ss L (backN N j)).getD m (0, 0) = beforeS r (ss.getD m (0, 0)) (L.getD m (0, 0)) ((knownFold r ss L (backN N j)).getD (m + 1) (0, 0))
  | 0, _ => ⟨fun _ _ => rfl, rfl, fun m h1 h2 => by omega⟩
  | j + 1, hj => by
    obtain ⟨h1, h2, h3⟩ := back_at (r := r) (ss := ss) hl j (by omega)
    rw [backN_succ, known_snoc]
    have hlen := known_len r ss (backN N j) L
    generalize knownFold r ss L (backN N j) = K at h1 h2 h3 hlen
    unfold knownStep
    rw [h1 (N - 1 - j) (by omega)]
    refine ⟨fun m hm => ?_, ?_, fun m m1 m2 => ?_⟩
    · rw [getD_set (by omega), if_neg (by omega)]; exact h1 m (by omega)
    · rw [getD_set (by omega), if_neg (by omega)]; exact h2
    · rw [getD_set (by omega), getD_set (by omega), if_neg (show ¬ m + 1 = N - 1 - j by omega)]
      by_cases e : m = N - 1 - j
      · rw [if_pos e, e]
      · rw [if_neg e]; exact h3 m (by omega) m2
theorem first_le {p q : Nat → Bool} {c : Nat} (h : ∀ i, i < c → q i = true → p i = true) : firstT p c 0 ≤ firstT q c 0 := by
  obtain ⟨-, a2, a3, -⟩ := @firstT_spec p c 0
  obtain ⟨-, b2, -, b4⟩ := @firstT_spec q c 0
  rcases Nat.lt_or_ge (firstT q c 0) (firstT p c 0) with h1 | h1
  · have h2 := a3 _ (Nat.zero_le _) h1
    have h3 := h _ (by omega) (b4 (by omega))
    rw [h3] at h2; cases h2
  · exact h1
theorem before_mono (r : RuA) (s n : T2) {x y : T2} (h1 : x.1 ≤ y.1) (h2 : y.2 ≤ x.2) : (beforeS r s n x).1 ≤ (beforeS r s n y).1 ∧ (beforeS r s n y).2 ≤ (beforeS r s n x).2 := by
  have a : lowN r s.2 n.1 x.1 (n.2 - n.1 + 1).toNat ≤ lowN r s.2 n.1 y.1 (n.2 - n.1 + 1).toNat := first_le fun i _ hi => decide_eq_true (Int.le_trans h1 (of_decide_eq_true hi))
  have b : aboveN r s.1 n.1 y.2 (n.2 - n.1 + 1).toNat ≤ aboveN r s.1 n.1 x.2 (n.2 - n.1 + 1).toNat := first_le fun i _ hi => decide_eq_true (Int.lt_of_le_of_lt h2 (of_decide_eq_true hi))
  unfold beforeS
  exact ⟨by simp only; omega, by simp only; omega⟩
abbrev TkA.cut_ (t : TkA) (k : Nat) (ua : Option Addr) (un uc : Nat) : TkA := ⟨t.r, t.first, t.da, k, t.dc, t.lo, t.hi, ua, un, uc⟩
abbrev TkA.rest_ (t : TkA) (k : Nat) (lo hi : Int) : TkA := ⟨t.r, t.first + (k : Int), t.lateA k, t.dn - k, t.dc - k, lo, hi, none, 0, 0⟩
theorem TaskOK.cut {t : TkA} {hs ws : List T2} {ds : List T4} {ts : List T3} (ok : TaskOK t hs ws ds ts) {k : Nat} (hk : k ≤ t.dn) (ua : Option Addr) (uc : Nat) : TaskOK (t.cut_ k ua (keptL t ts k t.tn).length uc) hs ws (ds.take k) (cutL t ts k t.tn) := by
  have h1 := ok.dn
  have h2 := ok.tn
  have h3 := ok.first
  have hts := tests_ok ok.tests
  have hl := cut_len t ts k t.tn
  unfold cutL at hl
  rw [List.length_map] at hl
  refine ⟨ok.r, by show k ≤ 400; omega, by show (keptL t ts k t.tn).length ≤ 20; omega, by show 0 ≤ t.first ∧ t.first ≤ 80000 - (k : Int); omega, ?_, ok.start, ?_⟩
  · refine firstE_all.2 fun i hi => ?_
    have hi' : i < k := hi
    have e : (ds.take k).getD i (0, 0, 0, 0) = ds.getD i (0, 0, 0, 0) := by simp [List.getD, List.getElem?_take_of_lt hi']
    rw [e]
    exact firstE_all.1 ok.days i (by omega)
  · refine firstE_all.2 fun j hj => ?_
    have hj' : j < (keptL t ts k t.tn).length := hj
    rw [cut_at t ts k t.tn hj']
    obtain ⟨m1, m2⟩ := (kept_mem (t := t) (ts := ts) (k := k) (n := t.tn)).1 (show (keptL t ts k t.tn).getD j 0 ∈ keptL t ts k t.tn by simp [List.getD, hj'])
    obtain ⟨x1, x2, x3⟩ := hts _ m1
    have m3 := of_decide_eq_true m2
    unfold testE
    rw [if_pos]
    rw [Bool.and_eq_true, Bool.and_eq_true, inB_iff, inB_iff, inB_iff]
    exact ⟨⟨⟨x1.1, m3⟩, x2⟩, x3⟩
theorem can_lv {p : T2} (h : CanOK p) : lvE p = 0 := by
  have h1 := h.a
  have h2 := h.b
  have h3 := h.le
  unfold lvE demandE
  simp [outB, turnB, inB]
  omega
theorem TaskOK.rest {t : TkA} {hs ws : List T2} {ds : List T4} {ts : List T3} (ok : TaskOK t hs ws ds ts) {k : Nat} (hk : k ≤ t.dn) {p : T2} (hp : CanOK p) : TaskOK (t.rest_ k p.1 p.2) hs ws (ds.drop k) [] := by
  obtain ⟨a1, a2, a3, a4, a5, -, a7⟩ := ok.late hk
  exact ⟨a1, a2, a3, a4, a5, can_lv hp, a7⟩
theorem onS_drop (r : RuA) (ss : List T2) (p : T2) (k : Nat) : ∀ j, onS r (ss.drop k) p 0 j = onS r ss p k (k + j)
  | 0 => by rw [Nat.add_zero, onS_self, onS_self]
  | j + 1 => by
    rw [onS_step _ _ _ (Nat.zero_le j), ← Nat.add_assoc, onS_step _ _ _ (Nat.le_add_right k j), onS_drop r ss p k j]
    congr 1
    simp [List.getD]
theorem ok_can {p : T2} (h : OkSp p) (k : p.1 ≤ p.2) : CanOK p := by
  have h1 := h.lo
  have h2 := h.hi
  exact ⟨⟨⟨h1, by omega⟩, by omega, h2⟩, k⟩
/-- What is held of a task, morning by morning, before one goes backward, and behind. -/
structure LevB (t : TkA) (hs ws : List T2) (ds : List T4) (ts : List T3) (L : List T2) : Prop where
  len : L.length = t.dn + 1
  kn : L = (knS t.r (ds.map (strS hs ws)) ts (morT t ts) (reachT t hs ws ds ts).taken (t.lo, t.hi) (t.dn + 1)).1
  can : ∀ j, j ≤ t.dn → CanOK (L.getD j (0, 0))
  sub : ∀ j, j ≤ t.dn → In2 ((levT t hs ws ds ts).getD j (0, 0)) (L.getD j (0, 0))
  last : (levT t hs ws ds ts).getD t.dn (0, 0) = L.getD t.dn (0, 0)
  back : ∀ m, m < t.dn → (levT t hs ws ds ts).getD m (0, 0) = beforeS t.r ((ds.map (strS hs ws)).getD m (0, 0)) (L.getD m (0, 0)) ((levT t hs ws ds ts).getD (m + 1) (0, 0))
  vlen : (levT t hs ws ds ts).length = t.dn + 1
theorem lev_b {t : TkA} {hs ws : List T2} {ds : List T4} {ts : List T3} (ok : TaskOK t hs ws ds ts) (hdl : ds.length = t.dn) : LevB t hs ws ds ts (reachT t hs ws ds ts).lev := by
  have hO := RuOK.of ok.r
  have hst := days_str hO hdl ok.days
  have hss : (ds.map (strS hs ws)).length = t.dn := by rw [List.length_map, hdl]
  have hp := lv_ok ok.start
  obtain ⟨hrow, -, hlen, -⟩ := reach_row (N := t.dn) hO hss hst ts (morT t ts) (orderL ts t.tn) hp (t.dn + 1) (Nat.le_refl _)
  have hlok := (reach_ok (N := t.dn) hO hss hst ts (morT t ts) (List.range (t.dn + 1)) ⟨orderL ts t.tn, [], (t.lo, t.hi), [], []⟩ (fun m hm => by rw [List.mem_range] at hm; omega) hp (fun p hp => by cases hp)).2.1
  obtain ⟨k1, -⟩ := reach_known t.r (ds.map (strS hs ws)) ts (morT t ts) (orderL ts t.tn) (t.lo, t.hi) (t.dn + 1) (t.dn + 1) (Nat.le_refl _)
  have hlen' : (reachT t hs ws ds ts).lev.length = t.dn + 1 := hlen
  have hrow' : Row t.r (ds.map (strS hs ws)) (reachT t hs ws ds ts).lev := hrow
  have hlok' : ∀ p ∈ (reachT t hs ws ds ts).lev, OkSp p := hlok
  have hV : levT t hs ws ds ts = knownFold t.r (ds.map (strS hs ws)) (reachT t hs ws ds ts).lev (backN t.dn t.dn) := by unfold levT; rw [backN_all]
  obtain ⟨-, b2⟩ := back_in hO.feed.1 hst hss hrow' hlen' t.dn (Nat.le_refl _)
  obtain ⟨-, c2, c3⟩ := back_at (r := t.r) (ss := ds.map (strS hs ws)) hlen' t.dn (Nat.le_refl _)
  refine ⟨hlen', k1, fun j hj => ok_can (hlok' _ (getD_lt (by omega))) (hrow'.1 j (by omega)), ?_, ?_, ?_, levT_len ok.zero hdl⟩
  · intro j hj; rw [hV]; exact b2 j hj
  · rw [hV]; exact c2
  · intro m hm; rw [hV]; exact c3 m (by omega) hm
theorem list_ext {L M : List T2} (h : L.length = M.length) (hi : ∀ i, i < L.length → L.getD i (0, 0) = M.getD i (0, 0)) : L = M := by
  apply List.ext_getElem h
  intro i h1 h2
  have := hi i h1
  simpa [List.getD, h1, h2] using this
theorem pref_all {t : TkA} {hs ws : List T2} {ds : List T4} {ts : List T3} (ok : TaskOK t hs ws ds ts) (hdl : ds.length = t.dn) {k : Nat} (hk : k ≤ t.dn) (ua : Option Addr) (uc : Nat) :
    (∀ i, i ≤ k → ((levT (t.cut_ k ua (keptL t ts k t.tn).length uc) hs ws (ds.take k) (cutL t ts k t.tn)).getD i (0, 0)).1 ≤ ((levT t hs ws ds ts).getD i (0, 0)).1 ∧ ((levT t hs ws ds ts).getD i (0, 0)).2 ≤ ((levT (t.cut_ k ua (keptL t ts k t.tn).length uc) hs ws (ds.take k) (cutL t ts k t.tn)).getD i (0, 0)).2) ∧
    CanOK ((levT (t.cut_ k ua (keptL t ts k t.tn).length uc) hs ws (ds.take k) (cutL t ts k t.tn)).getD k (0, 0)) ∧
    ((keptL t ts k t.tn).length = t.tn → levT (t.cut_ k ua (keptL t ts k t.tn).length uc) hs ws (ds.take k) (cutL t ts k t.tn) = (levT t hs ws ds ts).take (k + 1) ∧
      levT (t.rest_ k ((levT (t.cut_ k ua (keptL t ts k t.tn).length uc) hs ws (ds.take k) (cutL t ts k t.tn)).getD k (0, 0)).1 ((levT (t.cut_ k ua (keptL t ts k t.tn).length uc) hs ws (ds.take k) (cutL t ts k t.tn)).getD k (0, 0)).2) hs ws (ds.drop k) [] = (levT t hs ws ds ts).drop k) := by
  have hO := RuOK.of ok.r
  have hts := tests_ok ok.tests
  have hst := days_str hO hdl ok.days
  have hss : (ds.map (strS hs ws)).length = t.dn := by rw [List.length_map, hdl]
  have hmor : ∀ i, i < t.tn → morT t ts i ≤ t.dn := fun i hi => by have := hts i hi; unfold morT; omega
  have ok' := ok.cut hk ua uc
  have hdl' : (ds.take k).length = (t.cut_ k ua (keptL t ts k t.tn).length uc).dn := by rw [List.length_take, hdl]; exact Nat.min_eq_left hk
  have hts' := tests_ok ok'.tests
  have hmor' : ∀ i, i < (t.cut_ k ua (keptL t ts k t.tn).length uc).tn → morT (t.cut_ k ua (keptL t ts k t.tn).length uc) (cutL t ts k t.tn) i ≤ (t.cut_ k ua (keptL t ts k t.tn).length uc).dn := fun i hi => by have := hts' i hi; unfold morT; omega
  have A := lev_b ok hdl
  have B := lev_b ok' hdl'
  have hsame : ∀ m, m < k → ((ds.take k).map (strS hs ws)).getD m (0, 0) = (ds.map (strS hs ws)).getD m (0, 0) := fun m hm => by simp [List.getD, List.getElem?_take_of_lt hm]
  have htk := taken_ok (t := t) (hs := hs) (ws := ws) (ds := ds) (ts := ts) hmor
  have htk' := taken_ok (t := t.cut_ k ua (keptL t ts k t.tn).length uc) (hs := hs) (ws := ws) (ds := ds.take k) (ts := cutL t ts k t.tn) hmor'
  have hg : ∀ j, j < (keptL t ts k t.tn).length → keepT t.r (cutL t ts k t.tn) j = keepT t.r ts ((keptL t ts k t.tn).getD j 0) ∧ morT (t.cut_ k ua (keptL t ts k t.tn).length uc) (cutL t ts k t.tn) j = morT t ts ((keptL t ts k t.tn).getD j 0) := fun j hj => by
    unfold keepT morT
    rw [cut_at t ts k t.tn hj]
    exact ⟨rfl, rfl⟩
  -- what is taken of the whole begins with what is taken of the part
  obtain ⟨X, hX, htaken⟩ : ∃ X, (∀ i ∈ X, k < morT t ts i) ∧ (reachT t hs ws ds ts).taken = (reachT (t.cut_ k ua (keptL t ts k t.tn).length uc) hs ws (ds.take k) (cutL t ts k t.tn)).taken.map (fun j => (keptL t ts k t.tn).getD j 0) ++ X := by
    obtain ⟨h1, -⟩ := reach_all t.r (ds.map (strS hs ws)) ts (morT t ts) (orderL ts t.tn) (t.lo, t.hi) (order_pair t ts) (k := t.dn + 1) (fun i hi => by have := hmor i (orderL_lt ts t.tn i hi); omega)
    obtain ⟨h2, -⟩ := reach_all t.r ((ds.take k).map (strS hs ws)) (cutL t ts k t.tn) (morT (t.cut_ k ua (keptL t ts k t.tn).length uc) (cutL t ts k t.tn)) (orderL (cutL t ts k t.tn) (keptL t ts k t.tn).length) (t.lo, t.hi) (order_pair (t.cut_ k ua (keptL t ts k t.tn).length uc) (cutL t ts k t.tn)) (k := k + 1) (fun i hi => by have := hmor' i (orderL_lt _ _ i hi); have : morT (t.cut_ k ua (keptL t ts k t.tn).length uc) (cutL t ts k t.tn) i ≤ k := this; omega)
    have h1' : (reachT t hs ws ds ts).taken = ((orderL ts t.tn).foldl (takeS t.r (ds.map (strS hs ws)) ts (morT t ts)) ⟨[], [], (t.lo, t.hi), 0⟩).good := h1
    have h2' : (reachT (t.cut_ k ua (keptL t ts k t.tn).length uc) hs ws (ds.take k) (cutL t ts k t.tn)).taken = ((orderL (cutL t ts k t.tn) (keptL t ts k t.tn).length).foldl (takeS t.r ((ds.take k).map (strS hs ws)) (cutL t ts k t.tn) (morT (t.cut_ k ua (keptL t ts k t.tn).length uc) (cutL t ts k t.tn))) ⟨[], [], (t.lo, t.hi), 0⟩).good := h2
    have hsp := split_sorted (P := upB t ts k) (orderL ts t.tn) ((order_Rt ts t.tn).imp fun {a b} h hb => by
      have hb' := of_decide_eq_true hb
      unfold Rt dayOf at h
      exact decide_eq_true (by omega))
    obtain ⟨X, x1, x2⟩ := take_more t.r (ds.map (strS hs ws)) ts (morT t ts) ((orderL ts t.tn).filter fun x => !upB t ts k x) (((orderL ts t.tn).filter (upB t ts k)).foldl (takeS t.r (ds.map (strS hs ws)) ts (morT t ts)) ⟨[], [], (t.lo, t.hi), 0⟩)
    have hgood := take_same t.r (ts := ts) (mor := morT t ts) (g := fun j => (keptL t ts k t.tn).getD j 0) hsame (orderL (cutL t ts k t.tn) (keptL t ts k t.tn).length) ⟨[], [], (t.lo, t.hi), 0⟩ ⟨[], [], (t.lo, t.hi), 0⟩ (fun j hj => by
      have hj' := (order_mem _ _ _).1 hj
      exact ⟨(hg j hj').1, (hg j hj').2, hmor' j hj'⟩) (order_pair (t.cut_ k ua (keptL t ts k t.tn).length uc) (cutL t ts k t.tn)) (fun j _ => Nat.zero_le _) rfl rfl rfl
    rw [cut_order] at hgood
    refine ⟨X, fun i hi => ?_, ?_⟩
    · obtain ⟨y1, y2⟩ := List.mem_filter.1 (x1 i hi)
      have y3 := orderL_lt ts t.tn i y1
      have y4 := hts i y3
      have y5 : ¬ (ts.getD i (0, 0, 0)).1 ≤ t.first + (k : Int) := of_decide_eq_false (by simpa [upB] using y2)
      unfold morT
      omega
    · rw [h1', hsp, List.foldl_append, x2, hgood, h2']
  have hkn := kn_same t.r (ts := ts) (ts' := cutL t ts k t.tn) (mor := morT t ts) (mor' := morT (t.cut_ k ua (keptL t ts k t.tn).length uc) (cutL t ts k t.tn)) (g := fun j => (keptL t ts k t.tn).getD j 0) hsame (F := (reachT (t.cut_ k ua (keptL t ts k t.tn).length uc) hs ws (ds.take k) (cutL t ts k t.tn)).taken) (fun j hj => hg j (htk' j hj).1) hX (t.lo, t.hi) (k + 1) (Nat.le_refl _)
  rw [← htaken] at hkn
  have hkt := kn_at (r := t.r) (ss := ds.map (strS hs ws)) (ts := ts) (mor := morT t ts) (F := (reachT t hs ws ds ts).taken) (p := (t.lo, t.hi))
  have hAB : ∀ j, j ≤ k → (reachT t hs ws ds ts).lev.getD j (0, 0) = (reachT (t.cut_ k ua (keptL t ts k t.tn).length uc) hs ws (ds.take k) (cutL t ts k t.tn)).lev.getD j (0, 0) := fun j hj => by
    have e1 := (hkt (t.dn + 1)).2 j (by omega)
    have e2 := (hkt (k + 1)).2 j (by omega)
    rw [← A.kn] at e1
    rw [hkn] at e2
    have e3 : (reachT (t.cut_ k ua (keptL t ts k t.tn).length uc) hs ws (ds.take k) (cutL t ts k t.tn)).lev = (knS t.r ((ds.take k).map (strS hs ws)) (cutL t ts k t.tn) (morT (t.cut_ k ua (keptL t ts k t.tn).length uc) (cutL t ts k t.tn)) (reachT (t.cut_ k ua (keptL t ts k t.tn).length uc) hs ws (ds.take k) (cutL t ts k t.tn)).taken (t.lo, t.hi) (k + 1)).1 := B.kn
    rw [e3, e2, e1]
  obtain ⟨-, -, Ac, As, Al, Ab, Av⟩ := A
  obtain ⟨-, -, Bc, -, Bl, Bb, Bv⟩ := B
  have Bl' : (levT (t.cut_ k ua (keptL t ts k t.tn).length uc) hs ws (ds.take k) (cutL t ts k t.tn)).getD k (0, 0) = (reachT (t.cut_ k ua (keptL t ts k t.tn).length uc) hs ws (ds.take k) (cutL t ts k t.tn)).lev.getD k (0, 0) := Bl
  have Bb' : ∀ m, m < k → (levT (t.cut_ k ua (keptL t ts k t.tn).length uc) hs ws (ds.take k) (cutL t ts k t.tn)).getD m (0, 0) = beforeS t.r (((ds.take k).map (strS hs ws)).getD m (0, 0)) ((reachT (t.cut_ k ua (keptL t ts k t.tn).length uc) hs ws (ds.take k) (cutL t ts k t.tn)).lev.getD m (0, 0)) ((levT (t.cut_ k ua (keptL t ts k t.tn).length uc) hs ws (ds.take k) (cutL t ts k t.tn)).getD (m + 1) (0, 0)) := Bb
  have Bv' : (levT (t.cut_ k ua (keptL t ts k t.tn).length uc) hs ws (ds.take k) (cutL t ts k t.tn)).length = k + 1 := Bv
  have Bc' := Bc k (Nat.le_refl _)
  have hnext : (∀ i, i < t.tn → morT t ts i ≤ k) → ∀ m, k ≤ m → m < t.dn → (reachT t hs ws ds ts).lev.getD (m + 1) (0, 0) = nextS t.r ((ds.map (strS hs ws)).getD m (0, 0)) ((reachT t hs ws ds ts).lev.getD m (0, 0)) := fun hall m hm1 hm2 => by
    have e1 := (hkt (t.dn + 1)).2 (m + 1) (by omega)
    have e2 := (hkt (t.dn + 1)).2 m (by omega)
    rw [show (knS t.r (ds.map (strS hs ws)) ts (morT t ts) (reachT t hs ws ds ts).taken (t.lo, t.hi) (t.dn + 1)).1 = (reachT t hs ws ds ts).lev from (lev_b ok hdl).kn.symm] at e1 e2
    rw [e1]
    have e3 : (knS t.r (ds.map (strS hs ws)) ts (morT t ts) (reachT t hs ws ds ts).taken (t.lo, t.hi) (m + 1)).2 = (reachT t hs ws ds ts).lev.getD m (0, 0) := e2.symm
    unfold mornS
    rw [morn_none t.r ts (morT t ts) (m + 1) _ _ (fun i hi => by have := hall i (htk i hi).1; omega), e3]
    unfold canS
    rw [if_pos (by omega), Nat.add_sub_cancel]
  generalize (reachT (t.cut_ k ua (keptL t ts k t.tn).length uc) hs ws (ds.take k) (cutL t ts k t.tn)).lev = LB at Bl' Bb' Bc' hAB
  generalize (reachT t hs ws ds ts).lev = LA at Ac As Al Ab hAB hnext
  generalize levT (t.cut_ k ua (keptL t ts k t.tn).length uc) hs ws (ds.take k) (cutL t ts k t.tn) = VB at Bl' Bb' Bv'
  have hcan : CanOK (VB.getD k (0, 0)) := by rw [Bl']; exact Bc'
  refine ⟨?_, hcan, fun hn => ?_⟩
  · have key : ∀ d, d ≤ k → (VB.getD (k - d) (0, 0)).1 ≤ ((levT t hs ws ds ts).getD (k - d) (0, 0)).1 ∧ ((levT t hs ws ds ts).getD (k - d) (0, 0)).2 ≤ (VB.getD (k - d) (0, 0)).2 := by
      intro d
      induction d with
      | zero =>
        intro _
        have h := As k hk
        rw [Nat.sub_zero, Bl', ← hAB k (Nat.le_refl _)]
        exact ⟨h.a.1, h.b.2⟩
      | succ d ih =>
        intro hd
        have h := ih (by omega)
        rw [show k - d = k - (d + 1) + 1 by omega] at h
        rw [Bb' _ (by omega), Ab _ (by omega), hsame _ (by omega), ← hAB _ (by omega)]
        exact before_mono _ _ _ h.1 h.2
    intro i hi
    have h := key (k - i) (by omega)
    rw [show k - (k - i) = i by omega] at h
    exact h
  · have hall : ∀ i, i < t.tn → morT t ts i ≤ k := fun i hi => by
      have h1 : ∀ x ∈ List.range t.tn, upB t ts k x = true := by
        have h2 : ((List.range t.tn).filter (upB t ts k)).length = (List.range t.tn).length := by rw [List.length_range]; exact hn
        exact List.length_filter_eq_length_iff.1 h2
      have h3 := of_decide_eq_true (h1 i (List.mem_range.2 hi))
      have h4 := hts i hi
      unfold morT
      omega
    have hV : ∀ d, d ≤ t.dn - k → (levT t hs ws ds ts).getD (t.dn - d) (0, 0) = LA.getD (t.dn - d) (0, 0) := by
      intro d
      induction d with
      | zero => intro _; exact Al
      | succ d ih =>
        intro hd
        have h := ih (by omega)
        rw [show t.dn - d = t.dn - (d + 1) + 1 by omega] at h
        rw [Ab _ (by omega), h, hnext hall _ (by omega) (by omega)]
        exact before_self hO (hst _ (getD_lt (by omega))) (Ac _ (by omega))
    have hVk : ∀ m, k ≤ m → m ≤ t.dn → (levT t hs ws ds ts).getD m (0, 0) = LA.getD m (0, 0) := fun m h1 h2 => by
      have h := hV (t.dn - m) (by omega)
      rw [show t.dn - (t.dn - m) = m by omega] at h
      exact h
    have hEq : ∀ d, d ≤ k → VB.getD (k - d) (0, 0) = (levT t hs ws ds ts).getD (k - d) (0, 0) := by
      intro d
      induction d with
      | zero => intro _; rw [Nat.sub_zero, Bl', ← hAB k (Nat.le_refl _), hVk k (Nat.le_refl _) hk]
      | succ d ih =>
        intro hd
        have h := ih (by omega)
        rw [show k - d = k - (d + 1) + 1 by omega] at h
        rw [Bb' _ (by omega), Ab _ (by omega), hsame _ (by omega), ← hAB _ (by omega), h]
    refine ⟨list_ext (by rw [Bv', List.length_take, Av]; omega) fun i hi => ?_, ?_⟩
    · have h := hEq (k - i) (by omega)
      rw [show k - (k - i) = i by omega] at h
      rw [h]
      simp [List.getD, List.getElem?_take_of_lt (show i < k + 1 by omega)]
    · have okr := ok.rest hk hcan
      have hdlr : (ds.drop k).length = (t.rest_ k (VB.getD k (0, 0)).1 (VB.getD k (0, 0)).2).dn := by rw [List.length_drop, hdl]
      have hbl := bare_lev okr.zero hdlr rfl
      have hlen : (levT (t.rest_ k (VB.getD k (0, 0)).1 (VB.getD k (0, 0)).2) hs ws (ds.drop k) []).length = t.dn - k + 1 := levT_len okr.zero hdlr
      refine list_ext (by rw [hlen, List.length_drop, Av]; omega) fun j hj => ?_
      rw [hlen] at hj
      rw [hbl j (by show j ≤ t.dn - k; omega)]
      have e1 : ((levT t hs ws ds ts).drop k).getD j (0, 0) = (levT t hs ws ds ts).getD (k + j) (0, 0) := by simp [List.getD]
      rw [e1, hVk (k + j) (by omega) (by omega)]
      have e2 : VB.getD k (0, 0) = LA.getD k (0, 0) := by rw [Bl', ← hAB k (Nat.le_refl _)]
      have e3 : ∀ i, k + i ≤ t.dn → LA.getD (k + i) (0, 0) = onS t.r (ds.map (strS hs ws)) (LA.getD k (0, 0)) k (k + i) := by
        intro i
        induction i with
        | zero => intro _; rw [Nat.add_zero, onS_self]
        | succ i ih =>
          intro hi
          rw [← Nat.add_assoc, hnext hall _ (by omega) (by omega), onS_step _ _ _ (Nat.le_add_right k i), ih (by omega)]
      rw [e3 j (by omega), ← onS_drop, ← e2]
      rw [List.map_drop]
def skipN (k j : Nat) : Nat := if j < k then j else j + 1
def fewL (ts : List T3) (k : Nat) : List T3 := ts.take k ++ ts.drop (k + 1)
theorem few_len {ts : List T3} {n k : Nat} (h : ts.length = n) (hk : k < n) : (fewL ts k).length = n - 1 := by
  unfold fewL
  rw [List.length_append, List.length_take, List.length_drop, h]
  omega
theorem few_at {ts : List T3} {n k : Nat} (h : ts.length = n) (hk : k < n) (j : Nat) : (fewL ts k).getD j (0, 0, 0) = ts.getD (skipN k j) (0, 0, 0) := by
  unfold fewL skipN
  by_cases hj : j < k
  · rw [if_pos hj]
    simp only [List.getD]
    rw [List.getElem?_append_left (by rw [List.length_take]; omega), List.getElem?_take_of_lt hj]
  · rw [if_neg hj]
    simp only [List.getD]
    rw [List.getElem?_append_right (by rw [List.length_take]; omega), List.getElem?_drop, List.length_take, show k + 1 + (j - min k ts.length) = j + 1 by omega]
theorem few_order {ts : List T3} {n k : Nat} (h : ts.length = n) (hk : k < n) : (orderL (fewL ts k) (n - 1)).map (skipN k) = (orderL ts n).filter (fun x => x != k) := by
  refine eq_sorted (R := Rt ts) Rt.asym _ _ ?_ (List.Pairwise.filter _ (order_Rt ts n)) fun x => ?_
  · rw [List.pairwise_map]
    refine (order_Rt (fewL ts k) (n - 1)).imp fun {a b} hab => ?_
    unfold Rt dayOf at hab ⊢
    rw [few_at h hk, few_at h hk] at hab
    rcases hab with e | ⟨e1, e2⟩
    · exact .inl e
    · refine .inr ⟨e1, ?_⟩
      unfold skipN
      split <;> split <;> omega
  · rw [List.mem_map, List.mem_filter, order_mem]
    constructor
    · rintro ⟨j, hj, rfl⟩
      have hj' := (order_mem _ _ _).1 hj
      unfold skipN
      split
      · exact ⟨by omega, by simp; omega⟩
      · exact ⟨by omega, by simp; omega⟩
    · rintro ⟨h1, h2⟩
      have h2' : x ≠ k := by simpa using h2
      by_cases hx : x < k
      · exact ⟨x, (order_mem _ _ _).2 (by omega), by unfold skipN; rw [if_pos hx]⟩
      · exact ⟨x - 1, (order_mem _ _ _).2 (by omega), by unfold skipN; rw [if_neg (by omega)]; omega⟩
/-- The order, parted at one test. -/
theorem order_parts {ts : List T3} {n k : Nat} (h : ts.length = n) (hk : k < n) : ∃ A B A' B', orderL ts n = A ++ k :: B ∧ orderL (fewL ts k) (n - 1) = A' ++ B' ∧ A'.map (skipN k) = A ∧ B'.map (skipN k) = B ∧ k ∉ A ∧ k ∉ B := by
  obtain ⟨A, B, e⟩ := List.append_of_mem ((order_mem ts n k).2 hk)
  have hp := order_Rt ts n
  rw [e, List.pairwise_append] at hp
  obtain ⟨-, hp2, hp3⟩ := hp
  have hA : k ∉ A := fun hm => Rt.asym _ _ (hp3 k hm k (by simp)) (hp3 k hm k (by simp))
  have hB : k ∉ B := fun hm => Rt.asym _ _ ((List.pairwise_cons.1 hp2).1 k hm) ((List.pairwise_cons.1 hp2).1 k hm)
  have hf := few_order h hk
  rw [e, List.filter_append, List.filter_cons_of_neg (by simp), List.filter_eq_self.2 (fun x hx => by simp; intro e; exact hA (e ▸ hx)), List.filter_eq_self.2 (fun x hx => by simp; intro e; exact hB (e ▸ hx))] at hf
  obtain ⟨A', B', e1, e2, e3⟩ := List.map_eq_append_iff.1 hf
  exact ⟨A, B, A', B', e, e1, e2, e3, hA, hB⟩
/-- The state of the one that has all tests, and of the one that lacks one that is struck. -/
structure Rl (r : RuA) (ss : List T2) (g : Nat → Nat) (c : Nat) (S S' : TS) : Prop where
  good : S.good = S'.good.map g
  day : S'.day ≤ S.day
  now : S.now = onS r ss S'.now S'.day S.day
  len : S.struck.length = S'.struck.length + c
theorem take_rel (r : RuA) {ss : List T2} {ts ts' : List T3} {mor mor' g : Nat → Nat} {c : Nat} : ∀ (O : List Nat) (S S' : TS), (∀ j ∈ O, keepT r ts' j = keepT r ts (g j) ∧ mor' j = mor (g j)) → O.Pairwise (fun a b => mor' a ≤ mor' b) → (∀ j ∈ O, S.day ≤ mor' j) → Rl r ss g c S S' → Rl r ss g c ((O.map g).foldl (takeS r ss ts mor) S) (O.foldl (takeS r ss ts' mor') S')
  | [], _, _, _, _, _, h => h
  | j :: O, S, S', hO, hp, hd, h => by
    obtain ⟨e1, e2⟩ := hO j (by simp)
    obtain ⟨p1, p2⟩ := List.pairwise_cons.1 hp
    have hdj := hd j (by simp)
    have hon : onS r ss S'.now S'.day (mor' j) = onS r ss S.now S.day (mor (g j)) := by
      rw [h.now, onS_trans r ss _ h.day (by rw [← e2]; exact hdj), e2]
    rw [List.map_cons, List.foldl_cons, List.foldl_cons]
    have hx : Rl r ss g c (takeS r ss ts mor S (g j)) (takeS r ss ts' mor' S' j) ∧ (takeS r ss ts mor S (g j)).day = mor' j := by
      unfold takeS
      rw [hon, e1]
      split
      · exact ⟨⟨by simp [h.good], Nat.le_of_eq e2, by simp only; rw [e2, onS_self], h.len⟩, e2.symm⟩
      · exact ⟨⟨h.good, Nat.le_of_eq e2, by simp only; rw [e2, onS_self], by simp [h.len]; omega⟩, e2.symm⟩
    exact take_rel r O _ _ (fun i hi => hO i (by simp [hi])) p2 (fun i hi => by rw [hx.2]; exact p1 i hi) hx.1
/-- One span within another one. -/
def Sub (p q : T2) : Prop := q.1 ≤ p.1 ∧ p.2 ≤ q.2
theorem Sub.refl (p : T2) : Sub p p := ⟨Int.le_refl _, Int.le_refl _⟩
theorem Sub.trans {p q s : T2} (h : Sub p q) (k : Sub q s) : Sub p s := ⟨Int.le_trans k.1 h.1, Int.le_trans h.2 k.2⟩
theorem Sub.next {r : RuA} {s p q : T2} (hf : 0 ≤ r.feed) (hs : StrOK s) (h : Sub p q) : Sub (nextS r s p) (nextS r s q) :=
  ⟨least_mono hf hs.lo h.1, most_mono hf (Int.le_trans hs.lo hs.le) h.2⟩
theorem Sub.on {r : RuA} {ss : List T2} (hf : 0 ≤ r.feed) (hst : ∀ s ∈ ss, StrOK s) {p q : T2} (h : Sub p q) (a : Nat) : ∀ d, a + d ≤ ss.length → Sub (onS r ss p a (a + d)) (onS r ss q a (a + d))
  | 0, _ => by rw [Nat.add_zero, onS_self, onS_self]; exact h
  | d + 1, hd => by
    rw [← Nat.add_assoc, onS_step _ _ _ (Nat.le_add_right a d), onS_step _ _ _ (Nat.le_add_right a d)]
    exact (Sub.on hf hst h a d (by omega)).next hf (hst _ (getD_lt (by omega)))
theorem Sub.join {p q x : T2} (h : Sub p q) : Sub (joinS p x) (joinS q x) := by
  obtain ⟨h1, h2⟩ := h
  exact ⟨by show max q.1 x.1 ≤ max p.1 x.1; omega, by show min p.2 x.2 ≤ min q.2 x.2; omega⟩
theorem join_sub (p x : T2) : Sub (joinS p x) p := ⟨by show p.1 ≤ max p.1 x.1; omega, by show min p.2 x.2 ≤ p.2; omega⟩
theorem strk_more (r : RuA) (ss : List T2) (ts : List T3) (mor : Nat → Nat) : ∀ (O : List Nat) (S : TS), ∃ X, (O.foldl (takeS r ss ts mor) S).struck = S.struck ++ X
  | [], S => ⟨[], by simp⟩
  | j :: O, S => by
    obtain ⟨X, h⟩ := strk_more r ss ts mor O (takeS r ss ts mor S j)
    rw [List.foldl_cons, h]
    unfold takeS
    split
    · exact ⟨X, rfl⟩
    · exact ⟨_, by rw [List.append_assoc]⟩
/-- If none is struck a step takes its test. -/
theorem step_taken {r : RuA} {ss : List T2} {ts : List T3} {mor : Nat → Nat} {O : List Nat} {S : TS} {i : Nat} (h : ((i :: O).foldl (takeS r ss ts mor) S).struck = []) : (joinS (onS r ss S.now S.day (mor i)) (keepT r ts i)).1 ≤ (joinS (onS r ss S.now S.day (mor i)) (keepT r ts i)).2 := by
  obtain ⟨X, hX⟩ := strk_more r ss ts mor O (takeS r ss ts mor S i)
  rw [List.foldl_cons, hX] at h
  have h1 := (List.append_eq_nil_iff.1 h).1
  unfold takeS at h1
  split at h1
  · rename_i hc; exact hc
  · simp at h1
/-- The state of the one that has all tests, none of which is struck, and of the one that lacks one. -/
structure Rw (r : RuA) (ss : List T2) (g : Nat → Nat) (k : Nat) (S S' : TS) : Prop where
  good : S.good.filter (fun x => x != k) = S'.good.map g
  day : S'.day ≤ S.day
  now : Sub S.now (onS r ss S'.now S'.day S.day)
  none : S'.struck = []
theorem take_wide (r : RuA) {ss : List T2} {ts ts' : List T3} {mor mor' g : Nat → Nat} {k N : Nat} (hf : 0 ≤ r.feed) (hst : ∀ s ∈ ss, StrOK s) (hss : ss.length = N) : ∀ (O : List Nat) (S S' : TS), (∀ j ∈ O, keepT r ts' j = keepT r ts (g j) ∧ mor' j = mor (g j) ∧ mor' j ≤ N ∧ g j ≠ k) → O.Pairwise (fun a b => mor' a ≤ mor' b) → (∀ j ∈ O, S.day ≤ mor' j) → ((O.map g).foldl (takeS r ss ts mor) S).struck = [] → Rw r ss g k S S' → Rw r ss g k ((O.map g).foldl (takeS r ss ts mor) S) (O.foldl (takeS r ss ts' mor') S')
  | [], _, _, _, _, _, _, h => h
  | j :: O, S, S', hO, hp, hd, hn, h => by
    obtain ⟨e1, e2, e3, e4⟩ := hO j (by simp)
    obtain ⟨p1, p2⟩ := List.pairwise_cons.1 hp
    have hdj := hd j (by simp)
    rw [List.map_cons] at hn
    have htk := step_taken hn
    rw [List.map_cons, List.foldl_cons, List.foldl_cons]
    rw [List.foldl_cons] at hn
    have hsub : Sub (onS r ss S.now S.day (mor (g j))) (onS r ss S'.now S'.day (mor' j)) := by
      have h1 := Sub.on hf hst h.now S.day (mor' j - S.day) (by omega)
      rw [show S.day + (mor' j - S.day) = mor' j by omega, onS_trans r ss _ h.day hdj] at h1
      rw [← e2]; exact h1
    have hj := hsub.join (x := keepT r ts (g j))
    have hx : Rw r ss g k (takeS r ss ts mor S (g j)) (takeS r ss ts' mor' S' j) ∧ (takeS r ss ts mor S (g j)).day = mor' j := by
      unfold takeS
      rw [if_pos htk, e1, if_pos (Int.le_trans hj.1 (Int.le_trans htk hj.2))]
      refine ⟨⟨?_, Nat.le_of_eq e2, ?_, h.none⟩, e2.symm⟩
      · simp only
        rw [List.filter_append, h.good, List.map_append]
        congr 1
        rw [List.filter_cons_of_pos (by simpa using e4)]
        rfl
      · simp only
        rw [e2, onS_self]
        rw [e2] at hj
        exact hj
    exact take_wide r hf hst hss O _ _ (fun i hi => hO i (by simp [hi])) p2 (fun i hi => by rw [hx.2]; exact p1 i hi) hn hx.1
theorem morn_wide {r : RuA} {ts : List T3} {mor : Nat → Nat} {m k : Nat} : ∀ (F : List Nat) (p q : T2), Sub p q → Sub (F.foldl (fun p i => if mor i = m then joinS p (keepT r ts i) else p) p) ((F.filter fun x => x != k).foldl (fun p i => if mor i = m then joinS p (keepT r ts i) else p) q)
  | [], _, _, h => h
  | i :: F, p, q, h => by
    rw [List.foldl_cons]
    by_cases e : i = k
    · rw [List.filter_cons_of_neg (by simp [e])]
      refine morn_wide F _ _ ?_
      split
      · exact (join_sub _ _).trans h
      · exact h
    · rw [List.filter_cons_of_pos (by simpa using e), List.foldl_cons]
      refine morn_wide F _ _ ?_
      split
      · exact h.join
      · exact h
theorem kn_wide (r : RuA) {ss : List T2} {ts ts' : List T3} {mor mor' g : Nat → Nat} {k N : Nat} (hf : 0 ≤ r.feed) (hst : ∀ s ∈ ss, StrOK s) (hss : ss.length = N) {F F' : List Nat} (hF : ∀ j ∈ F', keepT r ts' j = keepT r ts (g j) ∧ mor' j = mor (g j)) (hg : F.filter (fun x => x != k) = F'.map g) (p : T2) : ∀ m, m ≤ N + 1 → Sub (knS r ss ts mor F p m).2 (knS r ss ts' mor' F' p m).2 ∧ (m ≤ N → Sub (mornS r ss ts mor F (knS r ss ts mor F p m).2 m) (mornS r ss ts' mor' F' (knS r ss ts' mor' F' p m).2 m))
  | 0, _ => by
    refine ⟨Sub.refl _, fun _ => ?_⟩
    unfold mornS
    have h := morn_wide (r := r) (ts := ts) (mor := mor) (m := 0) (k := k) F (canS r ss 0 p) (canS r ss 0 p) (Sub.refl _)
    rw [hg, morn_map r 0 F' _ hF] at h
    exact h
  | m + 1, hm => by
    obtain ⟨-, h2⟩ := kn_wide r hf hst hss hF hg p m (by omega)
    have h3 : Sub (knS r ss ts mor F p (m + 1)).2 (knS r ss ts' mor' F' p (m + 1)).2 := h2 (by omega)
    refine ⟨h3, fun hmN => ?_⟩
    unfold mornS
    have hc : Sub (canS r ss (m + 1) (knS r ss ts mor F p (m + 1)).2) (canS r ss (m + 1) (knS r ss ts' mor' F' p (m + 1)).2) := by
      unfold canS
      rw [if_pos (by omega), if_pos (by omega)]
      exact h3.next hf (hst _ (getD_lt (by omega)))
    have h := morn_wide (r := r) (ts := ts) (mor := mor) (m := m + 1) (k := k) F _ _ hc
    rw [hg, morn_map r (m + 1) F' _ hF] at h
    exact h
end Go.Proofs.Ytijkhpaiiieanaa

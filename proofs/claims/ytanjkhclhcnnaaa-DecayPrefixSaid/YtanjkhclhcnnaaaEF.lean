/- Any course that keeps to the tests taken is within the levels: the mathematics. -/
import Derived.Test.YtanjkhclhcnnaaaED
import Derived.Test.YtanjkhclhcnnaaaDO
namespace Go.Proofs.Ytanjkhclhcnnaaa
open Go.RowKit Go.Shelf

/-- A level within a span. -/
def InP (n : Int) (p : T2) : Prop := p.1 ≤ n ∧ n ≤ p.2
theorem InP.next {r : RuA} {n m : Int} {s p : T2} (hf : 0 ≤ r.feed) (hs : StrOK s) (h : InP n p) (hm : InP m (nextS r s (n, n))) : InP m (nextS r s p) := by
  obtain ⟨h1, h2⟩ := h
  obtain ⟨m1, m2⟩ := hm
  have a := least_mono (r := r) (a := p.1) (b := n) hf hs.lo h1
  have b := most_mono (r := r) (a := n) (b := p.2) hf (show 0 ≤ s.2 by have := hs.lo; have := hs.le; omega) h2
  exact ⟨Int.le_trans a m1, Int.le_trans m2 b⟩
theorem InP.join {n : Int} {p q : T2} (h : InP n p) (g : InP n q) : InP n (joinS p q) := by
  obtain ⟨h1, h2⟩ := h
  obtain ⟨g1, g2⟩ := g
  unfold joinS
  exact ⟨by show max p.1 q.1 ≤ n; omega, by show n ≤ min p.2 q.2; omega⟩
/-- A course: it begins at first, and each level follows the one before it. -/
structure Crs (r : RuA) (ss : List T2) (N : Nat) (p : T2) (c : Nat → Int) : Prop where
  at0 : InP (c 0) p
  next : ∀ k, k < N → InP (c (k + 1)) (nextS r (ss.getD k (0, 0)) (c k, c k))
theorem morn_in {r : RuA} {ts : List T3} {mor : Nat → Nat} {m : Nat} {n : Int} : ∀ (F : List Nat) (p : T2), (∀ i ∈ F, mor i = m → InP n (keepT r ts i)) → InP n p → InP n (F.foldl (fun p i => if mor i = m then joinS p (keepT r ts i) else p) p)
  | [], _, _, h => h
  | i :: F, p, hF, h => by
    rw [List.foldl_cons]
    refine morn_in F _ (fun j hj => hF j (by simp [hj])) ?_
    split
    · rename_i hm
      exact h.join (hF i (by simp) hm)
    · exact h
theorem kn_in {r : RuA} {ss : List T2} {N : Nat} {p : T2} {c : Nat → Int} (hf : 0 ≤ r.feed) (hss : ss.length = N) (hst : ∀ s ∈ ss, StrOK s) (hc : Crs r ss N p c) (ts : List T3) (mor : Nat → Nat) {F : List Nat} (hF : ∀ i ∈ F, InP (c (mor i)) (keepT r ts i)) : ∀ k, k ≤ N + 1 →
    InP (c (k - 1)) (knS r ss ts mor F p k).2 ∧ (knS r ss ts mor F p k).1.length = k ∧ ∀ j, j < k → InP (c j) ((knS r ss ts mor F p k).1.getD j (0, 0))
  | 0, _ => ⟨hc.at0, rfl, fun j hj => by omega⟩
  | k + 1, hk => by
    obtain ⟨h1, h2, h3⟩ := kn_in hf hss hst hc ts mor hF k (by omega)
    have hm : InP (c k) (mornS r ss ts mor F (knS r ss ts mor F p k).2 k) := by
      unfold mornS
      refine morn_in F _ (fun i hi hm => by rw [← hm]; exact hF i hi) ?_
      unfold canS
      rcases Nat.eq_zero_or_pos k with rfl | h0
      · rw [if_neg (by omega)]
        exact h1
      · rw [if_pos h0]
        have h4 := hc.next (k - 1) (by omega)
        rw [show k - 1 + 1 = k by omega] at h4
        exact h1.next hf (hst _ (getD_lt (by omega))) h4
    refine ⟨hm, ?_, fun j hj => ?_⟩
    · show ((knS r ss ts mor F p k).1 ++ [_]).length = k + 1
      simp [h2]
    · show InP (c j) (((knS r ss ts mor F p k).1 ++ [mornS r ss ts mor F (knS r ss ts mor F p k).2 k]).getD j (0, 0))
      rw [getD_snoc]
      by_cases e : j < k
      · rw [if_pos (by omega)]; exact h3 j e
      · obtain rfl : j = k := by omega
        rw [if_neg (by omega), if_pos h2.symm]; exact hm
theorem before_mem {r : RuA} {s n x : T2} {a b : Int} (hf : 0 ≤ r.feed) (hs : 0 ≤ s.1) (ha : InP a n) (hb : InP b x) (hab : InP b (nextS r s (a, a))) : InP a (beforeS r s n x) := by
  obtain ⟨a1, a2⟩ := ha
  obtain ⟨b1, b2⟩ := hb
  obtain ⟨c1, c2⟩ := hab
  have c1' : leastS r s.1 a ≤ b := c1
  have c2' : b ≤ mostS r s.2 a := c2
  have hi : n.1 + (((a - n.1).toNat : Nat) : Int) = a := by omega
  have hlt : (a - n.1).toNat < (n.2 - n.1 + 1).toNat := by omega
  have hl : lowN r s.2 n.1 x.1 (n.2 - n.1 + 1).toNat ≤ (a - n.1).toNat := by
    obtain ⟨-, -, h3, -⟩ := @firstT_spec (fun i => decide (x.1 ≤ mostS r s.2 (n.1 + i))) (n.2 - n.1 + 1).toNat 0
    rcases Nat.lt_or_ge (a - n.1).toNat (lowN r s.2 n.1 x.1 (n.2 - n.1 + 1).toNat) with h | h
    · have := of_decide_eq_false (h3 _ (Nat.zero_le _) h)
      rw [hi] at this
      omega
    · exact h
  have hh : (a - n.1).toNat < aboveN r s.1 n.1 x.2 (n.2 - n.1 + 1).toNat := by
    have := (high_test (r := r) (s0 := s.1) (n0 := n.1) (x1 := x.2) (c := (n.2 - n.1 + 1).toNat) (i := (a - n.1).toNat) hf hs hlt)
    rw [hi] at this
    rcases Nat.lt_or_ge (a - n.1).toNat (aboveN r s.1 n.1 x.2 (n.2 - n.1 + 1).toNat) with h | h
    · exact h
    · have := this.2 h
      omega
  unfold beforeS
  exact ⟨by show n.1 + _ ≤ a; omega, by show a ≤ n.1 + _ - 1; omega⟩
theorem known_in {r : RuA} {ss : List T2} {N : Nat} {p : T2} {c : Nat → Int} (hf : 0 ≤ r.feed) (hss : ss.length = N) (hst : ∀ s ∈ ss, StrOK s) (hc : Crs r ss N p c) : ∀ (ms : List Nat) (L : List T2), L.length = N + 1 → (∀ m ∈ ms, m < N) → (∀ j, j ≤ N → InP (c j) (L.getD j (0, 0))) → ∀ j, j ≤ N → InP (c j) ((knownFold r ss L ms).getD j (0, 0))
  | [], _, _, _, h => h
  | m :: ms, L, hl, hm, h => by
    have hmN := hm m (by simp)
    have e : knownFold r ss L (m :: ms) = knownFold r ss (knownStep r ss L m) ms := rfl
    rw [e]
    refine known_in hf hss hst hc ms _ (by unfold knownStep; rw [List.length_set, hl]) (fun k hk => hm k (by simp [hk])) (fun j hj => ?_)
    unfold knownStep
    rw [getD_set (by omega)]
    by_cases ej : j = m
    · rw [if_pos ej]
      subst ej
      exact before_mem hf (hst _ (getD_lt (by omega))).lo (h j (by omega)) (h (j + 1) (by omega)) (hc.next j hmN)
    · rw [if_neg ej]; exact h j hj
/-- The levels of each morning have each course that keeps to the tests taken. -/
theorem lev_in {t : TkA} {hs ws : List T2} {ds : List T4} {ts : List T3} {c : Nat → Int} (he : (taskS t hs ws ds ts).2.2 = 0) (hdl : ds.length = t.dn) (hc : Crs t.r (ds.map (strS hs ws)) t.dn (t.lo, t.hi) c) (hF : ∀ i ∈ (reachT t hs ws ds ts).taken, InP (c (morT t ts i)) (keepT t.r ts i)) : ∀ j, j ≤ t.dn → InP (c j) ((levT t hs ws ds ts).getD j (0, 0)) := by
  have ok := TaskOK.of he
  have hO := RuOK.of ok.r
  have hst := days_str hO hdl ok.days
  have hss : (ds.map (strS hs ws)).length = t.dn := by rw [List.length_map, hdl]
  obtain ⟨-, h2, h3⟩ := kn_in hO.feed.1 hss hst hc ts (morT t ts) hF (t.dn + 1) (Nat.le_refl _)
  obtain ⟨k1, -⟩ := reach_known t.r (ds.map (strS hs ws)) ts (morT t ts) (orderL ts t.tn) (t.lo, t.hi) (t.dn + 1) (t.dn + 1) (Nat.le_refl _)
  have k2 : (reachT t hs ws ds ts).lev = (knS t.r (ds.map (strS hs ws)) ts (morT t ts) (reachT t hs ws ds ts).taken (t.lo, t.hi) (t.dn + 1)).1 := k1
  unfold levT
  refine known_in hO.feed.1 hss hst hc _ _ (by rw [k2, h2]) (fun m hm => ?_) (fun j hj => by rw [k2]; exact h3 j (by omega))
  rw [backN_all] at hm
  unfold backN at hm
  rw [List.mem_map] at hm
  obtain ⟨x, hx, rfl⟩ := hm
  rw [List.mem_range] at hx
  omega

/-- No element twice. -/
def ND (l : List Nat) : Prop := ∀ a b, a < l.length → b < l.length → l.getD a 0 = l.getD b 0 → a = b
theorem swap_nd {l : List Nat} {j : Nat} (hj : j + 1 < l.length) (h : ND l) : ND (swapL l j) := by
  intro a b ha hb e
  rw [swapL_len] at ha hb
  rw [swapL_at hj, swapL_at hj] at e
  by_cases a1 : a = j
  · rw [if_pos a1] at e
    by_cases b1 : b = j
    · omega
    · rw [if_neg b1] at e
      by_cases b2 : b = j + 1
      · rw [if_pos b2] at e
        have := h _ _ hj (by omega) e
        omega
      · rw [if_neg b2] at e
        have := h _ _ hj hb e
        omega
  · rw [if_neg a1] at e
    by_cases a2 : a = j + 1
    · rw [if_pos a2] at e
      by_cases b1 : b = j
      · rw [if_pos b1] at e
        have := h _ _ (by omega) hj e
        omega
      · rw [if_neg b1] at e
        by_cases b2 : b = j + 1
        · omega
        · rw [if_neg b2] at e
          have := h _ _ (by omega) hb e
          omega
    · rw [if_neg a2] at e
      by_cases b1 : b = j
      · rw [if_pos b1] at e
        have := h _ _ ha hj e
        omega
      · rw [if_neg b1] at e
        by_cases b2 : b = j + 1
        · rw [if_pos b2] at e
          have := h _ _ ha (by omega) e
          omega
        · rw [if_neg b2] at e
          exact h _ _ ha hb e
theorem sink_nd {lt : Nat → Nat → Bool} : ∀ (j : Nat) (l : List Nat), j < l.length → ND l → ND (sinkL lt j l)
  | 0, _, _, h => h
  | j + 1, l, hj, h => by
    unfold sinkL
    split
    · exact sink_nd j _ (by rw [swapL_len]; omega) (swap_nd hj h)
    · exact h
theorem isort_nd {lt : Nat → Nat → Bool} {l : List Nat} (h : ND l) : ∀ i, i < l.length → ND (isortL lt l i)
  | 0, _ => h
  | i + 1, hi => by
    unfold isortL
    exact sink_nd _ _ (by rw [isortL_len]; exact hi) (isort_nd h i (by omega))
theorem order_nd (ts : List T3) (n : Nat) : ND (orderL ts n) := by
  unfold orderL
  have h : ND (List.range n) := by
    intro a b ha hb e
    simp at ha hb
    simpa [List.getD, ha, hb] using e
  rcases Nat.eq_zero_or_pos n with rfl | hn
  · exact h
  · exact isort_nd h _ (by simp; omega)
/-- No test is taken and struck. -/
theorem take_apart (t : TkA) (hs ws : List T2) (ds : List T4) (ts : List T3) : ∀ c, c ≤ t.tn → (∀ i ∈ (takeF t hs ws ds ts c).good, ∃ a, a < c ∧ (orderL ts t.tn).getD a 0 = i) ∧ (∀ s ∈ (takeF t hs ws ds ts c).struck, ∃ a, a < c ∧ s.1 = ((orderL ts t.tn).getD a 0 : Nat)) ∧ ∀ i ∈ (takeF t hs ws ds ts c).good, ∀ s ∈ (takeF t hs ws ds ts c).struck, s.1 ≠ (i : Int)
  | 0, _ => ⟨fun i hi => by simp [takeF] at hi, fun i hi => by simp [takeF] at hi, fun i hi => by simp [takeF] at hi⟩
  | c + 1, h => by
    obtain ⟨h1, h2, h3⟩ := take_apart t hs ws ds ts c (by omega)
    have hnd := order_nd ts t.tn
    have hl := orderL_len ts t.tn
    have hne : ∀ a, a < c → (orderL ts t.tn).getD a 0 ≠ (orderL ts t.tn).getD c 0 := fun a ha e => by
      have := hnd a c (by omega) (by omega) e
      omega
    rw [takeF_step t hs ws ds ts (by omega)]
    generalize takeF t hs ws ds ts c = S at h1 h2 h3
    unfold takeS
    split
    · refine ⟨fun i hi => ?_, fun s hs' => ?_, fun i hi s hs' => ?_⟩
      · rcases List.mem_append.1 hi with hi | hi
        · obtain ⟨a, ha, e⟩ := h1 i hi
          exact ⟨a, by omega, e⟩
        · rw [List.mem_singleton] at hi
          exact ⟨c, by omega, hi.symm⟩
      · obtain ⟨a, ha, e⟩ := h2 s hs'
        exact ⟨a, by omega, e⟩
      · rcases List.mem_append.1 hi with hi | hi
        · exact h3 i hi s hs'
        · rw [List.mem_singleton] at hi
          obtain ⟨a, ha, e⟩ := h2 s hs'
          have := hne a ha
          rw [e, hi]
          omega
    · refine ⟨fun i hi => ?_, fun s hs' => ?_, fun i hi s hs' => ?_⟩
      · obtain ⟨a, ha, e⟩ := h1 i hi
        exact ⟨a, by omega, e⟩
      · rcases List.mem_append.1 hs' with hs' | hs'
        · obtain ⟨a, ha, e⟩ := h2 s hs'
          exact ⟨a, by omega, e⟩
        · rw [List.mem_singleton] at hs'
          exact ⟨c, by omega, by rw [hs']⟩
      · rcases List.mem_append.1 hs' with hs' | hs'
        · exact h3 i hi s hs'
        · rw [List.mem_singleton] at hs'
          obtain ⟨a, ha, e⟩ := h1 i hi
          have := hne a ha
          rw [hs']
          simp only
          omega
theorem takeF_whole (t : TkA) (hs ws : List T2) (ds : List T4) (ts : List T3) : takeF t hs ws ds ts t.tn = (orderL ts t.tn).foldl (takeS t.r (ds.map (strS hs ws)) ts (morT t ts)) ⟨[], [], (t.lo, t.hi), 0⟩ := by
  unfold takeF
  rw [List.take_of_length_le (by rw [orderL_len]; exact Nat.le_refl _)]
/-- What is taken is not struck, and is a test. -/
theorem taken_ok {t : TkA} {hs ws : List T2} {ds : List T4} {ts : List T3} (hmor : ∀ i, i < t.tn → morT t ts i ≤ t.dn) : ∀ i ∈ (reachT t hs ws ds ts).taken, i < t.tn ∧ strkB (reachT t hs ws ds ts).struck i = false := by
  obtain ⟨h1, h2⟩ := reach_all t.r (ds.map (strS hs ws)) ts (morT t ts) (orderL ts t.tn) (t.lo, t.hi) (order_pair t ts) (k := t.dn + 1) (fun i hi => by have := hmor i (orderL_lt ts t.tn i hi); omega)
  have h1' : (reachT t hs ws ds ts).taken = (takeF t hs ws ds ts t.tn).good := by rw [takeF_whole]; exact h1
  have h2' : (reachT t hs ws ds ts).struck = (takeF t hs ws ds ts t.tn).struck := by rw [takeF_whole]; exact h2
  obtain ⟨a1, a2, a3⟩ := take_apart t hs ws ds ts t.tn (Nat.le_refl _)
  rw [h1', h2']
  intro i hi
  obtain ⟨a, ha, e⟩ := a1 i hi
  refine ⟨?_, ?_⟩
  · rw [← e]
    have hl := orderL_len ts t.tn
    exact getD_mem_lt (orderL_lt ts t.tn) (by omega)
  · refine strkB_no fun k hk => ?_
    exact a3 i hi _ (getD_lt hk)
/-- A course does not descend. -/
theorem crs_up {r : RuA} {hs ws : List T2} (h : RuOK r hs ws) {ss : List T2} {N : Nat} {p : T2} {c : Nat → Int} (hss : ss.length = N) (hst : ∀ s ∈ ss, StrOK s) (hc : Crs r ss N p c) (hb : ∀ k, k ≤ N → 0 ≤ c k ∧ c k ≤ 1000000) : ∀ d j, j + d ≤ N → c j ≤ c (j + d)
  | 0, _, _ => Int.le_refl _
  | d + 1, j, hj => by
    have h1 := crs_up h hss hst hc hb d j (by omega)
    have h2 := (hc.next (j + d) (by omega)).1
    have h3 := hb (j + d) (by omega)
    have hs := hst _ (getD_lt (L := ss) (i := j + d) (by omega))
    have h4 := (h.gain_bd h3.1 h3.2 hs.lo (by have := hs.le; have := hs.hi; omega)).2.2.1
    have h5 : leastS r (ss.getD (j + d) (0, 0)).1 (c (j + d)) ≤ c (j + d + 1) := h2
    unfold leastS at h5
    have h6 : 0 ≤ gainS r (c (j + d)) (ss.getD (j + d) (0, 0)).1 / 1000000000 := Int.ediv_nonneg h4 (by decide)
    have h7 : c (j + d) ≤ c (j + d + 1) := by omega
    rw [show j + (d + 1) = j + d + 1 by omega]
    omega
/-- The first morning at which a level can be so great, and by which it is. -/
theorem lost_lo {L : List T2} {first lost n : Int} {i : Nat} (hi : i < L.length) (h0 : 0 ≤ first) (hn : InP n (L.getD i (0, 0))) (hl : lost ≤ n) : 0 ≤ lostS (fun x => decide (lost ≤ x.2)) first L ∧ lostS (fun x => decide (lost ≤ x.2)) first L ≤ first + i := by
  obtain ⟨-, e2, e3, -⟩ := @firstT_spec (fun i => decide (lost ≤ (L.getD i (0, 0)).2)) L.length 0
  have hle : firstT (fun i => decide (lost ≤ (L.getD i (0, 0)).2)) L.length 0 ≤ i := by
    rcases Nat.lt_or_ge i (firstT (fun i => decide (lost ≤ (L.getD i (0, 0)).2)) L.length 0) with h | h
    · have h7 : ¬ lost ≤ (L.getD i (0, 0)).2 := of_decide_eq_false (e3 i (Nat.zero_le _) h)
      have h8 := hn.2
      omega
    · exact h
  have hx : idxS (fun x => decide (lost ≤ x.2)) L = (firstT (fun i => decide (lost ≤ (L.getD i (0, 0)).2)) L.length 0 : Nat) := by
    have e : idxS (fun x => decide (lost ≤ x.2)) L = if firstT (fun i => decide (lost ≤ (L.getD i (0, 0)).2)) L.length 0 < L.length then ((firstT (fun i => decide (lost ≤ (L.getD i (0, 0)).2)) L.length 0 : Nat) : Int) else -1 := rfl
    rw [e, if_pos (by omega)]
  unfold lostS
  rw [hx, if_pos (by omega)]
  omega
theorem lost_hi {L : List T2} {first lost : Int} (h : 0 ≤ lostS (fun x => decide (lost ≤ x.1)) first L) : ∃ j, j < L.length ∧ lostS (fun x => decide (lost ≤ x.1)) first L = first + (j : Nat) ∧ lost ≤ (L.getD j (0, 0)).1 := by
  obtain ⟨-, e2, -, e4⟩ := @firstT_spec (fun i => decide (lost ≤ (L.getD i (0, 0)).1)) L.length 0
  unfold lostS at h ⊢
  by_cases hx : firstT (fun i => decide (lost ≤ (L.getD i (0, 0)).1)) L.length 0 < L.length
  · have hi : idxS (fun x => decide (lost ≤ x.1)) L = (firstT (fun i => decide (lost ≤ (L.getD i (0, 0)).1)) L.length 0 : Nat) := by
      have e : idxS (fun x => decide (lost ≤ x.1)) L = if firstT (fun i => decide (lost ≤ (L.getD i (0, 0)).1)) L.length 0 < L.length then ((firstT (fun i => decide (lost ≤ (L.getD i (0, 0)).1)) L.length 0 : Nat) : Int) else -1 := rfl
      rw [e, if_pos hx]
    refine ⟨_, hx, by rw [hi, if_pos (by omega)], ?_⟩
    exact of_decide_eq_true (e4 (by omega))
  · have hi : idxS (fun x => decide (lost ≤ x.1)) L = -1 := by
      have e : idxS (fun x => decide (lost ≤ x.1)) L = if firstT (fun i => decide (lost ≤ (L.getD i (0, 0)).1)) L.length 0 < L.length then ((firstT (fun i => decide (lost ≤ (L.getD i (0, 0)).1)) L.length 0 : Nat) : Int) else -1 := rfl
      rw [e, if_neg hx]
    rw [hi, if_neg (by omega)] at h
    omega
/-- The levels of a course are a course. -/
theorem own_course {r : RuA} {ss : List T2} {dn : Nat} {cs : List Int} {c : Nat → Int} {p : T2} (hcs : ∀ k, k ≤ dn → cs.getD k 0 = c k) (hc : Crs r ss dn p c) : ∀ (k m : Nat) (q : T2), m + k = dn + 1 → (0 < k → InP (c m) q) → ownR r ss dn cs q (List.range' m k) = -1
  | 0, _, _, _, _ => rfl
  | k + 1, m, q, hm, hq => by
    rw [List.range'_succ]
    unfold ownR
    have h1 := hq (by omega)
    rw [hcs m (by omega), if_pos (by rw [inB_iff]; exact h1)]
    refine own_course hcs hc k (m + 1) _ (by omega) (fun h0 => ?_)
    unfold canO
    rw [if_pos (by omega), hcs m (by omega)]
    exact hc.next m (by omega)
end Go.Proofs.Ytanjkhclhcnnaaa

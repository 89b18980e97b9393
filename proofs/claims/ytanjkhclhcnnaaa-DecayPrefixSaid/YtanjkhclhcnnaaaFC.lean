/- From each level one of the next morning can follow: the mathematics of DecayJust. -/
import Derived.Test.YtanjkhclhcnnaaaEF
namespace Go.Proofs.Ytanjkhclhcnnaaa
open Go.RowKit Go.Shelf

/-- No level is left out between what follows two neighbours. -/
theorem least_step {r : RuA} {hs ws : List T2} (h : RuOK r hs ws) {s : T2} (hs' : StrOK s) {n : Int} (h0 : 0 ≤ n) : leastS r s.1 (n + 1) ≤ mostS r s.2 n + 1 := by
  have hg := gain_up h (s := s.1) (s' := s.2) h0 hs'.le
  have hf := h.feed
  have e : gainS r (n + 1) s.1 = gainS r n s.1 + r.feed * s.1 := by
    unfold gainS
    rw [Int.add_mul n 1 r.feed, Int.one_mul, ← Int.add_assoc, Int.add_mul]
  have hd1 : 0 ≤ r.feed * s.1 := Int.mul_nonneg hf.1 hs'.lo
  have hd2 : r.feed * s.1 ≤ 999999 * 1000 := Int.mul_le_mul hf.2 (by have := hs'.le; have := hs'.hi; omega) hs'.lo (by decide)
  unfold leastS mostS
  rw [e]
  omega
/-- From each level of a span one of the next one can follow, and each end follows one. -/
structure Just (r : RuA) (s b x : T2) : Prop where
  le : b.1 ≤ b.2
  fol : ∀ l, b.1 ≤ l → l ≤ b.2 → x.1 ≤ mostS r s.2 l ∧ leastS r s.1 l ≤ x.2
  lo : leastS r s.1 b.1 ≤ x.1
  hi : x.2 ≤ mostS r s.2 b.2
theorem before_just {r : RuA} {hs ws : List T2} (h : RuOK r hs ws) {s n o x : T2} (hs' : StrOK s) (hn0 : 0 ≤ n.1) (hF : Fol r s n o) (hx : In2 x o) (hle : x.1 ≤ x.2) : Just r s (beforeS r s n x) x := by
  have hs2 : 0 ≤ s.2 := by have := hs'.lo; have := hs'.le; omega
  have hl := low_lt hF hx
  have ha := above_pos h.feed.1 hs'.lo hF hx
  have hal := above_le r s.1 n.1 x.2 (n.2 - n.1 + 1).toNat
  have hlow := fun i (hi : i ≤ lowN r s.2 n.1 x.1 (n.2 - n.1 + 1).toNat) => low_test (i := i) hl hi
  have hhigh := fun i (hi : i < (n.2 - n.1 + 1).toNat) => high_test (r := r) (s0 := s.1) (n0 := n.1) (x1 := x.2) (i := i) h.feed.1 hs'.lo hi
  have hne := hF.le
  obtain ⟨⟨x1, x2⟩, x3, x4⟩ := hx
  have hFlo := hF.lo
  have hFhi := hF.hi
  unfold beforeS
  generalize lowN r s.2 n.1 x.1 (n.2 - n.1 + 1).toNat = A at hl hlow
  generalize aboveN r s.1 n.1 x.2 (n.2 - n.1 + 1).toNat = B at ha hal hhigh
  -- the least level from which the Lo can be reached
  have hAm : x.1 ≤ mostS r s.2 (n.1 + A) := by
    have h1 := hlow A (Nat.le_refl _)
    rcases Int.lt_or_le (mostS r s.2 (n.1 + A)) x.1 with h2 | h2
    · have := h1.1 h2; omega
    · exact h2
  have hAl : leastS r s.1 (n.1 + A) ≤ x.1 := by
    rcases Nat.eq_zero_or_pos A with h0 | h0
    · subst h0
      simp only [Int.natCast_zero, Int.add_zero]
      omega
    · have h1 := (hlow (A - 1) (by omega)).2 (by omega)
      have h2 := least_step h hs' (n := n.1 + ((A - 1 : Nat) : Int)) (by omega)
      rw [show n.1 + ((A - 1 : Nat) : Int) + 1 = n.1 + A by omega] at h2
      omega
  -- the greatest level from which the Hi can be reached
  have hBm : leastS r s.1 (n.1 + ((B - 1 : Nat) : Int)) ≤ x.2 := by
    have h1 := hhigh (B - 1) (by omega)
    rcases Int.lt_or_le x.2 (leastS r s.1 (n.1 + ((B - 1 : Nat) : Int))) with h2 | h2
    · have := h1.1 h2; omega
    · exact h2
  have hBh : x.2 ≤ mostS r s.2 (n.1 + ((B - 1 : Nat) : Int)) := by
    rcases Nat.lt_or_ge B (n.2 - n.1 + 1).toNat with h0 | h0
    · have h1 := (hhigh B h0).2 (Nat.le_refl _)
      have h2 := least_step h hs' (n := n.1 + ((B - 1 : Nat) : Int)) (by omega)
      rw [show n.1 + ((B - 1 : Nat) : Int) + 1 = n.1 + B by omega] at h2
      omega
    · rw [show n.1 + ((B - 1 : Nat) : Int) = n.2 by omega]
      omega
  have hAB : A ≤ B - 1 := by
    rcases Nat.lt_or_ge A B with h0 | h0
    · omega
    · have h1 := (hhigh A hl).2 h0
      omega
  refine ⟨by show n.1 + (A : Int) ≤ n.1 + (B : Int) - 1; omega, fun l l1 l2 => ?_, hAl, ?_⟩
  · have l1' : n.1 + (A : Int) ≤ l := l1
    have l2' : l ≤ n.1 + (B : Int) - 1 := l2
    have m1 := most_mono (r := r) (a := n.1 + A) (b := l) h.feed.1 hs2 l1'
    have m2 := least_mono (r := r) (a := l) (b := n.1 + ((B - 1 : Nat) : Int)) h.feed.1 hs'.lo (by omega)
    exact ⟨Int.le_trans hAm m1, Int.le_trans m2 hBm⟩
  · show x.2 ≤ mostS r s.2 (n.1 + (B : Int) - 1)
    rw [show n.1 + (B : Int) - 1 = n.1 + ((B - 1 : Nat) : Int) by omega]
    exact hBh
theorem back_just {r : RuA} {hs ws : List T2} (h : RuOK r hs ws) {ss L : List T2} {N : Nat} (hst : ∀ s ∈ ss, StrOK s) (hss : ss.length = N) (hR : Row r ss L) (hok : ∀ p ∈ L, OkSp p) (hl : L.length = N + 1) : ∀ j, j ≤ N →
    (∀ m, N - j ≤ m → m < N → Just r (ss.getD m (0, 0)) ((knownFold r ss L (backN N j)).getD m (0, 0)) ((knownFold r ss L (backN N j)).getD (m + 1) (0, 0))) ∧ ∀ i, i ≤ N → ((knownFold r ss L (backN N j)).getD i (0, 0)).1 ≤ ((knownFold r ss L (backN N j)).getD i (0, 0)).2
  | 0, _ => ⟨fun m h1 h2 => by omega, fun i hi => hR.1 i (by omega)⟩
  | j + 1, hj => by
    obtain ⟨h1, h2⟩ := back_just h hst hss hR hok hl j (by omega)
    obtain ⟨b1, b2⟩ := back_in h.feed.1 hst hss hR hl j (by omega)
    rw [backN_succ, known_snoc]
    have hlen := known_len r ss (backN N j) L
    generalize knownFold r ss L (backN N j) = K at h1 h2 b1 b2 hlen
    unfold knownStep
    rw [b1 (N - 1 - j) (by omega)]
    have hoo := hok _ (getD_lt (L := L) (i := N - 1 - j) (by omega))
    have hJ := before_just h (hst _ (getD_lt (L := ss) (i := N - 1 - j) (by omega))) hoo.lo (hR.fol (m := N - 1 - j) (by omega)) (b2 (N - 1 - j + 1) (by omega)) (h2 (N - 1 - j + 1) (by omega))
    refine ⟨fun m m1 m2 => ?_, fun i hi => ?_⟩
    · rw [getD_set (by omega), getD_set (by omega)]
      by_cases e : m = N - 1 - j
      · rw [if_pos e, if_neg (by omega), e]
        exact hJ
      · rw [if_neg e, if_neg (by omega)]
        exact h1 m (by omega) m2
    · rw [getD_set (by omega)]
      by_cases e : i = N - 1 - j
      · rw [if_pos e]; exact hJ.le
      · rw [if_neg e]; exact h2 i hi
/-- What is held of a morning is within what was, and within each test's levels. -/
theorem morn_sub {r : RuA} {ts : List T3} {mor : Nat → Nat} {m : Nat} : ∀ (F : List Nat) (p : T2), p.1 ≤ (F.foldl (fun p i => if mor i = m then joinS p (keepT r ts i) else p) p).1 ∧ (F.foldl (fun p i => if mor i = m then joinS p (keepT r ts i) else p) p).2 ≤ p.2 ∧ ∀ i ∈ F, mor i = m → (keepT r ts i).1 ≤ (F.foldl (fun p i => if mor i = m then joinS p (keepT r ts i) else p) p).1 ∧ (F.foldl (fun p i => if mor i = m then joinS p (keepT r ts i) else p) p).2 ≤ (keepT r ts i).2
  | [], _ => ⟨Int.le_refl _, Int.le_refl _, fun i hi => by cases hi⟩
  | j :: F, p => by
    rw [List.foldl_cons]
    obtain ⟨h1, h2, h3⟩ := morn_sub (r := r) (ts := ts) (mor := mor) (m := m) F (if mor j = m then joinS p (keepT r ts j) else p)
    generalize F.foldl (fun p i => if mor i = m then joinS p (keepT r ts i) else p) (if mor j = m then joinS p (keepT r ts j) else p) = R at h1 h2 h3
    by_cases e : mor j = m
    · rw [if_pos e] at h1 h2
      have a1 : max p.1 (keepT r ts j).1 ≤ R.1 := h1
      have a2 : R.2 ≤ min p.2 (keepT r ts j).2 := h2
      refine ⟨by omega, by omega, fun i hi hm => ?_⟩
      rcases List.mem_cons.1 hi with rfl | hi
      · exact ⟨by omega, by omega⟩
      · exact h3 i hi hm
    · rw [if_neg e] at h1 h2
      refine ⟨h1, h2, fun i hi hm => ?_⟩
      rcases List.mem_cons.1 hi with rfl | hi
      · exact absurd hm e
      · exact h3 i hi hm
theorem kn_at {r : RuA} {ss : List T2} {ts : List T3} {mor : Nat → Nat} {F : List Nat} {p : T2} : ∀ k, (knS r ss ts mor F p k).1.length = k ∧ ∀ j, j < k → (knS r ss ts mor F p k).1.getD j (0, 0) = mornS r ss ts mor F (knS r ss ts mor F p j).2 j
  | 0 => ⟨rfl, fun j hj => by omega⟩
  | k + 1 => by
    obtain ⟨h1, h2⟩ := kn_at (r := r) (ss := ss) (ts := ts) (mor := mor) (F := F) (p := p) k
    refine ⟨?_, fun j hj => ?_⟩
    · show ((knS r ss ts mor F p k).1 ++ [_]).length = k + 1
      simp [h1]
    · show ((knS r ss ts mor F p k).1 ++ [mornS r ss ts mor F (knS r ss ts mor F p k).2 k]).getD j (0, 0) = _
      rw [getD_snoc]
      by_cases e : j < k
      · rw [if_pos (by omega)]; exact h2 j e
      · obtain rfl : j = k := by omega
        rw [if_neg (by omega), if_pos h1.symm]

/-- An element is in a list, by its place. -/
def Has (l : List Nat) (i : Nat) : Prop := ∃ a, a < l.length ∧ l.getD a 0 = i
theorem swap_has {l : List Nat} {j i : Nat} (hj : j + 1 < l.length) (h : Has l i) : Has (swapL l j) i := by
  obtain ⟨a, ha, e⟩ := h
  by_cases a1 : a = j
  · exact ⟨j + 1, by rw [swapL_len]; exact hj, by rw [swapL_at hj, if_neg (by omega), if_pos rfl, ← a1]; exact e⟩
  · by_cases a2 : a = j + 1
    · exact ⟨j, by rw [swapL_len]; omega, by rw [swapL_at hj, if_pos rfl, ← a2]; exact e⟩
    · exact ⟨a, by rw [swapL_len]; exact ha, by rw [swapL_at hj, if_neg a1, if_neg a2]; exact e⟩
theorem sink_has {lt : Nat → Nat → Bool} {i : Nat} : ∀ (j : Nat) (l : List Nat), j < l.length → Has l i → Has (sinkL lt j l) i
  | 0, _, _, h => h
  | j + 1, l, hj, h => by
    unfold sinkL
    split
    · exact sink_has j _ (by rw [swapL_len]; omega) (swap_has hj h)
    · exact h
theorem isort_has {lt : Nat → Nat → Bool} {l : List Nat} {i : Nat} (h : Has l i) : ∀ k, k < l.length → Has (isortL lt l k) i
  | 0, _ => h
  | k + 1, hk => by
    unfold isortL
    exact sink_has _ _ (by rw [isortL_len]; exact hk) (isort_has h k (by omega))
theorem order_has (ts : List T3) {n i : Nat} (hi : i < n) : Has (orderL ts n) i := by
  unfold orderL
  exact isort_has ⟨i, by simpa using hi, by simp [List.getD, hi]⟩ _ (by simp; omega)
/-- Each test is taken or struck. -/
theorem take_each (t : TkA) (hs ws : List T2) (ds : List T4) (ts : List T3) : ∀ c, c ≤ t.tn → ∀ a, a < c → (orderL ts t.tn).getD a 0 ∈ (takeF t hs ws ds ts c).good ∨ strkB (takeF t hs ws ds ts c).struck ((orderL ts t.tn).getD a 0 : Nat) = true
  | 0, _, a, h => by omega
  | c + 1, h, a, ha => by
    have ih := take_each t hs ws ds ts c (by omega)
    rw [takeF_step t hs ws ds ts (by omega)]
    generalize takeF t hs ws ds ts c = S at ih
    have hsn : ∀ q x, strkB S.struck x = true → strkB (S.struck ++ [q]) x = true := fun q x hx => by
      unfold strkB at hx ⊢
      rw [List.any_append, hx, Bool.true_or]
    unfold takeS
    by_cases e : a = c
    · subst e
      split
      · exact .inl (by simp)
      · refine .inr ?_
        unfold strkB
        rw [List.any_append]
        simp
    · have h1 := ih a (by omega)
      split
      · rcases h1 with h1 | h1
        · exact .inl (List.mem_append.2 (.inl h1))
        · exact .inr h1
      · rcases h1 with h1 | h1
        · exact .inl h1
        · exact .inr (hsn _ _ h1)
/-- A test that is not struck is taken. -/
theorem fine_taken {t : TkA} {hs ws : List T2} {ds : List T4} {ts : List T3} (hmor : ∀ i, i < t.tn → morT t ts i ≤ t.dn) {i : Nat} (hi : i < t.tn) (h : strkB (reachT t hs ws ds ts).struck i = false) : i ∈ (reachT t hs ws ds ts).taken := by
  obtain ⟨h1, h2⟩ := reach_all t.r (ds.map (strS hs ws)) ts (morT t ts) (orderL ts t.tn) (t.lo, t.hi) (order_pair t ts) (k := t.dn + 1) (fun i hi => by have := hmor i (orderL_lt ts t.tn i hi); omega)
  have h1' : (reachT t hs ws ds ts).taken = (takeF t hs ws ds ts t.tn).good := by rw [takeF_whole]; exact h1
  have h2' : (reachT t hs ws ds ts).struck = (takeF t hs ws ds ts t.tn).struck := by rw [takeF_whole]; exact h2
  obtain ⟨a, ha, e⟩ := order_has ts hi
  rw [orderL_len] at ha
  have h3 := take_each t hs ws ds ts t.tn (Nat.le_refl _) a ha
  rw [e] at h3
  rw [h2'] at h
  rw [h1']
  rcases h3 with h3 | h3
  · exact h3
  · rw [h] at h3; cases h3
/-- All that DecayJust says of the levels. -/
theorem lev_just {t : TkA} {hs ws : List T2} {ds : List T4} {ts : List T3} (he : (taskS t hs ws ds ts).2.2 = 0) (hdl : ds.length = t.dn) :
    (∀ m, m < t.dn → Just t.r ((ds.map (strS hs ws)).getD m (0, 0)) ((levT t hs ws ds ts).getD m (0, 0)) ((levT t hs ws ds ts).getD (m + 1) (0, 0))) ∧
    (∀ i, i ≤ t.dn → 0 ≤ ((levT t hs ws ds ts).getD i (0, 0)).1 ∧ ((levT t hs ws ds ts).getD i (0, 0)).1 ≤ ((levT t hs ws ds ts).getD i (0, 0)).2 ∧ ((levT t hs ws ds ts).getD i (0, 0)).2 ≤ 1000000) ∧
    (t.lo ≤ ((levT t hs ws ds ts).getD 0 (0, 0)).1 ∧ ((levT t hs ws ds ts).getD 0 (0, 0)).2 ≤ t.hi) ∧
    ∀ i, i < t.tn → strkB (reachT t hs ws ds ts).struck i = false → InP ((levT t hs ws ds ts).getD (morT t ts i) (0, 0)).1 (keepT t.r ts i) ∧ InP ((levT t hs ws ds ts).getD (morT t ts i) (0, 0)).2 (keepT t.r ts i) := by
  have ok := TaskOK.of he
  have hO := RuOK.of ok.r
  have hst := days_str hO hdl ok.days
  have hss : (ds.map (strS hs ws)).length = t.dn := by rw [List.length_map, hdl]
  have hp := lv_ok ok.start
  have hts := tests_ok ok.tests
  have hmor : ∀ i, i < t.tn → morT t ts i ≤ t.dn := fun i hi => by have := hts i hi; unfold morT; omega
  obtain ⟨hrow, -, hlen, -⟩ := reach_row (N := t.dn) hO hss hst ts (morT t ts) (orderL ts t.tn) hp (t.dn + 1) (Nat.le_refl _)
  have hlok := (reach_ok (N := t.dn) hO hss hst ts (morT t ts) (List.range (t.dn + 1)) ⟨orderL ts t.tn, [], (t.lo, t.hi), [], []⟩ (fun m hm => by rw [List.mem_range] at hm; omega) hp (fun p hp => by cases hp)).2.1
  obtain ⟨k1, -⟩ := reach_known t.r (ds.map (strS hs ws)) ts (morT t ts) (orderL ts t.tn) (t.lo, t.hi) (t.dn + 1) (t.dn + 1) (Nat.le_refl _)
  have kk : ∀ j, j ≤ t.dn → (reachT t hs ws ds ts).lev.getD j (0, 0) = mornS t.r (ds.map (strS hs ws)) ts (morT t ts) (reachT t hs ws ds ts).taken (knS t.r (ds.map (strS hs ws)) ts (morT t ts) (reachT t hs ws ds ts).taken (t.lo, t.hi) j).2 j := fun j hj => by
    rw [show (reachT t hs ws ds ts).lev = (knS t.r (ds.map (strS hs ws)) ts (morT t ts) (reachT t hs ws ds ts).taken (t.lo, t.hi) (t.dn + 1)).1 from k1]
    exact (kn_at (t.dn + 1)).2 j (by omega)
  have hft := fun i (hi : i < t.tn) => fine_taken (hs := hs) (ws := ws) (ds := ds) hmor hi
  have hlen' : (reachT t hs ws ds ts).lev.length = t.dn + 1 := hlen
  have hrow' : Row t.r (ds.map (strS hs ws)) (reachT t hs ws ds ts).lev := hrow
  have hlok' : ∀ p ∈ (reachT t hs ws ds ts).lev, OkSp p := hlok
  unfold levT
  rw [backN_all]
  generalize (reachT t hs ws ds ts).taken = F at kk hft
  generalize (reachT t hs ws ds ts).lev = L at kk hlen' hrow' hlok'
  obtain ⟨j1, j2⟩ := back_just hO hst hss hrow' hlok' hlen' t.dn (Nat.le_refl _)
  obtain ⟨-, b2⟩ := back_in hO.feed.1 hst hss hrow' hlen' t.dn (Nat.le_refl _)
  have hbd : ∀ i, i ≤ t.dn → 0 ≤ (L.getD i (0, 0)).1 ∧ (L.getD i (0, 0)).2 ≤ 1000000 := fun i hi => by
    have h := hlok' _ (getD_lt (L := L) (i := i) (by omega))
    exact ⟨h.lo, h.hi⟩
  refine ⟨fun m hm => j1 m (by omega) hm, fun i hi => ?_, ?_, fun i hi hs' => ?_⟩
  · obtain ⟨⟨x1, x2⟩, x3, x4⟩ := b2 i hi
    have := hbd i hi
    exact ⟨by omega, j2 i hi, by omega⟩
  · obtain ⟨⟨x1, x2⟩, x3, x4⟩ := b2 0 (Nat.zero_le _)
    have h0 := kk 0 (Nat.zero_le _)
    obtain ⟨m1, m2, -⟩ := morn_sub (r := t.r) (ts := ts) (mor := morT t ts) (m := 0) F (t.lo, t.hi)
    have e : mornS t.r (ds.map (strS hs ws)) ts (morT t ts) F (knS t.r (ds.map (strS hs ws)) ts (morT t ts) F (t.lo, t.hi) 0).2 0 = F.foldl (fun p i => if morT t ts i = 0 then joinS p (keepT t.r ts i) else p) (t.lo, t.hi) := rfl
    rw [e] at h0
    rw [← h0] at m1 m2
    exact ⟨Int.le_trans m1 x1, Int.le_trans x4 m2⟩
  · have hm := hmor i hi
    obtain ⟨⟨x1, x2⟩, x3, x4⟩ := b2 (morT t ts i) hm
    have h0 := kk (morT t ts i) hm
    obtain ⟨-, -, m3⟩ := morn_sub (r := t.r) (ts := ts) (mor := morT t ts) (m := morT t ts i) F (canS t.r (ds.map (strS hs ws)) (morT t ts i) (knS t.r (ds.map (strS hs ws)) ts (morT t ts) F (t.lo, t.hi) (morT t ts i)).2)
    obtain ⟨n1, n2⟩ := m3 i (hft i hi hs') rfl
    have e : mornS t.r (ds.map (strS hs ws)) ts (morT t ts) F (knS t.r (ds.map (strS hs ws)) ts (morT t ts) F (t.lo, t.hi) (morT t ts i)).2 (morT t ts i) = F.foldl (fun p j => if morT t ts j = morT t ts i then joinS p (keepT t.r ts j) else p) (canS t.r (ds.map (strS hs ws)) (morT t ts i) (knS t.r (ds.map (strS hs ws)) ts (morT t ts) F (t.lo, t.hi) (morT t ts i)).2) := rfl
    rw [e] at h0
    rw [← h0] at n1 n2
    exact ⟨⟨by omega, by omega⟩, by omega, by omega⟩
end Go.Proofs.Ytanjkhclhcnnaaa

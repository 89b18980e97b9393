/- A task cut at a morning: the mathematics of DecayPrefix. -/
import Derived.Test.YtanjkhclhcnnaaaGF
namespace Go.Proofs.Ytanjkhclhcnnaaa
open Go.RowKit Go.Shelf

/-- A list that a strict order has sorted is one by its members. -/
theorem eq_sorted {R : Nat → Nat → Prop} (has : ∀ a b, R a b → R b a → False) : ∀ (l m : List Nat), l.Pairwise R → m.Pairwise R → (∀ x, x ∈ l ↔ x ∈ m) → l = m
  | [], [], _, _, _ => rfl
  | [], b :: m, _, _, h => absurd ((h b).2 (by simp)) (by simp)
  | a :: l, [], _, _, h => absurd ((h a).1 (by simp)) (by simp)
  | a :: l, b :: m, hl, hm, h => by
    obtain ⟨hl1, hl2⟩ := List.pairwise_cons.1 hl
    obtain ⟨hm1, hm2⟩ := List.pairwise_cons.1 hm
    have hab : a = b := by
      rcases List.mem_cons.1 ((h a).1 (by simp)) with e | e
      · exact e
      · rcases List.mem_cons.1 ((h b).2 (by simp)) with e' | e'
        · exact e'.symm
        · exact (has _ _ (hm1 a e) (hl1 b e')).elim
    subst hab
    rw [eq_sorted has l m hl2 hm2 fun x => ⟨fun hx => ?_, fun hx => ?_⟩]
    · rcases List.mem_cons.1 ((h x).1 (by simp [hx])) with e | e
      · subst e; exact (has _ _ (hl1 _ hx) (hl1 _ hx)).elim
      · exact e
    · rcases List.mem_cons.1 ((h x).2 (by simp [hx])) with e | e
      · subst e; exact (has _ _ (hm1 _ hx) (hm1 _ hx)).elim
      · exact e
theorem split_sorted {P : Nat → Bool} : ∀ (l : List Nat), l.Pairwise (fun a b => P b = true → P a = true) → l = l.filter P ++ l.filter fun x => !P x
  | [], _ => rfl
  | a :: l, h => by
    obtain ⟨h1, h2⟩ := List.pairwise_cons.1 h
    have ih := split_sorted l h2
    cases ha : P a with
    | true =>
      rw [List.filter_cons_of_pos (by simpa using ha), List.filter_cons_of_neg (by simp [ha]), List.cons_append, ← ih]
    | false =>
      have hn : ∀ x ∈ l, P x = false := fun x hx => by
        cases hq : P x with
        | false => rfl
        | true => rw [h1 x hx hq] at ha; cases ha
      rw [List.filter_cons_of_neg (by simp [ha]), List.filter_cons_of_pos (by simp [ha])]
      rw [List.filter_eq_nil_iff.2 (fun x hx => by simp [hn x hx]), List.filter_eq_self.2 (fun x hx => by simp [hn x hx])]
      rfl
def Rt (ts : List T3) (a b : Nat) : Prop := dayOf ts a < dayOf ts b ∨ (dayOf ts a = dayOf ts b ∧ a < b)
theorem Rt.asym {ts : List T3} (a b : Nat) (h : Rt ts a b) (k : Rt ts b a) : False := by
  unfold Rt at h k
  omega
theorem order_Rt (ts : List T3) (n : Nat) : (orderL ts n).Pairwise (Rt ts) := by
  rw [List.pairwise_iff_getElem]
  intro i j hi hj hij
  have hl := orderL_len ts n
  have h1 := orderL_up ts n i j hij (by omega)
  have h2 := order_stab ts n i j hij hj
  rw [List.getD_eq_getElem?_getD, List.getD_eq_getElem?_getD, List.getElem?_eq_getElem hi, List.getElem?_eq_getElem hj] at h1 h2
  simp only [Option.getD_some] at h1 h2
  unfold Rt
  by_cases e : dayOf ts (orderL ts n)[i] = dayOf ts (orderL ts n)[j]
  · exact .inr ⟨e, h2 e⟩
  · exact .inl (by omega)
theorem order_mem (ts : List T3) (n x : Nat) : x ∈ orderL ts n ↔ x < n := by
  refine ⟨orderL_lt ts n x, fun h => ?_⟩
  obtain ⟨a, ha, e⟩ := order_has ts h
  rw [← e]
  simp [List.getD, ha]

/-- Is a test one of a morning up to one? -/
def upB (t : TkA) (ts : List T3) (k i : Nat) : Bool := decide ((ts.getD i (0, 0, 0)).1 ≤ t.first + (k : Int))
/-- The tests kept, by their places. -/
def keptL (t : TkA) (ts : List T3) (k n : Nat) : List Nat := (List.range n).filter (upB t ts k)
def cutL (t : TkA) (ts : List T3) (k n : Nat) : List T3 := (keptL t ts k n).map fun i => ts.getD i (0, 0, 0)
theorem kept_snoc (t : TkA) (ts : List T3) (k n : Nat) : keptL t ts k (n + 1) = if upB t ts k n = true then keptL t ts k n ++ [n] else keptL t ts k n := by
  unfold keptL
  rw [List.range_succ, List.filter_append]
  cases h : upB t ts k n <;> simp [h]
theorem cut_snoc (t : TkA) (ts : List T3) (k n : Nat) : cutL t ts k (n + 1) = if upB t ts k n = true then cutL t ts k n ++ [ts.getD n (0, 0, 0)] else cutL t ts k n := by
  unfold cutL
  rw [kept_snoc]
  split <;> simp
theorem cut_len (t : TkA) (ts : List T3) (k n : Nat) : (cutL t ts k n).length ≤ n := by
  unfold cutL keptL
  rw [List.length_map]
  exact Nat.le_trans (List.length_filter_le _ _) (by simp)
theorem kept_up (t : TkA) (ts : List T3) (k n : Nat) : (keptL t ts k n).Pairwise (· < ·) := by
  unfold keptL
  exact List.Pairwise.filter _ (by simpa using List.pairwise_lt_range (n := n))
theorem kept_mem {t : TkA} {ts : List T3} {k n x : Nat} : x ∈ keptL t ts k n ↔ x < n ∧ upB t ts k x = true := by
  unfold keptL
  rw [List.mem_filter, List.mem_range]
theorem cut_at (t : TkA) (ts : List T3) (k n : Nat) {j : Nat} (h : j < (keptL t ts k n).length) : (cutL t ts k n).getD j (0, 0, 0) = ts.getD ((keptL t ts k n).getD j 0) (0, 0, 0) := by
  unfold cutL
  simp [List.getD, h]
/-- The order of the tests kept is that of all, as far as they are kept. -/
theorem cut_order (t : TkA) (ts : List T3) (k n : Nat) : (orderL (cutL t ts k n) (keptL t ts k n).length).map (fun j => (keptL t ts k n).getD j 0) = (orderL ts n).filter (upB t ts k) := by
  have hmono : ∀ i j, i < j → j < (keptL t ts k n).length → (keptL t ts k n).getD i 0 < (keptL t ts k n).getD j 0 := fun i j hij hj => by
    have h := (List.pairwise_iff_getElem.1 (kept_up t ts k n)) i j (by omega) hj hij
    simpa [List.getD, hj, show i < (keptL t ts k n).length by omega] using h
  refine eq_sorted (R := Rt ts) Rt.asym _ _ ?_ (List.Pairwise.filter _ (order_Rt ts n)) fun x => ?_
  · rw [List.pairwise_map]
    refine (order_Rt (cutL t ts k n) (keptL t ts k n).length).imp_of_mem fun {a b} ha hb h => ?_
    have ha' := (order_mem _ _ _).1 ha
    have hb' := (order_mem _ _ _).1 hb
    unfold Rt dayOf at h ⊢
    rw [cut_at t ts k n ha', cut_at t ts k n hb'] at h
    rcases h with h | ⟨h1, h2⟩
    · exact .inl h
    · exact .inr ⟨h1, hmono a b h2 hb'⟩
  · rw [List.mem_map, List.mem_filter, order_mem]
    constructor
    · rintro ⟨j, hj, rfl⟩
      have hj' := (order_mem _ _ _).1 hj
      have h := (kept_mem (t := t) (ts := ts) (k := k) (n := n)).1 (show (keptL t ts k n).getD j 0 ∈ keptL t ts k n by simp [List.getD, hj'])
      exact h
    · intro h
      obtain ⟨j, hj, e⟩ := List.mem_iff_getElem.1 (kept_mem.2 h)
      exact ⟨j, (order_mem _ _ _).2 hj, by simp [List.getD, hj, e]⟩

theorem onS_same (r : RuA) {ss ss' : List T2} {k : Nat} (hs : ∀ m, m < k → ss'.getD m (0, 0) = ss.getD m (0, 0)) (p : T2) (a : Nat) : ∀ d, a + d ≤ k → onS r ss' p a (a + d) = onS r ss p a (a + d)
  | 0, _ => by rw [Nat.add_zero, onS_self, onS_self]
  | d + 1, hd => by
    rw [← Nat.add_assoc, onS_step _ _ _ (Nat.le_add_right a d), onS_step _ _ _ (Nat.le_add_right a d), onS_same r hs p a d (by omega), hs _ (by omega)]
/-- Tests taken of the cut task are those taken of the whole, one by one. -/
theorem take_same (r : RuA) {ss ss' : List T2} {ts ts' : List T3} {mor mor' g : Nat → Nat} {k : Nat} (hs : ∀ m, m < k → ss'.getD m (0, 0) = ss.getD m (0, 0)) : ∀ (O : List Nat) (S S' : TS), (∀ j ∈ O, keepT r ts' j = keepT r ts (g j) ∧ mor' j = mor (g j) ∧ mor' j ≤ k) → O.Pairwise (fun a b => mor' a ≤ mor' b) → (∀ j ∈ O, S'.day ≤ mor' j) →
    S.good = S'.good.map g → S.now = S'.now → S.day = S'.day → ((O.map g).foldl (takeS r ss ts mor) S).good = (O.foldl (takeS r ss' ts' mor') S').good.map g
  | [], _, _, _, _, _, h, _, _ => h
  | j :: O, S, S', hO, hp, hd, h1, h2, h3 => by
    obtain ⟨e1, e2, e3⟩ := hO j (by simp)
    obtain ⟨p1, p2⟩ := List.pairwise_cons.1 hp
    have hdj := hd j (by simp)
    have hon : onS r ss' S'.now S'.day (mor' j) = onS r ss S.now S.day (mor (g j)) := by
      have := onS_same r hs S'.now S'.day (mor' j - S'.day) (by omega)
      rw [show S'.day + (mor' j - S'.day) = mor' j by omega] at this
      rw [this, h2, h3, e2]
    rw [List.map_cons, List.foldl_cons, List.foldl_cons]
    have hx : (takeS r ss ts mor S (g j)).good = (takeS r ss' ts' mor' S' j).good.map g ∧ (takeS r ss ts mor S (g j)).now = (takeS r ss' ts' mor' S' j).now ∧ (takeS r ss ts mor S (g j)).day = (takeS r ss' ts' mor' S' j).day ∧ (takeS r ss' ts' mor' S' j).day = mor' j := by
      unfold takeS
      rw [hon, e1]
      split
      · exact ⟨by simp [h1], rfl, e2.symm, rfl⟩
      · exact ⟨h1, rfl, e2.symm, rfl⟩
    obtain ⟨x1, x2, x3, x4⟩ := hx
    exact take_same r hs O _ _ (fun i hi => hO i (by simp [hi])) p2 (fun i hi => by rw [x4]; exact p1 i hi) x1 x2 x3
theorem take_more (r : RuA) (ss : List T2) (ts : List T3) (mor : Nat → Nat) : ∀ (O : List Nat) (S : TS), ∃ X, (∀ i ∈ X, i ∈ O) ∧ (O.foldl (takeS r ss ts mor) S).good = S.good ++ X
  | [], S => ⟨[], by simp, by simp⟩
  | j :: O, S => by
    obtain ⟨X, h1, h2⟩ := take_more r ss ts mor O (takeS r ss ts mor S j)
    rw [List.foldl_cons, h2]
    unfold takeS
    split
    · exact ⟨j :: X, fun i hi => by rcases List.mem_cons.1 hi with rfl | hi; exact List.mem_cons_self; exact List.mem_cons_of_mem _ (h1 i hi), by simp⟩
    · exact ⟨X, fun i hi => List.mem_cons_of_mem _ (h1 i hi), rfl⟩
theorem morn_map (r : RuA) {ts ts' : List T3} {mor mor' g : Nat → Nat} (m : Nat) : ∀ (F : List Nat) (p : T2), (∀ j ∈ F, keepT r ts' j = keepT r ts (g j) ∧ mor' j = mor (g j)) → (F.map g).foldl (fun p i => if mor i = m then joinS p (keepT r ts i) else p) p = F.foldl (fun p i => if mor' i = m then joinS p (keepT r ts' i) else p) p
  | [], _, _ => rfl
  | j :: F, p, h => by
    obtain ⟨e1, e2⟩ := h j (by simp)
    rw [List.map_cons, List.foldl_cons, List.foldl_cons, e1, e2]
    exact morn_map r m F _ fun i hi => h i (by simp [hi])
/-- So the levels of the mornings up to the cut are the same, before one goes backward. -/
theorem kn_same (r : RuA) {ss ss' : List T2} {ts ts' : List T3} {mor mor' g : Nat → Nat} {k : Nat} (hs : ∀ m, m < k → ss'.getD m (0, 0) = ss.getD m (0, 0)) {F X : List Nat} (hF : ∀ j ∈ F, keepT r ts' j = keepT r ts (g j) ∧ mor' j = mor (g j)) (hX : ∀ i ∈ X, k < mor i) (p : T2) : ∀ m, m ≤ k + 1 → knS r ss ts mor (F.map g ++ X) p m = knS r ss' ts' mor' F p m
  | 0, _ => rfl
  | m + 1, hm => by
    have ih := kn_same r hs hF hX p m (by omega)
    have e : mornS r ss ts mor (F.map g ++ X) (knS r ss ts mor (F.map g ++ X) p m).2 m = mornS r ss' ts' mor' F (knS r ss' ts' mor' F p m).2 m := by
      unfold mornS
      rw [ih, List.foldl_append, morn_none r ts mor m X _ (fun i hi => by have := hX i hi; omega), morn_map r m F _ hF]
      congr 1
      unfold canS
      split
      · rw [hs (m - 1) (by omega)]
      · rfl
    show ((knS r ss ts mor (F.map g ++ X) p m).1 ++ [_], _) = ((knS r ss' ts' mor' F p m).1 ++ [_], _)
    rw [e, ih]

/-- From behind, each morning's levels follow from the next one's. -/
theorem back_at {r : RuA} {ss L : List T2} {N : Nat} (hl : L.length = N + 1) : ∀ j, j ≤ N →
    (∀ m, m < N - j → (knownFold r ss L (backN N j)).getD m (0, 0) = L.getD m (0, 0)) ∧ (knownFold r ss L (backN N j)).getD N (0, 0) = L.getD N (0, 0) ∧
    ∀ m, N - j ≤ m → m < N → (knownFold r ss L (backN N j)).getD m (0, 0) = beforeS r (ss.getD m (0, 0)) (L.getD m (0, 0)) ((knownFold r ss L (backN N j)).getD (m + 1) (0, 0))
  | 0, _ => ⟨fun _ _ => rfl, rfl, fun m h1 h2 => by omega⟩
  | j + 1, hj => by
    obtain ⟨h1, h2, h3⟩ := back_at (r := r) (ss := ss) hl j (by omega)
    rw [backN_succ, known_snoc]
    have hlen := known_len r ss (backN N j) L
    generalize knownFold r ss L (backN N j) = K at h1 h2 h3 hlen
    unfold knownStep
    rw [h1 (N - 1 - j) (by omega)]
    refine ⟨fun m hm => ?_, ?_, fun m m1 m2 => ?_⟩
    · rw [getD_set (by omega), if_neg (by omega)]; exact h1 m (by omega)
    · rw [getD_set (by omega), if_neg (by omega)]; exact h2
    · rw [getD_set (by omega), getD_set (by omega), if_neg (show ¬ m + 1 = N - 1 - j by omega)]
      by_cases e : m = N - 1 - j
      · rw [if_pos e, e]
      · rw [if_neg e]; exact h3 m (by omega) m2
theorem first_le {p q : Nat → Bool} {c : Nat} (h : ∀ i, i < c → q i = true → p i = true) : firstT p c 0 ≤ firstT q c 0 := by
  obtain ⟨-, a2, a3, -⟩ := @firstT_spec p c 0
  obtain ⟨-, b2, -, b4⟩ := @firstT_spec q c 0
  rcases Nat.lt_or_ge (firstT q c 0) (firstT p c 0) with h1 | h1
  · have h2 := a3 _ (Nat.zero_le _) h1
    have h3 := h _ (by omega) (b4 (by omega))
    rw [h3] at h2; cases h2
  · exact h1
theorem before_mono (r : RuA) (s n : T2) {x y : T2} (h1 : x.1 ≤ y.1) (h2 : y.2 ≤ x.2) : (beforeS r s n x).1 ≤ (beforeS r s n y).1 ∧ (beforeS r s n y).2 ≤ (beforeS r s n x).2 := by
  have a : lowN r s.2 n.1 x.1 (n.2 - n.1 + 1).toNat ≤ lowN r s.2 n.1 y.1 (n.2 - n.1 + 1).toNat := first_le fun i _ hi => decide_eq_true (Int.le_trans h1 (of_decide_eq_true hi))
  have b : aboveN r s.1 n.1 y.2 (n.2 - n.1 + 1).toNat ≤ aboveN r s.1 n.1 x.2 (n.2 - n.1 + 1).toNat := first_le fun i _ hi => decide_eq_true (Int.lt_of_le_of_lt h2 (of_decide_eq_true hi))
  unfold beforeS
  exact ⟨by simp only; omega, by simp only; omega⟩
end Go.Proofs.Ytanjkhclhcnnaaa

/- Which test strikes which: the mathematics of DecayNamed. -/
import Derived.Test.YtanjkhclhcnnaaaFC
namespace Go.Proofs.Ytanjkhclhcnnaaa
open Go.RowKit Go.Shelf

/-- No level is in both spans. -/
def JE (p q : T2) : Prop := ¬ max p.1 q.1 ≤ min p.2 q.2
theorem JE.no {p q : T2} {n : Int} (h : JE p q) (hp : InP n p) (hq : InP n q) : False := by
  obtain ⟨a, b⟩ := hp
  obtain ⟨c, d⟩ := hq
  exact h (by omega)
theorem onS_trans (r : RuA) (ss : List T2) (p : T2) {a b c : Nat} (h : a ≤ b) (k : b ≤ c) : onS r ss (onS r ss p a b) b c = onS r ss p a c := by
  unfold onS nextFold
  rw [show c - a = (b - a) + (c - b) by omega, ← List.range'_append_1, List.foldl_append, show a + (b - a) = b by omega]
theorem fold_fst (r : RuA) (ss : List T2) : ∀ (ms : List Nat) (p q : T2), p.1 = q.1 → (nextFold r ss p ms).1 = (nextFold r ss q ms).1
  | [], _, _, h => h
  | m :: ms, p, q, h => by
    show (nextFold r ss (nextS r (ss.getD m (0, 0)) p) ms).1 = (nextFold r ss (nextS r (ss.getD m (0, 0)) q) ms).1
    exact fold_fst r ss ms _ _ (by unfold nextS; simp only; rw [h])
theorem fold_snd (r : RuA) (ss : List T2) : ∀ (ms : List Nat) (p q : T2), p.2 = q.2 → (nextFold r ss p ms).2 = (nextFold r ss q ms).2
  | [], _, _, h => h
  | m :: ms, p, q, h => by
    show (nextFold r ss (nextS r (ss.getD m (0, 0)) p) ms).2 = (nextFold r ss (nextS r (ss.getD m (0, 0)) q) ms).2
    exact fold_snd r ss ms _ _ (by unfold nextS; simp only; rw [h])
theorem onS_fst (r : RuA) (ss : List T2) {p q : T2} (a b : Nat) (h : p.1 = q.1) : (onS r ss p a b).1 = (onS r ss q a b).1 := fold_fst r ss _ p q h
theorem onS_snd (r : RuA) (ss : List T2) {p q : T2} (a b : Nat) (h : p.2 = q.2) : (onS r ss p a b).2 = (onS r ss q a b).2 := fold_snd r ss _ p q h
theorem onS_can {r : RuA} {hs ws : List T2} (h : RuOK r hs ws) {ss : List T2} (hst : ∀ s ∈ ss, StrOK s) {p : T2} (hp : CanOK p) (a : Nat) : ∀ d, a + d ≤ ss.length → CanOK (onS r ss p a (a + d))
  | 0, _ => by rw [Nat.add_zero, onS_self]; exact hp
  | d + 1, hd => by
    rw [← Nat.add_assoc, onS_step r ss p (Nat.le_add_right a d)]
    exact (onS_can h hst hp a d (by omega)).next h (hst _ (getD_lt (by omega)))

/-- The order of tests of one day. -/
def Stab (ts : List T3) (l : List Nat) : Prop := ∀ a b, a < b → b < l.length → dayOf ts (l.getD a 0) = dayOf ts (l.getD b 0) → l.getD a 0 < l.getD b 0
theorem swap_stab {ts : List T3} {l : List Nat} {j : Nat} (hj : j + 1 < l.length) (hd : dayOf ts (l.getD (j + 1) 0) < dayOf ts (l.getD j 0)) (h : Stab ts l) : Stab ts (swapL l j) := by
  intro a b hab hb e
  rw [swapL_len] at hb
  rw [swapL_at hj, swapL_at hj] at e ⊢
  by_cases a1 : a = j
  · rw [if_pos a1] at e ⊢
    by_cases b1 : b = j
    · omega
    · rw [if_neg b1] at e ⊢
      by_cases b2 : b = j + 1
      · rw [if_pos b2] at e; omega
      · rw [if_neg b2] at e ⊢
        exact h _ _ (by omega) hb e
  · rw [if_neg a1] at e ⊢
    by_cases a2 : a = j + 1
    · rw [if_pos a2] at e ⊢
      by_cases b1 : b = j
      · omega
      · rw [if_neg b1] at e ⊢
        by_cases b2 : b = j + 1
        · omega
        · rw [if_neg b2] at e ⊢
          exact h _ _ (by omega) hb e
    · rw [if_neg a2] at e ⊢
      by_cases b1 : b = j
      · rw [if_pos b1] at e ⊢
        exact h _ _ (by omega) hj e
      · rw [if_neg b1] at e ⊢
        by_cases b2 : b = j + 1
        · rw [if_pos b2] at e ⊢
          exact h _ _ (by omega) (by omega) e
        · rw [if_neg b2] at e ⊢
          exact h _ _ hab hb e
theorem sink_stab {ts : List T3} : ∀ (j : Nat) (l : List Nat), j < l.length → Stab ts l → Stab ts (sinkL (ltD ts) j l)
  | 0, _, _, h => h
  | j + 1, l, hj, h => by
    unfold sinkL
    split
    · rename_i hlt
      rw [ltD_iff] at hlt
      exact sink_stab j _ (by rw [swapL_len]; omega) (swap_stab hj (of_decide_eq_true hlt) h)
    · exact h
theorem isort_stab {ts : List T3} {l : List Nat} (h : Stab ts l) : ∀ i, i < l.length → Stab ts (isortL (ltD ts) l i)
  | 0, _ => h
  | i + 1, hi => by
    unfold isortL
    exact sink_stab _ _ (by rw [isortL_len]; exact hi) (isort_stab h i (by omega))
theorem order_stab (ts : List T3) (n : Nat) : Stab ts (orderL ts n) := by
  have h : Stab ts (List.range n) := by
    intro a b hab hb _
    simp at hb
    simp [List.getD, hb, show a < n by omega]
    exact hab
  rcases Nat.eq_zero_or_pos n with rfl | hn
  · exact h
  · show Stab ts (isortL (ltD ts) (List.range n) (n - 1))
    exact isort_stab h _ (by simp; omega)

/-- What is said of one strike. -/
def Nm (t : TkA) (hs ws : List T2) (ds : List T4) (ts : List T3) (good : List Nat) (s : T2) : Prop :=
  ∃ n, n < t.tn ∧ s.1 = (n : Nat) ∧ ((s.2 = -1 ∧ JE (onS t.r (ds.map (strS hs ws)) (t.lo, t.hi) 0 (morT t ts n)) (keepT t.r ts n)) ∨
    ∃ i : Nat, i ∈ good ∧ i < t.tn ∧ s.2 = (i : Nat) ∧ dayOf ts i ≤ dayOf ts n ∧ (dayOf ts i = dayOf ts n → i < n) ∧ JE (onS t.r (ds.map (strS hs ws)) (keepT t.r ts i) (morT t ts i) (morT t ts n)) (keepT t.r ts n))
theorem Nm.more {t : TkA} {hs ws : List T2} {ds : List T4} {ts : List T3} {good : List Nat} {s : T2} (h : Nm t hs ws ds ts good s) (x : Nat) : Nm t hs ws ds ts (good ++ [x]) s := by
  obtain ⟨n, h1, h2, h3 | ⟨i, h3, h4⟩⟩ := h
  · exact ⟨n, h1, h2, .inl h3⟩
  · exact ⟨n, h1, h2, .inr ⟨i, List.mem_append.2 (.inl h3), h4⟩⟩
/-- Where the ends of what is known now come from. -/
structure Sr (t : TkA) (hs ws : List T2) (ds : List T4) (ts : List T3) (S : TS) : Prop where
  can : CanOK S.now
  lo : S.now.1 = (onS t.r (ds.map (strS hs ws)) (t.lo, t.hi) 0 S.day).1 ∨ ∃ i ∈ S.good, morT t ts i ≤ S.day ∧ S.now.1 = (onS t.r (ds.map (strS hs ws)) (keepT t.r ts i) (morT t ts i) S.day).1
  hi : S.now.2 = (onS t.r (ds.map (strS hs ws)) (t.lo, t.hi) 0 S.day).2 ∨ ∃ i ∈ S.good, morT t ts i ≤ S.day ∧ S.now.2 = (onS t.r (ds.map (strS hs ws)) (keepT t.r ts i) (morT t ts i) S.day).2
theorem Sr.on {t : TkA} {hs ws : List T2} {ds : List T4} {ts : List T3} (hO : RuOK t.r hs ws) (hst : ∀ s ∈ ds.map (strS hs ws), StrOK s) {S : TS} (h : Sr t hs ws ds ts S) {m : Nat} (hm : S.day ≤ m) (hml : m ≤ (ds.map (strS hs ws)).length) : Sr t hs ws ds ts ⟨S.good, S.struck, onS t.r (ds.map (strS hs ws)) S.now S.day m, m⟩ := by
  obtain ⟨h1, h2, h3⟩ := h
  refine ⟨?_, ?_, ?_⟩
  · have := onS_can hO hst h1 S.day (m - S.day) (by omega)
    rw [show S.day + (m - S.day) = m by omega] at this
    exact this
  · rcases h2 with h2 | ⟨i, hi, hd, h2⟩
    · exact .inl (by simp only; rw [onS_fst _ _ S.day m h2, onS_trans _ _ _ (Nat.zero_le _) hm])
    · exact .inr ⟨i, hi, Nat.le_trans hd hm, by simp only; rw [onS_fst _ _ S.day m h2, onS_trans _ _ _ hd hm]⟩
  · rcases h3 with h3 | ⟨i, hi, hd, h3⟩
    · exact .inl (by simp only; rw [onS_snd _ _ S.day m h3, onS_trans _ _ _ (Nat.zero_le _) hm])
    · exact .inr ⟨i, hi, Nat.le_trans hd hm, by simp only; rw [onS_snd _ _ S.day m h3, onS_trans _ _ _ hd hm]⟩
theorem Sr.take {t : TkA} {hs ws : List T2} {ds : List T4} {ts : List T3} (hO : RuOK t.r hs ws) {S : TS} (h : Sr t hs ws ds ts S) {z : Nat} (hz : morT t ts z = S.day) (hc : (joinS S.now (keepT t.r ts z)).1 ≤ (joinS S.now (keepT t.r ts z)).2) (st : List T2) : Sr t hs ws ds ts ⟨S.good ++ [z], st, joinS S.now (keepT t.r ts z), S.day⟩ := by
  obtain ⟨h1, h2, h3⟩ := h
  have hk := keep_in hO (ts.getD z (0, 0, 0)).2.1 (ts.getD z (0, 0, 0)).2.2
  have hk' : InSp (keepT t.r ts z) := hk
  have hself : onS t.r (ds.map (strS hs ws)) (keepT t.r ts z) (morT t ts z) S.day = keepT t.r ts z := by rw [hz, onS_self]
  refine ⟨⟨⟨?_, ?_⟩, hc⟩, ?_, ?_⟩
  · have := h1.a; have := hk'.a
    show 0 ≤ max S.now.1 (keepT t.r ts z).1 ∧ max S.now.1 (keepT t.r ts z).1 ≤ 1000000
    omega
  · have := h1.b; have := hk'.b
    show 0 ≤ min S.now.2 (keepT t.r ts z).2 ∧ min S.now.2 (keepT t.r ts z).2 ≤ 1000000
    omega
  · by_cases e : (keepT t.r ts z).1 ≤ S.now.1
    · have e1 : (joinS S.now (keepT t.r ts z)).1 = S.now.1 := by show max _ _ = _; omega
      rcases h2 with h2 | ⟨i, hi, hd, h2⟩
      · exact .inl (by rw [e1]; exact h2)
      · exact .inr ⟨i, List.mem_append.2 (.inl hi), hd, by rw [e1]; exact h2⟩
    · have e1 : (joinS S.now (keepT t.r ts z)).1 = (keepT t.r ts z).1 := by show max _ _ = _; omega
      exact .inr ⟨z, by simp, Nat.le_of_eq hz, by rw [e1, hself]⟩
  · by_cases e : S.now.2 ≤ (keepT t.r ts z).2
    · have e1 : (joinS S.now (keepT t.r ts z)).2 = S.now.2 := by show min _ _ = _; omega
      rcases h3 with h3 | ⟨i, hi, hd, h3⟩
      · exact .inl (by rw [e1]; exact h3)
      · exact .inr ⟨i, List.mem_append.2 (.inl hi), hd, by rw [e1]; exact h3⟩
    · have e1 : (joinS S.now (keepT t.r ts z)).2 = (keepT t.r ts z).2 := by show min _ _ = _; omega
      exact .inr ⟨z, by simp, Nat.le_of_eq hz, by rw [e1, hself]⟩
theorem stop_iff {r : RuA} {ss : List T2} {ts : List T3} {mor : Nat → Nat} {z i : Nat} : stopB r ss ts mor z i = true ↔ JE (onS r ss (keepT r ts i) (mor i) (mor z)) (keepT r ts z) := by
  unfold stopB JE onS
  simp
/-- What strikes a test: one that is taken, or else Start. -/
theorem Sr.by {t : TkA} {hs ws : List T2} {ds : List T4} {ts : List T3} {S : TS} (h : Sr t hs ws ds ts S) {z : Nat} (hz : morT t ts z = S.day) (hc : JE S.now (keepT t.r ts z)) :
    (lastBy t.r (ds.map (strS hs ws)) ts (morT t ts) z S.good = -1 ∧ JE (onS t.r (ds.map (strS hs ws)) (t.lo, t.hi) 0 (morT t ts z)) (keepT t.r ts z)) ∨
    ∃ i : Nat, i ∈ S.good ∧ lastBy t.r (ds.map (strS hs ws)) ts (morT t ts) z S.good = (i : Nat) ∧ JE (onS t.r (ds.map (strS hs ws)) (keepT t.r ts i) (morT t ts i) (morT t ts z)) (keepT t.r ts z) := by
  rw [lastBy_eq]
  unfold byS
  cases hf : S.good.reverse.find? (stopB t.r (ds.map (strS hs ws)) ts (morT t ts) z) with
  | some i => exact .inr ⟨i, by simpa using List.mem_of_find?_eq_some hf, rfl, stop_iff.1 (List.find?_some hf)⟩
  | none =>
    refine .inl ⟨rfl, fun hn => ?_⟩
    have hno : ∀ i ∈ S.good, max (onS t.r (ds.map (strS hs ws)) (keepT t.r ts i) (morT t ts i) (morT t ts z)).1 (keepT t.r ts z).1 ≤ min (onS t.r (ds.map (strS hs ws)) (keepT t.r ts i) (morT t ts i) (morT t ts z)).2 (keepT t.r ts z).2 := fun i hi => by
      have h1 := List.find?_eq_none.1 hf i (by simpa using hi)
      rw [stop_iff] at h1
      exact Classical.not_not.1 h1
    rw [hz] at hn hno
    have hle := h.can.le
    have hlo : S.now.1 ≤ (keepT t.r ts z).2 := by
      rcases h.lo with h2 | ⟨i, hi, -, h2⟩
      · omega
      · have := hno i hi; omega
    have hhi : (keepT t.r ts z).1 ≤ S.now.2 := by
      rcases h.hi with h2 | ⟨i, hi, -, h2⟩
      · omega
      · have := hno i hi; omega
    exact hc (by omega)
theorem named_take {t : TkA} {hs ws : List T2} {ds : List T4} {ts : List T3} (hO : RuOK t.r hs ws) (hst : ∀ s ∈ ds.map (strS hs ws), StrOK s) (hss : (ds.map (strS hs ws)).length = t.dn) (hp : CanOK (t.lo, t.hi)) (hmor : ∀ i, i < t.tn → morT t ts i ≤ t.dn) : ∀ c, c ≤ t.tn →
    Sr t hs ws ds ts (takeF t hs ws ds ts c) ∧ (∀ a, c ≤ a → a < t.tn → (takeF t hs ws ds ts c).day ≤ morT t ts ((orderL ts t.tn).getD a 0)) ∧ ∀ s ∈ (takeF t hs ws ds ts c).struck, Nm t hs ws ds ts (takeF t hs ws ds ts c).good s
  | 0, _ => ⟨⟨hp, .inl (by rw [show (takeF t hs ws ds ts 0).day = 0 from rfl, onS_self]; rfl), .inl (by rw [show (takeF t hs ws ds ts 0).day = 0 from rfl, onS_self]; rfl)⟩, fun a _ _ => Nat.zero_le _, fun s hs' => by simp [takeF] at hs'⟩
  | c + 1, hc => by
    obtain ⟨h1, h2, h3⟩ := named_take hO hst hss hp hmor c (by omega)
    obtain ⟨a1, -, -⟩ := take_apart t hs ws ds ts c (by omega)
    have hl := orderL_len ts t.tn
    have hz : (orderL ts t.tn).getD c 0 < t.tn := getD_mem_lt (orderL_lt ts t.tn) (by omega)
    have hd := h2 c (Nat.le_refl _) (by omega)
    have hup : ∀ a, c ≤ a → a < t.tn → morT t ts ((orderL ts t.tn).getD c 0) ≤ morT t ts ((orderL ts t.tn).getD a 0) := fun a ha hat => by
      rcases Nat.eq_or_lt_of_le ha with rfl | ha
      · exact Nat.le_refl _
      · have := orderL_up ts t.tn c a ha hat
        unfold dayOf at this
        unfold morT
        omega
    have hbef : ∀ i ∈ (takeF t hs ws ds ts c).good, i < t.tn ∧ dayOf ts i ≤ dayOf ts ((orderL ts t.tn).getD c 0) ∧ (dayOf ts i = dayOf ts ((orderL ts t.tn).getD c 0) → i < (orderL ts t.tn).getD c 0) := fun i hi => by
      obtain ⟨a, ha, e⟩ := a1 i hi
      rw [← e]
      exact ⟨getD_mem_lt (orderL_lt ts t.tn) (by omega), orderL_up ts t.tn a c ha (by omega), order_stab ts t.tn a c ha (by omega)⟩
    rw [takeF_step t hs ws ds ts (by omega)]
    generalize (orderL ts t.tn).getD c 0 = z at hz hd hup hbef
    generalize takeF t hs ws ds ts c = S at h1 h3 hd hbef
    have g := h1.on hO hst hd (by rw [hss]; exact hmor z hz)
    unfold takeS
    split
    · rename_i hj
      exact ⟨g.take hO (z := z) rfl hj _, fun a ha hat => hup a (by omega) hat, fun s hs' => (h3 s hs').more z⟩
    · rename_i hj
      refine ⟨⟨g.can, g.lo, g.hi⟩, fun a ha hat => hup a (by omega) hat, fun s hs' => ?_⟩
      rcases List.mem_append.1 hs' with hs' | hs'
      · exact h3 s hs'
      · rw [List.mem_singleton] at hs'
        subst hs'
        refine ⟨z, hz, rfl, ?_⟩
        rcases g.by (z := z) rfl hj with ⟨b1, b2⟩ | ⟨i, b1, b2, b3⟩
        · exact .inl ⟨b1, b2⟩
        · obtain ⟨c1, c2, c3⟩ := hbef i b1
          exact .inr ⟨i, b1, c1, b2, c2, c3, b3⟩
/-- All that DecayNamed says of the strikes. -/
theorem named_all {t : TkA} {hs ws : List T2} {ds : List T4} {ts : List T3} (he : (taskS t hs ws ds ts).2.2 = 0) (hdl : ds.length = t.dn) :
    strkB (reachT t hs ws ds ts).struck (-1) = false ∧ ∀ k, k < (reachT t hs ws ds ts).struck.length → Nm t hs ws ds ts (reachT t hs ws ds ts).taken ((reachT t hs ws ds ts).struck.getD k (0, 0)) := by
  have ok := TaskOK.of he
  have hO := RuOK.of ok.r
  have hst := days_str hO hdl ok.days
  have hss : (ds.map (strS hs ws)).length = t.dn := by rw [List.length_map, hdl]
  have hp := lv_ok ok.start
  have hts := tests_ok ok.tests
  have hmor : ∀ i, i < t.tn → morT t ts i ≤ t.dn := fun i hi => by have := hts i hi; unfold morT; omega
  obtain ⟨h1, h2⟩ := reach_all t.r (ds.map (strS hs ws)) ts (morT t ts) (orderL ts t.tn) (t.lo, t.hi) (order_pair t ts) (k := t.dn + 1) (fun i hi => by have := hmor i (orderL_lt ts t.tn i hi); omega)
  have h1' : (reachT t hs ws ds ts).taken = (takeF t hs ws ds ts t.tn).good := by rw [takeF_whole]; exact h1
  have h2' : (reachT t hs ws ds ts).struck = (takeF t hs ws ds ts t.tn).struck := by rw [takeF_whole]; exact h2
  obtain ⟨-, -, h3⟩ := named_take hO hst hss hp hmor t.tn (Nat.le_refl _)
  rw [h1', h2']
  refine ⟨strkB_no fun k hk => ?_, fun k hk => h3 _ (getD_lt hk)⟩
  obtain ⟨n, -, e, -⟩ := h3 _ (getD_lt hk)
  omega
/-- A course from a morning on is in what its first levels lead to. -/
theorem on_in {r : RuA} {ss : List T2} (hf : 0 ≤ r.feed) (hst : ∀ s ∈ ss, StrOK s) {c : Nat → Int} {p : T2} {a N : Nat} (h0 : InP (c 0) p) (hn : ∀ k, k < N → InP (c (k + 1)) (nextS r (ss.getD (a + k) (0, 0)) (c k, c k))) (ha : a + N ≤ ss.length) : ∀ k, k ≤ N → InP (c k) (onS r ss p a (a + k))
  | 0, _ => by rw [Nat.add_zero, onS_self]; exact h0
  | k + 1, hk => by
    rw [← Nat.add_assoc, onS_step r ss p (Nat.le_add_right a k)]
    exact (on_in hf hst h0 hn ha k (by omega)).next hf (hst _ (getD_lt (by omega))) (hn k (by omega))
end Go.Proofs.Ytanjkhclhcnnaaa

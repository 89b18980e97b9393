/- Levels without tests, and lower ones: the mathematics of DecayCooler. -/
import Derived.Test.YtanjkhclhcnnaaaGC
namespace Go.Proofs.Ytanjkhclhcnnaaa
open Go.RowKit Go.Shelf

theorem least_le_most {r : RuA} {hs ws : List T2} (h : RuOK r hs ws) {s : T2} (hs' : StrOK s) {n : Int} (hn : 0 ≤ n) : leastS r s.1 n ≤ mostS r s.2 n := by
  have h1 := gain_up h hn hs'.le
  unfold leastS mostS
  omega
/-- What follows from all levels of a morning does not take any of them away. -/
theorem before_self {r : RuA} {hs ws : List T2} (h : RuOK r hs ws) {s n : T2} (hs' : StrOK s) (hn : CanOK n) : beforeS r s n (nextS r s n) = n := by
  have hle := hn.le
  have hs2 : 0 ≤ s.1 := hs'.lo
  have hlow : lowN r s.2 n.1 (nextS r s n).1 (n.2 - n.1 + 1).toNat = 0 := by
    obtain ⟨-, -, e3, -⟩ := @firstT_spec (fun i => decide ((nextS r s n).1 ≤ mostS r s.2 (n.1 + i))) (n.2 - n.1 + 1).toNat 0
    rcases Nat.eq_zero_or_pos (lowN r s.2 n.1 (nextS r s n).1 (n.2 - n.1 + 1).toNat) with h0 | h0
    · exact h0
    · have h1 := of_decide_eq_false (e3 0 (Nat.le_refl _) h0)
      have h2 := least_le_most h hs' hn.a.1
      have h3 : ¬ leastS r s.1 n.1 ≤ mostS r s.2 (n.1 + ((0 : Nat) : Int)) := h1
      rw [show n.1 + ((0 : Nat) : Int) = n.1 by omega] at h3
      exact absurd h2 h3
  have habove : aboveN r s.1 n.1 (nextS r s n).2 (n.2 - n.1 + 1).toNat = (n.2 - n.1 + 1).toNat := by
    obtain ⟨-, e2, -, e4⟩ := @firstT_spec (fun i => decide ((nextS r s n).2 < leastS r s.1 (n.1 + i))) (n.2 - n.1 + 1).toNat 0
    have e2' : aboveN r s.1 n.1 (nextS r s n).2 (n.2 - n.1 + 1).toNat ≤ (n.2 - n.1 + 1).toNat := by unfold aboveN; omega
    rcases Nat.lt_or_ge (aboveN r s.1 n.1 (nextS r s n).2 (n.2 - n.1 + 1).toNat) (n.2 - n.1 + 1).toNat with h0 | h0
    · have h1 := of_decide_eq_true (e4 (by unfold aboveN at h0; omega))
      have h3 : mostS r s.2 n.2 < leastS r s.1 (n.1 + ((aboveN r s.1 n.1 (nextS r s n).2 (n.2 - n.1 + 1).toNat : Nat) : Int)) := h1
      have h4 := least_le_most h hs' hn.b.1
      have h5 := least_mono (r := r) (s := s.1) (a := n.1 + ((aboveN r s.1 n.1 (nextS r s n).2 (n.2 - n.1 + 1).toNat : Nat) : Int)) (b := n.2) h.feed.1 hs2 (by omega)
      omega
    · omega
  unfold beforeS
  rw [hlow, habove]
  refine Prod.ext ?_ ?_
  · show n.1 + ((0 : Nat) : Int) = n.1; omega
  · show n.1 + (((n.2 - n.1 + 1).toNat : Nat) : Int) - 1 = n.2; omega
/-- Without tests each morning's levels are what the first ones lead to. -/
theorem kn_none (r : RuA) (ss : List T2) (ts : List T3) (mor : Nat → Nat) (p : T2) : ∀ k, (knS r ss ts mor [] p k).2 = onS r ss p 0 (k - 1) ∧ mornS r ss ts mor [] (knS r ss ts mor [] p k).2 k = onS r ss p 0 k
  | 0 => ⟨(onS_self _ _ _ _).symm, (onS_self _ _ _ _).symm⟩
  | k + 1 => by
    obtain ⟨h1, h2⟩ := kn_none r ss ts mor p k
    have e : (knS r ss ts mor [] p (k + 1)).2 = onS r ss p 0 k := h2
    refine ⟨e, ?_⟩
    have e2 : mornS r ss ts mor [] (knS r ss ts mor [] p (k + 1)).2 (k + 1) = canS r ss (k + 1) (knS r ss ts mor [] p (k + 1)).2 := rfl
    rw [e2, e]
    unfold canS
    rw [if_pos (by omega), onS_step r ss p (Nat.zero_le k), Nat.add_sub_cancel]
theorem known_same {r : RuA} {ss L : List T2} : ∀ (ms : List Nat), (∀ m ∈ ms, m < L.length ∧ beforeS r (ss.getD m (0, 0)) (L.getD m (0, 0)) (L.getD (m + 1) (0, 0)) = L.getD m (0, 0)) → knownFold r ss L ms = L
  | [], _ => rfl
  | m :: ms, h => by
    obtain ⟨h1, h2⟩ := h m (by simp)
    have e : knownStep r ss L m = L := by unfold knownStep; rw [h2, set_getD h1]
    have e2 : knownFold r ss L (m :: ms) = knownFold r ss (knownStep r ss L m) ms := rfl
    rw [e2, e]
    exact known_same ms fun k hk => h k (by simp [hk])
theorem bare_lev {t : TkA} {hs ws : List T2} {ds : List T4} {ts : List T3} (he : (taskS t hs ws ds ts).2.2 = 0) (hdl : ds.length = t.dn) (htn : t.tn = 0) : ∀ j, j ≤ t.dn → (levT t hs ws ds ts).getD j (0, 0) = onS t.r (ds.map (strS hs ws)) (t.lo, t.hi) 0 j := by
  have ok := TaskOK.of he
  have hO := RuOK.of ok.r
  have hst := days_str hO hdl ok.days
  have hss : (ds.map (strS hs ws)).length = t.dn := by rw [List.length_map, hdl]
  have hp := lv_ok ok.start
  have hord : orderL ts t.tn = [] := List.length_eq_zero_iff.1 (by rw [orderL_len, htn])
  obtain ⟨h1, -⟩ := reach_all t.r (ds.map (strS hs ws)) ts (morT t ts) (orderL ts t.tn) (t.lo, t.hi) (order_pair t ts) (k := t.dn + 1) (fun i hi => by rw [hord] at hi; cases hi)
  have h1' : (reachT t hs ws ds ts).taken = [] := by
    have : (reachT t hs ws ds ts).taken = ((orderL ts t.tn).foldl (takeS t.r (ds.map (strS hs ws)) ts (morT t ts)) ⟨[], [], (t.lo, t.hi), 0⟩).good := h1
    rw [this, hord]
    rfl
  obtain ⟨k1, -⟩ := reach_known t.r (ds.map (strS hs ws)) ts (morT t ts) (orderL ts t.tn) (t.lo, t.hi) (t.dn + 1) (t.dn + 1) (Nat.le_refl _)
  have k1' : (reachT t hs ws ds ts).lev = (knS t.r (ds.map (strS hs ws)) ts (morT t ts) (reachT t hs ws ds ts).taken (t.lo, t.hi) (t.dn + 1)).1 := k1
  rw [h1'] at k1'
  have kl := (kn_at (r := t.r) (ss := ds.map (strS hs ws)) (ts := ts) (mor := morT t ts) (F := []) (p := (t.lo, t.hi)) (t.dn + 1))
  have hlen : (reachT t hs ws ds ts).lev.length = t.dn + 1 := by rw [k1']; exact kl.1
  have hat : ∀ j, j ≤ t.dn → (reachT t hs ws ds ts).lev.getD j (0, 0) = onS t.r (ds.map (strS hs ws)) (t.lo, t.hi) 0 j := fun j hj => by
    rw [k1', kl.2 j (by omega)]
    exact (kn_none t.r (ds.map (strS hs ws)) ts (morT t ts) (t.lo, t.hi) j).2
  have hsame : levT t hs ws ds ts = (reachT t hs ws ds ts).lev := by
    unfold levT
    rw [backN_all]
    refine known_same _ fun m hm => ?_
    unfold backN at hm
    rw [List.mem_map] at hm
    obtain ⟨x, hx, rfl⟩ := hm
    rw [List.mem_range] at hx
    refine ⟨by omega, ?_⟩
    rw [hat _ (by omega), hat _ (by omega), onS_step _ _ _ (Nat.zero_le _)]
    have hc := onS_can hO hst hp 0 (t.dn - 1 - x) (by omega)
    rw [Nat.zero_add] at hc
    exact before_self hO (hst _ (getD_lt (by omega))) hc
  intro j hj
  rw [hsame]
  exact hat j hj

/-- Both ends no higher. -/
def Le2 (p q : T2) : Prop := p.1 ≤ q.1 ∧ p.2 ≤ q.2
theorem gain_le {r r' : RuA} (ho : 0 ≤ r'.own ∧ r'.own ≤ r.own) (hf : 0 ≤ r'.feed ∧ r'.feed ≤ r.feed) {n n' s s' : Int} (hn : 0 ≤ n' ∧ n' ≤ n) (hs : 0 ≤ s' ∧ s' ≤ s) : gainS r' n' s' ≤ gainS r n s := by
  unfold gainS
  have h1 : n' * r'.feed ≤ n * r.feed := Int.mul_le_mul hn.2 hf.2 hf.1 (by omega)
  have h2 : 0 ≤ n' * r'.feed := Int.mul_nonneg hn.1 hf.1
  exact Int.mul_le_mul (by omega) hs.2 hs.1 (by omega)
theorem next_le {r r' : RuA} (ho : 0 ≤ r'.own ∧ r'.own ≤ r.own) (hf : 0 ≤ r'.feed ∧ r'.feed ≤ r.feed) {n n' s s' : T2} (hn : Le2 n' n) (hn' : CanOK n') (hs : Le2 s' s) (hs' : StrOK s') : Le2 (nextS r' s' n') (nextS r s n) := by
  have a := gain_le ho hf ⟨hn'.a.1, hn.1⟩ ⟨hs'.lo, hs.1⟩
  have b := gain_le ho hf ⟨hn'.b.1, hn.2⟩ ⟨Int.le_trans hs'.lo hs'.le, hs.2⟩
  have h1 := hn.1
  have h2 := hn.2
  refine ⟨?_, ?_⟩
  · show leastS r' s'.1 n'.1 ≤ leastS r s.1 n.1
    unfold leastS; omega
  · show mostS r' s'.2 n'.2 ≤ mostS r s.2 n.2
    unfold mostS; omega
theorem on_le {r r' : RuA} {hs ws : List T2} (h' : RuOK r' hs ws) (ho : r'.own ≤ r.own) (hf : r'.feed ≤ r.feed) {ss ss' : List T2} {p p' : T2} (hp : Le2 p' p) (hp' : CanOK p') (hst' : ∀ s ∈ ss', StrOK s) (hss : ∀ k, k < ss'.length → Le2 (ss'.getD k (0, 0)) (ss.getD k (0, 0))) : ∀ j, j ≤ ss'.length → Le2 (onS r' ss' p' 0 j) (onS r ss p 0 j)
  | 0, _ => by rw [onS_self, onS_self]; exact hp
  | j + 1, hj => by
    rw [onS_step _ _ _ (Nat.zero_le j), onS_step _ _ _ (Nat.zero_le j)]
    have hc := onS_can h' hst' hp' 0 j (by omega)
    rw [Nat.zero_add] at hc
    exact next_le ⟨h'.own.1, ho⟩ ⟨h'.feed.1, hf⟩ (on_le h' ho hf hp hp' hst' hss j (by omega)) hc (hss j (by omega)) (hst' _ (getD_lt (by omega)))

/-- As late, or later (below 0: never). -/
def lateB (a b : Int) : Bool := decide (a < 0) || (decide (0 ≤ b) && decide (b ≤ a))
theorem lost_late {p q : T2 → Bool} {first : Int} (h0 : 0 ≤ first) {L M : List T2} (hl : M.length = L.length) (h : ∀ j, j < L.length → q (M.getD j (0, 0)) = true → p (L.getD j (0, 0)) = true) : lateB (lostS q first M) (lostS p first L) = true := by
  obtain ⟨-, e2, e3, e4⟩ := @firstT_spec (fun i => p (L.getD i (0, 0))) L.length 0
  obtain ⟨-, g2, g3, g4⟩ := @firstT_spec (fun i => q (M.getD i (0, 0))) M.length 0
  have hx : ∀ (f : T2 → Bool) (N : List T2), idxS f N = if firstT (fun i => f (N.getD i (0, 0))) N.length 0 < N.length then ((firstT (fun i => f (N.getD i (0, 0))) N.length 0 : Nat) : Int) else -1 := fun f N => rfl
  by_cases hq : firstT (fun i => q (M.getD i (0, 0))) M.length 0 < M.length
  · have h1 := h _ (by omega) (g4 (by omega))
    have h2 : firstT (fun i => p (L.getD i (0, 0))) L.length 0 ≤ firstT (fun i => q (M.getD i (0, 0))) M.length 0 := by
      rcases Nat.lt_or_ge (firstT (fun i => q (M.getD i (0, 0))) M.length 0) (firstT (fun i => p (L.getD i (0, 0))) L.length 0) with h3 | h3
      · have := e3 _ (Nat.zero_le _) h3
        rw [h1] at this; cases this
      · exact h3
    unfold lateB lostS
    rw [hx q M, hx p L, if_pos hq, if_pos (show firstT (fun i => p (L.getD i (0, 0))) L.length 0 < L.length by omega), if_pos (by omega), if_pos (by omega)]
    simp only [Bool.or_eq_true, Bool.and_eq_true, decide_eq_true_eq]
    omega
  · unfold lateB lostS
    rw [hx q M, if_neg hq, if_neg (by omega)]
    simp

/-- A climate that is colder and drier. -/
def lowerF (d : T4) (a b : Int) : T4 := (max (-300) (d.1 - a), max (-300) (d.2.1 - a), max 0 (d.2.2.1 - b), max 0 (d.2.2.2 - b))
theorem day_bd {d : T4} (h : dayE d = 0) : (-300 ≤ d.1 ∧ d.1 ≤ d.2.1 ∧ d.2.1 ≤ 600) ∧ 0 ≤ d.2.2.1 ∧ d.2.2.1 ≤ d.2.2.2 ∧ d.2.2.2 ≤ 1000 := by
  have h1 := demand_zero h (d.1, d.2.1, -300, 600) (by simp)
  have h2 := demand_zero h (d.2.2.1, d.2.2.2, 0, 1000) (by simp)
  have a1 := out_no h1.1
  have a2 := turn_no h1.2
  have b1 := out_no h2.1
  have b2 := turn_no h2.2
  try simp only at a1 a2 b1 b2
  omega
theorem lower_ok {d : T4} (h : dayE d = 0) {a b : Int} (ha : 0 ≤ a) (hb : 0 ≤ b) : dayE (lowerF d a b) = 0 := by
  have h1 := day_bd h
  unfold dayE demandE lowerF
  simp [outB, turnB, inB]
  omega
theorem lower_str {r : RuA} {hs ws : List T2} (hO : RuOK r hs ws) {d : T4} (h : dayE d = 0) {a b : Int} (ha : 0 ≤ a) (hb : 0 ≤ b) : Le2 (strS hs ws (lowerF d a b)) (strS hs ws d) := by
  have h1 := day_bd h
  exact ⟨strength_mono hO (show max (-300) (d.1 - a) ≤ d.1 by omega) (show max 0 (d.2.2.1 - b) ≤ d.2.2.1 by omega), strength_mono hO (show max (-300) (d.2.1 - a) ≤ d.2.1 by omega) (show max 0 (d.2.2.2 - b) ≤ d.2.2.2 by omega)⟩
/-- By so many 255ths of itself less. -/
def lessS (n x : Int) : Int := n - n / 255 * x
theorem less_bd {n x : Int} (hn : 0 ≤ n) (hx : 0 ≤ x ∧ x ≤ 255) : 0 ≤ lessS n x ∧ lessS n x ≤ n := by
  unfold lessS
  have h1 : 0 ≤ n / 255 := Int.ediv_nonneg hn (by decide)
  have h2 : n / 255 * x ≤ n / 255 * 255 := Int.mul_le_mul_of_nonneg_left hx.2 h1
  have h3 : 0 ≤ n / 255 * x := Int.mul_nonneg h1 hx.1
  omega
/-- The task that is cooler, drier and lower: its days lie elsewhere, and it has no tests. -/
abbrev TkA.cool_ (t : TkA) (x0 x1 x2 : Int) (da : Option Addr) (dc : Nat) : TkA := ⟨⟨t.r.ha, t.r.hn, t.r.hc, t.r.wa, t.r.wn, t.r.wc, lessS t.r.own x1, lessS t.r.feed x2, t.r.g0, t.r.g1, t.r.g2, t.r.lost⟩, t.first, da, t.dn, dc, t.lo - t.lo / 255 * x0, t.hi - t.lo / 255 * x0, none, 0, 0⟩
theorem TaskOK.cool {t : TkA} {hs ws : List T2} {ds : List T4} {ts : List T3} (ok : TaskOK t hs ws ds ts) (hdl : ds.length = t.dn) {x0 x1 x2 a b : Int} (h0 : 0 ≤ x0 ∧ x0 ≤ 255) (h1 : 0 ≤ x1 ∧ x1 ≤ 255) (h2 : 0 ≤ x2 ∧ x2 ≤ 255) (ha : 0 ≤ a) (hb : 0 ≤ b) (da : Option Addr) (dc : Nat) : TaskOK (t.cool_ x0 x1 x2 da dc) hs ws (ds.map fun d => lowerF d a b) [] := by
  have hO := RuOK.of ok.r
  have hp := lv_ok ok.start
  have c1 := less_bd hO.own.1 h1
  have c2 := less_bd hO.feed.1 h2
  have c3 := less_bd (n := t.lo) hp.a.1 h0
  unfold lessS at c3
  have hown := hO.own
  have hfeed := hO.feed
  have hr := ok.r
  have e1 := hp.le
  have e2 := hp.b
  simp only at e1 e2
  refine ⟨?_, ok.dn, Nat.zero_le _, ok.first, ?_, ?_, rfl⟩
  · unfold checkS at hr ⊢
    by_cases g1 : (curveE hs (-300) 600).2 = 0
    · rw [if_neg (by simpa using g1)] at hr ⊢
      by_cases g2 : (curveE ws 0 1000).2 = 0
      · rw [if_neg (by simpa using g2)] at hr ⊢
        rw [if_pos (by rw [Bool.and_eq_true, inB_iff, inB_iff]; exact ⟨hown, hfeed⟩)] at hr
        rw [if_pos (by rw [Bool.and_eq_true, inB_iff, inB_iff]; exact ⟨⟨c1.1, by show lessS t.r.own x1 ≤ _; omega⟩, c2.1, by show lessS t.r.feed x2 ≤ _; omega⟩)]
        exact hr
      · rw [if_pos g2] at hr; exact absurd hr g2
    · rw [if_pos g1] at hr; exact absurd hr g1
  · refine firstE_all.2 fun i hi => ?_
    have hi' : i < t.dn := hi
    have e : (ds.map fun d => lowerF d a b).getD i (0, 0, 0, 0) = lowerF (ds.getD i (0, 0, 0, 0)) a b := by simp [List.getD, hdl, hi']
    rw [e]
    exact lower_ok (firstE_all.1 ok.days i hi') ha hb
  · show lvE (t.lo - t.lo / 255 * x0, t.hi - t.lo / 255 * x0) = 0
    unfold lvE demandE
    simp [outB, turnB, inB]
    omega
theorem cool_lev {t : TkA} {hs ws : List T2} {ds : List T4} (ok : TaskOK t hs ws ds []) (htn : t.tn = 0) (hdl : ds.length = t.dn) {x0 x1 x2 a b : Int} (h0 : 0 ≤ x0 ∧ x0 ≤ 255) (h1 : 0 ≤ x1 ∧ x1 ≤ 255) (h2 : 0 ≤ x2 ∧ x2 ≤ 255) (ha : 0 ≤ a) (hb : 0 ≤ b) (da : Option Addr) (dc : Nat) :
    (∀ j, j ≤ t.dn → Le2 ((levT (t.cool_ x0 x1 x2 da dc) hs ws (ds.map fun d => lowerF d a b) []).getD j (0, 0)) ((levT t hs ws ds []).getD j (0, 0))) ∧
    lateB (lostP (t.cool_ x0 x1 x2 da dc) (levT (t.cool_ x0 x1 x2 da dc) hs ws (ds.map fun d => lowerF d a b) [])).1 (lostP t (levT t hs ws ds [])).1 = true ∧ lateB (lostP (t.cool_ x0 x1 x2 da dc) (levT (t.cool_ x0 x1 x2 da dc) hs ws (ds.map fun d => lowerF d a b) [])).2 (lostP t (levT t hs ws ds [])).2 = true := by
  have ok' := ok.cool hdl h0 h1 h2 ha hb da dc
  have hO := RuOK.of ok.r
  have hO' := RuOK.of ok'.r
  have hdl' : (ds.map fun d => lowerF d a b).length = (t.cool_ x0 x1 x2 da dc).dn := by rw [List.length_map]; exact hdl
  have hst' := days_str hO' hdl' ok'.days
  have hp := lv_ok ok.start
  have hp' := lv_ok ok'.start
  have l1 := bare_lev ok.zero hdl htn
  have l2 := bare_lev ok'.zero hdl' rfl
  have c1 := less_bd hO.own.1 h1
  have c2 := less_bd hO.feed.1 h2
  have c3 : 0 ≤ t.lo / 255 * x0 := Int.mul_nonneg (Int.ediv_nonneg hp.a.1 (by decide)) h0.1
  have hle : ∀ j, j ≤ t.dn → Le2 ((levT (t.cool_ x0 x1 x2 da dc) hs ws (ds.map fun d => lowerF d a b) []).getD j (0, 0)) ((levT t hs ws ds []).getD j (0, 0)) := fun j hj => by
    rw [l1 j hj, l2 j hj]
    refine on_le (ss := ds.map (strS hs ws)) hO' c1.2 c2.2 ⟨by show t.lo - t.lo / 255 * x0 ≤ t.lo; omega, by show t.hi - t.lo / 255 * x0 ≤ t.hi; omega⟩ hp' hst' (fun k hk => ?_) j (by rw [List.length_map, List.length_map, hdl]; exact hj)
    rw [List.length_map, List.length_map, hdl] at hk
    have e1 : ((ds.map fun d => lowerF d a b).map (strS hs ws)).getD k (0, 0) = strS hs ws (lowerF (ds.getD k (0, 0, 0, 0)) a b) := by simp [List.getD, hdl, hk]
    have e2 : (ds.map (strS hs ws)).getD k (0, 0) = strS hs ws (ds.getD k (0, 0, 0, 0)) := by simp [List.getD, hdl, hk]
    rw [e1, e2]
    exact lower_str hO (firstE_all.1 ok.days k hk) ha hb
  have n1 := levT_len ok.zero hdl
  have n2 : (levT (t.cool_ x0 x1 x2 da dc) hs ws (ds.map fun d => lowerF d a b) []).length = t.dn + 1 := levT_len ok'.zero hdl'
  have hf := ok.first.1
  refine ⟨hle, ?_, ?_⟩
  · refine lost_late hf (by omega) fun j hj hq => ?_
    have h := (hle j (by omega)).2
    have hq' := of_decide_eq_true hq
    exact decide_eq_true (Int.le_trans hq' h)
  · refine lost_late hf (by omega) fun j hj hq => ?_
    have h := (hle j (by omega)).1
    have hq' := of_decide_eq_true hq
    exact decide_eq_true (Int.le_trans hq' h)
end Go.Proofs.Ytanjkhclhcnnaaa

/- A task cut at a morning, and the rest of it. -/
import Derived.Test.YtanjkhclhcnnaaaGK
namespace Go.Proofs.Ytanjkhclhcnnaaa
open Go.RowKit Go.Shelf

abbrev TkA.cut_ (t : TkA) (k : Nat) (ua : Option Addr) (un uc : Nat) : TkA := ⟨t.r, t.first, t.da, k, t.dc, t.lo, t.hi, ua, un, uc⟩
abbrev TkA.rest_ (t : TkA) (k : Nat) (lo hi : Int) : TkA := ⟨t.r, t.first + (k : Int), t.lateA k, t.dn - k, t.dc - k, lo, hi, none, 0, 0⟩
theorem TaskOK.cut {t : TkA} {hs ws : List T2} {ds : List T4} {ts : List T3} (ok : TaskOK t hs ws ds ts) {k : Nat} (hk : k ≤ t.dn) (ua : Option Addr) (uc : Nat) : TaskOK (t.cut_ k ua (keptL t ts k t.tn).length uc) hs ws (ds.take k) (cutL t ts k t.tn) := by
  have h1 := ok.dn
  have h2 := ok.tn
  have h3 := ok.first
  have hts := tests_ok ok.tests
  have hl := cut_len t ts k t.tn
  unfold cutL at hl
  rw [List.length_map] at hl
  refine ⟨ok.r, by show k ≤ 400; omega, by show (keptL t ts k t.tn).length ≤ 20; omega, by show 0 ≤ t.first ∧ t.first ≤ 80000 - (k : Int); omega, ?_, ok.start, ?_⟩
  · refine firstE_all.2 fun i hi => ?_
    have hi' : i < k := hi
    have e : (ds.take k).getD i (0, 0, 0, 0) = ds.getD i (0, 0, 0, 0) := by simp [List.getD, List.getElem?_take_of_lt hi']
    rw [e]
    exact firstE_all.1 ok.days i (by omega)
  · refine firstE_all.2 fun j hj => ?_
    have hj' : j < (keptL t ts k t.tn).length := hj
    rw [cut_at t ts k t.tn hj']
    obtain ⟨m1, m2⟩ := (kept_mem (t := t) (ts := ts) (k := k) (n := t.tn)).1 (show (keptL t ts k t.tn).getD j 0 ∈ keptL t ts k t.tn by simp [List.getD, hj'])
    obtain ⟨x1, x2, x3⟩ := hts _ m1
    have m3 := of_decide_eq_true m2
    unfold testE
    rw [if_pos]
    rw [Bool.and_eq_true, Bool.and_eq_true, inB_iff, inB_iff, inB_iff]
    exact ⟨⟨⟨x1.1, m3⟩, x2⟩, x3⟩
theorem can_lv {p : T2} (h : CanOK p) : lvE p = 0 := by
  have h1 := h.a
  have h2 := h.b
  have h3 := h.le
  unfold lvE demandE
  simp [outB, turnB, inB]
  omega
theorem TaskOK.rest {t : TkA} {hs ws : List T2} {ds : List T4} {ts : List T3} (ok : TaskOK t hs ws ds ts) {k : Nat} (hk : k ≤ t.dn) {p : T2} (hp : CanOK p) : TaskOK (t.rest_ k p.1 p.2) hs ws (ds.drop k) [] := by
  obtain ⟨a1, a2, a3, a4, a5, -, a7⟩ := ok.late hk
  exact ⟨a1, a2, a3, a4, a5, can_lv hp, a7⟩
theorem onS_drop (r : RuA) (ss : List T2) (p : T2) (k : Nat) : ∀ j, onS r (ss.drop k) p 0 j = onS r ss p k (k + j)
  | 0 => by rw [Nat.add_zero, onS_self, onS_self]
  | j + 1 => by
    rw [onS_step _ _ _ (Nat.zero_le j), ← Nat.add_assoc, onS_step _ _ _ (Nat.le_add_right k j), onS_drop r ss p k j]
    congr 1
    simp [List.getD]
theorem ok_can {p : T2} (h : OkSp p) (k : p.1 ≤ p.2) : CanOK p := by
  have h1 := h.lo
  have h2 := h.hi
  exact ⟨⟨⟨h1, by omega⟩, by omega, h2⟩, k⟩
/-- What is held of a task, morning by morning, before one goes backward, and behind. -/
structure LevB (t : TkA) (hs ws : List T2) (ds : List T4) (ts : List T3) (L : List T2) : Prop where
  len : L.length = t.dn + 1
  kn : L = (knS t.r (ds.map (strS hs ws)) ts (morT t ts) (reachT t hs ws ds ts).taken (t.lo, t.hi) (t.dn + 1)).1
  can : ∀ j, j ≤ t.dn → CanOK (L.getD j (0, 0))
  sub : ∀ j, j ≤ t.dn → In2 ((levT t hs ws ds ts).getD j (0, 0)) (L.getD j (0, 0))
  last : (levT t hs ws ds ts).getD t.dn (0, 0) = L.getD t.dn (0, 0)
  back : ∀ m, m < t.dn → (levT t hs ws ds ts).getD m (0, 0) = beforeS t.r ((ds.map (strS hs ws)).getD m (0, 0)) (L.getD m (0, 0)) ((levT t hs ws ds ts).getD (m + 1) (0, 0))
  vlen : (levT t hs ws ds ts).length = t.dn + 1
theorem lev_b {t : TkA} {hs ws : List T2} {ds : List T4} {ts : List T3} (ok : TaskOK t hs ws ds ts) (hdl : ds.length = t.dn) : LevB t hs ws ds ts (reachT t hs ws ds ts).lev := by
  have hO := RuOK.of ok.r
  have hst := days_str hO hdl ok.days
  have hss : (ds.map (strS hs ws)).length = t.dn := by rw [List.length_map, hdl]
  have hp := lv_ok ok.start
  obtain ⟨hrow, -, hlen, -⟩ := reach_row (N := t.dn) hO hss hst ts (morT t ts) (orderL ts t.tn) hp (t.dn + 1) (Nat.le_refl _)
  have hlok := (reach_ok (N := t.dn) hO hss hst ts (morT t ts) (List.range (t.dn + 1)) ⟨orderL ts t.tn, [], (t.lo, t.hi), [], []⟩ (fun m hm => by rw [List.mem_range] at hm; omega) hp (fun p hp => by cases hp)).2.1
  obtain ⟨k1, -⟩ := reach_known t.r (ds.map (strS hs ws)) ts (morT t ts) (orderL ts t.tn) (t.lo, t.hi) (t.dn + 1) (t.dn + 1) (Nat.le_refl _)
  have hlen' : (reachT t hs ws ds ts).lev.length = t.dn + 1 := hlen
  have hrow' : Row t.r (ds.map (strS hs ws)) (reachT t hs ws ds ts).lev := hrow
  have hlok' : ∀ p ∈ (reachT t hs ws ds ts).lev, OkSp p := hlok
  have hV : levT t hs ws ds ts = knownFold t.r (ds.map (strS hs ws)) (reachT t hs ws ds ts).lev (backN t.dn t.dn) := by unfold levT; rw [backN_all]
  obtain ⟨-, b2⟩ := back_in hO.feed.1 hst hss hrow' hlen' t.dn (Nat.le_refl _)
  obtain ⟨-, c2, c3⟩ := back_at (r := t.r) (ss := ds.map (strS hs ws)) hlen' t.dn (Nat.le_refl _)
  refine ⟨hlen', k1, fun j hj => ok_can (hlok' _ (getD_lt (by omega))) (hrow'.1 j (by omega)), ?_, ?_, ?_, levT_len ok.zero hdl⟩
  · intro j hj; rw [hV]; exact b2 j hj
  · rw [hV]; exact c2
  · intro m hm; rw [hV]; exact c3 m (by omega) hm
theorem list_ext {L M : List T2} (h : L.length = M.length) (hi : ∀ i, i < L.length → L.getD i (0, 0) = M.getD i (0, 0)) : L = M := by
  apply List.ext_getElem h
  intro i h1 h2
  have := hi i h1
  simpa [List.getD, h1, h2] using this
theorem pref_all {t : TkA} {hs ws : List T2} {ds : List T4} {ts : List T3} (ok : TaskOK t hs ws ds ts) (hdl : ds.length = t.dn) {k : Nat} (hk : k ≤ t.dn) (ua : Option Addr) (uc : Nat) :
    (∀ i, i ≤ k → ((levT (t.cut_ k ua (keptL t ts k t.tn).length uc) hs ws (ds.take k) (cutL t ts k t.tn)).getD i (0, 0)).1 ≤ ((levT t hs ws ds ts).getD i (0, 0)).1 ∧ ((levT t hs ws ds ts).getD i (0, 0)).2 ≤ ((levT (t.cut_ k ua (keptL t ts k t.tn).length uc) hs ws (ds.take k) (cutL t ts k t.tn)).getD i (0, 0)).2) ∧
    CanOK ((levT (t.cut_ k ua (keptL t ts k t.tn).length uc) hs ws (ds.take k) (cutL t ts k t.tn)).getD k (0, 0)) ∧
    ((keptL t ts k t.tn).length = t.tn → levT (t.cut_ k ua (keptL t ts k t.tn).length uc) hs ws (ds.take k) (cutL t ts k t.tn) = (levT t hs ws ds ts).take (k + 1) ∧
      levT (t.rest_ k ((levT (t.cut_ k ua (keptL t ts k t.tn).length uc) hs ws (ds.take k) (cutL t ts k t.tn)).getD k (0, 0)).1 ((levT (t.cut_ k ua (keptL t ts k t.tn).length uc) hs ws (ds.take k) (cutL t ts k t.tn)).getD k (0, 0)).2) hs ws (ds.drop k) [] = (levT t hs ws ds ts).drop k) := by
  have hO := RuOK.of ok.r
  have hts := tests_ok ok.tests
  have hst := days_str hO hdl ok.days
  have hss : (ds.map (strS hs ws)).length = t.dn := by rw [List.length_map, hdl]
  have hmor : ∀ i, i < t.tn → morT t ts i ≤ t.dn := fun i hi => by have := hts i hi; unfold morT; omega
  have ok' := ok.cut hk ua uc
  have hdl' : (ds.take k).length = (t.cut_ k ua (keptL t ts k t.tn).length uc).dn := by rw [List.length_take, hdl]; exact Nat.min_eq_left hk
  have hts' := tests_ok ok'.tests
  have hmor' : ∀ i, i < (t.cut_ k ua (keptL t ts k t.tn).length uc).tn → morT (t.cut_ k ua (keptL t ts k t.tn).length uc) (cutL t ts k t.tn) i ≤ (t.cut_ k ua (keptL t ts k t.tn).length uc).dn := fun i hi => by have := hts' i hi; unfold morT; omega
  have A := lev_b ok hdl
  have B := lev_b ok' hdl'
  have hsame : ∀ m, m < k → ((ds.take k).map (strS hs ws)).getD m (0, 0) = (ds.map (strS hs ws)).getD m (0, 0) := fun m hm => by simp [List.getD, List.getElem?_take_of_lt hm]
  have htk := taken_ok (t := t) (hs := hs) (ws := ws) (ds := ds) (ts := ts) hmor
  have htk' := taken_ok (t := t.cut_ k ua (keptL t ts k t.tn).length uc) (hs := hs) (ws := ws) (ds := ds.take k) (ts := cutL t ts k t.tn) hmor'
  have hg : ∀ j, j < (keptL t ts k t.tn).length → keepT t.r (cutL t ts k t.tn) j = keepT t.r ts ((keptL t ts k t.tn).getD j 0) ∧ morT (t.cut_ k ua (keptL t ts k t.tn).length uc) (cutL t ts k t.tn) j = morT t ts ((keptL t ts k t.tn).getD j 0) := fun j hj => by
    unfold keepT morT
    rw [cut_at t ts k t.tn hj]
    exact ⟨rfl, rfl⟩
  -- what is taken of the whole begins with what is taken of the part
  obtain ⟨X, hX, htaken⟩ : ∃ X, (∀ i ∈ X, k < morT t ts i) ∧ (reachT t hs ws ds ts).taken = (reachT (t.cut_ k ua (keptL t ts k t.tn).length uc) hs ws (ds.take k) (cutL t ts k t.tn)).taken.map (fun j => (keptL t ts k t.tn).getD j 0) ++ X := by
    obtain ⟨h1, -⟩ := reach_all t.r (ds.map (strS hs ws)) ts (morT t ts) (orderL ts t.tn) (t.lo, t.hi) (order_pair t ts) (k := t.dn + 1) (fun i hi => by have := hmor i (orderL_lt ts t.tn i hi); omega)
    obtain ⟨h2, -⟩ := reach_all t.r ((ds.take k).map (strS hs ws)) (cutL t ts k t.tn) (morT (t.cut_ k ua (keptL t ts k t.tn).length uc) (cutL t ts k t.tn)) (orderL (cutL t ts k t.tn) (keptL t ts k t.tn).length) (t.lo, t.hi) (order_pair (t.cut_ k ua (keptL t ts k t.tn).length uc) (cutL t ts k t.tn)) (k := k + 1) (fun i hi => by have := hmor' i (orderL_lt _ _ i hi); have : morT (t.cut_ k ua (keptL t ts k t.tn).length uc) (cutL t ts k t.tn) i ≤ k := this; omega)
    have h1' : (reachT t hs ws ds ts).taken = ((orderL ts t.tn).foldl (takeS t.r (ds.map (strS hs ws)) ts (morT t ts)) ⟨[], [], (t.lo, t.hi), 0⟩).good := h1
    have h2' : (reachT (t.cut_ k ua (keptL t ts k t.tn).length uc) hs ws (ds.take k) (cutL t ts k t.tn)).taken = ((orderL (cutL t ts k t.tn) (keptL t ts k t.tn).length).foldl (takeS t.r ((ds.take k).map (strS hs ws)) (cutL t ts k t.tn) (morT (t.cut_ k ua (keptL t ts k t.tn).length uc) (cutL t ts k t.tn))) ⟨[], [], (t.lo, t.hi), 0⟩).good := h2
    have hsp := split_sorted (P := upB t ts k) (orderL ts t.tn) ((order_Rt ts t.tn).imp fun {a b} h hb => by
      have hb' := of_decide_eq_true hb
      unfold Rt dayOf at h
      exact decide_eq_true (by omega))
    obtain ⟨X, x1, x2⟩ := take_more t.r (ds.map (strS hs ws)) ts (morT t ts) ((orderL ts t.tn).filter fun x => !upB t ts k x) (((orderL ts t.tn).filter (upB t ts k)).foldl (takeS t.r (ds.map (strS hs ws)) ts (morT t ts)) ⟨[], [], (t.lo, t.hi), 0⟩)
    have hgood := take_same t.r (ts := ts) (mor := morT t ts) (g := fun j => (keptL t ts k t.tn).getD j 0) hsame (orderL (cutL t ts k t.tn) (keptL t ts k t.tn).length) ⟨[], [], (t.lo, t.hi), 0⟩ ⟨[], [], (t.lo, t.hi), 0⟩ (fun j hj => by
      have hj' := (order_mem _ _ _).1 hj
      exact ⟨(hg j hj').1, (hg j hj').2, hmor' j hj'⟩) (order_pair (t.cut_ k ua (keptL t ts k t.tn).length uc) (cutL t ts k t.tn)) (fun j _ => Nat.zero_le _) rfl rfl rfl
    rw [cut_order] at hgood
    refine ⟨X, fun i hi => ?_, ?_⟩
    · obtain ⟨y1, y2⟩ := List.mem_filter.1 (x1 i hi)
      have y3 := orderL_lt ts t.tn i y1
      have y4 := hts i y3
      have y5 : ¬ (ts.getD i (0, 0, 0)).1 ≤ t.first + (k : Int) := of_decide_eq_false (by simpa [upB] using y2)
      unfold morT
      omega
    · rw [h1', hsp, List.foldl_append, x2, hgood, h2']
  have hkn := kn_same t.r (ts := ts) (ts' := cutL t ts k t.tn) (mor := morT t ts) (mor' := morT (t.cut_ k ua (keptL t ts k t.tn).length uc) (cutL t ts k t.tn)) (g := fun j => (keptL t ts k t.tn).getD j 0) hsame (F := (reachT (t.cut_ k ua (keptL t ts k t.tn).length uc) hs ws (ds.take k) (cutL t ts k t.tn)).taken) (fun j hj => hg j (htk' j hj).1) hX (t.lo, t.hi) (k + 1) (Nat.le_refl _)
  rw [← htaken] at hkn
  have hkt := kn_at (r := t.r) (ss := ds.map (strS hs ws)) (ts := ts) (mor := morT t ts) (F := (reachT t hs ws ds ts).taken) (p := (t.lo, t.hi))
  have hAB : ∀ j, j ≤ k → (reachT t hs ws ds ts).lev.getD j (0, 0) = (reachT (t.cut_ k ua (keptL t ts k t.tn).length uc) hs ws (ds.take k) (cutL t ts k t.tn)).lev.getD j (0, 0) := fun j hj => by
    have e1 := (hkt (t.dn + 1)).2 j (by omega)
    have e2 := (hkt (k + 1)).2 j (by omega)
    rw [← A.kn] at e1
    rw [hkn] at e2
    have e3 : (reachT (t.cut_ k ua (keptL t ts k t.tn).length uc) hs ws (ds.take k) (cutL t ts k t.tn)).lev = (knS t.r ((ds.take k).map (strS hs ws)) (cutL t ts k t.tn) (morT (t.cut_ k ua (keptL t ts k t.tn).length uc) (cutL t ts k t.tn)) (reachT (t.cut_ k ua (keptL t ts k t.tn).length uc) hs ws (ds.take k) (cutL t ts k t.tn)).taken (t.lo, t.hi) (k + 1)).1 := B.kn
    rw [e3, e2, e1]
  obtain ⟨-, -, Ac, As, Al, Ab, Av⟩ := A
  obtain ⟨-, -, Bc, -, Bl, Bb, Bv⟩ := B
  have Bl' : (levT (t.cut_ k ua (keptL t ts k t.tn).length uc) hs ws (ds.take k) (cutL t ts k t.tn)).getD k (0, 0) = (reachT (t.cut_ k ua (keptL t ts k t.tn).length uc) hs ws (ds.take k) (cutL t ts k t.tn)).lev.getD k (0, 0) := Bl
  have Bb' : ∀ m, m < k → (levT (t.cut_ k ua (keptL t ts k t.tn).length uc) hs ws (ds.take k) (cutL t ts k t.tn)).getD m (0, 0) = beforeS t.r (((ds.take k).map (strS hs ws)).getD m (0, 0)) ((reachT (t.cut_ k ua (keptL t ts k t.tn).length uc) hs ws (ds.take k) (cutL t ts k t.tn)).lev.getD m (0, 0)) ((levT (t.cut_ k ua (keptL t ts k t.tn).length uc) hs ws (ds.take k) (cutL t ts k t.tn)).getD (m + 1) (0, 0)) := Bb
  have Bv' : (levT (t.cut_ k ua (keptL t ts k t.tn).length uc) hs ws (ds.take k) (cutL t ts k t.tn)).length = k + 1 := Bv
  have Bc' := Bc k (Nat.le_refl _)
  have hnext : (∀ i, i < t.tn → morT t ts i ≤ k) → ∀ m, k ≤ m → m < t.dn → (reachT t hs ws ds ts).lev.getD (m + 1) (0, 0) = nextS t.r ((ds.map (strS hs ws)).getD m (0, 0)) ((reachT t hs ws ds ts).lev.getD m (0, 0)) := fun hall m hm1 hm2 => by
    have e1 := (hkt (t.dn + 1)).2 (m + 1) (by omega)
    have e2 := (hkt (t.dn + 1)).2 m (by omega)
    rw [show (knS t.r (ds.map (strS hs ws)) ts (morT t ts) (reachT t hs ws ds ts).taken (t.lo, t.hi) (t.dn + 1)).1 = (reachT t hs ws ds ts).lev from (lev_b ok hdl).kn.symm] at e1 e2
    rw [e1]
    have e3 : (knS t.r (ds.map (strS hs ws)) ts (morT t ts) (reachT t hs ws ds ts).taken (t.lo, t.hi) (m + 1)).2 = (reachT t hs ws ds ts).lev.getD m (0, 0) := e2.symm
    unfold mornS
    rw [morn_none t.r ts (morT t ts) (m + 1) _ _ (fun i hi => by have := hall i (htk i hi).1; omega), e3]
    unfold canS
    rw [if_pos (by omega), Nat.add_sub_cancel]
  generalize (reachT (t.cut_ k ua (keptL t ts k t.tn).length uc) hs ws (ds.take k) (cutL t ts k t.tn)).lev = LB at Bl' Bb' Bc' hAB
  generalize (reachT t hs ws ds ts).lev = LA at Ac As Al Ab hAB hnext
  generalize levT (t.cut_ k ua (keptL t ts k t.tn).length uc) hs ws (ds.take k) (cutL t ts k t.tn) = VB at Bl' Bb' Bv'
  have hcan : CanOK (VB.getD k (0, 0)) := by rw [Bl']; exact Bc'
  refine ⟨?_, hcan, fun hn => ?_⟩
  · have key : ∀ d, d ≤ k → (VB.getD (k - d) (0, 0)).1 ≤ ((levT t hs ws ds ts).getD (k - d) (0, 0)).1 ∧ ((levT t hs ws ds ts).getD (k - d) (0, 0)).2 ≤ (VB.getD (k - d) (0, 0)).2 := by
      intro d
      induction d with
      | zero =>
        intro _
        have h := As k hk
        rw [Nat.sub_zero, Bl', ← hAB k (Nat.le_refl _)]
        exact ⟨h.a.1, h.b.2⟩
      | succ d ih =>
        intro hd
        have h := ih (by omega)
        rw [show k - d = k - (d + 1) + 1 by omega] at h
        rw [Bb' _ (by omega), Ab _ (by omega), hsame _ (by omega), ← hAB _ (by omega)]
        exact before_mono _ _ _ h.1 h.2
    intro i hi
    have h := key (k - i) (by omega)
    rw [show k - (k - i) = i by omega] at h
    exact h
  · have hall : ∀ i, i < t.tn → morT t ts i ≤ k := fun i hi => by
      have h1 : ∀ x ∈ List.range t.tn, upB t ts k x = true := by
        have h2 : ((List.range t.tn).filter (upB t ts k)).length = (List.range t.tn).length := by rw [List.length_range]; exact hn
        exact List.length_filter_eq_length_iff.1 h2
      have h3 := of_decide_eq_true (h1 i (List.mem_range.2 hi))
      have h4 := hts i hi
      unfold morT
      omega
    have hV : ∀ d, d ≤ t.dn - k → (levT t hs ws ds ts).getD (t.dn - d) (0, 0) = LA.getD (t.dn - d) (0, 0) := by
      intro d
      induction d with
      | zero => intro _; exact Al
      | succ d ih =>
        intro hd
        have h := ih (by omega)
        rw [show t.dn - d = t.dn - (d + 1) + 1 by omega] at h
        rw [Ab _ (by omega), h, hnext hall _ (by omega) (by omega)]
        exact before_self hO (hst _ (getD_lt (by omega))) (Ac _ (by omega))
    have hVk : ∀ m, k ≤ m → m ≤ t.dn → (levT t hs ws ds ts).getD m (0, 0) = LA.getD m (0, 0) := fun m h1 h2 => by
      have h := hV (t.dn - m) (by omega)
      rw [show t.dn - (t.dn - m) = m by omega] at h
      exact h
    have hEq : ∀ d, d ≤ k → VB.getD (k - d) (0, 0) = (levT t hs ws ds ts).getD (k - d) (0, 0) := by
      intro d
      induction d with
      | zero => intro _; rw [Nat.sub_zero, Bl', ← hAB k (Nat.le_refl _), hVk k (Nat.le_refl _) hk]
      | succ d ih =>
        intro hd
        have h := ih (by omega)
        rw [show k - d = k - (d + 1) + 1 by omega] at h
        rw [Bb' _ (by omega), Ab _ (by omega), hsame _ (by omega), ← hAB _ (by omega), h]
    refine ⟨list_ext (by rw [Bv', List.length_take, Av]; omega) fun i hi => ?_, ?_⟩
    · have h := hEq (k - i) (by omega)
      rw [show k - (k - i) = i by omega] at h
      rw [h]
      simp [List.getD, List.getElem?_take_of_lt (show i < k + 1 by omega)]
    · have okr := ok.rest hk hcan
      have hdlr : (ds.drop k).length = (t.rest_ k (VB.getD k (0, 0)).1 (VB.getD k (0, 0)).2).dn := by rw [List.length_drop, hdl]
      have hbl := bare_lev okr.zero hdlr rfl
      have hlen : (levT (t.rest_ k (VB.getD k (0, 0)).1 (VB.getD k (0, 0)).2) hs ws (ds.drop k) []).length = t.dn - k + 1 := levT_len okr.zero hdlr
      refine list_ext (by rw [hlen, List.length_drop, Av]; omega) fun j hj => ?_
      rw [hlen] at hj
      rw [hbl j (by show j ≤ t.dn - k; omega)]
      have e1 : ((levT t hs ws ds ts).drop k).getD j (0, 0) = (levT t hs ws ds ts).getD (k + j) (0, 0) := by simp [List.getD]
      rw [e1, hVk (k + j) (by omega) (by omega)]
      have e2 : VB.getD k (0, 0) = LA.getD k (0, 0) := by rw [Bl', ← hAB k (Nat.le_refl _)]
      have e3 : ∀ i, k + i ≤ t.dn → LA.getD (k + i) (0, 0) = onS t.r (ds.map (strS hs ws)) (LA.getD k (0, 0)) k (k + i) := by
        intro i
        induction i with
        | zero => intro _; rw [Nat.add_zero, onS_self]
        | succ i ih =>
          intro hi
          rw [← Nat.add_assoc, hnext hall _ (by omega) (by omega), onS_step _ _ _ (Nat.le_add_right k i), ih (by omega)]
      rw [e3 j (by omega), ← onS_drop, ← e2]
      rw [List.map_drop]
end Go.Proofs.Ytanjkhclhcnnaaa

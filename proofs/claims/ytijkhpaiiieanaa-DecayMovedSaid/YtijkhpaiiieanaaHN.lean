/- A task without one of its tests: what DecayFewer says of it. -/
import Derived.Test.YtijkhpaiiieanaaHM
namespace Go.Proofs.Ytijkhpaiiieanaa
open Go.RowKit Go.Shelf

abbrev TkA.few_ (t : TkA) (ua : Option Addr) (uc : Nat) : TkA := ⟨t.r, t.first, t.da, t.dn, t.dc, t.lo, t.hi, ua, t.tn - 1, uc⟩
theorem TaskOK.few {t : TkA} {hs ws : List T2} {ds : List T4} {ts : List T3} (ok : TaskOK t hs ws ds ts) (hl : ts.length = t.tn) {k : Nat} (hk : k < t.tn) (ua : Option Addr) (uc : Nat) : TaskOK (t.few_ ua uc) hs ws ds (fewL ts k) := by
  have h2 := ok.tn
  refine ⟨ok.r, ok.dn, by show t.tn - 1 ≤ 20; omega, ok.first, ok.days, ok.start, ?_⟩
  refine firstE_all.2 fun j hj => ?_
  have hj' : j < t.tn - 1 := hj
  rw [few_at hl hk]
  have h3 := firstE_all.1 ok.tests (skipN k j) (by unfold skipN; split <;> omega)
  exact h3
theorem take_day (r : RuA) (ss : List T2) (ts : List T3) (mor : Nat → Nat) {m : Nat} : ∀ (O : List Nat) (S : TS), (∀ i ∈ O, mor i ≤ m) → S.day ≤ m → (O.foldl (takeS r ss ts mor) S).day ≤ m
  | [], _, _, h => h
  | i :: O, S, hO, h => by
    rw [List.foldl_cons]
    refine take_day r ss ts mor O _ (fun j hj => hO j (by simp [hj])) ?_
    have h1 := hO i (by simp)
    unfold takeS
    split <;> exact h1
theorem few_all {t : TkA} {hs ws : List T2} {ds : List T4} {ts : List T3} (ok : TaskOK t hs ws ds ts) (hdl : ds.length = t.dn) (hl : ts.length = t.tn) {k : Nat} (hk : k < t.tn) (ua : Option Addr) (uc : Nat) :
    (strkB (reachT t hs ws ds ts).struck k = true → levT (t.few_ ua uc) hs ws ds (fewL ts k) = levT t hs ws ds ts ∧ (reachT t hs ws ds ts).struck.length = (reachT (t.few_ ua uc) hs ws ds (fewL ts k)).struck.length + 1) ∧
    ((reachT t hs ws ds ts).struck = [] → (reachT (t.few_ ua uc) hs ws ds (fewL ts k)).struck = [] ∧ ∀ i, i ≤ t.dn → Sub ((levT t hs ws ds ts).getD i (0, 0)) ((levT (t.few_ ua uc) hs ws ds (fewL ts k)).getD i (0, 0))) := by
  have hO := RuOK.of ok.r
  have hts := tests_ok ok.tests
  have hst := days_str hO hdl ok.days
  have hss : (ds.map (strS hs ws)).length = t.dn := by rw [List.length_map, hdl]
  have hmor : ∀ i, i < t.tn → morT t ts i ≤ t.dn := fun i hi => by have := hts i hi; unfold morT; omega
  have ok' := ok.few hl hk ua uc
  have hts' := tests_ok ok'.tests
  have hmor' : ∀ i, i < (t.few_ ua uc).tn → morT (t.few_ ua uc) (fewL ts k) i ≤ (t.few_ ua uc).dn := fun i hi => by have := hts' i hi; unfold morT; omega
  have A := lev_b ok hdl
  have B := lev_b ok' hdl
  have htk := taken_ok (t := t) (hs := hs) (ws := ws) (ds := ds) (ts := ts) hmor
  have htk' := taken_ok (t := t.few_ ua uc) (hs := hs) (ws := ws) (ds := ds) (ts := fewL ts k) hmor'
  have hg : ∀ j, keepT t.r (fewL ts k) j = keepT t.r ts (skipN k j) ∧ morT (t.few_ ua uc) (fewL ts k) j = morT t ts (skipN k j) := fun j => by
    unfold keepT morT
    rw [few_at hl hk]
    exact ⟨rfl, rfl⟩
  obtain ⟨h1, h1s⟩ := reach_all t.r (ds.map (strS hs ws)) ts (morT t ts) (orderL ts t.tn) (t.lo, t.hi) (order_pair t ts) (k := t.dn + 1) (fun i hi => by have := hmor i (orderL_lt ts t.tn i hi); omega)
  obtain ⟨h2, h2s⟩ := reach_all t.r (ds.map (strS hs ws)) (fewL ts k) (morT (t.few_ ua uc) (fewL ts k)) (orderL (fewL ts k) (t.tn - 1)) (t.lo, t.hi) (order_pair (t.few_ ua uc) (fewL ts k)) (k := t.dn + 1) (fun i hi => by have := hmor' i (orderL_lt _ _ i hi); have : morT (t.few_ ua uc) (fewL ts k) i ≤ t.dn := this; omega)
  have h1' : (reachT t hs ws ds ts).taken = ((orderL ts t.tn).foldl (takeS t.r (ds.map (strS hs ws)) ts (morT t ts)) ⟨[], [], (t.lo, t.hi), 0⟩).good := h1
  have h1s' : (reachT t hs ws ds ts).struck = ((orderL ts t.tn).foldl (takeS t.r (ds.map (strS hs ws)) ts (morT t ts)) ⟨[], [], (t.lo, t.hi), 0⟩).struck := h1s
  have h2' : (reachT (t.few_ ua uc) hs ws ds (fewL ts k)).taken = ((orderL (fewL ts k) (t.tn - 1)).foldl (takeS t.r (ds.map (strS hs ws)) (fewL ts k) (morT (t.few_ ua uc) (fewL ts k))) ⟨[], [], (t.lo, t.hi), 0⟩).good := h2
  have h2s' : (reachT (t.few_ ua uc) hs ws ds (fewL ts k)).struck = ((orderL (fewL ts k) (t.tn - 1)).foldl (takeS t.r (ds.map (strS hs ws)) (fewL ts k) (morT (t.few_ ua uc) (fewL ts k))) ⟨[], [], (t.lo, t.hi), 0⟩).struck := h2s
  clear h1 h1s h2 h2s
  obtain ⟨LA, LB, LA', LB', o1, o2, o3, o4, o5, o6⟩ := order_parts hl hk
  have hp := order_pair t ts
  have hp' := order_pair (t.few_ ua uc) (fewL ts k)
  have hp'' : (orderL (fewL ts k) (t.tn - 1)).Pairwise (fun a b => morT (t.few_ ua uc) (fewL ts k) a ≤ morT (t.few_ ua uc) (fewL ts k) b) := hp'
  rw [o1, List.pairwise_append] at hp
  rw [o2, List.pairwise_append] at hp''
  obtain ⟨-, hpk, hpA⟩ := hp
  obtain ⟨hpA', hpB', -⟩ := hp''
  obtain ⟨hpk, -⟩ := List.pairwise_cons.1 hpk
  have hmem : ∀ i ∈ LA, i < t.tn := fun i hi => orderL_lt ts t.tn i (by rw [o1]; simp [hi])
  have hday : ∀ S : TS, S.day ≤ morT t ts k → (LA.foldl (takeS t.r (ds.map (strS hs ws)) ts (morT t ts)) S).day ≤ morT t ts k := fun S hS => take_day _ _ _ _ LA S (fun i hi => hpA i hi k (by simp)) hS
  have hBday : ∀ j ∈ LB', morT t ts k ≤ morT (t.few_ ua uc) (fewL ts k) j := fun j hj => by
    rw [(hg j).2]
    exact hpk _ (by rw [← o4]; exact List.mem_map_of_mem hj)
  rw [o1, List.foldl_append, List.foldl_cons] at h1' h1s'
  rw [o2, List.foldl_append] at h2' h2s'
  refine ⟨fun hk1 => ?_, fun hk1 => ?_⟩
  · have RA := take_rel t.r (ss := ds.map (strS hs ws)) (ts := ts) (ts' := fewL ts k) (mor := morT t ts) (mor' := morT (t.few_ ua uc) (fewL ts k)) (g := skipN k) (c := 0) LA' ⟨[], [], (t.lo, t.hi), 0⟩ ⟨[], [], (t.lo, t.hi), 0⟩ (fun j _ => hg j) hpA' (fun j _ => Nat.zero_le _) ⟨rfl, Nat.le_refl _, (onS_self _ _ _ _).symm, rfl⟩
    rw [o3] at RA
    have hd := hday ⟨[], [], (t.lo, t.hi), 0⟩ (Nat.zero_le _)
    generalize LA.foldl (takeS t.r (ds.map (strS hs ws)) ts (morT t ts)) ⟨[], [], (t.lo, t.hi), 0⟩ = S at RA hd h1' h1s'
    generalize LA'.foldl (takeS t.r (ds.map (strS hs ws)) (fewL ts k) (morT (t.few_ ua uc) (fewL ts k))) ⟨[], [], (t.lo, t.hi), 0⟩ = S' at RA h2' h2s'
    have hstep : takeS t.r (ds.map (strS hs ws)) ts (morT t ts) S k = ⟨S.good, S.struck ++ [((k : Int), lastBy t.r (ds.map (strS hs ws)) ts (morT t ts) k S.good)], onS t.r (ds.map (strS hs ws)) S.now S.day (morT t ts k), morT t ts k⟩ := by
      by_cases hc : (joinS (onS t.r (ds.map (strS hs ws)) S.now S.day (morT t ts k)) (keepT t.r ts k)).1 ≤ (joinS (onS t.r (ds.map (strS hs ws)) S.now S.day (morT t ts k)) (keepT t.r ts k)).2
      · have hin : k ∈ (reachT t hs ws ds ts).taken := by
          obtain ⟨X, -, hX⟩ := take_more t.r (ds.map (strS hs ws)) ts (morT t ts) LB (takeS t.r (ds.map (strS hs ws)) ts (morT t ts) S k)
          rw [h1', hX]
          unfold takeS
          rw [if_pos hc]
          simp
        have := (htk k hin).2
        rw [hk1] at this; cases this
      · unfold takeS
        rw [if_neg hc]
    rw [hstep] at h1' h1s'
    have RB := take_rel t.r (ss := ds.map (strS hs ws)) (ts := ts) (ts' := fewL ts k) (mor := morT t ts) (mor' := morT (t.few_ ua uc) (fewL ts k)) (g := skipN k) (c := 1) LB' ⟨S.good, S.struck ++ [((k : Int), lastBy t.r (ds.map (strS hs ws)) ts (morT t ts) k S.good)], onS t.r (ds.map (strS hs ws)) S.now S.day (morT t ts k), morT t ts k⟩ S' (fun j _ => hg j) hpB' hBday
      ⟨RA.good, Nat.le_trans RA.day hd, by simp only; rw [RA.now, onS_trans _ _ _ RA.day hd], by simp [RA.len]⟩
    rw [o4] at RB
    have ht : (reachT t hs ws ds ts).taken = (reachT (t.few_ ua uc) hs ws ds (fewL ts k)).taken.map (skipN k) := by rw [h1', h2']; exact RB.good
    have hs' : (reachT t hs ws ds ts).struck.length = (reachT (t.few_ ua uc) hs ws ds (fewL ts k)).struck.length + 1 := by rw [h1s', h2s']; exact RB.len
    refine ⟨?_, hs'⟩
    have hkn := kn_same t.r (ss := ds.map (strS hs ws)) (ss' := ds.map (strS hs ws)) (ts := ts) (ts' := fewL ts k) (mor := morT t ts) (mor' := morT (t.few_ ua uc) (fewL ts k)) (g := skipN k) (k := t.dn) (fun _ _ => rfl) (F := (reachT (t.few_ ua uc) hs ws ds (fewL ts k)).taken) (X := []) (fun j _ => hg j) (fun i hi => by cases hi) (t.lo, t.hi) (t.dn + 1) (Nat.le_refl _)
    rw [List.append_nil, ← ht] at hkn
    have e1 := A.kn
    have e2 : (reachT (t.few_ ua uc) hs ws ds (fewL ts k)).lev = (knS t.r (ds.map (strS hs ws)) (fewL ts k) (morT (t.few_ ua uc) (fewL ts k)) (reachT (t.few_ ua uc) hs ws ds (fewL ts k)).taken (t.lo, t.hi) (t.dn + 1)).1 := B.kn
    rw [← hkn, ← e1] at e2
    unfold levT
    rw [e2]
  · rw [hk1] at h1s'
    have hnA : (LA.foldl (takeS t.r (ds.map (strS hs ws)) ts (morT t ts)) ⟨[], [], (t.lo, t.hi), 0⟩).struck = [] := by
      obtain ⟨X, hX⟩ := strk_more t.r (ds.map (strS hs ws)) ts (morT t ts) (k :: LB) (LA.foldl (takeS t.r (ds.map (strS hs ws)) ts (morT t ts)) ⟨[], [], (t.lo, t.hi), 0⟩)
      rw [List.foldl_cons, ← h1s'] at hX
      exact (List.append_eq_nil_iff.1 hX.symm).1
    have hne : ∀ j, skipN k j ≠ k := fun j => by unfold skipN; split <;> omega
    have hlt : ∀ j ∈ LA', morT (t.few_ ua uc) (fewL ts k) j ≤ t.dn := fun j hj => hmor' j (orderL_lt _ _ j (by rw [o2]; simp [hj]))
    have hltB : ∀ j ∈ LB', morT (t.few_ ua uc) (fewL ts k) j ≤ t.dn := fun j hj => hmor' j (orderL_lt _ _ j (by rw [o2]; simp [hj]))
    have WA := take_wide t.r (ss := ds.map (strS hs ws)) (ts := ts) (ts' := fewL ts k) (mor := morT t ts) (mor' := morT (t.few_ ua uc) (fewL ts k)) (g := skipN k) (k := k) hO.feed.1 hst hss LA' ⟨[], [], (t.lo, t.hi), 0⟩ ⟨[], [], (t.lo, t.hi), 0⟩ (fun j hj => ⟨(hg j).1, (hg j).2, hlt j hj, hne j⟩) hpA' (fun j _ => Nat.zero_le _) (by rw [o3]; exact hnA) ⟨rfl, Nat.le_refl _, by rw [onS_self]; exact Sub.refl _, rfl⟩
    rw [o3] at WA
    have hd := hday ⟨[], [], (t.lo, t.hi), 0⟩ (Nat.zero_le _)
    generalize LA.foldl (takeS t.r (ds.map (strS hs ws)) ts (morT t ts)) ⟨[], [], (t.lo, t.hi), 0⟩ = S at WA hd h1' h1s' hnA
    generalize LA'.foldl (takeS t.r (ds.map (strS hs ws)) (fewL ts k) (morT (t.few_ ua uc) (fewL ts k))) ⟨[], [], (t.lo, t.hi), 0⟩ = S' at WA h2' h2s'
    have hc := step_taken (r := t.r) (ss := ds.map (strS hs ws)) (ts := ts) (mor := morT t ts) (O := LB) (S := S) (i := k) (by rw [List.foldl_cons]; exact h1s'.symm)
    have hstep : takeS t.r (ds.map (strS hs ws)) ts (morT t ts) S k = ⟨S.good ++ [k], S.struck, joinS (onS t.r (ds.map (strS hs ws)) S.now S.day (morT t ts k)) (keepT t.r ts k), morT t ts k⟩ := by
      unfold takeS
      rw [if_pos hc]
    rw [hstep] at h1' h1s'
    have hmk := hmor k hk
    have hsub : Sub (onS t.r (ds.map (strS hs ws)) S.now S.day (morT t ts k)) (onS t.r (ds.map (strS hs ws)) S'.now S'.day (morT t ts k)) := by
      have h := Sub.on hO.feed.1 hst WA.now S.day (morT t ts k - S.day) (by omega)
      rw [show S.day + (morT t ts k - S.day) = morT t ts k by omega, onS_trans _ _ _ WA.day hd] at h
      exact h
    have WB := take_wide t.r (ss := ds.map (strS hs ws)) (ts := ts) (ts' := fewL ts k) (mor := morT t ts) (mor' := morT (t.few_ ua uc) (fewL ts k)) (g := skipN k) (k := k) hO.feed.1 hst hss LB' ⟨S.good ++ [k], S.struck, joinS (onS t.r (ds.map (strS hs ws)) S.now S.day (morT t ts k)) (keepT t.r ts k), morT t ts k⟩ S' (fun j hj => ⟨(hg j).1, (hg j).2, hltB j hj, hne j⟩) hpB' hBday (by rw [o4]; exact h1s'.symm)
      ⟨by simp only; rw [List.filter_append, WA.good, List.filter_cons_of_neg (by simp)]; simp, Nat.le_trans WA.day hd, (join_sub _ _).trans hsub, WA.none⟩
    rw [o4] at WB
    have hsu : (reachT (t.few_ ua uc) hs ws ds (fewL ts k)).struck = [] := by rw [h2s']; exact WB.none
    refine ⟨hsu, ?_⟩
    have hgood : (reachT t hs ws ds ts).taken.filter (fun x => x != k) = (reachT (t.few_ ua uc) hs ws ds (fewL ts k)).taken.map (skipN k) := by rw [h1', h2']; exact WB.good
    have hkw := kn_wide t.r (ss := ds.map (strS hs ws)) (ts := ts) (ts' := fewL ts k) (mor := morT t ts) (mor' := morT (t.few_ ua uc) (fewL ts k)) (g := skipN k) (k := k) hO.feed.1 hst hss (fun j _ => hg j) hgood (t.lo, t.hi)
    have hLs : ∀ j, j ≤ t.dn → Sub ((reachT t hs ws ds ts).lev.getD j (0, 0)) ((reachT (t.few_ ua uc) hs ws ds (fewL ts k)).lev.getD j (0, 0)) := fun j hj => by
      have e1 := (kn_at (r := t.r) (ss := ds.map (strS hs ws)) (ts := ts) (mor := morT t ts) (F := (reachT t hs ws ds ts).taken) (p := (t.lo, t.hi)) (t.dn + 1)).2 j (by omega)
      have e2 := (kn_at (r := t.r) (ss := ds.map (strS hs ws)) (ts := fewL ts k) (mor := morT (t.few_ ua uc) (fewL ts k)) (F := (reachT (t.few_ ua uc) hs ws ds (fewL ts k)).taken) (p := (t.lo, t.hi)) (t.dn + 1)).2 j (by omega)
      have e3 : (reachT (t.few_ ua uc) hs ws ds (fewL ts k)).lev = (knS t.r (ds.map (strS hs ws)) (fewL ts k) (morT (t.few_ ua uc) (fewL ts k)) (reachT (t.few_ ua uc) hs ws ds (fewL ts k)).taken (t.lo, t.hi) (t.dn + 1)).1 := B.kn
      rw [← A.kn] at e1
      rw [← e3] at e2
      rw [e1, e2]
      exact (hkw j (by omega)).2 hj
    obtain ⟨J1, J2, -, -⟩ := lev_just (ts := ts) ok.zero hdl
    have Bl : (levT (t.few_ ua uc) hs ws ds (fewL ts k)).getD t.dn (0, 0) = (reachT (t.few_ ua uc) hs ws ds (fewL ts k)).lev.getD t.dn (0, 0) := B.last
    have Bb : ∀ m, m < t.dn → (levT (t.few_ ua uc) hs ws ds (fewL ts k)).getD m (0, 0) = beforeS t.r ((ds.map (strS hs ws)).getD m (0, 0)) ((reachT (t.few_ ua uc) hs ws ds (fewL ts k)).lev.getD m (0, 0)) ((levT (t.few_ ua uc) hs ws ds (fewL ts k)).getD (m + 1) (0, 0)) := B.back
    have key : ∀ d, d ≤ t.dn → Sub ((levT t hs ws ds ts).getD (t.dn - d) (0, 0)) ((levT (t.few_ ua uc) hs ws ds (fewL ts k)).getD (t.dn - d) (0, 0)) := by
      intro d
      induction d with
      | zero =>
        intro _
        rw [Nat.sub_zero, A.last, Bl]
        exact hLs t.dn (Nat.le_refl _)
      | succ d ih =>
        intro hdd
        have h := ih (by omega)
        rw [show t.dn - d = t.dn - (d + 1) + 1 by omega] at h
        have hJ := J1 (t.dn - (d + 1)) (by omega)
        have hb := J2 (t.dn - (d + 1)) (by omega)
        have hx := J2 (t.dn - (d + 1) + 1) (by omega)
        have hin := A.sub (t.dn - (d + 1)) (by omega)
        have hls := hLs (t.dn - (d + 1)) (by omega)
        have hs1 := hst _ (getD_lt (L := ds.map (strS hs ws)) (i := t.dn - (d + 1)) (by omega))
        rw [Bb _ (by omega)]
        generalize (levT t hs ws ds ts).getD (t.dn - (d + 1)) (0, 0) = b at hJ hb hin
        generalize (levT t hs ws ds ts).getD (t.dn - (d + 1) + 1) (0, 0) = x at h hJ hx
        generalize (levT (t.few_ ua uc) hs ws ds (fewL ts k)).getD (t.dn - (d + 1) + 1) (0, 0) = y at h
        generalize (reachT t hs ws ds ts).lev.getD (t.dn - (d + 1)) (0, 0) = n at hin hls
        generalize (reachT (t.few_ ua uc) hs ws ds (fewL ts k)).lev.getD (t.dn - (d + 1)) (0, 0) = n' at hls
        generalize (ds.map (strS hs ws)).getD (t.dn - (d + 1)) (0, 0) = s at hJ hs1
        have each : ∀ a, b.1 ≤ a → a ≤ b.2 → InP a n → InP a (beforeS t.r s n' y) := fun a ha1 ha2 han => by
          obtain ⟨f1, f2⟩ := hJ.fol a ha1 ha2
          have f3 := least_le_most hO hs1 (n := a) (by omega)
          refine before_mem (b := max x.1 (leastS t.r s.1 a)) hO.feed.1 hs1.lo ⟨Int.le_trans hls.1 han.1, Int.le_trans han.2 hls.2⟩ ⟨by have := h.1; omega, by have := h.2; have := hx.2.1; omega⟩ ⟨?_, ?_⟩
          · show leastS t.r s.1 a ≤ _; omega
          · show _ ≤ mostS t.r s.2 a; omega
        obtain ⟨⟨g1, g2⟩, g3, g4⟩ := hin
        have r1 := each b.1 (Int.le_refl _) hJ.le ⟨g1, g2⟩
        have r2 := each b.2 hJ.le (Int.le_refl _) ⟨g3, g4⟩
        exact ⟨r1.1, r2.2⟩
    intro i hi
    have h := key (t.dn - i) (by omega)
    rw [show t.dn - (t.dn - i) = i by omega] at h
    exact h
end Go.Proofs.Ytijkhpaiiieanaa

/- Tests made true of a course: the mathematics of DecayNever; rows of tests. -/
import Derived.Test.YtanjkhclhcnnaaaEF
import Derived.Test.YtanjkhclhcnnaaaEB
namespace Go.Proofs.Ytanjkhclhcnnaaa
open Go.RowKit Go.Shelf

/-- Tests as cells. -/
def flat3 (l : List T3) : List Value := l.flatMap fun x => [.int .i64 x.1, .int .i64 x.2.1, .int .i64 x.2.2]
theorem flat3_len : ∀ l : List T3, (flat3 l).length = l.length * 3
  | [] => rfl
  | x :: l => by have := flat3_len l; simp [flat3] at this ⊢; omega
theorem flat3_snoc (l : List T3) (x : T3) : flat3 (l ++ [x]) = flat3 l ++ [.int .i64 x.1, .int .i64 x.2.1, .int .i64 x.2.2] := by simp [flat3]
theorem flat3_at : ∀ (l : List T3) (i : Nat), i < l.length → (flat3 l)[i * 3]? = some (.int .i64 (l.getD i (0, 0, 0)).1) ∧ (flat3 l)[i * 3 + 1]? = some (.int .i64 (l.getD i (0, 0, 0)).2.1) ∧ (flat3 l)[i * 3 + 2]? = some (.int .i64 (l.getD i (0, 0, 0)).2.2)
  | [], i, h => by cases h
  | x :: l, 0, _ => ⟨rfl, rfl, rfl⟩
  | x :: l, i + 1, h => by
    have e : flat3 (x :: l) = [.int .i64 x.1, .int .i64 x.2.1, .int .i64 x.2.2] ++ flat3 l := rfl
    have ih := flat3_at l i (by simpa using h)
    rw [e, show (i + 1) * 3 = 3 + i * 3 by omega, show 3 + i * 3 + 1 = 3 + (i * 3 + 1) by omega, show 3 + i * 3 + 2 = 3 + (i * 3 + 2) by omega]
    rw [List.getElem?_append_right (by simp), List.getElem?_append_right (by simp), List.getElem?_append_right (by simp)]
    simpa using ih
theorem sl3_row {W : World} {B : Nat} {t : TypeId} {v : Value} {L : List T3} {n : Nat} (h : W.ownsRow B t 3 v n (flat3 L)) : ∃ a c, v = .slice a n c ∧ Sl3 W a n L ∧ n = L.length := by
  have hn : n = L.length := by have := h.1; rw [flat3_len] at this; omega
  rcases h.2 with ⟨rfl, rfl⟩ | ⟨g, cap, cur, rfl, hb, hg, hc1, hc2, hs, ht⟩
  · exact ⟨none, 0, rfl, ⟨hn.symm, fun h => absurd h (Nat.lt_irrefl 0)⟩, hn⟩
  · refine ⟨_, cap, rfl, ⟨hn.symm, fun _ => ⟨g, 0, rfl, (Array.getElem?_eq_some_iff.1 hg).1, fun i hi => ?_⟩⟩, hn⟩
    obtain ⟨x0, x1, x2⟩ := flat3_at L i (by omega)
    have key : ∀ j, j < n * 3 → W.cell? ⟨g, j, none⟩ = (flat3 L)[j]? := fun j hj => by
      rw [← ht, List.getElem?_take, if_pos hj]
      simp [World.cell?, hg]
    rw [show 0 + i * 3 = i * 3 by omega]
    exact ⟨(key _ (by omega)).trans x0, (key _ (by omega)).trans x1, (key _ (by omega)).trans x2⟩

/-- The grade of a test made true, wrong by at most its error, in turn. -/
def gradeN (gl e : Int) (i : Nat) : Int := min 3 (max 0 (gl + e * ((i % 3 : Nat) - 1)))
theorem gradeN_ok {gl e : Int} (h : 0 ≤ gl ∧ gl ≤ 3) (he : 0 ≤ e ∧ e ≤ 3) (i : Nat) : (0 ≤ gradeN gl e i ∧ gradeN gl e i ≤ 3) ∧ gl - gradeN gl e i ≤ e ∧ gradeN gl e i - gl ≤ e := by
  unfold gradeN
  have h3 : i % 3 = 0 ∨ i % 3 = 1 ∨ i % 3 = 2 := by omega
  rcases h3 with h3 | h3 | h3 <;> rw [h3] <;> omega
/-- The tests, made true of a course. -/
def trueT (t : TkA) (ts : List T3) (c : Nat → Int) (k : Nat) : List T3 := (List.range k).map fun i => ((ts.getD i (0, 0, 0)).1, gradeN (gradeL t.r (c (morT t ts i)) : Nat) (ts.getD i (0, 0, 0)).2.2 i, (ts.getD i (0, 0, 0)).2.2)
theorem trueT_snoc (t : TkA) (ts : List T3) (c : Nat → Int) (k : Nat) : trueT t ts c (k + 1) = trueT t ts c k ++ [((ts.getD k (0, 0, 0)).1, gradeN (gradeL t.r (c (morT t ts k)) : Nat) (ts.getD k (0, 0, 0)).2.2 k, (ts.getD k (0, 0, 0)).2.2)] := by
  unfold trueT
  rw [List.range_succ, List.map_append]
  rfl
theorem trueT_len (t : TkA) (ts : List T3) (c : Nat → Int) (k : Nat) : (trueT t ts c k).length = k := by simp [trueT]
theorem trueT_at (t : TkA) (ts : List T3) (c : Nat → Int) {k i : Nat} (h : i < k) : (trueT t ts c k).getD i (0, 0, 0) = ((ts.getD i (0, 0, 0)).1, gradeN (gradeL t.r (c (morT t ts i)) : Nat) (ts.getD i (0, 0, 0)).2.2 i, (ts.getD i (0, 0, 0)).2.2) := by simp [trueT, List.getD, h]
theorem gradeL_bd (r : RuA) (n : Int) : 0 ≤ ((gradeL r n : Nat) : Int) ∧ ((gradeL r n : Nat) : Int) ≤ 3 := by
  unfold gradeL
  split <;> (try split) <;> (try split) <;> omega
/-- A task with other tests. -/
abbrev TkA.with_ (t : TkA) (ua : Option Addr) (un uc : Nat) : TkA := { t with ta := ua, tn := un, tc := uc }
theorem true_task {t : TkA} {hs ws : List T2} {ds : List T4} {ts : List T3} (he : (taskS t hs ws ds ts).2.2 = 0) (c : Nat → Int) (ua : Option Addr) (uc : Nat) : (taskS (t.with_ ua t.tn uc) hs ws ds (trueT t ts c t.tn)).2.2 = 0 := by
  have ok := TaskOK.of he
  have hts := tests_ok ok.tests
  have h1 : (testsE t.first t.dn (trueT t ts c t.tn) t.tn).2 = 0 := firstE_all.2 fun i hi => by
    rw [trueT_at t ts c hi]
    obtain ⟨x1, x2, x3⟩ := hts i hi
    have h2 := (gradeN_ok (gradeL_bd t.r (c (morT t ts i))) x3 i).1
    unfold testE
    rw [if_pos]
    rw [Bool.and_eq_true, Bool.and_eq_true, inB_iff, inB_iff, inB_iff]
    exact ⟨⟨x1, h2⟩, x3⟩
  unfold taskS
  rw [if_neg (by simpa using ok.r), if_neg (by have := ok.dn; have := ok.tn; simp only; omega), if_pos (inB_iff.2 ok.first), if_neg (by simpa using ok.days), if_neg (by simpa using ok.start), if_neg (by simpa using h1)]
/-- Levels on a later morning have the course. -/
theorem on_crs {r : RuA} {ss : List T2} {N : Nat} {p : T2} {c : Nat → Int} (hf : 0 ≤ r.feed) (hss : ss.length = N) (hst : ∀ s ∈ ss, StrOK s) (hc : Crs r ss N p c) {q : T2} {a : Nat} (h : InP (c a) q) : ∀ d, a + d ≤ N → InP (c (a + d)) (onS r ss q a (a + d))
  | 0, _ => by rw [Nat.add_zero, onS_self]; exact h
  | d + 1, hd => by
    have ih := on_crs hf hss hst hc h d (by omega)
    rw [show a + (d + 1) = a + d + 1 by omega, onS_step r ss q (show a ≤ a + d by omega)]
    exact ih.next hf (hst _ (getD_lt (by omega))) (hc.next (a + d) (by omega))
/-- If a course keeps to all tests, none is struck. -/
theorem none_struck {t : TkA} {hs ws : List T2} {ds : List T4} {ts : List T3} {c : Nat → Int} (he : (taskS t hs ws ds ts).2.2 = 0) (hdl : ds.length = t.dn) (hc : Crs t.r (ds.map (strS hs ws)) t.dn (t.lo, t.hi) c) (hk : ∀ i, i < t.tn → InP (c (morT t ts i)) (keepT t.r ts i)) : (reachT t hs ws ds ts).struck = [] ∧ ∀ j, j ≤ t.dn → InP (c j) ((levT t hs ws ds ts).getD j (0, 0)) := by
  have ok := TaskOK.of he
  have hO := RuOK.of ok.r
  have hst := days_str hO hdl ok.days
  have hss : (ds.map (strS hs ws)).length = t.dn := by rw [List.length_map, hdl]
  have hts := tests_ok ok.tests
  have hmor : ∀ i, i < t.tn → morT t ts i ≤ t.dn := fun i hi => by have := hts i hi; unfold morT; omega
  obtain ⟨-, h2⟩ := reach_all t.r (ds.map (strS hs ws)) ts (morT t ts) (orderL ts t.tn) (t.lo, t.hi) (order_pair t ts) (k := t.dn + 1) (fun i hi => by have := hmor i (orderL_lt ts t.tn i hi); omega)
  have h2' : (reachT t hs ws ds ts).struck = (takeF t hs ws ds ts t.tn).struck := by rw [takeF_whole]; exact h2
  have hl := orderL_len ts t.tn
  have hup := List.pairwise_iff_getElem.1 (order_pair t ts)
  have key : ∀ k, k ≤ t.tn → (takeF t hs ws ds ts k).struck = [] ∧ InP (c (takeF t hs ws ds ts k).day) (takeF t hs ws ds ts k).now ∧ (takeF t hs ws ds ts k).day ≤ t.dn ∧ ∀ a, k ≤ a → a < t.tn → (takeF t hs ws ds ts k).day ≤ morT t ts ((orderL ts t.tn).getD a 0) := by
    intro k
    induction k with
    | zero => exact fun _ => ⟨rfl, hc.at0, Nat.zero_le _, fun a _ _ => Nat.zero_le _⟩
    | succ k ih =>
      intro hk'
      obtain ⟨i1, i2, i3, i4⟩ := ih (by omega)
      have hlt : (orderL ts t.tn).getD k 0 < t.tn := getD_mem_lt (orderL_lt ts t.tn) (by omega)
      have hm := hmor _ hlt
      have hd := i4 k (Nat.le_refl _) (by omega)
      have hn := on_crs hO.feed.1 hss hst hc i2 (morT t ts ((orderL ts t.tn).getD k 0) - (takeF t hs ws ds ts k).day) (by omega)
      rw [show (takeF t hs ws ds ts k).day + (morT t ts ((orderL ts t.tn).getD k 0) - (takeF t hs ws ds ts k).day) = morT t ts ((orderL ts t.tn).getD k 0) by omega] at hn
      have hj := hn.join (hk _ hlt)
      have hle : (joinS (onS t.r (ds.map (strS hs ws)) (takeF t hs ws ds ts k).now (takeF t hs ws ds ts k).day (morT t ts ((orderL ts t.tn).getD k 0))) (keepT t.r ts ((orderL ts t.tn).getD k 0))).1 ≤ (joinS (onS t.r (ds.map (strS hs ws)) (takeF t hs ws ds ts k).now (takeF t hs ws ds ts k).day (morT t ts ((orderL ts t.tn).getD k 0))) (keepT t.r ts ((orderL ts t.tn).getD k 0))).2 := Int.le_trans hj.1 hj.2
      rw [takeF_step t hs ws ds ts (by omega)]
      unfold takeS
      rw [if_pos hle]
      refine ⟨i1, hj, hm, fun a ha hat => ?_⟩
      have h5 := hup k a (by omega) (by omega) (by omega)
      simpa [List.getD, hl, hat, show k < t.tn by omega] using h5
  exact ⟨by rw [h2']; exact (key t.tn (Nat.le_refl _)).1, lev_in he hdl hc fun i hi => hk i (taken_ok hmor i hi).1⟩
theorem true_keeps {t : TkA} {hs ws : List T2} {ds : List T4} {ts : List T3} {c : Nat → Int} (he : (taskS t hs ws ds ts).2.2 = 0) (hb : ∀ k, k ≤ t.dn → 0 ≤ c k ∧ c k ≤ 1000000) (ua : Option Addr) (uc : Nat) : ∀ i, i < (t.with_ ua t.tn uc).tn → InP (c (morT (t.with_ ua t.tn uc) (trueT t ts c t.tn) i)) (keepT (t.with_ ua t.tn uc).r (trueT t ts c t.tn) i) := by
  intro i hi
  have ok := TaskOK.of he
  have hO := RuOK.of ok.r
  obtain ⟨x1, x2, x3⟩ := tests_ok ok.tests i hi
  have hm : morT t ts i ≤ t.dn := by unfold morT; omega
  obtain ⟨h1, h2, h3⟩ := gradeN_ok (gradeL_bd t.r (c (morT t ts i))) x3 i
  have e : morT (t.with_ ua t.tn uc) (trueT t ts c t.tn) i = morT t ts i := by unfold morT; rw [trueT_at t ts c hi]
  rw [e]
  unfold keepT
  rw [trueT_at t ts c hi]
  exact inB_iff.1 ((keep_grade hO h1 x3 (hb _ hm)).2 ⟨h2, h3⟩)
end Go.Proofs.Ytanjkhclhcnnaaa

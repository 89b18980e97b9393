/- Levels and Lost of a task without an error, whole. -/
import Derived.Test.YtanjkhclhcnnaaaZA
import Derived.Test.YtanjkhclhcnnaaaYR
namespace Go.Proofs.Ytanjkhclhcnnaaa
open Go.RowKit Go.Shelf

theorem demand_zero {l : List T4} (h : demandE l = 0) : ∀ s ∈ l, outB s = false ∧ turnB s = false := by
  unfold demandE at h
  split at h
  · cases h
  · rename_i h1
    split at h
    · cases h
    · rename_i h2
      intro s hs
      constructor
      · cases e : outB s with
        | false => rfl
        | true => exact absurd (List.any_eq_true.2 ⟨s, hs, e⟩) h1
      · cases e : turnB s with
        | false => rfl
        | true => exact absurd (List.any_eq_true.2 ⟨s, hs, e⟩) h2
theorem out_no {a b c d : Int} (h : outB (a, b, c, d) = false) : (c ≤ a ∧ a ≤ d) ∧ (c ≤ b ∧ b ≤ d) := by
  unfold outB at h
  rw [Bool.or_eq_false_iff] at h
  exact ⟨inB_iff.1 (by simpa using h.1), inB_iff.1 (by simpa using h.2)⟩
theorem turn_no {a b c d : Int} (h : turnB (a, b, c, d) = false) : a ≤ b := by
  unfold turnB at h
  have := of_decide_eq_false h
  simp only at this
  omega
theorem day_ok {d : T4} (h : dayE d = 0) : d.1 ≤ d.2.1 ∧ d.2.2.1 ≤ d.2.2.2 :=
  ⟨turn_no (demand_zero h (d.1, d.2.1, -300, 600) (by simp)).2, turn_no (demand_zero h (d.2.2.1, d.2.2.2, 0, 1000) (by simp)).2⟩
theorem lv_ok {p : T2} (h : lvE p = 0) : CanOK p := by
  have h1 := demand_zero h (p.1, p.2, 0, 1000000) (by simp)
  have h2 := out_no h1.1
  exact ⟨⟨h2.1, h2.2⟩, turn_no h1.2⟩
theorem strength_mono {r : RuA} {hs ws : List T2} (h : RuOK r hs ws) {a b a' b' : Int} (h1 : a ≤ a') (h2 : b ≤ b') : strengthS hs ws a b ≤ strengthS hs ws a' b' := by
  have m1 := h.h.factor_mono h1
  have m2 := h.w.factor_mono h2
  have b1 := h.h.factor_bd a
  have b2 := h.w.factor_bd b
  have m3 : factorS hs a * factorS ws b ≤ factorS hs a' * factorS ws b' := Int.mul_le_mul m1 m2 b2.1 (by omega)
  unfold strengthS
  omega
theorem days_str {r : RuA} {hs ws : List T2} (h : RuOK r hs ws) {ds : List T4} {n : Nat} (hn : ds.length = n) (hd : (daysE ds n).2 = 0) : ∀ s ∈ ds.map (strS hs ws), StrOK s := by
  intro s hs'
  rw [List.mem_map] at hs'
  obtain ⟨d, hd', rfl⟩ := hs'
  obtain ⟨i, hi, rfl⟩ := List.mem_iff_getElem.1 hd'
  have h0 := firstE_all.1 hd i (by omega)
  rw [show ds.getD i (0, 0, 0, 0) = ds[i] by simp [List.getD, hi]] at h0
  have h1 := day_ok h0
  exact ⟨(h.str_bd _ _).1, (h.str_bd _ _).2, strength_mono h h1.1 h1.2⟩
theorem tests_ok {first : Int} {n : Nat} {ts : List T3} {tn : Nat} (h : (testsE first n ts tn).2 = 0) : ∀ i, i < tn → (first ≤ (ts.getD i (0, 0, 0)).1 ∧ (ts.getD i (0, 0, 0)).1 ≤ first + n) ∧ (0 ≤ (ts.getD i (0, 0, 0)).2.1 ∧ (ts.getD i (0, 0, 0)).2.1 ≤ 3) ∧ (0 ≤ (ts.getD i (0, 0, 0)).2.2 ∧ (ts.getD i (0, 0, 0)).2.2 ≤ 3) := by
  intro i hi
  have h0 := firstE_all.1 h i hi
  simp only [testE] at h0
  split at h0
  · rename_i h1
    rw [Bool.and_eq_true, Bool.and_eq_true] at h1
    exact ⟨inB_iff.1 h1.1.1, inB_iff.1 h1.1.2, inB_iff.1 h1.2⟩
  · cases h0

/-- The morning of a test. -/
def morT (t : TkA) (ts : List T3) (i : Nat) : Nat := ((ts.getD i (0, 0, 0)).1 - t.first).toNat
def reachT (t : TkA) (hs ws : List T2) (ds : List T4) (ts : List T3) : RS := reachS t.r (ds.map (strS hs ws)) ts (morT t ts) ⟨orderL ts t.tn, [], (t.lo, t.hi), [], []⟩ (List.range (t.dn + 1))
/-- What can be known of each morning. -/
def levT (t : TkA) (hs ws : List T2) (ds : List T4) (ts : List T3) : List T2 := knownFold t.r (ds.map (strS hs ws)) (reachT t hs ws ds ts).lev (backL t.dn (List.finRange t.dn))
theorem levT_len {t : TkA} {hs ws : List T2} {ds : List T4} {ts : List T3} (he : (taskS t hs ws ds ts).2.2 = 0) (hl : ds.length = t.dn) : (levT t hs ws ds ts).length = t.dn + 1 := by
  have ok := TaskOK.of he
  have hO := RuOK.of ok.r
  have := (reach_ok hO (ss := ds.map (strS hs ws)) (N := t.dn) (by simp [hl]) (days_str hO hl ok.days) ts (morT t ts) (List.range (t.dn + 1)) ⟨orderL ts t.tn, [], (t.lo, t.hi), [], []⟩ (fun m hm => by rw [List.mem_range] at hm; omega) (lv_ok ok.start) (fun p hp => by cases hp)).2.2
  unfold levT
  rw [known_len]
  unfold reachT
  rw [this]
  simp

theorem known_full (t : TkA) (hs ws : List T2) (ds : List T4) (ts : List T3) (w : World) (hR : TkR w t hs ws ds ts) (he : (taskS t hs ws ds ts).2.2 = 0) (W : World) (v : Value) (hrow : W.ownsRow w.heap.size 28 2 v t.dn (flat2 (ds.map (strS hs ws)))) (hb : Below w.heap.size w W) :
    Calls Try.prog 71 #[.agg (t.xc v)] W fun e W' => ∃ g cap C sv, e = .returned (.tuple #[.slice (some ⟨g, 0, none⟩) (t.dn + 1) cap, sv]) ∧ W.heap.size ≤ g ∧ Ob W' g 28 C ∧ SpC C (levT t hs ws ds ts) ∧ W'.ownsRow W.heap.size 78 2 sv (reachT t hs ws ds ts).struck.length (flat2 (reachT t hs ws ds ts).struck) ∧ Below W.heap.size W W' := by
  have ok := TaskOK.of he
  have hO := RuOK.of ok.r
  have hdn := ok.dn
  have htn := ok.tn
  have hT := hR.t.below hb
  have hst := days_str hO hR.d.len ok.days
  have hte := tests_ok ok.tests
  obtain ⟨sa, sc, rfl, hsl, -, -⟩ := sl2_row hrow
  have hre := reach_ok hO (ss := ds.map (strS hs ws)) (N := t.dn) hsl.len hst ts (morT t ts) (List.range (t.dn + 1)) ⟨orderL ts t.tn, [], (t.lo, t.hi), [], []⟩ (fun m hm => by rw [List.mem_range] at hm; omega) (lv_ok ok.start) (fun p hp => by cases hp)
  refine known_any t hs ws sa sc t.dn _ (ds.map (strS hs ws)) (reachT t hs ws ds ts).lev _ W hO (by omega) hsl hst ?_ hre.2.1 (fun W1 hb1 => ?_)
  · rw [show (reachT t hs ws ds ts).lev.length = _ from hre.2.2]; simp
  · exact reached_any t hs ws sa sc t.dn (ds.map (strS hs ws)) ts (morT t ts) W1 hO (by omega) (hsl.below hb1) hst (hT.below hb1) htn
      (fun i hi => by have := hte i hi; omega) (fun i hi => by have := hte i hi; unfold morT; omega) (lv_ok ok.start)
theorem levels_full (t : TkA) (hs ws : List T2) (ds : List T4) (ts : List T3) (w : World) (hR : TkR w t hs ws ds ts) (he : (taskS t hs ws ds ts).2.2 = 0) :
    Calls Try.prog 28 #[.agg t.cs] w fun e W' => ∃ g cap C sv, e = .returned (.tuple #[.slice (some ⟨g, 0, none⟩) (t.dn + 1) cap, sv, .int .i64 0]) ∧ w.heap.size ≤ g ∧ Ob W' g 28 C ∧ SpC C (levT t hs ws ds ts) ∧ W'.ownsRow w.heap.size 78 2 sv (reachT t hs ws ds ts).struck.length (flat2 (reachT t hs ws ds ts).struck) ∧ Below w.heap.size w W' :=
  levels_ok t hs ws ds ts _ _ _ w hR he fun W v hrow hb => known_full t hs ws ds ts w hR he W v hrow hb
theorem lost_full (t : TkA) (hs ws : List T2) (ds : List T4) (ts : List T3) (w : World) (hR : TkR w t hs ws ds ts) (he : (taskS t hs ws ds ts).2.2 = 0) :
    Calls Try.prog 32 #[.agg t.cs] w fun e w' => e = .returned (.tuple #[.agg #[.int .i64 (lostP t (levT t hs ws ds ts)).1, .int .i64 (lostP t (levT t hs ws ds ts)).2], .int .i64 0]) ∧ Below w.heap.size w w' :=
  lostD_ok t hs ws ds ts _ w hR he (levT_len he hR.d.len) fun W v hrow hb => (known_full t hs ws ds ts w hR he W v hrow hb).mono fun _ _ ⟨g, cap, C, sv, h1, h2, h3, h4, _, h6⟩ => ⟨g, cap, C, sv, h1, h2, h3, h4, h6⟩
end Go.Proofs.Ytanjkhclhcnnaaa

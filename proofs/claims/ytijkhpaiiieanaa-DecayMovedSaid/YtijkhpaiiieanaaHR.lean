/- A reel that is moved to a cooler climate: the mathematics of DecayMoved. -/
import Derived.Test.YtijkhpaiiieanaaHM
namespace Go.Proofs.Ytijkhpaiiieanaa
open Go.RowKit Go.Shelf

/-- The days of a reel that is moved after so many of them. -/
def movedL (ds : List T4) (k n : Nat) (d : T4) : List T4 := ds.take k ++ List.replicate (n - k) d
theorem moved_len {ds : List T4} {k n : Nat} (h : ds.length = n) (hk : k ≤ n) (d : T4) : (movedL ds k n d).length = n := by
  unfold movedL
  rw [List.length_append, List.length_take, List.length_replicate, h]
  omega
theorem moved_at {ds : List T4} {k n : Nat} (h : ds.length = n) (hk : k ≤ n) (d : T4) {i : Nat} (hi : i < n) : (movedL ds k n d).getD i (0, 0, 0, 0) = if i < k then ds.getD i (0, 0, 0, 0) else d := by
  unfold movedL
  simp only [List.getD]
  by_cases e : i < k
  · rw [if_pos e, List.getElem?_append_left (by rw [List.length_take]; omega), List.getElem?_take_of_lt e]
  · rw [if_neg e, List.getElem?_append_right (by rw [List.length_take]; omega), List.length_take, List.getElem?_replicate, if_pos (by omega)]
    rfl
abbrev TkA.moved_ (t : TkA) (da : Option Addr) (dc : Nat) : TkA := ⟨t.r, t.first, da, t.dn, dc, t.lo, t.hi, none, 0, 0⟩
theorem TaskOK.moved {t : TkA} {hs ws : List T2} {ds : List T4} {ts : List T3} (ok : TaskOK t hs ws ds ts) (hdl : ds.length = t.dn) {k : Nat} (hk : k ≤ t.dn) {d : T4} (hd : dayE d = 0) (da : Option Addr) (dc : Nat) : TaskOK (t.moved_ da dc) hs ws (movedL ds k t.dn d) [] := by
  refine ⟨ok.r, ok.dn, Nat.zero_le _, ok.first, ?_, ok.start, rfl⟩
  refine firstE_all.2 fun i hi => ?_
  have hi' : i < t.dn := hi
  rw [moved_at hdl hk d hi']
  split
  · exact firstE_all.1 ok.days i hi'
  · exact hd
/-- One climate no warmer and no damper than another one, at both ends. -/
def LeD (d e : T4) : Prop := d.1 ≤ e.1 ∧ d.2.1 ≤ e.2.1 ∧ d.2.2.1 ≤ e.2.2.1 ∧ d.2.2.2 ≤ e.2.2.2
theorem LeD.refl (d : T4) : LeD d d := ⟨Int.le_refl _, Int.le_refl _, Int.le_refl _, Int.le_refl _⟩
theorem LeD.trans {d e f : T4} (h : LeD d e) (k : LeD e f) : LeD d f := ⟨Int.le_trans h.1 k.1, Int.le_trans h.2.1 k.2.1, Int.le_trans h.2.2.1 k.2.2.1, Int.le_trans h.2.2.2 k.2.2.2⟩
theorem LeD.str {r : RuA} {hs ws : List T2} (hO : RuOK r hs ws) {d e : T4} (h : LeD d e) : Le2 (strS hs ws d) (strS hs ws e) :=
  ⟨strength_mono hO h.1 h.2.2.1, strength_mono hO h.2.1 h.2.2.2⟩
theorem lower_le {d : T4} (h : dayE d = 0) {a b : Int} (ha : 0 ≤ a) (hb : 0 ≤ b) : LeD (lowerF d a b) d := by
  have h1 := day_bd h
  exact ⟨show max (-300) (d.1 - a) ≤ d.1 by omega, show max (-300) (d.2.1 - a) ≤ d.2.1 by omega, show max 0 (d.2.2.1 - b) ≤ d.2.2.1 by omega, show max 0 (d.2.2.2 - b) ≤ d.2.2.2 by omega⟩
/-- The least of two climates, end by end. -/
def minD (d e : T4) : T4 := (min d.1 e.1, min d.2.1 e.2.1, min d.2.2.1 e.2.2.1, min d.2.2.2 e.2.2.2)
theorem minD_l (d e : T4) : LeD (minD d e) d := ⟨Int.min_le_left _ _, Int.min_le_left _ _, Int.min_le_left _ _, Int.min_le_left _ _⟩
theorem minD_r (d e : T4) : LeD (minD d e) e := ⟨Int.min_le_right _ _, Int.min_le_right _ _, Int.min_le_right _ _, Int.min_le_right _ _⟩
theorem minD_ok {d e : T4} (hd : dayE d = 0) (he : dayE e = 0) : dayE (minD d e) = 0 := by
  have h1 := day_bd hd
  have h2 := day_bd he
  unfold dayE demandE minD
  simp [outB, turnB, inB]
  omega
/-- The least climate of so many days from one on. -/
def leastD (ds : List T4) (k : Nat) : Nat → T4
  | 0 => ds.getD k (0, 0, 0, 0)
  | j + 1 => minD (leastD ds k j) (ds.getD (k + j) (0, 0, 0, 0))
theorem leastD_ok {ds : List T4} {n k : Nat} (h : ∀ i, i < n → dayE (ds.getD i (0, 0, 0, 0)) = 0) (hk : k < n) : ∀ j, k + j ≤ n → dayE (leastD ds k j) = 0
  | 0, _ => h k hk
  | j + 1, hj => minD_ok (leastD_ok h hk j (by omega)) (h (k + j) (by omega))
theorem leastD_le {ds : List T4} {k : Nat} : ∀ j i, i < j → LeD (leastD ds k j) (ds.getD (k + i) (0, 0, 0, 0))
  | 0, i, hi => by omega
  | j + 1, i, hi => by
    by_cases e : i = j
    · rw [e]; exact minD_r _ _
    · exact (minD_l _ _).trans (leastD_le j i (by omega))
/-- A reel moved to a climate that is cooler and drier than all that it would have is not lost earlier. -/
theorem moved_late {t : TkA} {hs ws : List T2} {ds : List T4} (ok : TaskOK t hs ws ds []) (htn : t.tn = 0) (hdl : ds.length = t.dn) {k : Nat} (hk : k ≤ t.dn) {d : T4} (hd : dayE d = 0) (hle : ∀ i, k ≤ i → i < t.dn → LeD d (ds.getD i (0, 0, 0, 0))) (da : Option Addr) (dc : Nat) :
    lateB (lostP (t.moved_ da dc) (levT (t.moved_ da dc) hs ws (movedL ds k t.dn d) [])).1 (lostP t (levT t hs ws ds [])).1 = true ∧ lateB (lostP (t.moved_ da dc) (levT (t.moved_ da dc) hs ws (movedL ds k t.dn d) [])).2 (lostP t (levT t hs ws ds [])).2 = true := by
  have ok' := ok.moved hdl hk hd da dc
  have hO := RuOK.of ok.r
  have hml : (movedL ds k t.dn d).length = t.dn := moved_len hdl hk d
  have hdl' : (movedL ds k t.dn d).length = (t.moved_ da dc).dn := hml
  have hst' := days_str hO hdl' ok'.days
  have hp' := lv_ok ok'.start
  have l1 := bare_lev ok.zero hdl htn
  have l2 := bare_lev ok'.zero hdl' rfl
  have hl : ∀ j, j ≤ t.dn → Le2 ((levT (t.moved_ da dc) hs ws (movedL ds k t.dn d) []).getD j (0, 0)) ((levT t hs ws ds []).getD j (0, 0)) := fun j hj => by
    rw [l1 j hj, l2 j hj]
    refine on_le (r := t.r) (r' := t.r) (ss := ds.map (strS hs ws)) hO (Int.le_refl _) (Int.le_refl _) ⟨Int.le_refl _, Int.le_refl _⟩ hp' hst' (fun i hi => ?_) j (by rw [List.length_map, hml]; exact hj)
    rw [List.length_map, hml] at hi
    have e1 : ((movedL ds k t.dn d).map (strS hs ws)).getD i (0, 0) = strS hs ws ((movedL ds k t.dn d).getD i (0, 0, 0, 0)) := by simp [List.getD, show i < (movedL ds k t.dn d).length by omega]
    have e2 : (ds.map (strS hs ws)).getD i (0, 0) = strS hs ws (ds.getD i (0, 0, 0, 0)) := by simp [List.getD, hdl, hi]
    rw [e1, e2, moved_at hdl hk d hi]
    split
    · exact ⟨Int.le_refl _, Int.le_refl _⟩
    · exact (hle i (by omega) hi).str hO
  have n1 := levT_len ok.zero hdl
  have n2 : (levT (t.moved_ da dc) hs ws (movedL ds k t.dn d) []).length = t.dn + 1 := levT_len ok'.zero hdl'
  have hf := ok.first.1
  refine ⟨?_, ?_⟩
  · refine lost_late hf (by omega) fun j hj hq => ?_
    exact decide_eq_true (Int.le_trans (of_decide_eq_true hq) (hl j (by omega)).2)
  · refine lost_late hf (by omega) fun j hj hq => ?_
    exact decide_eq_true (Int.le_trans (of_decide_eq_true hq) (hl j (by omega)).1)
end Go.Proofs.Ytijkhpaiiieanaa

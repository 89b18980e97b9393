/- The reel that FilmCut makes of a part of a roll: plain mathematics. -/
import Derived.Test.YtbicafmlbknkiaaGreatDoorWC
import Derived.Test.YtbicafmlbknkiaaGreatDoorXO
namespace Go.Proofs.YtbicafmlbknkiaaGreatDoor
open Go.RowKit

/-- How many frames are cut ahead of a frame. -/
def aheadI (ah : List Int) (i : Nat) : Int := if ah.length = 0 then 0 else ah.getD (i % ah.length) 0
/-- Where the roll stands ahead of a frame, and at it. -/
def atI (a0 : Int) (ah : List Int) : Nat → Int
  | 0 => a0
  | i + 1 => atI a0 ah i + aheadI ah i + 1
def posI (a0 : Int) (ah : List Int) (i : Nat) : Int := atI a0 ah i + aheadI ah i
def allI (a0 : Int) (ah : List Int) (n : Nat) : List Int := (List.range n).map fun (i : Nat) => posI a0 ah i
def notedB (no : List Int) (n : Nat) : Bool := no.length == 0 || (no.getD (n % no.length) 0) % 2 == 0
/-- Is the n-th footage number at a frame? -/
def footB (foot a0 : Int) (ah : List Int) (i k : Nat) : Bool := decide ((posI a0 ah i) % foot = 0) && decide ((posI a0 ah i) / foot ≤ 9999) && decide (k < 60)
/-- The marks of the first frames, and how many footage numbers there were. -/
def mkTo (foot roll a0 : Int) (ah no : List Int) : Nat → List T3 × Nat
  | 0 => ([], 0)
  | i + 1 =>
    if footB foot a0 ah i (mkTo foot roll a0 ah no i).1.length = true then
      (if notedB no (mkTo foot roll a0 ah no i).2 = true then (mkTo foot roll a0 ah no i).1 ++ [((i : Int), roll, posI a0 ah i / foot)] else (mkTo foot roll a0 ah no i).1, (mkTo foot roll a0 ah no i).2 + 1)
    else mkTo foot roll a0 ah no i

theorem aheadI_bd {ah : List Int} (h : ∀ i, i < ah.length → 0 ≤ ah.getD i 0 ∧ ah.getD i 0 ≤ 255) (i : Nat) : 0 ≤ aheadI ah i ∧ aheadI ah i ≤ 255 := by
  unfold aheadI
  by_cases e : ah.length = 0
  · rw [if_pos e]; decide
  · rw [if_neg e]; exact h _ (Nat.mod_lt _ (by omega))
theorem atI_bd {a0 : Int} {ah : List Int} (h : ∀ i, i < ah.length → 0 ≤ ah.getD i 0 ∧ ah.getD i 0 ≤ 255) : ∀ i, a0 ≤ atI a0 ah i ∧ atI a0 ah i ≤ a0 + 256 * i
  | 0 => by simp [atI]
  | i + 1 => by
    have h1 := atI_bd (a0 := a0) h i
    have h2 := aheadI_bd h i
    unfold atI
    push_cast
    omega
theorem posI_bd {a0 : Int} {ah : List Int} (h : ∀ i, i < ah.length → 0 ≤ ah.getD i 0 ∧ ah.getD i 0 ≤ 255) (i : Nat) : a0 ≤ posI a0 ah i ∧ posI a0 ah i ≤ a0 + 256 * i + 255 := by
  have h1 := atI_bd (a0 := a0) h i
  have h2 := aheadI_bd h i
  unfold posI
  omega
theorem posI_step {a0 : Int} {ah : List Int} (h : ∀ i, i < ah.length → 0 ≤ ah.getD i 0 ∧ ah.getD i 0 ≤ 255) (i : Nat) : posI a0 ah i + 1 ≤ posI a0 ah (i + 1) := by
  have h2 := aheadI_bd h (i + 1)
  have e : atI a0 ah (i + 1) = posI a0 ah i + 1 := rfl
  have e2 : posI a0 ah (i + 1) = atI a0 ah (i + 1) + aheadI ah (i + 1) := rfl
  omega
theorem posI_mono {a0 : Int} {ah : List Int} (h : ∀ i, i < ah.length → 0 ≤ ah.getD i 0 ∧ ah.getD i 0 ≤ 255) : ∀ (d i : Nat), posI a0 ah i + d ≤ posI a0 ah (i + d)
  | 0, i => by simp
  | d + 1, i => by
    have h1 := posI_mono (a0 := a0) h d i
    have h2 := posI_step (a0 := a0) h (i + d)
    rw [show i + (d + 1) = i + d + 1 by omega]
    push_cast
    omega
theorem allI_succ (a0 : Int) (ah : List Int) (n : Nat) : allI a0 ah (n + 1) = allI a0 ah n ++ [posI a0 ah n] := by
  unfold allI
  rw [List.range_succ, List.map_append]; rfl
theorem allI_len (a0 : Int) (ah : List Int) (n : Nat) : (allI a0 ah n).length = n := by simp [allI]
theorem allI_at (a0 : Int) (ah : List Int) {n i : Nat} (h : i < n) : (allI a0 ah n).getD i 0 = posI a0 ah i := by
  unfold allI
  rw [List.getD_eq_getElem?_getD, List.getElem?_map, List.getElem?_range h]; rfl

/-- What the marks are. -/
structure MarksOK (foot roll a0 : Int) (ah : List Int) (n : Nat) (ms : List T3) : Prop where
  few : ms.length ≤ 60
  at_ : ∀ k, k < ms.length → ∃ f : Nat, ms.getD k (0, 0, 0) = ((f : Int), roll, posI a0 ah f / foot) ∧ f < n ∧ posI a0 ah f / foot * foot = posI a0 ah f ∧ 0 ≤ posI a0 ah f / foot ∧ posI a0 ah f / foot ≤ 9999
  asc : ∀ k, k + 1 < ms.length → (ms.getD k (0, 0, 0)).1 < (ms.getD (k + 1) (0, 0, 0)).1
theorem MarksOK.more {foot roll a0 : Int} {ah : List Int} {n : Nat} {ms : List T3} (h : MarksOK foot roll a0 ah n ms) : MarksOK foot roll a0 ah (n + 1) ms :=
  ⟨h.few, fun k hk => let ⟨f, h1, h2, h3⟩ := h.at_ k hk; ⟨f, h1, by omega, h3⟩, h.asc⟩
theorem getD_snoc {α : Type} {l : List α} {x d : α} (i : Nat) : (l ++ [x]).getD i d = if i = l.length then x else l.getD i d := by
  by_cases h : i < l.length
  · rw [if_neg (by omega), List.getD_eq_getElem?_getD, List.getD_eq_getElem?_getD, List.getElem?_append_left h]
  · by_cases e : i = l.length
    · subst e; simp
    · rw [if_neg e, List.getD_eq_getElem?_getD, List.getD_eq_getElem?_getD, List.getElem?_eq_none (by simp; omega), List.getElem?_eq_none (by omega)]
theorem MarksOK.snoc {foot roll a0 : Int} {ah : List Int} {n : Nat} {ms : List T3} (h : MarksOK foot roll a0 ah n ms) (hf : 0 < foot) (hp : 0 ≤ posI a0 ah n) (hb : footB foot a0 ah n ms.length = true) : MarksOK foot roll a0 ah (n + 1) (ms ++ [((n : Int), roll, posI a0 ah n / foot)]) := by
  unfold footB at hb
  rw [Bool.and_eq_true, Bool.and_eq_true, decide_eq_true_eq, decide_eq_true_eq, decide_eq_true_eq] at hb
  obtain ⟨⟨h1, h2⟩, h3⟩ := hb
  refine ⟨by simp; omega, fun k hk => ?_, fun k hk => ?_⟩
  · rw [List.length_append, List.length_singleton] at hk
    rw [getD_snoc]
    by_cases e : k = ms.length
    · rw [if_pos e]
      refine ⟨n, rfl, by omega, ?_, Int.ediv_nonneg hp (by omega), h2⟩
      have := Int.mul_ediv_add_emod (posI a0 ah n) foot
      rw [h1, Int.add_zero, Int.mul_comm] at this
      exact this
    · rw [if_neg e]
      obtain ⟨f, q1, q2, q3⟩ := h.at_ k (by omega)
      exact ⟨f, q1, by omega, q3⟩
  · rw [List.length_append, List.length_singleton] at hk
    rw [getD_snoc, getD_snoc, if_neg (by omega)]
    by_cases e : k + 1 = ms.length
    · rw [if_pos e]
      obtain ⟨f, q1, q2, -⟩ := h.at_ k (by omega)
      rw [q1]
      simp only
      omega
    · rw [if_neg e]
      exact h.asc k (by omega)
theorem mkTo_ok {foot roll a0 : Int} {ah no : List Int} (hf : 0 < foot) (h0 : 0 ≤ a0) (h : ∀ i, i < ah.length → 0 ≤ ah.getD i 0 ∧ ah.getD i 0 ≤ 255) : ∀ n, MarksOK foot roll a0 ah n (mkTo foot roll a0 ah no n).1
  | 0 => ⟨by simp [mkTo], fun k hk => by simp [mkTo] at hk, fun k hk => by simp [mkTo] at hk⟩
  | n + 1 => by
    have ih := mkTo_ok (roll := roll) (no := no) hf h0 h n
    unfold mkTo
    by_cases e : footB foot a0 ah n (mkTo foot roll a0 ah no n).1.length = true
    · rw [if_pos e]
      by_cases e2 : notedB no (mkTo foot roll a0 ah no n).2 = true
      · simp only [e2, if_true]
        exact ih.snoc hf (by have := (posI_bd (a0 := a0) h n).1; omega) e
      · simp only [e2]
        exact ih.more
    · rw [if_neg e]
      exact ih.more
theorem mkTo_n (foot roll a0 : Int) (ah no : List Int) : ∀ n, (mkTo foot roll a0 ah no n).2 ≤ n
  | 0 => Nat.le_refl _
  | n + 1 => by
    have ih := mkTo_n foot roll a0 ah no n
    unfold mkTo
    by_cases e : footB foot a0 ah n (mkTo foot roll a0 ah no n).1.length = true
    · rw [if_pos e]; simp only; omega
    · rw [if_neg e]; omega

section
variable {foot roll a0 : Int} {ah : List Int} {n : Nat} {ms : List T3}

theorem MarksOK.roll_ (h : MarksOK foot roll a0 ah n ms) {k : Nat} (hk : k < ms.length) : (ms.getD k (0, 0, 0)).2.1 = roll := by
  obtain ⟨f, e, -⟩ := h.at_ k hk
  rw [e]
theorem posI_le (hah : ∀ i, i < ah.length → 0 ≤ ah.getD i 0 ∧ ah.getD i 0 ≤ 255) {f x : Nat} (h : f ≤ x) : posI a0 ah f + ((x : Int) - f) ≤ posI a0 ah x := by
  have := posI_mono (a0 := a0) hah (x - f) f
  rw [show f + (x - f) = x by omega] at this
  omega
/-- What is missing between two marks. -/
theorem MarksOK.miss (h : MarksOK foot roll a0 ah n ms) {k : Nat} (hk : k + 1 < ms.length) : ∃ f g : Nat, (ms.getD k (0, 0, 0)).1 = f ∧ (ms.getD (k + 1) (0, 0, 0)).1 = g ∧ f < g ∧ g < n ∧ missI foot ms k = posI a0 ah g - posI a0 ah f - ((g : Int) - f) := by
  obtain ⟨f, e1, -, q1, -⟩ := h.at_ k (by omega)
  obtain ⟨g, e2, hg, q2, -⟩ := h.at_ (k + 1) hk
  have ha := h.asc k hk
  rw [e1, e2] at ha
  simp only at ha
  refine ⟨f, g, by rw [e1], by rw [e2], by omega, hg, ?_⟩
  unfold missI
  rw [e1, e2]
  simp only
  rw [Int.sub_mul, q1, q2]
theorem MarksOK.miss0 (h : MarksOK foot roll a0 ah n ms) (hah : ∀ i, i < ah.length → 0 ≤ ah.getD i 0 ∧ ah.getD i 0 ≤ 255) {k : Nat} (hk : k + 1 < ms.length) : 0 ≤ missI foot ms k := by
  obtain ⟨f, g, -, -, hfg, -, e⟩ := h.miss hk
  have := posI_le (a0 := a0) hah (Nat.le_of_lt hfg)
  omega
theorem MarksOK.same (h : MarksOK foot roll a0 ah n ms) {k : Nat} (hk : k + 1 < ms.length) : sameRoll ms k = true := by
  unfold sameRoll
  rw [h.roll_ (by omega), h.roll_ hk]
  simp
/-- No mark contradicts another one. -/
theorem MarksOK.wrong (h : MarksOK foot roll a0 ah n ms) (hah : ∀ i, i < ah.length → 0 ≤ ah.getD i 0 ∧ ah.getD i 0 ≤ 255) : ∀ k, k + 1 ≤ ms.length → wrongTo foot ms k = []
  | 0, _ => rfl
  | k + 1, hk => by
    unfold wrongTo
    rw [h.wrong hah k (by omega), h.same (by omega)]
    have := h.miss0 hah (k := k) (by omega)
    simp
    omega
theorem MarksOK.gaps (h : MarksOK foot roll a0 ah n ms) {k : Nat} (hk : k + 1 < ms.length) : gapsTo foot ms (k + 1) = gapsTo foot ms k ++ (if 0 < missI foot ms k then [((ms.getD k (0, 0, 0)).1, (ms.getD (k + 1) (0, 0, 0)).1, missI foot ms k)] else []) := by
  rw [show gapsTo foot ms (k + 1) = gapsTo foot ms k ++ (if sameRoll ms k && decide (0 < missI foot ms k) then [((ms.getD k (0, 0, 0)).1, (ms.getD (k + 1) (0, 0, 0)).1, missI foot ms k)] else []) from rfl, h.same hk]
  simp
theorem gapsTo_prefix (foot : Int) (ms : List T3) (k : Nat) : ∀ d, ∃ t, gapsTo foot ms (k + d) = gapsTo foot ms k ++ t
  | 0 => ⟨[], by simp⟩
  | d + 1 => by
    obtain ⟨t, ht⟩ := gapsTo_prefix foot ms k d
    rw [show k + (d + 1) = k + d + 1 by omega, show gapsTo foot ms (k + d + 1) = gapsTo foot ms (k + d) ++ (if sameRoll ms (k + d) && decide (0 < missI foot ms (k + d)) then [((ms.getD (k + d) (0, 0, 0)).1, (ms.getD (k + d + 1) (0, 0, 0)).1, missI foot ms (k + d))] else []) from rfl, ht, List.append_assoc]
    exact ⟨_, rfl⟩
/-- Where a frame of the roll is, by its marks. -/
theorem MarksOK.place (h : MarksOK foot roll a0 ah n ms) (hah : ∀ i, i < ah.length → 0 ≤ ah.getD i 0 ∧ ah.getD i 0 ≤ 255) (h0 : 0 ≤ a0) (hm : 0 < ms.length) (x : Nat) :
    ∃ lo hi, betS foot ms ms.length x = (roll, lo, hi) ∧ lo ≤ posI a0 ah x ∧ (posI a0 ah x ≤ 9999 * foot → posI a0 ah x ≤ hi) := by
  obtain ⟨s1, s2, s3, s4⟩ := nextTo_spec ms (x : Int) ms.length 0
  have e : nextI ms ms.length x = nextTo ms x ms.length 0 := rfl
  rw [← e] at s1 s2 s3 s4
  rw [Nat.zero_add] at s2 s4
  have hpx : 0 ≤ posI a0 ah x := by have := (posI_bd (a0 := a0) hah x).1; omega
  have hlast : lastI ms ms.length x < 0 ∨ ∃ k : Nat, lastI ms ms.length x = k ∧ k < ms.length ∧ (ms.getD k (0, 0, 0)).1 ≤ x := by
    unfold lastI
    by_cases c : nextI ms ms.length x < ms.length ∧ (ms.getD (nextI ms ms.length x) (0, 0, 0)).1 = x
    · rw [if_pos c]
      exact .inr ⟨_, rfl, c.1, by omega⟩
    · rw [if_neg c]
      by_cases c2 : nextI ms ms.length x = 0
      · exact .inl (by omega)
      · refine .inr ⟨nextI ms ms.length x - 1, by omega, by omega, ?_⟩
        have := s3 (nextI ms ms.length x - 1) (by omega) (by omega)
        omega
  have hroll : (if lastI ms ms.length x < 0 then (ms.getD (nextI ms ms.length x) (0, 0, 0)).2.1 else (ms.getD (lastI ms ms.length x).toNat (0, 0, 0)).2.1) = roll := by
    by_cases c : lastI ms ms.length x < 0
    · rw [if_pos c]
      refine h.roll_ ?_
      unfold lastI at c
      by_cases c2 : nextI ms ms.length x < ms.length ∧ (ms.getD (nextI ms ms.length x) (0, 0, 0)).1 = x
      · rw [if_pos c2] at c; omega
      · rw [if_neg c2] at c; omega
    · rw [if_neg c]
      rcases hlast with hl | ⟨k, hk, hkl, -⟩
      · exact absurd hl c
      · rw [hk, Int.toNat_natCast]; exact h.roll_ hkl
  refine ⟨_, _, by unfold betS; simp only [hroll]; rfl, ?_, fun hmax => ?_⟩
  · by_cases c : lastI ms ms.length x < 0
    · rw [if_pos c]; exact hpx
    · rw [if_neg c]
      rcases hlast with hl | ⟨k, hk, hkl, hle⟩
      · exact absurd hl c
      · rw [hk, Int.toNat_natCast]
        obtain ⟨f, e1, -, q1, -⟩ := h.at_ k hkl
        rw [e1] at hle ⊢
        simp only at hle ⊢
        rw [q1]
        exact posI_le hah (by omega)
  · by_cases c : nextI ms ms.length x < ms.length
    · rw [if_pos ⟨c, h.roll_ c⟩]
      obtain ⟨f, e1, -, q1, -⟩ := h.at_ _ c
      have hge := s4 c
      rw [e1] at hge ⊢
      simp only at hge ⊢
      rw [q1]
      have := posI_le (a0 := a0) hah (show x ≤ f by omega)
      omega
    · rw [if_neg (fun hh => c hh.1)]
      exact hmax
end
end Go.Proofs.YtbicafmlbknkiaaGreatDoor

/- What a further length and a further symbol change: plain mathematics. -/
import Derived.Test.YtbicafmlbknkiaaGreatDoorZE
import Derived.Test.YtbicafmlbknkiaaGreatDoorXT
namespace Go.Proofs.YtbicafmlbknkiaaGreatDoor
open Go.RowKit Go.Maps Go.Lib

theorem getD_snoc_lt {α : Type} {l : List α} {x d : α} {i : Nat} (h : i < l.length) : (l ++ [x]).getD i d = l.getD i d := by
  rw [List.getD_eq_getElem?_getD, List.getD_eq_getElem?_getD, List.getElem?_append_left h]
theorem shr_snoc {mi : Int} {ls : List T3} {x : T3} : ∀ k, k ≤ ls.length → shr mi (ls ++ [x]) k = shr mi ls k
  | 0, _ => rfl
  | k + 1, h => by
    unfold shr
    rw [shr_snoc k (by omega), getD_snoc_lt (by omega)]
theorem shr_shrinks (mi : Int) (ls : List T3) (k : Nat) : (shr mi ls k).1 ≤ (shr mi ls (k + 1)).1 ∧ (shr mi ls (k + 1)).2 ≤ (shr mi ls k).2 := by
  obtain ⟨a1, -, -⟩ := climb_spec (tooLong (ls.getD k (0, 0, 0)) mi) 502 (shr mi ls k).1 (shr mi ls k).2 (by have := shr_bd mi ls k; omega)
  obtain ⟨b1, -, -⟩ := fall_spec (tooShort (ls.getD k (0, 0, 0)) mi) 502 (narLo (ls.getD k (0, 0, 0)) mi (shr mi ls k).1 (shr mi ls k).2) (shr mi ls k).2 (by have := shr_bd mi ls k; unfold narLo; omega)
  exact ⟨a1, b1⟩
/-- What Shrink answers with a further length. -/
theorem shrink_further {mi : Int} {ls : List T3} {x : T3} : ∀ (m k : Nat), k + m = ls.length →
    (∃ i : Nat, shrinkR mi ls m k = (0, 0, (i : Int)) ∧ shrinkR mi (ls ++ [x]) (m + 1) k = (0, 0, (i : Int))) ∨
    (∃ a b, shrinkR mi ls m k = (a, b, -1) ∧ (shrinkR mi (ls ++ [x]) (m + 1) k = (0, 0, (ls.length : Int)) ∨ ∃ c d, shrinkR mi (ls ++ [x]) (m + 1) k = (c, d, -1) ∧ a ≤ c ∧ d ≤ b))
  | 0, k, h => by
    obtain rfl : k = ls.length := by omega
    refine .inr ⟨_, _, rfl, ?_⟩
    have hs := shr_shrinks mi (ls ++ [x]) ls.length
    rw [shr_snoc ls.length (Nat.le_refl _)] at hs
    unfold shrinkR
    by_cases e : (shr mi (ls ++ [x]) (ls.length + 1)).1 ≤ (shr mi (ls ++ [x]) (ls.length + 1)).2
    · rw [if_pos e]
      exact .inr ⟨_, _, rfl, hs.1, hs.2⟩
    · rw [if_neg e]
      exact .inl rfl
  | m + 1, k, h => by
    have e1 : shr mi (ls ++ [x]) (k + 1) = shr mi ls (k + 1) := shr_snoc (k + 1) (by omega)
    rw [show shrinkR mi ls (m + 1) k = if (shr mi ls (k + 1)).1 ≤ (shr mi ls (k + 1)).2 then shrinkR mi ls m (k + 1) else (0, 0, k) from rfl]
    rw [show shrinkR mi (ls ++ [x]) (m + 1 + 1) k = if (shr mi (ls ++ [x]) (k + 1)).1 ≤ (shr mi (ls ++ [x]) (k + 1)).2 then shrinkR mi (ls ++ [x]) (m + 1) (k + 1) else (0, 0, k) from rfl, e1]
    by_cases e : (shr mi ls (k + 1)).1 ≤ (shr mi ls (k + 1)).2
    · rw [if_pos e, if_pos e]
      exact shrink_further m (k + 1) (by omega)
    · rw [if_neg e, if_neg e]
      exact .inl ⟨k, rfl, rfl⟩

theorem rolls_mem {ss : List T2} {x : Int} : x ∈ rollsL ss ↔ ∃ j, j < ss.length ∧ (ss.getD j (0, 0)).1 = x := by
  have hs : ((ss.map (·.1)).mergeSort fun x y => decide (x ≤ y)).Pairwise (fun x y => x ≤ y) := by
    have := List.pairwise_mergeSort (le := fun (x y : Int) => decide (x ≤ y)) (fun a b c h1 h2 => by simp at *; omega) (fun a b => by simp; omega) (ss.map (·.1))
    exact this.imp (fun h => by simpa using h)
  obtain ⟨-, c2⟩ := compact_asc hs
  unfold rollsL
  rw [c2, List.mem_mergeSort, ← has_mem]
  unfold hasRoll
  rw [List.contains_iff_mem]
theorem madeTo_snoc {lo hi : Int} {ss : List T2} {y : T2} {roll x : Int} : ∀ n, n ≤ ss.length → madeTo lo hi (ss ++ [y]) roll n x = madeTo lo hi ss roll n x
  | 0, _ => rfl
  | n + 1, h => by
    unfold madeTo
    rw [madeTo_snoc n (by omega), getD_snoc_lt (by omega)]
theorem poss_iff {r : RA} {ss : List T2} {L : List Int} {y : Int} : ∀ n, possTo r ss L n y = true ↔ (r.lo ≤ y ∧ y ≤ r.hi) ∧ ∀ j, j < n → nearB (madeL r ss (L.getD j 0)) r.k y = true
  | 0 => by simp [possTo, inB]
  | n + 1 => by
    unfold possTo
    rw [Bool.and_eq_true, poss_iff n]
    constructor
    · rintro ⟨⟨h1, h2⟩, h3⟩
      refine ⟨h1, fun j hj => ?_⟩
      by_cases e : j = n
      · rw [e]; exact h3
      · exact h2 j (by omega)
    · rintro ⟨h1, h2⟩
      exact ⟨⟨h1, fun j hj => h2 j (by omega)⟩, h2 n (by omega)⟩
/-- With a further symbol no years of printing become possible. -/
theorem years_further {r : RA} {ss : List T2} {y : T2} {sa : Option Addr} {sc : Nat} {x : Int} (hl : ss.length = r.sn) (hl0 : 1890 ≤ r.lo) (hh1 : r.hi ≤ 2100)
    (h : x ∈ yl (possTo { r with sa := sa, sn := r.sn + 1, sc := sc } (ss ++ [y]) (rollsL (ss ++ [y])) (rollsL (ss ++ [y])).length)) : x ∈ yl (possTo r ss (rollsL ss) (rollsL ss).length) := by
  have hlo : 0 ≤ madeLo r.lo r.k := by unfold madeLo; omega
  rw [mem_yl (possTo_range (by simp only; omega) (by simp only; omega) _), poss_iff] at h
  rw [mem_yl (possTo_range (by omega) (by omega) _), poss_iff]
  obtain ⟨h1, h2⟩ := h
  refine ⟨h1, fun j hj => ?_⟩
  have hm : (rollsL ss).getD j 0 ∈ rollsL ss := by
    rw [List.getD_eq_getElem?_getD, List.getElem?_eq_getElem hj]
    exact List.getElem_mem hj
  obtain ⟨i, hi, e⟩ := rolls_mem.1 hm
  have hm2 : (rollsL ss).getD j 0 ∈ rollsL (ss ++ [y]) := rolls_mem.2 ⟨i, by simp; omega, by rw [getD_snoc_lt hi]; exact e⟩
  obtain ⟨j2, hj2, e2⟩ := List.getElem_of_mem hm2
  have h3 := h2 j2 hj2
  rw [List.getD_eq_getElem?_getD, List.getElem?_eq_getElem hj2, Option.getD_some, e2] at h3
  generalize (rollsL ss).getD j 0 = roll at h3 ⊢
  unfold nearB at h3 ⊢
  rw [List.any_eq_true] at h3 ⊢
  obtain ⟨m, hm, hin⟩ := h3
  refine ⟨m, ?_, hin⟩
  unfold madeL at hm ⊢
  simp only at hm
  rw [mem_yl (madeTo_range hlo (by omega) _)] at hm ⊢
  unfold madeTo at hm
  rw [Bool.and_eq_true, madeTo_snoc r.sn (by omega)] at hm
  exact hm.1
end Go.Proofs.YtbicafmlbknkiaaGreatDoor

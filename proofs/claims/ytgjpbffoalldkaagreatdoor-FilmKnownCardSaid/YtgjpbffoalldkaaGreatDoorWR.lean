/- What the reel of the examples comes to. -/
import Derived.Test.YtgjpbffoalldkaaGreatDoorWL
import Derived.Test.YtgjpbffoalldkaaGreatDoorWP
namespace Go.Proofs.YtgjpbffoalldkaaGreatDoor
open Go.RowKit

theorem reel_gaps : gapsTo 16 reelM 4 = [(42, 130, 8), (200, 215, 1)] := by decide
theorem reel_wrong : wrongTo 16 reelM 4 = [] := by decide
theorem reel_shrink : shrinkS 19000 reelL 2 = (47, 52, -1) := by kernel_rfl
theorem reel_check (B : Nat) : (checkS (reelR B) reelM reelS reelL).2.2 = 0 := by kernel_rfl
theorem reel_rolls : rollsL reelS = [4, 7] := by
  unfold rollsL
  rw [List.mergeSort_of_pairwise (by decide)]
  rfl
theorem near3 (M : Int → Bool) (hr : ∀ x, M x = true → 0 ≤ x ∧ x ≤ 3000) (y : Int) : nearB (yl M) 3 y = (M (y - 3) || M (y - 2) || M (y - 1) || M y) := by
  rw [Bool.eq_iff_iff]
  unfold nearB
  rw [List.any_eq_true]
  constructor
  · rintro ⟨m, hm, hb⟩
    have h1 := (mem_yl hr).1 hm
    simp only [inB, Bool.and_eq_true, decide_eq_true_eq] at hb
    have : m = y - 3 ∨ m = y - 2 ∨ m = y - 1 ∨ m = y := by omega
    rcases this with rfl | rfl | rfl | rfl <;> simp [h1]
  · intro h
    simp only [Bool.or_eq_true] at h
    rcases h with ((h | h) | h) | h
    all_goals exact ⟨_, (mem_yl hr).2 h, by simp only [inB, Bool.and_eq_true, decide_eq_true_eq]; omega⟩
theorem yl_two : yl (fun y => y == 1928 || y == 1929) = [1928, 1929] := by kernel_rfl
theorem reel_years (B : Nat) : yl (possTo (reelR B) reelS [4, 7] 2) = [1928, 1929] := by
  have h : yl (possTo (reelR B) reelS [4, 7] 2) = yl (fun y => y == 1928 || y == 1929) := by
    unfold yl
    refine List.filter_congr fun y hy => ?_
    show ((inB y 1925 1940 && nearB (yl (madeTo (madeLo 1925 3) 1940 reelS 4 2)) 3 y) && nearB (yl (madeTo (madeLo 1925 3) 1940 reelS 7 2)) 3 y) = _
    rw [near3 _ (madeTo_range (by decide) (by decide) 2), near3 _ (madeTo_range (by decide) (by decide) 2)]
    by_cases h : 1925 ≤ y ∧ y ≤ 1940
    · obtain ⟨h1, h2⟩ := h
      have : y = 1925 ∨ y = 1926 ∨ y = 1927 ∨ y = 1928 ∨ y = 1929 ∨ y = 1930 ∨ y = 1931 ∨ y = 1932 ∨ y = 1933 ∨ y = 1934 ∨ y = 1935 ∨ y = 1936 ∨ y = 1937 ∨ y = 1938 ∨ y = 1939 ∨ y = 1940 := by omega
      rcases this with rfl | rfl | rfl | rfl | rfl | rfl | rfl | rfl | rfl | rfl | rfl | rfl | rfl | rfl | rfl | rfl <;> decide
    · have h3 : inB y 1925 1940 = false := by simp only [inB, Bool.and_eq_false_iff, decide_eq_false_iff_not]; omega
      have h4 : (y == 1928) = false := by simp; omega
      have h5 : (y == 1929) = false := by simp; omega
      rw [h3, h4, h5]; rfl
  exact h.trans yl_two
end Go.Proofs.YtgjpbffoalldkaaGreatDoor

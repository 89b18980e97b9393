/- The walks of film's around and between. -/
import Derived.Test.YtgjpbffoalldkaaGreatDoorWE
import Derived.Deep.LoopGhost
import Derived.Outline
namespace Go.Proofs.YtgjpbffoalldkaaGreatDoor
open Go.RowKit

/-- The first mark from k on that isn't before a frame; n are left. -/
def nextTo (ms : List T3) (fr : Int) : Nat → Nat → Nat
  | 0, k => k
  | n + 1, k => if (ms.getD k (0, 0, 0)).1 < fr then nextTo ms fr n (k + 1) else k
def nextI (ms : List T3) (n : Nat) (fr : Int) : Nat := nextTo ms fr n 0
theorem nextTo_eq {ms : List T3} {fr : Int} : ∀ (n k j : Nat), k ≤ j → j ≤ k + n → (∀ i, k ≤ i → i < j → (ms.getD i (0, 0, 0)).1 < fr) → (j < k + n → ¬ (ms.getD j (0, 0, 0)).1 < fr) → nextTo ms fr n k = j
  | 0, k, j, h1, h2, _, _ => by unfold nextTo; omega
  | n + 1, k, j, h1, h2, h3, h4 => by
    unfold nextTo
    by_cases e : k = j
    · subst e
      rw [if_neg (h4 (by omega))]
    · rw [if_pos (h3 k (Nat.le_refl _) (by omega))]
      exact nextTo_eq n (k + 1) j (by omega) (by omega) (fun i a b => h3 i (by omega) b) (fun h => h4 (by omega))
/-- The last mark up to a frame. -/
def lastI (ms : List T3) (n : Nat) (fr : Int) : Int := if nextI ms n fr < n ∧ (ms.getD (nextI ms n fr) (0, 0, 0)).1 = fr then nextI ms n fr else (nextI ms n fr : Int) - 1

theorem pair_ret {a b c d : Int} (h1 : a = c) (h2 : b = d) : Ending.returned (.tuple #[.int .i64 a, .int .i64 b]) = .returned (.tuple #[.int .i64 c, .int .i64 d]) := by rw [h1, h2]

set_option maxRecDepth 100000 in
theorem around_any (a : Option Addr) (n c : Nat) (ms : List T3) (fr : Int) (w : World) (hn : n ≤ 60) (hs : Sl3 w a n ms) :
    Calls Tryz.prog 85 #[.slice a n c, .int .i64 fr] w fun e w' => e = .returned (.tuple #[.int .i64 (lastI ms n fr), .int .i64 (nextI ms n fr)]) ∧ Below w.heap.size w w' := by
  have HS := Lib.hid hs
  have HN := Lib.hid (fun j h1 h2 h3 => nextTo_eq (ms := ms) (fr := fr) n 0 j (Nat.zero_le _) h1 h2 h3)
  have HL : Hid (lastI ms n fr = if nextI ms n fr < n ∧ (ms.getD (nextI ms n fr) (0, 0, 0)).1 = fr then (nextI ms n fr : Int) else (nextI ms n fr : Int) - 1) := rfl
  have HM : Hid (nextI ms n fr = nextTo ms fr n 0) := rfl
  generalize lastI ms n fr = L at HL ⊢
  generalize nextI ms n fr = N at HL HM ⊢
  clear hs
  go_enter Tryz.func85, Tryz.ntmps85
  go_wp2_with fail
  go_loopg [5] n (fun gk i wr => ∃ k : Nat, gk = n - k ∧ k ≤ n ∧ i = .int .i64 k ∧ Hid (∀ i, 0 ≤ i → i < k → (ms.getD i (0, 0, 0)).1 < fr) ∧ Below w.heap.size w wr)
  case atStart => exact ⟨0, rfl, Nat.zero_le _, rfl, fun i _ h => by omega, Below.refl _ _⟩
  case round =>
    obtain ⟨k, rfl, hk, rfl, hall, hb⟩ := hrel
    by_cases hlt : k < n
    · obtain ⟨b, o, hab, hbs, hcells⟩ := HS.out.at_ (by omega)
      obtain ⟨x0c, -, -⟩ := hcells k hlt
      have hcw := (bcell hb).1
      rw [← hcw b _ hbs] at x0c
      clear hcells hcw
      have hkl : (k : Int) < n := by omega
      have hk0 : 0 ≤ (k : Int) := by omega
      have hx : Hid (∀ i, 0 ≤ i → i < k + 1 → i = k ∨ i < k) := fun i a b => by omega
      obtain ⟨x0, ex⟩ : ∃ x0, (ms.getD k (0, 0, 0)).1 = x0 := ⟨_, rfl⟩
      rw [ex] at x0c
      have EX := Lib.hid ex
      clear ex
      by_cases hx0 : x0 < fr
      · have hall' : Hid (∀ i, 0 ≤ i → i < k + 1 → (ms.getD i (0, 0, 0)).1 < fr) := fun i a b => by
          rcases hx.out i a b with rfl | h
          · rw [EX.out]; exact hx0
          · exact hall.out i a h
        go_wp2_with fail
        go_roundg (n - (k + 1))
        case measure => omega
        case rel => exact ⟨k + 1, rfl, hlt, by go_num, hall', hb⟩
      · have hN : Hid (N = k) := HM.out.trans (HN.out k (by omega) (fun i a b => hall.out i a b) (fun _ => by rw [EX.out]; omega))
        by_cases he : x0 = fr
        · have hL : Hid (L = k) := by rw [Hid, HL.out, hN.out, if_pos ⟨hlt, by rw [EX.out]; exact he⟩]
          subst he
          go_wp2_with fail
          go_ret2
          exact ⟨pair_ret hL.out.symm (by rw [hN.out]), hb⟩
        · have hL : Hid (L = (k : Int) - 1) := by rw [Hid, HL.out, hN.out, if_neg (by rw [EX.out]; exact fun h => he h.2)]
          have heb : (x0 == fr) = false := by simpa using he
          go_wp2_with fail
          go_ret2
          exact ⟨pair_ret hL.out.symm (by rw [hN.out]), hb⟩
    · obtain rfl : k = n := by omega
      have hN : Hid (N = k) := HM.out.trans (HN.out k (by omega) (fun i a b => hall.out i a b) (fun h => by omega))
      have hL : Hid (L = (k : Int) - 1) := by rw [Hid, HL.out, hN.out, if_neg (fun h => absurd h.1 (Nat.lt_irrefl _))]
      go_wp2_with fail
      go_ret2
      exact ⟨pair_ret hL.out.symm (by rw [hN.out]), hb⟩

/-- What between returns: the roll, and the span. -/
def betS (f : Int) (ms : List T3) (n : Nat) (fr : Int) : Int × Int × Int :=
  let roll := if lastI ms n fr < 0 then (ms.getD (nextI ms n fr) (0, 0, 0)).2.1 else (ms.getD (lastI ms n fr).toNat (0, 0, 0)).2.1
  (roll, if lastI ms n fr < 0 then 0 else (ms.getD (lastI ms n fr).toNat (0, 0, 0)).2.2 * f + (fr - (ms.getD (lastI ms n fr).toNat (0, 0, 0)).1),
    if nextI ms n fr < n ∧ (ms.getD (nextI ms n fr) (0, 0, 0)).2.1 = roll then (ms.getD (nextI ms n fr) (0, 0, 0)).2.2 * f - ((ms.getD (nextI ms n fr) (0, 0, 0)).1 - fr) else 9999 * f)
/-- What is known of the two indices. -/
theorem nextTo_spec (ms : List T3) (fr : Int) : ∀ (n k : Nat), k ≤ nextTo ms fr n k ∧ nextTo ms fr n k ≤ k + n ∧ (∀ i, k ≤ i → i < nextTo ms fr n k → (ms.getD i (0, 0, 0)).1 < fr) ∧ (nextTo ms fr n k < k + n → ¬ (ms.getD (nextTo ms fr n k) (0, 0, 0)).1 < fr)
  | 0, k => ⟨Nat.le_refl _, Nat.le_refl _, fun i a b => by unfold nextTo at b; omega, fun h => by unfold nextTo at h; omega⟩
  | n + 1, k => by
    unfold nextTo
    by_cases h : (ms.getD k (0, 0, 0)).1 < fr
    · rw [if_pos h]
      obtain ⟨h1, h2, h3, h4⟩ := nextTo_spec ms fr n (k + 1)
      refine ⟨by omega, by omega, fun i a b => ?_, fun hh => h4 (by omega)⟩
      by_cases e : i = k
      · rw [e]; exact h
      · exact h3 i (by omega) b
    · rw [if_neg h]
      exact ⟨Nat.le_refl _, by omega, fun i a b => by omega, fun _ => h⟩
theorem nextI_spec (ms : List T3) (n : Nat) (fr : Int) : nextI ms n fr ≤ n ∧ (∀ i, i < nextI ms n fr → (ms.getD i (0, 0, 0)).1 < fr) ∧ (nextI ms n fr < n → fr ≤ (ms.getD (nextI ms n fr) (0, 0, 0)).1) := by
  obtain ⟨h1, h2, h3, h4⟩ := nextTo_spec ms fr n 0
  exact ⟨by unfold nextI; omega, fun i hi => h3 i (Nat.zero_le _) hi, fun h => by have := h4 (by unfold nextI at h; omega); unfold nextI; omega⟩
end Go.Proofs.YtgjpbffoalldkaaGreatDoor

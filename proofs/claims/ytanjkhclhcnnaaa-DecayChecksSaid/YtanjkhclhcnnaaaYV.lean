/- Mathematics of by: which test strikes. -/
import Derived.Test.YtanjkhclhcnnaaaYM
import Derived.Test.YtanjkhclhcnnaaaYS
import Derived.Test.YtanjkhclhcnnaaaYB
namespace Go.Proofs.Ytanjkhclhcnnaaa
open Go.RowKit Go.Shelf

def keepT (r : RuA) (ts : List T3) (i : Nat) : T2 := keepS r (ts.getD i (0, 0, 0)).2.1 (ts.getD i (0, 0, 0)).2.2
def nextFold (r : RuA) (ss : List T2) (p : T2) (ms : List Nat) : T2 := ms.foldl (fun p m => nextS r (ss.getD m (0, 0)) p) p
/-- Is a test struck by a former one? -/
def stopB (r : RuA) (ss : List T2) (ts : List T3) (mor : Nat → Nat) (z i : Nat) : Bool :=
  !decide (max (nextFold r ss (keepT r ts i) (List.range' (mor i) (mor z - mor i))).1 (keepT r ts z).1 ≤ min (nextFold r ss (keepT r ts i) (List.range' (mor i) (mor z - mor i))).2 (keepT r ts z).2)

/-- Levels at both ends. -/
structure InSp (p : T2) : Prop where
  a : 0 ≤ p.1 ∧ p.1 ≤ 1000000
  b : 0 ≤ p.2 ∧ p.2 ≤ 1000000
theorem next_in {r : RuA} {hs ws : List T2} (h : RuOK r hs ws) {s p : T2} (hs' : StrOK s) (hp : InSp p) : InSp (nextS r s p) := by
  have g1 := (h.gain_bd hp.a.1 hp.a.2 hs'.lo (by have := hs'.le; have := hs'.hi; omega)).2.2.1
  have g2 := (h.gain_bd hp.b.1 hp.b.2 (by have := hs'.le; have := hs'.lo; omega) hs'.hi).2.2.1
  have a1 := hp.a.1
  have b1 := hp.b.1
  refine ⟨⟨?_, ?_⟩, ⟨?_, ?_⟩⟩
  · show 0 ≤ leastS r s.1 p.1; unfold leastS; omega
  · show leastS r s.1 p.1 ≤ 1000000; unfold leastS; omega
  · show 0 ≤ mostS r s.2 p.2; unfold mostS; omega
  · show mostS r s.2 p.2 ≤ 1000000; unfold mostS; omega
theorem grS_bd {r : RuA} {hs ws : List T2} (h : RuOK r hs ws) (i : Int) : 1 ≤ grS r i ∧ grS r i ≤ 1000000 := by
  obtain ⟨a, b, c, d⟩ := h.g
  unfold grS
  split
  · omega
  · split <;> omega
theorem keep_in {r : RuA} {hs ws : List T2} (h : RuOK r hs ws) (g e : Int) : InSp (keepS r g e) := by
  have h1 := grS_bd h (g - e - 1)
  have h2 := grS_bd h (g + e)
  refine ⟨⟨?_, ?_⟩, ⟨?_, ?_⟩⟩
  all_goals (unfold keepS; simp only; split <;> omega)

def intsL (L : List Nat) : List Int := L.map fun (i : Nat) => (i : Int)
theorem intsL_getD (L : List Nat) (i : Nat) : (intsL L).getD i 0 = ((L.getD i 0 : Nat) : Int) := by
  unfold intsL
  simp only [List.getD, List.getElem?_map]
  cases L[i]? <;> rfl
theorem getD_mem {L : List Nat} {i : Nat} (h : i < L.length) : L.getD i 0 ∈ L := by
  have e : L.getD i 0 = L[i] := by simp [List.getD, h]
  rw [e]; exact List.getElem_mem h
/-- A list from behind, by what has come. -/
theorem rev_take {L : List Nat} {n : Nat} (h : L.length = n) : L.reverse = (List.finRange n).map fun x => L.getD (n - 1 - x.val) 0 := by
  subst h
  apply List.ext_getElem
  · simp
  · intro i h1 h2
    simp at h1
    have h3 : L.length - 1 - i < L.length := by omega
    simp [List.getD, h3]
theorem find_none {p : Nat → Bool} {L : List Nat} {n : Nat} (h : L.length = n) (hs : ∀ x ∈ List.finRange n, p (L.getD (n - 1 - x.val) 0) = false) : L.reverse.find? p = none := by
  rw [rev_take h, List.find?_map]
  rw [Option.map_eq_none_iff, List.find?_eq_none]
  intro x hx
  simpa using hs x hx
theorem find_at {p : Nat → Bool} {L : List Nat} {n : Nat} (h : L.length = n) {pre : List (Fin n)} {x : Fin n} (hp : pre ++ [x] <+: List.finRange n) (hs : ∀ y ∈ pre, p (L.getD (n - 1 - y.val) 0) = false) (hx : p (L.getD (n - 1 - x.val) 0) = true) : L.reverse.find? p = some (L.getD (n - 1 - x.val) 0) := by
  obtain ⟨post, hpost⟩ := hp
  rw [rev_take h, ← hpost, List.map_append, List.map_append, List.find?_append, List.find?_append]
  have h1 : (pre.map fun x => L.getD (n - 1 - x.val) 0).find? p = none := by
    rw [List.find?_map, Option.map_eq_none_iff, List.find?_eq_none]
    intro y hy
    simpa using hs y hy
  rw [h1]
  simp only [List.map_cons, List.map_nil, Option.none_or]
  rw [List.find?_cons_of_pos hx]
  rfl
/-- The last one of the former tests by which a test is struck, or -1. -/
def byS (r : RuA) (ss : List T2) (ts : List T3) (mor : Nat → Nat) (z : Nat) (L : List Nat) : Int := match L.reverse.find? (stopB r ss ts mor z) with | some i => (i : Int) | none => -1
theorem byS_none {r : RuA} {ss : List T2} {ts : List T3} {mor : Nat → Nat} {z : Nat} {L : List Nat} {n : Nat} (h : L.length = n) (hs : ∀ x ∈ List.finRange n, stopB r ss ts mor z (L.getD (n - 1 - x.val) 0) = false) : byS r ss ts mor z L = -1 := by
  unfold byS; rw [find_none h hs]
theorem byS_at {r : RuA} {ss : List T2} {ts : List T3} {mor : Nat → Nat} {z : Nat} {L : List Nat} {n : Nat} (h : L.length = n) {pre : List (Fin n)} {x : Fin n} (hp : pre ++ [x] <+: List.finRange n) (hs : ∀ y ∈ pre, stopB r ss ts mor z (L.getD (n - 1 - y.val) 0) = false) (hx : stopB r ss ts mor z (L.getD (n - 1 - x.val) 0) = true) : byS r ss ts mor z L = (L.getD (n - 1 - x.val) 0 : Nat) := by
  unfold byS; rw [find_at h hp hs hx]
end Go.Proofs.Ytanjkhclhcnnaaa

/- Sorting by insertion, for any comparison that only makes memory. -/
import Derived.Test.YtanjkhclhcnnaaaWY
import Derived.Test.YtanjkhclhcnnaaaWA
import Derived.Deep.RegionHeld3
import Derived.Deep.DeepCutAuto
import Derived.Deep.LoopGhost
import Derived.RegionTactic
import Derived.BigRegion
namespace Go.Proofs.Ytanjkhclhcnnaaa
open Go.RowKit Go.Shelf

theorem only_refl (w : World) (row : Option Nat) : w.grownBy w row := ⟨rfl, rfl, rfl, Nat.le_refl _, fun _ _ _ => rfl⟩
theorem only_trans {a b c : World} {row : Option Nat} (h : a.grownBy b row) (k : b.grownBy c row) : a.grownBy c row :=
  ⟨k.os.trans h.os, k.tape.trans h.tape, k.output.trans h.output, Nat.le_trans h.size k.size, fun i hi hne => (k.block i (Nat.lt_of_lt_of_le hi h.size) hne).trans (h.block i hi hne)⟩
theorem only_drew {a w : World} {row : Option Nat} (h : a.grownBy w row) : a.grownBy w.drew row := ⟨h.os, h.tape, h.output, h.size, h.block⟩
theorem only_below {w w1 : World} (row : Option Nat) (h : Below w.heap.size w w1) : w.grownBy w1 row := ⟨h.os, h.tape, h.output, h.size, fun i hi _ => h.block i hi⟩
theorem only_setCell {a w : World} {g : Nat} (h : a.grownBy w (some g)) {p : Addr} (hp : p.block = g) (u : Value) : a.grownBy (w.setCell p u) (some g) :=
  ⟨h.os, h.tape, h.output, by simpa [World.setCell] using h.size, fun i hi hne => (Below.heap_setCell w p u i (by
    rintro rfl
    exact hne (by rw [hp]))).trans (h.block i hi hne)⟩

def swapL (l : List Nat) (j : Nat) : List Nat := (l.set (j + 1) (l.getD j 0)).set j (l.getD (j + 1) 0)
/-- The element at a place moves down as long as it is less. -/
def sinkL (lt : Nat → Nat → Bool) : Nat → List Nat → List Nat
  | 0, l => l
  | j + 1, l => if lt (l.getD (j + 1) 0) (l.getD j 0) then sinkL lt j (swapL l j) else l
/-- The places up to one have been put in order. -/
def isortL (lt : Nat → Nat → Bool) (l : List Nat) : Nat → List Nat
  | 0 => l
  | i + 1 => sinkL lt (i + 1) (isortL lt l i)
theorem swapL_len (l : List Nat) (j : Nat) : (swapL l j).length = l.length := by simp [swapL]
theorem sinkL_len (lt : Nat → Nat → Bool) : ∀ (j : Nat) (l : List Nat), (sinkL lt j l).length = l.length
  | 0, _ => rfl
  | j + 1, l => by unfold sinkL; split; · rw [sinkL_len lt j, swapL_len]
                   · rfl
theorem isortL_len (lt : Nat → Nat → Bool) (l : List Nat) : ∀ i, (isortL lt l i).length = l.length
  | 0 => rfl
  | i + 1 => by unfold isortL; rw [sinkL_len, isortL_len lt l i]
theorem getD_mem_lt {l : List Nat} {n : Nat} (h : ∀ x ∈ l, x < n) {j : Nat} (hj : j < l.length) : l.getD j 0 < n := by
  have e : l.getD j 0 = l[j] := by simp [List.getD, hj]
  rw [e]; exact h _ (List.getElem_mem hj)
theorem swapL_mem {l : List Nat} {n j : Nat} (h : ∀ x ∈ l, x < n) (hj : j + 1 < l.length) : ∀ x ∈ swapL l j, x < n := by
  intro x hx
  unfold swapL at hx
  rcases List.mem_or_eq_of_mem_set hx with hx | rfl
  · rcases List.mem_or_eq_of_mem_set hx with hx | rfl
    · exact h x hx
    · exact getD_mem_lt h (by omega)
  · exact getD_mem_lt h hj
theorem sinkL_mem {lt : Nat → Nat → Bool} {n : Nat} : ∀ (j : Nat) {l : List Nat}, (∀ x ∈ l, x < n) → j < l.length → ∀ x ∈ sinkL lt j l, x < n
  | 0, _, h, _ => h
  | j + 1, l, h, hj => by
    unfold sinkL; split
    · exact sinkL_mem j (swapL_mem h hj) (by rw [swapL_len]; omega)
    · exact h
theorem isortL_mem {lt : Nat → Nat → Bool} {n : Nat} {l : List Nat} (h : ∀ x ∈ l, x < n) : ∀ i, i < l.length → ∀ x ∈ isortL lt l i, x < n
  | 0, _ => h
  | i + 1, hi => by unfold isortL; exact sinkL_mem _ (isortL_mem h i (by omega)) (by rw [isortL_len]; exact hi)

def cellsN (l : List Nat) : Array Value := (l.map fun (x : Nat) => (.int .i64 x : Value)).toArray
theorem cellsN_at {l : List Nat} {j : Nat} (hj : j < l.length) : (cellsN l)[j]? = some (.int .i64 (l.getD j 0 : Nat)) := by
  simp [cellsN, List.getD, hj]
theorem cellsN_swap {l : List Nat} {j : Nat} : ((cellsN l).setIfInBounds (j + 1) (.int .i64 (l.getD j 0 : Nat))).setIfInBounds j (.int .i64 (l.getD (j + 1) 0 : Nat)) = cellsN (swapL l j) := by
  simp [cellsN, swapL, List.map_set]
end Go.Proofs.Ytanjkhclhcnnaaa

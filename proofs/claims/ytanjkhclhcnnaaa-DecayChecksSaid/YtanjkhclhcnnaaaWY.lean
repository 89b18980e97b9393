/- Blocks known whole; rows of spans. -/
import Derived.Test.YtanjkhclhcnnaaaWJ
import Derived.Lib.OwnKind
import Derived.OneCell
namespace Go.Proofs.Ytanjkhclhcnnaaa
open Go.RowKit Go.Shelf

/-- A block that holds just these cells. -/
def Ob (W : World) (B : Nat) (T : TypeId) (cs : Array Value) : Prop := W.heap[B]? = some (.cells cs T (0, 0))
theorem Ob.lt {W : World} {B : Nat} {T : TypeId} {cs : Array Value} (h : Ob W B T cs) : B < W.heap.size := (Array.getElem?_eq_some_iff.1 h).1
theorem Ob.cell {W : World} {B : Nat} {T : TypeId} {cs : Array Value} (h : Ob W B T cs) (j : Nat) : W.cell? ⟨B, j, none⟩ = cs[j]? := by
  unfold Ob at h; simp [World.cell?, h]
theorem Ob.frozen {W : World} {B : Nat} {T : TypeId} {cs : Array Value} (h : Ob W B T cs) (j : Nat) : W.frozen? ⟨B, j, none⟩ = false := by
  unfold Ob at h; simp [World.frozen?, h]
theorem Ob.drew {W : World} {B : Nat} {T : TypeId} {cs : Array Value} (h : Ob W B T cs) : Ob W.drew B T cs := h
theorem Ob.below {W W1 : World} {B : Nat} {T : TypeId} {cs : Array Value} (h : Ob W B T cs) (hb : Below W.heap.size W W1) : Ob W1 B T cs := (hb.block B h.lt).trans h
theorem Ob.grown {W W1 : World} {B : Nat} {T : TypeId} {cs : Array Value} {row : Option Nat} (h : Ob W B T cs) (hg : W.grownBy W1 row) (hne : row ≠ some B) : Ob W1 B T cs := (hg.block B h.lt (fun e => hne e.symm)).trans h
theorem Ob.new (W : World) (cs : Array Value) (T : TypeId) : Ob (W.alloc (.cells cs T)) W.heap.size T cs := by show (W.heap.push _)[W.heap.size]? = _; simp
theorem Ob.alloc {W : World} {B : Nat} {T : TypeId} {cs : Array Value} (h : Ob W B T cs) (o : Obj) : Ob (W.alloc o) B T cs := h.below (B_alloc (Below.refl _ _) _)
theorem Ob.other {W : World} {B : Nat} {T : TypeId} {cs : Array Value} (h : Ob W B T cs) {p : Addr} (hne : p.block ≠ B) (v : Value) : Ob (W.setCell p v) B T cs :=
  (Below.heap_setCell W p v B (fun e => hne e.symm)).trans h
theorem Ob.set {W : World} {B : Nat} {T : TypeId} {cs : Array Value} (h : Ob W B T cs) (j : Nat) (v : Value) : Ob (W.setCell ⟨B, j, none⟩ v) B T (cs.setIfInBounds j v) := by
  unfold Ob at h ⊢
  show (W.heap.modify B _)[B]? = _
  rw [Array.getElem?_modify, h]
  simp
/-- A row's block holds another type. -/
theorem Ob.row {W : World} {B : Nat} {T : TypeId} {cs : Array Value} (h : Ob W B T cs) {base : Nat} {e : TypeId} {s n : Nat} {v : Value} {xs : List Value} (hr : W.ownsRow base e s v n xs) (hne : T ≠ e) : v.ownBlock ≠ some B := by
  intro e1
  obtain ⟨c, fz, h1⟩ := Lib.ownsRow_kind hr B e1
  unfold Ob at h
  rw [h] at h1
  injection h1 with h1
  injection h1 with _ h2
  exact hne h2
theorem rowN {W : World} {base : Nat} {e : TypeId} {s n : Nat} {v : Value} {xs : List Value} (h : W.ownsRow base e s v n xs) (o : Obj) : (W.alloc o).ownsRow base e s v n xs := h.alloc o
theorem row_below {W W1 : World} {base : Nat} {e : TypeId} {s n : Nat} {v : Value} {xs : List Value} (h : W.ownsRow base e s v n xs) (hb : Below W.heap.size W W1) : W1.ownsRow base e s v n xs :=
  h.kept (row := none) ⟨hb.os, hb.tape, hb.output, hb.size, fun i hi _ => hb.block i hi⟩ (by cases v.ownBlock with | none => exact .inl rfl | some g => exact .inr (by simp))
theorem row_set {W : World} {base : Nat} {e : TypeId} {s n : Nat} {v : Value} {xs : List Value} (h : W.ownsRow base e s v n xs) {a : Addr} (ha : v.ownBlock ≠ some a.block) (u : Value) : (W.setCell a u).ownsRow base e s v n xs := ownsRow_setCell_other h ha u

/-- Spans as cells. -/
def flat2 (l : List T2) : List Value := l.flatMap fun p => [.int .i64 p.1, .int .i64 p.2]
theorem flat2_len : ∀ l : List T2, (flat2 l).length = l.length * 2
  | [] => rfl
  | x :: l => by have := flat2_len l; simp [flat2] at this ⊢; omega
theorem flat2_snoc (l : List T2) (p : T2) : flat2 (l ++ [p]) = flat2 l ++ [.int .i64 p.1, .int .i64 p.2] := by simp [flat2]
theorem flat2_at : ∀ (l : List T2) (i : Nat), i < l.length → (flat2 l)[i * 2]? = some (.int .i64 (l.getD i (0, 0)).1) ∧ (flat2 l)[i * 2 + 1]? = some (.int .i64 (l.getD i (0, 0)).2)
  | [], i, h => by cases h
  | x :: l, 0, _ => ⟨rfl, rfl⟩
  | x :: l, i + 1, h => by
    have e : flat2 (x :: l) = [.int .i64 x.1, .int .i64 x.2] ++ flat2 l := rfl
    have ih := flat2_at l i (by simpa using h)
    rw [e, show (i + 1) * 2 = 2 + i * 2 by omega, show 2 + i * 2 + 1 = 2 + (i * 2 + 1) by omega]
    rw [List.getElem?_append_right (by simp), List.getElem?_append_right (by simp)]
    simpa using ih
/-- A row of spans, read. -/
theorem sl2_row {W : World} {B : Nat} {t : TypeId} {v : Value} {L : List T2} {n : Nat} (h : W.ownsRow B t 2 v n (flat2 L)) : ∃ a c, v = .slice a n c ∧ Sl2 W a n L ∧ n = L.length ∧ (∀ b, a = some b → b.block < W.heap.size ∧ B ≤ b.block) := by
  have hn : n = L.length := by have := h.1; rw [flat2_len] at this; omega
  rcases h.2 with ⟨rfl, rfl⟩ | ⟨g, cap, cur, rfl, hb, hg, hc1, hc2, hs, ht⟩
  · exact ⟨none, 0, rfl, ⟨hn.symm, fun h => absurd h (Nat.lt_irrefl 0)⟩, hn, fun b h => by cases h⟩
  · refine ⟨_, cap, rfl, ⟨hn.symm, fun _ => ⟨g, 0, rfl, (Array.getElem?_eq_some_iff.1 hg).1, fun i hi => ?_⟩⟩, hn, fun b h => by cases h; exact ⟨(Array.getElem?_eq_some_iff.1 hg).1, hb⟩⟩
    have hat := flat2_at L i (by omega)
    have key : ∀ j, j < n * 2 → W.cell? ⟨g, j, none⟩ = (flat2 L)[j]? := fun j hj => by
      rw [← ht, List.getElem?_take, if_pos hj]
      simp [World.cell?, hg]
    rw [show 0 + i * 2 = i * 2 by omega]
    exact ⟨(key _ (by omega)).trans hat.1, (key _ (by omega)).trans hat.2⟩
end Go.Proofs.Ytanjkhclhcnnaaa

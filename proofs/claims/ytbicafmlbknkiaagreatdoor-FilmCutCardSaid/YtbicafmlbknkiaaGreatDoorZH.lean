/- FilmFurther: the regions that append to a copy of a slice and store it. -/
import Derived.Test.YtbicafmlbknkiaaGreatDoorZD
import Derived.Test.YtbicafmlbknkiaaGreatDoorZA
namespace Go.Proofs.YtbicafmlbknkiaaGreatDoor
open Go.RowKit

/-- What such a region speaks of: where new blocks begin; the boxes of the new reel, of the old one and of the further element; which field; the elements' type and cells; the slice, its cells, and those of the further element. -/
structure FurP where
  base : Nat
  Sb : Nat
  Rb : Nat
  Xb : Nat
  off : Nat
  e : TypeId
  sz : Nat
  a : Option Addr
  n : Nat
  c : Nat
  xs : List Value
  nw : List Value
/-- What the region's slots hold (by their order, from 1 on). -/
def furR (p : FurP) : Nat → Value → World → Prop
  | 1, v, w => ∃ g, v = .slice (some ⟨g, 0, none⟩) 0 0 ∧ p.base ≤ g ∧ w.heap[g]? = some (.cells #[] p.e (0, 0))
  | 2, v, _ => v = .pointer (some ⟨p.Rb, p.off, none⟩)
  | 3, v, _ => v = .slice p.a p.n p.c
  | 4, v, w => w.ownsRow p.base p.e p.sz v p.n p.xs
  | 5, v, _ => v = .agg p.nw.toArray
  | 6, v, w => ∃ q, v = .slice (some ⟨q, 0, none⟩) 1 1 ∧ p.base ≤ q ∧ w.heap[q]? = some (.cells p.nw.toArray p.e (0, 0))
  | 7, v, w => w.ownsRow p.base p.e p.sz v (p.n + 1) (p.xs ++ p.nw)
  | 8, v, _ => v = .pointer (some ⟨p.Sb, p.off, none⟩)
  | _, _, _ => True
/-- What always holds there. -/
structure FurS (p : FurP) (r : RA) (w0 w : World) : Prop where
  only : w0.grownBy w (some p.Sb)
  cell : ∀ j, j ≠ p.off → w.cell? ⟨p.Sb, j, none⟩ = r.cs[j]?
  at_ : ∃ u, w.cell? ⟨p.Sb, p.off, none⟩ = some u
  open_ : ∀ j, w.frozen? ⟨p.Sb, j, none⟩ = false
/-- What the store has done. -/
def furT (p : FurP) (w : World) : Prop := ∃ a c, w.ownsRow p.base p.e p.sz (.slice a (p.n + 1) c) (p.n + 1) (p.xs ++ p.nw) ∧ w.cell? ⟨p.Sb, p.off, none⟩ = some (.slice a (p.n + 1) c)
/-- What holds of it before. -/
structure FurOK (p : FurP) (w0 : World) : Prop where
  base : p.base = w0.heap.size
  Sb : p.Sb < w0.heap.size
  Rb : p.Rb < p.Sb
  Xb : p.Xb < p.Sb
  rc : w0.cell? ⟨p.Rb, p.off, none⟩ = some (.slice p.a p.n p.c)
  xc : ∀ j v, p.nw[j]? = some v → w0.cell? ⟨p.Xb, j, none⟩ = some v
  src : 0 < p.n → ∃ b o, p.a = some ⟨b, o, none⟩ ∧ b < p.Sb ∧ ∀ j v, p.xs[j]? = some v → w0.cell? ⟨b, o + j, none⟩ = some v
  xl : p.xs.length = p.n * p.sz
  nl : p.nw.length = p.sz
  sz : 0 < p.sz
  xo : ∀ u ∈ p.xs, u.oneCell' = true
  no : ∀ u ∈ p.nw, u.oneCell' = true
  few : p.n ≤ 140737488351232

theorem grown_none {w : World} (O : Obj) : w.grownBy (w.alloc O) none := World.grownBy_alloc w O none
theorem heap_at {w w' : World} {row : Option Nat} {g : Nat} {o : Obj} (h : w.heap[g]? = some o) (hg : w.grownBy w' row) (hne : row ≠ some g) : w'.heap[g]? = some o := by
  have hl : g < w.heap.size := (Array.getElem?_eq_some_iff.1 h).1
  rw [hg.block g hl (fun e => hne e.symm)]
  exact h
/-- What is claimed of a slot stays where other blocks turn. -/
theorem furR_grown {p : FurP} {w w' : World} {row : Option Nat} (hg : w.grownBy w' row) (hrow : ∀ g, row = some g → g < p.base) : ∀ k v, furR p k v w → furR p k v w'
  | 0, _, _ => trivial
  | 1, v, ⟨g, e, h1, h2⟩ => ⟨g, e, h1, heap_at h2 hg (fun e => by have := hrow g e; omega)⟩
  | 2, _, h => h
  | 3, _, h => h
  | 4, v, h => World.ownsRow.kept h hg (row_far h hrow)
  | 5, _, h => h
  | 6, v, ⟨g, e, h1, h2⟩ => ⟨g, e, h1, heap_at h2 hg (fun e => by have := hrow g e; omega)⟩
  | 7, v, h => World.ownsRow.kept h hg (row_far h hrow)
  | 8, _, h => h
  | _ + 9, _, _ => trivial
where
  row_far {p : FurP} {w : World} {row : Option Nat} {n : Nat} {v : Value} {xs : List Value} (h : w.ownsRow p.base p.e p.sz v n xs) (hrow : ∀ g, row = some g → g < p.base) : v.ownBlock = none ∨ v.ownBlock ≠ row := by
    by_cases e : v.ownBlock = none
    · exact .inl e
    · refine .inr fun e2 => ?_
      cases hv : v.ownBlock with
      | none => exact e hv
      | some g =>
        have h1 := (h.lt g hv).1
        have h2 := hrow g (by rw [← e2, hv])
        omega
theorem FurS.grown {p : FurP} {r : RA} {w0 w w' : World} {row : Option Nat} (h : FurS p r w0 w) (ho : FurOK p w0) (hg : w.grownBy w' row) (hrow : ∀ g, row = some g → p.base ≤ g) : FurS p r w0 w' := by
  have hl : p.Sb < w.heap.size := Nat.lt_of_lt_of_le ho.Sb h.only.size
  have hne : some p.Sb ≠ row := fun e => by have := hrow p.Sb e.symm; have := ho.base; have := ho.Sb; omega
  have hb := hg.block p.Sb hl hne
  refine ⟨h.only.andThen hg (fun g e => .inl (by have := hrow g e; have := ho.base; omega)), fun j hj => (World.cell?_of_block hb).trans (h.cell j hj), ?_, fun j => (World.frozen?_of_block hb).trans (h.open_ j)⟩
  obtain ⟨u, hu⟩ := h.at_
  exact ⟨u, (World.cell?_of_block hb).trans hu⟩
theorem FurS.store {p : FurP} {r : RA} {w0 w : World} (h : FurS p r w0 w) (v : Value) : FurS p r w0 (w.setCell ⟨p.Sb, p.off, none⟩ v) := by
  obtain ⟨u, hu⟩ := h.at_
  refine ⟨only_setCell h.only rfl v, fun j hj => ?_, ⟨v, set_same hu⟩, fun j => set_frozen (h.open_ j)⟩
  exact (World.cell?_setCell_other _ _ _ _ (fun e => hj (by injection e with _ e2; exact e2.symm))).trans (h.cell j hj)
theorem FurS.old {p : FurP} {r : RA} {w0 w : World} (h : FurS p r w0 w) (ho : FurOK p w0) {b o : Nat} {u : Value} (hb : b < p.Sb) (hc : w0.cell? ⟨b, o, none⟩ = some u) : w.cell? ⟨b, o, none⟩ = some u :=
  (only_cell h.only (by have := ho.Sb; omega) (by omega)).trans hc
theorem row_of_empty {w : World} {base : Nat} {e : TypeId} {sz g : Nat} (hg : base ≤ g) (h : w.heap[g]? = some (.cells #[] e (0, 0))) : w.ownsRow base e sz (.slice (some ⟨g, 0, none⟩) 0 0) 0 [] :=
  ⟨by simp, .inr ⟨g, 0, #[], rfl, hg, h, Nat.le_refl _, Nat.zero_le _, by simp, by simp⟩⟩
theorem heap_new (w : World) (O : Obj) : (w.alloc O).heap[w.heap.size]? = some O := by show (w.heap.push O)[w.heap.size]? = some O; simp
theorem cell_block {w : World} {q : Nat} {cs : Array Value} {t : TypeId} {fz : Nat × Nat} (h : w.heap[q]? = some (.cells cs t fz)) (j : Nat) (v : Value) (hv : cs[j]? = some v) : w.cell? ⟨q, j, none⟩ = some v := by
  simp [World.cell?, h, hv]
end Go.Proofs.YtbicafmlbknkiaaGreatDoor

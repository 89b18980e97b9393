/- The walk of made (FilmCut): the region that stores a mark. -/
import Derived.Test.YtbicafmlbknkiaaGreatDoorZK
import Derived.Test.YtbicafmlbknkiaaGreatDoorZL
import Derived.Test.YtbicafmlbknkiaaGreatDoorZH
namespace Go.Proofs.YtbicafmlbknkiaaGreatDoor
open Go.RowKit

/-- What the region speaks of. -/
structure CutP where
  wb : World
  base : Nat
  Sb : Nat
  Xb : Nat
  r : RA
  a : Option Addr
  n : Nat
  c : Nat
  xs : List Value
  k : Int
  ro : Int
  pos : Int
  foot : Int
  vall : Value
  zall : List Int
def CutP.nw (p : CutP) : List Value := [.int .i64 p.k, .int .i64 (p.ro % 100), .int .i64 (p.pos / p.foot)]
def cutR (p : CutP) : Nat → Value → World → Prop
  | 1, v, _ => v = .pointer (some ⟨p.Sb, 7, none⟩)
  | 2, v, w => v = .slice p.a p.n p.c ∧ w.ownsRow p.base 68 3 v p.n p.xs
  | 3, v, _ => v = .int .i64 p.k
  | 4, v, _ => v = .pointer (some ⟨p.Xb, 1, none⟩)
  | 5, v, _ => v = .int .u8 p.ro
  | 6, v, _ => v = .int .i64 p.ro
  | 7, v, _ => v = .int .i64 (p.ro % 100)
  | 8, v, _ => v = .int .i64 p.pos
  | 9, v, _ => v = .int .i64 p.foot
  | 10, v, _ => v = .int .i64 (p.pos / p.foot)
  | 11, v, _ => v = .agg p.nw.toArray
  | 12, v, w => ∃ q, v = .slice (some ⟨q, 0, none⟩) 1 1 ∧ p.base ≤ q ∧ w.heap[q]? = some (.cells p.nw.toArray 68 (0, 0))
  | 13, v, w => w.ownsRow p.base 68 3 v (p.n + 1) (p.xs ++ p.nw)
  | 14, v, _ => v = .pointer (some ⟨p.Sb, 7, none⟩)
  | _, _, _ => True
structure CutS (p : CutP) (b : Bool) (w : World) : Prop where
  first : b = false → w.ownsRow p.base 68 3 (.slice p.a p.n p.c) p.n p.xs ∧ w.cell? ⟨p.Sb, 7, none⟩ = some (.slice p.a p.n p.c)
  below : Below p.wb.heap.size p.wb w
  cell : ∀ j, j ≠ 7 → w.cell? ⟨p.Sb, j, none⟩ = p.r.cs[j]?
  at_ : ∃ u, w.cell? ⟨p.Sb, 7, none⟩ = some u
  open_ : ∀ j, w.frozen? ⟨p.Sb, j, none⟩ = false
  all : w.ownsRow p.base 3 1 p.vall p.zall.length (p.zall.map (Value.int .i64))
  size : p.base ≤ w.heap.size
def cutT (p : CutP) (w : World) : Prop := ∃ a c, w.ownsRow p.base 68 3 (.slice a (p.n + 1) c) (p.n + 1) (p.xs ++ p.nw) ∧ w.cell? ⟨p.Sb, 7, none⟩ = some (.slice a (p.n + 1) c)
theorem row_far {base e sz : Nat} {w : World} {row : Option Nat} {n : Nat} {v : Value} {xs : List Value} (h : w.ownsRow base e sz v n xs) (hrow : ∀ g, row = some g → g < base) : v.ownBlock = none ∨ v.ownBlock ≠ row := by
  by_cases e : v.ownBlock = none
  · exact .inl e
  · refine .inr fun e2 => ?_
    cases hv : v.ownBlock with
    | none => exact e hv
    | some g =>
      have h1 := (h.lt g hv).1
      have h2 := hrow g (by rw [← e2, hv])
      omega
theorem cutR_grown {p : CutP} {w w' : World} {row : Option Nat} (hg : w.grownBy w' row) (hrow : ∀ g, row = some g → g < p.base) : ∀ k v, cutR p k v w → cutR p k v w'
  | 0, _, _ => trivial
  | 1, _, h => h
  | 2, _, ⟨e, h⟩ => ⟨e, World.ownsRow.kept h hg (row_far h hrow)⟩
  | 3, _, h => h
  | 4, _, h => h
  | 5, _, h => h
  | 6, _, h => h
  | 7, _, h => h
  | 8, _, h => h
  | 9, _, h => h
  | 10, _, h => h
  | 11, _, h => h
  | 12, _, ⟨g, e, h1, h2⟩ => ⟨g, e, h1, heap_at h2 hg (fun e => by have := hrow g e; omega)⟩
  | 13, _, h => World.ownsRow.kept h hg (row_far h hrow)
  | 14, _, h => h
  | _ + 15, _, _ => trivial
theorem CutS.alloc {p : CutP} {b : Bool} {w : World} (h : CutS p b w) (hb : p.base = p.Sb + 1) (O : Obj) : CutS p b (w.alloc O) := by
  have hl : p.Sb < w.heap.size := by have := h.size; omega
  have hB : Below w.heap.size w (w.alloc O) := B_alloc (Below.refl _ _) O
  refine ⟨fun e => ⟨(h.first e).1.alloc O, (hB.cell (p := ⟨p.Sb, 7, none⟩) hl).trans (h.first e).2⟩, B_alloc h.below O, fun j hj => (hB.cell (p := ⟨p.Sb, j, none⟩) hl).trans (h.cell j hj), ?_, fun j => (hB.frozen (p := ⟨p.Sb, j, none⟩) hl).trans (h.open_ j), h.all.alloc O, by have := h.size; simp; omega⟩
  obtain ⟨u, hu⟩ := h.at_
  exact ⟨u, (hB.cell (p := ⟨p.Sb, 7, none⟩) hl).trans hu⟩
theorem CutS.join {p : CutP} {b : Bool} {w w' : World} {v : Value} {n : Nat} {xs : List Value} (h : CutS p b w) (hb : p.base = p.Sb + 1) (hs : p.wb.heap.size ≤ p.Sb) (hv : w.ownsRow p.base 68 3 v n xs) (hg : w.grownBy w' v.ownBlock) : CutS p true w' := by
  have hl : p.Sb < w.heap.size := by have := h.size; omega
  have hne : some p.Sb ≠ v.ownBlock := fun e => by have := (hv.lt p.Sb e.symm).1; omega
  have hbk := hg.block p.Sb hl hne
  refine ⟨fun e => (by cases e), B_grown h.below (by have := h.size; omega) (Joins.ownsRow_le hv (by omega)) hg, fun j hj => (World.cell?_of_block hbk).trans (h.cell j hj), ?_, fun j => (World.frozen?_of_block hbk).trans (h.open_ j), h.all.kept hg (rows_ne (by decide) hv h.all), Nat.le_trans h.size hg.size⟩
  obtain ⟨u, hu⟩ := h.at_
  exact ⟨u, (World.cell?_of_block hbk).trans hu⟩
theorem CutS.store {p : CutP} {w : World} (h : CutS p true w) (hb : p.base = p.Sb + 1) (hs : p.wb.heap.size ≤ p.Sb) (v : Value) : CutS p true (w.setCell ⟨p.Sb, 7, none⟩ v) := by
  obtain ⟨u, hu⟩ := h.at_
  refine ⟨fun e => (by cases e), h.below.setCell (by show _ ≤ p.Sb; omega) v, fun j hj => ?_, ⟨v, set_same hu⟩, fun j => set_frozen (h.open_ j), ownsRow_setCell_below h.all (by show p.Sb < _; omega) v, by simpa [World.setCell] using h.size⟩
  exact (World.cell?_setCell_other _ _ _ _ (fun e => hj (by injection e with _ e2; exact e2.symm))).trans (h.cell j hj)
theorem run_append_in {P : Program} {ρ : Operand → Value} {o : Oper} {sl x : Operand} {t : TypeId} {v u v' : Value} {w w' : World} (ho : o.op = .call { callee := .builtin .append, args := #[sl, x], argTypes := #[t, t] }) (hs : ρ sl = v) (hx : ρ x = u)
    (hr : (Builtin.append_ #[t, t] o.type #[v, u]).run P w = .ok v' w') : (execOp ρ o).run P w = .ok (.value v') w' := by
  unfold execOp
  simp only [ho, resolve, invoke, builtin, Sem.run_bind, Sem.run_pure, Result.andThen_ok, List.map_toArray, List.map_cons, List.map_nil, hs, hx, hr]
theorem info68 : (Tryz.prog.info? 68).map (fun i => (i.zero, i.size, i.bytes)) = some (some (.agg #[.int .i64 0, .int .i64 0, .int .i64 0]), 3, 24) := by kernel_rfl
theorem cut_join {p : CutP} {w : World} {q : Nat} {v : Value} (hn : p.n ≤ 1000) (hs : p.base ≤ w.heap.size) (hv : w.ownsRow p.base 68 3 v p.n p.xs) (hh : w.heap[q]? = some (.cells p.nw.toArray 68 (0, 0))) :
    ∃ v' w', (Builtin.append_ #[26, 26] 26 #[v, .slice (some ⟨q, 0, none⟩) 1 1]).run Tryz.prog w = .ok v' w' ∧ w'.ownsRow p.base 68 3 v' (p.n + 1) (p.xs ++ p.nw) ∧ w.grownBy w' v.ownBlock := by
  obtain ⟨i68, hi, hz, hsz, hy⟩ := info_parts info68
  obtain ⟨v', w', h1, h2, h3, -⟩ := run_append_own (P := Tryz.prog) (w := w) p.base 26 26 68 i68 (.agg #[.int .i64 0, .int .i64 0, .int .i64 0]) 3 24 Tryz.underlying26 hi hz hsz hy rfl (by decide) _ p.n p.xs hv ⟨q, 0, none⟩ 1 1 p.nw rfl (fun j u h => by rw [Go.WideShapes.add_plain, Nat.zero_add]; exact cell_block hh j u (by simpa using h)) (fun u hu => by simp [CutP.nw] at hu; rcases hu with rfl | rfl | rfl <;> rfl) (by unfold maxLen; omega) (by omega) hs
  exact ⟨v', w', h1, h2, h3⟩
end Go.Proofs.YtbicafmlbknkiaaGreatDoor

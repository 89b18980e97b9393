/- The law FilmFurther. -/
import Derived.Test.YtbicafmlbknkiaaGreatDoorZG
import Derived.Test.YtbicafmlbknkiaaGreatDoorZH
namespace Go.Proofs.YtbicafmlbknkiaaGreatDoor
open Go.RowKit

theorem div3 (j : Nat) : j = j / 3 * 3 ∨ j = j / 3 * 3 + 1 ∨ j = j / 3 * 3 + 2 := by omega
theorem sl3_cells {w : World} {a : Option Addr} {n : Nat} {ls : List T3} (h : Sl3 w a n ls) (hn : 0 < n) : ∃ b o, a = some ⟨b, o, none⟩ ∧ b < w.heap.size ∧ ∀ j v, (flat3 ls)[j]? = some v → w.cell? ⟨b, o + j, none⟩ = some v := by
  obtain ⟨b, o, e, hb, hc⟩ := h.at_ hn
  refine ⟨b, o, e, hb, fun j v hv => ?_⟩
  have hj : j < ls.length * 3 := by rw [← flat3_len]; exact (List.getElem?_eq_some_iff.1 hv).1
  have hi : j / 3 < n := by rw [← h.len]; omega
  obtain ⟨c0, c1, c2⟩ := hc (j / 3) hi
  obtain ⟨f0, f1, f2⟩ := flat3_at ls (j / 3) (by rw [h.len]; exact hi)
  rcases div3 j with e1 | e1 | e1
  · rw [e1, f0] at hv; injection hv with hv; rw [e1, c0, hv]
  · rw [e1, f1] at hv; injection hv with hv; rw [e1, ← Nat.add_assoc, c1, hv]
  · rw [e1, f2] at hv; injection hv with hv; rw [e1, ← Nat.add_assoc, c2, hv]
theorem flat2_len (l : List T2) : (flat2 l).length = l.length * 2 := by
  induction l with
  | nil => rfl
  | cons a l ih => simp [flat2] at ih ⊢; omega
theorem div2 (j : Nat) : j = j / 2 * 2 ∨ j = j / 2 * 2 + 1 := by omega
theorem sl2_cells {w : World} {a : Option Addr} {n : Nat} {ls : List T2} (h : Sl2 w a n ls) (hn : 0 < n) : ∃ b o, a = some ⟨b, o, none⟩ ∧ b < w.heap.size ∧ ∀ j v, (flat2 ls)[j]? = some v → w.cell? ⟨b, o + j, none⟩ = some v := by
  obtain ⟨b, o, e, hb, hc⟩ := h.at_ hn
  refine ⟨b, o, e, hb, fun j v hv => ?_⟩
  have hj : j < ls.length * 2 := by rw [← flat2_len]; exact (List.getElem?_eq_some_iff.1 hv).1
  have hi : j / 2 < n := by rw [← h.len]; omega
  obtain ⟨c0, c1⟩ := hc (j / 2) hi
  obtain ⟨f0, f1⟩ := flat2_at ls (j / 2) (by rw [h.len]; exact hi)
  rcases div2 j with e1 | e1
  · rw [e1, f0] at hv; injection hv with hv; rw [e1, c0, hv]
  · rw [e1, f1] at hv; injection hv with hv; rw [e1, ← Nat.add_assoc, c1, hv]
theorem flat3_one (l : List T3) : ∀ u ∈ flat3 l, u.oneCell' = true := by
  intro u hu
  unfold flat3 at hu
  rw [List.mem_flatMap] at hu
  obtain ⟨x, -, hx⟩ := hu
  simp at hx
  rcases hx with rfl | rfl | rfl <;> rfl
theorem flat2_one (l : List T2) : ∀ u ∈ flat2 l, u.oneCell' = true := by
  intro u hu
  unfold flat2 at hu
  rw [List.mem_flatMap] at hu
  obtain ⟨x, -, hx⟩ := hu
  simp at hx
  rcases hx with rfl | rfl <;> rfl

theorem append_nil_run {P : Program} {st e : TypeId} {i : TypeInfo} {g c : Nat} {w : World} (ht : P.underlying st = some (.slice e)) (hi : P.info? e = some i) : (Builtin.append_ #[st, st] st #[.slice (some ⟨g, 0, none⟩) 0 0, .slice none 0 c]).run P w = .ok (.slice (some ⟨g, 0, none⟩) 0 0) w := by
  simp [Builtin.append_, run_underlying ht, sizeOf, typeInfo, hi, Builtin.lenOf, Builtin.firstCells, loadCells, loadCellsFrom, storeCells]
theorem below_set {w w1 : World} (h : Below w.heap.size w w1) (j : Nat) (v : Value) : Below w.heap.size w (w1.setCell ⟨w.heap.size, j, none⟩ v) := h.setCell (Nat.le_refl _) v
theorem cells_upd {w : World} {S j0 : Nat} {f : Nat → Option Value} {u v : Value} (h : ∀ j, w.cell? ⟨S, j, none⟩ = f j) (hu : f j0 = some u) : ∀ j, (w.setCell ⟨S, j0, none⟩ v).cell? ⟨S, j, none⟩ = if j = j0 then some v else f j := fun j => by
  by_cases e : j = j0
  · subst e; rw [if_pos rfl]; exact set_same ((h j).trans hu)
  · rw [if_neg e]
    exact (World.cell?_setCell_other _ _ _ _ (fun e' => e (by injection e' with _ e2; exact e2.symm))).trans (h j)
theorem Box.setAll {w : World} {S : Nat} {r2 : RA} (h : Box w S r2) (r : RA) : Box ((((((((((w.setCell ⟨S, 0, none⟩ (.string r.nm)).setCell ⟨S, 1, none⟩ (.int .i64 r.g)).setCell ⟨S, 2, none⟩ (.int .i64 r.b)).setCell ⟨S, 3, none⟩ (.int .i64 r.f)).setCell ⟨S, 4, none⟩ (.int .i64 r.lo)).setCell ⟨S, 5, none⟩ (.int .i64 r.hi)).setCell ⟨S, 6, none⟩ (.int .i64 r.k)).setCell ⟨S, 7, none⟩ (.slice r.ma r.mn r.mc)).setCell ⟨S, 8, none⟩ (.slice r.sa r.sn r.sc)).setCell ⟨S, 9, none⟩ (.slice r.la r.ln r.lc)) S r := by
  refine ⟨fun j => ?_, fun j => set_frozen (set_frozen (set_frozen (set_frozen (set_frozen (set_frozen (set_frozen (set_frozen (set_frozen (set_frozen (h.open_ j)))))))))), by simpa [World.setCell] using h.lt⟩
  rw [cells_upd (cells_upd (cells_upd (cells_upd (cells_upd (cells_upd (cells_upd (cells_upd (cells_upd (cells_upd h.cell rfl) rfl) rfl) rfl) rfl) rfl) rfl) rfl) rfl) rfl]
  match j with
  | 0 => rfl
  | 1 => rfl
  | 2 => rfl
  | 3 => rfl
  | 4 => rfl
  | 5 => rfl
  | 6 => rfl
  | 7 => rfl
  | 8 => rfl
  | 9 => rfl
  | j + 10 => rfl
theorem shrink_c (r : RA) (ms : List T3) (ss : List T2) (ls : List T3) : ∃ a b c p, (p = 0 → (a, b, c) = shrinkS (microI r.g) ls r.ln) ∧ ∀ W, Glob W → Reads W r ms ss ls → Calls Tryz.prog 33 #[.agg r.cs] W fun e w' => e = .returned (.tuple #[.agg #[.int .i64 a, .int .i64 b], .int .i64 c, .int .i64 p]) ∧ Below W.heap.size W w' := by
  by_cases h0 : (checkS r ms ss ls).2.2 = 0
  · exact ⟨_, _, _, 0, fun _ => rfl, fun W G hR => shrink_yes r ms ss ls W G hR h0⟩
  · exact ⟨0, 0, 0, _, fun h => absurd h h0, fun W G hR => shrink_no r ms ss ls W G hR h0⟩
/-- What Years returns. -/
def YOut (made : Int → List Int) (L ys : List Int) (p : Int) (e : Ending) (w' : World) : Prop := ∃ a c b d, e = .returned (.tuple #[.slice a L.length c, .slice b ys.length d, .int .i64 p]) ∧ RollAt w' a L.length made L ∧ Ints w' b ys.length ys
theorem yOut_of {B : Nat} {r : RA} {ss : List T2} {e : Ending} {w' : World} (h : YearsPost B r ss e w') : YOut (madeL r ss) (rollsL ss) (yl (possTo r ss (rollsL ss) (rollsL ss).length)) 0 e w' := by
  obtain ⟨vr, vp, fl, he, h1, h2, h3⟩ := h
  obtain ⟨a, c, rfl, h4, -⟩ := rollAt_of h1 h2
  obtain ⟨b, n', d, rfl, h5, -⟩ := ints_of_row h3
  obtain rfl := h5.len
  exact ⟨a, c, b, d, he, h4, h5⟩
theorem yOut_no {made : Int → List Int} {p : Int} {w' : World} : YOut made [] [] p (.returned (.tuple #[.slice none 0 0, .slice none 0 0, .int .i64 p])) w' :=
  ⟨none, 0, none, 0, rfl, ⟨rfl, fun h => absurd h (Nat.lt_irrefl 0)⟩, ⟨rfl, fun h => absurd h (Nat.lt_irrefl 0)⟩⟩
theorem years_c (r : RA) (ms : List T3) (ss : List T2) (ls : List T3) : ∃ made L ys p, ys.length ≤ 100000 ∧ (p = 0 → ys = yl (possTo r ss (rollsL ss) (rollsL ss).length) ∧ Valid r ms ss ls) ∧ ∀ W, Glob W → Reads W r ms ss ls → Calls Tryz.prog 30 #[.agg r.cs] W fun e w' => YOut made L ys p e w' ∧ Below W.heap.size W w' := by
  by_cases h0 : (checkS r ms ss ls).2.2 = 0
  · exact ⟨_, _, _, 0, Nat.le_trans (yl_len _) (by decide), fun _ => ⟨rfl, valid_of h0⟩, fun W G hR => (years_yes r ms ss ls W G hR h0).mono fun e w' h => ⟨yOut_of h.1, h.2⟩⟩
  · exact ⟨fun _ => [], [], [], _, by simp, fun h => absurd h h0, fun W G hR => (years_no r ms ss ls W G hR h0).mono fun e w' h => ⟨by rw [h.1]; exact yOut_no, h.2⟩⟩
theorem run_append_op {P : Program} {ρ : Operand → Value} {o : Oper} {sl x : Operand} {t : TypeId} {v u v' : Value} {w w' : World} (ho : o.op = .call { callee := .builtin .append, args := #[sl, x], argTypes := #[t, t] }) (hs : ρ sl = v) (hx : ρ x = u)
    (hr : (Builtin.append_ #[t, t] o.type #[v, u]).run P w = .ok v' w') : (execOp ρ o).run P w = .ok (.value v') w' := by
  unfold execOp
  simp only [ho, resolve, invoke, builtin, Sem.run_bind, Sem.run_pure, Result.andThen_ok, List.map_toArray, List.map_cons, List.map_nil, hs, hx, hr]
/-- A slice copied behind an empty one. -/
theorem copied {p : FurP} {r : RA} {w0 w : World} {g : Nat} {st : TypeId} {i : TypeInfo} {z : Value} {bytes : Nat} (ho : FurOK p w0) (hS : FurS p r w0 w) (hg : p.base ≤ g) (hh : w.heap[g]? = some (.cells #[] p.e (0, 0)))
    (ht : Tryz.prog.underlying st = some (.slice p.e)) (hi : Tryz.prog.info? p.e = some i ∧ i.zero = some z ∧ i.size = p.sz ∧ i.bytes = bytes ∧ (p.n + 1) * bytes ≤ 140737488355328) (hz : z.cells.size = p.sz) :
    ∃ v' w', (Builtin.append_ #[st, st] st #[.slice (some ⟨g, 0, none⟩) 0 0, .slice p.a p.n p.c]).run Tryz.prog w = .ok v' w' ∧ w'.ownsRow p.base p.e p.sz v' p.n p.xs ∧ w.grownBy w' (some g) := by
  obtain ⟨hi1, hi2, hi3, hi4, hi5⟩ := hi
  have hown := row_of_empty (w := w) (sz := p.sz) hg hh
  have hbs : p.base ≤ w.heap.size := by rw [ho.base]; exact hS.only.size
  have hby : (0 + p.n) * bytes ≤ 140737488355328 := Nat.le_trans (Nat.mul_le_mul_right _ (by omega)) hi5
  have key : ∀ (ad : Addr), p.a = some ad → (∀ j v, p.xs[j]? = some v → w.cell? (ad.add j) = some v) → ∃ v' w', (Builtin.append_ #[st, st] st #[.slice (some ⟨g, 0, none⟩) 0 0, .slice p.a p.n p.c]).run Tryz.prog w = .ok v' w' ∧ w'.ownsRow p.base p.e p.sz v' p.n p.xs ∧ w.grownBy w' (some g) := fun ad ha hc => by
    obtain ⟨v', w', h1, h2, h3, -⟩ := run_append_own (P := Tryz.prog) (w := w) p.base st st p.e i z p.sz bytes ht hi1 hi2 hi3 hi4 hz ho.sz _ 0 [] hown ad p.n p.c p.xs ho.xl hc ho.xo (by have := ho.few; unfold maxLen; omega) hby hbs
    rw [ha]
    exact ⟨v', w', h1, by simpa using h2, h3⟩
  by_cases hn : p.n = 0
  · have hx : p.xs = [] := List.eq_nil_of_length_eq_zero (by rw [ho.xl, hn, Nat.zero_mul])
    cases ha : p.a with
    | some ad =>
      rw [← ha]
      exact key ad ha (fun j v h => by rw [hx] at h; simp at h)
    | none =>
      rw [hn, hx]
      exact ⟨_, _, append_nil_run ht hi1, row_of_empty hg hh, ⟨rfl, rfl, rfl, Nat.le_refl _, fun _ _ _ => rfl⟩⟩
  · obtain ⟨b, o, ha, hb, hc⟩ := ho.src (by omega)
    exact key _ ha (fun j v h => by rw [Go.WideShapes.add_plain]; exact hS.old ho hb (hc j v h))
/-- An element joined to it. -/
theorem joined {p : FurP} {r : RA} {w0 w : World} {q : Nat} {v : Value} {st : TypeId} {i : TypeInfo} {z : Value} {bytes : Nat} (ho : FurOK p w0) (hS : FurS p r w0 w) (hv : w.ownsRow p.base p.e p.sz v p.n p.xs) (hh : w.heap[q]? = some (.cells p.nw.toArray p.e (0, 0)))
    (ht : Tryz.prog.underlying st = some (.slice p.e)) (hi : Tryz.prog.info? p.e = some i ∧ i.zero = some z ∧ i.size = p.sz ∧ i.bytes = bytes ∧ (p.n + 1) * bytes ≤ 140737488355328) (hz : z.cells.size = p.sz) :
    ∃ v' w', (Builtin.append_ #[st, st] st #[v, .slice (some ⟨q, 0, none⟩) 1 1]).run Tryz.prog w = .ok v' w' ∧ w'.ownsRow p.base p.e p.sz v' (p.n + 1) (p.xs ++ p.nw) ∧ w.grownBy w' v.ownBlock := by
  obtain ⟨hi1, hi2, hi3, hi4, hi5⟩ := hi
  have hbs : p.base ≤ w.heap.size := by rw [ho.base]; exact hS.only.size
  obtain ⟨v', w', h1, h2, h3, -⟩ := run_append_own (P := Tryz.prog) (w := w) p.base st st p.e i z p.sz bytes ht hi1 hi2 hi3 hi4 hz ho.sz _ p.n p.xs hv ⟨q, 0, none⟩ 1 1 p.nw (by rw [ho.nl, Nat.one_mul]) (fun j u h => by rw [Go.WideShapes.add_plain, Nat.zero_add]; exact cell_block hh j u (by simpa using h)) ho.no (by have := ho.few; unfold maxLen; omega) hi5 hbs
  exact ⟨v', w', h1, h2, h3⟩

set_option maxHeartbeats 8000000 in
set_option maxRecDepth 100000 in
theorem furtherLaw_any (hA : AwakeSaid) (r : RA) (x0 x1 x2 y0 y1 : Int) (ms : List T3) (ss : List T2) (ls : List T3) (w : World) (G : Glob w) (hR : Reads w r ms ss ls) (hsB : r.sn * 16 ≤ 140737488351232) (hlB : r.ln * 24 ≤ 140737488351232) :
    Calls Tryz.prog 12 #[.agg r.cs, .agg #[.int .i64 x0, .int .i64 x1, .int .i64 x2], .agg #[.int .i64 y0, .int .i64 y1]] w fun e w' => e = .returned (.bool true) ∧ Below w.heap.size w w' := by
  have HA := Lib.hid (fun W (h : Below w.heap.size w W) => hA W (G.below G.hz h))
  obtain ⟨wB, hwB⟩ : ∃ wB, ((w.alloc (.cells r.cs 30)).alloc (.cells #[.int .i64 x0, .int .i64 x1, .int .i64 x2] 81)).alloc (.cells #[.int .i64 y0, .int .i64 y1] 74) = wB := ⟨_, rfl⟩
  have hzB : Hid (wB.heap.size = w.heap.size + 3) := by rw [Hid, ← hwB]; simp
  have hBB : Hid (Below w.heap.size w wB) := by rw [Hid, ← hwB]; exact B_alloc (B_alloc (B_alloc (Below.refl _ _) _) _) _
  have HXr : Hid (∀ j, wB.cell? ⟨w.heap.size, j, none⟩ = r.cs[j]?) := fun j => by
    rw [← hwB, alloc_old _ _ _ _ (by simp; omega), alloc_old _ _ _ _ (by simp), World.cell?_alloc_at _ _ _ _ rfl]
  have HXx : Hid (∀ j, wB.cell? ⟨w.heap.size + 1, j, none⟩ = (#[.int .i64 x0, .int .i64 x1, .int .i64 x2] : Array Value)[j]?) := fun j => by
    rw [← hwB, alloc_old _ _ _ _ (by simp), World.cell?_alloc_at _ _ _ _ (by simp)]
  have HXy : Hid (∀ j, wB.cell? ⟨w.heap.size + 2, j, none⟩ = (#[.int .i64 y0, .int .i64 y1] : Array Value)[j]?) := fun j => by
    rw [← hwB, World.cell?_alloc_at _ _ _ _ (by simp)]
  obtain ⟨m0, m1, m2, m3, m4, m5, m6, m7, m8, m9⟩ : wB.cell? ⟨w.heap.size, 0, none⟩ = some (.string r.nm) ∧ wB.cell? ⟨w.heap.size, 1, none⟩ = some (.int .i64 r.g) ∧ wB.cell? ⟨w.heap.size, 2, none⟩ = some (.int .i64 r.b) ∧ wB.cell? ⟨w.heap.size, 3, none⟩ = some (.int .i64 r.f) ∧ wB.cell? ⟨w.heap.size, 4, none⟩ = some (.int .i64 r.lo) ∧ wB.cell? ⟨w.heap.size, 5, none⟩ = some (.int .i64 r.hi) ∧ wB.cell? ⟨w.heap.size, 6, none⟩ = some (.int .i64 r.k) ∧ wB.cell? ⟨w.heap.size, 7, none⟩ = some (.slice r.ma r.mn r.mc) ∧ wB.cell? ⟨w.heap.size, 8, none⟩ = some (.slice r.sa r.sn r.sc) ∧ wB.cell? ⟨w.heap.size, 9, none⟩ = some (.slice r.la r.ln r.lc) :=
    ⟨HXr.out 0, HXr.out 1, HXr.out 2, HXr.out 3, HXr.out 4, HXr.out 5, HXr.out 6, HXr.out 7, HXr.out 8, HXr.out 9⟩
  have HR := Lib.hid hR
  have HG := Lib.hid G
  clear hA hR G
  go_enter Tryz.func12, Tryz.ntmps12
  go_upto_region 2 with fail
  obtain ⟨W0, hW0⟩ : ∃ W0, wB.alloc (.cells #[.string r.nm, .int .i64 r.g, .int .i64 r.b, .int .i64 r.f, .int .i64 r.lo, .int .i64 r.hi, .int .i64 r.k, .slice r.ma r.mn r.mc, .slice r.sa r.sn r.sc, .slice r.la r.ln r.lc] 30) = W0 := ⟨_, rfl⟩
  have hX0 : Hid (Box W0 wB.heap.size r) := by rw [Hid, ← hW0]; exact Box.new wB r
  have hb0 : Hid (Below wB.heap.size wB W0) := by rw [Hid, ← hW0]; exact B_alloc (Below.refl _ _) _
  rw [hW0]
  clear hW0
  have hOK : FurOK (⟨W0.heap.size, wB.heap.size, w.heap.size, w.heap.size + 1, 9, 81, 3, r.la, r.ln, r.lc, flat3 ls, [.int .i64 x0, .int .i64 x1, .int .i64 x2]⟩ : FurP) W0 := by
    have hz := hzB.out
    refine ⟨rfl, hX0.out.lt, by show w.heap.size < wB.heap.size; omega, by show w.heap.size + 1 < wB.heap.size; omega, (hb0.out.cell (p := ⟨w.heap.size, 9, none⟩) (by show w.heap.size < _; omega)).trans (HXr.out 9), fun j v h => (hb0.out.cell (p := ⟨w.heap.size + 1, j, none⟩) (by show w.heap.size + 1 < _; omega)).trans ((HXx.out j).trans (by simpa using h)), fun hn => ?_, by rw [flat3_len, HR.out.l.len], rfl, (by decide : 0 < 3), flat3_one _, ?_, by show r.ln ≤ _; omega⟩
    · obtain ⟨b, o, e, hb, hc⟩ := sl3_cells HR.out.l hn
      exact ⟨b, o, e, by show b < wB.heap.size; omega, fun j v h => (hb0.out.cell (p := ⟨b, o + j, none⟩) (by show b < _; omega)).trans ((hBB.out.cell (p := ⟨b, o + j, none⟩) hb).trans (hc j v h))⟩
    · intro u hu
      simp at hu
      rcases hu with rfl | rfl | rfl <;> rfl
  have HS0 : Hid (FurS (⟨W0.heap.size, wB.heap.size, w.heap.size, w.heap.size + 1, 9, 81, 3, r.la, r.ln, r.lc, flat3 ls, [.int .i64 x0, .int .i64 x1, .int .i64 x2]⟩ : FurP) r W0 W0.drew) := ⟨only_drew (only_refl _ _), fun j _ => hX0.out.cell j, ⟨_, hX0.out.cell 9⟩, hX0.out.open_⟩
  obtain ⟨i81, hi81, hz81, hs81, hy81⟩ := info_parts info81
  have HI81 := And.intro hi81 (And.intro hz81 (And.intro hs81 (And.intro hy81 (show (r.ln + 1) * 24 ≤ 140737488355328 by omega))))
  go_cut [] (fun wx => FurS (⟨W0.heap.size, wB.heap.size, w.heap.size, w.heap.size + 1, 9, 81, 3, r.la, r.ln, r.lc, flat3 ls, [.int .i64 x0, .int .i64 x1, .int .i64 x2]⟩ : FurP) r W0 wx ∧ furT (⟨W0.heap.size, wB.heap.size, w.heap.size, w.heap.size + 1, 9, 81, 3, r.la, r.ln, r.lc, flat3 ls, [.int .i64 x0, .int .i64 x1, .int .i64 x2]⟩ : FurP) wx)
  case first =>
    refine wp_region_keeps' (S := FurS (⟨W0.heap.size, wB.heap.size, w.heap.size, w.heap.size + 1, 9, 81, 3, r.la, r.ln, r.lc, flat3 ls, [.int .i64 x0, .int .i64 x1, .int .i64 x2]⟩ : FurP) r W0) (T := furT (⟨W0.heap.size, wB.heap.size, w.heap.size, w.heap.size + 1, 9, 81, 3, r.la, r.ln, r.lc, flat3 ls, [.int .i64 x0, .int .i64 x1, .int .i64 x2]⟩ : FurP)) (R := fun s => furR (⟨W0.heap.size, wB.heap.size, w.heap.size, w.heap.size + 1, 9, 81, 3, r.la, r.ln, r.lc, flat3 ls, [.int .i64 x0, .int .i64 x1, .int .i64 x2]⟩ : FurP) (s + 1 - 20)) (out := []) (N := 133) (by kernel_rfl) (by decide) (by kernel_rfl) rfl (by kernel_rfl) (by kernel_rfl) (by kernel_rfl) ?hS ?steps ?hend
    case hS => exact HS0.out
    case hend =>
      intro x w' hS hx hT
      have hS' := Lib.hid hS
      have hT' := Lib.hid hT
      clear hx hS hT
      simp only [flowAct, List.filterMap_cons, List.filterMap_nil, patch, List.setIfInBounds_toArray, List.set_cons_zero, List.set_cons_succ]
      go_wp2_with fail
      go_meet
      exact ⟨hS'.out, hT'.out⟩
    case steps =>
      refine ⟨⟨rfl, fun ρ w' hS hc hg h_fn hr ho => ?_⟩, ?_⟩
      · refine keep_new (t := 20) (v := .slice (some ⟨w'.heap.size, 0, none⟩) 0 0) (w' := w'.alloc (.cells #[] 81)) rfl (by go_simp) ⟨w'.heap.size, rfl, by rw [hOK.base]; exact hS.only.size, heap_new _ _⟩ (hS.grown hOK (grown_none _) (fun g h => by cases h)) (fun s u _ h => furR_grown (grown_none _) (fun g h => by cases h) _ _ h) (fun h => by cases h.symm.trans (show stored _ 0 = true by kernel_rfl))
      refine ⟨⟨rfl, fun ρ w' hS hc hg h_fn hr ho => ?_⟩, ?_⟩
      · have h1 := ho 3 (by kernel_rfl)
        refine keep_pure (t := 21) (v := .pointer (some ⟨w.heap.size, (⟨W0.heap.size, wB.heap.size, w.heap.size, w.heap.size + 1, 9, 81, 3, r.la, r.ln, r.lc, flat3 ls, [.int .i64 x0, .int .i64 x1, .int .i64 x2]⟩ : FurP).off, none⟩)) rfl rfl hS ?_
        go_simp
      refine ⟨⟨rfl, fun ρ w' hS hc hg h_fn hr ho => ?_⟩, ?_⟩
      · have h21 : ρ (.tmp 21) = _ := hr 21 (by kernel_rfl)
        have hcell := hS.old hOK hOK.Rb hOK.rc
        refine keep_pure (t := 22) (v := .slice (⟨W0.heap.size, wB.heap.size, w.heap.size, w.heap.size + 1, 9, 81, 3, r.la, r.ln, r.lc, flat3 ls, [.int .i64 x0, .int .i64 x1, .int .i64 x2]⟩ : FurP).a (⟨W0.heap.size, wB.heap.size, w.heap.size, w.heap.size + 1, 9, 81, 3, r.la, r.ln, r.lc, flat3 ls, [.int .i64 x0, .int .i64 x1, .int .i64 x2]⟩ : FurP).n (⟨W0.heap.size, wB.heap.size, w.heap.size, w.heap.size + 1, 9, 81, 3, r.la, r.ln, r.lc, flat3 ls, [.int .i64 x0, .int .i64 x1, .int .i64 x2]⟩ : FurP).c) rfl rfl hS ?_
        go_simp
      refine ⟨⟨rfl, fun ρ w' hS hc hg h_fn hr ho => ?_⟩, ?_⟩
      · obtain ⟨g, h20, hgb, hgh⟩ : furR (⟨W0.heap.size, wB.heap.size, w.heap.size, w.heap.size + 1, 9, 81, 3, r.la, r.ln, r.lc, flat3 ls, [.int .i64 x0, .int .i64 x1, .int .i64 x2]⟩ : FurP) 1 (ρ (.tmp 20)) w' := hr 20 (by kernel_rfl)
        have h22 : ρ (.tmp 22) = .slice (⟨W0.heap.size, wB.heap.size, w.heap.size, w.heap.size + 1, 9, 81, 3, r.la, r.ln, r.lc, flat3 ls, [.int .i64 x0, .int .i64 x1, .int .i64 x2]⟩ : FurP).a (⟨W0.heap.size, wB.heap.size, w.heap.size, w.heap.size + 1, 9, 81, 3, r.la, r.ln, r.lc, flat3 ls, [.int .i64 x0, .int .i64 x1, .int .i64 x2]⟩ : FurP).n (⟨W0.heap.size, wB.heap.size, w.heap.size, w.heap.size + 1, 9, 81, 3, r.la, r.ln, r.lc, flat3 ls, [.int .i64 x0, .int .i64 x1, .int .i64 x2]⟩ : FurP).c := hr 22 (by kernel_rfl)
        obtain ⟨v', w2, hrun, hown2, hg2⟩ := copied hOK hS hgb hgh Tryz.underlying28 HI81 rfl
        refine keep_new (t := 23) (v := v') (w' := w2) rfl (run_append_op rfl h20 h22 hrun) hown2 (hS.grown hOK hg2 (fun b h => by cases h; exact hgb)) (fun s u hsp h => ?_) (fun h => by cases h.symm.trans (show stored _ 3 = true by kernel_rfl))
        obtain ⟨k, hk⟩ : ∃ k, s + 1 - 20 = k := ⟨_, rfl⟩
        simp only [hk] at h ⊢
        match k, hk, h with
        | 0, _, _ => trivial
        | 1, hk, _ => obtain rfl : s = 20 := by omega
                      cases hsp.symm.trans (show spared _ _ 3 20 = true by kernel_rfl)
        | 2, _, h => exact h
        | 3, _, h => exact h
        | 4, hk, _ => obtain rfl : s = 23 := by omega
                      cases hsp.symm.trans (show spared _ _ 3 23 = true by kernel_rfl)
        | 5, _, h => exact h
        | 6, _, h => obtain ⟨q, e, h1, h2⟩ := h
                     exact ⟨q, e, h1, heap_at h2 hg2 (fun e2 => by
                       have e3 : g = q := by injection e2
                       rw [e3, h2] at hgh
                       injection hgh with hgh
                       injection hgh with hgh
                       cases hgh)⟩
        | 7, hk, _ => obtain rfl : s = 26 := by omega
                      cases hsp.symm.trans (show spared _ _ 3 26 = true by kernel_rfl)
        | 8, _, h => exact h
        | _ + 9, _, _ => trivial
      refine ⟨⟨rfl, fun ρ w' hS hc hg h_fn hr ho => ?_⟩, ?_⟩
      · have h1 := ho 4 (by kernel_rfl)
        have hc0 := hS.old hOK hOK.Xb (hOK.xc 0 _ rfl)
        have hc1 := hS.old hOK hOK.Xb (hOK.xc 1 _ rfl)
        have hc2 := hS.old hOK hOK.Xb (hOK.xc 2 _ rfl)
        refine keep_pure (t := 24) (v := .agg (⟨W0.heap.size, wB.heap.size, w.heap.size, w.heap.size + 1, 9, 81, 3, r.la, r.ln, r.lc, flat3 ls, [.int .i64 x0, .int .i64 x1, .int .i64 x2]⟩ : FurP).nw.toArray) rfl rfl hS ?_
        go_simp
      refine ⟨⟨rfl, fun ρ w' hS hc hg h_fn hr ho => ?_⟩, ?_⟩
      · have h24 : ρ (.tmp 24) = .agg (⟨W0.heap.size, wB.heap.size, w.heap.size, w.heap.size + 1, 9, 81, 3, r.la, r.ln, r.lc, flat3 ls, [.int .i64 x0, .int .i64 x1, .int .i64 x2]⟩ : FurP).nw.toArray := hr 24 (by kernel_rfl)
        refine keep_new (t := 25) (v := .slice (some ⟨w'.heap.size, 0, none⟩) 1 1) (w' := w'.alloc (.cells (⟨W0.heap.size, wB.heap.size, w.heap.size, w.heap.size + 1, 9, 81, 3, r.la, r.ln, r.lc, flat3 ls, [.int .i64 x0, .int .i64 x1, .int .i64 x2]⟩ : FurP).nw.toArray 81)) rfl (by go_simp) ⟨w'.heap.size, rfl, by rw [hOK.base]; exact hS.only.size, heap_new _ _⟩ (hS.grown hOK (grown_none _) (fun g h => by cases h)) (fun s u _ h => furR_grown (grown_none _) (fun g h => by cases h) _ _ h) (fun h => by cases h.symm.trans (show stored _ 5 = true by kernel_rfl))
      refine ⟨⟨rfl, fun ρ w' hS hc hg h_fn hr ho => ?_⟩, ?_⟩
      · have h23 : w'.ownsRow _ _ _ (ρ (.tmp 23)) _ _ := hr 23 (by kernel_rfl)
        obtain ⟨q, h25, hqb, hqh⟩ : furR (⟨W0.heap.size, wB.heap.size, w.heap.size, w.heap.size + 1, 9, 81, 3, r.la, r.ln, r.lc, flat3 ls, [.int .i64 x0, .int .i64 x1, .int .i64 x2]⟩ : FurP) 6 (ρ (.tmp 25)) w' := hr 25 (by kernel_rfl)
        obtain ⟨v', w2, hrun, hown2, hg2⟩ := joined hOK hS h23 hqh Tryz.underlying28 HI81 rfl
        refine keep_new (t := 26) (v := v') (w' := w2) rfl (run_append_op rfl rfl h25 hrun) hown2 (hS.grown hOK hg2 (fun b h => (h23.lt b h).1)) (fun s u hsp h => ?_) (fun h => by cases h.symm.trans (show stored _ 6 = true by kernel_rfl))
        obtain ⟨k, hk⟩ : ∃ k, s + 1 - 20 = k := ⟨_, rfl⟩
        simp only [hk] at h ⊢
        match k, hk, h with
        | 0, _, _ => trivial
        | 1, hk, _ => obtain rfl : s = 20 := by omega
                      cases hsp.symm.trans (show spared _ _ 6 20 = true by kernel_rfl)
        | 2, _, h => exact h
        | 3, _, h => exact h
        | 4, hk, _ => obtain rfl : s = 23 := by omega
                      cases hsp.symm.trans (show spared _ _ 6 23 = true by kernel_rfl)
        | 5, _, h => exact h
        | 6, hk, _ => obtain rfl : s = 25 := by omega
                      cases hsp.symm.trans (show spared _ _ 6 25 = true by kernel_rfl)
        | 7, hk, _ => obtain rfl : s = 26 := by omega
                      cases hsp.symm.trans (show spared _ _ 6 26 = true by kernel_rfl)
        | 8, _, h => exact h
        | _ + 9, _, _ => trivial
      refine ⟨⟨rfl, fun ρ w' hS hc hg h_fn hr ho => ?_⟩, ?_⟩
      · have h1 := ho 7 (by kernel_rfl)
        refine keep_pure (t := 27) (v := .pointer (some ⟨wB.heap.size, (⟨W0.heap.size, wB.heap.size, w.heap.size, w.heap.size + 1, 9, 81, 3, r.la, r.ln, r.lc, flat3 ls, [.int .i64 x0, .int .i64 x1, .int .i64 x2]⟩ : FurP).off, none⟩)) rfl rfl hS ?_
        go_simp
      refine ⟨⟨rfl, fun ρ w' hS hc hg h_fn hr ho => ?_⟩, trivial⟩
      · have h27 : ρ (.tmp 27) = .pointer (some ⟨wB.heap.size, (⟨W0.heap.size, wB.heap.size, w.heap.size, w.heap.size + 1, 9, 81, 3, r.la, r.ln, r.lc, flat3 ls, [.int .i64 x0, .int .i64 x1, .int .i64 x2]⟩ : FurP).off, none⟩) := hr 27 (by kernel_rfl)
        have h26 : w'.ownsRow _ _ _ (ρ (.tmp 26)) _ _ := hr 26 (by kernel_rfl)
        obtain ⟨g, cap, hv⟩ := Joins.ownsRow_form h26 (Nat.succ_pos _)
        rw [hv] at h26
        obtain ⟨u, hu⟩ := hS.at_
        have hu' : w'.cell? ⟨wB.heap.size, 9, none⟩ = some u := hu
        have hf' : w'.frozen? ⟨wB.heap.size, 9, none⟩ = false := hS.open_ (⟨W0.heap.size, wB.heap.size, w.heap.size, w.heap.size + 1, 9, 81, 3, r.la, r.ln, r.lc, flat3 ls, [.int .i64 x0, .int .i64 x1, .int .i64 x2]⟩ : FurP).off
        have h27' : ρ (.tmp 27) = .pointer (some ⟨wB.heap.size, 9, none⟩) := h27
        have hlt : (⟨W0.heap.size, wB.heap.size, w.heap.size, w.heap.size + 1, 9, 81, 3, r.la, r.ln, r.lc, flat3 ls, [.int .i64 x0, .int .i64 x1, .int .i64 x2]⟩ : FurP).Sb < (⟨W0.heap.size, wB.heap.size, w.heap.size, w.heap.size + 1, 9, 81, 3, r.la, r.ln, r.lc, flat3 ls, [.int .i64 x0, .int .i64 x1, .int .i64 x2]⟩ : FurP).base := by rw [hOK.base]; exact hOK.Sb
        refine keep_store (w' := w'.setCell ⟨(⟨W0.heap.size, wB.heap.size, w.heap.size, w.heap.size + 1, 9, 81, 3, r.la, r.ln, r.lc, flat3 ls, [.int .i64 x0, .int .i64 x1, .int .i64 x2]⟩ : FurP).Sb, (⟨W0.heap.size, wB.heap.size, w.heap.size, w.heap.size + 1, 9, 81, 3, r.la, r.ln, r.lc, flat3 ls, [.int .i64 x0, .int .i64 x1, .int .i64 x2]⟩ : FurP).off, none⟩ (.slice (some ⟨g, 0, none⟩) ((⟨W0.heap.size, wB.heap.size, w.heap.size, w.heap.size + 1, 9, 81, 3, r.la, r.ln, r.lc, flat3 ls, [.int .i64 x0, .int .i64 x1, .int .i64 x2]⟩ : FurP).n + 1) cap)) rfl ?_ (hS.store _) (fun s u _ h => furR_grown (only_setCell (only_refl _ (some (⟨W0.heap.size, wB.heap.size, w.heap.size, w.heap.size + 1, 9, 81, 3, r.la, r.ln, r.lc, flat3 ls, [.int .i64 x0, .int .i64 x1, .int .i64 x2]⟩ : FurP).Sb)) rfl _) (fun b hb => by cases hb; exact hlt) _ _ h) ⟨some ⟨g, 0, none⟩, cap, ownsRow_setCell_below h26 hlt _, set_same hu⟩
        clear h27 h26 hlt hu hS hr ho hc hg h_fn
        go_simp
  case rest =>
    have hS := hcut.1
    obtain ⟨la', lc', hrow, hc9⟩ := hcut.2
    have hbc : Hid (Below wB.heap.size wB wc) := hb0.out.grown hS.only hb0.out.size (fun k e => by cases e; exact Nat.le_refl _)
    have hBx : Hid (Box wc wB.heap.size { r with la := la', ln := r.ln + 1, lc := lc' }) := by
      refine ⟨fun j => ?_, hS.open_, Nat.lt_of_lt_of_le hX0.out.lt hS.only.size⟩
      by_cases e : j = 9
      · subst e; exact hc9
      · refine (hS.cell j e).trans ?_
        match j, e with
        | 0, _ => rfl
        | 1, _ => rfl
        | 2, _ => rfl
        | 3, _ => rfl
        | 4, _ => rfl
        | 5, _ => rfl
        | 6, _ => rfl
        | 7, _ => rfl
        | 8, _ => rfl
        | 9, e => exact absurd rfl e
        | j + 10, _ => rfl
    have hrow' : wc.ownsRow W0.heap.size 81 3 (.slice la' (r.ln + 1) lc') (ls ++ [(x0, x1, x2)]).length (flat3 (ls ++ [(x0, x1, x2)])) := by
      rw [flat3_snoc, List.length_append, HR.out.l.len]; exact hrow
    obtain ⟨a'', c'', he, hsl⟩ := sl3_row hrow'
    injection he with he1 he2 he3
    subst he1 he3
    rw [List.length_append, HR.out.l.len] at hsl
    have Bc : Hid (Below w.heap.size w wc) := B_trans hBB.out hbc.out
    have hRc := HR.out.below Bc.out
    have HR2 : Hid (Reads wc { r with la := la', ln := r.ln + 1, lc := lc' } ms ss (ls ++ [(x0, x1, x2)])) := ⟨hRc.nm, hRc.mn, hRc.sn, by show r.ln + 1 ≤ _; omega, hRc.m, hRc.s, hsl⟩
    obtain ⟨A1, A2, A3, p1, hA, hCA⟩ := shrink_c r ms ss ls
    obtain ⟨B1, B2, B3, p2, hB, hCB⟩ := shrink_c { r with la := la', ln := r.ln + 1, lc := lc' } ms ss (ls ++ [(x0, x1, x2)])
    have HCA := Lib.hid (fun W (h : Below w.heap.size w W) => hCA W (HG.out.below HG.out.hz h) (HR.out.below h))
    have HCB := Lib.hid (fun W (h : Below wc.heap.size wc W) => hCB W (HG.out.below HG.out.hz (B_trans Bc.out h)) (HR2.out.below h))
    have HRel : Hid (p1 = 0 → p2 = 0 → (∃ i : Nat, A1 = 0 ∧ A2 = 0 ∧ A3 = i ∧ B1 = 0 ∧ B2 = 0 ∧ B3 = i) ∨ (A3 = -1 ∧ ((B1 = 0 ∧ B2 = 0 ∧ B3 = r.ln) ∨ (B3 = -1 ∧ A1 ≤ B1 ∧ B2 ≤ A2)))) := fun e1 e2 => by
      have q1 := hA e1
      have q2 := hB e2
      have hl := HR.out.l.len
      have hf := shrink_further (mi := microI r.g) (ls := ls) (x := (x0, x1, x2)) r.ln 0 (by rw [hl]; omega)
      have q1' : (A1, A2, A3) = shrinkR (microI r.g) ls r.ln 0 := q1
      have q2' : (B1, B2, B3) = shrinkR (microI r.g) (ls ++ [(x0, x1, x2)]) (r.ln + 1) 0 := q2
      rw [← q1', ← q2'] at hf
      rcases hf with ⟨i, h1, h2⟩ | ⟨a, b, h1, h2⟩
      · injection h1 with h1 h1'
        injection h1' with h1' h1''
        injection h2 with h2 h2'
        injection h2' with h2' h2''
        exact .inl ⟨i, h1, h1', h1'', h2, h2', h2''⟩
      · injection h1 with h1 h1'
        injection h1' with h1' h1''
        refine .inr ⟨h1'', ?_⟩
        rcases h2 with h2 | ⟨c, d, h2, h3, h4⟩
        · injection h2 with h2 h2'
          injection h2' with h2' h2''
          exact .inl ⟨h2, h2', by rw [h2'', hl]⟩
        · injection h2 with h2 h2'
          injection h2' with h2' h2''
          exact .inr ⟨h2'', by omega, by omega⟩
    obtain ⟨n0, n1, n2, n3, n4, n5, n6, n7, n8, n9⟩ := hBx.out.all
    have hcB := (bcell hbc.out).1
    have hzc : wB.heap.size < wc.heap.size := hBx.out.lt
    have hzB1 : w.heap.size < wB.heap.size := by have := hzB.out; omega
    have hzc1 : w.heap.size < wc.heap.size := by omega
    clear hS hrow hrow' hc9 he2 hsl hRc hA hB hCA hCB hcut hwB hOK HS0 hX0 hb0 HI81 hi81 hz81 hs81 hy81
    go_upto_region 5 with (first
      | (go_at_call 33; (with_reducible refine (HCA.out _ Bc.out).mono ?_); rintro e w2 ⟨rfl, hb2⟩; have hc2 := (bcell hb2).1; have hz2 : wc.heap.size ≤ w2.heap.size := hb2.size; have hz2a : wB.heap.size < w2.heap.size := (by omega); have hz2b : w.heap.size < w2.heap.size := (by omega); have hz2c : wB.heap.size < w2.heap.size + 1 := (by omega); have hz2d : w.heap.size < w2.heap.size + 1 := (by omega); have B2a := Lib.hid (B_alloc hb2 (.cells #[.int .i64 A1, .int .i64 A2] 25)))
      | (go_at_call 33; (with_reducible refine (HCB.out _ B2a.out).mono ?_); rintro e w3 ⟨rfl, hb3⟩; have hc3 := (bcell hb3).1; have hz3 : w2.heap.size < w3.heap.size := (by have := hb3.size; simp at this; omega); have hz3a : wB.heap.size < w3.heap.size := (by omega); have hz3b : w.heap.size < w3.heap.size := (by omega); have hz3c : w2.heap.size < w3.heap.size + 1 := (by omega); have hz3d : wB.heap.size < w3.heap.size + 1 := (by omega); have hz3e : w.heap.size < w3.heap.size + 1 := (by omega); have B3a := Lib.hid (B_alloc (B_trans B2a.out hb3) (.cells #[.int .i64 B1, .int .i64 B2] 25))))
    go_cut [45] (fun b wx => b = .bool (decide (p1 = 0) && decide (p2 = 0)) ∧ wx = w3.alloc (.cells #[.int .i64 B1, .int .i64 B2] 25))
    case first =>
      by_cases hp1 : p1 = 0
      · by_cases hp2 : p2 = 0
        · subst hp1 hp2
          go_wp2
          go_meet
          exact ⟨rfl, rfl⟩
        · have hb0 : (p2 == 0) = false := by simpa using hp2
          subst hp1
          go_wp2
          go_meet
          exact ⟨by simp [hp2], rfl⟩
      · have hb0 : (p1 == 0) = false := by simpa using hp1
        go_wp2
        go_meet
        exact ⟨by simp [hp1], rfl⟩
    case rest =>
    obtain ⟨rfl, rfl⟩ := hcut
    go_upto_if 45 with fail
    go_cut [] (fun wx => wx = w3.alloc (.cells #[.int .i64 B1, .int .i64 B2] 25))
    case first =>
      by_cases hp : p1 = 0 ∧ p2 = 0
      · obtain ⟨rfl, rfl⟩ := hp
        simp only [decide_true, Bool.and_self]
        rcases HRel.out rfl rfl with ⟨i, rfl, rfl, rfl, rfl, rfl, rfl⟩ | ⟨rfl, ⟨rfl, rfl, rfl⟩ | ⟨rfl, hr1, hr2⟩⟩
        · have hi0 : ¬ ((i : Int) < 0) := by omega
          go_wp2
          go_meet
          rfl
        · have hi0 : ¬ ((r.ln : Int) < 0) := by omega
          have hi1 : (0 : Int) ≤ (r.ln : Int) := by omega
          go_wp2
          go_meet
          rfl
        · have hr1' : ¬ (B1 < A1) := by omega
          have hr2' : ¬ (A2 < B2) := by omega
          go_wp2
          go_meet
          rfl
      · have hb0 : (decide (p1 = 0) && decide (p2 = 0)) = false := by
          cases h : (decide (p1 = 0) && decide (p2 = 0)) with
          | false => rfl
          | true => rw [Bool.and_eq_true, decide_eq_true_eq, decide_eq_true_eq] at h; exact absurd h hp
        rw [hb0]
        go_wp2
        go_meet
        rfl
    case rest =>
      subst hcut
      have hX3 : Hid (Box (w3.alloc (.cells #[.int .i64 B1, .int .i64 B2] 25)) wB.heap.size { r with la := la', ln := r.ln + 1, lc := lc' }) := (hBx.out.below (B_trans B2a.out hb3)).below (B_alloc (Below.refl _ _) _)
      have hb3w : Hid (Below wB.heap.size wB (w3.alloc (.cells #[.int .i64 B1, .int .i64 B2] 25))) := hbc.out.trans (B3a.out.mono hbc.out.size)
      clear HCA HCB HRel HR2 hBx n0 n1 n2 n3 n4 n5 n6 n7 n8 n9 hb2 hb3 hc2 hc3 B2a B3a hbc Bc hz2 hz2a hz2b hz2c hz2d hz3 hz3a hz3b hz3c hz3d hz3e hcB hzc hzc1
      generalize w3.alloc (.cells #[.int .i64 B1, .int .i64 B2] 25) = W3 at hX3 hb3w ⊢
      clear m0 m1 m2 m3 m4 m5 m6 m7 m8 m9
      have hcr : ∀ j, W3.cell? ⟨w.heap.size, j, none⟩ = r.cs[j]? := fun j => (hb3w.out.cell (p := ⟨w.heap.size, j, none⟩) hzB1).trans (HXr.out j)
      have m0 : W3.cell? ⟨w.heap.size, 0, none⟩ = some (.string r.nm) := hcr 0
      have m1 : W3.cell? ⟨w.heap.size, 1, none⟩ = some (.int .i64 r.g) := hcr 1
      have m2 : W3.cell? ⟨w.heap.size, 2, none⟩ = some (.int .i64 r.b) := hcr 2
      have m3 : W3.cell? ⟨w.heap.size, 3, none⟩ = some (.int .i64 r.f) := hcr 3
      have m4 : W3.cell? ⟨w.heap.size, 4, none⟩ = some (.int .i64 r.lo) := hcr 4
      have m5 : W3.cell? ⟨w.heap.size, 5, none⟩ = some (.int .i64 r.hi) := hcr 5
      have m6 : W3.cell? ⟨w.heap.size, 6, none⟩ = some (.int .i64 r.k) := hcr 6
      have m7 : W3.cell? ⟨w.heap.size, 7, none⟩ = some (.slice r.ma r.mn r.mc) := hcr 7
      have m8 : W3.cell? ⟨w.heap.size, 8, none⟩ = some (.slice r.sa r.sn r.sc) := hcr 8
      have m9 : W3.cell? ⟨w.heap.size, 9, none⟩ = some (.slice r.la r.ln r.lc) := hcr 9
      obtain ⟨n0, n1, n2, n3, n4, n5, n6, n7, n8, n9⟩ := hX3.out.all
      have f0 := hX3.out.open_ 0
      have f1 := hX3.out.open_ 1
      have f2 := hX3.out.open_ 2
      have f3 := hX3.out.open_ 3
      have f4 := hX3.out.open_ 4
      have f5 := hX3.out.open_ 5
      have f6 := hX3.out.open_ 6
      have f7 := hX3.out.open_ 7
      have f8 := hX3.out.open_ 8
      have f9 := hX3.out.open_ 9
      clear hcr
      go_upto_region 9 with fail
      obtain ⟨W1, hW1⟩ : ∃ W1, ((((((((((W3.setCell ⟨wB.heap.size, 0, none⟩ (.string r.nm)).setCell ⟨wB.heap.size, 1, none⟩ (.int .i64 r.g)).setCell ⟨wB.heap.size, 2, none⟩ (.int .i64 r.b)).setCell ⟨wB.heap.size, 3, none⟩ (.int .i64 r.f)).setCell ⟨wB.heap.size, 4, none⟩ (.int .i64 r.lo)).setCell ⟨wB.heap.size, 5, none⟩ (.int .i64 r.hi)).setCell ⟨wB.heap.size, 6, none⟩ (.int .i64 r.k)).setCell ⟨wB.heap.size, 7, none⟩ (.slice r.ma r.mn r.mc)).setCell ⟨wB.heap.size, 8, none⟩ (.slice r.sa r.sn r.sc)).setCell ⟨wB.heap.size, 9, none⟩ (.slice r.la r.ln r.lc)) = W1 := ⟨_, rfl⟩
      have hX1 : Hid (Box W1 wB.heap.size r) := by rw [Hid, ← hW1]; exact hX3.out.setAll r
      have hb1 : Hid (Below wB.heap.size wB W1) := by
        rw [Hid, ← hW1]
        exact below_set (below_set (below_set (below_set (below_set (below_set (below_set (below_set (below_set (below_set hb3w.out _ _) _ _) _ _) _ _) _ _) _ _) _ _) _ _) _ _) _ _
      rw [hW1]
      clear hW1 hX3 hb3w m0 m1 m2 m3 m4 m5 m6 m7 m8 m9 n0 n1 n2 n3 n4 n5 n6 n7 n8 n9 f0 f1 f2 f3 f4 f5 f6 f7 f8 f9
      have hOK : FurOK (⟨W1.heap.size, wB.heap.size, w.heap.size, w.heap.size + 2, 8, 74, 2, r.sa, r.sn, r.sc, flat2 ss, [.int .i64 y0, .int .i64 y1]⟩ : FurP) W1 := by
        have hz := hzB.out
        refine ⟨rfl, hX1.out.lt, by show w.heap.size < wB.heap.size; omega, by show w.heap.size + 2 < wB.heap.size; omega, (hb1.out.cell (p := ⟨w.heap.size, 8, none⟩) (by show w.heap.size < _; omega)).trans (HXr.out 8), fun j v h => (hb1.out.cell (p := ⟨w.heap.size + 2, j, none⟩) (by show w.heap.size + 2 < _; omega)).trans ((HXy.out j).trans (by simpa using h)), fun hn => ?_, by rw [flat2_len, HR.out.s.len], rfl, (by decide : 0 < 2), flat2_one _, ?_, by show r.sn ≤ _; omega⟩
        · obtain ⟨b, o, e, hb, hc⟩ := sl2_cells HR.out.s hn
          exact ⟨b, o, e, by show b < wB.heap.size; omega, fun j v h => (hb1.out.cell (p := ⟨b, o + j, none⟩) (by show b < _; omega)).trans ((hBB.out.cell (p := ⟨b, o + j, none⟩) hb).trans (hc j v h))⟩
        · intro u hu
          simp at hu
          rcases hu with rfl | rfl <;> rfl
      have HS0 : Hid (FurS (⟨W1.heap.size, wB.heap.size, w.heap.size, w.heap.size + 2, 8, 74, 2, r.sa, r.sn, r.sc, flat2 ss, [.int .i64 y0, .int .i64 y1]⟩ : FurP) r W1 W1.drew) := ⟨only_drew (only_refl _ _), fun j _ => hX1.out.cell j, ⟨_, hX1.out.cell 8⟩, hX1.out.open_⟩
      obtain ⟨i74, hi74, hz74, hs74, hy74⟩ := info_parts info74
      have HI74 := And.intro hi74 (And.intro hz74 (And.intro hs74 (And.intro hy74 (show (r.sn + 1) * 16 ≤ 140737488355328 by omega))))
      go_cut [] (fun wx => FurS (⟨W1.heap.size, wB.heap.size, w.heap.size, w.heap.size + 2, 8, 74, 2, r.sa, r.sn, r.sc, flat2 ss, [.int .i64 y0, .int .i64 y1]⟩ : FurP) r W1 wx ∧ furT (⟨W1.heap.size, wB.heap.size, w.heap.size, w.heap.size + 2, 8, 74, 2, r.sa, r.sn, r.sc, flat2 ss, [.int .i64 y0, .int .i64 y1]⟩ : FurP) wx)
      case first =>
        refine wp_region_keeps' (S := FurS (⟨W1.heap.size, wB.heap.size, w.heap.size, w.heap.size + 2, 8, 74, 2, r.sa, r.sn, r.sc, flat2 ss, [.int .i64 y0, .int .i64 y1]⟩ : FurP) r W1) (T := furT (⟨W1.heap.size, wB.heap.size, w.heap.size, w.heap.size + 2, 8, 74, 2, r.sa, r.sn, r.sc, flat2 ss, [.int .i64 y0, .int .i64 y1]⟩ : FurP)) (R := fun s => furR (⟨W1.heap.size, wB.heap.size, w.heap.size, w.heap.size + 2, 8, 74, 2, r.sa, r.sn, r.sc, flat2 ss, [.int .i64 y0, .int .i64 y1]⟩ : FurP) (s + 1 - 92)) (out := []) (N := 133) (by kernel_rfl) (by decide) (by kernel_rfl) rfl (by kernel_rfl) (by kernel_rfl) (by kernel_rfl) ?hS ?steps ?hend
        case hS => exact HS0.out
        case hend =>
          intro x w' hS hx hT
          have hS' := Lib.hid hS
          have hT' := Lib.hid hT
          clear hx hS hT
          simp only [flowAct, List.filterMap_cons, List.filterMap_nil, patch, List.setIfInBounds_toArray, List.set_cons_zero, List.set_cons_succ]
          go_wp2_with fail
          go_meet
          exact ⟨hS'.out, hT'.out⟩
        case steps =>
          refine ⟨⟨rfl, fun ρ w' hS hc hg h_fn hr ho => ?_⟩, ?_⟩
          · refine keep_new (t := 92) (v := .slice (some ⟨w'.heap.size, 0, none⟩) 0 0) (w' := w'.alloc (.cells #[] 74)) rfl (by go_simp) ⟨w'.heap.size, rfl, by rw [hOK.base]; exact hS.only.size, heap_new _ _⟩ (hS.grown hOK (grown_none _) (fun g h => by cases h)) (fun s u _ h => furR_grown (grown_none _) (fun g h => by cases h) _ _ h) (fun h => by cases h.symm.trans (show stored _ 0 = true by kernel_rfl))
          refine ⟨⟨rfl, fun ρ w' hS hc hg h_fn hr ho => ?_⟩, ?_⟩
          · have h1 := ho 3 (by kernel_rfl)
            refine keep_pure (t := 93) (v := .pointer (some ⟨w.heap.size, (⟨W1.heap.size, wB.heap.size, w.heap.size, w.heap.size + 2, 8, 74, 2, r.sa, r.sn, r.sc, flat2 ss, [.int .i64 y0, .int .i64 y1]⟩ : FurP).off, none⟩)) rfl rfl hS ?_
            go_simp
          refine ⟨⟨rfl, fun ρ w' hS hc hg h_fn hr ho => ?_⟩, ?_⟩
          · have h21 : ρ (.tmp 93) = _ := hr 93 (by kernel_rfl)
            have hcell := hS.old hOK hOK.Rb hOK.rc
            refine keep_pure (t := 94) (v := .slice (⟨W1.heap.size, wB.heap.size, w.heap.size, w.heap.size + 2, 8, 74, 2, r.sa, r.sn, r.sc, flat2 ss, [.int .i64 y0, .int .i64 y1]⟩ : FurP).a (⟨W1.heap.size, wB.heap.size, w.heap.size, w.heap.size + 2, 8, 74, 2, r.sa, r.sn, r.sc, flat2 ss, [.int .i64 y0, .int .i64 y1]⟩ : FurP).n (⟨W1.heap.size, wB.heap.size, w.heap.size, w.heap.size + 2, 8, 74, 2, r.sa, r.sn, r.sc, flat2 ss, [.int .i64 y0, .int .i64 y1]⟩ : FurP).c) rfl rfl hS ?_
            go_simp
          refine ⟨⟨rfl, fun ρ w' hS hc hg h_fn hr ho => ?_⟩, ?_⟩
          · obtain ⟨g, h20, hgb, hgh⟩ : furR (⟨W1.heap.size, wB.heap.size, w.heap.size, w.heap.size + 2, 8, 74, 2, r.sa, r.sn, r.sc, flat2 ss, [.int .i64 y0, .int .i64 y1]⟩ : FurP) 1 (ρ (.tmp 92)) w' := hr 92 (by kernel_rfl)
            have h22 : ρ (.tmp 94) = .slice (⟨W1.heap.size, wB.heap.size, w.heap.size, w.heap.size + 2, 8, 74, 2, r.sa, r.sn, r.sc, flat2 ss, [.int .i64 y0, .int .i64 y1]⟩ : FurP).a (⟨W1.heap.size, wB.heap.size, w.heap.size, w.heap.size + 2, 8, 74, 2, r.sa, r.sn, r.sc, flat2 ss, [.int .i64 y0, .int .i64 y1]⟩ : FurP).n (⟨W1.heap.size, wB.heap.size, w.heap.size, w.heap.size + 2, 8, 74, 2, r.sa, r.sn, r.sc, flat2 ss, [.int .i64 y0, .int .i64 y1]⟩ : FurP).c := hr 94 (by kernel_rfl)
            obtain ⟨v', w2, hrun, hown2, hg2⟩ := copied hOK hS hgb hgh Tryz.underlying27 HI74 rfl
            refine keep_new (t := 95) (v := v') (w' := w2) rfl (run_append_op rfl h20 h22 hrun) hown2 (hS.grown hOK hg2 (fun b h => by cases h; exact hgb)) (fun s u hsp h => ?_) (fun h => by cases h.symm.trans (show stored _ 3 = true by kernel_rfl))
            obtain ⟨k, hk⟩ : ∃ k, s + 1 - 92 = k := ⟨_, rfl⟩
            simp only [hk] at h ⊢
            match k, hk, h with
            | 0, _, _ => trivial
            | 1, hk, _ => obtain rfl : s = 92 := by omega
                          cases hsp.symm.trans (show spared _ _ 3 92 = true by kernel_rfl)
            | 2, _, h => exact h
            | 3, _, h => exact h
            | 4, hk, _ => obtain rfl : s = 95 := by omega
                          cases hsp.symm.trans (show spared _ _ 3 95 = true by kernel_rfl)
            | 5, _, h => exact h
            | 6, _, h => obtain ⟨q, e, h1, h2⟩ := h
                         exact ⟨q, e, h1, heap_at h2 hg2 (fun e2 => by
                           have e3 : g = q := by injection e2
                           rw [e3, h2] at hgh
                           injection hgh with hgh
                           injection hgh with hgh
                           cases hgh)⟩
            | 7, hk, _ => obtain rfl : s = 98 := by omega
                          cases hsp.symm.trans (show spared _ _ 3 98 = true by kernel_rfl)
            | 8, _, h => exact h
            | _ + 9, _, _ => trivial
          refine ⟨⟨rfl, fun ρ w' hS hc hg h_fn hr ho => ?_⟩, ?_⟩
          · have h1 := ho 5 (by kernel_rfl)
            have hc0 := hS.old hOK hOK.Xb (hOK.xc 0 _ rfl)
            have hc1 := hS.old hOK hOK.Xb (hOK.xc 1 _ rfl)
            refine keep_pure (t := 96) (v := .agg (⟨W1.heap.size, wB.heap.size, w.heap.size, w.heap.size + 2, 8, 74, 2, r.sa, r.sn, r.sc, flat2 ss, [.int .i64 y0, .int .i64 y1]⟩ : FurP).nw.toArray) rfl rfl hS ?_
            go_simp
          refine ⟨⟨rfl, fun ρ w' hS hc hg h_fn hr ho => ?_⟩, ?_⟩
          · have h24 : ρ (.tmp 96) = .agg (⟨W1.heap.size, wB.heap.size, w.heap.size, w.heap.size + 2, 8, 74, 2, r.sa, r.sn, r.sc, flat2 ss, [.int .i64 y0, .int .i64 y1]⟩ : FurP).nw.toArray := hr 96 (by kernel_rfl)
            refine keep_new (t := 97) (v := .slice (some ⟨w'.heap.size, 0, none⟩) 1 1) (w' := w'.alloc (.cells (⟨W1.heap.size, wB.heap.size, w.heap.size, w.heap.size + 2, 8, 74, 2, r.sa, r.sn, r.sc, flat2 ss, [.int .i64 y0, .int .i64 y1]⟩ : FurP).nw.toArray 74)) rfl (by go_simp) ⟨w'.heap.size, rfl, by rw [hOK.base]; exact hS.only.size, heap_new _ _⟩ (hS.grown hOK (grown_none _) (fun g h => by cases h)) (fun s u _ h => furR_grown (grown_none _) (fun g h => by cases h) _ _ h) (fun h => by cases h.symm.trans (show stored _ 5 = true by kernel_rfl))
          refine ⟨⟨rfl, fun ρ w' hS hc hg h_fn hr ho => ?_⟩, ?_⟩
          · have h23 : w'.ownsRow _ _ _ (ρ (.tmp 95)) _ _ := hr 95 (by kernel_rfl)
            obtain ⟨q, h25, hqb, hqh⟩ : furR (⟨W1.heap.size, wB.heap.size, w.heap.size, w.heap.size + 2, 8, 74, 2, r.sa, r.sn, r.sc, flat2 ss, [.int .i64 y0, .int .i64 y1]⟩ : FurP) 6 (ρ (.tmp 97)) w' := hr 97 (by kernel_rfl)
            obtain ⟨v', w2, hrun, hown2, hg2⟩ := joined hOK hS h23 hqh Tryz.underlying27 HI74 rfl
            refine keep_new (t := 98) (v := v') (w' := w2) rfl (run_append_op rfl rfl h25 hrun) hown2 (hS.grown hOK hg2 (fun b h => (h23.lt b h).1)) (fun s u hsp h => ?_) (fun h => by cases h.symm.trans (show stored _ 6 = true by kernel_rfl))
            obtain ⟨k, hk⟩ : ∃ k, s + 1 - 92 = k := ⟨_, rfl⟩
            simp only [hk] at h ⊢
            match k, hk, h with
            | 0, _, _ => trivial
            | 1, hk, _ => obtain rfl : s = 92 := by omega
                          cases hsp.symm.trans (show spared _ _ 6 92 = true by kernel_rfl)
            | 2, _, h => exact h
            | 3, _, h => exact h
            | 4, hk, _ => obtain rfl : s = 95 := by omega
                          cases hsp.symm.trans (show spared _ _ 6 95 = true by kernel_rfl)
            | 5, _, h => exact h
            | 6, hk, _ => obtain rfl : s = 97 := by omega
                          cases hsp.symm.trans (show spared _ _ 6 97 = true by kernel_rfl)
            | 7, hk, _ => obtain rfl : s = 98 := by omega
                          cases hsp.symm.trans (show spared _ _ 6 98 = true by kernel_rfl)
            | 8, _, h => exact h
            | _ + 9, _, _ => trivial
          refine ⟨⟨rfl, fun ρ w' hS hc hg h_fn hr ho => ?_⟩, ?_⟩
          · have h1 := ho 7 (by kernel_rfl)
            refine keep_pure (t := 99) (v := .pointer (some ⟨wB.heap.size, (⟨W1.heap.size, wB.heap.size, w.heap.size, w.heap.size + 2, 8, 74, 2, r.sa, r.sn, r.sc, flat2 ss, [.int .i64 y0, .int .i64 y1]⟩ : FurP).off, none⟩)) rfl rfl hS ?_
            go_simp
          refine ⟨⟨rfl, fun ρ w' hS hc hg h_fn hr ho => ?_⟩, trivial⟩
          · have h27 : ρ (.tmp 99) = .pointer (some ⟨wB.heap.size, (⟨W1.heap.size, wB.heap.size, w.heap.size, w.heap.size + 2, 8, 74, 2, r.sa, r.sn, r.sc, flat2 ss, [.int .i64 y0, .int .i64 y1]⟩ : FurP).off, none⟩) := hr 99 (by kernel_rfl)
            have h26 : w'.ownsRow _ _ _ (ρ (.tmp 98)) _ _ := hr 98 (by kernel_rfl)
            obtain ⟨g, cap, hv⟩ := Joins.ownsRow_form h26 (Nat.succ_pos _)
            rw [hv] at h26
            obtain ⟨u, hu⟩ := hS.at_
            have hu' : w'.cell? ⟨wB.heap.size, 8, none⟩ = some u := hu
            have hf' : w'.frozen? ⟨wB.heap.size, 8, none⟩ = false := hS.open_ (⟨W1.heap.size, wB.heap.size, w.heap.size, w.heap.size + 2, 8, 74, 2, r.sa, r.sn, r.sc, flat2 ss, [.int .i64 y0, .int .i64 y1]⟩ : FurP).off
            have h27' : ρ (.tmp 99) = .pointer (some ⟨wB.heap.size, 8, none⟩) := h27
            have hlt : (⟨W1.heap.size, wB.heap.size, w.heap.size, w.heap.size + 2, 8, 74, 2, r.sa, r.sn, r.sc, flat2 ss, [.int .i64 y0, .int .i64 y1]⟩ : FurP).Sb < (⟨W1.heap.size, wB.heap.size, w.heap.size, w.heap.size + 2, 8, 74, 2, r.sa, r.sn, r.sc, flat2 ss, [.int .i64 y0, .int .i64 y1]⟩ : FurP).base := by rw [hOK.base]; exact hOK.Sb
            refine keep_store (w' := w'.setCell ⟨(⟨W1.heap.size, wB.heap.size, w.heap.size, w.heap.size + 2, 8, 74, 2, r.sa, r.sn, r.sc, flat2 ss, [.int .i64 y0, .int .i64 y1]⟩ : FurP).Sb, (⟨W1.heap.size, wB.heap.size, w.heap.size, w.heap.size + 2, 8, 74, 2, r.sa, r.sn, r.sc, flat2 ss, [.int .i64 y0, .int .i64 y1]⟩ : FurP).off, none⟩ (.slice (some ⟨g, 0, none⟩) ((⟨W1.heap.size, wB.heap.size, w.heap.size, w.heap.size + 2, 8, 74, 2, r.sa, r.sn, r.sc, flat2 ss, [.int .i64 y0, .int .i64 y1]⟩ : FurP).n + 1) cap)) rfl ?_ (hS.store _) (fun s u _ h => furR_grown (only_setCell (only_refl _ (some (⟨W1.heap.size, wB.heap.size, w.heap.size, w.heap.size + 2, 8, 74, 2, r.sa, r.sn, r.sc, flat2 ss, [.int .i64 y0, .int .i64 y1]⟩ : FurP).Sb)) rfl _) (fun b hb => by cases hb; exact hlt) _ _ h) ⟨some ⟨g, 0, none⟩, cap, ownsRow_setCell_below h26 hlt _, set_same hu⟩
            clear h27 h26 hlt hu hS hr ho hc hg h_fn
            go_simp
      case rest =>
        have hS := hcut.1
        obtain ⟨sa', sc', hrow, hc8⟩ := hcut.2
        have hbc : Hid (Below wB.heap.size wB wc) := hb1.out.grown hS.only hb1.out.size (fun k e => by cases e; exact Nat.le_refl _)
        have hBx : Hid (Box wc wB.heap.size { r with sa := sa', sn := r.sn + 1, sc := sc' }) := by
          refine ⟨fun j => ?_, hS.open_, Nat.lt_of_lt_of_le hX1.out.lt hS.only.size⟩
          by_cases e : j = 8
          · subst e; exact hc8
          · refine (hS.cell j e).trans ?_
            match j, e with
            | 0, _ => rfl
            | 1, _ => rfl
            | 2, _ => rfl
            | 3, _ => rfl
            | 4, _ => rfl
            | 5, _ => rfl
            | 6, _ => rfl
            | 7, _ => rfl
            | 8, e => exact absurd rfl e
            | 9, _ => rfl
            | j + 10, _ => rfl
        have hrow' : wc.ownsRow W1.heap.size 74 2 (.slice sa' (r.sn + 1) sc') (ss ++ [(y0, y1)]).length (flat2 (ss ++ [(y0, y1)])) := by
          rw [flat2_snoc, List.length_append, HR.out.s.len]; exact hrow
        obtain ⟨a'', c'', he, hsl⟩ := sl2_row hrow'
        injection he with he1 he2 he3
        subst he1 he3
        rw [List.length_append, HR.out.s.len] at hsl
        have Bc : Hid (Below w.heap.size w wc) := B_trans hBB.out hbc.out
        have hRc := HR.out.below Bc.out
        have HR2 : Hid (Reads wc { r with sa := sa', sn := r.sn + 1, sc := sc' } ms (ss ++ [(y0, y1)]) ls) := ⟨hRc.nm, hRc.mn, by show r.sn + 1 ≤ _; omega, hRc.ln, hRc.m, hsl, hRc.l⟩
        obtain ⟨mk1, L1, ysA, q1, hysA, hA, hCA⟩ := years_c r ms ss ls
        obtain ⟨mk2, L2, ysB, q2, hysB, hB, hCB⟩ := years_c { r with sa := sa', sn := r.sn + 1, sc := sc' } ms (ss ++ [(y0, y1)]) ls
        have HCA := Lib.hid (fun W (h : Below w.heap.size w W) => hCA W (HG.out.below HG.out.hz h) (HR.out.below h))
        have HCB := Lib.hid (fun W (h : Below wc.heap.size wc W) => hCB W (HG.out.below HG.out.hz (B_trans Bc.out h)) (HR2.out.below h))
        have HSub : Hid (q1 = 0 → q2 = 0 → ∀ k, k < ysB.length → ysA.contains (ysB.getD k 0) = true) := fun e1 e2 k hk => by
          obtain ⟨h1, hV⟩ := hA e1
          obtain ⟨h2, -⟩ := hB e2
          obtain ⟨-, -, -, -, -, ⟨hl0, -⟩, ⟨-, hh1⟩, -⟩ := wholeE_ok hV.whole
          have hm : ysB.getD k 0 ∈ ysB := by
            rw [List.getD_eq_getElem?_getD, List.getElem?_eq_getElem hk]
            exact List.getElem_mem hk
          rw [List.contains_iff_mem, h1]
          rw [h2] at hm ⊢
          exact years_further HR.out.s.len hl0 hh1 hm
        obtain ⟨n0, n1, n2, n3, n4, n5, n6, n7, n8, n9⟩ := hBx.out.all
        have hcr : ∀ j, wc.cell? ⟨w.heap.size, j, none⟩ = r.cs[j]? := fun j => (hbc.out.cell (p := ⟨w.heap.size, j, none⟩) hzB1).trans (HXr.out j)
        have m0 : wc.cell? ⟨w.heap.size, 0, none⟩ = some (.string r.nm) := hcr 0
        have m1 : wc.cell? ⟨w.heap.size, 1, none⟩ = some (.int .i64 r.g) := hcr 1
        have m2 : wc.cell? ⟨w.heap.size, 2, none⟩ = some (.int .i64 r.b) := hcr 2
        have m3 : wc.cell? ⟨w.heap.size, 3, none⟩ = some (.int .i64 r.f) := hcr 3
        have m4 : wc.cell? ⟨w.heap.size, 4, none⟩ = some (.int .i64 r.lo) := hcr 4
        have m5 : wc.cell? ⟨w.heap.size, 5, none⟩ = some (.int .i64 r.hi) := hcr 5
        have m6 : wc.cell? ⟨w.heap.size, 6, none⟩ = some (.int .i64 r.k) := hcr 6
        have m7 : wc.cell? ⟨w.heap.size, 7, none⟩ = some (.slice r.ma r.mn r.mc) := hcr 7
        have m8 : wc.cell? ⟨w.heap.size, 8, none⟩ = some (.slice r.sa r.sn r.sc) := hcr 8
        have m9 : wc.cell? ⟨w.heap.size, 9, none⟩ = some (.slice r.la r.ln r.lc) := hcr 9
        have hzc : wB.heap.size < wc.heap.size := hBx.out.lt
        have hzc1 : w.heap.size < wc.heap.size := by omega
        clear hS hrow hrow' hc8 he2 hRc hA hB hCA hCB hcut hOK HS0 hX1 hb1 HI74 hi74 hz74 hs74 hy74 hcr
        have hsplit : (q1 = 0 ∧ q2 = 0) ∨ ((q1 == 0) = false) ∨ (q1 = 0 ∧ (q2 == 0) = false) := by
          by_cases h1 : q1 = 0
          · by_cases h2 : q2 = 0
            · exact .inl ⟨h1, h2⟩
            · exact .inr (.inr ⟨h1, by simpa using h2⟩)
          · exact .inr (.inl (by simpa using h1))
        rcases hsplit with ⟨rfl, rfl⟩ | hq | ⟨rfl, hq⟩
        all_goals
          go_wp2_with (first
            | (go_at_call 30; (with_reducible refine (HCA.out _ Bc.out).mono ?_); rintro e w2 ⟨⟨a1, c1, b1, d1, rfl, hs1, hi1⟩, hb2⟩; have hc2 := (bcell hb2).1; have hz2 : wc.heap.size ≤ w2.heap.size := hb2.size; have hz2a : wB.heap.size < w2.heap.size := (by omega); have I1 := Lib.hid hi1; have B2a := Lib.hid hb2; clear hs1 hi1)
            | (go_at_call 30; (with_reducible refine (HCB.out _ B2a.out).mono ?_); rintro e w3 ⟨⟨a2, c2, b2, d2, rfl, hs2, hi2⟩, hb3⟩; have I1' := Lib.hid (I1.out.below hb3); have I2 := Lib.hid hi2; have B3a := Lib.hid (B_trans Bc.out (B_trans B2a.out hb3)); clear hs2 hi2)
            | (go_at_call 17; (with_reducible refine (HA.out _ B3a.out).mono ?_); rintro e w7 ⟨rfl, hb7⟩))
        · have HSb := Lib.hid (HSub.out (by trivial) (by trivial))
          clear HSub HCA HCB HR2 hBx n0 n1 n2 n3 n4 n5 n6 n7 n8 n9 m0 m1 m2 m3 m4 m5 m6 m7 m8 m9 hb2 hb3 hc2 hz2 hz2a B2a I1
          go_loopg [18] ysB.length (fun gk i wx => ∃ k : Nat, gk = ysB.length - k ∧ k ≤ ysB.length ∧ i = .int .i64 k ∧ Below w3.heap.size w3 wx)
          case atStart => exact ⟨0, rfl, Nat.zero_le _, rfl, Below.refl _ _⟩
          case round =>
            obtain ⟨k, rfl, hk, rfl, hb4⟩ := hrel
            by_cases hlt : k < ysB.length
            · obtain ⟨b5, o5, ha5, hbs5, hcells5⟩ := (I2.out.below hb4).at_ (by omega)
              have c5 := hcells5 k hlt
              have HH := has_any b1 ysA.length d1 ysA (ysB.getD k 0) wr hysA (I1'.out.below hb4)
              rw [HSb.out k hlt] at HH
              replace HH := Lib.hid HH
              clear hcells5
              generalize ysB.getD k 0 = z at c5 HH
              have hk0 : (0 : Int) ≤ (k : Int) := by omega
              have hk1 : (k : Int) < (ysB.length : Int) := by omega
              go_wp2_with (go_at_call 42; (with_reducible refine HH.out.mono ?_); rintro e w9 ⟨rfl, rfl⟩)
              try rw [← ha5]
              go_roundg (ysB.length - (k + 1))
              case measure => omega
              case rel => exact ⟨k + 1, rfl, by omega, by go_num, hb4⟩
            · obtain rfl : k = ysB.length := by omega
              have HAr := Lib.hid (HA.out wr (B_trans B3a.out hb4))
              go_wp2_with (go_at_call 17; (with_reducible refine HAr.out.mono ?_); rintro e w7 ⟨rfl, hb7⟩)
              go_ret
              exact ⟨rfl, B_trans (B_trans B3a.out hb4) hb7⟩
        all_goals (go_ret; exact ⟨rfl, B_trans B3a.out hb7⟩)
end Go.Proofs.YtbicafmlbknkiaaGreatDoor

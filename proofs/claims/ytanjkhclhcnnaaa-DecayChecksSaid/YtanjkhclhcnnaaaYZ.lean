/- reached: what the memory holds while mornings come. -/
import Derived.Test.YtanjkhclhcnnaaaYX
import Derived.Sort.LoopGhostIn
namespace Go.Proofs.Ytanjkhclhcnnaaa
open Go.RowKit Go.Shelf

theorem keeps_below {B : Nat} {W W1 : World} (hb : Below W.heap.size W W1) : KeepsFrom B W W1 :=
  ⟨hb.size, fun k _ _ h _ => (hb.block k (Array.getElem?_eq_some_iff.1 h).1).trans h⟩
theorem kb2_below {F1 F2 : Nat} {W W1 : World} (hb : Below W.heap.size W W1) (h1 : F1 < W.heap.size) (h2 : F2 < W.heap.size) : KB2 F1 F2 W W1 := ⟨hb.block _ h1, hb.block _ h2⟩
theorem keeps_set {B q : Nat} {W : World} {T : TypeId} {cs : Array Value} (ho : Ob W q T cs) (j : Nat) (v : Value) : KeepsFrom B W (W.setCell ⟨q, j, none⟩ v) :=
  ⟨by simp [World.setCell], fun k o _ hk hc => by
    by_cases e : k = q
    · subst e
      unfold Ob at ho
      rw [ho] at hk
      cases hk
      cases hc
    · rw [Below.heap_setCell _ _ _ _ (by simpa using e)]
      exact hk⟩
theorem kb2_set {F1 F2 q : Nat} (W : World) (j : Nat) (v : Value) (h1 : F1 ≠ q) (h2 : F2 ≠ q) : KB2 F1 F2 W (W.setCell ⟨q, j, none⟩ v) := ⟨Below.heap_setCell _ _ _ _ (by simpa using h1), Below.heap_setCell _ _ _ _ (by simpa using h2)⟩
theorem keeps_grow {B base : Nat} {W W1 : World} {e : TypeId} {s n : Nat} {v : Value} {xs : List Value} (h : W.ownsRow base e s v n xs) (hg : W.grownBy W1 v.ownBlock) : KeepsFrom B W W1 :=
  ⟨hg.size, fun k o _ hk hc => by
    by_cases e : v.ownBlock = some k
    · obtain ⟨c, fz, h3⟩ := Lib.ownsRow_kind h k e
      rw [h3] at hk
      cases hk
      cases hc
    · exact (hg.block k (Array.getElem?_eq_some_iff.1 hk).1 (fun q => e q.symm)).trans hk⟩
theorem kb2_grow {F1 F2 base : Nat} {W W1 : World} {e : TypeId} {s n : Nat} {v : Value} {xs : List Value} (h : W.ownsRow base e s v n xs) (hg : W.grownBy W1 v.ownBlock) (h1 : F1 < base) (h2 : F2 < base) (s1 : F1 < W.heap.size) (s2 : F2 < W.heap.size) : KB2 F1 F2 W W1 :=
  ⟨hg.block _ s1 (fun q => by have := (h.lt _ q.symm).1; omega), hg.block _ s2 (fun q => by have := (h.lt _ q.symm).1; omega)⟩
theorem below_grow {B base : Nat} {w W W1 : World} {e : TypeId} {s n : Nat} {v : Value} {xs : List Value} (hw : Below B w W) (h : W.ownsRow base e s v n xs) (hg : W.grownBy W1 v.ownBlock) (hB : B ≤ base) (hs : B ≤ W.heap.size) : Below B w W1 :=
  hw.grown hg hs fun k hk => Nat.le_trans hB (h.lt k hk).1
theorem row_ne {base base2 : Nat} {W W1 : World} {e e2 : TypeId} {s n s2 n2 : Nat} {v v2 : Value} {xs xs2 : List Value} (h : W.ownsRow base e s v n xs) (h2 : W.ownsRow base2 e2 s2 v2 n2 xs2) (hg : W.grownBy W1 v2.ownBlock) (hne : e ≠ e2) : W1.ownsRow base e s v n xs := by
  refine h.kept hg ?_
  cases hv : v.ownBlock with
  | none => exact .inl rfl
  | some q =>
    refine .inr ?_
    intro e1
    obtain ⟨c, fz, h3⟩ := Lib.ownsRow_kind h q hv
    obtain ⟨c', fz', h4⟩ := Lib.ownsRow_kind h2 q e1.symm
    rw [h3] at h4
    cases h4
    exact hne rfl
theorem ob_grow {base q : Nat} {W W1 : World} {T e : TypeId} {s n : Nat} {v : Value} {xs : List Value} {cs : Array Value} (ho : Ob W q T cs) (h : W.ownsRow base e s v n xs) (hg : W.grownBy W1 v.ownBlock) (hq : q < base) : Ob W1 q T cs :=
  ho.grown hg fun e1 => by have := (h.lt q e1).1; omega
theorem row_setb {base q : Nat} {W : World} {e : TypeId} {s n : Nat} {v : Value} {xs : List Value} (h : W.ownsRow base e s v n xs) (hq : q < base) (j : Nat) (u : Value) : (W.setCell ⟨q, j, none⟩ u).ownsRow base e s v n xs :=
  row_set h (fun e1 => by have := (h.lt q e1).1; omega) u

/-- The memory: the task, the boxes of the variables, the rows, what stays for the loop over a function. -/
structure RM (t : TkA) (ssv : Value) (w W0 : World) (z g n : Nat) (L : List Nat) (lev : List T2) (lv bl : Value) (c : Nat) (tk : List Nat) (tv bk : Value) (can : T2) (st : List T2) (sv bs : Value) (W : World) : Prop where
  gg : w.heap.size + 1 + 1 < g ∧ g < z
  oT : Ob W w.heap.size 104 (t.xc ssv)
  oL : Ob W (w.heap.size + 1) 49 #[bl]
  oS : Ob W (w.heap.size + 1 + 1) 50 #[bs]
  oG : Ob W g 3 (cellsN L)
  oW : Ob W z 46 #[.slice (some ⟨g, min c (n - 1), none⟩) (n - c) (n - c)]
  oK : Ob W (z + 1) 46 #[bk]
  oC : Ob W (z + 1 + 1) 28 #[.int .i64 can.1, .int .i64 can.2]
  rL : W.ownsRow (z + 5) 28 2 lv lev.length (flat2 lev)
  rS : W.ownsRow (z + 5) 78 2 sv st.length (flat2 st)
  rK : W.ownsRow (z + 5) 3 1 tv tk.length (ints tk)
  bw : Below w.heap.size w W
  kf : KeepsFrom (z + 5) W0 W
  kb : KB2 (z + 3) (z + 4) W0 W
  sz : z + 5 ≤ W.heap.size

variable {t : TkA} {ssv : Value} {w W0 : World} {z g n : Nat} {L : List Nat} {lev : List T2} {lv bl : Value} {c : Nat} {tk : List Nat} {tv bk : Value} {can : T2} {st : List T2} {sv bs : Value} {W : World}

theorem RM.below (h : RM t ssv w W0 z g n L lev lv bl c tk tv bk can st sv bs W) {W1 : World} (hb : Below W.heap.size W W1) : RM t ssv w W0 z g n L lev lv bl c tk tv bk can st sv bs W1 :=
  have hz := h.sz
  ⟨h.gg, h.oT.below hb, h.oL.below hb, h.oS.below hb, h.oG.below hb, h.oW.below hb, h.oK.below hb, h.oC.below hb, row_below h.rL hb, row_below h.rS hb, row_below h.rK hb, B_trans h.bw hb, h.kf.trans (keeps_below hb), h.kb.trans (kb2_below hb (by omega) (by omega)), Nat.le_trans h.sz hb.size⟩
theorem RM.start (h : RM t ssv w W0 z g n L lev lv bl c tk tv bk can st sv bs W) : RM t ssv w W z g n L lev lv bl c tk tv bk can st sv bs W :=
  ⟨h.gg, h.oT, h.oL, h.oS, h.oG, h.oW, h.oK, h.oC, h.rL, h.rS, h.rK, h.bw, KeepsFrom.refl _ _, KB2.refl _ _ _, h.sz⟩
theorem RM.own (h : RM t ssv w W0 z g n L lev lv bl c tk tv bk can st sv bs W) {W1 : World} {row : Option Nat} (hg : W.grownBy W1 row) (hr : ∀ r, row = some r → z + 5 ≤ r ∧ ∃ o : Obj, W.heap[r]? = some o ∧ o.isCells = false) : RM t ssv w W1 z g n L lev lv bl c tk tv bk can st sv bs W1 :=
  have hr2 := fun r e => (hr r e).2
  ⟨h.gg, h.oT.own hg hr2, h.oL.own hg hr2, h.oS.own hg hr2, h.oG.own hg hr2, h.oW.own hg hr2, h.oK.own hg hr2, h.oC.own hg hr2, row_own h.rL hg hr2, row_own h.rS hg hr2, row_own h.rK hg hr2, below_own h.bw (Nat.le_refl _) hg (fun r e => by have := (hr r e).1; have := h.gg; omega), KeepsFrom.refl _ _, KB2.refl _ _ _, Nat.le_trans h.sz hg.size⟩
/-- A store into the box of the levels that can be. -/
theorem RM.setC (h : RM t ssv w W0 z g n L lev lv bl c tk tv bk can st sv bs W) (p : T2) : RM t ssv w W0 z g n L lev lv bl c tk tv bk p st sv bs ((W.setCell ⟨z + 1 + 1, 0, none⟩ (.int .i64 p.1)).setCell ⟨z + 1 + 1, 1, none⟩ (.int .i64 p.2)) :=
  have hz := h.sz
  have hg := h.gg
  ⟨h.gg, (h.oT.other (by simp only; omega) _).other (by simp only; omega) _, (h.oL.other (by simp only; omega) _).other (by simp only; omega) _, (h.oS.other (by simp only; omega) _).other (by simp only; omega) _, (h.oG.other (by simp only; omega) _).other (by simp only; omega) _, (h.oW.other (by simp only; omega) _).other (by simp only; omega) _, (h.oK.other (by simp only; omega) _).other (by simp only; omega) _,
    by simpa using (h.oC.set 0 (.int .i64 p.1)).set 1 (.int .i64 p.2),
    row_setb (row_setb h.rL (by omega) _ _) (by omega) _ _, row_setb (row_setb h.rS (by omega) _ _) (by omega) _ _, row_setb (row_setb h.rK (by omega) _ _) (by omega) _ _,
    (h.bw.setCell (by simp only; omega) _).setCell (by simp only; omega) _,
    h.kf.trans ((keeps_set h.oC 0 _).trans (keeps_set (h.oC.set 0 (.int .i64 p.1)) 1 _)),
    h.kb.trans ((kb2_set _ _ _ (by omega) (by omega)).trans (kb2_set _ _ _ (by omega) (by omega))), by simpa [World.setCell] using h.sz⟩
/-- The first test that waits is done with. -/
theorem RM.setW (h : RM t ssv w W0 z g n L lev lv bl c tk tv bk can st sv bs W) (v : Value) (hv : v = .slice (some ⟨g, min (c + 1) (n - 1), none⟩) (n - (c + 1)) (n - (c + 1))) : RM t ssv w W0 z g n L lev lv bl (c + 1) tk tv bk can st sv bs (W.setCell ⟨z, 0, none⟩ v) :=
  have hz := h.sz
  have hg := h.gg
  ⟨h.gg, h.oT.other (by simp only; omega) _, h.oL.other (by simp only; omega) _, h.oS.other (by simp only; omega) _, h.oG.other (by simp only; omega) _, by subst hv; simpa using h.oW.set 0 (.slice (some ⟨g, min (c + 1) (n - 1), none⟩) (n - (c + 1)) (n - (c + 1))), h.oK.other (by simp only; omega) _, h.oC.other (by simp only; omega) _,
    row_setb h.rL (by omega) _ _, row_setb h.rS (by omega) _ _, row_setb h.rK (by omega) _ _, h.bw.setCell (by simp only; omega) _,
    h.kf.trans (keeps_set h.oW 0 _), h.kb.trans (kb2_set _ _ _ (by omega) (by omega)), by simpa [World.setCell] using h.sz⟩
theorem RM.setK (h : RM t ssv w W0 z g n L lev lv bl c tk tv bk can st sv bs W) (v : Value) : RM t ssv w W0 z g n L lev lv bl c tk tv v can st sv bs (W.setCell ⟨z + 1, 0, none⟩ v) :=
  have hz := h.sz
  have hg := h.gg
  ⟨h.gg, h.oT.other (by simp only; omega) _, h.oL.other (by simp only; omega) _, h.oS.other (by simp only; omega) _, h.oG.other (by simp only; omega) _, h.oW.other (by simp only; omega) _, by simpa using h.oK.set 0 v, h.oC.other (by simp only; omega) _,
    row_setb h.rL (by omega) _ _, row_setb h.rS (by omega) _ _, row_setb h.rK (by omega) _ _, h.bw.setCell (by simp only; omega) _,
    h.kf.trans (keeps_set h.oK 0 _), h.kb.trans (kb2_set _ _ _ (by omega) (by omega)), by simpa [World.setCell] using h.sz⟩
theorem RM.setS (h : RM t ssv w W0 z g n L lev lv bl c tk tv bk can st sv bs W) (v : Value) : RM t ssv w W0 z g n L lev lv bl c tk tv bk can st sv v (W.setCell ⟨w.heap.size + 1 + 1, 0, none⟩ v) :=
  have hz := h.sz
  have hg := h.gg
  ⟨h.gg, h.oT.other (by simp only; omega) _, h.oL.other (by simp only; omega) _, by simpa using h.oS.set 0 v, h.oG.other (by simp only; omega) _, h.oW.other (by simp only; omega) _, h.oK.other (by simp only; omega) _, h.oC.other (by simp only; omega) _,
    row_setb h.rL (by omega) _ _, row_setb h.rS (by omega) _ _, row_setb h.rK (by omega) _ _, h.bw.setCell (by simp only; omega) _,
    h.kf.trans (keeps_set h.oS 0 _), h.kb.trans (kb2_set _ _ _ (by omega) (by omega)), by simpa [World.setCell] using h.sz⟩
theorem RM.setL (h : RM t ssv w W0 z g n L lev lv bl c tk tv bk can st sv bs W) (v : Value) : RM t ssv w W0 z g n L lev lv v c tk tv bk can st sv bs (W.setCell ⟨w.heap.size + 1, 0, none⟩ v) :=
  have hz := h.sz
  have hg := h.gg
  ⟨h.gg, h.oT.other (by simp only; omega) _, by simpa using h.oL.set 0 v, h.oS.other (by simp only; omega) _, h.oG.other (by simp only; omega) _, h.oW.other (by simp only; omega) _, h.oK.other (by simp only; omega) _, h.oC.other (by simp only; omega) _,
    row_setb h.rL (by omega) _ _, row_setb h.rS (by omega) _ _, row_setb h.rK (by omega) _ _, h.bw.setCell (by simp only; omega) _,
    h.kf.trans (keeps_set h.oL 0 _), h.kb.trans (kb2_set _ _ _ (by omega) (by omega)), by simpa [World.setCell] using h.sz⟩
/-- A test more in the row of those taken; a strike; a morning's levels. -/
theorem RM.addK (h : RM t ssv w W0 z g n L lev lv bl c tk tv bk can st sv bs W) {W1 : World} {i : Nat} {v : Value} (hg : W.grownBy W1 tv.ownBlock) (ho : W1.ownsRow (z + 5) 3 1 v (tk.length + 1) (ints tk ++ [.int .i64 i])) : RM t ssv w W0 z g n L lev lv bl c (tk ++ [i]) v bk can st sv bs W1 :=
  have hz := h.sz
  have hgg := h.gg
  ⟨h.gg, ob_grow h.oT h.rK hg (by omega), ob_grow h.oL h.rK hg (by omega), ob_grow h.oS h.rK hg (by omega), ob_grow h.oG h.rK hg (by omega), ob_grow h.oW h.rK hg (by omega), ob_grow h.oK h.rK hg (by omega), ob_grow h.oC h.rK hg (by omega),
    row_ne h.rL h.rK hg (by decide), row_ne h.rS h.rK hg (by decide), by rw [ints_snoc, List.length_append]; exact ho, below_grow h.bw h.rK hg (by omega) h.bw.size,
    h.kf.trans (keeps_grow h.rK hg), h.kb.trans (kb2_grow h.rK hg (by omega) (by omega) (by omega) (by omega)), Nat.le_trans h.sz hg.size⟩
theorem RM.addS (h : RM t ssv w W0 z g n L lev lv bl c tk tv bk can st sv bs W) {W1 : World} {p : T2} {v : Value} (hg : W.grownBy W1 sv.ownBlock) (ho : W1.ownsRow (z + 5) 78 2 v (st.length + 1) (flat2 st ++ [.int .i64 p.1, .int .i64 p.2])) : RM t ssv w W0 z g n L lev lv bl c tk tv bk can (st ++ [p]) v bs W1 :=
  have hz := h.sz
  have hgg := h.gg
  ⟨h.gg, ob_grow h.oT h.rS hg (by omega), ob_grow h.oL h.rS hg (by omega), ob_grow h.oS h.rS hg (by omega), ob_grow h.oG h.rS hg (by omega), ob_grow h.oW h.rS hg (by omega), ob_grow h.oK h.rS hg (by omega), ob_grow h.oC h.rS hg (by omega),
    row_ne h.rL h.rS hg (by decide), by rw [flat2_snoc, List.length_append]; exact ho, row_ne h.rK h.rS hg (by decide), below_grow h.bw h.rS hg (by omega) h.bw.size,
    h.kf.trans (keeps_grow h.rS hg), h.kb.trans (kb2_grow h.rS hg (by omega) (by omega) (by omega) (by omega)), Nat.le_trans h.sz hg.size⟩
theorem RM.addL (h : RM t ssv w W0 z g n L lev lv bl c tk tv bk can st sv bs W) {W1 : World} {p : T2} {v : Value} (hg : W.grownBy W1 lv.ownBlock) (ho : W1.ownsRow (z + 5) 28 2 v (lev.length + 1) (flat2 lev ++ [.int .i64 p.1, .int .i64 p.2])) : RM t ssv w W0 z g n L (lev ++ [p]) v bl c tk tv bk can st sv bs W1 :=
  have hz := h.sz
  have hgg := h.gg
  ⟨h.gg, ob_grow h.oT h.rL hg (by omega), ob_grow h.oL h.rL hg (by omega), ob_grow h.oS h.rL hg (by omega), ob_grow h.oG h.rL hg (by omega), ob_grow h.oW h.rL hg (by omega), ob_grow h.oK h.rL hg (by omega), ob_grow h.oC h.rL hg (by omega),
    by rw [flat2_snoc, List.length_append]; exact ho, row_ne h.rS h.rL hg (by decide), row_ne h.rK h.rL hg (by decide), below_grow h.bw h.rL hg (by omega) h.bw.size,
    h.kf.trans (keeps_grow h.rL hg), h.kb.trans (kb2_grow h.rL hg (by omega) (by omega) (by omega) (by omega)), Nat.le_trans h.sz hg.size⟩

theorem RM.cells (h : RM t ssv w W0 z g n L lev lv bl c tk tv bk can st sv bs W) : W.cell? ⟨w.heap.size, 0, none⟩ = some (.slice t.r.ha t.r.hn t.r.hc) ∧ W.cell? ⟨w.heap.size, 1, none⟩ = some (.slice t.r.wa t.r.wn t.r.wc) ∧ W.cell? ⟨w.heap.size, 2, none⟩ = some (.int .i64 t.r.own) ∧ W.cell? ⟨w.heap.size, 3, none⟩ = some (.int .i64 t.r.feed) ∧ W.cell? ⟨w.heap.size, 4, none⟩ = some (.int .i64 t.r.g0) ∧ W.cell? ⟨w.heap.size, 5, none⟩ = some (.int .i64 t.r.g1) ∧ W.cell? ⟨w.heap.size, 6, none⟩ = some (.int .i64 t.r.g2) ∧ W.cell? ⟨w.heap.size, 7, none⟩ = some (.int .i64 t.r.lost) ∧ W.cell? ⟨w.heap.size, 8, none⟩ = some (.int .i64 t.first) ∧ W.cell? ⟨w.heap.size, 9, none⟩ = some ssv ∧ W.cell? ⟨w.heap.size, 10, none⟩ = some (.int .i64 t.lo) ∧ W.cell? ⟨w.heap.size, 11, none⟩ = some (.int .i64 t.hi) ∧ W.cell? ⟨w.heap.size, 12, none⟩ = some (.slice t.ta t.tn t.tc) :=
  ⟨h.oT.cell 0, h.oT.cell 1, h.oT.cell 2, h.oT.cell 3, h.oT.cell 4, h.oT.cell 5, h.oT.cell 6, h.oT.cell 7, h.oT.cell 8, h.oT.cell 9, h.oT.cell 10, h.oT.cell 11, h.oT.cell 12⟩
theorem RM.boxes (h : RM t ssv w W0 z g n L lev lv bl c tk tv bk can st sv bs W) : W.cell? ⟨w.heap.size + 1, 0, none⟩ = some bl ∧ W.cell? ⟨w.heap.size + 1 + 1, 0, none⟩ = some bs ∧ W.cell? ⟨z, 0, none⟩ = some (.slice (some ⟨g, min c (n - 1), none⟩) (n - c) (n - c)) ∧ W.cell? ⟨z + 1, 0, none⟩ = some bk ∧ W.cell? ⟨z + 1 + 1, 0, none⟩ = some (.int .i64 can.1) ∧ W.cell? ⟨z + 1 + 1, 1, none⟩ = some (.int .i64 can.2) :=
  ⟨h.oL.cell 0, h.oS.cell 0, h.oW.cell 0, h.oK.cell 0, h.oC.cell 0, h.oC.cell 1⟩
theorem RM.free (h : RM t ssv w W0 z g n L lev lv bl c tk tv bk can st sv bs W) : W.frozen? ⟨w.heap.size + 1, 0, none⟩ = false ∧ W.frozen? ⟨w.heap.size + 1 + 1, 0, none⟩ = false ∧ W.frozen? ⟨z, 0, none⟩ = false ∧ W.frozen? ⟨z + 1, 0, none⟩ = false ∧ W.frozen? ⟨z + 1 + 1, 0, none⟩ = false ∧ W.frozen? ⟨z + 1 + 1, 1, none⟩ = false :=
  ⟨h.oL.frozen 0, h.oS.frozen 0, h.oW.frozen 0, h.oK.frozen 0, h.oC.frozen 0, h.oC.frozen 1⟩
/-- The test that waits first. -/
theorem RM.head (h : RM t ssv w W0 z g n L lev lv bl c tk tv bk can st sv bs W) (hc : c < L.length) : W.cell? ⟨g, c, none⟩ = some (.int .i64 (L.getD c 0 : Nat)) := (h.oG.cell c).trans (cellsN_at hc)
/-- What holds while a morning's levels are put, step by step. -/
def R7 (M : T2 → World → Prop) (can : T2) (u v : Int) (k : Nat) (outs : Nat → Value) (W : World) : Prop := (k ≤ 1 → M can W) ∧ (1 ≤ k → outs 0 = .agg #[.int .i64 u, .int .i64 v]) ∧ (k = 2 → M (u, v) W)
def V7 (T1 : Nat) (rc : Array Value) (sv : Value) (m q sb so : Nat) (s p : T2) (outs : Nat → Value) : Nat → Value
  | 24 => .pointer (some ⟨T1, 0, none⟩)
  | 25 => .agg rc
  | 26 => .pointer (some ⟨T1, 9, none⟩)
  | 27 => sv
  | 28 => .int .i64 m
  | 29 => .int .i64 q
  | 30 => .pointer (some ⟨sb, so + q * 2, none⟩)
  | 31 => .agg #[.int .i64 s.1, .int .i64 s.2]
  | 32 => .agg #[.int .i64 p.1, .int .i64 p.2]
  | 33 => outs 0
  | _ => undef
def need7 : Nat → Nat := fun i => [0, 0, 0, 0, 0, 0, 0, 0, 0, 0, 1].getD i 0
def till7 : Nat → Nat := fun i => [1, 1, 1, 1, 1, 1, 1, 1, 1, 0, 1].getD i 0
def eff7 : Nat → Bool := fun i => [false, false, false, false, false, false, false, false, false, true, true].getD i false

theorem infoInt : (Try.prog.info? 3).map (fun i => (i.zero, i.size, i.bytes)) = some (some (.int .i64 0), 1, 8) := by kernel_rfl
theorem infoStrike : (Try.prog.info? 78).map (fun i => (i.zero, i.size, i.bytes)) = some (some (.agg #[.int .i64 0, .int .i64 0]), 2, 16) := by kernel_rfl
/-- A row of integers, of strikes, to which one is joined. -/
theorem joinedI {W : World} {base n : Nat} {v : Value} {xs : List Value} {q : Nat} {i : Int} (hv : W.ownsRow base 3 1 v n xs) (hg : Ob W q 3 #[.int .i64 i]) (hn : n ≤ 100000) (hb : base ≤ W.heap.size) :
    ∃ v' w', (Builtin.append_ #[46, 46] 46 #[v, .slice (some ⟨q, 0, none⟩) 1 1]).run Try.prog W = .ok v' w' ∧ w'.ownsRow base 3 1 v' (n + 1) (xs ++ [.int .i64 i]) ∧ W.grownBy w' v.ownBlock := by
  obtain ⟨i0, hi, hz0, hs0, hy0⟩ := info_parts infoInt
  obtain ⟨v', w', h1, h2, h3, -⟩ := run_append_own (P := Try.prog) (w := W) base 46 46 3 i0 _ 1 8 Try.underlying46 hi hz0 hs0 hy0 rfl (by decide) v n xs hv ⟨q, 0, none⟩ 1 1 [.int .i64 i] rfl
    (fun j u h => by
      rw [show (⟨q, 0, none⟩ : Addr).add j = ⟨q, j, none⟩ by simp [Addr.add, eq_comm]]
      rw [hg.cell]; simpa using h) (by intro u hu; simp at hu; subst hu; rfl) (by unfold maxLen; omega) (by omega) hb
  exact ⟨v', w', h1, h2, h3⟩
theorem joinedS {W : World} {base n : Nat} {v : Value} {xs : List Value} {g : Nat} {p q : Int} (hv : W.ownsRow base 78 2 v n xs) (hg : Ob W g 78 #[.int .i64 p, .int .i64 q]) (hn : n ≤ 100000) (hb : base ≤ W.heap.size) :
    ∃ v' w', (Builtin.append_ #[50, 50] 50 #[v, .slice (some ⟨g, 0, none⟩) 1 1]).run Try.prog W = .ok v' w' ∧ w'.ownsRow base 78 2 v' (n + 1) (xs ++ [.int .i64 p, .int .i64 q]) ∧ W.grownBy w' v.ownBlock := by
  obtain ⟨i0, hi, hz0, hs0, hy0⟩ := info_parts infoStrike
  obtain ⟨v', w', h1, h2, h3, -⟩ := run_append_own (P := Try.prog) (w := W) base 50 50 78 i0 _ 2 16 Try.underlying50 hi hz0 hs0 hy0 rfl (by decide) v n xs hv ⟨g, 0, none⟩ 1 1 [.int .i64 p, .int .i64 q] rfl
    (fun j u h => by
      rw [show (⟨g, 0, none⟩ : Addr).add j = ⟨g, j, none⟩ by simp [Addr.add, eq_comm]]
      rw [hg.cell]; simpa using h) (by intro u hu; simp at hu; rcases hu with rfl | rfl <;> rfl) (by unfold maxLen; omega) (by omega) hb
  exact ⟨v', w', h1, h2, h3⟩
theorem ints_row {W : World} {base : Nat} {e : TypeId} {v : Value} {tk : List Nat} (h : W.ownsRow base e 1 v tk.length (ints tk)) {b0 : Nat} (hb0 : b0 < W.heap.size) :
    ∃ ka kc b o, v = .slice ka tk.length kc ∧ (0 < tk.length → ka = some ⟨b, o, none⟩) ∧ b < W.heap.size ∧ ∀ i, i < tk.length → W.cell? ⟨b, o + i, none⟩ = some (.int .i64 (tk.getD i 0 : Nat)) := by
  rcases h.2 with ⟨h1, h2⟩ | ⟨q, cap, cur, h1, h2, h3, h4, h5, h6, h7⟩
  · exact ⟨none, 0, b0, 0, by rw [h1, h2], fun h => by omega, hb0, fun i hi => by omega⟩
  · refine ⟨some ⟨q, 0, none⟩, cap, q, 0, h1, fun _ => rfl, (Array.getElem?_eq_some_iff.1 h3).1, fun i hi => ?_⟩
    have e1 : cur.toList[i]? = some (.int .i64 (tk.getD i 0 : Nat)) := by
      have e2 : (cur.toList.take (tk.length * 1))[i]? = (ints tk)[i]? := by rw [h7]
      rw [List.getElem?_take_of_lt (by omega)] at e2
      rw [e2]
      simp [ints, List.getD, hi]
    have e3 := Ob.cell (show Ob W q e cur from h3) i
    rw [Nat.zero_add, e3]
    simpa using e1
end Go.Proofs.Ytanjkhclhcnnaaa

/- The reference's known: what the memory holds. -/
import Derived.Test.YtanjkhclhcnnaaaDN
namespace Go.Proofs.Ytanjkhclhcnnaaa
open Go.RowKit Go.Shelf

theorem SpC.lo {C : Array Value} {L : List T2} (h : SpC C L) {m : Nat} (hm : m < L.length) (x : Int) : SpC (C.setIfInBounds (m * 2) (.int .i64 x)) (L.set m (x, (L.getD m (0, 0)).2)) := by
  refine ⟨by simpa using h.size, fun i hi => ?_⟩
  rw [List.length_set] at hi
  obtain ⟨a, b⟩ := h.c i hi
  have hz := h.size
  rw [getD_set hm]
  by_cases e : i = m
  · subst e
    rw [if_pos rfl]
    exact ⟨by rw [Array.getElem?_setIfInBounds_self_of_lt (by omega)], by rw [Array.getElem?_setIfInBounds_ne (by omega)]; exact b⟩
  · rw [if_neg e]
    exact ⟨by rw [Array.getElem?_setIfInBounds_ne (by omega)]; exact a, by rw [Array.getElem?_setIfInBounds_ne (by omega)]; exact b⟩
theorem SpC.hi {C : Array Value} {L : List T2} (h : SpC C L) {m : Nat} (hm : m < L.length) (x : Int) : SpC (C.setIfInBounds (m * 2 + 1) (.int .i64 x)) (L.set m ((L.getD m (0, 0)).1, x)) := by
  refine ⟨by simpa using h.size, fun i hi => ?_⟩
  rw [List.length_set] at hi
  obtain ⟨a, b⟩ := h.c i hi
  have hz := h.size
  rw [getD_set hm]
  by_cases e : i = m
  · subst e
    rw [if_pos rfl]
    exact ⟨by rw [Array.getElem?_setIfInBounds_ne (by omega)]; exact a, by rw [Array.getElem?_setIfInBounds_self_of_lt (by omega)]⟩
  · rw [if_neg e]
    exact ⟨by rw [Array.getElem?_setIfInBounds_ne (by omega)]; exact a, by rw [Array.getElem?_setIfInBounds_ne (by omega)]; exact b⟩

/-- The memory while mornings come: the task, the levels now, the row of the levels. -/
structure KN (t : TkA) (w w1 : World) (vo : Value) (out : List T2) (p : T2) (W : World) : Prop where
  sz : w.heap.size < w1.heap.size
  T : Ob W w.heap.size 31 t.cs
  N : Ob W w1.heap.size 28 #[.int .i64 p.1, .int .i64 p.2]
  O : W.ownsRow (w1.heap.size + 1) 28 2 vo out.length (flat2 out)
  b : Below w1.heap.size w1 W
/-- The memory from behind. -/
structure KO (t : TkA) (w w1 : World) (q : Nat) (L : List T2) (W : World) : Prop where
  sz : w.heap.size < w1.heap.size
  hq : w1.heap.size + 1 ≤ q
  T : Ob W w.heap.size 31 t.cs
  O : ∃ C, Ob W q 28 C ∧ SpC C L
  b : Below w1.heap.size w1 W

variable {t : TkA} {w w1 : World} {vo : Value} {out : List T2} {p : T2} {W : World} {q : Nat} {L : List T2}
theorem KN.below (h : KN t w w1 vo out p W) {W1 : World} (hb : Below W.heap.size W W1) : KN t w w1 vo out p W1 := ⟨h.sz, h.T.below hb, h.N.below hb, row_below h.O hb, B_trans h.b hb⟩
theorem KN.drew (h : KN t w w1 vo out p W) : KN t w w1 vo out p W.drew := h.below (Below.refl _ _).drew
theorem KN.drewN (h : KN t w w1 vo out p W) (n : Nat) : KN t w w1 vo out p (W.drewN n) := h.below (below_drewN (Below.refl _ _) n)
theorem KN.setN (h : KN t w w1 vo out p W) (q : T2) : KN t w w1 vo out q ((W.setCell ⟨w1.heap.size, 0, none⟩ (.int .i64 q.1)).setCell ⟨w1.heap.size, 1, none⟩ (.int .i64 q.2)) :=
  have hz := h.sz
  ⟨h.sz, (h.T.other (by simp only; omega) _).other (by simp only; omega) _, by simpa using (h.N.set 0 (.int .i64 q.1)).set 1 (.int .i64 q.2), row_setb (row_setb h.O (by omega) _ _) (by omega) _ _, (h.b.setCell (by simp only; omega) _).setCell (by simp only; omega) _⟩
theorem KN.addO (h : KN t w w1 vo out p W) {W1 : World} {q : T2} {v : Value} (hg : W.grownBy W1 vo.ownBlock) (ho : W1.ownsRow (w1.heap.size + 1) 28 2 v (out.length + 1) (flat2 out ++ [.int .i64 q.1, .int .i64 q.2])) : KN t w w1 v (out ++ [q]) p W1 :=
  have hz := h.sz
  ⟨h.sz, ob_grow h.T h.O hg (by omega), ob_grow h.N h.O hg (by omega), by rw [flat2_snoc, List.length_append]; exact ho, below_grow h.b h.O hg (by omega) h.b.size⟩
theorem KN.back (h : KN t w w1 vo out p W) (hn : 0 < out.length) : ∃ q cap, vo = .slice (some ⟨q, 0, none⟩) out.length cap ∧ KO t w w1 q out W := by
  obtain ⟨q, cap, C, e, hq, hO, hC⟩ := row_sp h.O hn
  exact ⟨q, cap, e, h.sz, hq, h.T, ⟨C, hO, hC⟩, h.b⟩
theorem KO.below (h : KO t w w1 q L W) {W1 : World} (hb : Below W.heap.size W W1) : KO t w w1 q L W1 := ⟨h.sz, h.hq, h.T.below hb, (let ⟨C, h1, h2⟩ := h.O; ⟨C, h1.below hb, h2⟩), B_trans h.b hb⟩
theorem KO.drew (h : KO t w w1 q L W) : KO t w w1 q L W.drew := h.below (Below.refl _ _).drew
theorem KO.lo (h : KO t w w1 q L W) {m : Nat} (hm : m < L.length) (x : Int) : KO t w w1 q (L.set m (x, (L.getD m (0, 0)).2)) (W.setCell ⟨q, m * 2, none⟩ (.int .i64 x)) :=
  have hz := h.sz
  have hq := h.hq
  ⟨h.sz, h.hq, h.T.other (by simp only; omega) _, (let ⟨C, h1, h2⟩ := h.O; ⟨_, h1.set _ _, h2.lo hm x⟩), h.b.setCell (by simp only; omega) _⟩
theorem KO.hi (h : KO t w w1 q L W) {m : Nat} (hm : m < L.length) (x : Int) : KO t w w1 q (L.set m ((L.getD m (0, 0)).1, x)) (W.setCell ⟨q, m * 2 + 1, none⟩ (.int .i64 x)) :=
  have hz := h.sz
  have hq := h.hq
  ⟨h.sz, h.hq, h.T.other (by simp only; omega) _, (let ⟨C, h1, h2⟩ := h.O; ⟨_, h1.set _ _, h2.hi hm x⟩), h.b.setCell (by simp only; omega) _⟩
theorem KO.at (h : KO t w w1 q L W) {m : Nat} (hm : m < L.length) : W.cell? ⟨q, m * 2, none⟩ = some (.int .i64 (L.getD m (0, 0)).1) ∧ W.cell? ⟨q, m * 2 + 1, none⟩ = some (.int .i64 (L.getD m (0, 0)).2) ∧ W.frozen? ⟨q, m * 2, none⟩ = false ∧ W.frozen? ⟨q, m * 2 + 1, none⟩ = false := by
  obtain ⟨C, h1, h2⟩ := h.O
  exact ⟨(h1.cell _).trans (h2.c m hm).1, (h1.cell _).trans (h2.c m hm).2, h1.frozen _, h1.frozen _⟩
theorem KO.lt (h : KO t w w1 q L W) : q < W.heap.size := by obtain ⟨C, h1, h2⟩ := h.O; exact h1.lt

theorem set_getD {L : List T2} {m : Nat} (hm : m < L.length) : L.set m (L.getD m (0, 0)) = L := by
  apply List.ext_getElem
  · simp
  · intro i h1 h2
    by_cases e : m = i
    · subst e; simp [List.getD, hm]
    · simp [e]
/-- What is held of a morning, so far. -/
def mf (r : RuA) (ts : List T3) (mor : Nat → Nat) (m : Nat) (p : T2) (M : List Nat) : T2 := M.foldl (fun p i => if mor i = m then joinS p (keepT r ts i) else p) p
theorem mf_take (r : RuA) (ts : List T3) (mor : Nat → Nat) (m : Nat) (p : T2) {F : List Nat} {e : Nat} (h : e < F.length) : mf r ts mor m p (F.take (e + 1)) = if mor (F.getD e 0) = m then joinS (mf r ts mor m p (F.take e)) (keepT r ts (F.getD e 0)) else mf r ts mor m p (F.take e) := by
  unfold mf
  rw [List.take_succ_eq_append_getElem h, List.foldl_append]
  simp [List.getD, h]
theorem kn_step (r : RuA) (ss : List T2) (ts : List T3) (mor : Nat → Nat) (F : List Nat) (p : T2) (k : Nat) : knS r ss ts mor F p (k + 1) = ((knS r ss ts mor F p k).1 ++ [mf r ts mor k (canS r ss k (knS r ss ts mor F p k).2) (F.take F.length)], mf r ts mor k (canS r ss k (knS r ss ts mor F p k).2) (F.take F.length)) := by
  rw [List.take_length]; rfl
theorem order_pair (t : TkA) (ts : List T3) : (orderL ts t.tn).Pairwise (fun a b => morT t ts a ≤ morT t ts b) := by
  rw [List.pairwise_iff_getElem]
  intro i j hi hj hij
  have hl := orderL_len ts t.tn
  have h := orderL_up ts t.tn i j hij (by omega)
  rw [List.getD_eq_getElem?_getD, List.getD_eq_getElem?_getD, List.getElem?_eq_getElem hi, List.getElem?_eq_getElem hj] at h
  simp only [Option.getD_some] at h
  unfold dayOf at h
  unfold morT
  omega
/-- The levels of the reference are those of the program, before it goes backward. -/
theorem kn_reach {t : TkA} {hs ws : List T2} {ds : List T4} {ts : List T3} (hO : RuOK t.r hs ws) (hst : ∀ s ∈ ds.map (strS hs ws), StrOK s) (hdl : ds.length = t.dn) (hp : CanOK (t.lo, t.hi))
    (hmor : ∀ i, i < t.tn → morT t ts i ≤ t.dn) (hup : (orderL ts t.tn).Pairwise (fun a b => morT t ts a ≤ morT t ts b)) :
    (reachT t hs ws ds ts).struck = ((orderL ts t.tn).foldl (takeS t.r (ds.map (strS hs ws)) ts (morT t ts)) ⟨[], [], (t.lo, t.hi), 0⟩).struck ∧
    ∀ k, k ≤ t.dn + 1 → CanOK (knS t.r (ds.map (strS hs ws)) ts (morT t ts) ((orderL ts t.tn).foldl (takeS t.r (ds.map (strS hs ws)) ts (morT t ts)) ⟨[], [], (t.lo, t.hi), 0⟩).good (t.lo, t.hi) k).2 ∧
      (knS t.r (ds.map (strS hs ws)) ts (morT t ts) ((orderL ts t.tn).foldl (takeS t.r (ds.map (strS hs ws)) ts (morT t ts)) ⟨[], [], (t.lo, t.hi), 0⟩).good (t.lo, t.hi) k).1.length = k ∧
      (k = t.dn + 1 → (knS t.r (ds.map (strS hs ws)) ts (morT t ts) ((orderL ts t.tn).foldl (takeS t.r (ds.map (strS hs ws)) ts (morT t ts)) ⟨[], [], (t.lo, t.hi), 0⟩).good (t.lo, t.hi) k).1 = (reachT t hs ws ds ts).lev) := by
  obtain ⟨h1, h2⟩ := reach_all t.r (ds.map (strS hs ws)) ts (morT t ts) (orderL ts t.tn) (t.lo, t.hi) hup (k := t.dn + 1) (fun i hi => by have := hmor i (orderL_lt ts t.tn i hi); omega)
  refine ⟨h2, fun k hk => ?_⟩
  obtain ⟨k1, k2⟩ := reach_known t.r (ds.map (strS hs ws)) ts (morT t ts) (orderL ts t.tn) (t.lo, t.hi) (t.dn + 1) k hk
  rw [h1] at k1 k2
  obtain ⟨-, r2, r3, -⟩ := reach_row (N := t.dn) hO (by rw [List.length_map, hdl]) hst ts (morT t ts) (orderL ts t.tn) hp k hk
  rw [← k1, ← k2]
  exact ⟨r2, r3, fun e => by rw [e]; rfl⟩
end Go.Proofs.Ytanjkhclhcnnaaa

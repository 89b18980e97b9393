/- Rows of days; the memory while a cooler task is made. -/
import Derived.Test.YtanjkhclhcnnaaaGG
namespace Go.Proofs.Ytanjkhclhcnnaaa
open Go.RowKit Go.Shelf

/-- Days as cells. -/
def flat4 (l : List T4) : List Value := l.flatMap fun x => [.int .i64 x.1, .int .i64 x.2.1, .int .i64 x.2.2.1, .int .i64 x.2.2.2]
theorem flat4_len : ∀ l : List T4, (flat4 l).length = l.length * 4
  | [] => rfl
  | x :: l => by have := flat4_len l; simp [flat4] at this ⊢; omega
theorem flat4_snoc (l : List T4) (x : T4) : flat4 (l ++ [x]) = flat4 l ++ [.int .i64 x.1, .int .i64 x.2.1, .int .i64 x.2.2.1, .int .i64 x.2.2.2] := by simp [flat4]
theorem flat4_at : ∀ (l : List T4) (i : Nat), i < l.length → (flat4 l)[i * 4]? = some (.int .i64 (l.getD i (0, 0, 0, 0)).1) ∧ (flat4 l)[i * 4 + 1]? = some (.int .i64 (l.getD i (0, 0, 0, 0)).2.1) ∧ (flat4 l)[i * 4 + 2]? = some (.int .i64 (l.getD i (0, 0, 0, 0)).2.2.1) ∧ (flat4 l)[i * 4 + 3]? = some (.int .i64 (l.getD i (0, 0, 0, 0)).2.2.2)
  | [], i, h => by cases h
  | x :: l, 0, _ => ⟨rfl, rfl, rfl, rfl⟩
  | x :: l, i + 1, h => by
    have e : flat4 (x :: l) = [.int .i64 x.1, .int .i64 x.2.1, .int .i64 x.2.2.1, .int .i64 x.2.2.2] ++ flat4 l := rfl
    have ih := flat4_at l i (by simpa using h)
    rw [e, show (i + 1) * 4 = 4 + i * 4 by omega, show 4 + i * 4 + 1 = 4 + (i * 4 + 1) by omega, show 4 + i * 4 + 2 = 4 + (i * 4 + 2) by omega, show 4 + i * 4 + 3 = 4 + (i * 4 + 3) by omega]
    rw [List.getElem?_append_right (by simp), List.getElem?_append_right (by simp), List.getElem?_append_right (by simp), List.getElem?_append_right (by simp)]
    simpa using ih
theorem sl4_row {W : World} {B : Nat} {t : TypeId} {v : Value} {L : List T4} {n : Nat} (h : W.ownsRow B t 4 v n (flat4 L)) : ∃ a c, v = .slice a n c ∧ Sl4 W a n L := by
  have hn : n = L.length := by have := h.1; rw [flat4_len] at this; omega
  rcases h.2 with ⟨rfl, rfl⟩ | ⟨g, cap, cur, rfl, hb, hg, hc1, hc2, hs, ht⟩
  · exact ⟨none, 0, rfl, hn.symm, fun h => absurd h (Nat.lt_irrefl 0)⟩
  · refine ⟨_, cap, rfl, hn.symm, fun _ => ⟨g, 0, rfl, (Array.getElem?_eq_some_iff.1 hg).1, fun i hi => ?_⟩⟩
    obtain ⟨x0, x1, x2, x3⟩ := flat4_at L i (by omega)
    have key : ∀ j, j < n * 4 → W.cell? ⟨g, j, none⟩ = (flat4 L)[j]? := fun j hj => by
      rw [← ht, List.getElem?_take, if_pos hj]
      simp [World.cell?, hg]
    rw [show 0 + i * 4 = i * 4 by omega]
    exact ⟨(key _ (by omega)).trans x0, (key _ (by omega)).trans x1, (key _ (by omega)).trans x2, (key _ (by omega)).trans x3⟩
theorem row4_form {W : World} {B : Nat} {t : TypeId} {v : Value} {xs : List Value} {n : Nat} (h : W.ownsRow B t 4 v n xs) (hn : 0 < n) : ∃ q cap, v = .slice (some ⟨q, 0, none⟩) n cap := by
  rcases h.2 with ⟨-, h2⟩ | ⟨q, cap, cur, h1, -⟩
  · omega
  · exact ⟨q, cap, h1⟩
theorem infoDay : (Try.prog.info? 39).map (fun i => (i.zero, i.size, i.bytes)) = some (some (.agg #[.int .i64 0, .int .i64 0, .int .i64 0, .int .i64 0]), 4, 32) := by kernel_rfl
theorem joinedD {W : World} {base n : Nat} {v : Value} {xs : List Value} {g : Nat} {a b c d : Int} (hv : W.ownsRow base 39 4 v n xs) (hg : Ob W g 39 #[.int .i64 a, .int .i64 b, .int .i64 c, .int .i64 d]) (hn : n ≤ 100000) (hb : base ≤ W.heap.size) :
    ∃ v' w', (Builtin.append_ #[26, 26] 26 #[v, .slice (some ⟨g, 0, none⟩) 1 1]).run Try.prog W = .ok v' w' ∧ w'.ownsRow base 39 4 v' (n + 1) (xs ++ [.int .i64 a, .int .i64 b, .int .i64 c, .int .i64 d]) ∧ W.grownBy w' v.ownBlock := by
  obtain ⟨i0, hi, hz0, hs0, hy0⟩ := info_parts infoDay
  obtain ⟨v', w', h1, h2, h3, -⟩ := run_append_own (P := Try.prog) (w := W) base 26 26 39 i0 _ 4 32 Try.underlying26 hi hz0 hs0 hy0 rfl (by decide) v n xs hv ⟨g, 0, none⟩ 1 1 [.int .i64 a, .int .i64 b, .int .i64 c, .int .i64 d] rfl
    (fun j u h => by
      rw [show (⟨g, 0, none⟩ : Addr).add j = ⟨g, j, none⟩ by simp [Addr.add, eq_comm]]
      rw [hg.cell]; simpa using h) (by intro u hu; simp at hu; rcases hu with rfl | rfl | rfl | rfl <;> rfl) (by unfold maxLen; omega) (by omega) hb
  exact ⟨v', w', h1, h2, h3⟩

/-- The box of the cooler task while its days are made, and the row of its days. -/
structure LMx (t : TkA) (w5 : World) (vd vr : Value) (L : List T4) (W : World) : Prop where
  U : Ob W w5.heap.size 31 #[.slice t.r.ha t.r.hn t.r.hc, .slice t.r.wa t.r.wn t.r.wc, .int .i64 t.r.own, .int .i64 t.r.feed, .int .i64 t.r.g0, .int .i64 t.r.g1, .int .i64 t.r.g2, .int .i64 t.r.lost, .int .i64 t.first, vd, .int .i64 t.lo, .int .i64 t.hi, .slice none 0 0]
  R : W.ownsRow (w5.heap.size + 1) 39 4 vr L.length (flat4 L)
  b : Below w5.heap.size w5 W
variable {t : TkA} {w5 : World} {vd vr v : Value} {L : List T4} {W : World}
theorem LMx.below (h : LMx t w5 vd vr L W) {W1 : World} (hb : Below W.heap.size W W1) : LMx t w5 vd vr L W1 := ⟨h.U.below hb, row_below h.R hb, B_trans h.b hb⟩
theorem LMx.add (h : LMx t w5 vd vd L W) {W1 : World} {x : T4} {v : Value} (hg : W.grownBy W1 vd.ownBlock) (ho : W1.ownsRow (w5.heap.size + 1) 39 4 v (L.length + 1) (flat4 L ++ [.int .i64 x.1, .int .i64 x.2.1, .int .i64 x.2.2.1, .int .i64 x.2.2.2])) : LMx t w5 vd v (L ++ [x]) W1 :=
  ⟨ob_grow h.U h.R hg (by omega), by rw [flat4_snoc, List.length_append]; exact ho, below_grow h.b h.R hg (by omega) h.b.size⟩
theorem LMx.set (h : LMx t w5 vd v L W) : LMx t w5 v v L (W.setCell ⟨w5.heap.size, 9, none⟩ v) :=
  ⟨by simpa using h.U.set 9 v, row_setb h.R (by omega) _ _, h.b.setCell (by simp only; omega) _⟩
theorem LMx.sz (h : LMx t w5 vd vr L W) : w5.heap.size + 1 ≤ W.heap.size := h.U.lt
theorem take_snoc4 {L : List T4} {i : Nat} (h : i < L.length) : L.take (i + 1) = L.take i ++ [L.getD i (0, 0, 0, 0)] := by
  rw [List.take_succ_eq_append_getElem h]
  simp [List.getD, h]
end Go.Proofs.Ytanjkhclhcnnaaa

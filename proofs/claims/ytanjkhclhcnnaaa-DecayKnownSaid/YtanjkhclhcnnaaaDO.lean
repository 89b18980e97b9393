/- The reference's taken: what the memory holds. -/
import Derived.Test.YtanjkhclhcnnaaaDN
import Derived.Test.YtanjkhclhcnnaaaDI
namespace Go.Proofs.Ytanjkhclhcnnaaa
open Go.RowKit Go.Shelf

def takeF (t : TkA) (hs ws : List T2) (ds : List T4) (ts : List T3) (c : Nat) : TS := ((orderL ts t.tn).take c).foldl (takeS t.r (ds.map (strS hs ws)) ts (morT t ts)) ⟨[], [], (t.lo, t.hi), 0⟩
theorem takeF_step (t : TkA) (hs ws : List T2) (ds : List T4) (ts : List T3) {c : Nat} (h : c < t.tn) : takeF t hs ws ds ts (c + 1) = takeS t.r (ds.map (strS hs ws)) ts (morT t ts) (takeF t hs ws ds ts c) ((orderL ts t.tn).getD c 0) := by
  have hl := orderL_len ts t.tn
  unfold takeF
  rw [List.take_succ_eq_append_getElem (by omega), List.foldl_append]
  simp [List.getD, hl, h]
/-- The memory while tests are taken: the task, the levels now, the tests taken, the strikes. -/
structure KM (t : TkA) (w w1 : World) (vg vs : Value) (good : List Nat) (struck : List T2) (p : T2) (W : World) : Prop where
  sz : w.heap.size < w1.heap.size
  T : Ob W w.heap.size 31 t.cs
  N : Ob W w1.heap.size 28 #[.int .i64 p.1, .int .i64 p.2]
  G : W.ownsRow (w1.heap.size + 1) 3 1 vg good.length (ints good)
  S : W.ownsRow (w1.heap.size + 1) 78 2 vs struck.length (flat2 struck)
  b : Below w1.heap.size w1 W

variable {t : TkA} {w w1 : World} {vg vs : Value} {good : List Nat} {struck : List T2} {p : T2} {W : World}
theorem KM.below (h : KM t w w1 vg vs good struck p W) {W1 : World} (hb : Below W.heap.size W W1) : KM t w w1 vg vs good struck p W1 :=
  ⟨h.sz, h.T.below hb, h.N.below hb, row_below h.G hb, row_below h.S hb, B_trans h.b hb⟩
theorem KM.setN (h : KM t w w1 vg vs good struck p W) (q : T2) : KM t w w1 vg vs good struck q ((W.setCell ⟨w1.heap.size, 0, none⟩ (.int .i64 q.1)).setCell ⟨w1.heap.size, 1, none⟩ (.int .i64 q.2)) :=
  have hz := h.sz
  ⟨h.sz, (h.T.other (by simp only; omega) _).other (by simp only; omega) _, by simpa using (h.N.set 0 (.int .i64 q.1)).set 1 (.int .i64 q.2),
    row_setb (row_setb h.G (by omega) _ _) (by omega) _ _, row_setb (row_setb h.S (by omega) _ _) (by omega) _ _, (h.b.setCell (by simp only; omega) _).setCell (by simp only; omega) _⟩
theorem KM.addG (h : KM t w w1 vg vs good struck p W) {W1 : World} {i : Nat} {v : Value} (hg : W.grownBy W1 vg.ownBlock) (ho : W1.ownsRow (w1.heap.size + 1) 3 1 v (good.length + 1) (ints good ++ [.int .i64 i])) : KM t w w1 v vs (good ++ [i]) struck p W1 :=
  have hz := h.sz
  ⟨h.sz, ob_grow h.T h.G hg (by omega), ob_grow h.N h.G hg (by omega), by rw [ints_snoc, List.length_append]; exact ho, row_ne h.S h.G hg (by decide), below_grow h.b h.G hg (by omega) h.b.size⟩
theorem KM.addS (h : KM t w w1 vg vs good struck p W) {W1 : World} {q : T2} {v : Value} (hg : W.grownBy W1 vs.ownBlock) (ho : W1.ownsRow (w1.heap.size + 1) 78 2 v (struck.length + 1) (flat2 struck ++ [.int .i64 q.1, .int .i64 q.2])) : KM t w w1 vg v good (struck ++ [q]) p W1 :=
  have hz := h.sz
  ⟨h.sz, ob_grow h.T h.S hg (by omega), ob_grow h.N h.S hg (by omega), row_ne h.G h.S hg (by decide), by rw [flat2_snoc, List.length_append]; exact ho, below_grow h.b h.S hg (by omega) h.b.size⟩
theorem KM.drew (h : KM t w w1 vg vs good struck p W) : KM t w w1 vg vs good struck p W.drew := h.below (Below.refl _ _).drew
/-- The last of those taken that strikes, so far. -/
theorem lastBy_take (r : RuA) (ss : List T2) (ts : List T3) (mor : Nat → Nat) (z : Nat) {L : List Nat} {e : Nat} (h : e < L.length) : lastBy r ss ts mor z (L.take (e + 1)) = if stopB r ss ts mor z (L.getD e 0) then (L.getD e 0 : Int) else lastBy r ss ts mor z (L.take e) := by
  rw [List.take_succ_eq_append_getElem h, lastBy_snoc]
  simp [List.getD, h]
theorem lastBy_all (r : RuA) (ss : List T2) (ts : List T3) (mor : Nat → Nat) (z : Nat) (L : List Nat) : lastBy r ss ts mor z (L.take L.length) = lastBy r ss ts mor z L := by rw [List.take_length]
theorem lastBy_bd (r : RuA) (ss : List T2) (ts : List T3) (mor : Nat → Nat) (z : Nat) (N : Nat) : ∀ (M : List Nat), (∀ i ∈ M, i < N) → -1 ≤ lastBy r ss ts mor z M.reverse ∧ lastBy r ss ts mor z M.reverse ≤ N
  | [], _ => by simp [lastBy]
  | x :: M, h => by
    rw [List.reverse_cons, lastBy_snoc]
    have h1 := h x (by simp)
    split
    · omega
    · exact lastBy_bd r ss ts mor z N M fun i hi => h i (by simp [hi])
end Go.Proofs.Ytanjkhclhcnnaaa

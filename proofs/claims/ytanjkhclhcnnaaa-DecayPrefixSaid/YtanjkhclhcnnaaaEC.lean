/- Courses: the mathematics, the memory; slices of small integers. -/
import Derived.Test.YtanjkhclhcnnaaaEA
import Derived.Test.YtanjkhclhcnnaaaDI
import Derived.Test.YtanjkhclhcnnaaaDK
namespace Go.Proofs.Ytanjkhclhcnnaaa
open Go.RowKit Go.Shelf

/-- A slice of small integers, with their bounds. -/
structure Nums (w : World) (kd : IntKind) (lo hi : Int) (a : Option Addr) (n : Nat) (zs : List Int) : Prop where
  len : zs.length = n
  le : n ≤ 140737488351232
  at_ : 0 < n → ∃ b o, a = some ⟨b, o, none⟩ ∧ b < w.heap.size ∧ ∀ i, i < n → w.cell? ⟨b, o + i, none⟩ = some (.int kd (zs.getD i 0)) ∧ lo ≤ zs.getD i 0 ∧ zs.getD i 0 ≤ hi
theorem Nums.below {w w' : World} {kd : IntKind} {lo hi : Int} {a : Option Addr} {n : Nat} {zs : List Int} (h : Nums w kd lo hi a n zs) (hb : Below w.heap.size w w') : Nums w' kd lo hi a n zs :=
  ⟨h.len, h.le, fun hn => let ⟨b, o, e, hl, hc⟩ := h.at_ hn; ⟨b, o, e, Nat.lt_of_lt_of_le hl hb.size, fun i hi => ⟨(hb.cell (p := ⟨b, o + i, none⟩) hl).trans (hc i hi).1, (hc i hi).2⟩⟩⟩

def intsZ (l : List Int) : List Value := l.map fun i => .int .i64 i
theorem intsZ_snoc (l : List Int) (i : Int) : intsZ (l ++ [i]) = intsZ l ++ [.int .i64 i] := by simp [intsZ]
theorem rowz_form {W : World} {base : Nat} {e : TypeId} {v : Value} {n : Nat} {xs : List Int} (h : W.ownsRow base e 1 v n (intsZ xs)) (hn : 0 < n) :
    ∃ q cap cur, v = .slice (some ⟨q, 0, none⟩) n cap ∧ base ≤ q ∧ Ob W q e cur ∧ n ≤ cap ∧ cap ≤ maxLen ∧ cur.size = cap * 1 ∧ cur.toList.take (n * 1) = intsZ xs := by
  rcases h.2 with ⟨-, h2⟩ | ⟨q, cap, cur, h1, h2, h3, h4, h5, h6, h7⟩
  · omega
  · exact ⟨q, cap, cur, h1, h2, h3, h4, h5, h6, h7⟩
theorem rowz_cell {W : World} {e : TypeId} {q n : Nat} {cur : Array Value} {xs : List Int} (hO : Ob W q e cur) (ht : cur.toList.take (n * 1) = intsZ xs) (hx : xs.length = n) {j : Nat} (hj : j < n) : W.cell? ⟨q, j, none⟩ = some (.int .i64 (xs.getD j 0)) := by
  rw [hO.cell]
  have e2 : (cur.toList.take (n * 1))[j]? = (intsZ xs)[j]? := by rw [ht]
  rw [List.getElem?_take_of_lt (by omega)] at e2
  have e3 : cur[j]? = (intsZ xs)[j]? := by simpa using e2
  rw [e3]
  simp [intsZ, List.getD, hx, hj]
theorem rowz_sl1 {W : World} {base : Nat} {e : TypeId} {v : Value} {xs : List Int} (h : W.ownsRow base e 1 v xs.length (intsZ xs)) : ∃ a c, v = .slice a xs.length c ∧ Sl1 W a xs.length xs := by
  rcases Nat.eq_zero_or_pos xs.length with h0 | h0
  · rcases h.2 with ⟨e1, e2⟩ | ⟨q, cap, cur, e1, -⟩
    · exact ⟨none, 0, by rw [e1, h0], rfl, fun h => by omega⟩
    · exact ⟨_, _, e1, rfl, fun h => by omega⟩
  · obtain ⟨q, cap, cur, rfl, -, hO, -, -, -, ht⟩ := rowz_form h h0
    exact ⟨_, _, rfl, rfl, fun _ => ⟨q, 0, rfl, hO.lt, fun i hi => by rw [Nat.zero_add]; exact rowz_cell hO ht rfl hi⟩⟩

/-- By how many 255ths a step goes. -/
def stepB (bs : List Int) (i : Nat) : Int := if 0 < bs.length then bs.getD (i % bs.length) 0 else 0
/-- The level of a course on a morning. -/
def courseN (r : RuA) (ss : List T2) (p : T2) (x0 : Int) (bs : List Int) : Nat → Int
  | 0 => partS p x0
  | k + 1 => partS (nextS r (ss.getD k (0, 0)) (courseN r ss p x0 bs k, courseN r ss p x0 bs k)) (stepB bs k)
def courseL (r : RuA) (ss : List T2) (p : T2) (x0 : Int) (bs : List Int) (k : Nat) : List Int := (List.range (k + 1)).map (courseN r ss p x0 bs)
theorem courseL_len (r : RuA) (ss : List T2) (p : T2) (x0 : Int) (bs : List Int) (k : Nat) : (courseL r ss p x0 bs k).length = k + 1 := by simp [courseL]
theorem courseL_at (r : RuA) (ss : List T2) (p : T2) (x0 : Int) (bs : List Int) {k i : Nat} (h : i ≤ k) : (courseL r ss p x0 bs k).getD i 0 = courseN r ss p x0 bs i := by
  simp [courseL, List.getD, show i < k + 1 by omega]
theorem courseL_snoc (r : RuA) (ss : List T2) (p : T2) (x0 : Int) (bs : List Int) (k : Nat) : courseL r ss p x0 bs (k + 1) = courseL r ss p x0 bs k ++ [courseN r ss p x0 bs (k + 1)] := by
  unfold courseL
  rw [List.range_succ, List.map_append]
  rfl
theorem one_can {n : Int} (h : 0 ≤ n ∧ n ≤ 1000000) : CanOK (n, n) := ⟨⟨h, h⟩, Int.le_refl _⟩
theorem course_in {r : RuA} {hs ws : List T2} (h : RuOK r hs ws) {ss : List T2} {N : Nat} (hss : ss.length = N) (hst : ∀ s ∈ ss, StrOK s) {p : T2} (hp : CanOK p) {x0 : Int} (hx : 0 ≤ x0 ∧ x0 ≤ 255) {bs : List Int} (hbs : ∀ i, 0 ≤ stepB bs i ∧ stepB bs i ≤ 255) : ∀ k, k ≤ N → 0 ≤ courseN r ss p x0 bs k ∧ courseN r ss p x0 bs k ≤ 1000000
  | 0, _ => by
    have h1 := part_in hp hx
    have h2 := hp.a.1
    have h3 := hp.b.2
    show 0 ≤ partS p x0 ∧ partS p x0 ≤ 1000000
    omega
  | k + 1, hk => by
    have ih := course_in h hss hst hp hx hbs k (by omega)
    have hc := (one_can ih).next h (hst _ (getD_lt (L := ss) (i := k) (by omega)))
    have h1 := part_in hc (hbs k)
    have h2 := hc.a.1
    have h3 := hc.b.2
    show 0 ≤ partS _ _ ∧ partS _ _ ≤ 1000000
    omega
theorem nums_step {w : World} {a : Option Addr} {n : Nat} {bs : List Int} (h : Nums w .u8 0 255 a n bs) (i : Nat) : 0 ≤ stepB bs i ∧ stepB bs i ≤ 255 := by
  unfold stepB
  split
  · rename_i h0
    rw [h.len] at h0
    obtain ⟨b, o, -, -, hc⟩ := h.at_ h0
    have h1 := hc (i % n) (Nat.mod_lt _ h0)
    rw [h.len]
    exact h1.2
  · exact ⟨Int.le_refl _, by decide⟩
/-- The memory while a course is made. -/
structure CM (t : TkA) (w : World) (x0 : Int) (xv : Value) (vl : Value) (L : List Int) (W : World) : Prop where
  T : Ob W w.heap.size 31 t.cs
  X : Ob W (w.heap.size + 1) 68 #[.int .u8 x0, xv]
  R : W.ownsRow (w.heap.size + 2) 3 1 vl L.length (intsZ L)
  b : Below w.heap.size w W
variable {t : TkA} {w : World} {x0 : Int} {xv vl : Value} {L : List Int} {W : World}
theorem CM.below (h : CM t w x0 xv vl L W) {W1 : World} (hb : Below W.heap.size W W1) : CM t w x0 xv vl L W1 := ⟨h.T.below hb, h.X.below hb, row_below h.R hb, B_trans h.b hb⟩
theorem CM.drewN (h : CM t w x0 xv vl L W) (n : Nat) : CM t w x0 xv vl L (W.drewN n) := h.below (below_drewN (Below.refl _ _) n)
theorem CM.add (h : CM t w x0 xv vl L W) {W1 : World} {i : Int} {v : Value} (hg : W.grownBy W1 vl.ownBlock) (ho : W1.ownsRow (w.heap.size + 2) 3 1 v (L.length + 1) (intsZ L ++ [.int .i64 i])) : CM t w x0 xv v (L ++ [i]) W1 :=
  ⟨ob_grow h.T h.R hg (by omega), ob_grow h.X h.R hg (by omega), by rw [intsZ_snoc, List.length_append]; exact ho, below_grow h.b h.R hg (by omega) h.b.size⟩
theorem row_one {W : World} {base : Nat} (e : TypeId) (i : Int) (h : base ≤ W.heap.size) : (W.alloc (.cells #[.int .i64 i] e)).ownsRow base e 1 (.slice (some ⟨W.heap.size, 0, none⟩) 1 1) 1 (intsZ [i]) :=
  ⟨rfl, .inr ⟨W.heap.size, 1, #[.int .i64 i], rfl, h, Ob.new _ _ _, Nat.le_refl _, by unfold maxLen; omega, rfl, rfl⟩⟩
end Go.Proofs.Ytanjkhclhcnnaaa

/- Mathematics of reached: mornings from before, tests taken or struck; the order of tests is ascending by day. -/
import Derived.Test.YtanjkhclhcnnaaaMD
import Derived.Test.YtanjkhclhcnnaaaMF
import Derived.Sort.LoopGhostIn
import Derived.Sort.CutIn
namespace Go.Proofs.Ytanjkhclhcnnaaa
open Go.RowKit Go.Shelf

theorem swapL_at {l : List Nat} {j : Nat} (hj : j + 1 < l.length) (k : Nat) : (swapL l j).getD k 0 = if k = j then l.getD (j + 1) 0 else if k = j + 1 then l.getD j 0 else l.getD k 0 := by
  unfold swapL
  simp only [List.getD, List.getElem?_set, List.length_set]
  by_cases h1 : k = j
  · subst h1; simp [show k < l.length by omega]
  · by_cases h2 : k = j + 1
    · subst h2; simp [hj]
    · simp [Ne.symm h1, Ne.symm h2, h1, h2]
/-- In order up to a place, but for one element, which is not above those behind it. -/
structure SinkInv (f : Nat → Int) (l : List Nat) (j k : Nat) : Prop where
  a : ∀ a b, a < b → b < k → a ≠ j → b ≠ j → f (l.getD a 0) ≤ f (l.getD b 0)
  b : ∀ b, j < b → b < k → f (l.getD j 0) ≤ f (l.getD b 0)
def UpTo (f : Nat → Int) (l : List Nat) (k : Nat) : Prop := ∀ a b, a < b → b < k → f (l.getD a 0) ≤ f (l.getD b 0)
theorem sink_up {f : Nat → Int} {lt : Nat → Nat → Bool} (hlt : ∀ a b, lt a b = decide (f a < f b)) : ∀ (j : Nat) (l : List Nat) (k : Nat), j < l.length → j < k → SinkInv f l j k → UpTo f (sinkL lt j l) k
  | 0, l, k, _, _, h => by
    intro a b hab hb
    show f (l.getD a 0) ≤ f (l.getD b 0)
    rcases Nat.eq_zero_or_pos a with rfl | ha
    · exact h.b b hab hb
    · exact h.a a b hab hb (by omega) (by omega)
  | j + 1, l, k, hl, hk, h => by
    unfold sinkL
    rw [hlt]
    split
    · rename_i hc
      have hc' := of_decide_eq_true hc
      refine sink_up hlt j (swapL l j) k (by rw [swapL_len]; omega) (by omega) ⟨fun a b hab hb ha1 hb1 => ?_, fun b hb1 hb2 => ?_⟩
      · rw [swapL_at hl, swapL_at hl, if_neg ha1, if_neg hb1]
        by_cases e1 : a = j + 1
        · rw [if_pos e1, if_neg (by omega)]
          exact h.a j b (by omega) hb (by omega) (by omega)
        · rw [if_neg e1]
          by_cases e2 : b = j + 1
          · rw [if_pos e2]
            exact h.a a j (by omega) (by omega) (by omega) (by omega)
          · rw [if_neg e2]
            exact h.a a b hab hb e1 e2
      · rw [swapL_at hl, swapL_at hl, if_pos rfl, if_neg (by omega)]
        by_cases e2 : b = j + 1
        · rw [if_pos e2]; omega
        · rw [if_neg e2]
          exact h.b b (by omega) hb2
    · rename_i hc
      have hc' : ¬ f (l.getD (j + 1) 0) < f (l.getD j 0) := fun e => hc (decide_eq_true e)
      intro a b hab hb
      by_cases e1 : a = j + 1
      · subst e1; exact h.b b hab hb
      · by_cases e2 : b = j + 1
        · subst e2
          rcases Nat.lt_or_ge a j with h1 | h1
          · have := h.a a j h1 (by omega) (by omega) (by omega); omega
          · obtain rfl : a = j := by omega
            omega
        · exact h.a a b hab hb e1 e2
theorem isort_up {f : Nat → Int} {lt : Nat → Nat → Bool} (hlt : ∀ a b, lt a b = decide (f a < f b)) {l : List Nat} : ∀ (i : Nat), i < l.length → UpTo f (isortL lt l i) (i + 1)
  | 0, _ => by intro a b hab hb; omega
  | i + 1, hi => by
    unfold isortL
    have ih := isort_up hlt (l := l) i (by omega)
    refine sink_up hlt (i + 1) _ (i + 1 + 1) (by rw [isortL_len]; exact hi) (by omega) ⟨fun a b hab hb ha1 hb1 => ih a b hab (by omega), fun b hb1 hb2 => by omega⟩
theorem orderL_len (ts : List T3) (n : Nat) : (orderL ts n).length = n := by unfold orderL; rw [isortL_len]; simp
theorem orderL_lt (ts : List T3) (n : Nat) : ∀ x ∈ orderL ts n, x < n := by
  unfold orderL
  rcases Nat.eq_zero_or_pos n with rfl | hn
  · simp [isortL]
  · exact isortL_mem (by simp) _ (by simp; omega)
theorem orderL_up (ts : List T3) (n a b : Nat) (hab : a < b) (hb : b < n) : dayOf ts ((orderL ts n).getD a 0) ≤ dayOf ts ((orderL ts n).getD b 0) := by
  unfold orderL
  refine isort_up (f := dayOf ts) (fun x y => ?_) (n - 1) (by simp; omega) a b hab (by omega)
  congr 1
  simp only [eq_iff_iff]
  unfold cmpN
  constructor
  · intro h; split at h
    · assumption
    · split at h <;> omega
  · intro h; rw [if_pos h]; omega

/-- What is known while mornings come: tests that wait, tests taken, the levels that can be, tests struck, the levels of the mornings. -/
structure RS where
  wait : List Nat
  taken : List Nat
  can : T2
  struck : List T2
  lev : List T2
/-- The tests of one morning. -/
def eatS (r : RuA) (ss : List T2) (ts : List T3) (mor : Nat → Nat) (m : Nat) : List Nat → List Nat → T2 → List T2 → List Nat × List Nat × T2 × List T2
  | [], tk, can, st => ([], tk, can, st)
  | i :: rest, tk, can, st =>
    if mor i = m then
      if max can.1 (keepT r ts i).1 ≤ min can.2 (keepT r ts i).2 then eatS r ss ts mor m rest (tk ++ [i]) (max can.1 (keepT r ts i).1, min can.2 (keepT r ts i).2) st
      else eatS r ss ts mor m rest tk can (st ++ [((i : Int), byS r ss ts mor i tk)])
    else (i :: rest, tk, can, st)
def canS (r : RuA) (ss : List T2) (m : Nat) (p : T2) : T2 := if 0 < m then nextS r (ss.getD (m - 1) (0, 0)) p else p
def stepR (r : RuA) (ss : List T2) (ts : List T3) (mor : Nat → Nat) (S : RS) (m : Nat) : RS :=
  ⟨(eatS r ss ts mor m S.wait S.taken (canS r ss m S.can) S.struck).1, (eatS r ss ts mor m S.wait S.taken (canS r ss m S.can) S.struck).2.1, (eatS r ss ts mor m S.wait S.taken (canS r ss m S.can) S.struck).2.2.1, (eatS r ss ts mor m S.wait S.taken (canS r ss m S.can) S.struck).2.2.2, S.lev ++ [(eatS r ss ts mor m S.wait S.taken (canS r ss m S.can) S.struck).2.2.1]⟩
def reachS (r : RuA) (ss : List T2) (ts : List T3) (mor : Nat → Nat) (S : RS) (ms : List Nat) : RS := ms.foldl (stepR r ss ts mor) S
theorem reach_snoc (r : RuA) (ss : List T2) (ts : List T3) (mor : Nat → Nat) (S : RS) (ms : List Nat) (m : Nat) : reachS r ss ts mor S (ms ++ [m]) = stepR r ss ts mor (reachS r ss ts mor S ms) m := by simp [reachS]
theorem eat_nil (r : RuA) (ss : List T2) (ts : List T3) (mor : Nat → Nat) (m : Nat) (tk : List Nat) (can : T2) (st : List T2) : eatS r ss ts mor m [] tk can st = ([], tk, can, st) := by unfold eatS; rfl
theorem eat_no (r : RuA) (ss : List T2) (ts : List T3) (mor : Nat → Nat) {m i : Nat} (rest : List Nat) (tk : List Nat) (can : T2) (st : List T2) (h : mor i ≠ m) : eatS r ss ts mor m (i :: rest) tk can st = (i :: rest, tk, can, st) := by unfold eatS; rw [if_neg h]
theorem eat_take (r : RuA) (ss : List T2) (ts : List T3) (mor : Nat → Nat) {m i : Nat} (rest : List Nat) (tk : List Nat) (can : T2) (st : List T2) (h : mor i = m) (hc : max can.1 (keepT r ts i).1 ≤ min can.2 (keepT r ts i).2) : eatS r ss ts mor m (i :: rest) tk can st = eatS r ss ts mor m rest (tk ++ [i]) (max can.1 (keepT r ts i).1, min can.2 (keepT r ts i).2) st := by
  conv => lhs; unfold eatS
  rw [if_pos h, if_pos hc]
theorem eat_strike (r : RuA) (ss : List T2) (ts : List T3) (mor : Nat → Nat) {m i : Nat} (rest : List Nat) (tk : List Nat) (can : T2) (st : List T2) (h : mor i = m) (hc : ¬ max can.1 (keepT r ts i).1 ≤ min can.2 (keepT r ts i).2) : eatS r ss ts mor m (i :: rest) tk can st = eatS r ss ts mor m rest tk can (st ++ [((i : Int), byS r ss ts mor i tk)]) := by
  conv => lhs; unfold eatS
  rw [if_pos h, if_neg hc]
/-- Tests taken are not later than those that wait. -/
def TkInv (mor : Nat → Nat) (L : List Nat) (n : Nat) (tk : List Nat) (c : Nat) : Prop := ∀ i ∈ tk, i < n ∧ ∀ q, c ≤ q → q < n → mor i ≤ mor (L.getD q 0)
theorem TkInv.next {mor : Nat → Nat} {L : List Nat} {n : Nat} {tk : List Nat} {c : Nat} (h : TkInv mor L n tk c) : TkInv mor L n tk (c + 1) := fun i hi => ⟨(h i hi).1, fun q h1 h2 => (h i hi).2 q (by omega) h2⟩
theorem TkInv.take {mor : Nat → Nat} {L : List Nat} {n : Nat} {tk : List Nat} {c : Nat} (h : TkInv mor L n tk c) (hl : L.getD c 0 < n) (hu : ∀ q, c < q → q < n → mor (L.getD c 0) ≤ mor (L.getD q 0)) : TkInv mor L n (tk ++ [L.getD c 0]) (c + 1) := fun i hi => by
  rcases List.mem_append.1 hi with h1 | h1
  · exact h.next i h1
  · rw [List.mem_singleton] at h1
    subst h1
    exact ⟨hl, fun q h2 h3 => hu q (by omega) h3⟩
theorem drop_at {L : List Nat} {c : Nat} (h : c < L.length) : L.drop c = L.getD c 0 :: L.drop (c + 1) := by
  rw [List.drop_eq_getElem_cons h]; simp [List.getD, h]

/-- Levels with both ends within bounds, not empty. -/
structure CanOK (p : T2) : Prop extends InSp p where
  le : p.1 ≤ p.2
theorem CanOK.ok {p : T2} (h : CanOK p) : OkSp p := ⟨h.a.1, h.b.2, by have := h.le; omega⟩
theorem CanOK.next {r : RuA} {hs ws : List T2} (h : RuOK r hs ws) {s p : T2} (hs' : StrOK s) (hp : CanOK p) : CanOK (nextS r s p) := by
  refine ⟨next_in h hs' hp.toInSp, ?_⟩
  show leastS r s.1 p.1 ≤ mostS r s.2 p.2
  exact Int.le_trans (least_mono h.feed.1 hs'.lo hp.le) (least_most h hp.b.1 hs'.le)
theorem CanOK.can {r : RuA} {hs ws : List T2} (h : RuOK r hs ws) {ss : List T2} {N : Nat} (hss : ss.length = N) (hst : ∀ s ∈ ss, StrOK s) {p : T2} (hp : CanOK p) {m : Nat} (hm : m ≤ N) : CanOK (canS r ss m p) := by
  unfold canS
  split
  · exact hp.next h (hst _ (getD_lt (by omega)))
  · exact hp
theorem CanOK.both {p q : T2} (hp : CanOK p) (hq : InSp q) (h : max p.1 q.1 ≤ min p.2 q.2) : CanOK (max p.1 q.1, min p.2 q.2) :=
  ⟨⟨⟨by have := hp.a.1; show 0 ≤ max p.1 q.1; omega, by have := hp.a.2; have := hq.a.2; show max p.1 q.1 ≤ 1000000; omega⟩, ⟨by have := hp.b.1; have := hq.b.1; show 0 ≤ min p.2 q.2; omega, by have := hp.b.2; show min p.2 q.2 ≤ 1000000; omega⟩⟩, h⟩
/-- What stays true of the levels. -/
theorem eat_can {r : RuA} {hs ws : List T2} (h : RuOK r hs ws) (ss : List T2) (ts : List T3) (mor : Nat → Nat) (m : Nat) : ∀ (L tk : List Nat) (can : T2) (st : List T2), CanOK can → CanOK (eatS r ss ts mor m L tk can st).2.2.1
  | [], tk, can, st, hc => by rw [eat_nil]; exact hc
  | i :: rest, tk, can, st, hc => by
    by_cases h1 : mor i = m
    · by_cases h2 : max can.1 (keepT r ts i).1 ≤ min can.2 (keepT r ts i).2
      · rw [eat_take r ss ts mor rest tk can st h1 h2]; exact eat_can h ss ts mor m rest _ _ _ (hc.both (keep_in h _ _) h2)
      · rw [eat_strike r ss ts mor rest tk can st h1 h2]; exact eat_can h ss ts mor m rest _ _ _ hc
    · rw [eat_no r ss ts mor rest tk can st h1]; exact hc
theorem reach_ok {r : RuA} {hs ws : List T2} (h : RuOK r hs ws) {ss : List T2} {N : Nat} (hss : ss.length = N) (hst : ∀ s ∈ ss, StrOK s) (ts : List T3) (mor : Nat → Nat) : ∀ (ms : List Nat) (S : RS), (∀ m ∈ ms, m ≤ N) → CanOK S.can → (∀ p ∈ S.lev, OkSp p) → CanOK (reachS r ss ts mor S ms).can ∧ (∀ p ∈ (reachS r ss ts mor S ms).lev, OkSp p) ∧ (reachS r ss ts mor S ms).lev.length = S.lev.length + ms.length
  | [], S, _, hc, hl => ⟨hc, hl, rfl⟩
  | m :: ms, S, hm, hc, hl => by
    have hc' : CanOK (stepR r ss ts mor S m).can := eat_can h ss ts mor m S.wait S.taken _ S.struck (hc.can h hss hst (hm m (by simp)))
    have ih := reach_ok h hss hst ts mor ms (stepR r ss ts mor S m) (fun x hx => hm x (by simp [hx])) hc' (fun p hp => by
      rcases List.mem_append.1 (show p ∈ S.lev ++ [_] from hp) with h1 | h1
      · exact hl p h1
      · rw [List.mem_singleton] at h1; rw [h1]; exact hc'.ok)
    have e : (stepR r ss ts mor S m).lev.length = S.lev.length + 1 := by show (S.lev ++ [_]).length = _; simp
    refine ⟨ih.1, ih.2.1, ?_⟩
    show (reachS r ss ts mor (stepR r ss ts mor S m) ms).lev.length = _
    rw [ih.2.2, e, List.length_cons]; omega
def ints (l : List Nat) : List Value := l.map fun (i : Nat) => .int .i64 i
theorem ints_len (l : List Nat) : (ints l).length = l.length := by simp [ints]
theorem ints_snoc (l : List Nat) (i : Nat) : ints (l ++ [i]) = ints l ++ [.int .i64 i] := by simp [ints]
end Go.Proofs.Ytanjkhclhcnnaaa
/- reached: what the memory holds while mornings come. -/
namespace Go.Proofs.Ytanjkhclhcnnaaa
open Go.RowKit Go.Shelf

theorem keeps_below {B : Nat} {W W1 : World} (hb : Below W.heap.size W W1) : KeepsFrom B W W1 :=
  ⟨hb.size, fun k _ _ h _ => (hb.block k (Array.getElem?_eq_some_iff.1 h).1).trans h⟩
theorem kb2_below {F1 F2 : Nat} {W W1 : World} (hb : Below W.heap.size W W1) (h1 : F1 < W.heap.size) (h2 : F2 < W.heap.size) : KB2 F1 F2 W W1 := ⟨hb.block _ h1, hb.block _ h2⟩
theorem keeps_set {B q : Nat} {W : World} {T : TypeId} {cs : Array Value} (ho : Ob W q T cs) (j : Nat) (v : Value) : KeepsFrom B W (W.setCell ⟨q, j, none⟩ v) :=
  ⟨by simp [World.setCell], fun k o _ hk hc => by
    by_cases e : k = q
    · subst e
      unfold Ob at ho
      rw [ho] at hk
      cases hk
      cases hc
    · rw [Below.heap_setCell _ _ _ _ (by simpa using e)]
      exact hk⟩
theorem kb2_set {F1 F2 q : Nat} (W : World) (j : Nat) (v : Value) (h1 : F1 ≠ q) (h2 : F2 ≠ q) : KB2 F1 F2 W (W.setCell ⟨q, j, none⟩ v) := ⟨Below.heap_setCell _ _ _ _ (by simpa using h1), Below.heap_setCell _ _ _ _ (by simpa using h2)⟩
theorem keeps_grow {B base : Nat} {W W1 : World} {e : TypeId} {s n : Nat} {v : Value} {xs : List Value} (h : W.ownsRow base e s v n xs) (hg : W.grownBy W1 v.ownBlock) : KeepsFrom B W W1 :=
  ⟨hg.size, fun k o _ hk hc => by
    by_cases e : v.ownBlock = some k
    · obtain ⟨c, fz, h3⟩ := Lib.ownsRow_kind h k e
      rw [h3] at hk
      cases hk
      cases hc
    · exact (hg.block k (Array.getElem?_eq_some_iff.1 hk).1 (fun q => e q.symm)).trans hk⟩
theorem kb2_grow {F1 F2 base : Nat} {W W1 : World} {e : TypeId} {s n : Nat} {v : Value} {xs : List Value} (h : W.ownsRow base e s v n xs) (hg : W.grownBy W1 v.ownBlock) (h1 : F1 < base) (h2 : F2 < base) (s1 : F1 < W.heap.size) (s2 : F2 < W.heap.size) : KB2 F1 F2 W W1 :=
  ⟨hg.block _ s1 (fun q => by have := (h.lt _ q.symm).1; omega), hg.block _ s2 (fun q => by have := (h.lt _ q.symm).1; omega)⟩
theorem below_grow {B base : Nat} {w W W1 : World} {e : TypeId} {s n : Nat} {v : Value} {xs : List Value} (hw : Below B w W) (h : W.ownsRow base e s v n xs) (hg : W.grownBy W1 v.ownBlock) (hB : B ≤ base) (hs : B ≤ W.heap.size) : Below B w W1 :=
  hw.grown hg hs fun k hk => Nat.le_trans hB (h.lt k hk).1
theorem row_ne {base base2 : Nat} {W W1 : World} {e e2 : TypeId} {s n s2 n2 : Nat} {v v2 : Value} {xs xs2 : List Value} (h : W.ownsRow base e s v n xs) (h2 : W.ownsRow base2 e2 s2 v2 n2 xs2) (hg : W.grownBy W1 v2.ownBlock) (hne : e ≠ e2) : W1.ownsRow base e s v n xs := by
  refine h.kept hg ?_
  cases hv : v.ownBlock with
  | none => exact .inl rfl
  | some q =>
    refine .inr ?_
    intro e1
    obtain ⟨c, fz, h3⟩ := Lib.ownsRow_kind h q hv
    obtain ⟨c', fz', h4⟩ := Lib.ownsRow_kind h2 q e1.symm
    rw [h3] at h4
    cases h4
    exact hne rfl
theorem ob_grow {base q : Nat} {W W1 : World} {T e : TypeId} {s n : Nat} {v : Value} {xs : List Value} {cs : Array Value} (ho : Ob W q T cs) (h : W.ownsRow base e s v n xs) (hg : W.grownBy W1 v.ownBlock) (hq : q < base) : Ob W1 q T cs :=
  ho.grown hg fun e1 => by have := (h.lt q e1).1; omega
theorem row_setb {base q : Nat} {W : World} {e : TypeId} {s n : Nat} {v : Value} {xs : List Value} (h : W.ownsRow base e s v n xs) (hq : q < base) (j : Nat) (u : Value) : (W.setCell ⟨q, j, none⟩ u).ownsRow base e s v n xs :=
  row_set h (fun e1 => by have := (h.lt q e1).1; omega) u

/-- The memory: the task, the boxes of the variables, the rows, what stays for the loop over a function. -/
structure RM (t : TkA) (ssv : Value) (w W0 : World) (z g n : Nat) (L : List Nat) (lev : List T2) (lv bl : Value) (c : Nat) (tk : List Nat) (tv bk : Value) (can : T2) (st : List T2) (sv bs : Value) (W : World) : Prop where
  gg : w.heap.size + 1 + 1 < g ∧ g < z
  oT : Ob W w.heap.size 104 (t.xc ssv)
  oL : Ob W (w.heap.size + 1) 49 #[bl]
  oS : Ob W (w.heap.size + 1 + 1) 50 #[bs]
  oG : Ob W g 3 (cellsN L)
  oW : Ob W z 46 #[.slice (some ⟨g, min c (n - 1), none⟩) (n - c) (n - c)]
  oK : Ob W (z + 1) 46 #[bk]
  oC : Ob W (z + 1 + 1) 28 #[.int .i64 can.1, .int .i64 can.2]
  rL : W.ownsRow (z + 5) 28 2 lv lev.length (flat2 lev)
  rS : W.ownsRow (z + 5) 78 2 sv st.length (flat2 st)
  rK : W.ownsRow (z + 5) 3 1 tv tk.length (ints tk)
  bw : Below w.heap.size w W
  kf : KeepsFrom (z + 5) W0 W
  kb : KB2 (z + 3) (z + 4) W0 W
  sz : z + 5 ≤ W.heap.size

variable {t : TkA} {ssv : Value} {w W0 : World} {z g n : Nat} {L : List Nat} {lev : List T2} {lv bl : Value} {c : Nat} {tk : List Nat} {tv bk : Value} {can : T2} {st : List T2} {sv bs : Value} {W : World}

theorem RM.below (h : RM t ssv w W0 z g n L lev lv bl c tk tv bk can st sv bs W) {W1 : World} (hb : Below W.heap.size W W1) : RM t ssv w W0 z g n L lev lv bl c tk tv bk can st sv bs W1 :=
  have hz := h.sz
  ⟨h.gg, h.oT.below hb, h.oL.below hb, h.oS.below hb, h.oG.below hb, h.oW.below hb, h.oK.below hb, h.oC.below hb, row_below h.rL hb, row_below h.rS hb, row_below h.rK hb, B_trans h.bw hb, h.kf.trans (keeps_below hb), h.kb.trans (kb2_below hb (by omega) (by omega)), Nat.le_trans h.sz hb.size⟩
theorem RM.start (h : RM t ssv w W0 z g n L lev lv bl c tk tv bk can st sv bs W) : RM t ssv w W z g n L lev lv bl c tk tv bk can st sv bs W :=
  ⟨h.gg, h.oT, h.oL, h.oS, h.oG, h.oW, h.oK, h.oC, h.rL, h.rS, h.rK, h.bw, KeepsFrom.refl _ _, KB2.refl _ _ _, h.sz⟩
theorem RM.own (h : RM t ssv w W0 z g n L lev lv bl c tk tv bk can st sv bs W) {W1 : World} {row : Option Nat} (hg : W.grownBy W1 row) (hr : ∀ r, row = some r → z + 5 ≤ r ∧ ∃ o : Obj, W.heap[r]? = some o ∧ o.isCells = false) : RM t ssv w W1 z g n L lev lv bl c tk tv bk can st sv bs W1 :=
  have hr2 := fun r e => (hr r e).2
  ⟨h.gg, h.oT.own hg hr2, h.oL.own hg hr2, h.oS.own hg hr2, h.oG.own hg hr2, h.oW.own hg hr2, h.oK.own hg hr2, h.oC.own hg hr2, row_own h.rL hg hr2, row_own h.rS hg hr2, row_own h.rK hg hr2, below_own h.bw (Nat.le_refl _) hg (fun r e => by have := (hr r e).1; have := h.gg; omega), KeepsFrom.refl _ _, KB2.refl _ _ _, Nat.le_trans h.sz hg.size⟩
/-- A store into the box of the levels that can be. -/
theorem RM.setC (h : RM t ssv w W0 z g n L lev lv bl c tk tv bk can st sv bs W) (p : T2) : RM t ssv w W0 z g n L lev lv bl c tk tv bk p st sv bs ((W.setCell ⟨z + 1 + 1, 0, none⟩ (.int .i64 p.1)).setCell ⟨z + 1 + 1, 1, none⟩ (.int .i64 p.2)) :=
  have hz := h.sz
  have hg := h.gg
  ⟨h.gg, (h.oT.other (by simp only; omega) _).other (by simp only; omega) _, (h.oL.other (by simp only; omega) _).other (by simp only; omega) _, (h.oS.other (by simp only; omega) _).other (by simp only; omega) _, (h.oG.other (by simp only; omega) _).other (by simp only; omega) _, (h.oW.other (by simp only; omega) _).other (by simp only; omega) _, (h.oK.other (by simp only; omega) _).other (by simp only; omega) _,
    by simpa using (h.oC.set 0 (.int .i64 p.1)).set 1 (.int .i64 p.2),
    row_setb (row_setb h.rL (by omega) _ _) (by omega) _ _, row_setb (row_setb h.rS (by omega) _ _) (by omega) _ _, row_setb (row_setb h.rK (by omega) _ _) (by omega) _ _,
    (h.bw.setCell (by simp only; omega) _).setCell (by simp only; omega) _,
    h.kf.trans ((keeps_set h.oC 0 _).trans (keeps_set (h.oC.set 0 (.int .i64 p.1)) 1 _)),
    h.kb.trans ((kb2_set _ _ _ (by omega) (by omega)).trans (kb2_set _ _ _ (by omega) (by omega))), by simpa [World.setCell] using h.sz⟩
/-- The first test that waits is done with. -/
theorem RM.setW (h : RM t ssv w W0 z g n L lev lv bl c tk tv bk can st sv bs W) (v : Value) (hv : v = .slice (some ⟨g, min (c + 1) (n - 1), none⟩) (n - (c + 1)) (n - (c + 1))) : RM t ssv w W0 z g n L lev lv bl (c + 1) tk tv bk can st sv bs (W.setCell ⟨z, 0, none⟩ v) :=
  have hz := h.sz
  have hg := h.gg
  ⟨h.gg, h.oT.other (by simp only; omega) _, h.oL.other (by simp only; omega) _, h.oS.other (by simp only; omega) _, h.oG.other (by simp only; omega) _, by subst hv; simpa using h.oW.set 0 (.slice (some ⟨g, min (c + 1) (n - 1), none⟩) (n - (c + 1)) (n - (c + 1))), h.oK.other (by simp only; omega) _, h.oC.other (by simp only; omega) _,
    row_setb h.rL (by omega) _ _, row_setb h.rS (by omega) _ _, row_setb h.rK (by omega) _ _, h.bw.setCell (by simp only; omega) _,
    h.kf.trans (keeps_set h.oW 0 _), h.kb.trans (kb2_set _ _ _ (by omega) (by omega)), by simpa [World.setCell] using h.sz⟩
theorem RM.setK (h : RM t ssv w W0 z g n L lev lv bl c tk tv bk can st sv bs W) (v : Value) : RM t ssv w W0 z g n L lev lv bl c tk tv v can st sv bs (W.setCell ⟨z + 1, 0, none⟩ v) :=
  have hz := h.sz
  have hg := h.gg
  ⟨h.gg, h.oT.other (by simp only; omega) _, h.oL.other (by simp only; omega) _, h.oS.other (by simp only; omega) _, h.oG.other (by simp only; omega) _, h.oW.other (by simp only; omega) _, by simpa using h.oK.set 0 v, h.oC.other (by simp only; omega) _,
    row_setb h.rL (by omega) _ _, row_setb h.rS (by omega) _ _, row_setb h.rK (by omega) _ _, h.bw.setCell (by simp only; omega) _,
    h.kf.trans (keeps_set h.oK 0 _), h.kb.trans (kb2_set _ _ _ (by omega) (by omega)), by simpa [World.setCell] using h.sz⟩
theorem RM.setS (h : RM t ssv w W0 z g n L lev lv bl c tk tv bk can st sv bs W) (v : Value) : RM t ssv w W0 z g n L lev lv bl c tk tv bk can st sv v (W.setCell ⟨w.heap.size + 1 + 1, 0, none⟩ v) :=
  have hz := h.sz
  have hg := h.gg
  ⟨h.gg, h.oT.other (by simp only; omega) _, h.oL.other (by simp only; omega) _, by simpa using h.oS.set 0 v, h.oG.other (by simp only; omega) _, h.oW.other (by simp only; omega) _, h.oK.other (by simp only; omega) _, h.oC.other (by simp only; omega) _,
    row_setb h.rL (by omega) _ _, row_setb h.rS (by omega) _ _, row_setb h.rK (by omega) _ _, h.bw.setCell (by simp only; omega) _,
    h.kf.trans (keeps_set h.oS 0 _), h.kb.trans (kb2_set _ _ _ (by omega) (by omega)), by simpa [World.setCell] using h.sz⟩
theorem RM.setL (h : RM t ssv w W0 z g n L lev lv bl c tk tv bk can st sv bs W) (v : Value) : RM t ssv w W0 z g n L lev lv v c tk tv bk can st sv bs (W.setCell ⟨w.heap.size + 1, 0, none⟩ v) :=
  have hz := h.sz
  have hg := h.gg
  ⟨h.gg, h.oT.other (by simp only; omega) _, by simpa using h.oL.set 0 v, h.oS.other (by simp only; omega) _, h.oG.other (by simp only; omega) _, h.oW.other (by simp only; omega) _, h.oK.other (by simp only; omega) _, h.oC.other (by simp only; omega) _,
    row_setb h.rL (by omega) _ _, row_setb h.rS (by omega) _ _, row_setb h.rK (by omega) _ _, h.bw.setCell (by simp only; omega) _,
    h.kf.trans (keeps_set h.oL 0 _), h.kb.trans (kb2_set _ _ _ (by omega) (by omega)), by simpa [World.setCell] using h.sz⟩
/-- A test more in the row of those taken; a strike; a morning's levels. -/
theorem RM.addK (h : RM t ssv w W0 z g n L lev lv bl c tk tv bk can st sv bs W) {W1 : World} {i : Nat} {v : Value} (hg : W.grownBy W1 tv.ownBlock) (ho : W1.ownsRow (z + 5) 3 1 v (tk.length + 1) (ints tk ++ [.int .i64 i])) : RM t ssv w W0 z g n L lev lv bl c (tk ++ [i]) v bk can st sv bs W1 :=
  have hz := h.sz
  have hgg := h.gg
  ⟨h.gg, ob_grow h.oT h.rK hg (by omega), ob_grow h.oL h.rK hg (by omega), ob_grow h.oS h.rK hg (by omega), ob_grow h.oG h.rK hg (by omega), ob_grow h.oW h.rK hg (by omega), ob_grow h.oK h.rK hg (by omega), ob_grow h.oC h.rK hg (by omega),
    row_ne h.rL h.rK hg (by decide), row_ne h.rS h.rK hg (by decide), by rw [ints_snoc, List.length_append]; exact ho, below_grow h.bw h.rK hg (by omega) h.bw.size,
    h.kf.trans (keeps_grow h.rK hg), h.kb.trans (kb2_grow h.rK hg (by omega) (by omega) (by omega) (by omega)), Nat.le_trans h.sz hg.size⟩
theorem RM.addS (h : RM t ssv w W0 z g n L lev lv bl c tk tv bk can st sv bs W) {W1 : World} {p : T2} {v : Value} (hg : W.grownBy W1 sv.ownBlock) (ho : W1.ownsRow (z + 5) 78 2 v (st.length + 1) (flat2 st ++ [.int .i64 p.1, .int .i64 p.2])) : RM t ssv w W0 z g n L lev lv bl c tk tv bk can (st ++ [p]) v bs W1 :=
  have hz := h.sz
  have hgg := h.gg
  ⟨h.gg, ob_grow h.oT h.rS hg (by omega), ob_grow h.oL h.rS hg (by omega), ob_grow h.oS h.rS hg (by omega), ob_grow h.oG h.rS hg (by omega), ob_grow h.oW h.rS hg (by omega), ob_grow h.oK h.rS hg (by omega), ob_grow h.oC h.rS hg (by omega),
    row_ne h.rL h.rS hg (by decide), by rw [flat2_snoc, List.length_append]; exact ho, row_ne h.rK h.rS hg (by decide), below_grow h.bw h.rS hg (by omega) h.bw.size,
    h.kf.trans (keeps_grow h.rS hg), h.kb.trans (kb2_grow h.rS hg (by omega) (by omega) (by omega) (by omega)), Nat.le_trans h.sz hg.size⟩
theorem RM.addL (h : RM t ssv w W0 z g n L lev lv bl c tk tv bk can st sv bs W) {W1 : World} {p : T2} {v : Value} (hg : W.grownBy W1 lv.ownBlock) (ho : W1.ownsRow (z + 5) 28 2 v (lev.length + 1) (flat2 lev ++ [.int .i64 p.1, .int .i64 p.2])) : RM t ssv w W0 z g n L (lev ++ [p]) v bl c tk tv bk can st sv bs W1 :=
  have hz := h.sz
  have hgg := h.gg
  ⟨h.gg, ob_grow h.oT h.rL hg (by omega), ob_grow h.oL h.rL hg (by omega), ob_grow h.oS h.rL hg (by omega), ob_grow h.oG h.rL hg (by omega), ob_grow h.oW h.rL hg (by omega), ob_grow h.oK h.rL hg (by omega), ob_grow h.oC h.rL hg (by omega),
    by rw [flat2_snoc, List.length_append]; exact ho, row_ne h.rS h.rL hg (by decide), row_ne h.rK h.rL hg (by decide), below_grow h.bw h.rL hg (by omega) h.bw.size,
    h.kf.trans (keeps_grow h.rL hg), h.kb.trans (kb2_grow h.rL hg (by omega) (by omega) (by omega) (by omega)), Nat.le_trans h.sz hg.size⟩

theorem RM.cells (h : RM t ssv w W0 z g n L lev lv bl c tk tv bk can st sv bs W) : W.cell? ⟨w.heap.size, 0, none⟩ = some (.slice t.r.ha t.r.hn t.r.hc) ∧ W.cell? ⟨w.heap.size, 1, none⟩ = some (.slice t.r.wa t.r.wn t.r.wc) ∧ W.cell? ⟨w.heap.size, 2, none⟩ = some (.int .i64 t.r.own) ∧ W.cell? ⟨w.heap.size, 3, none⟩ = some (.int .i64 t.r.feed) ∧ W.cell? ⟨w.heap.size, 4, none⟩ = some (.int .i64 t.r.g0) ∧ W.cell? ⟨w.heap.size, 5, none⟩ = some (.int .i64 t.r.g1) ∧ W.cell? ⟨w.heap.size, 6, none⟩ = some (.int .i64 t.r.g2) ∧ W.cell? ⟨w.heap.size, 7, none⟩ = some (.int .i64 t.r.lost) ∧ W.cell? ⟨w.heap.size, 8, none⟩ = some (.int .i64 t.first) ∧ W.cell? ⟨w.heap.size, 9, none⟩ = some ssv ∧ W.cell? ⟨w.heap.size, 10, none⟩ = some (.int .i64 t.lo) ∧ W.cell? ⟨w.heap.size, 11, none⟩ = some (.int .i64 t.hi) ∧ W.cell? ⟨w.heap.size, 12, none⟩ = some (.slice t.ta t.tn t.tc) :=
  ⟨h.oT.cell 0, h.oT.cell 1, h.oT.cell 2, h.oT.cell 3, h.oT.cell 4, h.oT.cell 5, h.oT.cell 6, h.oT.cell 7, h.oT.cell 8, h.oT.cell 9, h.oT.cell 10, h.oT.cell 11, h.oT.cell 12⟩
theorem RM.boxes (h : RM t ssv w W0 z g n L lev lv bl c tk tv bk can st sv bs W) : W.cell? ⟨w.heap.size + 1, 0, none⟩ = some bl ∧ W.cell? ⟨w.heap.size + 1 + 1, 0, none⟩ = some bs ∧ W.cell? ⟨z, 0, none⟩ = some (.slice (some ⟨g, min c (n - 1), none⟩) (n - c) (n - c)) ∧ W.cell? ⟨z + 1, 0, none⟩ = some bk ∧ W.cell? ⟨z + 1 + 1, 0, none⟩ = some (.int .i64 can.1) ∧ W.cell? ⟨z + 1 + 1, 1, none⟩ = some (.int .i64 can.2) :=
  ⟨h.oL.cell 0, h.oS.cell 0, h.oW.cell 0, h.oK.cell 0, h.oC.cell 0, h.oC.cell 1⟩
theorem RM.free (h : RM t ssv w W0 z g n L lev lv bl c tk tv bk can st sv bs W) : W.frozen? ⟨w.heap.size + 1, 0, none⟩ = false ∧ W.frozen? ⟨w.heap.size + 1 + 1, 0, none⟩ = false ∧ W.frozen? ⟨z, 0, none⟩ = false ∧ W.frozen? ⟨z + 1, 0, none⟩ = false ∧ W.frozen? ⟨z + 1 + 1, 0, none⟩ = false ∧ W.frozen? ⟨z + 1 + 1, 1, none⟩ = false :=
  ⟨h.oL.frozen 0, h.oS.frozen 0, h.oW.frozen 0, h.oK.frozen 0, h.oC.frozen 0, h.oC.frozen 1⟩
/-- The test that waits first. -/
theorem RM.head (h : RM t ssv w W0 z g n L lev lv bl c tk tv bk can st sv bs W) (hc : c < L.length) : W.cell? ⟨g, c, none⟩ = some (.int .i64 (L.getD c 0 : Nat)) := (h.oG.cell c).trans (cellsN_at hc)
/-- What holds while a morning's levels are put, step by step. -/
def R7 (M : T2 → World → Prop) (can : T2) (u v : Int) (k : Nat) (outs : Nat → Value) (W : World) : Prop := (k ≤ 1 → M can W) ∧ (1 ≤ k → outs 0 = .agg #[.int .i64 u, .int .i64 v]) ∧ (k = 2 → M (u, v) W)
def V7 (T1 : Nat) (rc : Array Value) (sv : Value) (m q sb so : Nat) (s p : T2) (outs : Nat → Value) : Nat → Value
  | 24 => .pointer (some ⟨T1, 0, none⟩)
  | 25 => .agg rc
  | 26 => .pointer (some ⟨T1, 9, none⟩)
  | 27 => sv
  | 28 => .int .i64 m
  | 29 => .int .i64 q
  | 30 => .pointer (some ⟨sb, so + q * 2, none⟩)
  | 31 => .agg #[.int .i64 s.1, .int .i64 s.2]
  | 32 => .agg #[.int .i64 p.1, .int .i64 p.2]
  | 33 => outs 0
  | _ => undef
def need7 : Nat → Nat := fun i => [0, 0, 0, 0, 0, 0, 0, 0, 0, 0, 1].getD i 0
def till7 : Nat → Nat := fun i => [1, 1, 1, 1, 1, 1, 1, 1, 1, 0, 1].getD i 0
def eff7 : Nat → Bool := fun i => [false, false, false, false, false, false, false, false, false, true, true].getD i false

theorem infoInt : (Try.prog.info? 3).map (fun i => (i.zero, i.size, i.bytes)) = some (some (.int .i64 0), 1, 8) := by kernel_rfl
theorem infoStrike : (Try.prog.info? 78).map (fun i => (i.zero, i.size, i.bytes)) = some (some (.agg #[.int .i64 0, .int .i64 0]), 2, 16) := by kernel_rfl
/-- A row of integers, of strikes, to which one is joined. -/
theorem joinedI {W : World} {base n : Nat} {v : Value} {xs : List Value} {q : Nat} {i : Int} (hv : W.ownsRow base 3 1 v n xs) (hg : Ob W q 3 #[.int .i64 i]) (hn : n ≤ 100000) (hb : base ≤ W.heap.size) :
    ∃ v' w', (Builtin.append_ #[46, 46] 46 #[v, .slice (some ⟨q, 0, none⟩) 1 1]).run Try.prog W = .ok v' w' ∧ w'.ownsRow base 3 1 v' (n + 1) (xs ++ [.int .i64 i]) ∧ W.grownBy w' v.ownBlock := by
  obtain ⟨i0, hi, hz0, hs0, hy0⟩ := info_parts infoInt
  obtain ⟨v', w', h1, h2, h3, -⟩ := run_append_own (P := Try.prog) (w := W) base 46 46 3 i0 _ 1 8 Try.underlying46 hi hz0 hs0 hy0 rfl (by decide) v n xs hv ⟨q, 0, none⟩ 1 1 [.int .i64 i] rfl
    (fun j u h => by
      rw [show (⟨q, 0, none⟩ : Addr).add j = ⟨q, j, none⟩ by simp [Addr.add, eq_comm]]
      rw [hg.cell]; simpa using h) (by intro u hu; simp at hu; subst hu; rfl) (by unfold maxLen; omega) (by omega) hb
  exact ⟨v', w', h1, h2, h3⟩
theorem joinedS {W : World} {base n : Nat} {v : Value} {xs : List Value} {g : Nat} {p q : Int} (hv : W.ownsRow base 78 2 v n xs) (hg : Ob W g 78 #[.int .i64 p, .int .i64 q]) (hn : n ≤ 100000) (hb : base ≤ W.heap.size) :
    ∃ v' w', (Builtin.append_ #[50, 50] 50 #[v, .slice (some ⟨g, 0, none⟩) 1 1]).run Try.prog W = .ok v' w' ∧ w'.ownsRow base 78 2 v' (n + 1) (xs ++ [.int .i64 p, .int .i64 q]) ∧ W.grownBy w' v.ownBlock := by
  obtain ⟨i0, hi, hz0, hs0, hy0⟩ := info_parts infoStrike
  obtain ⟨v', w', h1, h2, h3, -⟩ := run_append_own (P := Try.prog) (w := W) base 50 50 78 i0 _ 2 16 Try.underlying50 hi hz0 hs0 hy0 rfl (by decide) v n xs hv ⟨g, 0, none⟩ 1 1 [.int .i64 p, .int .i64 q] rfl
    (fun j u h => by
      rw [show (⟨g, 0, none⟩ : Addr).add j = ⟨g, j, none⟩ by simp [Addr.add, eq_comm]]
      rw [hg.cell]; simpa using h) (by intro u hu; simp at hu; rcases hu with rfl | rfl <;> rfl) (by unfold maxLen; omega) (by omega) hb
  exact ⟨v', w', h1, h2, h3⟩
theorem ints_row {W : World} {base : Nat} {e : TypeId} {v : Value} {tk : List Nat} (h : W.ownsRow base e 1 v tk.length (ints tk)) {b0 : Nat} (hb0 : b0 < W.heap.size) :
    ∃ ka kc b o, v = .slice ka tk.length kc ∧ (0 < tk.length → ka = some ⟨b, o, none⟩) ∧ b < W.heap.size ∧ ∀ i, i < tk.length → W.cell? ⟨b, o + i, none⟩ = some (.int .i64 (tk.getD i 0 : Nat)) := by
  rcases h.2 with ⟨h1, h2⟩ | ⟨q, cap, cur, h1, h2, h3, h4, h5, h6, h7⟩
  · exact ⟨none, 0, b0, 0, by rw [h1, h2], fun h => by omega, hb0, fun i hi => by omega⟩
  · refine ⟨some ⟨q, 0, none⟩, cap, q, 0, h1, fun _ => rfl, (Array.getElem?_eq_some_iff.1 h3).1, fun i hi => ?_⟩
    have e1 : cur.toList[i]? = some (.int .i64 (tk.getD i 0 : Nat)) := by
      have e2 : (cur.toList.take (tk.length * 1))[i]? = (ints tk)[i]? := by rw [h7]
      rw [List.getElem?_take_of_lt (by omega)] at e2
      rw [e2]
      simp [ints, List.getD, hi]
    have e3 := Ob.cell (show Ob W q e cur from h3) i
    rw [Nat.zero_add, e3]
    simpa using e1
end Go.Proofs.Ytanjkhclhcnnaaa
/- reached: the walk. -/
namespace Go.Proofs.Ytanjkhclhcnnaaa
open Go.RowKit Go.Shelf
attribute [local go_sem] Oper.semAt_some

/-- An operation with a guard that is met. -/
theorem AllReadyH.cons_want {P : Program} {ops : Array Oper} {Q : Exit → Act → World → Prop} {md : Region.Mode} {S : World → Prop} {fuel : Nat} {listed : Array Bool} {a : Act} {w : World} {i : Nat} {o : Oper} {rs : List Nat} (ho : ops[i]? = some o) (hw : Region.wanted o (yielded ops a.tmps) = true)
    (h : ∀ K' : Act → World → Prop, Shut (∀ a w, S w → (S w → wpAnyH P md ops Q S fuel (listed.setIfInBounds i true) a w) → K' a w) → Oper.wp P o a w K' Q)
    (hs : AllReadyH P md ops Q S fuel listed a w rs) : AllReadyH P md ops Q S fuel listed a w (i :: rs) :=
  AllReadyH.cons ho (fun K' hK => by rw [if_pos hw]; exact h K' hK) hs
theorem wpAnyH_take2 {P : Program} {ops : Array Oper} {Q : Exit → Act → World → Prop} {md : Region.Mode} {S : World → Prop} {i : Nat} {t : Tmp} {oi : Oper} {v : Value} {fuel : Nat} {listed : Array Bool} {a : Act} {w : World} (hi : ops[i]? = some oi) (hd : oi.dst = some t)
    (hs : Region.noSelect ops = true) (hf : Region.free md ops listed i = true) (hr : (Region.ready md ops listed).contains i = true)
    (hQ : ∀ c a w, Q (.panic c) (a.put oi.dst v) w → Q (.panic c) a w) (hy : YieldsIf P ops S oi v a) (hS : S w)
    (h : wpAnyH P md ops Q S fuel (listed.setIfInBounds i true) (a.put (some t) v) w) : wpAnyH P md ops Q S (fuel + 1) listed a w :=
  wpAnyH_take hi hs hf hr hQ hy hS (by rw [hd]; exact h)
/-- An operation whose guard is not met. -/
theorem wpAnyH_skip {P : Program} {ops : Array Oper} {Q : Exit → Act → World → Prop} {md : Region.Mode} {S : World → Prop} {i : Nat} {t : Tmp} {oi : Oper} {fuel : Nat} {listed : Array Bool} {a : Act} {w : World} (hi : ops[i]? = some oi) (hd : oi.dst = some t)
    (hs : Region.noSelect ops = true) (hf : Region.free md ops listed i = true) (hr : (Region.ready md ops listed).contains i = true)
    (hQ : ∀ c a w, Q (.panic c) (a.put oi.dst undef) w → Q (.panic c) a w) (hw : Region.wanted oi (yielded ops a.tmps) = false) (hS : S w)
    (h : wpAnyH P md ops Q S fuel (listed.setIfInBounds i true) (a.put (some t) undef) w) : wpAnyH P md ops Q S (fuel + 1) listed a w :=
  wpAnyH_take hi hs hf hr hQ (Or.inr ⟨hw, rfl⟩) hS (by rw [hd]; exact h)
/-- What holds while a test is taken, step by step. -/
def I13 (M : List Nat → Value → Value → T2 → World → Prop) (b9 i : Nat) (tk : List Nat) (tv : Value) (can p : T2) (k : Nat) (outs : Nat → Value) (W : World) : Prop :=
  (k ≤ 2 → Ob W b9 28 #[.int .i64 p.1, .int .i64 p.2]) ∧ (k ≤ 1 → M tk tv tv can W) ∧ (k = 1 → ∃ q, outs 0 = .slice (some ⟨q, 0, none⟩) 1 1 ∧ Ob W q 3 #[.int .i64 i]) ∧
  (k = 2 → M (tk ++ [i]) (outs 1) tv can W) ∧ (k = 3 → M (tk ++ [i]) (outs 1) tv p W) ∧ (k = 4 → M (tk ++ [i]) (outs 1) (outs 1) p W)
def V13 (i : Nat) (tv : Value) (p : T2) (outs : Nat → Value) : Nat → Value
  | 65 => .agg #[.int .i64 p.1, .int .i64 p.2]
  | 66 => tv
  | 67 => .int .i64 i
  | 68 => outs 0
  | 69 => outs 1
  | _ => undef
def need13 : Nat → Nat := fun i => [0, 0, 0, 0, 1, 2, 3].getD i 0
def till13 : Nat → Nat := fun i => [2, 1, 0, 0, 1, 2, 3].getD i 0
def eff13 : Nat → Bool := fun i => [false, false, false, true, true, true, true].getD i false
/-- What holds while a test is struck, step by step. -/
def I14 (M : List T2 → Value → Value → World → Prop) (W2 : World) (i : Nat) (by_ : Int) (st : List T2) (sv : Value) (k : Nat) (outs : Nat → Value) (W : World) : Prop :=
  (k = 0 → Below W2.heap.size W2 W) ∧ (k ≤ 2 → M st sv sv W) ∧ (1 ≤ k → outs 0 = .int .i64 by_) ∧ (k = 2 → ∃ q, outs 1 = .slice (some ⟨q, 0, none⟩) 1 1 ∧ Ob W q 78 #[.int .i64 i, .int .i64 by_]) ∧
  (k = 3 → M (st ++ [((i : Int), by_)]) (outs 2) sv W) ∧ (k = 4 → M (st ++ [((i : Int), by_)]) (outs 2) (outs 2) W)
def V14 (i : Nat) (xc : Array Value) (sv tv : Value) (outs : Nat → Value) : Nat → Value
  | 70 => sv
  | 71 => .int .i64 i
  | 72 => .agg xc
  | 73 => tv
  | 74 => .int .i64 i
  | 75 => outs 0
  | 76 => .agg #[.int .i64 i, outs 0]
  | 77 => outs 1
  | 78 => outs 2
  | _ => undef
def need14 : Nat → Nat := fun i => [0, 0, 0, 0, 0, 0, 1, 1, 2, 3].getD i 0
def till14 : Nat → Nat := fun i => [2, 3, 0, 0, 0, 0, 1, 1, 2, 3].getD i 0
def eff14 : Nat → Bool := fun i => [false, false, false, false, false, true, false, true, true, true].getD i false
theorem row_sp {W : World} {base : Nat} {e : TypeId} {v : Value} {L : List T2} (h : W.ownsRow base e 2 v L.length (flat2 L)) (hn : 0 < L.length) : ∃ q cap C, v = .slice (some ⟨q, 0, none⟩) L.length cap ∧ base ≤ q ∧ Ob W q e C ∧ SpC C L := by
  rcases h.2 with ⟨-, h2⟩ | ⟨q, cap, cur, h1, h2, h3, h4, h5, h6, h7⟩
  · omega
  · refine ⟨q, cap, cur, h1, h2, h3, ⟨by omega, fun i hi => ?_⟩⟩
    obtain ⟨k1, k2⟩ := flat2_at L i hi
    rw [← h7, List.getElem?_take_of_lt (by omega)] at k1 k2
    exact ⟨by simpa using k1, by simpa using k2⟩
/-- What holds of the lists while mornings come: c tests are done with, k mornings have come. -/
structure JI (mor : Nat → Nat) (L : List Nat) (n : Nat) (S : RS) (c k : Nat) : Prop where
  wait : S.wait = L.drop c
  le : c ≤ n
  tk : TkInv mor L n S.taken c
  lt : S.taken.length ≤ c
  ls : S.struck.length ≤ c
  can : CanOK S.can
  lev : S.lev.length = k
def JR (t : TkA) (ssv : Value) (w : World) (z g : Nat) (mor : Nat → Nat) (L : List Nat) (n : Nat) (S : RS) (k : Nat) (W : World) : Prop :=
  ∃ c lv tv sv, RM t ssv w W z g n L S.lev lv lv c S.taken tv tv S.can S.struck sv sv W ∧ JI mor L n S c k
theorem vals_fin (n : Nat) : (List.finRange n).map (fun x => x.val) = List.range n := by
  apply List.ext_getElem
  · simp
  · intro i h1 h2
    simp

set_option maxRecDepth 100000 in
set_option maxHeartbeats 8000000 in
theorem reached_any (t : TkA) (hs ws : List T2) (sa : Option Addr) (sc N : Nat) (ss : List T2) (ts : List T3) (mor : Nat → Nat) (w : World) (hO : RuOK t.r hs ws) (hN : N ≤ 1000) (hsl : Sl2 w sa N ss) (hst : ∀ s ∈ ss, StrOK s)
    (hT : Sl3 w t.ta t.tn ts) (htn : t.tn ≤ 20) (hge : ∀ i, i < t.tn → 0 ≤ (ts.getD i (0, 0, 0)).2.1 ∧ (ts.getD i (0, 0, 0)).2.1 ≤ 3 ∧ 0 ≤ (ts.getD i (0, 0, 0)).2.2 ∧ (ts.getD i (0, 0, 0)).2.2 ≤ 3)
    (hmo : ∀ i, i < t.tn → (ts.getD i (0, 0, 0)).1 - t.first = (mor i : Int) ∧ mor i ≤ N) (hcan : CanOK (t.lo, t.hi)) :
    Calls Try.prog 88 #[.agg (t.xc (.slice sa N sc))] w fun e W' => ∃ g cap C sv, e = .returned (.tuple #[.slice (some ⟨g, 0, none⟩) (N + 1) cap, sv]) ∧ w.heap.size ≤ g ∧ Ob W' g 28 C ∧
      SpC C (reachS t.r ss ts mor ⟨orderL ts t.tn, [], (t.lo, t.hi), [], []⟩ (List.range (N + 1))).lev ∧
      W'.ownsRow w.heap.size 78 2 sv (reachS t.r ss ts mor ⟨orderL ts t.tn, [], (t.lo, t.hi), [], []⟩ (List.range (N + 1))).struck.length (flat2 (reachS t.r ss ts mor ⟨orderL ts t.tn, [], (t.lo, t.hi), [], []⟩ (List.range (N + 1))).struck) ∧ Below w.heap.size w W' := by
  have hLl := orderL_len ts t.tn
  have hLlt := orderL_lt ts t.tn
  have hLu : ∀ a b, a < b → b < t.tn → mor ((orderL ts t.tn).getD a 0) ≤ mor ((orderL ts t.tn).getD b 0) := fun a b hab hb => by
    have h1 := orderL_up ts t.tn a b hab hb
    have h2 := hmo _ (getD_mem_lt hLlt (j := a) (by omega))
    have h3 := hmo _ (getD_mem_lt hLlt (j := b) (by omega))
    unfold dayOf at h1
    omega
  have HI0 := fun W2 (hb2 : Below w.heap.size w W2) => inOrder_any ts t.ta t.tn t.tc W2 (hT.below hb2) htn
  generalize orderL ts t.tn = L at *
  obtain ⟨W2, hW2⟩ : ∃ W2, ((w.alloc (.cells (t.xc (.slice sa N sc)) 104)).alloc (.cells #[.slice none 0 0] 49)).alloc (.cells #[.slice none 0 0] 50) = W2 := ⟨_, rfl⟩
  have hb2 : Below w.heap.size w W2 := by rw [← hW2]; exact B_alloc (B_alloc (B_alloc (Below.refl _ _) _) _) _
  have z2 : W2.heap.size = w.heap.size + 1 + 1 + 1 := by rw [← hW2]; simp
  have hT2 : Ob W2 w.heap.size 104 (t.xc (.slice sa N sc)) := by rw [← hW2]; exact ((Ob.new w _ _).alloc _).alloc _
  have hL2 : Ob W2 (w.heap.size + 1) 49 #[.slice none 0 0] := by
    rw [← hW2]
    have h := (Ob.new (w.alloc (.cells (t.xc (.slice sa N sc)) 104)) #[.slice none 0 0] 49).alloc (.cells #[.slice none 0 0] 50)
    rw [World.size_alloc] at h
    exact h
  have hS2 : Ob W2 (w.heap.size + 1 + 1) 50 #[.slice none 0 0] := by
    rw [← hW2]
    have h := Ob.new ((w.alloc (.cells (t.xc (.slice sa N sc)) 104)).alloc (.cells #[.slice none 0 0] 49)) #[.slice none 0 0] 50
    rw [World.size_alloc, World.size_alloc] at h
    exact h
  have HI := Lib.hid (HI0 W2 hb2)
  have kt : ∀ j, W2.cell? ⟨w.heap.size, j, none⟩ = (t.xc (.slice sa N sc))[j]? := fun j => hT2.cell j
  have k12 := kt 12
  simp only [List.getElem?_toArray, List.getElem?_cons_zero, List.getElem?_cons_succ] at k12
  clear kt
  replace hb2 := Lib.hid hb2
  replace hT2 := Lib.hid hT2
  replace hL2 := Lib.hid hL2
  replace hS2 := Lib.hid hS2
  replace hW2 := Lib.hid hW2
  refine (callsIn_wide (n := 12)).1 ?_
  refine callsIn_of_wp_marks Try.func88 rfl trivial ?_ rfl
  simp only [Try.ntmps88, List.size_toArray, List.length_cons, List.length_nil, Nat.reduceAdd, Nat.reduceSub, Array.replicate_succ, Array.replicate_zero, List.push_toArray, List.append_toArray, List.nil_append, List.cons_append]
  gi_wp2_with fail
  rw [hW2.out]
  refine ⟨trivial, CallsIn.mono (callsIn_wide.2 HI.out) ?_⟩
  rintro e W3 ⟨g, rfl, hg, hG, hb3⟩
  have o1 := hT2.out.below hb3
  have o2 := hL2.out.below hb3
  have o3 := hS2.out.below hb3
  have hgb := B_trans hb2.out hb3
  have hgl := hG.lt
  have kt : ∀ j, W3.cell? ⟨w.heap.size, j, none⟩ = (t.xc (.slice sa N sc))[j]? := fun j => o1.cell j
  have k9 := kt 9
  have k10 := kt 10
  have k11 := kt 11
  simp only [List.getElem?_toArray, List.getElem?_cons_zero, List.getElem?_cons_succ] at k9 k10 k11
  have ol := o1.lt
  have k9' : ∀ a b c, (((W3.alloc a).alloc b).alloc c).cell? ⟨w.heap.size, 9, none⟩ = some (.slice sa N sc) := fun a b c => (((o1.alloc a).alloc b).alloc c).cell 9
  have u1 : IntKind.i64.wrap ((N : Int) + 1) = (N : Int) + 1 := IntWalk.i64_in _ (by omega)
  have P := Lib.hid (And.intro o1 (And.intro o2 (And.intro o3 (And.intro hG hgb))))
  clear kt o1 o2 o3 hG hgb k12 HI HI0 hT2 hL2 hS2 hW2 k9
  obtain ⟨W4, hW4⟩ : ∃ W4, ((W3.alloc (.cells #[.slice (some ⟨g, 0, none⟩) t.tn t.tn] 46)).alloc (.cells #[.slice none 0 0] 46)).alloc (.cells #[.int .i64 t.lo, .int .i64 t.hi] 28) = W4 := ⟨_, rfl⟩
  replace hW4 := Lib.hid hW4
  gi_wp2_with fail
  rw [hW4.out]
  refine ⟨trivial, (forward_in Fence.wide 11 trivial rfl 0 (N + 1) W4).mono ?_⟩
  rintro e W5 ⟨rfl, hW5⟩
  obtain ⟨z, hz⟩ : ∃ z, W3.heap.size = z := ⟨_, rfl⟩
  have z4 : W4.heap.size = z + 3 := by rw [← hW4.out, ← hz]; simp
  have z5 : W5.heap.size = z + 5 := by rw [hW5]; simp; omega
  have hb45 : Below W4.heap.size W4 W5 := by rw [hW5]; exact B_alloc (B_alloc (Below.refl _ _) _) _
  have d0 : W5.cell? ⟨W4.heap.size, 0, none⟩ = some (.int .i64 0) := by rw [hW5, alloc_old _ _ _ _ (by simp)]; simp [go_sem]
  have d1 : W5.cell? ⟨W4.heap.size + 1, 0, none⟩ = some (.int .i64 ((N : Int) + 1)) := by rw [hW5]; simp
  have hb34 : Below W3.heap.size W3 W4 := by rw [← hW4.out]; exact B_alloc (B_alloc (B_alloc (Below.refl _ _) _) _) _
  have hb35 := B_trans hb34 hb45
  have I0 : Hid (RM t (.slice sa N sc) w W5 z g t.tn L [] (.slice none 0 0) (.slice none 0 0) 0 [] (.slice none 0 0) (.slice none 0 0) (t.lo, t.hi) [] (.slice none 0 0) (.slice none 0 0) W5) := by
    obtain ⟨p1, p2, p3, p4, p5⟩ := P.out
    refine ⟨⟨by omega, by omega⟩, p1.below hb35, p2.below hb35, p3.below hb35, p4.below hb35, ?_, ?_, ?_, World.ownsRow_nil _ _ _ _, World.ownsRow_nil _ _ _ _, World.ownsRow_nil _ _ _ _, B_trans p5 hb35, KeepsFrom.refl _ _, KB2.refl _ _ _, by omega⟩
    · refine Ob.below ?_ hb45
      rw [← hW4.out, ← hz, Nat.zero_min, Nat.sub_zero]
      exact ((Ob.new W3 _ _).alloc _).alloc _
    · refine Ob.below ?_ hb45
      rw [← hW4.out, ← hz]
      have h := (Ob.new (W3.alloc (.cells #[.slice (some ⟨g, 0, none⟩) t.tn t.tn] 46)) #[.slice none 0 0] 46).alloc (.cells #[.int .i64 t.lo, .int .i64 t.hi] 28)
      rw [World.size_alloc] at h
      exact h
    · refine Ob.below ?_ hb45
      rw [← hW4.out, ← hz]
      have h := Ob.new ((W3.alloc (.cells #[.slice (some ⟨g, 0, none⟩) t.tn t.tn] 46)).alloc (.cells #[.slice none 0 0] 46)) #[.int .i64 t.lo, .int .i64 t.hi] 28
      rw [World.size_alloc, World.size_alloc] at h
      exact h
  rw [hz, z4]
  rw [z4] at d0 d1
  have hgg := I0.out.gg
  clear hW5 hb45 hb34 hb35 P hW4 k9' k10 k11 hz z4 hgl hg hb3 ol hb2 z2
  gi_wp2_with fail
  refine wpIn_rangeFunc_ownG rfl (by omega) (gf := 87) (lb := #[.pointer (some ⟨z + 3, 0, none⟩), .pointer (some ⟨z + 3 + 1, 0, none⟩)]) rfl trivial (enters_of Try.func87 (by kernel_rfl) rfl) (forward_stops Fence.wide 11 trivial rfl (by omega) (z + 3) (z + 3 + 1) (N + 1) 0 (N + 1) (by push_cast; omega) (by omega) (by omega) (by omega) W5 (by omega) (by omega) d0 d1) KB2.trans (fun W l o o' h1 _ _ _ => KB2.put (n := W5.heap.size) (by omega) (by omega) W l o' h1) (Below.refl _ _) (fun _ => rfl)
    (fun pre W => JR t (.slice sa N sc) w z g mor L t.tn (reachS t.r ss ts mor ⟨L, [], (t.lo, t.hi), [], []⟩ (pre.map fun x => x.val)) pre.length W)
    (fun _ _ _ => False)
    ?own (fun _ _ _ _ _ hs _ _ => hs) ⟨0, _, _, _, I0.out, ⟨rfl, Nat.zero_le _, (fun i hi => by cases hi), Nat.le_refl _, Nat.le_refl _, hcan, rfl⟩⟩ ?a1 ?assign ?body ?done ?stop
  case own =>
    rintro pre W W' row ⟨c, lv, tv, sv, h1, h2⟩ hgr hr
    exact ⟨c, lv, tv, sv, h1.own hgr (fun r e => ⟨by have := (hr r e).1; omega, (hr r e).2⟩), h2⟩
  case assign =>
    intro l x W K hK
    gi_wp2
    exact hK
  case body =>
    rintro l pre x W ⟨c, lv, tv, sv, hM, hJ⟩ hlen
    have hx := x.isLt
    obtain ⟨m, hm, hmm⟩ : ∃ m : Nat, ((x.val : Int) = m) ∧ m = x.val := ⟨x.val, rfl, rfl⟩
    have hmN : m ≤ N := by omega
    have hstep : Hid (reachS t.r ss ts mor ⟨L, [], (t.lo, t.hi), [], []⟩ ((pre ++ [x]).map fun x => x.val) = stepR t.r ss ts mor (reachS t.r ss ts mor ⟨L, [], (t.lo, t.hi), [], []⟩ (pre.map fun x => x.val)) m) := by
      rw [Hid, hmm, List.map_append, List.map_cons, List.map_nil, reach_snoc]
    have hlp : Hid ((pre ++ [x]).length = pre.length + 1) := by rw [Hid]; simp
    generalize reachS t.r ss ts mor ⟨L, [], (t.lo, t.hi), [], []⟩ (pre.map fun x => x.val) = S at hM hJ hstep
    obtain ⟨sw, tk, can, st, lev⟩ := S
    obtain ⟨j1, j2, j3, j4, j5, j6, j7⟩ := hJ
    simp only at hM j1 j2 j3 j4 j5 j6 j7
    subst j1
    have j8 : lev.length ≤ N := by omega
    replace j7 := Lib.hid j7
    clear hmm hlen hx
    replace hM := Lib.hid hM.start
    gi_upto_region 6 with fail
    rw [hm]
    clear hm
    rename_i KR haR KC haC
    have HC : ∀ (v24 v25 v26 v27 v28 v29 v30 v31 v32 v33 : Value) (b : Bool) (W1 : World), RM t (.slice sa N sc) w W z g t.tn L lev lv lv c tk tv tv (canS t.r ss m can) st sv sv W1 → KR { tmps := #[.agg (t.xc (.slice sa N sc)), .pointer (some ⟨w.heap.size, 0, none⟩), .pointer (some ⟨w.heap.size + 1, 0, none⟩), .pointer (some ⟨w.heap.size + 1 + 1, 0, none⟩), .pointer (some ⟨z, 0, none⟩), .pointer (some ⟨z + 1, 0, none⟩), .pointer (some ⟨z + 1 + 1, 0, none⟩), .int .i64 (m : Nat), undef, undef, undef, .pointer (some ⟨w.heap.size, 12, none⟩), .slice t.ta t.tn t.tc, .slice (some ⟨g, 0, none⟩) t.tn t.tn, .pointer (some ⟨w.heap.size, 10, none⟩), .agg #[.int .i64 t.lo, .int .i64 t.hi], .pointer (some ⟨w.heap.size, 9, none⟩), .slice sa N sc, .int .i64 N, .int .i64 ((N : Int) + 1), .func (.func 87) #[] #[.pointer (some ⟨z + 3, 0, none⟩), .pointer (some ⟨z + 3 + 1, 0, none⟩)], .int .i64 (m : Nat), .int .i64 (m : Nat), .bool b, v24, v25, v26, v27, v28, v29, v30, v31, v32, v33, undef, undef, undef, undef, undef, undef, undef, undef, undef, undef, undef, undef, undef, undef, undef, undef, undef, undef, undef, undef, undef, undef, undef, undef, undef, undef, undef, undef, undef, undef, undef, undef, undef, undef, undef, undef, undef, undef, undef, undef, undef, undef, undef, undef, undef, undef, undef, undef, undef, undef, undef], defers := [] } W1 := by
      intro v24 v25 v26 v27 v28 v29 v30 v31 v32 v33 b W1 hM1
      refine haR _ _ ?_
      clear haR haC hM
      obtain ⟨fin, hfin⟩ : ∃ fin, eatS t.r ss ts mor m (L.drop c) tk (canS t.r ss m can) st = fin := ⟨_, rfl⟩
      have jc := j6.can hO hsl.len hst (m := m) (by omega)
      replace hstep : Hid (reachS t.r ss ts mor ⟨L, [], (t.lo, t.hi), [], []⟩ ((pre ++ [x]).map fun x => x.val) = ⟨fin.1, fin.2.1, fin.2.2.1, fin.2.2.2, lev ++ [fin.2.2.1]⟩) := by
        rw [Hid, hstep.out]
        unfold stepR
        simp only
        rw [hfin]
      generalize canS t.r ss m can = can0 at hM1 hfin jc
      gi_wp2_with fail
      gi_loopg [] (t.tn - c) (fun gk wr => ∃ c tk tv can st sv, gk = t.tn - c ∧ RM t (.slice sa N sc) w W z g t.tn L lev lv lv c tk tv tv can st sv sv wr ∧ c ≤ t.tn ∧ TkInv mor L t.tn tk c ∧ tk.length ≤ c ∧ st.length ≤ c ∧ CanOK can ∧ eatS t.r ss ts mor m (L.drop c) tk can st = fin)
      case atStart => exact ⟨c, tk, tv, can0, st, sv, rfl, hM1, j2, j3, j4, j5, jc, hfin⟩
      case round =>
        clear hM1 hfin jc j2 j3 j4 j5 j6
        obtain ⟨c, tk, tv, can, st, sv, rfl, hM, c2, c3, c4, c5, c6', c6⟩ := hrel
        replace hM := Lib.hid hM
        replace c6 := Lib.hid c6
        gi_upto_region 8 with fail
        rename_i KA hA KB hB
        have HB : ∀ (q34 q35 q36 q37 q38 q39 q40 q41 q42 q43 q44 : Value) (b8 : Bool) (W1 : World), RM t (.slice sa N sc) w W z g t.tn L lev lv lv c tk tv tv can st sv sv W1 → (b8 = true → c < t.tn ∧ mor (L.getD c 0) = m) → (b8 = false → t.tn ≤ c ∨ mor (L.getD c 0) ≠ m) → KB { tmps := #[.agg (t.xc (.slice sa N sc)), .pointer (some ⟨w.heap.size, 0, none⟩), .pointer (some ⟨w.heap.size + 1, 0, none⟩), .pointer (some ⟨w.heap.size + 1 + 1, 0, none⟩), .pointer (some ⟨z, 0, none⟩), .pointer (some ⟨z + 1, 0, none⟩), .pointer (some ⟨z + 1 + 1, 0, none⟩), .int .i64 (m : Nat), u8, u9, u10, .pointer (some ⟨w.heap.size, 12, none⟩), .slice t.ta t.tn t.tc, .slice (some ⟨g, 0, none⟩) t.tn t.tn, .pointer (some ⟨w.heap.size, 10, none⟩), .agg #[.int .i64 t.lo, .int .i64 t.hi], .pointer (some ⟨w.heap.size, 9, none⟩), .slice sa N sc, .int .i64 N, .int .i64 ((N : Int) + 1), .func (.func 87) #[] #[.pointer (some ⟨z + 3, 0, none⟩), .pointer (some ⟨z + 3 + 1, 0, none⟩)], .int .i64 (m : Nat), .int .i64 (m : Nat), .bool b, v24, v25, v26, v27, v28, v29, v30, v31, v32, v33, q34, q35, q36, q37, q38, q39, q40, q41, q42, q43, q44, .bool b8, u46, u47, u48, u49, u50, u51, u52, u53, u54, u55, u56, u57, u58, u59, u60, u61, u62, u63, u64, u65, u66, u67, u68, u69, u70, u71, u72, u73, u74, u75, u76, u77, u78, undef, undef, undef, undef, undef, undef], defers := [] } W1 := by
          intro q34 q35 q36 q37 q38 q39 q40 q41 q42 q43 q44 b8 W1 hM1 hb1 hb0
          refine hB _ _ ?_
          clear hB hM
          cases b8 with
          | false =>
            have hdone : Hid ((L.drop c, tk, can, st) = fin) := by
              rw [Hid, ← c6.out]
              rcases Nat.lt_or_ge c t.tn with h1 | h1
              · rcases hb0 rfl with h | h
                · omega
                · rw [drop_at (by omega), eat_no _ _ _ _ _ _ _ _ h]
              · rw [List.drop_eq_nil_of_le (by omega), eat_nil]
            clear hb0 hb1 c6 hA
            obtain ⟨b0, -, -, -, b4, b5⟩ := hM1.boxes
            replace hM1 := Lib.hid hM1
            obtain ⟨i28, hi28, hz28, hs28, hy28⟩ := info_parts infoSpan
            gi_wp2_with (gi_at_builtin; refine wpListIn_append_own _ rfl _ _ 49 rfl (z + 5) 28 i28 (.agg #[.int .i64 0, .int .i64 0]) 2 16 Try.underlying49 hi28 hz28 hs28 hy28 rfl (by decide) _ _ _ rfl ((hM1.out.below (B_alloc (Below.refl _ _) _)).rL) ⟨W1.heap.size, 0, none⟩ 1 1 [.int .i64 can.1, .int .i64 can.2] rfl rfl ?c1 ?c2 ?c3 ?c4 ?c5 ?_)
            case c1 =>
              intro j u h
              rw [show (⟨W1.heap.size, 0, none⟩ : Addr).add j = ⟨W1.heap.size, j, none⟩ by simp [Addr.add, eq_comm]]
              rw [(Ob.new W1 #[.int .i64 can.1, .int .i64 can.2] 28).cell]
              simpa using h
            case c2 => intro u hu; simp at hu; rcases hu with rfl | rfl <;> rfl
            case c3 => unfold maxLen; omega
            case c4 => omega
            case c5 => have := hM1.out.sz; simp; omega
            intro v' w1 hown' hgrow _
            obtain ⟨gL, capL, rfl⟩ := row_form hown' (by omega)
            have hM2 := (hM1.out.below (B_alloc (Below.refl _ _) (.cells #[.int .i64 can.1, .int .i64 can.2] 28))).addL hgrow hown'
            obtain ⟨b0', -⟩ := hM2.boxes
            obtain ⟨e0', -⟩ := hM2.free
            replace hM2 := Lib.hid (hM2.setL (.slice (some ⟨gL, 0, none⟩) (lev.length + 1) capL))
            clear hown' hgrow b0 b4 b5 hM1
            gi_wp2_with fail
            refine ⟨?_, hM2.out.kb, ?_⟩
            · have := hM2.out.kf
              rwa [← z5] at this
            · show JR t (.slice sa N sc) w z g mor L t.tn (reachS t.r ss ts mor ⟨L, [], (t.lo, t.hi), [], []⟩ ((pre ++ [x]).map fun x => x.val)) (pre ++ [x]).length _
              rw [hstep.out, ← hdone.out]
              exact ⟨c, _, tv, sv, hM2.out.start, ⟨rfl, c2, c3, c4, c5, c6', by rw [hlp.out]; simp [j7.out]⟩⟩
          | true =>
            obtain ⟨hcn, hmi⟩ := hb1 rfl
            clear hb0 hb1
            obtain ⟨-, -, b2, -, -, -⟩ := hM1.boxes
            have b9 := hM1.head (by omega)
            obtain ⟨d, hd⟩ : ∃ d, t.tn - c = d := ⟨_, rfl⟩
            rw [hd, show min c (t.tn - 1) = c by omega] at b2
            have hd0 : 0 < d := by omega
            have hil := getD_mem_lt hLlt (j := c) (by omega)
            obtain ⟨i, hi⟩ : ∃ i, L.getD c 0 = i := ⟨_, rfl⟩
            rw [hi] at b9 hmi hil
            replace hM1 := Lib.hid hM1
            replace hd := Lib.hid hd
            gi_upto_region 11 with fail
            rename_i K9 h9 K10 h10 K11 h11
            clear h9
            obtain ⟨tb, tj, hta, htb, hcc⟩ := (hT.below hM1.out.bw).at_ (by omega)
            obtain ⟨y0, y1, y2⟩ := hcc i hil
            have hgg2 := hge i hil
            obtain ⟨kp, hkp⟩ : ∃ kp, keepT t.r ts i = kp := ⟨_, rfl⟩
            have hkp2 : keepS t.r (ts.getD i (0, 0, 0)).2.1 (ts.getD i (0, 0, 0)).2.2 = kp := hkp
            have hkin := keep_in hO (ts.getD i (0, 0, 0)).2.1 (ts.getD i (0, 0, 0)).2.2
            rw [hkp2] at hkin
            generalize ts.getD i (0, 0, 0) = xx at y0 y1 y2 hgg2 hkp2
            obtain ⟨x0, x1, x2⟩ := xx
            simp only at y0 y1 y2 hgg2 hkp2
            have HKp := Lib.hid (fun W' => keeping_any t.r hs ws x0 x1 x2 W' hO ⟨hgg2.1, hgg2.2.1⟩ ⟨hgg2.2.2.1, hgg2.2.2.2⟩)
            rw [hkp2] at HKp
            have HCm := Lib.hid (fun W' => common_any can.1 can.2 kp.1 kp.2 W')
            obtain ⟨p1, hp1⟩ : ∃ p1, max can.1 kp.1 = p1 := ⟨_, rfl⟩
            obtain ⟨p2, hp2⟩ : ∃ p2, min can.2 kp.2 = p2 := ⟨_, rfl⟩
            obtain ⟨bb, hbb⟩ : ∃ bb, decide (p1 ≤ p2) = bb := ⟨_, rfl⟩
            rw [hp1, hp2, hbb] at HCm
            have HS := Lib.hid (fun (W' : World) (hh : Below W1.heap.size W1 W') => (show (W'.cell? ⟨w.heap.size, 0, none⟩ = some (.slice t.r.ha t.r.hn t.r.hc) ∧ W'.cell? ⟨w.heap.size, 1, none⟩ = some (.slice t.r.wa t.r.wn t.r.wc) ∧ W'.cell? ⟨w.heap.size, 2, none⟩ = some (.int .i64 t.r.own) ∧ W'.cell? ⟨w.heap.size, 3, none⟩ = some (.int .i64 t.r.feed) ∧ W'.cell? ⟨w.heap.size, 4, none⟩ = some (.int .i64 t.r.g0) ∧ W'.cell? ⟨w.heap.size, 5, none⟩ = some (.int .i64 t.r.g1) ∧ W'.cell? ⟨w.heap.size, 6, none⟩ = some (.int .i64 t.r.g2) ∧ W'.cell? ⟨w.heap.size, 7, none⟩ = some (.int .i64 t.r.lost) ∧ W'.cell? ⟨w.heap.size, 8, none⟩ = some (.int .i64 t.first) ∧ W'.cell? ⟨w.heap.size, 9, none⟩ = some (.slice sa N sc) ∧ W'.cell? ⟨w.heap.size, 10, none⟩ = some (.int .i64 t.lo) ∧ W'.cell? ⟨w.heap.size, 11, none⟩ = some (.int .i64 t.hi) ∧ W'.cell? ⟨w.heap.size, 12, none⟩ = some (.slice (some ⟨tb, tj, none⟩) t.tn t.tc)) ∧ W'.cell? ⟨tb, tj + i * 3, none⟩ = some (.int .i64 x0) ∧ W'.cell? ⟨tb, tj + i * 3 + 1, none⟩ = some (.int .i64 x1) ∧ W'.cell? ⟨tb, tj + i * 3 + 2, none⟩ = some (.int .i64 x2) ∧ W'.cell? ⟨z + 1 + 1, 0, none⟩ = some (.int .i64 can.1) ∧ W'.cell? ⟨z + 1 + 1, 1, none⟩ = some (.int .i64 can.2) from ⟨by have h := (hM1.out.below hh).cells; rwa [hta] at h, (hh.cell (p := ⟨tb, _, none⟩) htb).trans y0, (hh.cell (p := ⟨tb, _, none⟩) htb).trans y1, (hh.cell (p := ⟨tb, _, none⟩) htb).trans y2, ((hM1.out.below hh).boxes).2.2.2.2.1, ((hM1.out.below hh).boxes).2.2.2.2.2⟩))
            have a1 : (0 : Int) ≤ i := by omega
            have a2 : (i : Int) < t.tn := by omega
            have HC2 : ∀ (b9 : Nat) (W2 : World), W1.heap.size ≤ b9 → Ob W2 b9 28 #[.int .i64 p1, .int .i64 p2] → Below W1.heap.size W1 W2 → K11 { tmps := #[.agg (t.xc (.slice sa N sc)), .pointer (some ⟨w.heap.size, 0, none⟩), .pointer (some ⟨w.heap.size + 1, 0, none⟩), .pointer (some ⟨w.heap.size + 1 + 1, 0, none⟩), .pointer (some ⟨z, 0, none⟩), .pointer (some ⟨z + 1, 0, none⟩), .pointer (some ⟨z + 1 + 1, 0, none⟩), .int .i64 (m : Nat), .int .i64 (i : Nat), .pointer (some ⟨b9, 0, none⟩), .bool bb, .pointer (some ⟨w.heap.size, 12, none⟩), .slice t.ta t.tn t.tc, .slice (some ⟨g, 0, none⟩) t.tn t.tn, .pointer (some ⟨w.heap.size, 10, none⟩), .agg #[.int .i64 t.lo, .int .i64 t.hi], .pointer (some ⟨w.heap.size, 9, none⟩), .slice sa N sc, .int .i64 N, .int .i64 ((N : Int) + 1), .func (.func 87) #[] #[.pointer (some ⟨z + 3, 0, none⟩), .pointer (some ⟨z + 3 + 1, 0, none⟩)], .int .i64 (m : Nat), .int .i64 (m : Nat), .bool b, v24, v25, v26, v27, v28, v29, v30, v31, v32, v33, q34, q35, q36, q37, q38, q39, q40, q41, q42, q43, q44, .bool true, u46, u47, .slice (some ⟨g, c, none⟩) d d, .pointer (some ⟨g, c, none⟩), .int .i64 (i : Nat), .tuple #[.agg #[.int .i64 p1, .int .i64 p2], .bool bb], .agg #[.int .i64 can.1, .int .i64 can.2], .pointer (some ⟨w.heap.size, 0, none⟩), .agg t.r.cs, .pointer (some ⟨w.heap.size, 12, none⟩), .slice (some ⟨tb, tj, none⟩) t.tn t.tc, .int .i64 (i : Nat), .pointer (some ⟨tb, tj + i * 3, none⟩), .agg #[.int .i64 x0, .int .i64 x1, .int .i64 x2], .agg #[.int .i64 kp.1, .int .i64 kp.2], .tuple #[.agg #[.int .i64 p1, .int .i64 p2], .bool bb], .agg #[.int .i64 p1, .int .i64 p2], .bool bb, u64, u65, u66, u67, u68, u69, u70, u71, u72, u73, u74, u75, u76, u77, u78, undef, undef, undef, undef, undef, undef], defers := [] } W2 := by
              intro b9 W2 hb9 o9 hB2
              refine h11 _ _ ?_
              clear h11 HS HKp HCm
              have hM2 := Lib.hid (hM1.out.below hB2)
              replace o9 := Lib.hid o9
              clear hta y0 y1 y2 hcc htb
              cases bb with
              | true =>
                have hpp := of_decide_eq_true hbb
                gi_upto_region 13 with fail
                refine wpIn_region_steps2 (I := I13 (fun tk tv bk p W' => RM t (.slice sa N sc) w W z g t.tn L lev lv lv c tk tv bk p st sv sv W') b9 i tk tv can (p1, p2)) (V := V13 i tv (p1, p2)) (eff := eff13) (need := need13) (till := till13) 4 (by kernel_rfl) (by decide) (by kernel_rfl) rfl (by kernel_rfl) (by kernel_rfl) (by kernel_rfl) (by kernel_rfl) (by kernel_rfl) (by kernel_rfl) ⟨fun _ => o9.out, fun _ => hM2.out.below (Below.refl _ _).drew, fun h => by omega, fun h => by omega, fun h => by omega, fun h => by omega⟩ ?steps ?hend
                case hend =>
                  rintro outs w' ⟨-, -, -, -, -, hI⟩
                  have hM4 := Lib.hid (hI rfl)
                  clear hI
                  simp only [flowAct, List.filterMap_cons, List.filterMap_nil, patch, List.setIfInBounds_toArray, List.set_cons_zero, List.set_cons_succ]
                  obtain ⟨-, -, b2, -, -, -⟩ := hM4.out.boxes
                  obtain ⟨-, -, e2, -, -, -⟩ := hM4.out.free
                  rw [hd.out, show min c (t.tn - 1) = c by omega] at b2
                  clear hM2 o9 hM1
                  rcases Nat.lt_or_ge 1 d with h1d | h1d
                  · have hne : ¬ d = 1 := by omega
                    have hd2 : (1 : Int) ≤ d := by omega
                    have hd3 : 1 ≤ d := by omega
                    gi_wp2_with fail
                    gi_roundg (t.tn - (c + 1))
                    case measure => omega
                    case rel =>
                      refine ⟨c + 1, tk ++ [i], outs 1, (p1, p2), st, sv, rfl, hM4.out.setW _ (by have := hd.out; rw [show min (c + 1) (t.tn - 1) = c + 1 by omega, show t.tn - (c + 1) = d - 1 by omega]), hcn, ?_, by simp; omega, by omega, ?_, ?_⟩
                      · have h := c3.take (c := c) (L := L) (by rw [hi]; exact hil) (fun q h1 h2 => hLu c q h1 h2)
                        rwa [hi] at h
                      · have h := c6'.both hkin (by rw [hp1, hp2]; exact hpp)
                        rwa [hp1, hp2] at h
                      · rw [← c6.out, drop_at (L := L) (c := c) (by omega), hi, eat_take _ _ _ _ _ _ _ _ hmi (by rw [hkp, hp1, hp2]; exact hpp), hkp, hp1, hp2]
                  · obtain rfl : d = 1 := by omega
                    gi_wp2_with fail
                    gi_roundg (t.tn - (c + 1))
                    case measure => omega
                    case rel =>
                      refine ⟨c + 1, tk ++ [i], outs 1, (p1, p2), st, sv, rfl, hM4.out.setW _ (by have := hd.out; rw [show min (c + 1) (t.tn - 1) = c by omega, show t.tn - (c + 1) = 0 by omega]), hcn, ?_, by simp; omega, by omega, ?_, ?_⟩
                      · have h := c3.take (c := c) (L := L) (by rw [hi]; exact hil) (fun q h1 h2 => hLu c q h1 h2)
                        rwa [hi] at h
                      · have h := c6'.both hkin (by rw [hp1, hp2]; exact hpp)
                        rwa [hp1, hp2] at h
                      · rw [← c6.out, drop_at (L := L) (c := c) (by omega), hi, eat_take _ _ _ _ _ _ _ _ hmi (by rw [hkp, hp1, hp2]; exact hpp), hkp, hp1, hp2]
                case steps =>
                    refine ⟨⟨rfl, fun t ht k' outs u _ => by cases ht; rfl, fun k' outs W' ρ hk1 hk2 hI hc hg h_fn hr ho => ?_⟩, ?_⟩
                    · have o9 := ho 9 (by kernel_rfl)
                      have hk2' : k' ≤ 2 := hk2
                      have hO9 := hI.1 (by omega)
                      have v0 := hO9.cell 0
                      have v1 := hO9.cell 1
                      simp only [List.getElem?_toArray, List.getElem?_cons_zero, List.getElem?_cons_succ] at v0 v1
                      clear hO9
                      clear hI
                      refine step_pure rfl (v := .agg #[.int .i64 p1, .int .i64 p2]) (fun t ht => by cases ht; rfl) ?_
                      go_simp
                    refine ⟨⟨rfl, fun t ht k' outs u _ => by cases ht; rfl, fun k' outs W' ρ hk1 hk2 hI hc hg h_fn hr ho => ?_⟩, ?_⟩
                    · have o5 := ho 5 (by kernel_rfl)
                      have hk2' : k' ≤ 1 := hk2
                      obtain ⟨-, -, -, b3, -, -⟩ := (hI.2.1 (by omega)).boxes
                      clear hI
                      refine step_pure rfl (v := tv) (fun t ht => by cases ht; rfl) ?_
                      go_simp
                    refine ⟨⟨rfl, fun t ht k' outs u _ => by cases ht; rfl, fun k' outs W' ρ hk1 hk2 hI hc hg h_fn hr ho => ?_⟩, ?_⟩
                    · have o8 := ho 8 (by kernel_rfl)
                      clear hI
                      refine step_pure rfl (v := .int .i64 i) (fun t ht => by cases ht; rfl) ?_
                      go_simp
                    refine ⟨⟨rfl, fun t ht k' outs u (h : 0 < k') => by cases ht; show upd outs k' u 0 = outs 0; unfold upd; rw [if_neg (by omega)], fun k' outs W' ρ hk1 hk2 hI hc hg h_fn hr ho => ?_⟩, ?_⟩
                    · obtain rfl : k' = 0 := by have h1 : 0 ≤ k' := hk1; have h2 : k' ≤ 0 := hk2; omega
                      have r67 : ρ (.tmp 67) = .int .i64 i := hr 67 (by kernel_rfl)
                      have hbl := B_alloc (Below.refl W'.heap.size W') (.cells #[.int .i64 (i : Nat)] 3)
                      refine step_new rfl (v := .slice (some ⟨W'.heap.size, 0, none⟩) 1 1) (w' := W'.alloc (.cells #[.int .i64 (i : Nat)] 3)) ?_ ⟨fun _ => (hI.1 (by omega)).below hbl, fun _ => (hI.2.1 (by omega)).below hbl, fun _ => ⟨_, rfl, Ob.new _ _ _⟩, fun h => by omega, fun h => by omega, fun h => by omega⟩ (fun t ht => by cases ht; rfl)
                      clear hI hbl; go_simp
                    refine ⟨⟨rfl, fun t ht k' outs u (h : 1 < k') => by cases ht; show upd outs k' u 1 = outs 1; unfold upd; rw [if_neg (by omega)], fun k' outs W' ρ hk1 hk2 hI hc hg h_fn hr ho => ?_⟩, ?_⟩
                    · obtain rfl : k' = 1 := by have h1 : 1 ≤ k' := hk1; have h2 : k' ≤ 1 := hk2; omega
                      have r66 : ρ (.tmp 66) = tv := hr 66 (by kernel_rfl)
                      have r68 : ρ (.tmp 68) = outs 0 := hr 68 (by kernel_rfl)
                      obtain ⟨qn, hq1, hq2⟩ := hI.2.2.1 rfl
                      replace r68 := r68.trans hq1
                      have hM3 := hI.2.1 (by omega)
                      have ho9 := hI.1 (by omega)
                      obtain ⟨v', w2, hrun, hown, hgr⟩ := joinedI hM3.rK hq2 (by omega) hM3.sz
                      exact step_new rfl (run_append_op rfl r66 r68 hrun) ⟨fun _ => ho9.grown hgr (ho9.row hM3.rK (by decide)), fun h => by omega, fun h => by omega, fun _ => hM3.addK hgr hown, fun h => by omega, fun h => by omega⟩ (fun t ht => by cases ht; rfl)
                    refine ⟨⟨rfl, (fun t ht => by cases ht), fun k' outs W' ρ hk1 hk2 hI hc hg h_fn hr ho => ?_⟩, ?_⟩
                    · obtain rfl : k' = 2 := by have h1 : 2 ≤ k' := hk1; have h2 : k' ≤ 2 := hk2; omega
                      have o6 := ho 6 (by kernel_rfl)
                      have r65 : ρ (.tmp 65) = .agg #[.int .i64 p1, .int .i64 p2] := hr 65 (by kernel_rfl)
                      have hM3 := hI.2.2.2.1 rfl
                      obtain ⟨-, -, -, -, b4, b5⟩ := hM3.boxes
                      obtain ⟨-, -, -, -, e4, e5⟩ := hM3.free
                      have hM4 := hM3.setC (p1, p2)
                      refine step_store rfl rfl (w' := (W'.setCell ⟨z + 1 + 1, 0, none⟩ (.int .i64 p1)).setCell ⟨z + 1 + 1, 1, none⟩ (.int .i64 p2)) ?_ ⟨fun h => by omega, fun h => by omega, fun h => by omega, fun h => by omega, fun _ => hM4, fun h => by omega⟩
                      clear hI hM3 hM4; go_simp
                    refine ⟨⟨rfl, (fun t ht => by cases ht), fun k' outs W' ρ hk1 hk2 hI hc hg h_fn hr ho => ?_⟩, trivial⟩
                    · obtain rfl : k' = 3 := by have h1 : 3 ≤ k' := hk1; have h2 : k' ≤ 3 := hk2; omega
                      have o5 := ho 5 (by kernel_rfl)
                      have r69 : ρ (.tmp 69) = outs 1 := hr 69 (by kernel_rfl)
                      have hM3 := hI.2.2.2.2.1 rfl
                      obtain ⟨qn, qc, hv⟩ := row_form hM3.rK (by simp)
                      replace r69 := r69.trans hv
                      obtain ⟨-, -, -, b3, -, -⟩ := hM3.boxes
                      obtain ⟨-, -, -, e3, -, -⟩ := hM3.free
                      have hM4 := hM3.setK (outs 1)
                      rw [hv] at hM4
                      refine step_store rfl rfl (w' := W'.setCell ⟨z + 1, 0, none⟩ (.slice (some ⟨qn, 0, none⟩) (tk ++ [i]).length qc)) ?_ ⟨fun h => by omega, fun h => by omega, fun h => by omega, fun h => by omega, fun h => by omega, fun _ => ?_⟩
                      · clear hI hM3 hM4; go_simp
                      · show RM t (.slice sa N sc) w W z g t.tn L lev lv lv c (tk ++ [i]) (outs 1) (outs 1) (p1, p2) st sv sv _
                        rw [hv]; exact hM4
              | false =>
                have hpp := of_decide_eq_false hbb
                obtain ⟨ka, kc, kb, ko, hv, hka, hkb, hkc⟩ := ints_row hM2.out.rK (b0 := w.heap.size) hM2.out.oT.lt
                subst hv
                have HBy := Lib.hid (fun (W' : World) (hh : Below W2.heap.size W2 W') => by_any t hs ws sa sc N ss ts mor ka tk.length kc kb ko tk i W' hO hN (hsl.below ((hM2.out.below hh).bw)) hst (hT.below ((hM2.out.below hh).bw)) (by omega) hge hmo hil (fun j hj => ⟨(c3 j hj).1, by have h := (c3 j hj).2 c (Nat.le_refl _) hcn; rwa [hi] at h⟩) rfl (by omega) hka (Nat.lt_of_lt_of_le hkb hh.size) (fun j hj => (hh.cell (p := ⟨kb, ko + j, none⟩) hkb).trans (hkc j hj)))
                obtain ⟨bY, hbY⟩ : ∃ bY, byS t.r ss ts mor i tk = bY := ⟨_, rfl⟩
                rw [hbY] at HBy
                gi_upto_region 14 with fail
                refine wpIn_region_steps2 (I := I14 (fun st sv bs W' => RM t (.slice sa N sc) w W z g t.tn L lev lv lv c tk (.slice ka tk.length kc) (.slice ka tk.length kc) can st sv bs W') W2 i bY st sv) (V := V14 i (t.xc (.slice sa N sc)) sv (.slice ka tk.length kc)) (eff := eff14) (need := need14) (till := till14) 4 (by kernel_rfl) (by decide) (by kernel_rfl) rfl (by kernel_rfl) (by kernel_rfl) (by kernel_rfl) (by kernel_rfl) (by kernel_rfl) (by kernel_rfl) ⟨fun _ => (Below.refl _ _).drew, fun _ => hM2.out.below (Below.refl _ _).drew, fun h => by omega, fun h => by omega, fun h => by omega, fun h => by omega⟩ ?steps ?hend
                case hend =>
                  rintro outs w' ⟨-, -, -, -, -, hI⟩
                  have hM4 := Lib.hid (hI rfl)
                  clear hI HBy
                  simp only [flowAct, List.filterMap_cons, List.filterMap_nil, patch, List.setIfInBounds_toArray, List.set_cons_zero, List.set_cons_succ]
                  obtain ⟨-, -, b2, -, -, -⟩ := hM4.out.boxes
                  obtain ⟨-, -, e2, -, -, -⟩ := hM4.out.free
                  rw [hd.out, show min c (t.tn - 1) = c by omega] at b2
                  clear hM2 o9 hM1
                  rcases Nat.lt_or_ge 1 d with h1d | h1d
                  · have hne : ¬ d = 1 := by omega
                    have hd2 : (1 : Int) ≤ d := by omega
                    have hd3 : 1 ≤ d := by omega
                    gi_wp2_with fail
                    gi_roundg (t.tn - (c + 1))
                    case measure => omega
                    case rel =>
                      refine ⟨c + 1, tk, .slice ka tk.length kc, can, st ++ [((i : Int), bY)], outs 2, rfl, hM4.out.setW _ (by have := hd.out; rw [show min (c + 1) (t.tn - 1) = c + 1 by omega, show t.tn - (c + 1) = d - 1 by omega]), hcn, c3.next, by omega, by simp; omega, c6', ?_⟩
                      rw [← c6.out, drop_at (L := L) (c := c) (by omega), hi, eat_strike _ _ _ _ _ _ _ _ hmi (by rw [hkp, hp1, hp2]; omega), hbY]
                  · obtain rfl : d = 1 := by omega
                    gi_wp2_with fail
                    gi_roundg (t.tn - (c + 1))
                    case measure => omega
                    case rel =>
                      refine ⟨c + 1, tk, .slice ka tk.length kc, can, st ++ [((i : Int), bY)], outs 2, rfl, hM4.out.setW _ (by have := hd.out; rw [show min (c + 1) (t.tn - 1) = c by omega, show t.tn - (c + 1) = 0 by omega]), hcn, c3.next, by omega, by simp; omega, c6', ?_⟩
                      rw [← c6.out, drop_at (L := L) (c := c) (by omega), hi, eat_strike _ _ _ _ _ _ _ _ hmi (by rw [hkp, hp1, hp2]; omega), hbY]
                case steps =>
                    refine ⟨⟨rfl, fun t ht k' outs u _ => by cases ht; rfl, fun k' outs W' ρ hk1 hk2 hI hc hg h_fn hr ho => ?_⟩, ?_⟩
                    · have o3 := ho 3 (by kernel_rfl)
                      have hk2' : k' ≤ 2 := hk2
                      obtain ⟨-, b1, -, -, -, -⟩ := (hI.2.1 (by omega)).boxes
                      clear hI
                      refine step_pure rfl (v := sv) (fun t ht => by cases ht; rfl) ?_
                      go_simp
                    refine ⟨⟨rfl, fun t ht k' outs u _ => by cases ht; rfl, fun k' outs W' ρ hk1 hk2 hI hc hg h_fn hr ho => ?_⟩, ?_⟩
                    · have o8 := ho 8 (by kernel_rfl)
                      clear hI
                      refine step_pure rfl (v := .int .i64 i) (fun t ht => by cases ht; rfl) ?_
                      go_simp
                    refine ⟨⟨rfl, fun t ht k' outs u _ => by cases ht; rfl, fun k' outs W' ρ hk1 hk2 hI hc hg h_fn hr ho => ?_⟩, ?_⟩
                    · have o1 := ho 1 (by kernel_rfl)
                      have hk2' : k' ≤ 0 := hk2
                      obtain ⟨f0, f1, f2, f3, f4, f5, f6, f7, f8, f9, f10, f11, f12⟩ := (hI.2.1 (by omega)).cells
                      clear hI
                      refine step_pure rfl (v := .agg (t.xc (.slice sa N sc))) (fun t ht => by cases ht; rfl) ?_
                      go_simp
                    refine ⟨⟨rfl, fun t ht k' outs u _ => by cases ht; rfl, fun k' outs W' ρ hk1 hk2 hI hc hg h_fn hr ho => ?_⟩, ?_⟩
                    · have o5 := ho 5 (by kernel_rfl)
                      have hk2' : k' ≤ 0 := hk2
                      obtain ⟨-, -, -, b3, -, -⟩ := (hI.2.1 (by omega)).boxes
                      clear hI
                      refine step_pure rfl (v := .slice ka tk.length kc) (fun t ht => by cases ht; rfl) ?_
                      go_simp
                    refine ⟨⟨rfl, fun t ht k' outs u _ => by cases ht; rfl, fun k' outs W' ρ hk1 hk2 hI hc hg h_fn hr ho => ?_⟩, ?_⟩
                    · have o8 := ho 8 (by kernel_rfl)
                      clear hI
                      refine step_pure rfl (v := .int .i64 i) (fun t ht => by cases ht; rfl) ?_
                      go_simp
                    refine ⟨⟨rfl, fun t ht k' outs u (h : 0 < k') => by cases ht; show upd outs k' u 0 = outs 0; unfold upd; rw [if_neg (by omega)], fun k' outs W' ρ hk1 hk2 hI hc hg h_fn hr ho => ?_⟩, ?_⟩
                    · obtain rfl : k' = 0 := by have h1 : 0 ≤ k' := hk1; have h2 : k' ≤ 0 := hk2; omega
                      have r72 : ρ (.tmp 72) = .agg (t.xc (.slice sa N sc)) := hr 72 (by kernel_rfl)
                      have r73 : ρ (.tmp 73) = .slice ka tk.length kc := hr 73 (by kernel_rfl)
                      have r74 : ρ (.tmp 74) = .int .i64 i := hr 74 (by kernel_rfl)
                      have hfn := h_fn 112
                      refine step_call rfl (f := 112) (args := #[.agg (t.xc (.slice sa N sc)), .slice ka tk.length kc, .int .i64 i]) (w' := W') ?_ ?_
                      · clear hI; go_simp
                      · refine (HBy.out W' (hI.1 rfl)).mono ?_
                        rintro e w2 ⟨rfl, hb2⟩
                        exact ⟨_, rfl, ⟨fun h => by omega, fun _ => (hI.2.1 (by omega)).below hb2, fun _ => rfl, fun h => by omega, fun h => by omega, fun h => by omega⟩, fun t ht => by cases ht; rfl⟩
                    refine ⟨⟨rfl, fun t ht k' outs u (h : 1 ≤ k') => by cases ht; show Value.agg #[.int .i64 (i : Nat), upd outs k' u 0] = Value.agg #[.int .i64 (i : Nat), outs 0]; unfold upd; rw [if_neg (by omega)], fun k' outs W' ρ hk1 hk2 hI hc hg h_fn hr ho => ?_⟩, ?_⟩
                    · have r71 : ρ (.tmp 71) = .int .i64 i := hr 71 (by kernel_rfl)
                      have r75 : ρ (.tmp 75) = .int .i64 bY := (hr 75 (by kernel_rfl)).trans (hI.2.2.1 (by have h1 : 1 ≤ k' := hk1; omega))
                      have hk2' : k' ≤ 1 := hk2
                      have hk1' : 1 ≤ k' := hk1
                      have hk0 := hI.2.2.1 (by omega)
                      clear hI
                      refine step_pure rfl (v := .agg #[.int .i64 i, .int .i64 bY]) (fun t ht => by cases ht; show Value.agg #[.int .i64 (i : Nat), outs 0] = _; rw [hk0]) ?_
                      clear hk0
                      go_simp
                    refine ⟨⟨rfl, fun t ht k' outs u (h : 1 < k') => by cases ht; show upd outs k' u 1 = outs 1; unfold upd; rw [if_neg (by omega)], fun k' outs W' ρ hk1 hk2 hI hc hg h_fn hr ho => ?_⟩, ?_⟩
                    · obtain rfl : k' = 1 := by have h1 : 1 ≤ k' := hk1; have h2 : k' ≤ 1 := hk2; omega
                      have r76 : ρ (.tmp 76) = .agg #[.int .i64 i, .int .i64 bY] := (hr 76 (by kernel_rfl)).trans (show Value.agg #[.int .i64 (i : Nat), outs 0] = _ by rw [hI.2.2.1 (by omega)])
                      have hbl := B_alloc (Below.refl W'.heap.size W') (.cells #[.int .i64 (i : Nat), .int .i64 bY] 78)
                      refine step_new rfl (v := .slice (some ⟨W'.heap.size, 0, none⟩) 1 1) (w' := W'.alloc (.cells #[.int .i64 (i : Nat), .int .i64 bY] 78)) ?_ ⟨fun h => by omega, fun _ => (hI.2.1 (by omega)).below hbl, fun _ => hI.2.2.1 (by omega), fun _ => ⟨_, rfl, Ob.new _ _ _⟩, fun h => by omega, fun h => by omega⟩ (fun t ht => by cases ht; rfl)
                      clear hI hbl; go_simp
                    refine ⟨⟨rfl, fun t ht k' outs u (h : 2 < k') => by cases ht; show upd outs k' u 2 = outs 2; unfold upd; rw [if_neg (by omega)], fun k' outs W' ρ hk1 hk2 hI hc hg h_fn hr ho => ?_⟩, ?_⟩
                    · obtain rfl : k' = 2 := by have h1 : 2 ≤ k' := hk1; have h2 : k' ≤ 2 := hk2; omega
                      have r70 : ρ (.tmp 70) = sv := hr 70 (by kernel_rfl)
                      have r77 : ρ (.tmp 77) = outs 1 := hr 77 (by kernel_rfl)
                      obtain ⟨qn, hq1, hq2⟩ := hI.2.2.2.1 rfl
                      replace r77 := r77.trans hq1
                      have hM3 := hI.2.1 (by omega)
                      obtain ⟨v', w2, hrun, hown, hgr⟩ := joinedS hM3.rS hq2 (by omega) hM3.sz
                      exact step_new rfl (run_append_op rfl r70 r77 hrun) ⟨fun h => by omega, fun h => by omega, fun _ => hI.2.2.1 (by omega), fun h => by omega, fun _ => hM3.addS (p := ((i : Int), bY)) hgr hown, fun h => by omega⟩ (fun t ht => by cases ht; rfl)
                    refine ⟨⟨rfl, (fun t ht => by cases ht), fun k' outs W' ρ hk1 hk2 hI hc hg h_fn hr ho => ?_⟩, trivial⟩
                    · obtain rfl : k' = 3 := by have h1 : 3 ≤ k' := hk1; have h2 : k' ≤ 3 := hk2; omega
                      have o3 := ho 3 (by kernel_rfl)
                      have r78 : ρ (.tmp 78) = outs 2 := hr 78 (by kernel_rfl)
                      have hM3 := hI.2.2.2.2.1 rfl
                      obtain ⟨qn, qc, hv⟩ := row_form hM3.rS (by simp)
                      replace r78 := r78.trans hv
                      obtain ⟨-, b1, -, -, -, -⟩ := hM3.boxes
                      obtain ⟨-, e1, -, -, -, -⟩ := hM3.free
                      have hM4 := hM3.setS (outs 2)
                      rw [hv] at hM4
                      refine step_store rfl rfl (w' := W'.setCell ⟨w.heap.size + 1 + 1, 0, none⟩ (.slice (some ⟨qn, 0, none⟩) (st ++ [((i : Int), bY)]).length qc)) ?_ ⟨fun h => by omega, fun h => by omega, fun _ => hI.2.2.1 (by omega), fun h => by omega, fun h => by omega, fun _ => ?_⟩
                      · clear hI hM3 hM4; go_simp
                      · show RM t (.slice sa N sc) w W z g t.tn L lev lv lv c tk (.slice ka tk.length kc) (.slice ka tk.length kc) can (st ++ [((i : Int), bY)]) (outs 2) (outs 2) _
                        rw [hv]; exact hM4
            replace HC2 := Lib.hid HC2
            replace hp1 := Lib.hid hp1
            replace hp2 := Lib.hid hp2
            replace hbb := Lib.hid hbb
            clear h11 h10 y0 y1 y2 hcc hgg2 hkp hkp2 hkin hta
            refine wpIn_region_held (S := fun W' => Below W1.heap.size W1 W') (by kernel_rfl) (by kernel_rfl) ((Below.refl _ W1).drew) (fun hHeld => ?_)
            refine wpAnyH_take2 (i := 0) (t := 52) (v := ?_) rfl rfl (by kernel_rfl) (by kernel_rfl) (by kernel_rfl) (fun _ _ _ h => Only.not_panic h) (Or.inl ⟨by kernel_rfl, fun W hW => ?_⟩) (by assumption) ?_
            rotate_left
            · have hW2 := hW
              obtain ⟨⟨f0, f1, f2, f3, f4, f5, f6, f7, f8, f9, f10, f11, f12⟩, f13, f14, f15, f16, f17⟩ := HS.out W hW2
              clear hW hW2
              go_simp
              try with_reducible rfl
            try simp only [Act.put, List.setIfInBounds_toArray, List.set_cons_zero, List.set_cons_succ]
            refine wpAnyH_take2 (i := 1) (t := 53) (v := ?_) rfl rfl (by kernel_rfl) (by kernel_rfl) (by kernel_rfl) (fun _ _ _ h => Only.not_panic h) (Or.inl ⟨by kernel_rfl, fun W hW => ?_⟩) (by assumption) ?_
            rotate_left
            · have hW2 := hW
              obtain ⟨⟨f0, f1, f2, f3, f4, f5, f6, f7, f8, f9, f10, f11, f12⟩, f13, f14, f15, f16, f17⟩ := HS.out W hW2
              clear hW hW2
              go_simp
              try with_reducible rfl
            try simp only [Act.put, List.setIfInBounds_toArray, List.set_cons_zero, List.set_cons_succ]
            refine wpAnyH_take2 (i := 2) (t := 54) (v := ?_) rfl rfl (by kernel_rfl) (by kernel_rfl) (by kernel_rfl) (fun _ _ _ h => Only.not_panic h) (Or.inl ⟨by kernel_rfl, fun W hW => ?_⟩) (by assumption) ?_
            rotate_left
            · have hW2 := hW
              obtain ⟨⟨f0, f1, f2, f3, f4, f5, f6, f7, f8, f9, f10, f11, f12⟩, f13, f14, f15, f16, f17⟩ := HS.out W hW2
              clear hW hW2
              go_simp
              try with_reducible rfl
            try simp only [Act.put, List.setIfInBounds_toArray, List.set_cons_zero, List.set_cons_succ]
            refine wpAnyH_take2 (i := 3) (t := 55) (v := ?_) rfl rfl (by kernel_rfl) (by kernel_rfl) (by kernel_rfl) (fun _ _ _ h => Only.not_panic h) (Or.inl ⟨by kernel_rfl, fun W hW => ?_⟩) (by assumption) ?_
            rotate_left
            · have hW2 := hW
              obtain ⟨⟨f0, f1, f2, f3, f4, f5, f6, f7, f8, f9, f10, f11, f12⟩, f13, f14, f15, f16, f17⟩ := HS.out W hW2
              clear hW hW2
              go_simp
              try with_reducible rfl
            try simp only [Act.put, List.setIfInBounds_toArray, List.set_cons_zero, List.set_cons_succ]
            refine wpAnyH_take2 (i := 4) (t := 56) (v := ?_) rfl rfl (by kernel_rfl) (by kernel_rfl) (by kernel_rfl) (fun _ _ _ h => Only.not_panic h) (Or.inl ⟨by kernel_rfl, fun W hW => ?_⟩) (by assumption) ?_
            rotate_left
            · have hW2 := hW
              obtain ⟨⟨f0, f1, f2, f3, f4, f5, f6, f7, f8, f9, f10, f11, f12⟩, f13, f14, f15, f16, f17⟩ := HS.out W hW2
              clear hW hW2
              go_simp
              try with_reducible rfl
            try simp only [Act.put, List.setIfInBounds_toArray, List.set_cons_zero, List.set_cons_succ]
            refine wpAnyH_take2 (i := 5) (t := 57) (v := ?_) rfl rfl (by kernel_rfl) (by kernel_rfl) (by kernel_rfl) (fun _ _ _ h => Only.not_panic h) (Or.inl ⟨by kernel_rfl, fun W hW => ?_⟩) (by assumption) ?_
            rotate_left
            · have hW2 := hW
              obtain ⟨⟨f0, f1, f2, f3, f4, f5, f6, f7, f8, f9, f10, f11, f12⟩, f13, f14, f15, f16, f17⟩ := HS.out W hW2
              clear hW hW2
              go_simp
              try with_reducible rfl
            try simp only [Act.put, List.setIfInBounds_toArray, List.set_cons_zero, List.set_cons_succ]
            refine wpAnyH_take2 (i := 6) (t := 58) (v := ?_) rfl rfl (by kernel_rfl) (by kernel_rfl) (by kernel_rfl) (fun _ _ _ h => Only.not_panic h) (Or.inl ⟨by kernel_rfl, fun W hW => ?_⟩) (by assumption) ?_
            rotate_left
            · have hW2 := hW
              obtain ⟨⟨f0, f1, f2, f3, f4, f5, f6, f7, f8, f9, f10, f11, f12⟩, f13, f14, f15, f16, f17⟩ := HS.out W hW2
              clear hW hW2
              go_simp
              try with_reducible rfl
            try simp only [Act.put, List.setIfInBounds_toArray, List.set_cons_zero, List.set_cons_succ]
            refine wpAnyH_take2 (i := 7) (t := 59) (v := ?_) rfl rfl (by kernel_rfl) (by kernel_rfl) (by kernel_rfl) (fun _ _ _ h => Only.not_panic h) (Or.inl ⟨by kernel_rfl, fun W hW => ?_⟩) (by assumption) ?_
            rotate_left
            · have hW2 := hW
              obtain ⟨⟨f0, f1, f2, f3, f4, f5, f6, f7, f8, f9, f10, f11, f12⟩, f13, f14, f15, f16, f17⟩ := HS.out W hW2
              clear hW hW2
              go_simp
              try with_reducible rfl
            try simp only [Act.put, List.setIfInBounds_toArray, List.set_cons_zero, List.set_cons_succ]
            refine wpAnyH_ready (rs := [8, 13]) (by kernel_rfl) (by simp) ?_
            refine AllReadyH.cons rfl (fun K hK => ?_) ?_
            · go_simp
              refine (HKp.out _).mono ?_
              rintro e w8 ⟨rfl, hb8⟩
              try simp only []
              refine hK.out _ _ ?_ (fun hHeld => ?_)
              · exact B_trans hHeld hb8
              clear hK K
              try simp only [Act.put, List.setIfInBounds_toArray, List.set_cons_zero, List.set_cons_succ]
              refine wpAnyH_ready (rs := [9, 13]) (by kernel_rfl) (by simp) ?_
              refine AllReadyH.cons rfl (fun K hK => ?_) ?_
              · go_simp
                refine (HCm.out _).mono ?_
                rintro e w9 ⟨rfl, hb9⟩
                try simp only []
                refine hK.out _ _ ?_ (fun hHeld => ?_)
                · exact B_trans hHeld hb9
                clear hK K
                try simp only [Act.put, List.setIfInBounds_toArray, List.set_cons_zero, List.set_cons_succ]
                refine wpAnyH_take2 (i := 10) (t := 51) (v := ?_) rfl rfl (by kernel_rfl) (by kernel_rfl) (by kernel_rfl) (fun _ _ _ h => Only.not_panic h) (Or.inl ⟨by kernel_rfl, fun W hW => ?_⟩) (by assumption) ?_
                rotate_left
                · have hW2 := hW
                  obtain ⟨⟨f0, f1, f2, f3, f4, f5, f6, f7, f8, f9, f10, f11, f12⟩, f13, f14, f15, f16, f17⟩ := HS.out W hW2
                  clear hW hW2
                  go_simp
                  try with_reducible rfl
                try simp only [Act.put, List.setIfInBounds_toArray, List.set_cons_zero, List.set_cons_succ]
                refine wpAnyH_take2 (i := 11) (t := 62) (v := ?_) rfl rfl (by kernel_rfl) (by kernel_rfl) (by kernel_rfl) (fun _ _ _ h => Only.not_panic h) (Or.inl ⟨by kernel_rfl, fun W hW => ?_⟩) (by assumption) ?_
                rotate_left
                · have hW2 := hW
                  obtain ⟨⟨f0, f1, f2, f3, f4, f5, f6, f7, f8, f9, f10, f11, f12⟩, f13, f14, f15, f16, f17⟩ := HS.out W hW2
                  clear hW hW2
                  go_simp
                  try with_reducible rfl
                try simp only [Act.put, List.setIfInBounds_toArray, List.set_cons_zero, List.set_cons_succ]
                refine wpAnyH_take2 (i := 12) (t := 63) (v := ?_) rfl rfl (by kernel_rfl) (by kernel_rfl) (by kernel_rfl) (fun _ _ _ h => Only.not_panic h) (Or.inl ⟨by kernel_rfl, fun W hW => ?_⟩) (by assumption) ?_
                rotate_left
                · have hW2 := hW
                  obtain ⟨⟨f0, f1, f2, f3, f4, f5, f6, f7, f8, f9, f10, f11, f12⟩, f13, f14, f15, f16, f17⟩ := HS.out W hW2
                  clear hW hW2
                  go_simp
                  try with_reducible rfl
                try simp only [Act.put, List.setIfInBounds_toArray, List.set_cons_zero, List.set_cons_succ]
                refine wpAnyH_ready (rs := [13]) (by kernel_rfl) (by simp) ?_
                refine AllReadyH.cons rfl (fun K hK => ?_) ?_
                · go_simp
                  have hpre := hHeld
                  have o9 := Lib.hid (Ob.new (w9) #[.int .i64 0, .int .i64 0] 28)
                  have hb9 := hHeld.size
                  refine hK.out _ _ ?_ (fun hHeld => ?_)
                  · exact B_alloc hHeld _
                  clear hK K
                  try simp only [Act.put, List.setIfInBounds_toArray, List.set_cons_zero, List.set_cons_succ]
                  refine wpAnyH_ready (rs := [14]) (by kernel_rfl) (by simp) ?_
                  refine AllReadyH.cons rfl (fun K hK => ?_) ?_
                  · have v0 := o9.out.cell 0
                    have v1 := o9.out.cell 1
                    have g0 := o9.out.frozen 0
                    have g1 := o9.out.frozen 1
                    simp only [List.getElem?_toArray, List.getElem?_cons_zero, List.getElem?_cons_succ] at v0 v1
                    go_simp
                    refine hK.out _ _ ?_ (fun hHeld => ?_)
                    · first | exact B_alloc hpre _ | exact (hHeld.setCell (by first | omega | (simp only; omega) | (simp; omega)) _).setCell (by first | omega | (simp only; omega) | (simp; omega)) _
                    clear hK K
                    try simp only [Act.put, List.setIfInBounds_toArray, List.set_cons_zero, List.set_cons_succ]
                    refine wpAnyH_take2 (i := 15) (t := 10) (v := ?_) rfl rfl (by kernel_rfl) (by kernel_rfl) (by kernel_rfl) (fun _ _ _ h => Only.not_panic h) (Or.inl ⟨by kernel_rfl, fun W hW => ?_⟩) (by assumption) ?_
                    rotate_left
                    · have hW2 := hW
                      obtain ⟨⟨f0, f1, f2, f3, f4, f5, f6, f7, f8, f9, f10, f11, f12⟩, f13, f14, f15, f16, f17⟩ := HS.out W hW2
                      clear hW hW2
                      go_simp
                      try with_reducible rfl
                    try simp only [Act.put, List.setIfInBounds_toArray, List.set_cons_zero, List.set_cons_succ]
                    refine wpAnyH_done (by kernel_rfl) (Only.mk ?_) _
                    first | exact HC2.out _ _ (by first | omega | exact Nat.le_refl _) (Ob.new _ _ _) hHeld | exact HC2.out _ _ (by first | omega | exact Nat.le_refl _) ((o9.out.set 0 _).set 1 _) hHeld
                  exact AllReadyH.nil
                exact AllReadyH.nil
              refine AllReadyH.cons rfl (fun K hK => ?_) ?_
              · go_simp
                have hpre := hHeld
                have o9 := Lib.hid (Ob.new (w8) #[.int .i64 0, .int .i64 0] 28)
                have hb9 := hHeld.size
                refine hK.out _ _ ?_ (fun hHeld => ?_)
                · exact B_alloc hHeld _
                clear hK K
                try simp only [Act.put, List.setIfInBounds_toArray, List.set_cons_zero, List.set_cons_succ]
                refine wpAnyH_ready (rs := [9]) (by kernel_rfl) (by simp) ?_
                refine AllReadyH.cons rfl (fun K hK => ?_) ?_
                · go_simp
                  refine (HCm.out _).mono ?_
                  rintro e w9 ⟨rfl, hb9⟩
                  try simp only []
                  replace o9 := Lib.hid (o9.out.below hb9)
                  refine hK.out _ _ ?_ (fun hHeld => ?_)
                  · exact B_trans hHeld hb9
                  clear hK K
                  try simp only [Act.put, List.setIfInBounds_toArray, List.set_cons_zero, List.set_cons_succ]
                  refine wpAnyH_take2 (i := 10) (t := 51) (v := ?_) rfl rfl (by kernel_rfl) (by kernel_rfl) (by kernel_rfl) (fun _ _ _ h => Only.not_panic h) (Or.inl ⟨by kernel_rfl, fun W hW => ?_⟩) (by assumption) ?_
                  rotate_left
                  · have hW2 := hW
                    obtain ⟨⟨f0, f1, f2, f3, f4, f5, f6, f7, f8, f9, f10, f11, f12⟩, f13, f14, f15, f16, f17⟩ := HS.out W hW2
                    clear hW hW2
                    go_simp
                    try with_reducible rfl
                  try simp only [Act.put, List.setIfInBounds_toArray, List.set_cons_zero, List.set_cons_succ]
                  refine wpAnyH_take2 (i := 11) (t := 62) (v := ?_) rfl rfl (by kernel_rfl) (by kernel_rfl) (by kernel_rfl) (fun _ _ _ h => Only.not_panic h) (Or.inl ⟨by kernel_rfl, fun W hW => ?_⟩) (by assumption) ?_
                  rotate_left
                  · have hW2 := hW
                    obtain ⟨⟨f0, f1, f2, f3, f4, f5, f6, f7, f8, f9, f10, f11, f12⟩, f13, f14, f15, f16, f17⟩ := HS.out W hW2
                    clear hW hW2
                    go_simp
                    try with_reducible rfl
                  try simp only [Act.put, List.setIfInBounds_toArray, List.set_cons_zero, List.set_cons_succ]
                  refine wpAnyH_take2 (i := 12) (t := 63) (v := ?_) rfl rfl (by kernel_rfl) (by kernel_rfl) (by kernel_rfl) (fun _ _ _ h => Only.not_panic h) (Or.inl ⟨by kernel_rfl, fun W hW => ?_⟩) (by assumption) ?_
                  rotate_left
                  · have hW2 := hW
                    obtain ⟨⟨f0, f1, f2, f3, f4, f5, f6, f7, f8, f9, f10, f11, f12⟩, f13, f14, f15, f16, f17⟩ := HS.out W hW2
                    clear hW hW2
                    go_simp
                    try with_reducible rfl
                  try simp only [Act.put, List.setIfInBounds_toArray, List.set_cons_zero, List.set_cons_succ]
                  refine wpAnyH_ready (rs := [14]) (by kernel_rfl) (by simp) ?_
                  refine AllReadyH.cons rfl (fun K hK => ?_) ?_
                  · have v0 := o9.out.cell 0
                    have v1 := o9.out.cell 1
                    have g0 := o9.out.frozen 0
                    have g1 := o9.out.frozen 1
                    simp only [List.getElem?_toArray, List.getElem?_cons_zero, List.getElem?_cons_succ] at v0 v1
                    go_simp
                    refine hK.out _ _ ?_ (fun hHeld => ?_)
                    · first | exact B_alloc hpre _ | exact (hHeld.setCell (by first | omega | (simp only; omega) | (simp; omega)) _).setCell (by first | omega | (simp only; omega) | (simp; omega)) _
                    clear hK K
                    try simp only [Act.put, List.setIfInBounds_toArray, List.set_cons_zero, List.set_cons_succ]
                    refine wpAnyH_take2 (i := 15) (t := 10) (v := ?_) rfl rfl (by kernel_rfl) (by kernel_rfl) (by kernel_rfl) (fun _ _ _ h => Only.not_panic h) (Or.inl ⟨by kernel_rfl, fun W hW => ?_⟩) (by assumption) ?_
                    rotate_left
                    · have hW2 := hW
                      obtain ⟨⟨f0, f1, f2, f3, f4, f5, f6, f7, f8, f9, f10, f11, f12⟩, f13, f14, f15, f16, f17⟩ := HS.out W hW2
                      clear hW hW2
                      go_simp
                      try with_reducible rfl
                    try simp only [Act.put, List.setIfInBounds_toArray, List.set_cons_zero, List.set_cons_succ]
                    refine wpAnyH_done (by kernel_rfl) (Only.mk ?_) _
                    first | exact HC2.out _ _ (by first | omega | exact Nat.le_refl _) (Ob.new _ _ _) hHeld | exact HC2.out _ _ (by first | omega | exact Nat.le_refl _) ((o9.out.set 0 _).set 1 _) hHeld
                  exact AllReadyH.nil
                exact AllReadyH.nil
              exact AllReadyH.nil
            refine AllReadyH.cons rfl (fun K hK => ?_) ?_
            · go_simp
              have o9 := Lib.hid (show Ob (W1.drew.alloc (.cells #[.int .i64 0, .int .i64 0] 28)) W1.heap.size 28 #[.int .i64 0, .int .i64 0] from Ob.new _ _ _)
              have hpre := hHeld
              refine hK.out _ _ ?_ (fun hHeld => ?_)
              · exact B_alloc hHeld _
              clear hK K
              try simp only [Act.put, List.setIfInBounds_toArray, List.set_cons_zero, List.set_cons_succ]
              refine wpAnyH_ready (rs := [8]) (by kernel_rfl) (by simp) ?_
              refine AllReadyH.cons rfl (fun K hK => ?_) ?_
              · go_simp
                refine (HKp.out _).mono ?_
                rintro e w8 ⟨rfl, hb8⟩
                try simp only []
                replace o9 := Lib.hid (o9.out.below hb8)
                refine hK.out _ _ ?_ (fun hHeld => ?_)
                · exact B_trans hHeld hb8
                clear hK K
                try simp only [Act.put, List.setIfInBounds_toArray, List.set_cons_zero, List.set_cons_succ]
                refine wpAnyH_ready (rs := [9]) (by kernel_rfl) (by simp) ?_
                refine AllReadyH.cons rfl (fun K hK => ?_) ?_
                · go_simp
                  refine (HCm.out _).mono ?_
                  rintro e w9 ⟨rfl, hb9⟩
                  try simp only []
                  replace o9 := Lib.hid (o9.out.below hb9)
                  refine hK.out _ _ ?_ (fun hHeld => ?_)
                  · exact B_trans hHeld hb9
                  clear hK K
                  try simp only [Act.put, List.setIfInBounds_toArray, List.set_cons_zero, List.set_cons_succ]
                  refine wpAnyH_take2 (i := 10) (t := 51) (v := ?_) rfl rfl (by kernel_rfl) (by kernel_rfl) (by kernel_rfl) (fun _ _ _ h => Only.not_panic h) (Or.inl ⟨by kernel_rfl, fun W hW => ?_⟩) (by assumption) ?_
                  rotate_left
                  · have hW2 := hW
                    obtain ⟨⟨f0, f1, f2, f3, f4, f5, f6, f7, f8, f9, f10, f11, f12⟩, f13, f14, f15, f16, f17⟩ := HS.out W hW2
                    clear hW hW2
                    go_simp
                    try with_reducible rfl
                  try simp only [Act.put, List.setIfInBounds_toArray, List.set_cons_zero, List.set_cons_succ]
                  refine wpAnyH_take2 (i := 11) (t := 62) (v := ?_) rfl rfl (by kernel_rfl) (by kernel_rfl) (by kernel_rfl) (fun _ _ _ h => Only.not_panic h) (Or.inl ⟨by kernel_rfl, fun W hW => ?_⟩) (by assumption) ?_
                  rotate_left
                  · have hW2 := hW
                    obtain ⟨⟨f0, f1, f2, f3, f4, f5, f6, f7, f8, f9, f10, f11, f12⟩, f13, f14, f15, f16, f17⟩ := HS.out W hW2
                    clear hW hW2
                    go_simp
                    try with_reducible rfl
                  try simp only [Act.put, List.setIfInBounds_toArray, List.set_cons_zero, List.set_cons_succ]
                  refine wpAnyH_take2 (i := 12) (t := 63) (v := ?_) rfl rfl (by kernel_rfl) (by kernel_rfl) (by kernel_rfl) (fun _ _ _ h => Only.not_panic h) (Or.inl ⟨by kernel_rfl, fun W hW => ?_⟩) (by assumption) ?_
                  rotate_left
                  · have hW2 := hW
                    obtain ⟨⟨f0, f1, f2, f3, f4, f5, f6, f7, f8, f9, f10, f11, f12⟩, f13, f14, f15, f16, f17⟩ := HS.out W hW2
                    clear hW hW2
                    go_simp
                    try with_reducible rfl
                  try simp only [Act.put, List.setIfInBounds_toArray, List.set_cons_zero, List.set_cons_succ]
                  refine wpAnyH_ready (rs := [14]) (by kernel_rfl) (by simp) ?_
                  refine AllReadyH.cons rfl (fun K hK => ?_) ?_
                  · have v0 := o9.out.cell 0
                    have v1 := o9.out.cell 1
                    have g0 := o9.out.frozen 0
                    have g1 := o9.out.frozen 1
                    simp only [List.getElem?_toArray, List.getElem?_cons_zero, List.getElem?_cons_succ] at v0 v1
                    go_simp
                    refine hK.out _ _ ?_ (fun hHeld => ?_)
                    · first | exact B_alloc hpre _ | exact (hHeld.setCell (by first | omega | (simp only; omega) | (simp; omega)) _).setCell (by first | omega | (simp only; omega) | (simp; omega)) _
                    clear hK K
                    try simp only [Act.put, List.setIfInBounds_toArray, List.set_cons_zero, List.set_cons_succ]
                    refine wpAnyH_take2 (i := 15) (t := 10) (v := ?_) rfl rfl (by kernel_rfl) (by kernel_rfl) (by kernel_rfl) (fun _ _ _ h => Only.not_panic h) (Or.inl ⟨by kernel_rfl, fun W hW => ?_⟩) (by assumption) ?_
                    rotate_left
                    · have hW2 := hW
                      obtain ⟨⟨f0, f1, f2, f3, f4, f5, f6, f7, f8, f9, f10, f11, f12⟩, f13, f14, f15, f16, f17⟩ := HS.out W hW2
                      clear hW hW2
                      go_simp
                      try with_reducible rfl
                    try simp only [Act.put, List.setIfInBounds_toArray, List.set_cons_zero, List.set_cons_succ]
                    refine wpAnyH_done (by kernel_rfl) (Only.mk ?_) _
                    first | exact HC2.out _ _ (by first | omega | exact Nat.le_refl _) (Ob.new _ _ _) hHeld | exact HC2.out _ _ (by first | omega | exact Nat.le_refl _) ((o9.out.set 0 _).set 1 _) hHeld
                  exact AllReadyH.nil
                exact AllReadyH.nil
              exact AllReadyH.nil
            exact AllReadyH.nil
        clear hA hB
        replace HB := Lib.hid HB
        rcases Nat.lt_or_ge c t.tn with hcn | hcn
        · have hi' := getD_mem_lt hLlt (j := c) (by omega)
          have hmi := hmo _ hi'
          obtain ⟨d, hd⟩ : ∃ d, t.tn - c = d := ⟨_, rfl⟩
          have hd0 : (0 : Int) < d := by omega
          have hd1 : 0 < d := by omega
          have HMo := Lib.hid (fun (W' : World) (hh : Below wr.heap.size wr W') => morning_any t (.slice sa N sc) #[.slice t.r.ha t.r.hn t.r.hc, .slice t.r.wa t.r.wn t.r.wc, .int .i64 t.r.own, .int .i64 t.r.feed, .int .i64 t.r.g0, .int .i64 t.r.g1, .int .i64 t.r.g2, .int .i64 t.r.lost, .int .i64 t.first, .slice sa N sc, .int .i64 t.lo, .int .i64 t.hi, .slice t.ta t.tn t.tc] ts (L.getD c 0) W' (hT.below (B_trans hM.out.bw hh)) hi' (by omega) rfl (by omega) (by omega))
          rw [hmi.1] at HMo
          have HS := Lib.hid (fun (W' : World) (hh : Below wr.heap.size wr W') => And.intro (hM.out.below hh).cells (And.intro (hM.out.below hh).boxes ((hM.out.below hh).head (by omega))))
          rw [hd, show min c (t.tn - 1) = c by omega] at HS
          generalize L.getD c 0 = i at HMo HS HB hmi hi'
          generalize mor i = mi at HMo HB hmi
          clear hmi hi' hd
          refine wpIn_region_held (S := fun W' => Below wr.heap.size wr W') (by kernel_rfl) (by kernel_rfl) ((Below.refl _ wr).drew) (fun hHeld => ?_)
          refine wpAnyH_take2 (i := 0) (t := 34) (v := ?_) rfl rfl (by kernel_rfl) (by kernel_rfl) (by kernel_rfl) (fun _ _ _ h => Only.not_panic h) (Or.inl ⟨by kernel_rfl, fun W hW => ?_⟩) (by assumption) ?_
          rotate_left
          · have hW2 := hW
            obtain ⟨⟨f0, f1, f2, f3, f4, f5, f6, f7, f8, f9, f10, f11, f12⟩, ⟨-, -, g2, g3, g4, g5⟩, f13⟩ := HS.out W hW2
            clear hW hW2
            go_simp
            try with_reducible rfl
          try simp only [Act.put, List.setIfInBounds_toArray, List.set_cons_zero, List.set_cons_succ]
          refine wpAnyH_take2 (i := 1) (t := 35) (v := ?_) rfl rfl (by kernel_rfl) (by kernel_rfl) (by kernel_rfl) (fun _ _ _ h => Only.not_panic h) (Or.inl ⟨by kernel_rfl, fun W hW => ?_⟩) (by assumption) ?_
          rotate_left
          · have hW2 := hW
            obtain ⟨⟨f0, f1, f2, f3, f4, f5, f6, f7, f8, f9, f10, f11, f12⟩, ⟨-, -, g2, g3, g4, g5⟩, f13⟩ := HS.out W hW2
            clear hW hW2
            go_simp
            try with_reducible rfl
          try simp only [Act.put, List.setIfInBounds_toArray, List.set_cons_zero, List.set_cons_succ]
          refine wpAnyH_take2 (i := 2) (t := 36) (v := .bool true) rfl rfl (by kernel_rfl) (by kernel_rfl) (by kernel_rfl) (fun _ _ _ h => Only.not_panic h) (Or.inl ⟨by kernel_rfl, fun W hW => ?_⟩) (by assumption) ?_
          · have hW2 := hW
            obtain ⟨⟨f0, f1, f2, f3, f4, f5, f6, f7, f8, f9, f10, f11, f12⟩, ⟨-, -, g2, g3, g4, g5⟩, f13⟩ := HS.out W hW2
            clear hW hW2
            go_simp
            try with_reducible rfl
          try simp only [Act.put, List.setIfInBounds_toArray, List.set_cons_zero, List.set_cons_succ]
          refine wpAnyH_take2 (i := 3) (t := 37) (v := .bool true) rfl rfl (by kernel_rfl) (by kernel_rfl) (by kernel_rfl) (fun _ _ _ h => Only.not_panic h) (Or.inl ⟨by kernel_rfl, fun W hW => ?_⟩) (by assumption) ?_
          · have hW2 := hW
            obtain ⟨⟨f0, f1, f2, f3, f4, f5, f6, f7, f8, f9, f10, f11, f12⟩, ⟨-, -, g2, g3, g4, g5⟩, f13⟩ := HS.out W hW2
            clear hW hW2
            go_simp
            try with_reducible rfl
          try simp only [Act.put, List.setIfInBounds_toArray, List.set_cons_zero, List.set_cons_succ]
          refine wpAnyH_take2 (i := 4) (t := 38) (v := ?_) rfl rfl (by kernel_rfl) (by kernel_rfl) (by kernel_rfl) (fun _ _ _ h => Only.not_panic h) (Or.inl ⟨by kernel_rfl, fun W hW => ?_⟩) (by assumption) ?_
          rotate_left
          · have hW2 := hW
            obtain ⟨⟨f0, f1, f2, f3, f4, f5, f6, f7, f8, f9, f10, f11, f12⟩, ⟨-, -, g2, g3, g4, g5⟩, f13⟩ := HS.out W hW2
            clear hW hW2
            go_simp
            try with_reducible rfl
          try simp only [Act.put, List.setIfInBounds_toArray, List.set_cons_zero, List.set_cons_succ]
          refine wpAnyH_take2 (i := 5) (t := 39) (v := ?_) rfl rfl (by kernel_rfl) (by kernel_rfl) (by kernel_rfl) (fun _ _ _ h => Only.not_panic h) (Or.inl ⟨by kernel_rfl, fun W hW => ?_⟩) (by assumption) ?_
          rotate_left
          · have hW2 := hW
            obtain ⟨⟨f0, f1, f2, f3, f4, f5, f6, f7, f8, f9, f10, f11, f12⟩, ⟨-, -, g2, g3, g4, g5⟩, f13⟩ := HS.out W hW2
            clear hW hW2
            go_simp
            try with_reducible rfl
          try simp only [Act.put, List.setIfInBounds_toArray, List.set_cons_zero, List.set_cons_succ]
          refine wpAnyH_take2 (i := 6) (t := 40) (v := ?_) rfl rfl (by kernel_rfl) (by kernel_rfl) (by kernel_rfl) (fun _ _ _ h => Only.not_panic h) (Or.inl ⟨by kernel_rfl, fun W hW => ?_⟩) (by assumption) ?_
          rotate_left
          · have hW2 := hW
            obtain ⟨⟨f0, f1, f2, f3, f4, f5, f6, f7, f8, f9, f10, f11, f12⟩, ⟨-, -, g2, g3, g4, g5⟩, f13⟩ := HS.out W hW2
            clear hW hW2
            go_simp
            try with_reducible rfl
          try simp only [Act.put, List.setIfInBounds_toArray, List.set_cons_zero, List.set_cons_succ]
          refine wpAnyH_take2 (i := 7) (t := 41) (v := ?_) rfl rfl (by kernel_rfl) (by kernel_rfl) (by kernel_rfl) (fun _ _ _ h => Only.not_panic h) (Or.inl ⟨by kernel_rfl, fun W hW => ?_⟩) (by assumption) ?_
          rotate_left
          · have hW2 := hW
            obtain ⟨⟨f0, f1, f2, f3, f4, f5, f6, f7, f8, f9, f10, f11, f12⟩, ⟨-, -, g2, g3, g4, g5⟩, f13⟩ := HS.out W hW2
            clear hW hW2
            go_simp
            try with_reducible rfl
          try simp only [Act.put, List.setIfInBounds_toArray, List.set_cons_zero, List.set_cons_succ]
          refine wpAnyH_take2 (i := 9) (t := 43) (v := ?_) rfl rfl (by kernel_rfl) (by kernel_rfl) (by kernel_rfl) (fun _ _ _ h => Only.not_panic h) (Or.inl ⟨by kernel_rfl, fun W hW => ?_⟩) (by assumption) ?_
          rotate_left
          · have hW2 := hW
            obtain ⟨⟨f0, f1, f2, f3, f4, f5, f6, f7, f8, f9, f10, f11, f12⟩, ⟨-, -, g2, g3, g4, g5⟩, f13⟩ := HS.out W hW2
            clear hW hW2
            go_simp
            try with_reducible rfl
          try simp only [Act.put, List.setIfInBounds_toArray, List.set_cons_zero, List.set_cons_succ]
          refine wpAnyH_ready (rs := [8]) (by kernel_rfl) (by simp) ?_
          refine AllReadyH.cons_want rfl (by kernel_rfl) (fun K hK => ?_) ?_
          · go_simp
            refine (HMo.out _ hHeld).mono ?_
            rintro e w8 ⟨rfl, hb8⟩
            try simp only []
            refine hK.out _ _ ?_ (fun hHeld => ?_)
            · exact B_trans hHeld hb8
            clear hK K
            try simp only [Act.put, List.setIfInBounds_toArray, List.set_cons_zero, List.set_cons_succ]
            refine wpAnyH_take2 (i := 10) (t := 44) (v := ?_) rfl rfl (by kernel_rfl) (by kernel_rfl) (by kernel_rfl) (fun _ _ _ h => Only.not_panic h) (Or.inl ⟨by kernel_rfl, fun W hW => ?_⟩) (by assumption) ?_
            rotate_left
            · have hW2 := hW
              obtain ⟨⟨f0, f1, f2, f3, f4, f5, f6, f7, f8, f9, f10, f11, f12⟩, ⟨-, -, g2, g3, g4, g5⟩, f13⟩ := HS.out W hW2
              clear hW hW2
              go_simp
              try with_reducible rfl
            try simp only [Act.put, List.setIfInBounds_toArray, List.set_cons_zero, List.set_cons_succ]
            refine wpAnyH_take2 (i := 11) (t := 45) (v := ?_) rfl rfl (by kernel_rfl) (by kernel_rfl) (by kernel_rfl) (fun _ _ _ h => Only.not_panic h) (Or.inl ⟨by kernel_rfl, fun W hW => ?_⟩) (by assumption) ?_
            rotate_left
            · have hW2 := hW
              obtain ⟨⟨f0, f1, f2, f3, f4, f5, f6, f7, f8, f9, f10, f11, f12⟩, ⟨-, -, g2, g3, g4, g5⟩, f13⟩ := HS.out W hW2
              clear hW hW2
              go_simp
              try with_reducible rfl
            try simp only [Act.put, List.setIfInBounds_toArray, List.set_cons_zero, List.set_cons_succ]
            refine wpAnyH_done (by kernel_rfl) (Only.mk ?_) _
            exact HB.out _ _ _ _ _ _ _ _ _ _ _ _ _ (hM.out.below hHeld) (fun hb => ⟨hcn, by simp at hb; omega⟩) (fun hb => Or.inr (by simp at hb; omega))
          exact AllReadyH.nil
        · have hd : t.tn - c = 0 := by omega
          have HS := Lib.hid (fun (W' : World) (hh : Below wr.heap.size wr W') => And.intro (hM.out.below hh).cells (hM.out.below hh).boxes)
          rw [hd] at HS
          generalize min c (t.tn - 1) = cm at HS
          clear hd
          refine wpIn_region_held (S := fun W' => Below wr.heap.size wr W') (by kernel_rfl) (by kernel_rfl) ((Below.refl _ wr).drew) (fun hHeld => ?_)
          refine wpAnyH_take2 (i := 0) (t := 34) (v := ?_) rfl rfl (by kernel_rfl) (by kernel_rfl) (by kernel_rfl) (fun _ _ _ h => Only.not_panic h) (Or.inl ⟨by kernel_rfl, fun W hW => ?_⟩) (by assumption) ?_
          rotate_left
          · have hW2 := hW
            obtain ⟨⟨f0, f1, f2, f3, f4, f5, f6, f7, f8, f9, f10, f11, f12⟩, ⟨-, -, g2, g3, g4, g5⟩⟩ := HS.out W hW2
            clear hW hW2
            go_simp
            try with_reducible rfl
          try simp only [Act.put, List.setIfInBounds_toArray, List.set_cons_zero, List.set_cons_succ]
          refine wpAnyH_take2 (i := 1) (t := 35) (v := ?_) rfl rfl (by kernel_rfl) (by kernel_rfl) (by kernel_rfl) (fun _ _ _ h => Only.not_panic h) (Or.inl ⟨by kernel_rfl, fun W hW => ?_⟩) (by assumption) ?_
          rotate_left
          · have hW2 := hW
            obtain ⟨⟨f0, f1, f2, f3, f4, f5, f6, f7, f8, f9, f10, f11, f12⟩, ⟨-, -, g2, g3, g4, g5⟩⟩ := HS.out W hW2
            clear hW hW2
            go_simp
            try with_reducible rfl
          try simp only [Act.put, List.setIfInBounds_toArray, List.set_cons_zero, List.set_cons_succ]
          refine wpAnyH_take2 (i := 2) (t := 36) (v := .bool false) rfl rfl (by kernel_rfl) (by kernel_rfl) (by kernel_rfl) (fun _ _ _ h => Only.not_panic h) (Or.inl ⟨by kernel_rfl, fun W hW => ?_⟩) (by assumption) ?_
          · have hW2 := hW
            obtain ⟨⟨f0, f1, f2, f3, f4, f5, f6, f7, f8, f9, f10, f11, f12⟩, ⟨-, -, g2, g3, g4, g5⟩⟩ := HS.out W hW2
            clear hW hW2
            go_simp
            try with_reducible rfl
          try simp only [Act.put, List.setIfInBounds_toArray, List.set_cons_zero, List.set_cons_succ]
          refine wpAnyH_take2 (i := 3) (t := 37) (v := .bool false) rfl rfl (by kernel_rfl) (by kernel_rfl) (by kernel_rfl) (fun _ _ _ h => Only.not_panic h) (Or.inl ⟨by kernel_rfl, fun W hW => ?_⟩) (by assumption) ?_
          · have hW2 := hW
            obtain ⟨⟨f0, f1, f2, f3, f4, f5, f6, f7, f8, f9, f10, f11, f12⟩, ⟨-, -, g2, g3, g4, g5⟩⟩ := HS.out W hW2
            clear hW hW2
            go_simp
            try with_reducible rfl
          try simp only [Act.put, List.setIfInBounds_toArray, List.set_cons_zero, List.set_cons_succ]
          refine wpAnyH_skip (i := 4) (t := 38) rfl rfl (by kernel_rfl) (by kernel_rfl) (by kernel_rfl) (fun _ _ _ h => Only.not_panic h) (by kernel_rfl) (by assumption) ?_
          try simp only [Act.put, List.setIfInBounds_toArray, List.set_cons_zero, List.set_cons_succ]
          refine wpAnyH_skip (i := 5) (t := 39) rfl rfl (by kernel_rfl) (by kernel_rfl) (by kernel_rfl) (fun _ _ _ h => Only.not_panic h) (by kernel_rfl) (by assumption) ?_
          try simp only [Act.put, List.setIfInBounds_toArray, List.set_cons_zero, List.set_cons_succ]
          refine wpAnyH_skip (i := 6) (t := 40) rfl rfl (by kernel_rfl) (by kernel_rfl) (by kernel_rfl) (fun _ _ _ h => Only.not_panic h) (by kernel_rfl) (by assumption) ?_
          try simp only [Act.put, List.setIfInBounds_toArray, List.set_cons_zero, List.set_cons_succ]
          refine wpAnyH_skip (i := 7) (t := 41) rfl rfl (by kernel_rfl) (by kernel_rfl) (by kernel_rfl) (fun _ _ _ h => Only.not_panic h) (by kernel_rfl) (by assumption) ?_
          try simp only [Act.put, List.setIfInBounds_toArray, List.set_cons_zero, List.set_cons_succ]
          refine wpAnyH_skip (i := 8) (t := 42) rfl rfl (by kernel_rfl) (by kernel_rfl) (by kernel_rfl) (fun _ _ _ h => Only.not_panic h) (by kernel_rfl) (by assumption) ?_
          try simp only [Act.put, List.setIfInBounds_toArray, List.set_cons_zero, List.set_cons_succ]
          refine wpAnyH_skip (i := 9) (t := 43) rfl rfl (by kernel_rfl) (by kernel_rfl) (by kernel_rfl) (fun _ _ _ h => Only.not_panic h) (by kernel_rfl) (by assumption) ?_
          try simp only [Act.put, List.setIfInBounds_toArray, List.set_cons_zero, List.set_cons_succ]
          refine wpAnyH_skip (i := 10) (t := 44) rfl rfl (by kernel_rfl) (by kernel_rfl) (by kernel_rfl) (fun _ _ _ h => Only.not_panic h) (by kernel_rfl) (by assumption) ?_
          try simp only [Act.put, List.setIfInBounds_toArray, List.set_cons_zero, List.set_cons_succ]
          refine wpAnyH_take2 (i := 11) (t := 45) (v := ?_) rfl rfl (by kernel_rfl) (by kernel_rfl) (by kernel_rfl) (fun _ _ _ h => Only.not_panic h) (Or.inl ⟨by kernel_rfl, fun W hW => ?_⟩) (by assumption) ?_
          rotate_left
          · have hW2 := hW
            obtain ⟨⟨f0, f1, f2, f3, f4, f5, f6, f7, f8, f9, f10, f11, f12⟩, ⟨-, -, g2, g3, g4, g5⟩⟩ := HS.out W hW2
            clear hW hW2
            go_simp
            try with_reducible rfl
          try simp only [Act.put, List.setIfInBounds_toArray, List.set_cons_zero, List.set_cons_succ]
          refine wpAnyH_done (by kernel_rfl) (Only.mk ?_) _
          exact HB.out _ _ _ _ _ _ _ _ _ _ _ _ _ (hM.out.below hHeld) (fun hb => by cases hb) (fun _ => Or.inl hcn)

    clear haR
    replace HC := Lib.hid HC
    replace hlp := Lib.hid hlp
    rcases Nat.eq_zero_or_pos m with hm0 | hm0
    · have hn0 : ¬ (0 : Int) < m := by omega
      have ec : canS t.r ss m can = can := by unfold canS; rw [if_neg (by omega)]
      rw [ec] at HC
      clear ec hm0
      gi_wp2_with fail
      exact HC.out _ _ _ _ _ _ _ _ _ _ _ _ hM.out
    · have hn0 : (0 : Int) < m := by omega
      obtain ⟨q, hq⟩ : ∃ q, m = q + 1 := ⟨m - 1, by omega⟩
      have ec : canS t.r ss m can = nextS t.r (ss.getD q (0, 0)) can := by subst hq; unfold canS; rw [if_pos (by omega)]; rfl
      obtain ⟨sb, so, hsa, hsb, hsc⟩ := hsl.at_ (by omega)
      obtain ⟨s0, s1⟩ := hsc q (by omega)
      have es := hst _ (getD_lt (L := ss) (i := q) (by rw [hsl.len]; omega))
      generalize ss.getD q (0, 0) = s at s0 s1 es ec
      have HN := Lib.hid (show ∀ W', Calls Try.prog 63 #[.agg t.r.cs, .agg #[.int .i64 s.1, .int .i64 s.2], .agg #[.int .i64 can.1, .int .i64 can.2]] W' fun e w' => e = .returned (.agg #[.int .i64 (nextS t.r s can).1, .int .i64 (nextS t.r s can).2]) ∧ Below W'.heap.size W' w' from fun W' => next_any t.r hs ws s.1 s.2 can.1 can.2 W' hO j6.a j6.b ⟨es.lo, by have := es.le; have := es.hi; omega⟩ ⟨by have := es.le; have := es.lo; omega, es.hi⟩)
      rw [ec] at HC
      clear ec es
      generalize nextS t.r s can = uv at HN HC
      obtain ⟨u, v⟩ := uv
      simp only at HN
      have HY := Lib.hid (fun (W' : World) (hh : RM t (.slice sa N sc) w W z g t.tn L lev lv lv c tk tv tv can st sv sv W') => (show W'.cell? ⟨sb, so + q * 2, none⟩ = some (.int .i64 s.1) ∧ W'.cell? ⟨sb, so + q * 2 + 1, none⟩ = some (.int .i64 s.2) from ⟨(hh.bw.cell (p := ⟨sb, _, none⟩) hsb).trans s0, (hh.bw.cell (p := ⟨sb, _, none⟩) hsb).trans s1⟩))
      have hsa2 : some (Value.slice sa N sc) = some (.slice (some ⟨sb, so, none⟩) N sc) := by rw [hsa]
      have u1 : IntKind.i64.wrap ((m : Int) - 1) = q := by rw [IntWalk.i64_in _ (by omega)]; omega
      have c1 : (0 : Int) ≤ q := by omega
      have c2 : (q : Int) < N := by omega
      replace hq := Lib.hid hq
      replace hsa2 := Lib.hid hsa2
      clear hm0 s0 s1 hsc hsa
      gi_wp2_with fail
      refine wpIn_region_steps2 (I := R7 (fun p W' => RM t (.slice sa N sc) w W z g t.tn L lev lv lv c tk tv tv p st sv sv W') can u v) (V := V7 w.heap.size t.r.cs (.slice (some ⟨sb, so, none⟩) N sc) m q sb so s can) (eff := eff7) (need := need7) (till := till7) 2 (by kernel_rfl) (by decide) (by kernel_rfl) rfl (by kernel_rfl) (by kernel_rfl) (by kernel_rfl) (by kernel_rfl) (by kernel_rfl) (by kernel_rfl) ⟨fun _ => hM.out.below ((Below.refl _ W).drew), fun h => by omega, fun h => by omega⟩ ?steps ?hend
      case hend =>
        rintro outs w' ⟨-, -, hI⟩
        have hI2 := Lib.hid (hI rfl)
        clear hI
        simp only [flowAct, List.filterMap_cons, List.filterMap_nil, patch, List.setIfInBounds_toArray, List.set_cons_zero, List.set_cons_succ]
        exact HC.out _ _ _ _ _ _ _ _ _ _ _ _ hI2.out
      case steps =>
        refine ⟨⟨rfl, fun t ht k' outs u _ => by cases ht; rfl, fun k' outs W' ρ hk1 hk2 hI hc hg h_fn hr ho => ?_⟩, ?_⟩
        · have o1 := ho 1 (by kernel_rfl)
          clear hI
          refine step_pure rfl (v := .pointer (some ⟨w.heap.size, 0, none⟩)) (fun t ht => by cases ht; rfl) ?_
          go_simp
        refine ⟨⟨rfl, fun t ht k' outs u _ => by cases ht; rfl, fun k' outs W' ρ hk1 hk2 hI hc hg h_fn hr ho => ?_⟩, ?_⟩
        · have r24 : ρ (.tmp 24) = .pointer (some ⟨w.heap.size, 0, none⟩) := hr 24 (by kernel_rfl)
          have hk2' : k' ≤ 1 := hk2
          obtain ⟨f0, f1, f2, f3, f4, f5, f6, f7, f8, f9, f10, f11, f12⟩ := (hI.1 (by omega)).cells
          clear hI
          refine step_pure rfl (v := .agg t.r.cs) (fun t ht => by cases ht; rfl) ?_
          go_simp
        refine ⟨⟨rfl, fun t ht k' outs u _ => by cases ht; rfl, fun k' outs W' ρ hk1 hk2 hI hc hg h_fn hr ho => ?_⟩, ?_⟩
        · have o1 := ho 1 (by kernel_rfl)
          clear hI
          refine step_pure rfl (v := .pointer (some ⟨w.heap.size, 9, none⟩)) (fun t ht => by cases ht; rfl) ?_
          go_simp
        refine ⟨⟨rfl, fun t ht k' outs u _ => by cases ht; rfl, fun k' outs W' ρ hk1 hk2 hI hc hg h_fn hr ho => ?_⟩, ?_⟩
        · have r26 : ρ (.tmp 26) = .pointer (some ⟨w.heap.size, 9, none⟩) := hr 26 (by kernel_rfl)
          have hk2' : k' ≤ 1 := hk2
          obtain ⟨f0, f1, f2, f3, f4, f5, f6, f7, f8, f9, f10, f11, f12⟩ := (hI.1 (by omega)).cells
          replace f9 := f9.trans hsa2.out
          clear hI
          refine step_pure rfl (v := .slice (some ⟨sb, so, none⟩) N sc) (fun t ht => by cases ht; rfl) ?_
          go_simp
        refine ⟨⟨rfl, fun t ht k' outs u _ => by cases ht; rfl, fun k' outs W' ρ hk1 hk2 hI hc hg h_fn hr ho => ?_⟩, ?_⟩
        · have o7 := ho 7 (by kernel_rfl)
          clear hI
          refine step_pure rfl (v := .int .i64 m) (fun t ht => by cases ht; rfl) ?_
          go_simp
        refine ⟨⟨rfl, fun t ht k' outs u _ => by cases ht; rfl, fun k' outs W' ρ hk1 hk2 hI hc hg h_fn hr ho => ?_⟩, ?_⟩
        · have r28 : ρ (.tmp 28) = .int .i64 m := hr 28 (by kernel_rfl)
          clear hI
          refine step_pure rfl (v := .int .i64 q) (fun t ht => by cases ht; rfl) ?_
          go_simp
        refine ⟨⟨rfl, fun t ht k' outs u _ => by cases ht; rfl, fun k' outs W' ρ hk1 hk2 hI hc hg h_fn hr ho => ?_⟩, ?_⟩
        · have r27 : ρ (.tmp 27) = .slice (some ⟨sb, so, none⟩) N sc := hr 27 (by kernel_rfl)
          have r29 : ρ (.tmp 29) = .int .i64 q := hr 29 (by kernel_rfl)
          clear hI
          refine step_pure rfl (v := .pointer (some ⟨sb, so + q * 2, none⟩)) (fun t ht => by cases ht; rfl) ?_
          go_simp
        refine ⟨⟨rfl, fun t ht k' outs u _ => by cases ht; rfl, fun k' outs W' ρ hk1 hk2 hI hc hg h_fn hr ho => ?_⟩, ?_⟩
        · have r30 : ρ (.tmp 30) = .pointer (some ⟨sb, so + q * 2, none⟩) := hr 30 (by kernel_rfl)
          have hk2' : k' ≤ 1 := hk2
          obtain ⟨y0, y1⟩ := HY.out _ (hI.1 (by omega))
          clear hI
          refine step_pure rfl (v := .agg #[.int .i64 s.1, .int .i64 s.2]) (fun t ht => by cases ht; rfl) ?_
          go_simp
        refine ⟨⟨rfl, fun t ht k' outs u _ => by cases ht; rfl, fun k' outs W' ρ hk1 hk2 hI hc hg h_fn hr ho => ?_⟩, ?_⟩
        · have o6 := ho 6 (by kernel_rfl)
          have hk2' : k' ≤ 1 := hk2
          obtain ⟨-, -, -, -, b4, b5⟩ := (hI.1 (by omega)).boxes
          clear hI
          refine step_pure rfl (v := .agg #[.int .i64 can.1, .int .i64 can.2]) (fun t ht => by cases ht; rfl) ?_
          go_simp
        refine ⟨⟨rfl, fun t ht k' outs u (h : 0 < k') => by cases ht; show upd outs k' u 0 = outs 0; unfold upd; rw [if_neg (by omega)], fun k' outs W' ρ hk1 hk2 hI hc hg h_fn hr ho => ?_⟩, ?_⟩
        · obtain rfl : k' = 0 := by have h1 : 0 ≤ k' := hk1; have h2 : k' ≤ 0 := hk2; omega
          have r25 : ρ (.tmp 25) = .agg t.r.cs := hr 25 (by kernel_rfl)
          have r31 : ρ (.tmp 31) = .agg #[.int .i64 s.1, .int .i64 s.2] := hr 31 (by kernel_rfl)
          have r32 : ρ (.tmp 32) = .agg #[.int .i64 can.1, .int .i64 can.2] := hr 32 (by kernel_rfl)
          have hfn := h_fn 63
          refine step_call rfl (f := 63) (args := #[.agg t.r.cs, .agg #[.int .i64 s.1, .int .i64 s.2], .agg #[.int .i64 can.1, .int .i64 can.2]]) (w' := W') ?_ ?_
          · clear hI; go_simp
          · refine (HN.out W').mono ?_
            rintro e w2 ⟨rfl, hb2⟩
            exact ⟨_, rfl, ⟨fun _ => (hI.1 (by omega)).below hb2, fun _ => rfl, fun h => by omega⟩, fun t ht => by cases ht; rfl⟩
        refine ⟨⟨rfl, (fun t ht => by cases ht), fun k' outs W' ρ hk1 hk2 hI hc hg h_fn hr ho => ?_⟩, trivial⟩
        · obtain rfl : k' = 1 := by have h1 : 1 ≤ k' := hk1; have h2 : k' ≤ 1 := hk2; omega
          have o6 := ho 6 (by kernel_rfl)
          have r33 : ρ (.tmp 33) = .agg #[.int .i64 u, .int .i64 v] := (hr 33 (by kernel_rfl)).trans (hI.2.1 (by omega))
          have hM1 := hI.1 (by omega)
          obtain ⟨-, -, -, -, b4, b5⟩ := hM1.boxes
          obtain ⟨-, -, -, -, e4, e5⟩ := hM1.free
          have hM2 := hM1.setC (u, v)
          refine step_store rfl rfl (w' := (W'.setCell ⟨z + 1 + 1, 0, none⟩ (.int .i64 u)).setCell ⟨z + 1 + 1, 1, none⟩ (.int .i64 v)) ?_ ⟨fun h => by omega, fun _ => hI.2.1 (by omega), fun _ => hM2⟩
          clear hI hM1 hM2; go_simp
  case done =>
    rintro D xs W hD rfl ⟨c, lv, tv, sv, hM, hJ⟩ hK
    rw [vals_fin] at hM hJ
    have hlev := hJ.lev
    rw [List.length_finRange] at hlev
    obtain ⟨S, hS'⟩ : ∃ S, reachS t.r ss ts mor ⟨L, [], (t.lo, t.hi), [], []⟩ (List.range (N + 1)) = S := ⟨_, rfl⟩
    rw [hS'] at hM hlev
    have hS := Lib.hid hS'
    clear hS' hJ
    obtain ⟨q, cap, C, rfl, hq, hC, hSp⟩ := row_sp hM.rL (by rw [hlev]; omega)
    obtain ⟨ra, rc, rfl, -⟩ := sl2_row hM.rS
    rw [hlev] at hM
    obtain ⟨b0, b1, -⟩ := hM.boxes
    obtain ⟨e0, e1, -⟩ := hM.free
    have hgg' := hM.gg
    have hM3 := ((hM.setL (.slice (some ⟨q, 0, none⟩) (N + 1) cap)).setS (.slice ra S.struck.length rc)).below ((Below.refl _ _).drew)
    have hC3 := (hC.other (p := ⟨w.heap.size + 1, 0, none⟩) (by simp only; omega) (.slice (some ⟨q, 0, none⟩) (N + 1) cap)).other (p := ⟨w.heap.size + 1 + 1, 0, none⟩) (by simp only; omega) (.slice ra S.struck.length rc)
    have eK : ((W.setCell ⟨w.heap.size + 1, 0, none⟩ (.slice (some ⟨q, 0, none⟩) (N + 1) cap)).setCell ⟨w.heap.size + 1 + 1, 0, none⟩ (.slice ra S.struck.length rc)).drew.heap[D]? = some (.deferred (some [])) := (Below.heap_setCell _ _ _ _ (by simp only; omega)).trans ((Below.heap_setCell _ _ _ _ (by simp only; omega)).trans hK)
    have hgr := grownBy_putObj' ((W.setCell ⟨w.heap.size + 1, 0, none⟩ (.slice (some ⟨q, 0, none⟩) (N + 1) cap)).setCell ⟨w.heap.size + 1 + 1, 0, none⟩ (.slice ra S.struck.length rc)).drew D (.deferred none)
    have hM4 := hM3.own hgr (fun r e => by cases e; exact ⟨by omega, _, eK, rfl⟩)
    have E1 := Lib.hid (hC3.drew.own hgr (fun r e => by cases e; exact ⟨_, eK, rfl⟩))
    have E2 := Lib.hid (row_base hM4.rS (show w.heap.size ≤ z + 5 by omega))
    have E3 := Lib.hid hM4.bw
    have x0 := hM4.boxes.1
    have x1 := hM4.boxes.2.1
    clear hM hM3 hM4 hC hC3 hgr I0
    gi_wp2_with fail
    gi_region
    all_goals gi_wp2
    all_goals refine ⟨by simp, .inl ⟨_, _, rfl, run_takeDeferred eK, ?_⟩⟩
    all_goals exact ⟨.tuple #[.slice (some ⟨q, 0, none⟩) (N + 1) cap, .slice ra S.struck.length rc], by simp [results, Try.results88, go_sem, x0, x1], ⟨q, cap, C, _, rfl, by omega, E1.out, by rw [hS.out]; exact hSp, by rw [hS.out]; exact E2.out, E3.out⟩⟩
  case stop =>
    rintro D c pre W _ _ h _
    exact h.elim
end Go.Proofs.Ytanjkhclhcnnaaa

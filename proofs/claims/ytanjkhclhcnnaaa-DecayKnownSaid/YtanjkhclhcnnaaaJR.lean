/- What DecayLosts wants besides: days of a reel that is moved, tests that stay, rows of tests. -/
import Derived.Test.YtanjkhclhcnnaaaGA
namespace Go.Proofs.Ytanjkhclhcnnaaa
open Go.RowKit Go.Shelf

theorem Ob.thirteen {W : World} {X : Nat} {T : TypeId} {a b c d e f g h i j k l m : Value} (o : Ob W X T #[a, b, c, d, e, f, g, h, i, j, k, l, m]) : W.cell? ⟨X, 0, none⟩ = some a ∧ W.cell? ⟨X, 1, none⟩ = some b ∧ W.cell? ⟨X, 2, none⟩ = some c ∧ W.cell? ⟨X, 3, none⟩ = some d ∧ W.cell? ⟨X, 4, none⟩ = some e ∧ W.cell? ⟨X, 5, none⟩ = some f ∧ W.cell? ⟨X, 6, none⟩ = some g ∧ W.cell? ⟨X, 7, none⟩ = some h ∧ W.cell? ⟨X, 8, none⟩ = some i ∧ W.cell? ⟨X, 9, none⟩ = some j ∧ W.cell? ⟨X, 10, none⟩ = some k ∧ W.cell? ⟨X, 11, none⟩ = some l ∧ W.cell? ⟨X, 12, none⟩ = some m :=
  ⟨o.cell 0, o.cell 1, o.cell 2, o.cell 3, o.cell 4, o.cell 5, o.cell 6, o.cell 7, o.cell 8, o.cell 9, o.cell 10, o.cell 11, o.cell 12⟩
/-- Tests as cells. -/
def flat3 (l : List T3) : List Value := l.flatMap fun x => [.int .i64 x.1, .int .i64 x.2.1, .int .i64 x.2.2]
theorem flat3_len : ∀ l : List T3, (flat3 l).length = l.length * 3
  | [] => rfl
  | x :: l => by have := flat3_len l; simp [flat3] at this ⊢; omega
theorem flat3_snoc (l : List T3) (x : T3) : flat3 (l ++ [x]) = flat3 l ++ [.int .i64 x.1, .int .i64 x.2.1, .int .i64 x.2.2] := by simp [flat3]
theorem flat3_at : ∀ (l : List T3) (i : Nat), i < l.length → (flat3 l)[i * 3]? = some (.int .i64 (l.getD i (0, 0, 0)).1) ∧ (flat3 l)[i * 3 + 1]? = some (.int .i64 (l.getD i (0, 0, 0)).2.1) ∧ (flat3 l)[i * 3 + 2]? = some (.int .i64 (l.getD i (0, 0, 0)).2.2)
  | [], i, h => by cases h
  | x :: l, 0, _ => ⟨rfl, rfl, rfl⟩
  | x :: l, i + 1, h => by
    have e : flat3 (x :: l) = [.int .i64 x.1, .int .i64 x.2.1, .int .i64 x.2.2] ++ flat3 l := rfl
    have ih := flat3_at l i (by simpa using h)
    rw [e, show (i + 1) * 3 = 3 + i * 3 by omega, show 3 + i * 3 + 1 = 3 + (i * 3 + 1) by omega, show 3 + i * 3 + 2 = 3 + (i * 3 + 2) by omega]
    rw [List.getElem?_append_right (by simp), List.getElem?_append_right (by simp), List.getElem?_append_right (by simp)]
    simpa using ih
theorem sl3_row {W : World} {B : Nat} {t : TypeId} {v : Value} {L : List T3} {n : Nat} (h : W.ownsRow B t 3 v n (flat3 L)) : ∃ a c, v = .slice a n c ∧ Sl3 W a n L ∧ n = L.length := by
  have hn : n = L.length := by have := h.1; rw [flat3_len] at this; omega
  rcases h.2 with ⟨rfl, rfl⟩ | ⟨g, cap, cur, rfl, hb, hg, hc1, hc2, hs, ht⟩
  · exact ⟨none, 0, rfl, ⟨hn.symm, fun h => absurd h (Nat.lt_irrefl 0)⟩, hn⟩
  · refine ⟨_, cap, rfl, ⟨hn.symm, fun _ => ⟨g, 0, rfl, (Array.getElem?_eq_some_iff.1 hg).1, fun i hi => ?_⟩⟩, hn⟩
    obtain ⟨x0, x1, x2⟩ := flat3_at L i (by omega)
    have key : ∀ j, j < n * 3 → W.cell? ⟨g, j, none⟩ = (flat3 L)[j]? := fun j hj => by
      rw [← ht, List.getElem?_take, if_pos hj]
      simp [World.cell?, hg]
    rw [show 0 + i * 3 = i * 3 by omega]
    exact ⟨(key _ (by omega)).trans x0, (key _ (by omega)).trans x1, (key _ (by omega)).trans x2⟩

theorem infoTst : (Try.prog.info? 64).map (fun i => (i.zero, i.size, i.bytes)) = some (some (.agg #[.int .i64 0, .int .i64 0, .int .i64 0]), 3, 24) := by kernel_rfl
theorem flat3_one : ∀ l : List T3, ∀ u ∈ flat3 l, u.oneCell' = true
  | [], u, h => by cases h
  | x :: l, u, h => by
    have e : flat3 (x :: l) = [.int .i64 x.1, .int .i64 x.2.1, .int .i64 x.2.2] ++ flat3 l := rfl
    rw [e, List.mem_append] at h
    rcases h with h | h
    · simp at h; rcases h with rfl | rfl | rfl <;> rfl
    · exact flat3_one l u h
theorem joinedM {W : World} {base n : Nat} {v : Value} {xs : List Value} {p o m c : Nat} {ys : List T3} (hv : W.ownsRow base 64 3 v n xs) (hl : ys.length = m)
    (hy : ∀ i, i < m → W.cell? ⟨p, o + i * 3, none⟩ = some (.int .i64 (ys.getD i (0, 0, 0)).1) ∧ W.cell? ⟨p, o + i * 3 + 1, none⟩ = some (.int .i64 (ys.getD i (0, 0, 0)).2.1) ∧ W.cell? ⟨p, o + i * 3 + 2, none⟩ = some (.int .i64 (ys.getD i (0, 0, 0)).2.2))
    (hn : n ≤ 100000) (hm : m ≤ 100000) (hb : base ≤ W.heap.size) :
    ∃ v' w', (Builtin.append_ #[29, 29] 29 #[v, .slice (some ⟨p, o, none⟩) m c]).run Try.prog W = .ok v' w' ∧ w'.ownsRow base 64 3 v' (n + m) (xs ++ flat3 ys) ∧ W.grownBy w' v.ownBlock := by
  obtain ⟨i0, hi, hz0, hs0, hy0⟩ := info_parts infoTst
  obtain ⟨v', w', h1, h2, h3, -⟩ := run_append_own (P := Try.prog) (w := W) base 29 29 64 i0 _ 3 24 Try.underlying29 hi hz0 hs0 hy0 rfl (by decide) v n xs hv ⟨p, o, none⟩ m c (flat3 ys) (by rw [flat3_len, hl])
    (fun j u h => by
      have hj : j < m * 3 := by
        rcases Nat.lt_or_ge j (m * 3) with h1 | h1
        · exact h1
        · rw [List.getElem?_eq_none (by rw [flat3_len, hl]; exact h1)] at h; cases h
      obtain ⟨c0, c1, c2⟩ := hy (j / 3) (by omega)
      obtain ⟨x0, x1, x2⟩ := flat3_at ys (j / 3) (by omega)
      rw [show (⟨p, o, none⟩ : Addr).add j = ⟨p, o + j, none⟩ by simp [Addr.add]]
      have h3 : j % 3 = 0 ∨ j % 3 = 1 ∨ j % 3 = 2 := by omega
      rcases h3 with h3 | h3 | h3
      · rw [show j = j / 3 * 3 by omega] at h ⊢
        rw [x0] at h; rw [c0]; exact h
      · rw [show j = j / 3 * 3 + 1 by omega] at h ⊢
        rw [x1] at h; rw [show o + (j / 3 * 3 + 1) = o + j / 3 * 3 + 1 by omega, c1]; exact h
      · rw [show j = j / 3 * 3 + 2 by omega] at h ⊢
        rw [x2] at h; rw [show o + (j / 3 * 3 + 2) = o + j / 3 * 3 + 2 by omega, c2]; exact h) (flat3_one ys) (by unfold maxLen; omega) (by omega) hb
  exact ⟨v', w', h1, h2, h3⟩
/-- The days of a reel that is moved after so many of them. -/
def movedL (ds : List T4) (k n : Nat) (d : T4) : List T4 := ds.take k ++ List.replicate (n - k) d
theorem moved_len {ds : List T4} {k n : Nat} (h : ds.length = n) (hk : k ≤ n) (d : T4) : (movedL ds k n d).length = n := by
  unfold movedL
  rw [List.length_append, List.length_take, List.length_replicate, h]
  omega
theorem moved_at {ds : List T4} {k n : Nat} (h : ds.length = n) (hk : k ≤ n) (d : T4) {i : Nat} (hi : i < n) : (movedL ds k n d).getD i (0, 0, 0, 0) = if i < k then ds.getD i (0, 0, 0, 0) else d := by
  unfold movedL
  simp only [List.getD]
  by_cases e : i < k
  · rw [if_pos e, List.getElem?_append_left (by rw [List.length_take]; omega), List.getElem?_take_of_lt e]
  · rw [if_neg e, List.getElem?_append_right (by rw [List.length_take]; omega), List.length_take, List.getElem?_replicate, if_pos (by omega)]
    rfl
/-- The tests up to a day. -/
def keptL (ts : List T3) (x : Int) : List T3 := ts.filter fun a => !decide (x < a.1)
theorem kept_at {ts : List T3} {x : Int} {i : Nat} (h : i < (keptL ts x).length) : ∃ j, j < ts.length ∧ (keptL ts x).getD i (0, 0, 0) = ts.getD j (0, 0, 0) := by
  have h1 : (keptL ts x)[i] ∈ ts := (List.mem_filter.1 (List.getElem_mem h)).1
  obtain ⟨j, hj, e⟩ := List.getElem_of_mem h1
  exact ⟨j, hj, by simp [List.getD, h, hj, e]⟩
theorem kept_len (ts : List T3) (x : Int) : (keptL ts x).length ≤ ts.length := List.length_filter_le _ _
abbrev TkA.movedT_ (t : TkA) (da : Option Addr) (dc : Nat) (ta : Option Addr) (tn tc : Nat) : TkA := ⟨t.r, t.first, da, t.dn, dc, t.lo, t.hi, ta, tn, tc⟩
theorem TaskOK.movedT {t : TkA} {hs ws : List T2} {ds : List T4} {ts : List T3} (ok : TaskOK t hs ws ds ts) (hdl : ds.length = t.dn) (htl : ts.length = t.tn) {k : Nat} (hk : k ≤ t.dn) {d : T4} (hd : dayE d = 0) (x : Int) (da : Option Addr) (dc : Nat) (ta : Option Addr) (tc : Nat) :
    TaskOK (t.movedT_ da dc ta (keptL ts x).length tc) hs ws (movedL ds k t.dn d) (keptL ts x) := by
  refine ⟨ok.r, ok.dn, Nat.le_trans (kept_len ts x) (by rw [htl]; exact ok.tn), ok.first, ?_, ok.start, ?_⟩
  · refine firstE_all.2 fun i hi => ?_
    have hi' : i < t.dn := hi
    rw [moved_at hdl hk d hi']
    split
    · exact firstE_all.1 ok.days i hi'
    · exact hd
  · refine firstE_all.2 fun i hi => ?_
    obtain ⟨j, hj, e⟩ := kept_at hi
    rw [e]
    exact firstE_all.1 ok.tests j (by rw [← htl]; exact hj)
theorem TaskOK.zero {t : TkA} {hs ws : List T2} {ds : List T4} {ts : List T3} (ok : TaskOK t hs ws ds ts) : (taskS t hs ws ds ts).2.2 = 0 := by
  unfold taskS
  rw [if_neg (by simpa using ok.r), if_neg (by have := ok.dn; have := ok.tn; omega), if_pos (inB_iff.2 ok.first), if_neg (by simpa using ok.days), if_neg (by simpa using ok.start), if_neg (by simpa using ok.tests)]
end Go.Proofs.Ytanjkhclhcnnaaa

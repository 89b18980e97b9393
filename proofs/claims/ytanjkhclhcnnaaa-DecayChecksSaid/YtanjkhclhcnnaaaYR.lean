/- Lost, from what is known. -/
import Derived.Test.YtanjkhclhcnnaaaYQ
namespace Go.Proofs.Ytanjkhclhcnnaaa
open Go.RowKit Go.Shelf

set_option maxRecDepth 100000 in
set_option maxHeartbeats 8000000 in
theorem lostD_bad (t : TkA) (hs ws : List T2) (ds : List T4) (ts : List T3) (w : World) (hR : TkR w t hs ws ds ts) (he : (taskS t hs ws ds ts).2.2 ≠ 0) :
    Calls Try.prog 32 #[.agg t.cs] w fun e w' => e = .returned (.tuple #[.agg #[.int .i64 0, .int .i64 0], .int .i64 (taskS t hs ws ds ts).2.2]) ∧ Below w.heap.size w w' := by
  obtain ⟨w0, hw0⟩ : ∃ w0, (w.alloc (.cells t.cs 31)).alloc (.cells #[.int .i64 0, .int .i64 0] 28) = w0 := ⟨_, rfl⟩
  have hb0 : Below w.heap.size w w0 := by rw [← hw0]; exact B_alloc (B_alloc (Below.refl _ _) _) _
  have hT0 : TBox w0 w.heap.size t := by rw [← hw0]; exact (TBox.new w t 31).below (B_alloc (Below.refl _ _) _)
  have hO0 : Ob w0 (w.heap.size + 1) 28 #[.int .i64 0, .int .i64 0] := by rw [← hw0]; simpa using Ob.new (w.alloc (.cells t.cs 31)) #[.int .i64 0, .int .i64 0] 28
  have H1 := Lib.hid (checkTask_any t hs ws ds ts w0 (hR.below hb0))
  generalize taskS t hs ws ds ts = c at H1 he ⊢
  obtain ⟨c1, c2, c3⟩ := c
  simp only [tri] at H1 he ⊢
  obtain ⟨q0, q1, q2, q3, q4, q5, q6, q7, q8, q9, q10, q11, q12⟩ := hT0.all
  replace hb0 := Lib.hid hb0
  replace hw0 := Lib.hid hw0
  replace hO0 := Lib.hid hO0
  clear hR hT0
  go_enter Try.func32, Try.ntmps32
  go_wp2_with fail
  rw [hw0.out]
  refine H1.out.mono ?_
  rintro e w1 ⟨rfl, hb1⟩
  have o1 := hO0.out.below hb1
  have v0 := o1.cell 0
  have v1 := o1.cell 1
  have f0 := o1.frozen 0
  have f1 := o1.frozen 1
  simp only [List.getElem?_toArray, List.getElem?_cons_zero, List.getElem?_cons_succ] at v0 v1
  have hw1 := Lib.hid (B_trans hb0.out hb1)
  clear hb1 o1 q0 q1 q2 q3 q4 q5 q6 q7 q8 q9 q10 q11 q12
  go_wp2
  refine bodyPost_ret (v := .tuple #[.agg #[.int .i64 0, .int .i64 0], .int .i64 c3]) (by simp [results, Try.results32, go_sem, v0, v1]) rfl ⟨rfl, ?_⟩
  exact (hw1.out.setCell (by simp only; omega) _).setCell (by simp only; omega) _

set_option maxRecDepth 100000 in
set_option maxHeartbeats 8000000 in
theorem lostD_ok (t : TkA) (hs ws : List T2) (ds : List T4) (ts : List T3) (LL : List T2) (w : World) (hR : TkR w t hs ws ds ts) (he : (taskS t hs ws ds ts).2.2 = 0) (hL : LL.length = t.dn + 1)
    (HK : ∀ W v, W.ownsRow w.heap.size 28 2 v t.dn (flat2 (ds.map (strS hs ws))) → Below w.heap.size w W → Calls Try.prog 71 #[.agg (t.xc v)] W fun e W' => ∃ g cap C sv, e = .returned (.tuple #[.slice (some ⟨g, 0, none⟩) (t.dn + 1) cap, sv]) ∧ W.heap.size ≤ g ∧ Ob W' g 28 C ∧ SpC C LL ∧ Below W.heap.size W W') :
    Calls Try.prog 32 #[.agg t.cs] w fun e w' => e = .returned (.tuple #[.agg #[.int .i64 (lostP t LL).1, .int .i64 (lostP t LL).2], .int .i64 0]) ∧ Below w.heap.size w w' := by
  have ok := TaskOK.of he
  obtain ⟨w0, hw0⟩ : ∃ w0, (w.alloc (.cells t.cs 31)).alloc (.cells #[.int .i64 0, .int .i64 0] 28) = w0 := ⟨_, rfl⟩
  have hb0 : Below w.heap.size w w0 := by rw [← hw0]; exact B_alloc (B_alloc (Below.refl _ _) _) _
  have hT0 : TBox w0 w.heap.size t := by rw [← hw0]; exact (TBox.new w t 31).below (B_alloc (Below.refl _ _) _)
  have hO0 : Ob w0 (w.heap.size + 1) 28 #[.int .i64 0, .int .i64 0] := by rw [← hw0]; simpa using Ob.new (w.alloc (.cells t.cs 31)) #[.int .i64 0, .int .i64 0] 28
  have H1 := Lib.hid (checkTask_any t hs ws ds ts w0 (hR.below hb0))
  have H2 := Lib.hid (fun W (h : Below w.heap.size w W) => taskOf_any t hs ws ds ts W (hR.below h) (RuOK.of ok.r) ok.dn)
  have H3 := Lib.hid (fun W v (hv : W.ownsRow w.heap.size 28 2 v t.dn (flat2 (ds.map (strS hs ws)))) (h : Below w.heap.size w W) => lost_any t v t.dn LL W (by obtain ⟨a, c, e, -⟩ := sl2_row hv; exact ⟨a, _, c, e⟩) (by have := ok.dn; omega) hL ok.first.1 (by have := ok.first.2; omega)
    (fun W' h' => HK W' v (row_below hv h') (B_trans h h')))
  rw [show tri (taskS t hs ws ds ts) = .tuple #[.int .i64 (taskS t hs ws ds ts).1, .int .i64 (taskS t hs ws ds ts).2.1, .int .i64 (taskS t hs ws ds ts).2.2] from rfl, he] at H1
  generalize (taskS t hs ws ds ts).1 = c1 at H1
  generalize (taskS t hs ws ds ts).2.1 = c2 at H1
  generalize (lostP t LL).1 = p at H3 ⊢
  generalize (lostP t LL).2 = q at H3 ⊢
  obtain ⟨q0, q1, q2, q3, q4, q5, q6, q7, q8, q9, q10, q11, q12⟩ := hT0.all
  replace hb0 := Lib.hid hb0
  replace hw0 := Lib.hid hw0
  replace hO0 := Lib.hid hO0
  replace hT0 := Lib.hid hT0
  clear hR he ok HK
  go_enter Try.func32, Try.ntmps32
  go_wp2_with fail
  rw [hw0.out]
  refine H1.out.mono ?_
  rintro e w1 ⟨rfl, hb1⟩
  clear q0 q1 q2 q3 q4 q5 q6 q7 q8 q9 q10 q11 q12
  have hw1 := Lib.hid (B_trans hb0.out hb1)
  have o1 := Lib.hid (hO0.out.below hb1)
  obtain ⟨q0, q1, q2, q3, q4, q5, q6, q7, q8, q9, q10, q11, q12⟩ := (hT0.out.below hb1).all
  clear hb1
  go_wp2_with fail
  refine (H2.out w1 hw1.out).mono ?_
  rintro e w2 ⟨⟨v, rfl, hrow⟩, hb2⟩
  have hw2 := Lib.hid (B_trans hw1.out hb2)
  have o2 := Lib.hid (o1.out.below hb2)
  have HK2 := Lib.hid (H3.out w2 v (row_base hrow hw1.out.size) hw2.out)
  clear q0 q1 q2 q3 q4 q5 q6 q7 q8 q9 q10 q11 q12 hrow hb2 H3
  go_wp2_with fail
  refine HK2.out.mono ?_
  rintro e w3 ⟨rfl, hb3⟩
  have o3 := o2.out.below hb3
  have v0 := o3.cell 0
  have v1 := o3.cell 1
  have f0 := o3.frozen 0
  have f1 := o3.frozen 1
  simp only [List.getElem?_toArray, List.getElem?_cons_zero, List.getElem?_cons_succ] at v0 v1
  have hw3 := Lib.hid (B_trans hw2.out hb3)
  clear hb3 o3
  go_wp2
  refine bodyPost_ret (v := .tuple #[.agg #[.int .i64 p, .int .i64 q], .int .i64 0]) (by simp [results, Try.results32, go_sem, v0, v1]) rfl ⟨rfl, ?_⟩
  exact (hw3.out.setCell (by simp only; omega) _).setCell (by simp only; omega) _
end Go.Proofs.Ytanjkhclhcnnaaa

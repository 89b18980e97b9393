/- The errors of Moved, of the program and of the reference. -/
import Derived.Test.YtanjkhclhcnnaaaJZ
namespace Go.Proofs.Ytanjkhclhcnnaaa
open Go Go.RowKit Go.Shelf

set_option maxRecDepth 100000 in
set_option maxHeartbeats 4000000 in
theorem moved_bad (t : TkA) (hs ws : List T2) (ds : List T4) (ts : List T3) (x d0 d1 d2 d3 : Int) (w : World) (hR : TkR w t hs ws ds ts) (he : (taskS t hs ws ds ts).2.2 ≠ 0) :
    Calls Try.prog 34 #[.agg #[(.slice t.r.ha t.r.hn t.r.hc), (.slice t.r.wa t.r.wn t.r.wc), (.int .i64 t.r.own), (.int .i64 t.r.feed), (.int .i64 t.r.g0), (.int .i64 t.r.g1), (.int .i64 t.r.g2), (.int .i64 t.r.lost), (.int .i64 t.first), (.slice t.da t.dn t.dc), (.int .i64 t.lo), (.int .i64 t.hi), (.slice t.ta t.tn t.tc)], .int .i64 x, .agg #[.int .i64 d0, .int .i64 d1, .int .i64 d2, .int .i64 d3]] w fun e w' => e = .returned (.tuple #[.agg #[.int .i64 0, .int .i64 0], .int .i64 (taskS t hs ws ds ts).2.2]) ∧ Below w.heap.size w w' := by
  obtain ⟨w0, hw0⟩ : ∃ w0, (((w.alloc (.cells #[(.slice t.r.ha t.r.hn t.r.hc), (.slice t.r.wa t.r.wn t.r.wc), (.int .i64 t.r.own), (.int .i64 t.r.feed), (.int .i64 t.r.g0), (.int .i64 t.r.g1), (.int .i64 t.r.g2), (.int .i64 t.r.lost), (.int .i64 t.first), (.slice t.da t.dn t.dc), (.int .i64 t.lo), (.int .i64 t.hi), (.slice t.ta t.tn t.tc)] 31)).alloc (.cells #[.int .i64 x] 3)).alloc (.cells #[.int .i64 d0, .int .i64 d1, .int .i64 d2, .int .i64 d3] 39)).alloc (.cells #[.int .i64 0, .int .i64 0] 28) = w0 := ⟨_, rfl⟩
  have hb0 : Below w.heap.size w w0 := by rw [← hw0]; exact B_alloc (B_alloc (B_alloc (B_alloc (Below.refl _ _) _) _) _) _
  have o0 : Ob w0 (w.heap.size) 31 #[(.slice t.r.ha t.r.hn t.r.hc), (.slice t.r.wa t.r.wn t.r.wc), (.int .i64 t.r.own), (.int .i64 t.r.feed), (.int .i64 t.r.g0), (.int .i64 t.r.g1), (.int .i64 t.r.g2), (.int .i64 t.r.lost), (.int .i64 t.first), (.slice t.da t.dn t.dc), (.int .i64 t.lo), (.int .i64 t.hi), (.slice t.ta t.tn t.tc)] := by
    rw [← hw0]
    have h := (((Ob.new (w) #[(.slice t.r.ha t.r.hn t.r.hc), (.slice t.r.wa t.r.wn t.r.wc), (.int .i64 t.r.own), (.int .i64 t.r.feed), (.int .i64 t.r.g0), (.int .i64 t.r.g1), (.int .i64 t.r.g2), (.int .i64 t.r.lost), (.int .i64 t.first), (.slice t.da t.dn t.dc), (.int .i64 t.lo), (.int .i64 t.hi), (.slice t.ta t.tn t.tc)] 31).alloc (.cells #[.int .i64 x] 3)).alloc (.cells #[.int .i64 d0, .int .i64 d1, .int .i64 d2, .int .i64 d3] 39)).alloc (.cells #[.int .i64 0, .int .i64 0] 28)
    simpa using h
  have o1 : Ob w0 (w.heap.size + 1) 3 #[.int .i64 x] := by
    rw [← hw0]
    have h := ((Ob.new (w.alloc (.cells #[(.slice t.r.ha t.r.hn t.r.hc), (.slice t.r.wa t.r.wn t.r.wc), (.int .i64 t.r.own), (.int .i64 t.r.feed), (.int .i64 t.r.g0), (.int .i64 t.r.g1), (.int .i64 t.r.g2), (.int .i64 t.r.lost), (.int .i64 t.first), (.slice t.da t.dn t.dc), (.int .i64 t.lo), (.int .i64 t.hi), (.slice t.ta t.tn t.tc)] 31)) #[.int .i64 x] 3).alloc (.cells #[.int .i64 d0, .int .i64 d1, .int .i64 d2, .int .i64 d3] 39)).alloc (.cells #[.int .i64 0, .int .i64 0] 28)
    simpa using h
  have o2 : Ob w0 (w.heap.size + 1 + 1) 39 #[.int .i64 d0, .int .i64 d1, .int .i64 d2, .int .i64 d3] := by
    rw [← hw0]
    have h := (Ob.new ((w.alloc (.cells #[(.slice t.r.ha t.r.hn t.r.hc), (.slice t.r.wa t.r.wn t.r.wc), (.int .i64 t.r.own), (.int .i64 t.r.feed), (.int .i64 t.r.g0), (.int .i64 t.r.g1), (.int .i64 t.r.g2), (.int .i64 t.r.lost), (.int .i64 t.first), (.slice t.da t.dn t.dc), (.int .i64 t.lo), (.int .i64 t.hi), (.slice t.ta t.tn t.tc)] 31)).alloc (.cells #[.int .i64 x] 3)) #[.int .i64 d0, .int .i64 d1, .int .i64 d2, .int .i64 d3] 39).alloc (.cells #[.int .i64 0, .int .i64 0] 28)
    simpa using h
  have o3 : Ob w0 (w.heap.size + 1 + 1 + 1) 28 #[.int .i64 0, .int .i64 0] := by
    rw [← hw0]
    have h := Ob.new (((w.alloc (.cells #[(.slice t.r.ha t.r.hn t.r.hc), (.slice t.r.wa t.r.wn t.r.wc), (.int .i64 t.r.own), (.int .i64 t.r.feed), (.int .i64 t.r.g0), (.int .i64 t.r.g1), (.int .i64 t.r.g2), (.int .i64 t.r.lost), (.int .i64 t.first), (.slice t.da t.dn t.dc), (.int .i64 t.lo), (.int .i64 t.hi), (.slice t.ta t.tn t.tc)] 31)).alloc (.cells #[.int .i64 x] 3)).alloc (.cells #[.int .i64 d0, .int .i64 d1, .int .i64 d2, .int .i64 d3] 39)) #[.int .i64 0, .int .i64 0] 28
    simpa using h
  have H1 := checkTask_any t hs ws ds ts w0 (hR.below hb0)
  rw [show tri (taskS t hs ws ds ts) = .tuple #[.int .i64 (taskS t hs ws ds ts).1, .int .i64 (taskS t hs ws ds ts).2.1, .int .i64 (taskS t hs ws ds ts).2.2] from rfl] at H1
  generalize (taskS t hs ws ds ts).1 = c1 at H1
  generalize (taskS t hs ws ds ts).2.1 = c2 at H1
  generalize (taskS t hs ws ds ts).2.2 = c3 at H1 he ⊢
  have G1 := Lib.hid (show Calls Try.prog 17 #[.agg #[(.slice t.r.ha t.r.hn t.r.hc), (.slice t.r.wa t.r.wn t.r.wc), (.int .i64 t.r.own), (.int .i64 t.r.feed), (.int .i64 t.r.g0), (.int .i64 t.r.g1), (.int .i64 t.r.g2), (.int .i64 t.r.lost), (.int .i64 t.first), (.slice t.da t.dn t.dc), (.int .i64 t.lo), (.int .i64 t.hi), (.slice t.ta t.tn t.tc)]] w0 fun e w' => e = .returned (.tuple #[.int .i64 c1, .int .i64 c2, .int .i64 c3]) ∧ Below w0.heap.size w0 w' from H1)
  have hq : (c3 != 0) = true := by simpa using he
  have hq2 : (c3 == 0) = false := by simpa using he
  have hq3 : ¬ c3 = 0 := he
  obtain ⟨q0, q1, q2, q3, q4, q5, q6, q7, q8, q9, q10, q11, q12⟩ := o0.thirteen
  have hz : w0.cell? ⟨w.heap.size + 1, 0, none⟩ = some (.int .i64 x) := o1.cell 0
  obtain ⟨y0, y1, y2, y3⟩ := o2.day
  have W0 := Lib.hid hw0
  have B0 := Lib.hid hb0
  have O0 := Lib.hid (And.intro o0 (And.intro o2 o3))
  have X0 := Lib.hid o1
  clear hw0 hb0 o0 o2 o3 o1 H1 hR
  clear he
  go_enter Try.func34, Try.ntmps34
  go_wp2_with fail
  rw [W0.out]
  refine G1.out.mono ?_
  rintro e w1 ⟨rfl, hb1⟩
  have B1 := Lib.hid (B_trans B0.out hb1)
  have O1 := Lib.hid (And.intro (O0.out.1.below hb1) (And.intro (O0.out.2.1.below hb1) (O0.out.2.2.below hb1)))
  have X1 := Lib.hid (X0.out.below hb1)
  clear q0 q1 q2 q3 q4 q5 q6 q7 q8 q9 q10 q11 q12 y0 y1 y2 y3 hz hb1
  have B3 := Lib.hid B1.out
  have S3 := Lib.hid O1.out.2.2
  obtain ⟨v0, v1, f0, f1⟩ := S3.out.span
  go_wp2
  refine bodyPost_ret (v := .tuple #[.agg #[.int .i64 0, .int .i64 0], .int .i64 c3]) (by simp [results, Try.results34, go_sem, v0, v1]) rfl ⟨rfl, ?_⟩
  exact (B3.out.setCell (by simp only; omega) _).setCell (by simp only; omega) _

set_option maxRecDepth 100000 in
set_option maxHeartbeats 4000000 in
theorem moved_out (t : TkA) (hs ws : List T2) (ds : List T4) (ts : List T3) (x d0 d1 d2 d3 : Int) (w : World) (hR : TkR w t hs ws ds ts) (he : (taskS t hs ws ds ts).2.2 = 0) (hx : inB x t.first (t.first + (t.dn : Int) - 1) = false) :
    Calls Try.prog 34 #[.agg #[(.slice t.r.ha t.r.hn t.r.hc), (.slice t.r.wa t.r.wn t.r.wc), (.int .i64 t.r.own), (.int .i64 t.r.feed), (.int .i64 t.r.g0), (.int .i64 t.r.g1), (.int .i64 t.r.g2), (.int .i64 t.r.lost), (.int .i64 t.first), (.slice t.da t.dn t.dc), (.int .i64 t.lo), (.int .i64 t.hi), (.slice t.ta t.tn t.tc)], .int .i64 x, .agg #[.int .i64 d0, .int .i64 d1, .int .i64 d2, .int .i64 d3]] w fun e w' => e = .returned (.tuple #[.agg #[.int .i64 0, .int .i64 0], .int .i64 7]) ∧ Below w.heap.size w w' := by
  obtain ⟨w0, hw0⟩ : ∃ w0, (((w.alloc (.cells #[(.slice t.r.ha t.r.hn t.r.hc), (.slice t.r.wa t.r.wn t.r.wc), (.int .i64 t.r.own), (.int .i64 t.r.feed), (.int .i64 t.r.g0), (.int .i64 t.r.g1), (.int .i64 t.r.g2), (.int .i64 t.r.lost), (.int .i64 t.first), (.slice t.da t.dn t.dc), (.int .i64 t.lo), (.int .i64 t.hi), (.slice t.ta t.tn t.tc)] 31)).alloc (.cells #[.int .i64 x] 3)).alloc (.cells #[.int .i64 d0, .int .i64 d1, .int .i64 d2, .int .i64 d3] 39)).alloc (.cells #[.int .i64 0, .int .i64 0] 28) = w0 := ⟨_, rfl⟩
  have hb0 : Below w.heap.size w w0 := by rw [← hw0]; exact B_alloc (B_alloc (B_alloc (B_alloc (Below.refl _ _) _) _) _) _
  have o0 : Ob w0 (w.heap.size) 31 #[(.slice t.r.ha t.r.hn t.r.hc), (.slice t.r.wa t.r.wn t.r.wc), (.int .i64 t.r.own), (.int .i64 t.r.feed), (.int .i64 t.r.g0), (.int .i64 t.r.g1), (.int .i64 t.r.g2), (.int .i64 t.r.lost), (.int .i64 t.first), (.slice t.da t.dn t.dc), (.int .i64 t.lo), (.int .i64 t.hi), (.slice t.ta t.tn t.tc)] := by
    rw [← hw0]
    have h := (((Ob.new (w) #[(.slice t.r.ha t.r.hn t.r.hc), (.slice t.r.wa t.r.wn t.r.wc), (.int .i64 t.r.own), (.int .i64 t.r.feed), (.int .i64 t.r.g0), (.int .i64 t.r.g1), (.int .i64 t.r.g2), (.int .i64 t.r.lost), (.int .i64 t.first), (.slice t.da t.dn t.dc), (.int .i64 t.lo), (.int .i64 t.hi), (.slice t.ta t.tn t.tc)] 31).alloc (.cells #[.int .i64 x] 3)).alloc (.cells #[.int .i64 d0, .int .i64 d1, .int .i64 d2, .int .i64 d3] 39)).alloc (.cells #[.int .i64 0, .int .i64 0] 28)
    simpa using h
  have o1 : Ob w0 (w.heap.size + 1) 3 #[.int .i64 x] := by
    rw [← hw0]
    have h := ((Ob.new (w.alloc (.cells #[(.slice t.r.ha t.r.hn t.r.hc), (.slice t.r.wa t.r.wn t.r.wc), (.int .i64 t.r.own), (.int .i64 t.r.feed), (.int .i64 t.r.g0), (.int .i64 t.r.g1), (.int .i64 t.r.g2), (.int .i64 t.r.lost), (.int .i64 t.first), (.slice t.da t.dn t.dc), (.int .i64 t.lo), (.int .i64 t.hi), (.slice t.ta t.tn t.tc)] 31)) #[.int .i64 x] 3).alloc (.cells #[.int .i64 d0, .int .i64 d1, .int .i64 d2, .int .i64 d3] 39)).alloc (.cells #[.int .i64 0, .int .i64 0] 28)
    simpa using h
  have o2 : Ob w0 (w.heap.size + 1 + 1) 39 #[.int .i64 d0, .int .i64 d1, .int .i64 d2, .int .i64 d3] := by
    rw [← hw0]
    have h := (Ob.new ((w.alloc (.cells #[(.slice t.r.ha t.r.hn t.r.hc), (.slice t.r.wa t.r.wn t.r.wc), (.int .i64 t.r.own), (.int .i64 t.r.feed), (.int .i64 t.r.g0), (.int .i64 t.r.g1), (.int .i64 t.r.g2), (.int .i64 t.r.lost), (.int .i64 t.first), (.slice t.da t.dn t.dc), (.int .i64 t.lo), (.int .i64 t.hi), (.slice t.ta t.tn t.tc)] 31)).alloc (.cells #[.int .i64 x] 3)) #[.int .i64 d0, .int .i64 d1, .int .i64 d2, .int .i64 d3] 39).alloc (.cells #[.int .i64 0, .int .i64 0] 28)
    simpa using h
  have o3 : Ob w0 (w.heap.size + 1 + 1 + 1) 28 #[.int .i64 0, .int .i64 0] := by
    rw [← hw0]
    have h := Ob.new (((w.alloc (.cells #[(.slice t.r.ha t.r.hn t.r.hc), (.slice t.r.wa t.r.wn t.r.wc), (.int .i64 t.r.own), (.int .i64 t.r.feed), (.int .i64 t.r.g0), (.int .i64 t.r.g1), (.int .i64 t.r.g2), (.int .i64 t.r.lost), (.int .i64 t.first), (.slice t.da t.dn t.dc), (.int .i64 t.lo), (.int .i64 t.hi), (.slice t.ta t.tn t.tc)] 31)).alloc (.cells #[.int .i64 x] 3)).alloc (.cells #[.int .i64 d0, .int .i64 d1, .int .i64 d2, .int .i64 d3] 39)) #[.int .i64 0, .int .i64 0] 28
    simpa using h
  have ok : TaskOK t hs ws ds ts := TaskOK.of he
  have hdn : t.dn ≤ 400 := ok.dn
  have hf1 : 0 ≤ t.first := ok.first.1
  have hf2 : t.first ≤ 80000 - (t.dn : Int) := ok.first.2
  have u1 : IntKind.i64.wrap (t.first + (t.dn : Int)) = t.first + (t.dn : Int) := IntWalk.i64_in _ (by omega)
  have u2 : IntKind.i64.wrap (t.first + (t.dn : Int) - 1) = t.first + (t.dn : Int) - 1 := IntWalk.i64_in _ (by omega)
  have H1 := checkTask_any t hs ws ds ts w0 (hR.below hb0)
  rw [show tri (taskS t hs ws ds ts) = .tuple #[.int .i64 (taskS t hs ws ds ts).1, .int .i64 (taskS t hs ws ds ts).2.1, .int .i64 (taskS t hs ws ds ts).2.2] from rfl, he] at H1
  generalize (taskS t hs ws ds ts).1 = c1 at H1
  generalize (taskS t hs ws ds ts).2.1 = c2 at H1
  have G1 := Lib.hid (show Calls Try.prog 17 #[.agg #[(.slice t.r.ha t.r.hn t.r.hc), (.slice t.r.wa t.r.wn t.r.wc), (.int .i64 t.r.own), (.int .i64 t.r.feed), (.int .i64 t.r.g0), (.int .i64 t.r.g1), (.int .i64 t.r.g2), (.int .i64 t.r.lost), (.int .i64 t.first), (.slice t.da t.dn t.dc), (.int .i64 t.lo), (.int .i64 t.hi), (.slice t.ta t.tn t.tc)]] w0 fun e w' => e = .returned (.tuple #[.int .i64 c1, .int .i64 c2, .int .i64 0]) ∧ Below w0.heap.size w0 w' from H1)
  have G2 := Lib.hid (show ∀ W, Calls Try.prog 49 #[.int .i64 x, .int .i64 t.first, .int .i64 (t.first + (t.dn : Int) - 1)] W fun e w' => e = .returned (.bool false) ∧ W = w' from fun W => by
    have h := within_any x t.first (t.first + (t.dn : Int) - 1) W
    rw [hx] at h
    exact h)
  obtain ⟨q0, q1, q2, q3, q4, q5, q6, q7, q8, q9, q10, q11, q12⟩ := o0.thirteen
  have hz : w0.cell? ⟨w.heap.size + 1, 0, none⟩ = some (.int .i64 x) := o1.cell 0
  obtain ⟨y0, y1, y2, y3⟩ := o2.day
  have W0 := Lib.hid hw0
  have B0 := Lib.hid hb0
  have O0 := Lib.hid (And.intro o0 (And.intro o2 o3))
  have X0 := Lib.hid o1
  clear hw0 hb0 o0 o2 o3 o1 H1 hR he hx ok hdn hf1 hf2
  go_enter Try.func34, Try.ntmps34
  go_wp2_with fail
  rw [W0.out]
  refine G1.out.mono ?_
  rintro e w1 ⟨rfl, hb1⟩
  have B1 := Lib.hid (B_trans B0.out hb1)
  have O1 := Lib.hid (And.intro (O0.out.1.below hb1) (And.intro (O0.out.2.1.below hb1) (O0.out.2.2.below hb1)))
  have X1 := Lib.hid (X0.out.below hb1)
  clear q0 q1 q2 q3 q4 q5 q6 q7 q8 q9 q10 q11 q12 y0 y1 y2 y3 hz hb1
  obtain ⟨q0, q1, q2, q3, q4, q5, q6, q7, q8, q9, q10, q11, q12⟩ := O1.out.1.thirteen
  obtain ⟨y0, y1, y2, y3⟩ := O1.out.2.1.day
  have hz : w1.cell? ⟨w.heap.size + 1, 0, none⟩ = some (.int .i64 x) := X1.out.cell 0
  go_wp2_with fail
  refine (G2.out _).mono ?_
  rintro e w2 ⟨rfl, rfl⟩
  have B3 := Lib.hid B1.out
  have S3 := Lib.hid O1.out.2.2
  clear q0 q1 q2 q3 q4 q5 q6 q7 q8 q9 q10 q11 q12 y0 y1 y2 y3 hz
  obtain ⟨v0, v1, f0, f1⟩ := S3.out.span
  go_wp2
  refine bodyPost_ret (v := .tuple #[.agg #[.int .i64 0, .int .i64 0], .int .i64 7]) (by simp [results, Try.results34, go_sem, v0, v1]) rfl ⟨rfl, ?_⟩
  exact (B3.out.setCell (by simp only; omega) _).setCell (by simp only; omega) _

set_option maxRecDepth 100000 in
set_option maxHeartbeats 4000000 in
theorem moved_day (t : TkA) (hs ws : List T2) (ds : List T4) (ts : List T3) (x d0 d1 d2 d3 : Int) (w : World) (hR : TkR w t hs ws ds ts) (he : (taskS t hs ws ds ts).2.2 = 0) (hx : inB x t.first (t.first + (t.dn : Int) - 1) = true) (hd : dayE (d0, d1, d2, d3) ≠ 0) :
    Calls Try.prog 34 #[.agg #[(.slice t.r.ha t.r.hn t.r.hc), (.slice t.r.wa t.r.wn t.r.wc), (.int .i64 t.r.own), (.int .i64 t.r.feed), (.int .i64 t.r.g0), (.int .i64 t.r.g1), (.int .i64 t.r.g2), (.int .i64 t.r.lost), (.int .i64 t.first), (.slice t.da t.dn t.dc), (.int .i64 t.lo), (.int .i64 t.hi), (.slice t.ta t.tn t.tc)], .int .i64 x, .agg #[.int .i64 d0, .int .i64 d1, .int .i64 d2, .int .i64 d3]] w fun e w' => e = .returned (.tuple #[.agg #[.int .i64 0, .int .i64 0], .int .i64 (dayE (d0, d1, d2, d3))]) ∧ Below w.heap.size w w' := by
  obtain ⟨w0, hw0⟩ : ∃ w0, (((w.alloc (.cells #[(.slice t.r.ha t.r.hn t.r.hc), (.slice t.r.wa t.r.wn t.r.wc), (.int .i64 t.r.own), (.int .i64 t.r.feed), (.int .i64 t.r.g0), (.int .i64 t.r.g1), (.int .i64 t.r.g2), (.int .i64 t.r.lost), (.int .i64 t.first), (.slice t.da t.dn t.dc), (.int .i64 t.lo), (.int .i64 t.hi), (.slice t.ta t.tn t.tc)] 31)).alloc (.cells #[.int .i64 x] 3)).alloc (.cells #[.int .i64 d0, .int .i64 d1, .int .i64 d2, .int .i64 d3] 39)).alloc (.cells #[.int .i64 0, .int .i64 0] 28) = w0 := ⟨_, rfl⟩
  have hb0 : Below w.heap.size w w0 := by rw [← hw0]; exact B_alloc (B_alloc (B_alloc (B_alloc (Below.refl _ _) _) _) _) _
  have o0 : Ob w0 (w.heap.size) 31 #[(.slice t.r.ha t.r.hn t.r.hc), (.slice t.r.wa t.r.wn t.r.wc), (.int .i64 t.r.own), (.int .i64 t.r.feed), (.int .i64 t.r.g0), (.int .i64 t.r.g1), (.int .i64 t.r.g2), (.int .i64 t.r.lost), (.int .i64 t.first), (.slice t.da t.dn t.dc), (.int .i64 t.lo), (.int .i64 t.hi), (.slice t.ta t.tn t.tc)] := by
    rw [← hw0]
    have h := (((Ob.new (w) #[(.slice t.r.ha t.r.hn t.r.hc), (.slice t.r.wa t.r.wn t.r.wc), (.int .i64 t.r.own), (.int .i64 t.r.feed), (.int .i64 t.r.g0), (.int .i64 t.r.g1), (.int .i64 t.r.g2), (.int .i64 t.r.lost), (.int .i64 t.first), (.slice t.da t.dn t.dc), (.int .i64 t.lo), (.int .i64 t.hi), (.slice t.ta t.tn t.tc)] 31).alloc (.cells #[.int .i64 x] 3)).alloc (.cells #[.int .i64 d0, .int .i64 d1, .int .i64 d2, .int .i64 d3] 39)).alloc (.cells #[.int .i64 0, .int .i64 0] 28)
    simpa using h
  have o1 : Ob w0 (w.heap.size + 1) 3 #[.int .i64 x] := by
    rw [← hw0]
    have h := ((Ob.new (w.alloc (.cells #[(.slice t.r.ha t.r.hn t.r.hc), (.slice t.r.wa t.r.wn t.r.wc), (.int .i64 t.r.own), (.int .i64 t.r.feed), (.int .i64 t.r.g0), (.int .i64 t.r.g1), (.int .i64 t.r.g2), (.int .i64 t.r.lost), (.int .i64 t.first), (.slice t.da t.dn t.dc), (.int .i64 t.lo), (.int .i64 t.hi), (.slice t.ta t.tn t.tc)] 31)) #[.int .i64 x] 3).alloc (.cells #[.int .i64 d0, .int .i64 d1, .int .i64 d2, .int .i64 d3] 39)).alloc (.cells #[.int .i64 0, .int .i64 0] 28)
    simpa using h
  have o2 : Ob w0 (w.heap.size + 1 + 1) 39 #[.int .i64 d0, .int .i64 d1, .int .i64 d2, .int .i64 d3] := by
    rw [← hw0]
    have h := (Ob.new ((w.alloc (.cells #[(.slice t.r.ha t.r.hn t.r.hc), (.slice t.r.wa t.r.wn t.r.wc), (.int .i64 t.r.own), (.int .i64 t.r.feed), (.int .i64 t.r.g0), (.int .i64 t.r.g1), (.int .i64 t.r.g2), (.int .i64 t.r.lost), (.int .i64 t.first), (.slice t.da t.dn t.dc), (.int .i64 t.lo), (.int .i64 t.hi), (.slice t.ta t.tn t.tc)] 31)).alloc (.cells #[.int .i64 x] 3)) #[.int .i64 d0, .int .i64 d1, .int .i64 d2, .int .i64 d3] 39).alloc (.cells #[.int .i64 0, .int .i64 0] 28)
    simpa using h
  have o3 : Ob w0 (w.heap.size + 1 + 1 + 1) 28 #[.int .i64 0, .int .i64 0] := by
    rw [← hw0]
    have h := Ob.new (((w.alloc (.cells #[(.slice t.r.ha t.r.hn t.r.hc), (.slice t.r.wa t.r.wn t.r.wc), (.int .i64 t.r.own), (.int .i64 t.r.feed), (.int .i64 t.r.g0), (.int .i64 t.r.g1), (.int .i64 t.r.g2), (.int .i64 t.r.lost), (.int .i64 t.first), (.slice t.da t.dn t.dc), (.int .i64 t.lo), (.int .i64 t.hi), (.slice t.ta t.tn t.tc)] 31)).alloc (.cells #[.int .i64 x] 3)).alloc (.cells #[.int .i64 d0, .int .i64 d1, .int .i64 d2, .int .i64 d3] 39)) #[.int .i64 0, .int .i64 0] 28
    simpa using h
  have ok : TaskOK t hs ws ds ts := TaskOK.of he
  have hdn : t.dn ≤ 400 := ok.dn
  have hf1 : 0 ≤ t.first := ok.first.1
  have hf2 : t.first ≤ 80000 - (t.dn : Int) := ok.first.2
  have u1 : IntKind.i64.wrap (t.first + (t.dn : Int)) = t.first + (t.dn : Int) := IntWalk.i64_in _ (by omega)
  have u2 : IntKind.i64.wrap (t.first + (t.dn : Int) - 1) = t.first + (t.dn : Int) - 1 := IntWalk.i64_in _ (by omega)
  have H1 := checkTask_any t hs ws ds ts w0 (hR.below hb0)
  rw [show tri (taskS t hs ws ds ts) = .tuple #[.int .i64 (taskS t hs ws ds ts).1, .int .i64 (taskS t hs ws ds ts).2.1, .int .i64 (taskS t hs ws ds ts).2.2] from rfl, he] at H1
  generalize (taskS t hs ws ds ts).1 = c1 at H1
  generalize (taskS t hs ws ds ts).2.1 = c2 at H1
  have G1 := Lib.hid (show Calls Try.prog 17 #[.agg #[(.slice t.r.ha t.r.hn t.r.hc), (.slice t.r.wa t.r.wn t.r.wc), (.int .i64 t.r.own), (.int .i64 t.r.feed), (.int .i64 t.r.g0), (.int .i64 t.r.g1), (.int .i64 t.r.g2), (.int .i64 t.r.lost), (.int .i64 t.first), (.slice t.da t.dn t.dc), (.int .i64 t.lo), (.int .i64 t.hi), (.slice t.ta t.tn t.tc)]] w0 fun e w' => e = .returned (.tuple #[.int .i64 c1, .int .i64 c2, .int .i64 0]) ∧ Below w0.heap.size w0 w' from H1)
  have G2 := Lib.hid (show ∀ W, Calls Try.prog 49 #[.int .i64 x, .int .i64 t.first, .int .i64 (t.first + (t.dn : Int) - 1)] W fun e w' => e = .returned (.bool true) ∧ W = w' from fun W => by
    have h := within_any x t.first (t.first + (t.dn : Int) - 1) W
    rw [hx] at h
    exact h)
  have G3' := fun W => climateError_any (d0, d1, d2, d3) W
  generalize dayE (d0, d1, d2, d3) = c4 at G3' hd ⊢
  have G3 := Lib.hid (show ∀ W, Calls Try.prog 55 #[.agg #[.int .i64 d0, .int .i64 d1, .int .i64 d2, .int .i64 d3]] W fun e w' => e = .returned (.int .i64 c4) ∧ Below W.heap.size W w' from G3')
  have hq : (c4 != 0) = true := by simpa using hd
  have hq3 : ¬ c4 = 0 := hd
  obtain ⟨q0, q1, q2, q3, q4, q5, q6, q7, q8, q9, q10, q11, q12⟩ := o0.thirteen
  have hz : w0.cell? ⟨w.heap.size + 1, 0, none⟩ = some (.int .i64 x) := o1.cell 0
  obtain ⟨y0, y1, y2, y3⟩ := o2.day
  have W0 := Lib.hid hw0
  have B0 := Lib.hid hb0
  have O0 := Lib.hid (And.intro o0 (And.intro o2 o3))
  have X0 := Lib.hid o1
  clear hw0 hb0 o0 o2 o3 o1 H1 hR he hx ok hdn hf1 hf2
  clear G3' hd
  go_enter Try.func34, Try.ntmps34
  go_wp2_with fail
  rw [W0.out]
  refine G1.out.mono ?_
  rintro e w1 ⟨rfl, hb1⟩
  have B1 := Lib.hid (B_trans B0.out hb1)
  have O1 := Lib.hid (And.intro (O0.out.1.below hb1) (And.intro (O0.out.2.1.below hb1) (O0.out.2.2.below hb1)))
  have X1 := Lib.hid (X0.out.below hb1)
  clear q0 q1 q2 q3 q4 q5 q6 q7 q8 q9 q10 q11 q12 y0 y1 y2 y3 hz hb1
  obtain ⟨q0, q1, q2, q3, q4, q5, q6, q7, q8, q9, q10, q11, q12⟩ := O1.out.1.thirteen
  obtain ⟨y0, y1, y2, y3⟩ := O1.out.2.1.day
  have hz : w1.cell? ⟨w.heap.size + 1, 0, none⟩ = some (.int .i64 x) := X1.out.cell 0
  go_wp2_with fail
  refine (G2.out _).mono ?_
  rintro e w2 ⟨rfl, rfl⟩
  go_wp2_with fail
  refine (G3.out _).mono ?_
  rintro e w3 ⟨rfl, hb3⟩
  have B3 := Lib.hid (B_trans B1.out hb3)
  have S3 := Lib.hid (O1.out.2.2.below hb3)
  clear q0 q1 q2 q3 q4 q5 q6 q7 q8 q9 q10 q11 q12 y0 y1 y2 y3 hz hb3
  obtain ⟨v0, v1, f0, f1⟩ := S3.out.span
  go_wp2
  refine bodyPost_ret (v := .tuple #[.agg #[.int .i64 0, .int .i64 0], .int .i64 c4]) (by simp [results, Try.results34, go_sem, v0, v1]) rfl ⟨rfl, ?_⟩
  exact (B3.out.setCell (by simp only; omega) _).setCell (by simp only; omega) _

set_option maxRecDepth 100000 in
set_option maxHeartbeats 4000000 in
theorem refMoved_bad (t : TkA) (hs ws : List T2) (ds : List T4) (ts : List T3) (x d0 d1 d2 d3 : Int) (w : World) (hR : TkR w t hs ws ds ts) (he : (taskS t hs ws ds ts).2.2 ≠ 0) :
    Calls Try.prog 35 #[.agg #[(.slice t.r.ha t.r.hn t.r.hc), (.slice t.r.wa t.r.wn t.r.wc), (.int .i64 t.r.own), (.int .i64 t.r.feed), (.int .i64 t.r.g0), (.int .i64 t.r.g1), (.int .i64 t.r.g2), (.int .i64 t.r.lost), (.int .i64 t.first), (.slice t.da t.dn t.dc), (.int .i64 t.lo), (.int .i64 t.hi), (.slice t.ta t.tn t.tc)], .int .i64 x, .agg #[.int .i64 d0, .int .i64 d1, .int .i64 d2, .int .i64 d3]] w fun e w' => e = .returned (.tuple #[.agg #[.int .i64 0, .int .i64 0], .int .i64 (taskS t hs ws ds ts).2.2]) ∧ Below w.heap.size w w' := by
  obtain ⟨w0, hw0⟩ : ∃ w0, ((w.alloc (.cells #[(.slice t.r.ha t.r.hn t.r.hc), (.slice t.r.wa t.r.wn t.r.wc), (.int .i64 t.r.own), (.int .i64 t.r.feed), (.int .i64 t.r.g0), (.int .i64 t.r.g1), (.int .i64 t.r.g2), (.int .i64 t.r.lost), (.int .i64 t.first), (.slice t.da t.dn t.dc), (.int .i64 t.lo), (.int .i64 t.hi), (.slice t.ta t.tn t.tc)] 31)).alloc (.cells #[.int .i64 d0, .int .i64 d1, .int .i64 d2, .int .i64 d3] 39)).alloc (.cells #[.int .i64 0, .int .i64 0] 28) = w0 := ⟨_, rfl⟩
  have hb0 : Below w.heap.size w w0 := by rw [← hw0]; exact B_alloc (B_alloc (B_alloc (Below.refl _ _) _) _) _
  have o0 : Ob w0 (w.heap.size) 31 #[(.slice t.r.ha t.r.hn t.r.hc), (.slice t.r.wa t.r.wn t.r.wc), (.int .i64 t.r.own), (.int .i64 t.r.feed), (.int .i64 t.r.g0), (.int .i64 t.r.g1), (.int .i64 t.r.g2), (.int .i64 t.r.lost), (.int .i64 t.first), (.slice t.da t.dn t.dc), (.int .i64 t.lo), (.int .i64 t.hi), (.slice t.ta t.tn t.tc)] := by
    rw [← hw0]
    have h := ((Ob.new (w) #[(.slice t.r.ha t.r.hn t.r.hc), (.slice t.r.wa t.r.wn t.r.wc), (.int .i64 t.r.own), (.int .i64 t.r.feed), (.int .i64 t.r.g0), (.int .i64 t.r.g1), (.int .i64 t.r.g2), (.int .i64 t.r.lost), (.int .i64 t.first), (.slice t.da t.dn t.dc), (.int .i64 t.lo), (.int .i64 t.hi), (.slice t.ta t.tn t.tc)] 31).alloc (.cells #[.int .i64 d0, .int .i64 d1, .int .i64 d2, .int .i64 d3] 39)).alloc (.cells #[.int .i64 0, .int .i64 0] 28)
    simpa using h
  have o1 : Ob w0 (w.heap.size + 1) 39 #[.int .i64 d0, .int .i64 d1, .int .i64 d2, .int .i64 d3] := by
    rw [← hw0]
    have h := (Ob.new (w.alloc (.cells #[(.slice t.r.ha t.r.hn t.r.hc), (.slice t.r.wa t.r.wn t.r.wc), (.int .i64 t.r.own), (.int .i64 t.r.feed), (.int .i64 t.r.g0), (.int .i64 t.r.g1), (.int .i64 t.r.g2), (.int .i64 t.r.lost), (.int .i64 t.first), (.slice t.da t.dn t.dc), (.int .i64 t.lo), (.int .i64 t.hi), (.slice t.ta t.tn t.tc)] 31)) #[.int .i64 d0, .int .i64 d1, .int .i64 d2, .int .i64 d3] 39).alloc (.cells #[.int .i64 0, .int .i64 0] 28)
    simpa using h
  have o2 : Ob w0 (w.heap.size + 1 + 1) 28 #[.int .i64 0, .int .i64 0] := by
    rw [← hw0]
    have h := Ob.new ((w.alloc (.cells #[(.slice t.r.ha t.r.hn t.r.hc), (.slice t.r.wa t.r.wn t.r.wc), (.int .i64 t.r.own), (.int .i64 t.r.feed), (.int .i64 t.r.g0), (.int .i64 t.r.g1), (.int .i64 t.r.g2), (.int .i64 t.r.lost), (.int .i64 t.first), (.slice t.da t.dn t.dc), (.int .i64 t.lo), (.int .i64 t.hi), (.slice t.ta t.tn t.tc)] 31)).alloc (.cells #[.int .i64 d0, .int .i64 d1, .int .i64 d2, .int .i64 d3] 39)) #[.int .i64 0, .int .i64 0] 28
    simpa using h
  have H1 := refValid_any t hs ws ds ts w0 (hR.below hb0)
  generalize (taskS t hs ws ds ts).2.2 = c3 at H1 he ⊢
  have G1 := Lib.hid (show Calls Try.prog 70 #[.agg #[(.slice t.r.ha t.r.hn t.r.hc), (.slice t.r.wa t.r.wn t.r.wc), (.int .i64 t.r.own), (.int .i64 t.r.feed), (.int .i64 t.r.g0), (.int .i64 t.r.g1), (.int .i64 t.r.g2), (.int .i64 t.r.lost), (.int .i64 t.first), (.slice t.da t.dn t.dc), (.int .i64 t.lo), (.int .i64 t.hi), (.slice t.ta t.tn t.tc)]] w0 fun e w' => e = .returned (.int .i64 c3) ∧ Below w0.heap.size w0 w' from H1)
  have hq : (c3 != 0) = true := by simpa using he
  have hq2 : (c3 == 0) = false := by simpa using he
  have hq3 : ¬ c3 = 0 := he
  obtain ⟨q0, q1, q2, q3, q4, q5, q6, q7, q8, q9, q10, q11, q12⟩ := o0.thirteen
  obtain ⟨y0, y1, y2, y3⟩ := o1.day
  have W0 := Lib.hid hw0
  have B0 := Lib.hid hb0
  have O0 := Lib.hid (And.intro o0 (And.intro o1 o2))
  clear hw0 hb0 o0 o1 o2 H1 hR
  clear he
  go_enter Try.func35, Try.ntmps35
  go_wp2_with fail
  rw [W0.out]
  refine G1.out.mono ?_
  rintro e w1 ⟨rfl, hb1⟩
  have B1 := Lib.hid (B_trans B0.out hb1)
  have O1 := Lib.hid (And.intro (O0.out.1.below hb1) (And.intro (O0.out.2.1.below hb1) (O0.out.2.2.below hb1)))
  clear q0 q1 q2 q3 q4 q5 q6 q7 q8 q9 q10 q11 q12 y0 y1 y2 y3 hb1
  have B3 := Lib.hid B1.out
  have S3 := Lib.hid O1.out.2.2
  obtain ⟨v0, v1, f0, f1⟩ := S3.out.span
  go_wp2
  refine bodyPost_ret (v := .tuple #[.agg #[.int .i64 0, .int .i64 0], .int .i64 c3]) (by simp [results, Try.results35, go_sem, v0, v1]) rfl ⟨rfl, ?_⟩
  exact (B3.out.setCell (by simp only; omega) _).setCell (by simp only; omega) _

set_option maxRecDepth 100000 in
set_option maxHeartbeats 4000000 in
theorem refMoved_out (t : TkA) (hs ws : List T2) (ds : List T4) (ts : List T3) (x d0 d1 d2 d3 : Int) (w : World) (hR : TkR w t hs ws ds ts) (he : (taskS t hs ws ds ts).2.2 = 0) (hx : inB x t.first (t.first + (t.dn : Int) - 1) = false) :
    Calls Try.prog 35 #[.agg #[(.slice t.r.ha t.r.hn t.r.hc), (.slice t.r.wa t.r.wn t.r.wc), (.int .i64 t.r.own), (.int .i64 t.r.feed), (.int .i64 t.r.g0), (.int .i64 t.r.g1), (.int .i64 t.r.g2), (.int .i64 t.r.lost), (.int .i64 t.first), (.slice t.da t.dn t.dc), (.int .i64 t.lo), (.int .i64 t.hi), (.slice t.ta t.tn t.tc)], .int .i64 x, .agg #[.int .i64 d0, .int .i64 d1, .int .i64 d2, .int .i64 d3]] w fun e w' => e = .returned (.tuple #[.agg #[.int .i64 0, .int .i64 0], .int .i64 7]) ∧ Below w.heap.size w w' := by
  obtain ⟨w0, hw0⟩ : ∃ w0, ((w.alloc (.cells #[(.slice t.r.ha t.r.hn t.r.hc), (.slice t.r.wa t.r.wn t.r.wc), (.int .i64 t.r.own), (.int .i64 t.r.feed), (.int .i64 t.r.g0), (.int .i64 t.r.g1), (.int .i64 t.r.g2), (.int .i64 t.r.lost), (.int .i64 t.first), (.slice t.da t.dn t.dc), (.int .i64 t.lo), (.int .i64 t.hi), (.slice t.ta t.tn t.tc)] 31)).alloc (.cells #[.int .i64 d0, .int .i64 d1, .int .i64 d2, .int .i64 d3] 39)).alloc (.cells #[.int .i64 0, .int .i64 0] 28) = w0 := ⟨_, rfl⟩
  have hb0 : Below w.heap.size w w0 := by rw [← hw0]; exact B_alloc (B_alloc (B_alloc (Below.refl _ _) _) _) _
  have o0 : Ob w0 (w.heap.size) 31 #[(.slice t.r.ha t.r.hn t.r.hc), (.slice t.r.wa t.r.wn t.r.wc), (.int .i64 t.r.own), (.int .i64 t.r.feed), (.int .i64 t.r.g0), (.int .i64 t.r.g1), (.int .i64 t.r.g2), (.int .i64 t.r.lost), (.int .i64 t.first), (.slice t.da t.dn t.dc), (.int .i64 t.lo), (.int .i64 t.hi), (.slice t.ta t.tn t.tc)] := by
    rw [← hw0]
    have h := ((Ob.new (w) #[(.slice t.r.ha t.r.hn t.r.hc), (.slice t.r.wa t.r.wn t.r.wc), (.int .i64 t.r.own), (.int .i64 t.r.feed), (.int .i64 t.r.g0), (.int .i64 t.r.g1), (.int .i64 t.r.g2), (.int .i64 t.r.lost), (.int .i64 t.first), (.slice t.da t.dn t.dc), (.int .i64 t.lo), (.int .i64 t.hi), (.slice t.ta t.tn t.tc)] 31).alloc (.cells #[.int .i64 d0, .int .i64 d1, .int .i64 d2, .int .i64 d3] 39)).alloc (.cells #[.int .i64 0, .int .i64 0] 28)
    simpa using h
  have o1 : Ob w0 (w.heap.size + 1) 39 #[.int .i64 d0, .int .i64 d1, .int .i64 d2, .int .i64 d3] := by
    rw [← hw0]
    have h := (Ob.new (w.alloc (.cells #[(.slice t.r.ha t.r.hn t.r.hc), (.slice t.r.wa t.r.wn t.r.wc), (.int .i64 t.r.own), (.int .i64 t.r.feed), (.int .i64 t.r.g0), (.int .i64 t.r.g1), (.int .i64 t.r.g2), (.int .i64 t.r.lost), (.int .i64 t.first), (.slice t.da t.dn t.dc), (.int .i64 t.lo), (.int .i64 t.hi), (.slice t.ta t.tn t.tc)] 31)) #[.int .i64 d0, .int .i64 d1, .int .i64 d2, .int .i64 d3] 39).alloc (.cells #[.int .i64 0, .int .i64 0] 28)
    simpa using h
  have o2 : Ob w0 (w.heap.size + 1 + 1) 28 #[.int .i64 0, .int .i64 0] := by
    rw [← hw0]
    have h := Ob.new ((w.alloc (.cells #[(.slice t.r.ha t.r.hn t.r.hc), (.slice t.r.wa t.r.wn t.r.wc), (.int .i64 t.r.own), (.int .i64 t.r.feed), (.int .i64 t.r.g0), (.int .i64 t.r.g1), (.int .i64 t.r.g2), (.int .i64 t.r.lost), (.int .i64 t.first), (.slice t.da t.dn t.dc), (.int .i64 t.lo), (.int .i64 t.hi), (.slice t.ta t.tn t.tc)] 31)).alloc (.cells #[.int .i64 d0, .int .i64 d1, .int .i64 d2, .int .i64 d3] 39)) #[.int .i64 0, .int .i64 0] 28
    simpa using h
  have ok : TaskOK t hs ws ds ts := TaskOK.of he
  have hdn : t.dn ≤ 400 := ok.dn
  have hf1 : 0 ≤ t.first := ok.first.1
  have hf2 : t.first ≤ 80000 - (t.dn : Int) := ok.first.2
  have u1 : IntKind.i64.wrap (t.first + (t.dn : Int)) = t.first + (t.dn : Int) := IntWalk.i64_in _ (by omega)
  have u2 : IntKind.i64.wrap (t.first + (t.dn : Int) - 1) = t.first + (t.dn : Int) - 1 := IntWalk.i64_in _ (by omega)
  have H1 := refValid_any t hs ws ds ts w0 (hR.below hb0)
  rw [he] at H1
  have G1 := Lib.hid (show Calls Try.prog 70 #[.agg #[(.slice t.r.ha t.r.hn t.r.hc), (.slice t.r.wa t.r.wn t.r.wc), (.int .i64 t.r.own), (.int .i64 t.r.feed), (.int .i64 t.r.g0), (.int .i64 t.r.g1), (.int .i64 t.r.g2), (.int .i64 t.r.lost), (.int .i64 t.first), (.slice t.da t.dn t.dc), (.int .i64 t.lo), (.int .i64 t.hi), (.slice t.ta t.tn t.tc)]] w0 fun e w' => e = .returned (.int .i64 0) ∧ Below w0.heap.size w0 w' from H1)
  have G2 := Lib.hid (show ∀ W, Calls Try.prog 52 #[.int .i64 x, .int .i64 t.first, .int .i64 (t.first + (t.dn : Int) - 1)] W fun e w' => e = .returned (.bool false) ∧ W = w' from fun W => by
    have h := in_any x t.first (t.first + (t.dn : Int) - 1) W
    rw [hx] at h
    exact h)
  obtain ⟨q0, q1, q2, q3, q4, q5, q6, q7, q8, q9, q10, q11, q12⟩ := o0.thirteen
  obtain ⟨y0, y1, y2, y3⟩ := o1.day
  have W0 := Lib.hid hw0
  have B0 := Lib.hid hb0
  have O0 := Lib.hid (And.intro o0 (And.intro o1 o2))
  clear hw0 hb0 o0 o1 o2 H1 hR he hx ok hdn hf1 hf2
  go_enter Try.func35, Try.ntmps35
  go_wp2_with fail
  rw [W0.out]
  refine G1.out.mono ?_
  rintro e w1 ⟨rfl, hb1⟩
  have B1 := Lib.hid (B_trans B0.out hb1)
  have O1 := Lib.hid (And.intro (O0.out.1.below hb1) (And.intro (O0.out.2.1.below hb1) (O0.out.2.2.below hb1)))
  clear q0 q1 q2 q3 q4 q5 q6 q7 q8 q9 q10 q11 q12 y0 y1 y2 y3 hb1
  obtain ⟨q0, q1, q2, q3, q4, q5, q6, q7, q8, q9, q10, q11, q12⟩ := O1.out.1.thirteen
  obtain ⟨y0, y1, y2, y3⟩ := O1.out.2.1.day
  go_wp2_with fail
  refine (G2.out _).mono ?_
  rintro e w2 ⟨rfl, rfl⟩
  have B3 := Lib.hid B1.out
  have S3 := Lib.hid O1.out.2.2
  clear q0 q1 q2 q3 q4 q5 q6 q7 q8 q9 q10 q11 q12 y0 y1 y2 y3
  obtain ⟨v0, v1, f0, f1⟩ := S3.out.span
  go_wp2
  refine bodyPost_ret (v := .tuple #[.agg #[.int .i64 0, .int .i64 0], .int .i64 7]) (by simp [results, Try.results35, go_sem, v0, v1]) rfl ⟨rfl, ?_⟩
  exact (B3.out.setCell (by simp only; omega) _).setCell (by simp only; omega) _

set_option maxRecDepth 100000 in
set_option maxHeartbeats 4000000 in
theorem refMoved_day (t : TkA) (hs ws : List T2) (ds : List T4) (ts : List T3) (x d0 d1 d2 d3 : Int) (w : World) (hR : TkR w t hs ws ds ts) (he : (taskS t hs ws ds ts).2.2 = 0) (hx : inB x t.first (t.first + (t.dn : Int) - 1) = true) (hd : dayE (d0, d1, d2, d3) ≠ 0) :
    Calls Try.prog 35 #[.agg #[(.slice t.r.ha t.r.hn t.r.hc), (.slice t.r.wa t.r.wn t.r.wc), (.int .i64 t.r.own), (.int .i64 t.r.feed), (.int .i64 t.r.g0), (.int .i64 t.r.g1), (.int .i64 t.r.g2), (.int .i64 t.r.lost), (.int .i64 t.first), (.slice t.da t.dn t.dc), (.int .i64 t.lo), (.int .i64 t.hi), (.slice t.ta t.tn t.tc)], .int .i64 x, .agg #[.int .i64 d0, .int .i64 d1, .int .i64 d2, .int .i64 d3]] w fun e w' => e = .returned (.tuple #[.agg #[.int .i64 0, .int .i64 0], .int .i64 (dayE (d0, d1, d2, d3))]) ∧ Below w.heap.size w w' := by
  obtain ⟨w0, hw0⟩ : ∃ w0, ((w.alloc (.cells #[(.slice t.r.ha t.r.hn t.r.hc), (.slice t.r.wa t.r.wn t.r.wc), (.int .i64 t.r.own), (.int .i64 t.r.feed), (.int .i64 t.r.g0), (.int .i64 t.r.g1), (.int .i64 t.r.g2), (.int .i64 t.r.lost), (.int .i64 t.first), (.slice t.da t.dn t.dc), (.int .i64 t.lo), (.int .i64 t.hi), (.slice t.ta t.tn t.tc)] 31)).alloc (.cells #[.int .i64 d0, .int .i64 d1, .int .i64 d2, .int .i64 d3] 39)).alloc (.cells #[.int .i64 0, .int .i64 0] 28) = w0 := ⟨_, rfl⟩
  have hb0 : Below w.heap.size w w0 := by rw [← hw0]; exact B_alloc (B_alloc (B_alloc (Below.refl _ _) _) _) _
  have o0 : Ob w0 (w.heap.size) 31 #[(.slice t.r.ha t.r.hn t.r.hc), (.slice t.r.wa t.r.wn t.r.wc), (.int .i64 t.r.own), (.int .i64 t.r.feed), (.int .i64 t.r.g0), (.int .i64 t.r.g1), (.int .i64 t.r.g2), (.int .i64 t.r.lost), (.int .i64 t.first), (.slice t.da t.dn t.dc), (.int .i64 t.lo), (.int .i64 t.hi), (.slice t.ta t.tn t.tc)] := by
    rw [← hw0]
    have h := ((Ob.new (w) #[(.slice t.r.ha t.r.hn t.r.hc), (.slice t.r.wa t.r.wn t.r.wc), (.int .i64 t.r.own), (.int .i64 t.r.feed), (.int .i64 t.r.g0), (.int .i64 t.r.g1), (.int .i64 t.r.g2), (.int .i64 t.r.lost), (.int .i64 t.first), (.slice t.da t.dn t.dc), (.int .i64 t.lo), (.int .i64 t.hi), (.slice t.ta t.tn t.tc)] 31).alloc (.cells #[.int .i64 d0, .int .i64 d1, .int .i64 d2, .int .i64 d3] 39)).alloc (.cells #[.int .i64 0, .int .i64 0] 28)
    simpa using h
  have o1 : Ob w0 (w.heap.size + 1) 39 #[.int .i64 d0, .int .i64 d1, .int .i64 d2, .int .i64 d3] := by
    rw [← hw0]
    have h := (Ob.new (w.alloc (.cells #[(.slice t.r.ha t.r.hn t.r.hc), (.slice t.r.wa t.r.wn t.r.wc), (.int .i64 t.r.own), (.int .i64 t.r.feed), (.int .i64 t.r.g0), (.int .i64 t.r.g1), (.int .i64 t.r.g2), (.int .i64 t.r.lost), (.int .i64 t.first), (.slice t.da t.dn t.dc), (.int .i64 t.lo), (.int .i64 t.hi), (.slice t.ta t.tn t.tc)] 31)) #[.int .i64 d0, .int .i64 d1, .int .i64 d2, .int .i64 d3] 39).alloc (.cells #[.int .i64 0, .int .i64 0] 28)
    simpa using h
  have o2 : Ob w0 (w.heap.size + 1 + 1) 28 #[.int .i64 0, .int .i64 0] := by
    rw [← hw0]
    have h := Ob.new ((w.alloc (.cells #[(.slice t.r.ha t.r.hn t.r.hc), (.slice t.r.wa t.r.wn t.r.wc), (.int .i64 t.r.own), (.int .i64 t.r.feed), (.int .i64 t.r.g0), (.int .i64 t.r.g1), (.int .i64 t.r.g2), (.int .i64 t.r.lost), (.int .i64 t.first), (.slice t.da t.dn t.dc), (.int .i64 t.lo), (.int .i64 t.hi), (.slice t.ta t.tn t.tc)] 31)).alloc (.cells #[.int .i64 d0, .int .i64 d1, .int .i64 d2, .int .i64 d3] 39)) #[.int .i64 0, .int .i64 0] 28
    simpa using h
  have ok : TaskOK t hs ws ds ts := TaskOK.of he
  have hdn : t.dn ≤ 400 := ok.dn
  have hf1 : 0 ≤ t.first := ok.first.1
  have hf2 : t.first ≤ 80000 - (t.dn : Int) := ok.first.2
  have u1 : IntKind.i64.wrap (t.first + (t.dn : Int)) = t.first + (t.dn : Int) := IntWalk.i64_in _ (by omega)
  have u2 : IntKind.i64.wrap (t.first + (t.dn : Int) - 1) = t.first + (t.dn : Int) - 1 := IntWalk.i64_in _ (by omega)
  have H1 := refValid_any t hs ws ds ts w0 (hR.below hb0)
  rw [he] at H1
  have G1 := Lib.hid (show Calls Try.prog 70 #[.agg #[(.slice t.r.ha t.r.hn t.r.hc), (.slice t.r.wa t.r.wn t.r.wc), (.int .i64 t.r.own), (.int .i64 t.r.feed), (.int .i64 t.r.g0), (.int .i64 t.r.g1), (.int .i64 t.r.g2), (.int .i64 t.r.lost), (.int .i64 t.first), (.slice t.da t.dn t.dc), (.int .i64 t.lo), (.int .i64 t.hi), (.slice t.ta t.tn t.tc)]] w0 fun e w' => e = .returned (.int .i64 0) ∧ Below w0.heap.size w0 w' from H1)
  have G2 := Lib.hid (show ∀ W, Calls Try.prog 52 #[.int .i64 x, .int .i64 t.first, .int .i64 (t.first + (t.dn : Int) - 1)] W fun e w' => e = .returned (.bool true) ∧ W = w' from fun W => by
    have h := in_any x t.first (t.first + (t.dn : Int) - 1) W
    rw [hx] at h
    exact h)
  have G3' := fun W => refClimate_any d0 d1 d2 d3 W
  generalize dayE (d0, d1, d2, d3) = c4 at G3' hd ⊢
  have G3 := Lib.hid (show ∀ W, Calls Try.prog 59 #[.agg #[.int .i64 d0, .int .i64 d1, .int .i64 d2, .int .i64 d3]] W fun e w' => e = .returned (.int .i64 c4) ∧ Below W.heap.size W w' from G3')
  have hq : (c4 != 0) = true := by simpa using hd
  have hq3 : ¬ c4 = 0 := hd
  obtain ⟨q0, q1, q2, q3, q4, q5, q6, q7, q8, q9, q10, q11, q12⟩ := o0.thirteen
  obtain ⟨y0, y1, y2, y3⟩ := o1.day
  have W0 := Lib.hid hw0
  have B0 := Lib.hid hb0
  have O0 := Lib.hid (And.intro o0 (And.intro o1 o2))
  clear hw0 hb0 o0 o1 o2 H1 hR he hx ok hdn hf1 hf2
  clear G3' hd
  go_enter Try.func35, Try.ntmps35
  go_wp2_with fail
  rw [W0.out]
  refine G1.out.mono ?_
  rintro e w1 ⟨rfl, hb1⟩
  have B1 := Lib.hid (B_trans B0.out hb1)
  have O1 := Lib.hid (And.intro (O0.out.1.below hb1) (And.intro (O0.out.2.1.below hb1) (O0.out.2.2.below hb1)))
  clear q0 q1 q2 q3 q4 q5 q6 q7 q8 q9 q10 q11 q12 y0 y1 y2 y3 hb1
  obtain ⟨q0, q1, q2, q3, q4, q5, q6, q7, q8, q9, q10, q11, q12⟩ := O1.out.1.thirteen
  obtain ⟨y0, y1, y2, y3⟩ := O1.out.2.1.day
  go_wp2_with fail
  refine (G2.out _).mono ?_
  rintro e w2 ⟨rfl, rfl⟩
  go_wp2_with fail
  refine (G3.out _).mono ?_
  rintro e w3 ⟨rfl, hb3⟩
  have B3 := Lib.hid (B_trans B1.out hb3)
  have S3 := Lib.hid (O1.out.2.2.below hb3)
  clear q0 q1 q2 q3 q4 q5 q6 q7 q8 q9 q10 q11 q12 y0 y1 y2 y3 hb3
  obtain ⟨v0, v1, f0, f1⟩ := S3.out.span
  go_wp2
  refine bodyPost_ret (v := .tuple #[.agg #[.int .i64 0, .int .i64 0], .int .i64 c4]) (by simp [results, Try.results35, go_sem, v0, v1]) rfl ⟨rfl, ?_⟩
  exact (B3.out.setCell (by simp only; omega) _).setCell (by simp only; omega) _

end Go.Proofs.Ytanjkhclhcnnaaa

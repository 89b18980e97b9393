/- The law DecayChecks. -/
import Derived.Test.YtanjkhclhcnnaaaMH
import Derived.Test.YtanjkhclhcnnaaaMB
namespace Go.Proofs.Ytanjkhclhcnnaaa
open Go.RowKit Go.Shelf

theorem Ob.rule {W : World} {B : Nat} {T : TypeId} {r : RuA} (h : Ob W B T r.cs) : W.cell? ⟨B, 0, none⟩ = some (.slice r.ha r.hn r.hc) ∧ W.cell? ⟨B, 1, none⟩ = some (.slice r.wa r.wn r.wc) ∧ W.cell? ⟨B, 2, none⟩ = some (.int .i64 r.own) ∧ W.cell? ⟨B, 3, none⟩ = some (.int .i64 r.feed) ∧ W.cell? ⟨B, 4, none⟩ = some (.int .i64 r.g0) ∧ W.cell? ⟨B, 5, none⟩ = some (.int .i64 r.g1) ∧ W.cell? ⟨B, 6, none⟩ = some (.int .i64 r.g2) ∧ W.cell? ⟨B, 7, none⟩ = some (.int .i64 r.lost) :=
  ⟨h.cell 0, h.cell 1, h.cell 2, h.cell 3, h.cell 4, h.cell 5, h.cell 6, h.cell 7⟩
theorem Ob.task {W : World} {B : Nat} {T : TypeId} {t : TkA} (h : Ob W B T t.cs) : W.cell? ⟨B, 0, none⟩ = some (.slice t.r.ha t.r.hn t.r.hc) ∧ W.cell? ⟨B, 1, none⟩ = some (.slice t.r.wa t.r.wn t.r.wc) ∧ W.cell? ⟨B, 2, none⟩ = some (.int .i64 t.r.own) ∧ W.cell? ⟨B, 3, none⟩ = some (.int .i64 t.r.feed) ∧ W.cell? ⟨B, 4, none⟩ = some (.int .i64 t.r.g0) ∧ W.cell? ⟨B, 5, none⟩ = some (.int .i64 t.r.g1) ∧ W.cell? ⟨B, 6, none⟩ = some (.int .i64 t.r.g2) ∧ W.cell? ⟨B, 7, none⟩ = some (.int .i64 t.r.lost) ∧
    W.cell? ⟨B, 8, none⟩ = some (.int .i64 t.first) ∧ W.cell? ⟨B, 9, none⟩ = some (.slice t.da t.dn t.dc) ∧ W.cell? ⟨B, 10, none⟩ = some (.int .i64 t.lo) ∧ W.cell? ⟨B, 11, none⟩ = some (.int .i64 t.hi) ∧ W.cell? ⟨B, 12, none⟩ = some (.slice t.ta t.tn t.tc) :=
  ⟨h.cell 0, h.cell 1, h.cell 2, h.cell 3, h.cell 4, h.cell 5, h.cell 6, h.cell 7, h.cell 8, h.cell 9, h.cell 10, h.cell 11, h.cell 12⟩

set_option maxRecDepth 100000 in
set_option maxHeartbeats 8000000 in
theorem checksLaw_any (r : RuA) (hs ws : List T2) (t : TkA) (hs' ws' : List T2) (ds : List T4) (ts : List T3) (w : World) (hR : RuR w r hs ws) (hT : TkR w t hs' ws' ds ts) :
    Calls Try.prog 3 #[.agg r.cs, .agg t.cs] w fun e w' => e = .returned (.bool true) ∧ Below w.heap.size w w' := by
  obtain ⟨w0, hw0⟩ : ∃ w0, (w.alloc (.cells r.cs 25)).alloc (.cells t.cs 31) = w0 := ⟨_, rfl⟩
  have hb0 : Below w.heap.size w w0 := by rw [← hw0]; exact B_alloc (B_alloc (Below.refl _ _) _) _
  have hO : Ob w0 w.heap.size 25 r.cs := by rw [← hw0]; exact (Ob.new w _ _).alloc _
  have hP : Ob w0 (w.heap.size + 1) 31 t.cs := by rw [← hw0]; simpa using Ob.new (w.alloc (.cells r.cs 25)) t.cs 31
  have H1 := Lib.hid (fun W (h : Below w.heap.size w W) => check_any r hs ws W (hR.below h))
  have H2 := Lib.hid (fun W (h : Below w.heap.size w W) => refCheck_any r hs ws W (hR.below h))
  have H3 := Lib.hid (fun W (h : Below w.heap.size w W) => checkTask_any t hs' ws' ds ts W (hT.below h))
  have H4 := Lib.hid (fun W (h : Below w.heap.size w W) => refCheckTask_any t hs' ws' ds ts W (hT.below h))
  have HA := Lib.hid awake_any
  generalize checkS r hs ws = c at H1 H2
  obtain ⟨c1, c2, c3⟩ := c
  generalize taskS t hs' ws' ds ts = k at H3 H4
  obtain ⟨k1, k2, k3⟩ := k
  simp only [tri] at H1 H2 H3 H4
  obtain ⟨q0, q1, q2, q3, q4, q5, q6, q7⟩ := hO.rule
  replace hb0 := Lib.hid hb0
  replace hO := Lib.hid hO
  replace hP := Lib.hid hP
  replace hw0 := Lib.hid hw0
  clear hR hT
  go_enter Try.func3, Try.ntmps3
  go_wp2_with fail
  rw [hw0.out]
  refine (H1.out w0 hb0.out).mono ?_
  rintro e w1 ⟨rfl, hb1⟩
  have hw1 := Lib.hid (B_trans hb0.out hb1)
  obtain ⟨p0, p1, p2, p3, p4, p5, p6, p7⟩ := (hO.out.below hb1).rule
  replace hP := Lib.hid (hP.out.below hb1)
  clear q0 q1 q2 q3 q4 q5 q6 q7 hO hb1 hw0 hb0
  go_wp2_with fail
  refine (H2.out w1 hw1.out).mono ?_
  rintro e w2 ⟨rfl, hb2⟩
  have hw2 := Lib.hid (B_trans hw1.out hb2)
  replace hP := Lib.hid (hP.out.below hb2)
  obtain ⟨q0, q1, q2, q3, q4, q5, q6, q7, q8, q9, q10, q11, q12⟩ := hP.out.task
  clear p0 p1 p2 p3 p4 p5 p6 p7 hb2 hw1
  go_wp2_with fail
  refine (H3.out w2 hw2.out).mono ?_
  rintro e w3 ⟨rfl, hb3⟩
  have hw3 := Lib.hid (B_trans hw2.out hb3)
  obtain ⟨p0, p1, p2, p3, p4, p5, p6, p7, p8, p9, p10, p11, p12⟩ := (hP.out.below hb3).task
  clear q0 q1 q2 q3 q4 q5 q6 q7 q8 q9 q10 q11 q12 hb3 hw2
  go_wp2_with fail
  refine (H4.out w3 hw3.out).mono ?_
  rintro e w4 ⟨rfl, hb4⟩
  have hw4 := Lib.hid (B_trans hw3.out hb4)
  clear p0 p1 p2 p3 p4 p5 p6 p7 p8 p9 p10 p11 p12 hb4 hw3 hP
  go_wp2_with fail
  refine (HA.out w4).mono ?_
  rintro e w5 ⟨rfl, hb5⟩
  have hw5 := Lib.hid (B_trans hw4.out hb5)
  clear hb5 hw4
  go_wp2
  refine bodyPost_ret (v := .bool true) (by simp [results, Try.results3, go_sem]) rfl ⟨rfl, hw5.out⟩
end Go.Proofs.Ytanjkhclhcnnaaa

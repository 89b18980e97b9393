/- The law DecayLosts. -/
import Derived.Test.YtanjkhclhcnnaaaKB
namespace Go.Proofs.Ytanjkhclhcnnaaa
open Go Go.RowKit Go.Shelf

theorem lostBoth (t : TkA) (hs ws : List T2) (ds : List T4) (ts : List T3) (w : World) (hR : TkR w t hs ws ds ts) : ∃ p q c : Int,
    (∀ W, Below w.heap.size w W → Calls Try.prog 32 #[.agg #[(.slice t.r.ha t.r.hn t.r.hc), (.slice t.r.wa t.r.wn t.r.wc), (.int .i64 t.r.own), (.int .i64 t.r.feed), (.int .i64 t.r.g0), (.int .i64 t.r.g1), (.int .i64 t.r.g2), (.int .i64 t.r.lost), (.int .i64 t.first), (.slice t.da t.dn t.dc), (.int .i64 t.lo), (.int .i64 t.hi), (.slice t.ta t.tn t.tc)]] W fun e w' => e = .returned (.tuple #[.agg #[.int .i64 p, .int .i64 q], .int .i64 c]) ∧ Below W.heap.size W w') ∧
    (∀ W, Below w.heap.size w W → Calls Try.prog 33 #[.agg #[(.slice t.r.ha t.r.hn t.r.hc), (.slice t.r.wa t.r.wn t.r.wc), (.int .i64 t.r.own), (.int .i64 t.r.feed), (.int .i64 t.r.g0), (.int .i64 t.r.g1), (.int .i64 t.r.g2), (.int .i64 t.r.lost), (.int .i64 t.first), (.slice t.da t.dn t.dc), (.int .i64 t.lo), (.int .i64 t.hi), (.slice t.ta t.tn t.tc)]] W fun e w' => e = .returned (.tuple #[.agg #[.int .i64 p, .int .i64 q], .int .i64 c]) ∧ Below W.heap.size W w') := by
  by_cases he : (taskS t hs ws ds ts).2.2 = 0
  · exact ⟨_, _, _, fun W h => lost_full t hs ws ds ts W (hR.below h) he, fun W h => refLost_ok t hs ws ds ts W (hR.below h) he⟩
  · exact ⟨_, _, _, fun W h => lostD_bad t hs ws ds ts W (hR.below h) he, fun W h => refLost_bad t hs ws ds ts W (hR.below h) he⟩
theorem movedBoth (t : TkA) (hs ws : List T2) (ds : List T4) (ts : List T3) (x d0 d1 d2 d3 : Int) (w : World) (hR : TkR w t hs ws ds ts) (hcap : t.dn ≤ t.dc) : ∃ p q c : Int,
    (∀ W, Below w.heap.size w W → Calls Try.prog 34 #[.agg #[(.slice t.r.ha t.r.hn t.r.hc), (.slice t.r.wa t.r.wn t.r.wc), (.int .i64 t.r.own), (.int .i64 t.r.feed), (.int .i64 t.r.g0), (.int .i64 t.r.g1), (.int .i64 t.r.g2), (.int .i64 t.r.lost), (.int .i64 t.first), (.slice t.da t.dn t.dc), (.int .i64 t.lo), (.int .i64 t.hi), (.slice t.ta t.tn t.tc)], .int .i64 x, .agg #[.int .i64 d0, .int .i64 d1, .int .i64 d2, .int .i64 d3]] W fun e w' => e = .returned (.tuple #[.agg #[.int .i64 p, .int .i64 q], .int .i64 c]) ∧ Below W.heap.size W w') ∧
    (∀ W, Below w.heap.size w W → Calls Try.prog 35 #[.agg #[(.slice t.r.ha t.r.hn t.r.hc), (.slice t.r.wa t.r.wn t.r.wc), (.int .i64 t.r.own), (.int .i64 t.r.feed), (.int .i64 t.r.g0), (.int .i64 t.r.g1), (.int .i64 t.r.g2), (.int .i64 t.r.lost), (.int .i64 t.first), (.slice t.da t.dn t.dc), (.int .i64 t.lo), (.int .i64 t.hi), (.slice t.ta t.tn t.tc)], .int .i64 x, .agg #[.int .i64 d0, .int .i64 d1, .int .i64 d2, .int .i64 d3]] W fun e w' => e = .returned (.tuple #[.agg #[.int .i64 p, .int .i64 q], .int .i64 c]) ∧ Below W.heap.size W w') := by
  by_cases he : (taskS t hs ws ds ts).2.2 = 0
  · cases hx : inB x t.first (t.first + (t.dn : Int) - 1) with
    | false => exact ⟨_, _, _, fun W h => moved_out t hs ws ds ts x d0 d1 d2 d3 W (hR.below h) he hx, fun W h => refMoved_out t hs ws ds ts x d0 d1 d2 d3 W (hR.below h) he hx⟩
    | true =>
      by_cases hd : dayE (d0, d1, d2, d3) = 0
      · have hb := inB_iff.1 hx
        obtain ⟨k, hk⟩ : ∃ k : Nat, x = t.first + (k : Int) := ⟨(x - t.first).toNat, by omega⟩
        exact ⟨_, _, _, fun W h => moved_any t hs ws ds ts x k d0 d1 d2 d3 W (hR.below h) hcap he (by omega) hk hd, fun W h => refMoved_any t hs ws ds ts x k d0 d1 d2 d3 W (hR.below h) he (by omega) hk hd⟩
      · exact ⟨_, _, _, fun W h => moved_day t hs ws ds ts x d0 d1 d2 d3 W (hR.below h) he hx hd, fun W h => refMoved_day t hs ws ds ts x d0 d1 d2 d3 W (hR.below h) he hx hd⟩
  · exact ⟨_, _, _, fun W h => moved_bad t hs ws ds ts x d0 d1 d2 d3 W (hR.below h) he, fun W h => refMoved_bad t hs ws ds ts x d0 d1 d2 d3 W (hR.below h) he⟩

set_option maxRecDepth 100000 in
set_option maxHeartbeats 8000000 in
theorem lostsLaw_any (t : TkA) (hs ws : List T2) (ds : List T4) (ts : List T3) (x d0 d1 d2 d3 : Int) (w : World) (hR : TkR w t hs ws ds ts) (hcap : t.dn ≤ t.dc) :
    Calls Try.prog 7 #[.agg #[(.slice t.r.ha t.r.hn t.r.hc), (.slice t.r.wa t.r.wn t.r.wc), (.int .i64 t.r.own), (.int .i64 t.r.feed), (.int .i64 t.r.g0), (.int .i64 t.r.g1), (.int .i64 t.r.g2), (.int .i64 t.r.lost), (.int .i64 t.first), (.slice t.da t.dn t.dc), (.int .i64 t.lo), (.int .i64 t.hi), (.slice t.ta t.tn t.tc)], .int .i64 x, .agg #[.int .i64 d0, .int .i64 d1, .int .i64 d2, .int .i64 d3]] w fun e w' => e = .returned (.bool true) ∧ Below w.heap.size w w' := by
  obtain ⟨w0, hw0⟩ : ∃ w0, (w.alloc (.cells #[(.slice t.r.ha t.r.hn t.r.hc), (.slice t.r.wa t.r.wn t.r.wc), (.int .i64 t.r.own), (.int .i64 t.r.feed), (.int .i64 t.r.g0), (.int .i64 t.r.g1), (.int .i64 t.r.g2), (.int .i64 t.r.lost), (.int .i64 t.first), (.slice t.da t.dn t.dc), (.int .i64 t.lo), (.int .i64 t.hi), (.slice t.ta t.tn t.tc)] 31)).alloc (.cells #[.int .i64 d0, .int .i64 d1, .int .i64 d2, .int .i64 d3] 39) = w0 := ⟨_, rfl⟩
  have hb0 : Below w.heap.size w w0 := by rw [← hw0]; exact B_alloc (B_alloc (Below.refl _ _) _) _
  have o0 : Ob w0 (w.heap.size) 31 #[(.slice t.r.ha t.r.hn t.r.hc), (.slice t.r.wa t.r.wn t.r.wc), (.int .i64 t.r.own), (.int .i64 t.r.feed), (.int .i64 t.r.g0), (.int .i64 t.r.g1), (.int .i64 t.r.g2), (.int .i64 t.r.lost), (.int .i64 t.first), (.slice t.da t.dn t.dc), (.int .i64 t.lo), (.int .i64 t.hi), (.slice t.ta t.tn t.tc)] := by
    rw [← hw0]
    have h := (Ob.new (w) #[(.slice t.r.ha t.r.hn t.r.hc), (.slice t.r.wa t.r.wn t.r.wc), (.int .i64 t.r.own), (.int .i64 t.r.feed), (.int .i64 t.r.g0), (.int .i64 t.r.g1), (.int .i64 t.r.g2), (.int .i64 t.r.lost), (.int .i64 t.first), (.slice t.da t.dn t.dc), (.int .i64 t.lo), (.int .i64 t.hi), (.slice t.ta t.tn t.tc)] 31).alloc (.cells #[.int .i64 d0, .int .i64 d1, .int .i64 d2, .int .i64 d3] 39)
    simpa using h
  have o1 : Ob w0 (w.heap.size + 1) 39 #[.int .i64 d0, .int .i64 d1, .int .i64 d2, .int .i64 d3] := by
    rw [← hw0]
    have h := Ob.new (w.alloc (.cells #[(.slice t.r.ha t.r.hn t.r.hc), (.slice t.r.wa t.r.wn t.r.wc), (.int .i64 t.r.own), (.int .i64 t.r.feed), (.int .i64 t.r.g0), (.int .i64 t.r.g1), (.int .i64 t.r.g2), (.int .i64 t.r.lost), (.int .i64 t.first), (.slice t.da t.dn t.dc), (.int .i64 t.lo), (.int .i64 t.hi), (.slice t.ta t.tn t.tc)] 31)) #[.int .i64 d0, .int .i64 d1, .int .i64 d2, .int .i64 d3] 39
    simpa using h
  obtain ⟨p1, p2, pe, L1, L2⟩ := lostBoth t hs ws ds ts w hR
  obtain ⟨m1, m2, me, M1, M2⟩ := movedBoth t hs ws ds ts x d0 d1 d2 d3 w hR hcap
  have H1 := Lib.hid L1
  have H2 := Lib.hid L2
  have H3 := Lib.hid M1
  have H4 := Lib.hid M2
  have HA := Lib.hid awake_any
  have S0 := Lib.hid (And.intro o0 (And.intro o1 hb0))
  have step : ∀ (W W1 : World), Below W.heap.size W W1 → (Ob W w.heap.size 31 #[(.slice t.r.ha t.r.hn t.r.hc), (.slice t.r.wa t.r.wn t.r.wc), (.int .i64 t.r.own), (.int .i64 t.r.feed), (.int .i64 t.r.g0), (.int .i64 t.r.g1), (.int .i64 t.r.g2), (.int .i64 t.r.lost), (.int .i64 t.first), (.slice t.da t.dn t.dc), (.int .i64 t.lo), (.int .i64 t.hi), (.slice t.ta t.tn t.tc)] ∧ Ob W (w.heap.size + 1) 39 #[.int .i64 d0, .int .i64 d1, .int .i64 d2, .int .i64 d3] ∧ Below w.heap.size w W) → Hid (Ob W1 w.heap.size 31 #[(.slice t.r.ha t.r.hn t.r.hc), (.slice t.r.wa t.r.wn t.r.wc), (.int .i64 t.r.own), (.int .i64 t.r.feed), (.int .i64 t.r.g0), (.int .i64 t.r.g1), (.int .i64 t.r.g2), (.int .i64 t.r.lost), (.int .i64 t.first), (.slice t.da t.dn t.dc), (.int .i64 t.lo), (.int .i64 t.hi), (.slice t.ta t.tn t.tc)] ∧ Ob W1 (w.heap.size + 1) 39 #[.int .i64 d0, .int .i64 d1, .int .i64 d2, .int .i64 d3] ∧ Below w.heap.size w W1) := fun W W1 h k => ⟨k.1.below h, k.2.1.below h, B_trans k.2.2 h⟩
  have l2 := o1.lt
  obtain ⟨q0, q1, q2, q3, q4, q5, q6, q7, q8, q9, q10, q11, q12⟩ := o0.thirteen
  obtain ⟨y0, y1, y2, y3⟩ := o1.day
  replace hw0 := Lib.hid hw0
  replace step := Lib.hid step
  clear o0 o1 hb0 hR hcap L1 L2 M1 M2
  go_enter Try.func7, Try.ntmps7
  go_wp2_with fail
  rw [hw0.out]
  refine (H1.out w0 S0.out.2.2).mono ?_
  rintro e w1 ⟨rfl, hb1⟩
  have hbA := B_alloc hb1 (.cells #[.int .i64 p1, .int .i64 p2] 28)
  have oA := Lib.hid (Ob.new w1 #[.int .i64 p1, .int .i64 p2] 28)
  have S1 := step.out _ _ hbA S0.out
  have z1 := hb1.size
  clear q0 q1 q2 q3 q4 q5 q6 q7 q8 q9 q10 q11 q12 y0 y1 y2 y3 hbA hb1 S0
  obtain ⟨q0, q1, q2, q3, q4, q5, q6, q7, q8, q9, q10, q11, q12⟩ := S1.out.1.thirteen
  obtain ⟨y0, y1, y2, y3⟩ := S1.out.2.1.day
  go_wp2_with fail
  refine (H2.out _ S1.out.2.2).mono ?_
  rintro e w2 ⟨rfl, hb2⟩
  have hbA := B_alloc hb2 (.cells #[.int .i64 p1, .int .i64 p2] 28)
  have oB := Lib.hid (Ob.new w2 #[.int .i64 p1, .int .i64 p2] 28)
  replace oA := Lib.hid (oA.out.below hbA)
  have S2 := step.out _ _ hbA S1.out
  have z2 := hb2.size
  clear q0 q1 q2 q3 q4 q5 q6 q7 q8 q9 q10 q11 q12 y0 y1 y2 y3 hbA hb2 S1
  obtain ⟨q0, q1, q2, q3, q4, q5, q6, q7, q8, q9, q10, q11, q12⟩ := S2.out.1.thirteen
  obtain ⟨y0, y1, y2, y3⟩ := S2.out.2.1.day
  obtain ⟨a0, a1, a2, a3⟩ := oA.out.span
  obtain ⟨b0, b1, b2, b3⟩ := oB.out.span
  rw [World.size_alloc] at z2
  have zAB : w1.heap.size < w2.heap.size := by omega
  go_wp2_with fail
  refine (H3.out _ S2.out.2.2).mono ?_
  rintro e w3 ⟨rfl, hb3⟩
  have S3a := step.out _ _ hb3 S2.out
  have oA3 := oA.out.below hb3
  have oB3 := oB.out.below hb3
  have zB := oB.out.lt
  have z3 := hb3.size
  obtain ⟨w4, hw4⟩ : ∃ w4, (w3.setCell ⟨w1.heap.size, 0, none⟩ (.int .i64 m1)).setCell ⟨w1.heap.size, 1, none⟩ (.int .i64 m2) = w4 := ⟨_, rfl⟩
  have hl1 : w.heap.size + 1 < w1.heap.size := by omega
  have S4 : Hid (Ob w4 w.heap.size 31 #[(.slice t.r.ha t.r.hn t.r.hc), (.slice t.r.wa t.r.wn t.r.wc), (.int .i64 t.r.own), (.int .i64 t.r.feed), (.int .i64 t.r.g0), (.int .i64 t.r.g1), (.int .i64 t.r.g2), (.int .i64 t.r.lost), (.int .i64 t.first), (.slice t.da t.dn t.dc), (.int .i64 t.lo), (.int .i64 t.hi), (.slice t.ta t.tn t.tc)] ∧ Ob w4 (w.heap.size + 1) 39 #[.int .i64 d0, .int .i64 d1, .int .i64 d2, .int .i64 d3] ∧ Below w.heap.size w w4) := by
    rw [← hw4]
    exact ⟨(S3a.out.1.other (by simp only; omega) _).other (by simp only; omega) _, (S3a.out.2.1.other (by simp only; omega) _).other (by simp only; omega) _, (S3a.out.2.2.setCell (by simp only; omega) _).setCell (by simp only; omega) _⟩
  have oA4 : Hid (Ob w4 w1.heap.size 28 #[.int .i64 m1, .int .i64 m2]) := by
    rw [← hw4]
    exact (show Ob ((w3.setCell ⟨w1.heap.size, 0, none⟩ (.int .i64 m1)).setCell ⟨w1.heap.size, 1, none⟩ (.int .i64 m2)) w1.heap.size 28 #[.int .i64 m1, .int .i64 m2] by simpa using (oA3.set 0 (.int .i64 m1)).set 1 (.int .i64 m2))
  have oB4 : Hid (Ob w4 w2.heap.size 28 #[.int .i64 p1, .int .i64 p2]) := by
    rw [← hw4]
    exact (oB3.other (by simp only; omega) _).other (by simp only; omega) _
  have W4 := Lib.hid hw4
  clear q0 q1 q2 q3 q4 q5 q6 q7 q8 q9 q10 q11 q12 y0 y1 y2 y3 a0 a1 a2 a3 b0 b1 b2 b3
  obtain ⟨a0, a1, a2, a3⟩ := oA3.span
  clear hw4 oA oB S2 S3a oB3 hb3
  go_upto_region 6 with fail
  rw [W4.out]
  clear a0 a1 a2 a3 oA3
  obtain ⟨q0, q1, q2, q3, q4, q5, q6, q7, q8, q9, q10, q11, q12⟩ := S4.out.1.thirteen
  obtain ⟨y0, y1, y2, y3⟩ := S4.out.2.1.day
  go_wp2_with fail
  refine (H4.out _ S4.out.2.2).mono ?_
  rintro e w5 ⟨rfl, hb5⟩
  have oA5 := oA4.out.below hb5
  have oB5 := oB4.out.below hb5
  have S5a := step.out _ _ hb5 S4.out
  have z5 := hb5.size
  obtain ⟨w6, hw6⟩ : ∃ w6, (w5.setCell ⟨w2.heap.size, 0, none⟩ (.int .i64 m1)).setCell ⟨w2.heap.size, 1, none⟩ (.int .i64 m2) = w6 := ⟨_, rfl⟩
  have B6 : Hid (Below w.heap.size w w6) := by rw [← hw6]; exact (S5a.out.2.2.setCell (by simp only; omega) _).setCell (by simp only; omega) _
  have oA6 : Hid (Ob w6 w1.heap.size 28 #[.int .i64 m1, .int .i64 m2]) := by rw [← hw6]; exact (oA5.other (by simp only; omega) _).other (by simp only; omega) _
  have oB6 : Hid (Ob w6 w2.heap.size 28 #[.int .i64 m1, .int .i64 m2]) := by
    rw [← hw6]
    exact (show Ob ((w5.setCell ⟨w2.heap.size, 0, none⟩ (.int .i64 m1)).setCell ⟨w2.heap.size, 1, none⟩ (.int .i64 m2)) w2.heap.size 28 #[.int .i64 m1, .int .i64 m2] by simpa using (oB5.set 0 (.int .i64 m1)).set 1 (.int .i64 m2))
  have W6 := Lib.hid hw6
  clear q0 q1 q2 q3 q4 q5 q6 q7 q8 q9 q10 q11 q12 y0 y1 y2 y3
  obtain ⟨b0, b1, b2, b3⟩ := oB5.span
  clear hw6 oA5 oB5 S5a hb5 oA4 oB4 S4
  go_upto_region 7 with fail
  rw [W6.out]
  clear b0 b1 b2 b3
  obtain ⟨a0, a1, a2, a3⟩ := oA6.out.span
  obtain ⟨b0, b1, b2, b3⟩ := oB6.out.span
  go_wp2_with fail
  refine (HA.out _).mono ?_
  rintro e w7 ⟨rfl, hb7⟩
  have B7 := Lib.hid (B_trans B6.out hb7)
  clear hb7
  go_wp2
  refine bodyPost_ret (v := .bool true) (by simp [results, Try.results7, go_sem]) rfl ⟨rfl, B7.out⟩
end Go.Proofs.Ytanjkhclhcnnaaa

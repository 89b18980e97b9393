/- The reference's Grade; the law DecayGrows. -/
import Derived.Test.YtanjkhclhcnnaaaDD
namespace Go.Proofs.Ytanjkhclhcnnaaa
open Go.RowKit Go.Shelf

def gK (r : RuA) (k : Nat) : Int := if k = 0 then r.g0 else if k = 1 then r.g1 else r.g2
def cntG (r : RuA) (n : Int) : Nat → Int
  | 0 => 0
  | k + 1 => if gK r k ≤ n then cntG r n k + 1 else cntG r n k
theorem cntG_bd (r : RuA) (n : Int) : ∀ k, 0 ≤ cntG r n k ∧ cntG r n k ≤ k
  | 0 => ⟨Int.le_refl _, Int.le_refl _⟩
  | k + 1 => by
    have := cntG_bd r n k
    unfold cntG
    split <;> omega
theorem cntG_eq {r : RuA} {hs ws : List T2} (h : RuOK r hs ws) (n : Int) : cntG r n 3 = gradeL r n := by
  obtain ⟨a, b, c, d⟩ := h.g
  unfold gradeL
  simp only [cntG, gK]
  simp only [if_pos, show ¬ (1 : Nat) = 0 by decide, show ¬ (2 : Nat) = 0 by decide, show ¬ (2 : Nat) = 1 by decide, if_false]
  by_cases h0 : r.g0 ≤ n <;> by_cases h1 : r.g1 ≤ n <;> by_cases h2 : r.g2 ≤ n <;> simp [h0, h1, h2] <;> omega

set_option maxRecDepth 100000 in
set_option maxHeartbeats 4000000 in
theorem refGradeN_any (r : RuA) (n : Int) (w : World) :
    Calls Try.prog 67 #[.agg r.cs, .int .i64 n] w fun e w' => e = .returned (.int .i64 (cntG r n 3)) ∧ Below w.heap.size w w' := by
  obtain ⟨w0, hw0⟩ : ∃ w0, w.alloc (.cells r.cs 25) = w0 := ⟨_, rfl⟩
  have hb0 : Below w.heap.size w w0 := by rw [← hw0]; exact B_alloc (Below.refl _ _) _
  have o0 : Ob w0 w.heap.size 25 r.cs := by rw [← hw0]; exact Ob.new w _ _
  obtain ⟨q0, q1, q2, q3, q4, q5, q6, q7⟩ := o0.rule
  replace hb0 := Lib.hid hb0
  replace hw0 := Lib.hid hw0
  clear o0
  go_enter Try.func67, Try.ntmps67
  go_wp2_with fail
  rw [hw0.out]
  go_loopg [5, 6] 3 (fun gk cn i wr => ∃ k : Nat, gk = 3 - k ∧ cn = .int .i64 (cntG r n k) ∧ i = .int .i64 k ∧ k ≤ 3 ∧ wr = w0)
  case atStart => exact ⟨0, rfl, rfl, rfl, by omega, rfl⟩
  case round =>
    obtain ⟨k, rfl, rfl, rfl, hk, rfl⟩ := hrel
    have hbd := cntG_bd r n k
    have u1 : IntKind.i64.wrap (cntG r n k + 1) = cntG r n k + 1 := IntWalk.i64_in _ (by omega)
    rcases Nat.lt_or_ge k 3 with hlt | hge
    · have hc : cntG r n (k + 1) = if gK r k ≤ n then cntG r n k + 1 else cntG r n k := rfl
      have hgk : gK r k = if k = 0 then r.g0 else if k = 1 then r.g1 else r.g2 := rfl
      generalize cntG r n k = cn at u1 hc
      rcases (show k = 0 ∨ k = 1 ∨ k = 2 by omega) with rfl | rfl | rfl
      all_goals simp only [if_pos, show ¬ (1 : Nat) = 0 by decide, show ¬ (2 : Nat) = 0 by decide, show ¬ (2 : Nat) = 1 by decide, if_false] at hgk
      all_goals rw [hgk] at hc
      all_goals clear hgk hbd
      · by_cases hx : r.g0 ≤ n
        all_goals simp only [hx, if_true, if_false] at hc
        all_goals replace hc := Lib.hid hc
        all_goals go_wp2
        all_goals go_roundg (3 - (0 + 1))
        all_goals first | (case measure => omega) | skip
        all_goals exact ⟨1, rfl, by rw [hc.out], rfl, by omega, rfl⟩
      · by_cases hx : r.g1 ≤ n
        all_goals simp only [hx, if_true, if_false] at hc
        all_goals replace hc := Lib.hid hc
        all_goals go_wp2
        all_goals go_roundg (3 - (1 + 1))
        all_goals first | (case measure => omega) | skip
        all_goals exact ⟨2, rfl, by rw [hc.out], rfl, by omega, rfl⟩
      · by_cases hx : r.g2 ≤ n
        all_goals simp only [hx, if_true, if_false] at hc
        all_goals replace hc := Lib.hid hc
        all_goals go_wp2
        all_goals go_roundg (3 - (2 + 1))
        all_goals first | (case measure => omega) | skip
        all_goals exact ⟨3, rfl, by rw [hc.out], rfl, by omega, rfl⟩
    · obtain rfl : k = 3 := by omega
      clear q0 q1 q2 q3 q4 q5 q6 q7
      go_wp2
      go_ret
      exact ⟨rfl, hb0.out⟩

set_option maxRecDepth 100000 in
set_option maxHeartbeats 4000000 in
theorem refGrade_any (r : RuA) (hs ws : List T2) (n : Int) (w : World) (hR : RuR w r hs ws) :
    Calls Try.prog 25 #[.agg r.cs, .int .i64 n] w fun e w' => e = .returned (.tuple #[.int .i64 (gradeS r hs ws n).1, .int .i64 (gradeS r hs ws n).2]) ∧ Below w.heap.size w w' := by
  obtain ⟨w0, hw0⟩ : ∃ w0, (w).alloc (.cells r.cs 25) = w0 := ⟨_, rfl⟩
  have hb0 : Below w.heap.size w w0 := by rw [← hw0]; exact B_alloc (Below.refl _ _) _
  have o0 : Ob w0 (w.heap.size) 25 r.cs := by
    rw [← hw0]
    have h := Ob.new (w) r.cs 25
    exact h
  have H1 := Lib.hid (fun W (h : Below w.heap.size w W) => refCheck_any r hs ws W (hR.below h))
  have H2 := Lib.hid (fun W => refLevel_any n W)
  have H3 := Lib.hid (fun W => refGradeN_any r n W)
  have H4 := fun (h : (checkS r hs ws).2.2 = 0) => cntG_eq (RuOK.of h) n
  unfold gradeS
  generalize checkS r hs ws = c at H1 H4 ⊢
  obtain ⟨c1, c2, c3⟩ := c
  simp only [tri] at H1 H4 ⊢
  obtain ⟨q0, q1, q2, q3, q4, q5, q6, q7⟩ := o0.rule
  replace hb0 := Lib.hid hb0
  replace hw0 := Lib.hid hw0
  replace o0 := Lib.hid o0
  clear hR
  by_cases he : c3 = 0
  · subst he
    rw [if_neg (by simp)]
    replace H4 := H4 rfl
    cases hq : inB n 0 1000000 with
    | false =>
      rw [if_neg (by simp)]
      rw [hq] at H2
      clear H3 H4 hq
      go_enter Try.func25, Try.ntmps25
      go_wp2_with fail
      rw [hw0.out]
      refine (H1.out w0 hb0.out).mono ?_
      rintro e w1 ⟨rfl, hb1⟩
      have hw1 := Lib.hid (B_trans hb0.out hb1)
      clear q0 q1 q2 q3 q4 q5 q6 q7 hb1
      go_wp2_with fail
      refine (H2.out w1).mono ?_
      rintro e w2 ⟨rfl, rfl⟩
      go_wp2
      refine bodyPost_ret (v := .tuple #[.int .i64 0, .int .i64 7]) (by simp [results, Try.results25, go_sem]) rfl ⟨rfl, hw1.out⟩
    | true =>
      rw [if_pos rfl]
      rw [hq] at H2
      rw [H4] at H3
      clear H4 hq
      generalize gradeL r n = gr at H3 ⊢
      go_enter Try.func25, Try.ntmps25
      go_wp2_with fail
      rw [hw0.out]
      refine (H1.out w0 hb0.out).mono ?_
      rintro e w1 ⟨rfl, hb1⟩
      have hw1 := Lib.hid (B_trans hb0.out hb1)
      obtain ⟨p0, p1, p2, p3, p4, p5, p6, p7⟩ := (o0.out.below hb1).rule
      clear q0 q1 q2 q3 q4 q5 q6 q7 hb1
      go_wp2_with fail
      refine (H2.out w1).mono ?_
      rintro e w2 ⟨rfl, rfl⟩
      go_wp2_with fail
      refine (H3.out w1).mono ?_
      rintro e w3 ⟨rfl, hb3⟩
      have hw3 := Lib.hid (B_trans hw1.out hb3)
      clear p0 p1 p2 p3 p4 p5 p6 p7 hb3
      go_wp2
      refine bodyPost_ret (v := .tuple #[.int .i64 gr, .int .i64 0]) (by simp [results, Try.results25, go_sem]) rfl ⟨rfl, hw3.out⟩
  · rw [if_pos he]
    clear H2 H3 H4
    go_enter Try.func25, Try.ntmps25
    go_wp2_with fail
    rw [hw0.out]
    refine (H1.out w0 hb0.out).mono ?_
    rintro e w1 ⟨rfl, hb1⟩
    have hw1 := Lib.hid (B_trans hb0.out hb1)
    clear q0 q1 q2 q3 q4 q5 q6 q7 hb1
    go_wp2
    refine bodyPost_ret (v := .tuple #[.int .i64 0, .int .i64 c3]) (by simp [results, Try.results25, go_sem]) rfl ⟨rfl, hw1.out⟩

set_option maxRecDepth 100000 in
set_option maxHeartbeats 8000000 in
theorem growsLaw_any (r : RuA) (hs ws : List T2) (d : T4) (n : T2) (w : World) (hR : RuR w r hs ws) :
    Calls Try.prog 4 #[.agg r.cs, .agg #[.int .i64 d.1, .int .i64 d.2.1, .int .i64 d.2.2.1, .int .i64 d.2.2.2], .agg #[.int .i64 n.1, .int .i64 n.2]] w fun e w' => e = .returned (.bool true) ∧ Below w.heap.size w w' := by
  obtain ⟨w0, hw0⟩ : ∃ w0, (((w).alloc (.cells r.cs 25)).alloc (.cells #[.int .i64 d.1, .int .i64 d.2.1, .int .i64 d.2.2.1, .int .i64 d.2.2.2] 39)).alloc (.cells #[.int .i64 n.1, .int .i64 n.2] 28) = w0 := ⟨_, rfl⟩
  have hb0 : Below w.heap.size w w0 := by rw [← hw0]; exact B_alloc (B_alloc (B_alloc (Below.refl _ _) _) _) _
  have o0 : Ob w0 (w.heap.size) 25 r.cs := by
    rw [← hw0]
    have h := Ob.new (w) r.cs 25
    replace h := h.alloc (.cells #[.int .i64 d.1, .int .i64 d.2.1, .int .i64 d.2.2.1, .int .i64 d.2.2.2] 39)
    replace h := h.alloc (.cells #[.int .i64 n.1, .int .i64 n.2] 28)
    exact h
  have o1 : Ob w0 (w.heap.size + 1) 39 #[.int .i64 d.1, .int .i64 d.2.1, .int .i64 d.2.2.1, .int .i64 d.2.2.2] := by
    rw [← hw0]
    have h := Ob.new ((w).alloc (.cells r.cs 25)) #[.int .i64 d.1, .int .i64 d.2.1, .int .i64 d.2.2.1, .int .i64 d.2.2.2] 39
    replace h := h.alloc (.cells #[.int .i64 n.1, .int .i64 n.2] 28)
    simp only [World.size_alloc] at h
    exact h
  have o2 : Ob w0 (w.heap.size + 1 + 1) 28 #[.int .i64 n.1, .int .i64 n.2] := by
    rw [← hw0]
    have h := Ob.new (((w).alloc (.cells r.cs 25)).alloc (.cells #[.int .i64 d.1, .int .i64 d.2.1, .int .i64 d.2.2.1, .int .i64 d.2.2.2] 39)) #[.int .i64 n.1, .int .i64 n.2] 28
    simp only [World.size_alloc] at h
    exact h
  have H1 := Lib.hid (fun W (h : Below w.heap.size w W) => strengthD_any r hs ws d W (hR.below h))
  have H2 := Lib.hid (fun W (h : Below w.heap.size w W) => refStrengthD_any r hs ws d W (hR.below h))
  have H3 := Lib.hid (fun W (h : Below w.heap.size w W) => growD_any r hs ws d n W (hR.below h))
  have H4 := Lib.hid (fun W (h : Below w.heap.size w W) => refGrowD_any r hs ws d n W (hR.below h))
  have H5 := Lib.hid (fun W (h : Below w.heap.size w W) => grade_any r hs ws n.1 W (hR.below h))
  have H6 := Lib.hid (fun W (h : Below w.heap.size w W) => refGrade_any r hs ws n.1 W (hR.below h))
  have HA := Lib.hid awake_any
  generalize strengthF r hs ws d = sf at H1 H2
  obtain ⟨⟨s1, s2⟩, se⟩ := sf
  generalize growF r hs ws d n = gf at H3 H4
  obtain ⟨⟨g1, g2⟩, ge⟩ := gf
  generalize gradeS r hs ws n.1 = gr at H5 H6
  obtain ⟨gr, gre⟩ := gr
  simp only at H1 H2 H3 H4 H5 H6
  have S0 : Hid (Ob w0 w.heap.size 25 r.cs ∧ Ob w0 (w.heap.size + 1) 39 #[.int .i64 d.1, .int .i64 d.2.1, .int .i64 d.2.2.1, .int .i64 d.2.2.2] ∧ Ob w0 (w.heap.size + 1 + 1) 28 #[.int .i64 n.1, .int .i64 n.2] ∧ Below w.heap.size w w0) := ⟨o0, o1, o2, hb0⟩
  have step : ∀ (W W1 : World), Below W.heap.size W W1 → (Ob W w.heap.size 25 r.cs ∧ Ob W (w.heap.size + 1) 39 #[.int .i64 d.1, .int .i64 d.2.1, .int .i64 d.2.2.1, .int .i64 d.2.2.2] ∧ Ob W (w.heap.size + 1 + 1) 28 #[.int .i64 n.1, .int .i64 n.2] ∧ Below w.heap.size w W) → Hid (Ob W1 w.heap.size 25 r.cs ∧ Ob W1 (w.heap.size + 1) 39 #[.int .i64 d.1, .int .i64 d.2.1, .int .i64 d.2.2.1, .int .i64 d.2.2.2] ∧ Ob W1 (w.heap.size + 1 + 1) 28 #[.int .i64 n.1, .int .i64 n.2] ∧ Below w.heap.size w W1) := fun _ _ h ⟨a, b, c, e⟩ => ⟨a.below h, b.below h, c.below h, B_trans e h⟩
  have l2 := o2.lt
  obtain ⟨q0, q1, q2, q3, q4, q5, q6, q7⟩ := o0.rule
  obtain ⟨d0, d1, d2, d3⟩ := o1.day
  clear o0 o1 o2 hb0 hR
  replace hw0 := Lib.hid hw0
  replace step := Lib.hid step
  go_enter Try.func4, Try.ntmps4
  go_wp2_with fail
  rw [hw0.out]
  refine (H1.out w0 S0.out.2.2.2).mono ?_
  rintro e w1 ⟨rfl, hb1⟩
  have hbA := B_alloc hb1 (.cells #[.int .i64 s1, .int .i64 s2] 28)
  have oA := Lib.hid (Ob.new w1 #[.int .i64 s1, .int .i64 s2] 28)
  have S1 := step.out _ _ hbA S0.out
  have z1 := hb1.size
  clear q0 q1 q2 q3 q4 q5 q6 q7 d0 d1 d2 d3 hbA hb1 S0
  obtain ⟨q0, q1, q2, q3, q4, q5, q6, q7⟩ := S1.out.1.rule
  obtain ⟨d0, d1, d2, d3⟩ := S1.out.2.1.day
  go_wp2_with fail
  refine (H2.out _ S1.out.2.2.2).mono ?_
  rintro e w2 ⟨rfl, hb2⟩
  have hbA := B_alloc hb2 (.cells #[.int .i64 s1, .int .i64 s2] 28)
  have oB := Lib.hid (Ob.new w2 #[.int .i64 s1, .int .i64 s2] 28)
  replace oA := Lib.hid (oA.out.below hbA)
  have S2 := step.out _ _ hbA S1.out
  have z2 := hb2.size
  clear q0 q1 q2 q3 q4 q5 q6 q7 d0 d1 d2 d3 hbA hb2 S1
  obtain ⟨q0, q1, q2, q3, q4, q5, q6, q7⟩ := S2.out.1.rule
  obtain ⟨d0, d1, d2, d3⟩ := S2.out.2.1.day
  obtain ⟨n0, n1, -, -⟩ := S2.out.2.2.1.span
  obtain ⟨a0, a1, a2, a3⟩ := oA.out.span
  obtain ⟨b0, b1, b2, b3⟩ := oB.out.span
  rw [World.size_alloc] at z2
  have zAB : w1.heap.size < w2.heap.size := by omega
  go_wp2_with fail
  refine (H3.out _ S2.out.2.2.2).mono ?_
  rintro e w3 ⟨rfl, hb3⟩
  have S3a := step.out _ _ hb3 S2.out
  have oA3 := oA.out.below hb3
  have oB3 := oB.out.below hb3
  have z3 := hb3.size
  rw [World.size_alloc] at z3
  clear q0 q1 q2 q3 q4 q5 q6 q7 d0 d1 d2 d3 n0 n1 a0 a1 a2 a3 b0 b1 b2 b3 oA oB S2 hb3
  obtain ⟨a0, a1, a2, a3⟩ := oA3.span
  obtain ⟨W3, hW3⟩ : ∃ W3, (w3.setCell ⟨w1.heap.size, 0, none⟩ (.int .i64 g1)).setCell ⟨w1.heap.size, 1, none⟩ (.int .i64 g2) = W3 := ⟨_, rfl⟩
  have S3 := Lib.hid (show Ob W3 w.heap.size 25 r.cs ∧ Ob W3 (w.heap.size + 1) 39 #[.int .i64 d.1, .int .i64 d.2.1, .int .i64 d.2.2.1, .int .i64 d.2.2.2] ∧ Ob W3 (w.heap.size + 1 + 1) 28 #[.int .i64 n.1, .int .i64 n.2] ∧ Below w.heap.size w W3 from by
    rw [← hW3]
    exact ⟨(S3a.out.1.other (by simp only; omega) _).other (by simp only; omega) _, (S3a.out.2.1.other (by simp only; omega) _).other (by simp only; omega) _, (S3a.out.2.2.1.other (by simp only; omega) _).other (by simp only; omega) _, (S3a.out.2.2.2.setCell (by simp only; omega) _).setCell (by simp only; omega) _⟩)
  have oA := Lib.hid (show Ob W3 w1.heap.size 28 #[.int .i64 g1, .int .i64 g2] from by rw [← hW3]; simpa using (oA3.set 0 (.int .i64 g1)).set 1 (.int .i64 g2))
  have oB := Lib.hid (show Ob W3 w2.heap.size 28 #[.int .i64 s1, .int .i64 s2] from by rw [← hW3]; exact (oB3.other (by simp only; omega) _).other (by simp only; omega) _)
  have z3' : W3.heap.size = w3.heap.size := by rw [← hW3]; simp [World.setCell]
  replace hW3 := Lib.hid hW3
  clear oA3 oB3 S3a
  go_upto_region 6 with fail
  rw [hW3.out]
  clear a0 a1 a2 a3
  obtain ⟨q0, q1, q2, q3, q4, q5, q6, q7⟩ := S3.out.1.rule
  obtain ⟨d0, d1, d2, d3⟩ := S3.out.2.1.day
  obtain ⟨n0, n1, -, -⟩ := S3.out.2.2.1.span
  go_wp2_with fail
  refine (H4.out _ S3.out.2.2.2).mono ?_
  rintro e w4 ⟨rfl, hb4⟩
  have S4a := step.out _ _ hb4 S3.out
  have oA4 := oA.out.below hb4
  have oB4 := oB.out.below hb4
  clear q0 q1 q2 q3 q4 q5 q6 q7 d0 d1 d2 d3 n0 n1 oA oB S3 hb4
  obtain ⟨b0, b1, b2, b3⟩ := oB4.span
  obtain ⟨W4, hW4⟩ : ∃ W4, (w4.setCell ⟨w2.heap.size, 0, none⟩ (.int .i64 g1)).setCell ⟨w2.heap.size, 1, none⟩ (.int .i64 g2) = W4 := ⟨_, rfl⟩
  have S4 := Lib.hid (show Ob W4 w.heap.size 25 r.cs ∧ Ob W4 (w.heap.size + 1) 39 #[.int .i64 d.1, .int .i64 d.2.1, .int .i64 d.2.2.1, .int .i64 d.2.2.2] ∧ Ob W4 (w.heap.size + 1 + 1) 28 #[.int .i64 n.1, .int .i64 n.2] ∧ Below w.heap.size w W4 from by
    rw [← hW4]
    exact ⟨(S4a.out.1.other (by simp only; omega) _).other (by simp only; omega) _, (S4a.out.2.1.other (by simp only; omega) _).other (by simp only; omega) _, (S4a.out.2.2.1.other (by simp only; omega) _).other (by simp only; omega) _, (S4a.out.2.2.2.setCell (by simp only; omega) _).setCell (by simp only; omega) _⟩)
  have oB := Lib.hid (show Ob W4 w2.heap.size 28 #[.int .i64 g1, .int .i64 g2] from by rw [← hW4]; simpa using (oB4.set 0 (.int .i64 g1)).set 1 (.int .i64 g2))
  have oA := Lib.hid (show Ob W4 w1.heap.size 28 #[.int .i64 g1, .int .i64 g2] from by rw [← hW4]; exact (oA4.other (by simp only; omega) _).other (by simp only; omega) _)
  replace hW4 := Lib.hid hW4
  clear oA4 oB4 S4a
  go_upto_region 7 with fail
  rw [hW4.out]
  clear b0 b1 b2 b3
  obtain ⟨a0, a1, -, -⟩ := oA.out.span
  obtain ⟨b0, b1, -, -⟩ := oB.out.span
  obtain ⟨q0, q1, q2, q3, q4, q5, q6, q7⟩ := S4.out.1.rule
  obtain ⟨n0, n1, -, -⟩ := S4.out.2.2.1.span
  go_wp2_with fail
  refine (H5.out _ S4.out.2.2.2).mono ?_
  rintro e w5 ⟨rfl, hb5⟩
  have S5 := step.out _ _ hb5 S4.out
  clear q0 q1 q2 q3 q4 q5 q6 q7 n0 n1 a0 a1 b0 b1 oA oB S4 hb5
  obtain ⟨q0, q1, q2, q3, q4, q5, q6, q7⟩ := S5.out.1.rule
  obtain ⟨n0, n1, -, -⟩ := S5.out.2.2.1.span
  go_wp2_with fail
  refine (H6.out _ S5.out.2.2.2).mono ?_
  rintro e w6 ⟨rfl, hb6⟩
  have hw6 := Lib.hid (B_trans S5.out.2.2.2 hb6)
  clear q0 q1 q2 q3 q4 q5 q6 q7 n0 n1 S5 hb6
  go_wp2_with fail
  refine (HA.out w6).mono ?_
  rintro e w7 ⟨rfl, hb7⟩
  have hw7 := Lib.hid (B_trans hw6.out hb7)
  clear hb7 hw6
  go_wp2
  refine bodyPost_ret (v := .bool true) (by simp [results, Try.results4, go_sem]) rfl ⟨rfl, hw7.out⟩
end Go.Proofs.Ytanjkhclhcnnaaa

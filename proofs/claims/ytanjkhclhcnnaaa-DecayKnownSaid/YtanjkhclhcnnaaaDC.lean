/- Strength and Grow, of the program and of the reference. -/
import Derived.Test.YtanjkhclhcnnaaaDB
namespace Go.Proofs.Ytanjkhclhcnnaaa
open Go.RowKit Go.Shelf

theorem Ob.day {W : World} {B : Nat} {T : TypeId} {a b c d : Int} (h : Ob W B T #[.int .i64 a, .int .i64 b, .int .i64 c, .int .i64 d]) : W.cell? ⟨B, 0, none⟩ = some (.int .i64 a) ∧ W.cell? ⟨B, 1, none⟩ = some (.int .i64 b) ∧ W.cell? ⟨B, 2, none⟩ = some (.int .i64 c) ∧ W.cell? ⟨B, 3, none⟩ = some (.int .i64 d) := ⟨h.cell 0, h.cell 1, h.cell 2, h.cell 3⟩
theorem Ob.span {W : World} {B : Nat} {T : TypeId} {a b : Int} (h : Ob W B T #[.int .i64 a, .int .i64 b]) : W.cell? ⟨B, 0, none⟩ = some (.int .i64 a) ∧ W.cell? ⟨B, 1, none⟩ = some (.int .i64 b) ∧ W.frozen? ⟨B, 0, none⟩ = false ∧ W.frozen? ⟨B, 1, none⟩ = false := ⟨h.cell 0, h.cell 1, h.frozen 0, h.frozen 1⟩
/-- The strength of a climate, or the error. -/
def strengthF (r : RuA) (hs ws : List T2) (d : T4) : T2 × Int := if (checkS r hs ws).2.2 ≠ 0 then ((0, 0), (checkS r hs ws).2.2) else if dayE d ≠ 0 then ((0, 0), dayE d) else (strS hs ws d, 0)
set_option maxRecDepth 100000 in
set_option maxHeartbeats 8000000 in
theorem strengthD_any (r : RuA) (hs ws : List T2) (d : T4) (w : World) (hR : RuR w r hs ws) :
    Calls Try.prog 20 #[.agg r.cs, .agg #[.int .i64 d.1, .int .i64 d.2.1, .int .i64 d.2.2.1, .int .i64 d.2.2.2]] w fun e w' => e = .returned (.tuple #[.agg #[.int .i64 (strengthF r hs ws d).1.1, .int .i64 (strengthF r hs ws d).1.2], .int .i64 (strengthF r hs ws d).2]) ∧ Below w.heap.size w w' := by
  obtain ⟨w0, hw0⟩ : ∃ w0, (((w).alloc (.cells r.cs 25)).alloc (.cells #[.int .i64 d.1, .int .i64 d.2.1, .int .i64 d.2.2.1, .int .i64 d.2.2.2] 39)).alloc (.cells #[.int .i64 0, .int .i64 0] 28) = w0 := ⟨_, rfl⟩
  have hb0 : Below w.heap.size w w0 := by rw [← hw0]; exact B_alloc (B_alloc (B_alloc (Below.refl _ _) _) _) _
  have o0 : Ob w0 (w.heap.size) 25 r.cs := by
    rw [← hw0]
    have h := Ob.new (w) r.cs 25
    replace h := h.alloc (.cells #[.int .i64 d.1, .int .i64 d.2.1, .int .i64 d.2.2.1, .int .i64 d.2.2.2] 39)
    replace h := h.alloc (.cells #[.int .i64 0, .int .i64 0] 28)
    exact h
  have o1 : Ob w0 (w.heap.size + 1) 39 #[.int .i64 d.1, .int .i64 d.2.1, .int .i64 d.2.2.1, .int .i64 d.2.2.2] := by
    rw [← hw0]
    have h := Ob.new ((w).alloc (.cells r.cs 25)) #[.int .i64 d.1, .int .i64 d.2.1, .int .i64 d.2.2.1, .int .i64 d.2.2.2] 39
    replace h := h.alloc (.cells #[.int .i64 0, .int .i64 0] 28)
    simp only [World.size_alloc] at h
    exact h
  have o2 : Ob w0 (w.heap.size + 1 + 1) 28 #[.int .i64 0, .int .i64 0] := by
    rw [← hw0]
    have h := Ob.new (((w).alloc (.cells r.cs 25)).alloc (.cells #[.int .i64 d.1, .int .i64 d.2.1, .int .i64 d.2.2.1, .int .i64 d.2.2.2] 39)) #[.int .i64 0, .int .i64 0] 28
    simp only [World.size_alloc] at h
    exact h
  have H1 := Lib.hid (fun W (h : Below w.heap.size w W) => check_any r hs ws W (hR.below h))
  have H2 := Lib.hid (fun W => climateError_any d W)
  have H3 := fun (hO : RuOK r hs ws) => Lib.hid (fun W (h : Below w.heap.size w W) => strength_any r hs ws d.1 d.2.1 d.2.2.1 d.2.2.2 W (hR.below h) hO)
  have H4 := fun (h : (checkS r hs ws).2.2 = 0) => RuOK.of h
  unfold strengthF
  replace hw0 := Lib.hid hw0
  replace hb0 := Lib.hid hb0
  obtain ⟨q0, q1, q2, q3, q4, q5, q6, q7⟩ := o0.rule
  replace o0 := Lib.hid o0
  replace o1 := Lib.hid o1
  replace o2 := Lib.hid o2
  by_cases h1 : (checkS r hs ws).2.2 = 0
  · rw [if_neg (by simpa using h1)]
    replace H3 := H3 (H4 h1)
    clear H4 hR
    rw [show tri (checkS r hs ws) = .tuple #[.int .i64 (checkS r hs ws).1, .int .i64 (checkS r hs ws).2.1, .int .i64 (checkS r hs ws).2.2] from rfl, h1] at H1
    generalize (checkS r hs ws).1 = c1 at H1
    generalize (checkS r hs ws).2.1 = c2 at H1
    by_cases h2 : dayE d = 0
    · rw [if_neg (by simpa using h2)]
      rw [h2] at H2
      obtain ⟨x, hx⟩ : ∃ x, strS hs ws d = x := ⟨_, rfl⟩
      have hx1 : strengthS hs ws d.1 d.2.2.1 = x.1 := congrArg Prod.fst hx
      have hx2 : strengthS hs ws d.2.1 d.2.2.2 = x.2 := congrArg Prod.snd hx
      rw [hx1, hx2] at H3
      rw [hx]
      clear h1 h2 hx hx1 hx2
      go_enter Try.func20, Try.ntmps20
      go_wp2_with fail
      rw [hw0.out]
      refine (H1.out w0 hb0.out).mono ?_
      rintro e w1 ⟨rfl, hb1⟩
      have hw1 := Lib.hid (B_trans hb0.out hb1)
      obtain ⟨d0, d1, d2, d3⟩ := (o1.out.below hb1).day
      clear q0 q1 q2 q3 q4 q5 q6 q7
      go_wp2_with fail
      refine (H2.out w1).mono ?_
      rintro e w2 ⟨rfl, hb2⟩
      have hb12 := B_trans hb1 hb2
      have hw2 := Lib.hid (B_trans hb0.out hb12)
      obtain ⟨q0, q1, q2, q3, q4, q5, q6, q7⟩ := (o0.out.below hb12).rule
      obtain ⟨d0', d1', d2', d3'⟩ := (o1.out.below hb12).day
      replace o2 := Lib.hid (o2.out.below hb12)
      clear d0 d1 d2 d3 hb1 hb2 hb12 hw1
      go_wp2_with fail
      refine (H3.out w2 hw2.out).mono ?_
      rintro e w3 ⟨rfl, hb3⟩
      obtain ⟨z0, z1, y0, y1⟩ := (o2.out.below hb3).span
      have hw3 := Lib.hid (B_trans hw2.out hb3)
      clear q0 q1 q2 q3 q4 q5 q6 q7 d0' d1' d2' d3' hb3 hw2
      go_wp2
      refine bodyPost_ret (v := .tuple #[.agg #[.int .i64 x.1, .int .i64 x.2], .int .i64 0]) (by simp [results, Try.results20, go_sem, z0, z1]) rfl ⟨rfl, ?_⟩
      exact (hw3.out.setCell (by simp only; omega) _).setCell (by simp only; omega) _
    · rw [if_pos h2]
      generalize dayE d = de at H2 h2 ⊢
      clear H3 h1
      go_enter Try.func20, Try.ntmps20
      go_wp2_with fail
      rw [hw0.out]
      refine (H1.out w0 hb0.out).mono ?_
      rintro e w1 ⟨rfl, hb1⟩
      obtain ⟨d0, d1, d2, d3⟩ := (o1.out.below hb1).day
      clear q0 q1 q2 q3 q4 q5 q6 q7
      go_wp2_with fail
      refine (H2.out w1).mono ?_
      rintro e w2 ⟨rfl, hb2⟩
      have hb12 := B_trans hb1 hb2
      have hw2 := Lib.hid (B_trans hb0.out hb12)
      obtain ⟨z0, z1, y0, y1⟩ := (o2.out.below hb12).span
      clear d0 d1 d2 d3 hb1 hb2 hb12
      go_wp2
      refine bodyPost_ret (v := .tuple #[.agg #[.int .i64 0, .int .i64 0], .int .i64 de]) (by simp [results, Try.results20, go_sem, z0, z1]) rfl ⟨rfl, ?_⟩
      exact (hw2.out.setCell (by simp only; omega) _).setCell (by simp only; omega) _
  · rw [if_pos h1]
    clear H3 H4 H2 hR
    rw [show tri (checkS r hs ws) = .tuple #[.int .i64 (checkS r hs ws).1, .int .i64 (checkS r hs ws).2.1, .int .i64 (checkS r hs ws).2.2] from rfl] at H1
    generalize (checkS r hs ws).1 = c1 at H1
    generalize (checkS r hs ws).2.1 = c2 at H1
    generalize (checkS r hs ws).2.2 = c3 at H1 h1 ⊢
    go_enter Try.func20, Try.ntmps20
    go_wp2_with fail
    rw [hw0.out]
    refine (H1.out w0 hb0.out).mono ?_
    rintro e w1 ⟨rfl, hb1⟩
    have hw1 := Lib.hid (B_trans hb0.out hb1)
    obtain ⟨z0, z1, y0, y1⟩ := (o2.out.below hb1).span
    clear q0 q1 q2 q3 q4 q5 q6 q7 hb1
    go_wp2
    refine bodyPost_ret (v := .tuple #[.agg #[.int .i64 0, .int .i64 0], .int .i64 c3]) (by simp [results, Try.results20, go_sem, z0, z1]) rfl ⟨rfl, ?_⟩
    exact (hw1.out.setCell (by simp only; omega) _).setCell (by simp only; omega) _
set_option maxRecDepth 100000 in
set_option maxHeartbeats 8000000 in
theorem refStrengthD_any (r : RuA) (hs ws : List T2) (d : T4) (w : World) (hR : RuR w r hs ws) :
    Calls Try.prog 21 #[.agg r.cs, .agg #[.int .i64 d.1, .int .i64 d.2.1, .int .i64 d.2.2.1, .int .i64 d.2.2.2]] w fun e w' => e = .returned (.tuple #[.agg #[.int .i64 (strengthF r hs ws d).1.1, .int .i64 (strengthF r hs ws d).1.2], .int .i64 (strengthF r hs ws d).2]) ∧ Below w.heap.size w w' := by
  obtain ⟨w0, hw0⟩ : ∃ w0, (((w).alloc (.cells r.cs 25)).alloc (.cells #[.int .i64 d.1, .int .i64 d.2.1, .int .i64 d.2.2.1, .int .i64 d.2.2.2] 39)).alloc (.cells #[.int .i64 0, .int .i64 0] 28) = w0 := ⟨_, rfl⟩
  have hb0 : Below w.heap.size w w0 := by rw [← hw0]; exact B_alloc (B_alloc (B_alloc (Below.refl _ _) _) _) _
  have o0 : Ob w0 (w.heap.size) 25 r.cs := by
    rw [← hw0]
    have h := Ob.new (w) r.cs 25
    replace h := h.alloc (.cells #[.int .i64 d.1, .int .i64 d.2.1, .int .i64 d.2.2.1, .int .i64 d.2.2.2] 39)
    replace h := h.alloc (.cells #[.int .i64 0, .int .i64 0] 28)
    exact h
  have o1 : Ob w0 (w.heap.size + 1) 39 #[.int .i64 d.1, .int .i64 d.2.1, .int .i64 d.2.2.1, .int .i64 d.2.2.2] := by
    rw [← hw0]
    have h := Ob.new ((w).alloc (.cells r.cs 25)) #[.int .i64 d.1, .int .i64 d.2.1, .int .i64 d.2.2.1, .int .i64 d.2.2.2] 39
    replace h := h.alloc (.cells #[.int .i64 0, .int .i64 0] 28)
    simp only [World.size_alloc] at h
    exact h
  have o2 : Ob w0 (w.heap.size + 1 + 1) 28 #[.int .i64 0, .int .i64 0] := by
    rw [← hw0]
    have h := Ob.new (((w).alloc (.cells r.cs 25)).alloc (.cells #[.int .i64 d.1, .int .i64 d.2.1, .int .i64 d.2.2.1, .int .i64 d.2.2.2] 39)) #[.int .i64 0, .int .i64 0] 28
    simp only [World.size_alloc] at h
    exact h
  have H1 := Lib.hid (fun W (h : Below w.heap.size w W) => refCheck_any r hs ws W (hR.below h))
  have H2 := Lib.hid (fun W => refClimate_any d.1 d.2.1 d.2.2.1 d.2.2.2 W)
  have H3 := fun (hO : RuOK r hs ws) => Lib.hid (fun W (h : Below w.heap.size w W) => refStrength_any r hs ws d.1 d.2.1 d.2.2.1 d.2.2.2 W (hR.below h) hO)
  have H4 := fun (h : (checkS r hs ws).2.2 = 0) => RuOK.of h
  unfold strengthF
  replace hw0 := Lib.hid hw0
  replace hb0 := Lib.hid hb0
  obtain ⟨q0, q1, q2, q3, q4, q5, q6, q7⟩ := o0.rule
  replace o0 := Lib.hid o0
  replace o1 := Lib.hid o1
  replace o2 := Lib.hid o2
  by_cases h1 : (checkS r hs ws).2.2 = 0
  · rw [if_neg (by simpa using h1)]
    replace H3 := H3 (H4 h1)
    clear H4 hR
    rw [show tri (checkS r hs ws) = .tuple #[.int .i64 (checkS r hs ws).1, .int .i64 (checkS r hs ws).2.1, .int .i64 (checkS r hs ws).2.2] from rfl, h1] at H1
    generalize (checkS r hs ws).1 = c1 at H1
    generalize (checkS r hs ws).2.1 = c2 at H1
    by_cases h2 : dayE d = 0
    · rw [if_neg (by simpa using h2)]
      rw [h2] at H2
      obtain ⟨x, hx⟩ : ∃ x, strS hs ws d = x := ⟨_, rfl⟩
      have hx1 : strengthS hs ws d.1 d.2.2.1 = x.1 := congrArg Prod.fst hx
      have hx2 : strengthS hs ws d.2.1 d.2.2.2 = x.2 := congrArg Prod.snd hx
      rw [hx1, hx2] at H3
      rw [hx]
      clear h1 h2 hx hx1 hx2
      go_enter Try.func21, Try.ntmps21
      go_wp2_with fail
      rw [hw0.out]
      refine (H1.out w0 hb0.out).mono ?_
      rintro e w1 ⟨rfl, hb1⟩
      have hw1 := Lib.hid (B_trans hb0.out hb1)
      obtain ⟨d0, d1, d2, d3⟩ := (o1.out.below hb1).day
      clear q0 q1 q2 q3 q4 q5 q6 q7
      go_wp2_with fail
      refine (H2.out w1).mono ?_
      rintro e w2 ⟨rfl, hb2⟩
      have hb12 := B_trans hb1 hb2
      have hw2 := Lib.hid (B_trans hb0.out hb12)
      obtain ⟨q0, q1, q2, q3, q4, q5, q6, q7⟩ := (o0.out.below hb12).rule
      obtain ⟨d0', d1', d2', d3'⟩ := (o1.out.below hb12).day
      replace o2 := Lib.hid (o2.out.below hb12)
      clear d0 d1 d2 d3 hb1 hb2 hb12 hw1
      go_wp2_with fail
      refine (H3.out w2 hw2.out).mono ?_
      rintro e w3 ⟨rfl, hb3⟩
      obtain ⟨z0, z1, y0, y1⟩ := (o2.out.below hb3).span
      have hw3 := Lib.hid (B_trans hw2.out hb3)
      clear q0 q1 q2 q3 q4 q5 q6 q7 d0' d1' d2' d3' hb3 hw2
      go_wp2
      refine bodyPost_ret (v := .tuple #[.agg #[.int .i64 x.1, .int .i64 x.2], .int .i64 0]) (by simp [results, Try.results21, go_sem, z0, z1]) rfl ⟨rfl, ?_⟩
      exact (hw3.out.setCell (by simp only; omega) _).setCell (by simp only; omega) _
    · rw [if_pos h2]
      generalize dayE d = de at H2 h2 ⊢
      clear H3 h1
      go_enter Try.func21, Try.ntmps21
      go_wp2_with fail
      rw [hw0.out]
      refine (H1.out w0 hb0.out).mono ?_
      rintro e w1 ⟨rfl, hb1⟩
      obtain ⟨d0, d1, d2, d3⟩ := (o1.out.below hb1).day
      clear q0 q1 q2 q3 q4 q5 q6 q7
      go_wp2_with fail
      refine (H2.out w1).mono ?_
      rintro e w2 ⟨rfl, hb2⟩
      have hb12 := B_trans hb1 hb2
      have hw2 := Lib.hid (B_trans hb0.out hb12)
      obtain ⟨z0, z1, y0, y1⟩ := (o2.out.below hb12).span
      clear d0 d1 d2 d3 hb1 hb2 hb12
      go_wp2
      refine bodyPost_ret (v := .tuple #[.agg #[.int .i64 0, .int .i64 0], .int .i64 de]) (by simp [results, Try.results21, go_sem, z0, z1]) rfl ⟨rfl, ?_⟩
      exact (hw2.out.setCell (by simp only; omega) _).setCell (by simp only; omega) _
  · rw [if_pos h1]
    clear H3 H4 H2 hR
    rw [show tri (checkS r hs ws) = .tuple #[.int .i64 (checkS r hs ws).1, .int .i64 (checkS r hs ws).2.1, .int .i64 (checkS r hs ws).2.2] from rfl] at H1
    generalize (checkS r hs ws).1 = c1 at H1
    generalize (checkS r hs ws).2.1 = c2 at H1
    generalize (checkS r hs ws).2.2 = c3 at H1 h1 ⊢
    go_enter Try.func21, Try.ntmps21
    go_wp2_with fail
    rw [hw0.out]
    refine (H1.out w0 hb0.out).mono ?_
    rintro e w1 ⟨rfl, hb1⟩
    have hw1 := Lib.hid (B_trans hb0.out hb1)
    obtain ⟨z0, z1, y0, y1⟩ := (o2.out.below hb1).span
    clear q0 q1 q2 q3 q4 q5 q6 q7 hb1
    go_wp2
    refine bodyPost_ret (v := .tuple #[.agg #[.int .i64 0, .int .i64 0], .int .i64 c3]) (by simp [results, Try.results21, go_sem, z0, z1]) rfl ⟨rfl, ?_⟩
    exact (hw1.out.setCell (by simp only; omega) _).setCell (by simp only; omega) _
end Go.Proofs.Ytanjkhclhcnnaaa

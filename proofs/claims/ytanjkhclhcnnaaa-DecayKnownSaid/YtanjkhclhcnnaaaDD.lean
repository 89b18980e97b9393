/- Grow, of the program and of the reference. -/
import Derived.Test.YtanjkhclhcnnaaaDC
namespace Go.Proofs.Ytanjkhclhcnnaaa
open Go.RowKit Go.Shelf

/-- What grows from levels, or the error. -/
def growF (r : RuA) (hs ws : List T2) (d : T4) (n : T2) : T2 × Int := if (strengthF r hs ws d).2 ≠ 0 then ((0, 0), (strengthF r hs ws d).2) else if lvE n ≠ 0 then ((0, 0), lvE n) else (nextS r (strS hs ws d) n, 0)
theorem strengthF_ok {r : RuA} {hs ws : List T2} {d : T4} (h : (strengthF r hs ws d).2 = 0) : RuOK r hs ws ∧ strengthF r hs ws d = (strS hs ws d, 0) := by
  unfold strengthF at h ⊢
  by_cases h1 : (checkS r hs ws).2.2 = 0
  · rw [if_neg (by simpa using h1)] at h ⊢
    by_cases h2 : dayE d = 0
    · rw [if_neg (by simpa using h2)]; exact ⟨RuOK.of h1, rfl⟩
    · rw [if_pos h2] at h; exact absurd h h2
  · rw [if_pos h1] at h; exact absurd h h1
structure I23 (r : RuA) (s n : T2) (B q : Nat) (u v : Int) (w : World) (k : Nat) (outs : Nat → Value) (W : World) : Prop where
  R : Ob W B 25 r.cs
  S : Ob W q 28 #[.int .i64 s.1, .int .i64 s.2]
  N : Ob W (B + 1 + 1) 28 #[.int .i64 n.1, .int .i64 n.2]
  z : k < 3 → Ob W (B + 1 + 1 + 1) 28 #[.int .i64 0, .int .i64 0]
  e : k = 3 → Ob W (B + 1 + 1 + 1) 28 #[.int .i64 u, .int .i64 v]
  b : Below w.heap.size w W
  o0 : 1 ≤ k → outs 0 = .int .i64 u
  o1 : 2 ≤ k → outs 1 = .int .i64 v
def V23 (r : RuA) (s n : T2) (B : Nat) (u v : Int) (outs : Nat → Value) : Nat → Value
  | 7 => .int .i64 0
  | 24 => .agg r.cs
  | 25 => .agg #[.int .i64 s.1, .int .i64 s.2]
  | 26 => .pointer (some ⟨B + 1 + 1, 0, none⟩)
  | 27 => .int .i64 n.1
  | 28 => outs 0
  | 29 => .agg r.cs
  | 30 => .agg #[.int .i64 s.1, .int .i64 s.2]
  | 31 => .pointer (some ⟨B + 1 + 1, 1, none⟩)
  | 32 => .int .i64 n.2
  | 33 => outs 1
  | 34 => .agg #[.int .i64 u, .int .i64 v]
  | _ => undef
def need23 : Nat → Nat := fun i => [0, 0, 0, 0, 0, 0, 0, 0, 0, 1, 2, 2, 3].getD i 0
def till23 : Nat → Nat := fun i => [2, 2, 2, 2, 0, 2, 2, 2, 2, 1, 2, 2, 3].getD i 0
def eff23 : Nat → Bool := fun i => [false, false, false, false, true, false, false, false, false, true, false, true, false].getD i false
set_option maxRecDepth 100000 in
set_option maxHeartbeats 8000000 in
theorem growD_any (r : RuA) (hs ws : List T2) (d : T4) (n : T2) (w : World) (hR : RuR w r hs ws) :
    Calls Try.prog 22 #[.agg r.cs, .agg #[.int .i64 d.1, .int .i64 d.2.1, .int .i64 d.2.2.1, .int .i64 d.2.2.2], .agg #[.int .i64 n.1, .int .i64 n.2]] w fun e w' => e = .returned (.tuple #[.agg #[.int .i64 (growF r hs ws d n).1.1, .int .i64 (growF r hs ws d n).1.2], .int .i64 (growF r hs ws d n).2]) ∧ Below w.heap.size w w' := by
  obtain ⟨w0, hw0⟩ : ∃ w0, ((((w).alloc (.cells r.cs 25)).alloc (.cells #[.int .i64 d.1, .int .i64 d.2.1, .int .i64 d.2.2.1, .int .i64 d.2.2.2] 39)).alloc (.cells #[.int .i64 n.1, .int .i64 n.2] 28)).alloc (.cells #[.int .i64 0, .int .i64 0] 28) = w0 := ⟨_, rfl⟩
  have hb0 : Below w.heap.size w w0 := by rw [← hw0]; exact B_alloc (B_alloc (B_alloc (B_alloc (Below.refl _ _) _) _) _) _
  have o0 : Ob w0 (w.heap.size) 25 r.cs := by
    rw [← hw0]
    have h := Ob.new (w) r.cs 25
    replace h := h.alloc (.cells #[.int .i64 d.1, .int .i64 d.2.1, .int .i64 d.2.2.1, .int .i64 d.2.2.2] 39)
    replace h := h.alloc (.cells #[.int .i64 n.1, .int .i64 n.2] 28)
    replace h := h.alloc (.cells #[.int .i64 0, .int .i64 0] 28)
    exact h
  have o1 : Ob w0 (w.heap.size + 1) 39 #[.int .i64 d.1, .int .i64 d.2.1, .int .i64 d.2.2.1, .int .i64 d.2.2.2] := by
    rw [← hw0]
    have h := Ob.new ((w).alloc (.cells r.cs 25)) #[.int .i64 d.1, .int .i64 d.2.1, .int .i64 d.2.2.1, .int .i64 d.2.2.2] 39
    replace h := h.alloc (.cells #[.int .i64 n.1, .int .i64 n.2] 28)
    replace h := h.alloc (.cells #[.int .i64 0, .int .i64 0] 28)
    simp only [World.size_alloc] at h
    exact h
  have o2 : Ob w0 (w.heap.size + 1 + 1) 28 #[.int .i64 n.1, .int .i64 n.2] := by
    rw [← hw0]
    have h := Ob.new (((w).alloc (.cells r.cs 25)).alloc (.cells #[.int .i64 d.1, .int .i64 d.2.1, .int .i64 d.2.2.1, .int .i64 d.2.2.2] 39)) #[.int .i64 n.1, .int .i64 n.2] 28
    replace h := h.alloc (.cells #[.int .i64 0, .int .i64 0] 28)
    simp only [World.size_alloc] at h
    exact h
  have o3 : Ob w0 (w.heap.size + 1 + 1 + 1) 28 #[.int .i64 0, .int .i64 0] := by
    rw [← hw0]
    have h := Ob.new ((((w).alloc (.cells r.cs 25)).alloc (.cells #[.int .i64 d.1, .int .i64 d.2.1, .int .i64 d.2.2.1, .int .i64 d.2.2.2] 39)).alloc (.cells #[.int .i64 n.1, .int .i64 n.2] 28)) #[.int .i64 0, .int .i64 0] 28
    simp only [World.size_alloc] at h
    exact h
  have H1 := Lib.hid (fun W (h : Below w.heap.size w W) => strengthD_any r hs ws d W (hR.below h))
  have H2 := Lib.hid (fun W => levelsError_any n W)
  unfold growF
  have l3 := o3.lt
  replace hw0 := Lib.hid hw0
  replace hb0 := Lib.hid hb0
  obtain ⟨q0, q1, q2, q3, q4, q5, q6, q7⟩ := o0.rule
  obtain ⟨d0, d1, d2, d3⟩ := o1.day
  replace o0 := Lib.hid o0
  replace o1 := Lib.hid o1
  replace o2 := Lib.hid o2
  replace o3 := Lib.hid o3
  by_cases h1 : (strengthF r hs ws d).2 = 0
  · rw [if_neg (by simpa using h1)]
    obtain ⟨hO, hsv⟩ := strengthF_ok h1
    rw [hsv] at H1
    have b1 := hO.str_bd d.1 d.2.2.1
    have b2 := hO.str_bd d.2.1 d.2.2.2
    obtain ⟨s, hs'⟩ : ∃ s, strS hs ws d = s := ⟨_, rfl⟩
    have hx1 : strengthS hs ws d.1 d.2.2.1 = s.1 := congrArg Prod.fst hs'
    have hx2 : strengthS hs ws d.2.1 d.2.2.2 = s.2 := congrArg Prod.snd hs'
    rw [hx1] at b1
    rw [hx2] at b2
    rw [hs'] at H1 ⊢
    clear hs' hx1 hx2 hsv h1 hR
    by_cases h2 : lvE n = 0
    · rw [if_neg (by simpa using h2)]
      have hl := lv_ok h2
      rw [h2] at H2
      obtain ⟨u, hu⟩ : ∃ u, (nextS r s n).1 = u := ⟨_, rfl⟩
      obtain ⟨v, hv⟩ : ∃ v, (nextS r s n).2 = v := ⟨_, rfl⟩
      have H3 := Lib.hid (show ∀ W', Calls Try.prog 63 #[.agg r.cs, .agg #[.int .i64 s.1, .int .i64 s.2], .agg #[.int .i64 n.1, .int .i64 n.2]] W' fun e w' => e = .returned (.agg #[.int .i64 (nextS r s n).1, .int .i64 (nextS r s n).2]) ∧ Below W'.heap.size W' w' from fun W' => next_any r hs ws s.1 s.2 n.1 n.2 W' hO hl.a hl.b b1 b2)
      rw [hu, hv] at H3
      rw [hu, hv]
      clear h2 hl hu hv hO b1 b2
      go_enter Try.func22, Try.ntmps22
      go_wp2_with fail
      rw [hw0.out]
      refine (H1.out w0 hb0.out).mono ?_
      rintro e w1 ⟨rfl, hb1⟩
      have oS := Ob.new w1 #[.int .i64 s.1, .int .i64 s.2] 28
      have hbA := B_alloc hb1 (.cells #[.int .i64 s.1, .int .i64 s.2] 28)
      have hw1 := Lib.hid (B_trans hb0.out hbA)
      obtain ⟨n0, n1, -, -⟩ := (o2.out.below hbA).span
      clear q0 q1 q2 q3 q4 q5 q6 q7 d0 d1 d2 d3
      replace o0 := Lib.hid (o0.out.below hbA)
      replace o2 := Lib.hid (o2.out.below hbA)
      replace o3 := Lib.hid (o3.out.below hbA)
      replace oS := Lib.hid oS
      clear hbA hb1
      go_wp2_with fail
      refine (H2.out _).mono ?_
      rintro e w2 ⟨rfl, hb2⟩
      have hw2 := Lib.hid (B_trans hw1.out hb2)
      replace o0 := Lib.hid (o0.out.below hb2)
      replace o2 := Lib.hid (o2.out.below hb2)
      replace o3 := Lib.hid (o3.out.below hb2)
      replace oS := Lib.hid (oS.out.below hb2)
      clear n0 n1 hb2 hw1
      obtain ⟨q0, q1, q2, q3, q4, q5, q6, q7⟩ := o0.out.rule
      obtain ⟨n0, n1, -, -⟩ := o2.out.span
      obtain ⟨s0, s1, -, -⟩ := oS.out.span
      go_wp2_with fail
      refine (H3.out w2).mono ?_
      rintro e w3 ⟨rfl, hb3⟩
      obtain ⟨z0, z1, y0, y1⟩ := (o3.out.below hb3).span
      have hw3 := Lib.hid (B_trans hw2.out hb3)
      clear q0 q1 q2 q3 q4 q5 q6 q7 n0 n1 s0 s1 hb3 hw2
      go_wp2
      refine bodyPost_ret (v := .tuple #[.agg #[.int .i64 u, .int .i64 v], .int .i64 0]) (by simp [results, Try.results22, go_sem, z0, z1]) rfl ⟨rfl, ?_⟩
      exact (hw3.out.setCell (by simp only; omega) _).setCell (by simp only; omega) _
    · rw [if_pos h2]
      generalize lvE n = le at H2 h2 ⊢
      clear hO b1 b2
      go_enter Try.func22, Try.ntmps22
      go_wp2_with fail
      rw [hw0.out]
      refine (H1.out w0 hb0.out).mono ?_
      rintro e w1 ⟨rfl, hb1⟩
      have hbA := B_alloc hb1 (.cells #[.int .i64 s.1, .int .i64 s.2] 28)
      have hw1 := Lib.hid (B_trans hb0.out hbA)
      obtain ⟨n0, n1, -, -⟩ := (o2.out.below hbA).span
      clear q0 q1 q2 q3 q4 q5 q6 q7 d0 d1 d2 d3
      replace o3 := Lib.hid (o3.out.below hbA)
      clear hbA hb1
      go_wp2_with fail
      refine (H2.out _).mono ?_
      rintro e w2 ⟨rfl, hb2⟩
      have hw2 := Lib.hid (B_trans hw1.out hb2)
      obtain ⟨z0, z1, y0, y1⟩ := (o3.out.below hb2).span
      clear n0 n1 hb2 hw1
      go_wp2
      refine bodyPost_ret (v := .tuple #[.agg #[.int .i64 0, .int .i64 0], .int .i64 le]) (by simp [results, Try.results22, go_sem, z0, z1]) rfl ⟨rfl, ?_⟩
      exact (hw2.out.setCell (by simp only; omega) _).setCell (by simp only; omega) _
  · rw [if_pos h1]
    generalize strengthF r hs ws d = sf at H1 h1 ⊢
    obtain ⟨⟨s1, s2⟩, se⟩ := sf
    simp only at H1 h1 ⊢
    clear H2 hR
    go_enter Try.func22, Try.ntmps22
    go_wp2_with fail
    rw [hw0.out]
    refine (H1.out w0 hb0.out).mono ?_
    rintro e w1 ⟨rfl, hb1⟩
    have hbA := B_alloc hb1 (.cells #[.int .i64 s1, .int .i64 s2] 28)
    have hw1 := Lib.hid (B_trans hb0.out hbA)
    obtain ⟨z0, z1, y0, y1⟩ := (o3.out.below hbA).span
    clear q0 q1 q2 q3 q4 q5 q6 q7 d0 d1 d2 d3 hb1 hbA
    go_wp2
    refine bodyPost_ret (v := .tuple #[.agg #[.int .i64 0, .int .i64 0], .int .i64 se]) (by simp [results, Try.results22, go_sem, z0, z1]) rfl ⟨rfl, ?_⟩
    exact (hw1.out.setCell (by simp only; omega) _).setCell (by simp only; omega) _
set_option maxRecDepth 100000 in
set_option maxHeartbeats 8000000 in
theorem refGrowD_any (r : RuA) (hs ws : List T2) (d : T4) (n : T2) (w : World) (hR : RuR w r hs ws) :
    Calls Try.prog 23 #[.agg r.cs, .agg #[.int .i64 d.1, .int .i64 d.2.1, .int .i64 d.2.2.1, .int .i64 d.2.2.2], .agg #[.int .i64 n.1, .int .i64 n.2]] w fun e w' => e = .returned (.tuple #[.agg #[.int .i64 (growF r hs ws d n).1.1, .int .i64 (growF r hs ws d n).1.2], .int .i64 (growF r hs ws d n).2]) ∧ Below w.heap.size w w' := by
  obtain ⟨w0, hw0⟩ : ∃ w0, ((((w).alloc (.cells r.cs 25)).alloc (.cells #[.int .i64 d.1, .int .i64 d.2.1, .int .i64 d.2.2.1, .int .i64 d.2.2.2] 39)).alloc (.cells #[.int .i64 n.1, .int .i64 n.2] 28)).alloc (.cells #[.int .i64 0, .int .i64 0] 28) = w0 := ⟨_, rfl⟩
  have hb0 : Below w.heap.size w w0 := by rw [← hw0]; exact B_alloc (B_alloc (B_alloc (B_alloc (Below.refl _ _) _) _) _) _
  have o0 : Ob w0 (w.heap.size) 25 r.cs := by
    rw [← hw0]
    have h := Ob.new (w) r.cs 25
    replace h := h.alloc (.cells #[.int .i64 d.1, .int .i64 d.2.1, .int .i64 d.2.2.1, .int .i64 d.2.2.2] 39)
    replace h := h.alloc (.cells #[.int .i64 n.1, .int .i64 n.2] 28)
    replace h := h.alloc (.cells #[.int .i64 0, .int .i64 0] 28)
    exact h
  have o1 : Ob w0 (w.heap.size + 1) 39 #[.int .i64 d.1, .int .i64 d.2.1, .int .i64 d.2.2.1, .int .i64 d.2.2.2] := by
    rw [← hw0]
    have h := Ob.new ((w).alloc (.cells r.cs 25)) #[.int .i64 d.1, .int .i64 d.2.1, .int .i64 d.2.2.1, .int .i64 d.2.2.2] 39
    replace h := h.alloc (.cells #[.int .i64 n.1, .int .i64 n.2] 28)
    replace h := h.alloc (.cells #[.int .i64 0, .int .i64 0] 28)
    simp only [World.size_alloc] at h
    exact h
  have o2 : Ob w0 (w.heap.size + 1 + 1) 28 #[.int .i64 n.1, .int .i64 n.2] := by
    rw [← hw0]
    have h := Ob.new (((w).alloc (.cells r.cs 25)).alloc (.cells #[.int .i64 d.1, .int .i64 d.2.1, .int .i64 d.2.2.1, .int .i64 d.2.2.2] 39)) #[.int .i64 n.1, .int .i64 n.2] 28
    replace h := h.alloc (.cells #[.int .i64 0, .int .i64 0] 28)
    simp only [World.size_alloc] at h
    exact h
  have o3 : Ob w0 (w.heap.size + 1 + 1 + 1) 28 #[.int .i64 0, .int .i64 0] := by
    rw [← hw0]
    have h := Ob.new ((((w).alloc (.cells r.cs 25)).alloc (.cells #[.int .i64 d.1, .int .i64 d.2.1, .int .i64 d.2.2.1, .int .i64 d.2.2.2] 39)).alloc (.cells #[.int .i64 n.1, .int .i64 n.2] 28)) #[.int .i64 0, .int .i64 0] 28
    simp only [World.size_alloc] at h
    exact h
  have H1 := Lib.hid (fun W (h : Below w.heap.size w W) => refStrengthD_any r hs ws d W (hR.below h))
  have H2 := Lib.hid (fun W => refLevels_any n.1 n.2 W)
  unfold growF
  have l3 := o3.lt
  replace hw0 := Lib.hid hw0
  replace hb0 := Lib.hid hb0
  obtain ⟨q0, q1, q2, q3, q4, q5, q6, q7⟩ := o0.rule
  obtain ⟨d0, d1, d2, d3⟩ := o1.day
  replace o0 := Lib.hid o0
  replace o1 := Lib.hid o1
  replace o2 := Lib.hid o2
  replace o3 := Lib.hid o3
  by_cases h1 : (strengthF r hs ws d).2 = 0
  · rw [if_neg (by simpa using h1)]
    obtain ⟨hO, hsv⟩ := strengthF_ok h1
    rw [hsv] at H1
    have b1 := hO.str_bd d.1 d.2.2.1
    have b2 := hO.str_bd d.2.1 d.2.2.2
    obtain ⟨s, hs'⟩ : ∃ s, strS hs ws d = s := ⟨_, rfl⟩
    have hx1 : strengthS hs ws d.1 d.2.2.1 = s.1 := congrArg Prod.fst hs'
    have hx2 : strengthS hs ws d.2.1 d.2.2.2 = s.2 := congrArg Prod.snd hs'
    rw [hx1] at b1
    rw [hx2] at b2
    rw [hs'] at H1 ⊢
    clear hs' hx1 hx2 hsv h1 hR
    by_cases h2 : lvE n = 0
    · rw [if_neg (by simpa using h2)]
      have hl := lv_ok h2
      rw [h2] at H2
      obtain ⟨u, hu⟩ : ∃ u, (nextS r s n).1 = u := ⟨_, rfl⟩
      obtain ⟨v, hv⟩ : ∃ v, (nextS r s n).2 = v := ⟨_, rfl⟩
      have H3 := Lib.hid (fun W' => refLeast_any r hs ws n.1 s.1 s.2 W' hO hl.a.1 hl.a.2 b1.1 b1.2)
      have H4 := Lib.hid (fun W' => refMost_any r hs ws n.2 s.2 s.1 W' hO hl.b.1 hl.b.2 b2.1 b2.2)
      rw [show leastS r s.1 n.1 = u from hu] at H3
      rw [show mostS r s.2 n.2 = v from hv] at H4
      rw [hu, hv]
      clear h2 hl hu hv hO b1 b2
      go_enter Try.func23, Try.ntmps23
      go_wp2_with fail
      rw [hw0.out]
      refine (H1.out w0 hb0.out).mono ?_
      rintro e w1 ⟨rfl, hb1⟩
      have hbs := hb1.size
      have oS := Ob.new w1 #[.int .i64 s.1, .int .i64 s.2] 28
      have hbA := B_alloc hb1 (.cells #[.int .i64 s.1, .int .i64 s.2] 28)
      have hw1 := Lib.hid (B_trans hb0.out hbA)
      obtain ⟨n0, n1, -, -⟩ := (o2.out.below hbA).span
      clear q0 q1 q2 q3 q4 q5 q6 q7 d0 d1 d2 d3
      replace o0 := Lib.hid (o0.out.below hbA)
      replace o2 := Lib.hid (o2.out.below hbA)
      replace o3 := Lib.hid (o3.out.below hbA)
      replace oS := Lib.hid oS
      clear hbA hb1
      go_wp2_with fail
      refine (H2.out _).mono ?_
      rintro e w2 ⟨rfl, hb2⟩
      have hw2 := Lib.hid (B_trans hw1.out hb2)
      replace o0 := Lib.hid (o0.out.below hb2)
      replace o2 := Lib.hid (o2.out.below hb2)
      replace o3 := Lib.hid (o3.out.below hb2)
      replace oS := Lib.hid (oS.out.below hb2)
      clear n0 n1 hb2 hw1
      have I0 : Hid (I23 r s n w.heap.size w1.heap.size u v w 0 (fun _ => undef) w2.drew) := ⟨o0.out.drew, oS.out.drew, o2.out.drew, fun _ => o3.out.drew, fun h => by omega, hw2.out.drew, fun h => by omega, fun h => by omega⟩
      have hq : w.heap.size + 1 + 1 + 1 < w1.heap.size := by omega
      obtain ⟨B, hB⟩ : ∃ B, w.heap.size = B := ⟨_, rfl⟩
      have hwB : w.heap.size ≤ B := by omega
      obtain ⟨q, hqq⟩ : ∃ q, w1.heap.size = q := ⟨_, rfl⟩
      rw [hB, hqq] at I0
      rw [hB, hqq] at hq
      clear o0 o2 o3 oS hw2
      go_upto_region 6 with fail
      try rw [hB]
      try rw [hqq]
      refine wp_region_steps (I := I23 r s n B q u v w) (V := V23 r s n B u v) (eff := eff23) (need := need23) (till := till23) 3 (by kernel_rfl) (by decide) (by kernel_rfl) rfl (by kernel_rfl) (by kernel_rfl) (by kernel_rfl) (by kernel_rfl) (by kernel_rfl) I0.out ?steps ?hend
      case hend =>
        intro outs w' hI
        obtain ⟨e0, e1, -, -⟩ := (hI.e rfl).span
        have hb := Lib.hid hI.b
        clear hI
        simp only [flowAct, List.filterMap_cons, List.filterMap_nil, patch, List.setIfInBounds_toArray, List.set_cons_zero, List.set_cons_succ]
        go_wp2
        refine bodyPost_ret (v := .tuple #[.agg #[.int .i64 u, .int .i64 v], .int .i64 0]) (by simp [results, Try.results23, go_sem, e0, e1]; rfl) rfl ⟨rfl, hb.out⟩
      case steps =>
        refine ⟨⟨rfl, fun t ht k' outs u _ => by cases ht; rfl, fun k' outs W' ρ hk1 hk2 hI hc hg h_fn hr ho => ?_⟩, ?_⟩
        · have hk2' : k' ≤ 2 := hk2
          have o3 := ho 3 (by kernel_rfl)
          obtain ⟨c0, c1, c2, c3, c4, c5, c6, c7⟩ := hI.R.rule
          clear hI
          refine step_pure rfl (v := .agg r.cs) (fun t ht => by cases ht; rfl) ?_
          go_simp
        refine ⟨⟨rfl, fun t ht k' outs u _ => by cases ht; rfl, fun k' outs W' ρ hk1 hk2 hI hc hg h_fn hr ho => ?_⟩, ?_⟩
        · have hk2' : k' ≤ 2 := hk2
          have o8 := ho 8 (by kernel_rfl)
          obtain ⟨s0, s1, -, -⟩ := hI.S.span
          clear hI
          refine step_pure rfl (v := .agg #[.int .i64 s.1, .int .i64 s.2]) (fun t ht => by cases ht; rfl) ?_
          go_simp
        refine ⟨⟨rfl, fun t ht k' outs u _ => by cases ht; rfl, fun k' outs W' ρ hk1 hk2 hI hc hg h_fn hr ho => ?_⟩, ?_⟩
        · have hk2' : k' ≤ 2 := hk2
          have o5 := ho 5 (by kernel_rfl)
          clear hI
          refine step_pure rfl (v := .pointer (some ⟨B + 1 + 1, 0, none⟩)) (fun t ht => by cases ht; rfl) ?_
          go_simp
        refine ⟨⟨rfl, fun t ht k' outs u _ => by cases ht; rfl, fun k' outs W' ρ hk1 hk2 hI hc hg h_fn hr ho => ?_⟩, ?_⟩
        · have hk2' : k' ≤ 2 := hk2
          have r26 : ρ (.tmp 26) = .pointer (some ⟨B + 1 + 1, 0, none⟩) := hr 26 (by kernel_rfl)
          obtain ⟨n0, n1, -, -⟩ := hI.N.span
          clear hI
          refine step_pure rfl (v := .int .i64 n.1) (fun t ht => by cases ht; rfl) ?_
          go_simp
        refine ⟨⟨rfl, fun t ht k' outs u (h : 0 < k') => by cases ht; show upd outs k' u 0 = outs 0; unfold upd; rw [if_neg (by omega)], fun k' outs W' ρ hk1 hk2 hI hc hg h_fn hr ho => ?_⟩, ?_⟩
        · obtain rfl : k' = 0 := by have h1 : 0 ≤ k' := hk1; have h2 : k' ≤ 0 := hk2; omega
          have r24 : ρ (.tmp 24) = .agg r.cs := hr 24 (by kernel_rfl)
          have r25 : ρ (.tmp 25) = .agg #[.int .i64 s.1, .int .i64 s.2] := hr 25 (by kernel_rfl)
          have r27 : ρ (.tmp 27) = .int .i64 n.1 := hr 27 (by kernel_rfl)
          have hfn := h_fn 64
          refine step_call rfl (f := 64) (args := #[.agg r.cs, .agg #[.int .i64 s.1, .int .i64 s.2], .int .i64 n.1]) (w' := W') ?_ ?_
          · clear hI; go_simp
          · refine (H3.out W').mono ?_
            rintro e w2 ⟨rfl, hb2⟩
            exact ⟨_, rfl, ⟨hI.R.below hb2, hI.S.below hb2, hI.N.below hb2, fun _ => (hI.z (by omega)).below hb2, fun h => by omega, B_trans hI.b hb2, fun h => rfl, fun h => by omega⟩, fun t ht => by cases ht; rfl⟩
        refine ⟨⟨rfl, fun t ht k' outs u _ => by cases ht; rfl, fun k' outs W' ρ hk1 hk2 hI hc hg h_fn hr ho => ?_⟩, ?_⟩
        · have hk2' : k' ≤ 2 := hk2
          have o3 := ho 3 (by kernel_rfl)
          obtain ⟨c0, c1, c2, c3, c4, c5, c6, c7⟩ := hI.R.rule
          clear hI
          refine step_pure rfl (v := .agg r.cs) (fun t ht => by cases ht; rfl) ?_
          go_simp
        refine ⟨⟨rfl, fun t ht k' outs u _ => by cases ht; rfl, fun k' outs W' ρ hk1 hk2 hI hc hg h_fn hr ho => ?_⟩, ?_⟩
        · have hk2' : k' ≤ 2 := hk2
          have o8 := ho 8 (by kernel_rfl)
          obtain ⟨s0, s1, -, -⟩ := hI.S.span
          clear hI
          refine step_pure rfl (v := .agg #[.int .i64 s.1, .int .i64 s.2]) (fun t ht => by cases ht; rfl) ?_
          go_simp
        refine ⟨⟨rfl, fun t ht k' outs u _ => by cases ht; rfl, fun k' outs W' ρ hk1 hk2 hI hc hg h_fn hr ho => ?_⟩, ?_⟩
        · have hk2' : k' ≤ 2 := hk2
          have o5 := ho 5 (by kernel_rfl)
          clear hI
          refine step_pure rfl (v := .pointer (some ⟨B + 1 + 1, 1, none⟩)) (fun t ht => by cases ht; rfl) ?_
          go_simp
        refine ⟨⟨rfl, fun t ht k' outs u _ => by cases ht; rfl, fun k' outs W' ρ hk1 hk2 hI hc hg h_fn hr ho => ?_⟩, ?_⟩
        · have hk2' : k' ≤ 2 := hk2
          have r31 : ρ (.tmp 31) = .pointer (some ⟨B + 1 + 1, 1, none⟩) := hr 31 (by kernel_rfl)
          obtain ⟨n0, n1, -, -⟩ := hI.N.span
          clear hI
          refine step_pure rfl (v := .int .i64 n.2) (fun t ht => by cases ht; rfl) ?_
          go_simp
        refine ⟨⟨rfl, fun t ht k' outs u (h : 1 < k') => by cases ht; show upd outs k' u 1 = outs 1; unfold upd; rw [if_neg (by omega)], fun k' outs W' ρ hk1 hk2 hI hc hg h_fn hr ho => ?_⟩, ?_⟩
        · obtain rfl : k' = 1 := by have h1 : 1 ≤ k' := hk1; have h2 : k' ≤ 1 := hk2; omega
          have r29 : ρ (.tmp 29) = .agg r.cs := hr 29 (by kernel_rfl)
          have r30 : ρ (.tmp 30) = .agg #[.int .i64 s.1, .int .i64 s.2] := hr 30 (by kernel_rfl)
          have r32 : ρ (.tmp 32) = .int .i64 n.2 := hr 32 (by kernel_rfl)
          have hfn := h_fn 65
          refine step_call rfl (f := 65) (args := #[.agg r.cs, .agg #[.int .i64 s.1, .int .i64 s.2], .int .i64 n.2]) (w' := W') ?_ ?_
          · clear hI; go_simp
          · refine (H4.out W').mono ?_
            rintro e w2 ⟨rfl, hb2⟩
            exact ⟨_, rfl, ⟨hI.R.below hb2, hI.S.below hb2, hI.N.below hb2, fun _ => (hI.z (by omega)).below hb2, fun h => by omega, B_trans hI.b hb2, fun h => hI.o0 (by omega), fun h => rfl⟩, fun t ht => by cases ht; rfl⟩
        refine ⟨⟨rfl, fun t ht k' outs u _ => by cases ht; rfl, fun k' outs W' ρ hk1 hk2 hI hc hg h_fn hr ho => ?_⟩, ?_⟩
        · have hk2' : k' ≤ 2 := hk2
          have hk1' : 2 ≤ k' := hk1
          have r28 : ρ (.tmp 28) = .int .i64 u := (hr 28 (by kernel_rfl)).trans (hI.o0 (by omega))
          have r33 : ρ (.tmp 33) = .int .i64 v := (hr 33 (by kernel_rfl)).trans (hI.o1 (by omega))
          clear hI
          refine step_pure rfl (v := .agg #[.int .i64 u, .int .i64 v]) (fun t ht => by cases ht; rfl) ?_
          go_simp
        refine ⟨⟨rfl, (fun t ht => by cases ht), fun k' outs W' ρ hk1 hk2 hI hc hg h_fn hr ho => ?_⟩, ?_⟩
        · obtain rfl : k' = 2 := by have h1 : 2 ≤ k' := hk1; have h2 : k' ≤ 2 := hk2; omega
          have o6 := ho 6 (by kernel_rfl)
          have r34 : ρ (.tmp 34) = .agg #[.int .i64 u, .int .i64 v] := hr 34 (by kernel_rfl)
          have o4' := hI.z (by omega)
          obtain ⟨v0, v1, g0, g1⟩ := o4'.span
          refine step_store rfl rfl (w' := (W'.setCell ⟨B + 1 + 1 + 1, 0, none⟩ (.int .i64 u)).setCell ⟨B + 1 + 1 + 1, 1, none⟩ (.int .i64 v)) ?_ ⟨(hI.R.other (by simp only; omega) _).other (by simp only; omega) _, (hI.S.other (by simp only; omega) _).other (by simp only; omega) _, (hI.N.other (by simp only; omega) _).other (by simp only; omega) _, fun h => by omega, fun _ => (o4'.set 0 _).set 1 _, (hI.b.setCell (by simp only; omega) _).setCell (by simp only; omega) _, fun h => hI.o0 (by omega), fun h => hI.o1 (by omega)⟩
          clear hI o4'; go_simp
        refine ⟨⟨rfl, fun t ht k' outs u _ => by cases ht; rfl, fun k' outs W' ρ hk1 hk2 hI hc hg h_fn hr ho => ?_⟩, trivial⟩
        · have hk2' : k' ≤ 3 := hk2
          have hk1' : 3 ≤ k' := hk1
          clear hI
          refine step_pure rfl (v := .int .i64 0) (fun t ht => by cases ht; rfl) ?_
          go_simp
    · rw [if_pos h2]
      generalize lvE n = le at H2 h2 ⊢
      clear hO b1 b2
      go_enter Try.func23, Try.ntmps23
      go_wp2_with fail
      rw [hw0.out]
      refine (H1.out w0 hb0.out).mono ?_
      rintro e w1 ⟨rfl, hb1⟩
      have hbA := B_alloc hb1 (.cells #[.int .i64 s.1, .int .i64 s.2] 28)
      have hw1 := Lib.hid (B_trans hb0.out hbA)
      obtain ⟨n0, n1, -, -⟩ := (o2.out.below hbA).span
      clear q0 q1 q2 q3 q4 q5 q6 q7 d0 d1 d2 d3
      replace o3 := Lib.hid (o3.out.below hbA)
      clear hbA hb1
      go_wp2_with fail
      refine (H2.out _).mono ?_
      rintro e w2 ⟨rfl, hb2⟩
      have hw2 := Lib.hid (B_trans hw1.out hb2)
      obtain ⟨z0, z1, y0, y1⟩ := (o3.out.below hb2).span
      clear n0 n1 hb2 hw1
      go_wp2
      refine bodyPost_ret (v := .tuple #[.agg #[.int .i64 0, .int .i64 0], .int .i64 le]) (by simp [results, Try.results23, go_sem, z0, z1]) rfl ⟨rfl, ?_⟩
      exact (hw2.out.setCell (by simp only; omega) _).setCell (by simp only; omega) _
  · rw [if_pos h1]
    generalize strengthF r hs ws d = sf at H1 h1 ⊢
    obtain ⟨⟨s1, s2⟩, se⟩ := sf
    simp only at H1 h1 ⊢
    clear H2 hR
    go_enter Try.func23, Try.ntmps23
    go_wp2_with fail
    rw [hw0.out]
    refine (H1.out w0 hb0.out).mono ?_
    rintro e w1 ⟨rfl, hb1⟩
    have hbA := B_alloc hb1 (.cells #[.int .i64 s1, .int .i64 s2] 28)
    have hw1 := Lib.hid (B_trans hb0.out hbA)
    obtain ⟨z0, z1, y0, y1⟩ := (o3.out.below hbA).span
    clear q0 q1 q2 q3 q4 q5 q6 q7 d0 d1 d2 d3 hb1 hbA
    go_wp2
    refine bodyPost_ret (v := .tuple #[.agg #[.int .i64 0, .int .i64 0], .int .i64 se]) (by simp [results, Try.results23, go_sem, z0, z1]) rfl ⟨rfl, ?_⟩
    exact (hw1.out.setCell (by simp only; omega) _).setCell (by simp only; omega) _
end Go.Proofs.Ytanjkhclhcnnaaa

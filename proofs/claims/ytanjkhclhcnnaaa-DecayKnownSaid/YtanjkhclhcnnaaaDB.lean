/- The reference's strength. -/
import Derived.Test.YtanjkhclhcnnaaaDA
namespace Go.Proofs.Ytanjkhclhcnnaaa
open Go.RowKit Go.Shelf

structure I62 (r : RuA) (B : Nat) (a b c d f1 f2 f3 f4 : Int) (w : World) (k : Nat) (outs : Nat → Value) (W : World) : Prop where
  R : Ob W B 25 r.cs
  D : Ob W (B + 1) 39 #[.int .i64 a, .int .i64 b, .int .i64 c, .int .i64 d]
  z : k < 5 → Ob W (B + 1 + 1) 28 #[.int .i64 0, .int .i64 0]
  e : k = 5 → Ob W (B + 1 + 1) 28 #[.int .i64 (f1 * f2 / 1000), .int .i64 (f3 * f4 / 1000)]
  b : Below w.heap.size w W
  o0 : 1 ≤ k → outs 0 = .int .i64 f1
  o1 : 2 ≤ k → outs 1 = .int .i64 f2
  o2 : 3 ≤ k → outs 2 = .int .i64 f3
  o3 : 4 ≤ k → outs 3 = .int .i64 f4
def V62 (r : RuA) (B : Nat) (a b c d f1 f2 f3 f4 : Int) (outs : Nat → Value) : Nat → Value
  | 5 => .pointer (some ⟨B, 0, none⟩)
  | 6 => .slice r.ha r.hn r.hc
  | 7 => .pointer (some ⟨B + 1, 0, none⟩)
  | 8 => .pointer (some ⟨B + 1, 0, none⟩)
  | 9 => .int .i64 a
  | 10 => outs 0
  | 11 => .pointer (some ⟨B, 1, none⟩)
  | 12 => .slice r.wa r.wn r.wc
  | 13 => .pointer (some ⟨B + 1, 2, none⟩)
  | 14 => .pointer (some ⟨B + 1, 2, none⟩)
  | 15 => .int .i64 c
  | 16 => outs 1
  | 17 => .int .i64 (f1 * f2)
  | 18 => .int .i64 (f1 * f2 / 1000)
  | 19 => .pointer (some ⟨B, 0, none⟩)
  | 20 => .slice r.ha r.hn r.hc
  | 21 => .pointer (some ⟨B + 1, 0, none⟩)
  | 22 => .pointer (some ⟨B + 1, 1, none⟩)
  | 23 => .int .i64 b
  | 24 => outs 2
  | 25 => .pointer (some ⟨B, 1, none⟩)
  | 26 => .slice r.wa r.wn r.wc
  | 27 => .pointer (some ⟨B + 1, 2, none⟩)
  | 28 => .pointer (some ⟨B + 1, 3, none⟩)
  | 29 => .int .i64 d
  | 30 => outs 3
  | 31 => .int .i64 (f3 * f4)
  | 32 => .int .i64 (f3 * f4 / 1000)
  | 33 => .agg #[.int .i64 (f1 * f2 / 1000), .int .i64 (f3 * f4 / 1000)]
  | _ => undef
def need62 : Nat → Nat := fun i => [0, 0, 0, 0, 0, 0, 0, 0, 0, 0, 0, 1, 2, 2, 0, 0, 0, 0, 0, 2, 0, 0, 0, 0, 0, 3, 4, 4, 4, 4].getD i 0
def till62 : Nat → Nat := fun i => [4, 4, 4, 4, 4, 0, 4, 4, 4, 4, 4, 1, 4, 4, 4, 4, 4, 4, 4, 2, 4, 4, 4, 4, 4, 3, 4, 4, 4, 4].getD i 0
def eff62 : Nat → Bool := fun i => [false, false, false, false, false, true, false, false, false, false, false, true, false, false, false, false, false, false, false, true, false, false, false, false, false, true, false, false, false, true].getD i false

set_option maxRecDepth 100000 in
set_option maxHeartbeats 4000000 in
theorem refStrength_any (r : RuA) (hs ws : List T2) (a b c d : Int) (w : World) (hR : RuR w r hs ws) (hO : RuOK r hs ws) :
    Calls Try.prog 62 #[.agg r.cs, .agg #[.int .i64 a, .int .i64 b, .int .i64 c, .int .i64 d]] w fun e w' => e = .returned (.agg #[.int .i64 (strengthS hs ws a c), .int .i64 (strengthS hs ws b d)]) ∧ Below w.heap.size w w' := by
  obtain ⟨w0, hw0⟩ : ∃ w0, ((w.alloc (.cells r.cs 25)).alloc (.cells #[.int .i64 a, .int .i64 b, .int .i64 c, .int .i64 d] 39)).alloc (.cells #[.int .i64 0, .int .i64 0] 28) = w0 := ⟨_, rfl⟩
  have hb0 : Below w.heap.size w w0 := by rw [← hw0]; exact B_alloc (B_alloc (B_alloc (Below.refl _ _) _) _) _
  have hR0 : Ob w0 w.heap.size 25 r.cs := by rw [← hw0]; exact ((Ob.new w _ _).alloc _).alloc _
  have hD0 : Ob w0 (w.heap.size + 1) 39 #[.int .i64 a, .int .i64 b, .int .i64 c, .int .i64 d] := by
    rw [← hw0]
    have h := (Ob.new (w.alloc (.cells r.cs 25)) #[.int .i64 a, .int .i64 b, .int .i64 c, .int .i64 d] 39).alloc (.cells #[.int .i64 0, .int .i64 0] 28)
    rw [World.size_alloc] at h
    exact h
  have hZ0 : Ob w0 (w.heap.size + 1 + 1) 28 #[.int .i64 0, .int .i64 0] := by
    rw [← hw0]
    have h := Ob.new ((w.alloc (.cells r.cs 25)).alloc (.cells #[.int .i64 a, .int .i64 b, .int .i64 c, .int .i64 d] 39)) #[.int .i64 0, .int .i64 0] 28
    rw [World.size_alloc, World.size_alloc] at h
    exact h
  have H1 := Lib.hid (fun W (h : Below w.heap.size w W) => refFactor_any hs r.ha r.hn r.hc a (-300) 600 W (hR.h.below h) hO.h (by omega) (by omega))
  have H2 := Lib.hid (fun W (h : Below w.heap.size w W) => refFactor_any ws r.wa r.wn r.wc c 0 1000 W (hR.w.below h) hO.w (by omega) (by omega))
  have H3 := Lib.hid (fun W (h : Below w.heap.size w W) => refFactor_any hs r.ha r.hn r.hc b (-300) 600 W (hR.h.below h) hO.h (by omega) (by omega))
  have H4 := Lib.hid (fun W (h : Below w.heap.size w W) => refFactor_any ws r.wa r.wn r.wc d 0 1000 W (hR.w.below h) hO.w (by omega) (by omega))
  have h1 := hO.h.factor_bd a
  have h2 := hO.w.factor_bd c
  have h3 := hO.h.factor_bd b
  have h4 := hO.w.factor_bd d
  unfold strengthS
  generalize factorS hs a = f1 at H1 h1 ⊢
  generalize factorS ws c = f2 at H2 h2 ⊢
  generalize factorS hs b = f3 at H3 h3 ⊢
  generalize factorS ws d = f4 at H4 h4 ⊢
  have m1 := Int.mul_nonneg h1.1 h2.1
  have m2 : f1 * f2 ≤ 1000 * 1000 := Int.mul_le_mul h1.2 h2.2 h2.1 (by omega)
  have m3 := Int.mul_nonneg h3.1 h4.1
  have m4 : f3 * f4 ≤ 1000 * 1000 := Int.mul_le_mul h3.2 h4.2 h4.1 (by omega)
  have u1 : IntKind.i64.wrap (f1 * f2) = f1 * f2 := IntWalk.i64_in _ (by omega)
  have u2 : (f1 * f2).tdiv 1000 = f1 * f2 / 1000 := Int.tdiv_eq_ediv_of_nonneg m1
  have u3 : IntKind.i64.wrap (f1 * f2 / 1000) = f1 * f2 / 1000 := IntWalk.i64_in _ (by omega)
  have u4 : IntKind.i64.wrap (f3 * f4) = f3 * f4 := IntWalk.i64_in _ (by omega)
  have u5 : (f3 * f4).tdiv 1000 = f3 * f4 / 1000 := Int.tdiv_eq_ediv_of_nonneg m3
  have u6 : IntKind.i64.wrap (f3 * f4 / 1000) = f3 * f4 / 1000 := IntWalk.i64_in _ (by omega)
  have I0 : Hid (I62 r w.heap.size a b c d f1 f2 f3 f4 w 0 (fun _ => undef) w0.drew) := ⟨hR0.drew, hD0.drew, fun _ => hZ0.drew, fun h => by omega, hb0.drew, fun h => by omega, fun h => by omega, fun h => by omega, fun h => by omega⟩
  clear hR hO hR0 hD0 hZ0 hb0 h1 h2 h3 h4
  replace hw0 := Lib.hid hw0
  go_enter Try.func62, Try.ntmps62
  go_wp2_with fail
  rw [hw0.out]
  have hBw : w.heap.size ≤ w.heap.size := Nat.le_refl _
  obtain ⟨B, hB⟩ : ∃ B, w.heap.size = B := ⟨_, rfl⟩
  have hwB : w.heap.size ≤ B := by omega
  rw [hB] at I0 ⊢
  refine wp_region_steps (I := I62 r B a b c d f1 f2 f3 f4 w) (V := V62 r B a b c d f1 f2 f3 f4) (eff := eff62) (need := need62) (till := till62) 5 (by kernel_rfl) (by decide) (by kernel_rfl) rfl (by kernel_rfl) (by kernel_rfl) (by kernel_rfl) (by kernel_rfl) (by kernel_rfl) I0.out ?steps ?hend
  case hend =>
    intro outs w' hI
    have hE := hI.e rfl
    have e0 := hE.cell 0
    have e1 := hE.cell 1
    simp only [List.getElem?_toArray, List.getElem?_cons_zero, List.getElem?_cons_succ] at e0 e1
    have hb := Lib.hid hI.b
    clear hI hE
    simp only [flowAct, List.filterMap_cons, List.filterMap_nil, patch, List.setIfInBounds_toArray, List.set_cons_zero, List.set_cons_succ]
    go_wp2
    refine bodyPost_ret (v := .agg #[.int .i64 (f1 * f2 / 1000), .int .i64 (f3 * f4 / 1000)]) (by simp [results, Try.results62, go_sem, e0, e1]) rfl ⟨rfl, by have := hb.out; rwa [hB] at this⟩
  case steps =>
    refine ⟨⟨rfl, fun t ht k' outs u _ => by cases ht; rfl, fun k' outs W' ρ hk1 hk2 hI hc hg h_fn hr ho => ?_⟩, ?_⟩
    · have hk2' : k' ≤ 4 := hk2
      have o2 := ho 2 (by kernel_rfl)
      clear hI
      refine step_pure rfl (v := .pointer (some ⟨B, 0, none⟩)) (fun t ht => by cases ht; rfl) ?_
      go_simp
    refine ⟨⟨rfl, fun t ht k' outs u _ => by cases ht; rfl, fun k' outs W' ρ hk1 hk2 hI hc hg h_fn hr ho => ?_⟩, ?_⟩
    · have hk2' : k' ≤ 4 := hk2
      have r5 : ρ (.tmp 5) = .pointer (some ⟨B, 0, none⟩) := hr 5 (by kernel_rfl)
      obtain ⟨c0, c1, -⟩ := hI.R.rule
      clear hI
      refine step_pure rfl (v := .slice r.ha r.hn r.hc) (fun t ht => by cases ht; rfl) ?_
      go_simp
    refine ⟨⟨rfl, fun t ht k' outs u _ => by cases ht; rfl, fun k' outs W' ρ hk1 hk2 hI hc hg h_fn hr ho => ?_⟩, ?_⟩
    · have hk2' : k' ≤ 4 := hk2
      have o3 := ho 3 (by kernel_rfl)
      clear hI
      refine step_pure rfl (v := .pointer (some ⟨B + 1, 0, none⟩)) (fun t ht => by cases ht; rfl) ?_
      go_simp
    refine ⟨⟨rfl, fun t ht k' outs u _ => by cases ht; rfl, fun k' outs W' ρ hk1 hk2 hI hc hg h_fn hr ho => ?_⟩, ?_⟩
    · have hk2' : k' ≤ 4 := hk2
      have r7 : ρ (.tmp 7) = .pointer (some ⟨B + 1, 0, none⟩) := hr 7 (by kernel_rfl)
      clear hI
      refine step_pure rfl (v := .pointer (some ⟨B + 1, 0, none⟩)) (fun t ht => by cases ht; rfl) ?_
      go_simp
    refine ⟨⟨rfl, fun t ht k' outs u _ => by cases ht; rfl, fun k' outs W' ρ hk1 hk2 hI hc hg h_fn hr ho => ?_⟩, ?_⟩
    · have hk2' : k' ≤ 4 := hk2
      have r8 : ρ (.tmp 8) = .pointer (some ⟨B + 1, 0, none⟩) := hr 8 (by kernel_rfl)
      have cd := hI.D.cell 0
      simp only [List.getElem?_toArray, List.getElem?_cons_zero] at cd
      clear hI
      refine step_pure rfl (v := .int .i64 a) (fun t ht => by cases ht; rfl) ?_
      go_simp
    refine ⟨⟨rfl, fun t ht k' outs u (h : 0 < k') => by cases ht; show upd outs k' u 0 = outs 0; unfold upd; rw [if_neg (by omega)], fun k' outs W' ρ hk1 hk2 hI hc hg h_fn hr ho => ?_⟩, ?_⟩
    · obtain rfl : k' = 0 := by have h1 : 0 ≤ k' := hk1; have h2 : k' ≤ 0 := hk2; omega
      have r6 : ρ (.tmp 6) = .slice r.ha r.hn r.hc := hr 6 (by kernel_rfl)
      have r9 : ρ (.tmp 9) = .int .i64 a := hr 9 (by kernel_rfl)
      have hfn := h_fn 84
      refine step_call rfl (f := 84) (args := #[.slice r.ha r.hn r.hc, .int .i64 a]) (w' := W') ?_ ?_
      · clear hI; go_simp
      · refine (H1.out W' hI.b).mono ?_
        rintro e w2 ⟨rfl, hb2⟩
        exact ⟨_, rfl, ⟨hI.R.below hb2, hI.D.below hb2, fun _ => (hI.z (by omega)).below hb2, fun h => by omega, B_trans hI.b hb2, fun h => rfl, fun h => by omega, fun h => by omega, fun h => by omega⟩, fun t ht => by cases ht; rfl⟩
    refine ⟨⟨rfl, fun t ht k' outs u _ => by cases ht; rfl, fun k' outs W' ρ hk1 hk2 hI hc hg h_fn hr ho => ?_⟩, ?_⟩
    · have hk2' : k' ≤ 4 := hk2
      have o2 := ho 2 (by kernel_rfl)
      clear hI
      refine step_pure rfl (v := .pointer (some ⟨B, 1, none⟩)) (fun t ht => by cases ht; rfl) ?_
      go_simp
    refine ⟨⟨rfl, fun t ht k' outs u _ => by cases ht; rfl, fun k' outs W' ρ hk1 hk2 hI hc hg h_fn hr ho => ?_⟩, ?_⟩
    · have hk2' : k' ≤ 4 := hk2
      have r11 : ρ (.tmp 11) = .pointer (some ⟨B, 1, none⟩) := hr 11 (by kernel_rfl)
      obtain ⟨c0, c1, -⟩ := hI.R.rule
      clear hI
      refine step_pure rfl (v := .slice r.wa r.wn r.wc) (fun t ht => by cases ht; rfl) ?_
      go_simp
    refine ⟨⟨rfl, fun t ht k' outs u _ => by cases ht; rfl, fun k' outs W' ρ hk1 hk2 hI hc hg h_fn hr ho => ?_⟩, ?_⟩
    · have hk2' : k' ≤ 4 := hk2
      have o3 := ho 3 (by kernel_rfl)
      clear hI
      refine step_pure rfl (v := .pointer (some ⟨B + 1, 2, none⟩)) (fun t ht => by cases ht; rfl) ?_
      go_simp
    refine ⟨⟨rfl, fun t ht k' outs u _ => by cases ht; rfl, fun k' outs W' ρ hk1 hk2 hI hc hg h_fn hr ho => ?_⟩, ?_⟩
    · have hk2' : k' ≤ 4 := hk2
      have r13 : ρ (.tmp 13) = .pointer (some ⟨B + 1, 2, none⟩) := hr 13 (by kernel_rfl)
      clear hI
      refine step_pure rfl (v := .pointer (some ⟨B + 1, 2, none⟩)) (fun t ht => by cases ht; rfl) ?_
      go_simp
    refine ⟨⟨rfl, fun t ht k' outs u _ => by cases ht; rfl, fun k' outs W' ρ hk1 hk2 hI hc hg h_fn hr ho => ?_⟩, ?_⟩
    · have hk2' : k' ≤ 4 := hk2
      have r14 : ρ (.tmp 14) = .pointer (some ⟨B + 1, 2, none⟩) := hr 14 (by kernel_rfl)
      have cd := hI.D.cell 2
      simp only [List.getElem?_toArray, List.getElem?_cons_zero, List.getElem?_cons_succ] at cd
      clear hI
      refine step_pure rfl (v := .int .i64 c) (fun t ht => by cases ht; rfl) ?_
      go_simp
    refine ⟨⟨rfl, fun t ht k' outs u (h : 1 < k') => by cases ht; show upd outs k' u 1 = outs 1; unfold upd; rw [if_neg (by omega)], fun k' outs W' ρ hk1 hk2 hI hc hg h_fn hr ho => ?_⟩, ?_⟩
    · obtain rfl : k' = 1 := by have h1 : 1 ≤ k' := hk1; have h2 : k' ≤ 1 := hk2; omega
      have r12 : ρ (.tmp 12) = .slice r.wa r.wn r.wc := hr 12 (by kernel_rfl)
      have r15 : ρ (.tmp 15) = .int .i64 c := hr 15 (by kernel_rfl)
      have hfn := h_fn 84
      refine step_call rfl (f := 84) (args := #[.slice r.wa r.wn r.wc, .int .i64 c]) (w' := W') ?_ ?_
      · clear hI; go_simp
      · refine (H2.out W' hI.b).mono ?_
        rintro e w2 ⟨rfl, hb2⟩
        exact ⟨_, rfl, ⟨hI.R.below hb2, hI.D.below hb2, fun _ => (hI.z (by omega)).below hb2, fun h => by omega, B_trans hI.b hb2, fun h => hI.o0 (by omega), fun h => rfl, fun h => by omega, fun h => by omega⟩, fun t ht => by cases ht; rfl⟩
    refine ⟨⟨rfl, fun t ht k' outs u _ => by cases ht; rfl, fun k' outs W' ρ hk1 hk2 hI hc hg h_fn hr ho => ?_⟩, ?_⟩
    · have hk2' : k' ≤ 4 := hk2
      have hk1' : 2 ≤ k' := hk1
      have r10 : ρ (.tmp 10) = .int .i64 f1 := (hr 10 (by kernel_rfl)).trans (hI.o0 (by omega))
      have r16 : ρ (.tmp 16) = .int .i64 f2 := (hr 16 (by kernel_rfl)).trans (hI.o1 (by omega))
      clear hI
      refine step_pure rfl (v := .int .i64 (f1 * f2)) (fun t ht => by cases ht; rfl) ?_
      go_simp
    refine ⟨⟨rfl, fun t ht k' outs u _ => by cases ht; rfl, fun k' outs W' ρ hk1 hk2 hI hc hg h_fn hr ho => ?_⟩, ?_⟩
    · have hk2' : k' ≤ 4 := hk2
      have hk1' : 2 ≤ k' := hk1
      have r17 : ρ (.tmp 17) = .int .i64 (f1 * f2) := hr 17 (by kernel_rfl)
      clear hI
      refine step_pure rfl (v := .int .i64 (f1 * f2 / 1000)) (fun t ht => by cases ht; rfl) ?_
      go_simp
    refine ⟨⟨rfl, fun t ht k' outs u _ => by cases ht; rfl, fun k' outs W' ρ hk1 hk2 hI hc hg h_fn hr ho => ?_⟩, ?_⟩
    · have hk2' : k' ≤ 4 := hk2
      have o2 := ho 2 (by kernel_rfl)
      clear hI
      refine step_pure rfl (v := .pointer (some ⟨B, 0, none⟩)) (fun t ht => by cases ht; rfl) ?_
      go_simp
    refine ⟨⟨rfl, fun t ht k' outs u _ => by cases ht; rfl, fun k' outs W' ρ hk1 hk2 hI hc hg h_fn hr ho => ?_⟩, ?_⟩
    · have hk2' : k' ≤ 4 := hk2
      have r19 : ρ (.tmp 19) = .pointer (some ⟨B, 0, none⟩) := hr 19 (by kernel_rfl)
      obtain ⟨c0, c1, -⟩ := hI.R.rule
      clear hI
      refine step_pure rfl (v := .slice r.ha r.hn r.hc) (fun t ht => by cases ht; rfl) ?_
      go_simp
    refine ⟨⟨rfl, fun t ht k' outs u _ => by cases ht; rfl, fun k' outs W' ρ hk1 hk2 hI hc hg h_fn hr ho => ?_⟩, ?_⟩
    · have hk2' : k' ≤ 4 := hk2
      have o3 := ho 3 (by kernel_rfl)
      clear hI
      refine step_pure rfl (v := .pointer (some ⟨B + 1, 0, none⟩)) (fun t ht => by cases ht; rfl) ?_
      go_simp
    refine ⟨⟨rfl, fun t ht k' outs u _ => by cases ht; rfl, fun k' outs W' ρ hk1 hk2 hI hc hg h_fn hr ho => ?_⟩, ?_⟩
    · have hk2' : k' ≤ 4 := hk2
      have r21 : ρ (.tmp 21) = .pointer (some ⟨B + 1, 0, none⟩) := hr 21 (by kernel_rfl)
      clear hI
      refine step_pure rfl (v := .pointer (some ⟨B + 1, 1, none⟩)) (fun t ht => by cases ht; rfl) ?_
      go_simp
    refine ⟨⟨rfl, fun t ht k' outs u _ => by cases ht; rfl, fun k' outs W' ρ hk1 hk2 hI hc hg h_fn hr ho => ?_⟩, ?_⟩
    · have hk2' : k' ≤ 4 := hk2
      have r22 : ρ (.tmp 22) = .pointer (some ⟨B + 1, 1, none⟩) := hr 22 (by kernel_rfl)
      have cd := hI.D.cell 1
      simp only [List.getElem?_toArray, List.getElem?_cons_zero, List.getElem?_cons_succ] at cd
      clear hI
      refine step_pure rfl (v := .int .i64 b) (fun t ht => by cases ht; rfl) ?_
      go_simp
    refine ⟨⟨rfl, fun t ht k' outs u (h : 2 < k') => by cases ht; show upd outs k' u 2 = outs 2; unfold upd; rw [if_neg (by omega)], fun k' outs W' ρ hk1 hk2 hI hc hg h_fn hr ho => ?_⟩, ?_⟩
    · obtain rfl : k' = 2 := by have h1 : 2 ≤ k' := hk1; have h2 : k' ≤ 2 := hk2; omega
      have r20 : ρ (.tmp 20) = .slice r.ha r.hn r.hc := hr 20 (by kernel_rfl)
      have r23 : ρ (.tmp 23) = .int .i64 b := hr 23 (by kernel_rfl)
      have hfn := h_fn 84
      refine step_call rfl (f := 84) (args := #[.slice r.ha r.hn r.hc, .int .i64 b]) (w' := W') ?_ ?_
      · clear hI; go_simp
      · refine (H3.out W' hI.b).mono ?_
        rintro e w2 ⟨rfl, hb2⟩
        exact ⟨_, rfl, ⟨hI.R.below hb2, hI.D.below hb2, fun _ => (hI.z (by omega)).below hb2, fun h => by omega, B_trans hI.b hb2, fun h => hI.o0 (by omega), fun h => hI.o1 (by omega), fun h => rfl, fun h => by omega⟩, fun t ht => by cases ht; rfl⟩
    refine ⟨⟨rfl, fun t ht k' outs u _ => by cases ht; rfl, fun k' outs W' ρ hk1 hk2 hI hc hg h_fn hr ho => ?_⟩, ?_⟩
    · have hk2' : k' ≤ 4 := hk2
      have o2 := ho 2 (by kernel_rfl)
      clear hI
      refine step_pure rfl (v := .pointer (some ⟨B, 1, none⟩)) (fun t ht => by cases ht; rfl) ?_
      go_simp
    refine ⟨⟨rfl, fun t ht k' outs u _ => by cases ht; rfl, fun k' outs W' ρ hk1 hk2 hI hc hg h_fn hr ho => ?_⟩, ?_⟩
    · have hk2' : k' ≤ 4 := hk2
      have r25 : ρ (.tmp 25) = .pointer (some ⟨B, 1, none⟩) := hr 25 (by kernel_rfl)
      obtain ⟨c0, c1, -⟩ := hI.R.rule
      clear hI
      refine step_pure rfl (v := .slice r.wa r.wn r.wc) (fun t ht => by cases ht; rfl) ?_
      go_simp
    refine ⟨⟨rfl, fun t ht k' outs u _ => by cases ht; rfl, fun k' outs W' ρ hk1 hk2 hI hc hg h_fn hr ho => ?_⟩, ?_⟩
    · have hk2' : k' ≤ 4 := hk2
      have o3 := ho 3 (by kernel_rfl)
      clear hI
      refine step_pure rfl (v := .pointer (some ⟨B + 1, 2, none⟩)) (fun t ht => by cases ht; rfl) ?_
      go_simp
    refine ⟨⟨rfl, fun t ht k' outs u _ => by cases ht; rfl, fun k' outs W' ρ hk1 hk2 hI hc hg h_fn hr ho => ?_⟩, ?_⟩
    · have hk2' : k' ≤ 4 := hk2
      have r27 : ρ (.tmp 27) = .pointer (some ⟨B + 1, 2, none⟩) := hr 27 (by kernel_rfl)
      clear hI
      refine step_pure rfl (v := .pointer (some ⟨B + 1, 3, none⟩)) (fun t ht => by cases ht; rfl) ?_
      go_simp
    refine ⟨⟨rfl, fun t ht k' outs u _ => by cases ht; rfl, fun k' outs W' ρ hk1 hk2 hI hc hg h_fn hr ho => ?_⟩, ?_⟩
    · have hk2' : k' ≤ 4 := hk2
      have r28 : ρ (.tmp 28) = .pointer (some ⟨B + 1, 3, none⟩) := hr 28 (by kernel_rfl)
      have cd := hI.D.cell 3
      simp only [List.getElem?_toArray, List.getElem?_cons_zero, List.getElem?_cons_succ] at cd
      clear hI
      refine step_pure rfl (v := .int .i64 d) (fun t ht => by cases ht; rfl) ?_
      go_simp
    refine ⟨⟨rfl, fun t ht k' outs u (h : 3 < k') => by cases ht; show upd outs k' u 3 = outs 3; unfold upd; rw [if_neg (by omega)], fun k' outs W' ρ hk1 hk2 hI hc hg h_fn hr ho => ?_⟩, ?_⟩
    · obtain rfl : k' = 3 := by have h1 : 3 ≤ k' := hk1; have h2 : k' ≤ 3 := hk2; omega
      have r26 : ρ (.tmp 26) = .slice r.wa r.wn r.wc := hr 26 (by kernel_rfl)
      have r29 : ρ (.tmp 29) = .int .i64 d := hr 29 (by kernel_rfl)
      have hfn := h_fn 84
      refine step_call rfl (f := 84) (args := #[.slice r.wa r.wn r.wc, .int .i64 d]) (w' := W') ?_ ?_
      · clear hI; go_simp
      · refine (H4.out W' hI.b).mono ?_
        rintro e w2 ⟨rfl, hb2⟩
        exact ⟨_, rfl, ⟨hI.R.below hb2, hI.D.below hb2, fun _ => (hI.z (by omega)).below hb2, fun h => by omega, B_trans hI.b hb2, fun h => hI.o0 (by omega), fun h => hI.o1 (by omega), fun h => hI.o2 (by omega), fun h => rfl⟩, fun t ht => by cases ht; rfl⟩
    refine ⟨⟨rfl, fun t ht k' outs u _ => by cases ht; rfl, fun k' outs W' ρ hk1 hk2 hI hc hg h_fn hr ho => ?_⟩, ?_⟩
    · have hk2' : k' ≤ 4 := hk2
      have hk1' : 4 ≤ k' := hk1
      have r24 : ρ (.tmp 24) = .int .i64 f3 := (hr 24 (by kernel_rfl)).trans (hI.o2 (by omega))
      have r30 : ρ (.tmp 30) = .int .i64 f4 := (hr 30 (by kernel_rfl)).trans (hI.o3 (by omega))
      clear hI
      refine step_pure rfl (v := .int .i64 (f3 * f4)) (fun t ht => by cases ht; rfl) ?_
      go_simp
    refine ⟨⟨rfl, fun t ht k' outs u _ => by cases ht; rfl, fun k' outs W' ρ hk1 hk2 hI hc hg h_fn hr ho => ?_⟩, ?_⟩
    · have hk2' : k' ≤ 4 := hk2
      have hk1' : 4 ≤ k' := hk1
      have r31 : ρ (.tmp 31) = .int .i64 (f3 * f4) := hr 31 (by kernel_rfl)
      clear hI
      refine step_pure rfl (v := .int .i64 (f3 * f4 / 1000)) (fun t ht => by cases ht; rfl) ?_
      go_simp
    refine ⟨⟨rfl, fun t ht k' outs u _ => by cases ht; rfl, fun k' outs W' ρ hk1 hk2 hI hc hg h_fn hr ho => ?_⟩, ?_⟩
    · have hk2' : k' ≤ 4 := hk2
      have hk1' : 4 ≤ k' := hk1
      have r18 : ρ (.tmp 18) = .int .i64 (f1 * f2 / 1000) := hr 18 (by kernel_rfl)
      have r32 : ρ (.tmp 32) = .int .i64 (f3 * f4 / 1000) := hr 32 (by kernel_rfl)
      clear hI
      refine step_pure rfl (v := .agg #[.int .i64 (f1 * f2 / 1000), .int .i64 (f3 * f4 / 1000)]) (fun t ht => by cases ht; rfl) ?_
      go_simp
    refine ⟨⟨rfl, (fun t ht => by cases ht), fun k' outs W' ρ hk1 hk2 hI hc hg h_fn hr ho => ?_⟩, trivial⟩
    · obtain rfl : k' = 4 := by have h1 : 4 ≤ k' := hk1; have h2 : k' ≤ 4 := hk2; omega
      have o4 := ho 4 (by kernel_rfl)
      have r33 : ρ (.tmp 33) = .agg #[.int .i64 (f1 * f2 / 1000), .int .i64 (f3 * f4 / 1000)] := hr 33 (by kernel_rfl)
      have o4' := hI.z (by omega)
      have v0 := o4'.cell 0
      have v1 := o4'.cell 1
      have g0 := o4'.frozen 0
      have g1 := o4'.frozen 1
      simp only [List.getElem?_toArray, List.getElem?_cons_zero, List.getElem?_cons_succ] at v0 v1
      refine step_store rfl rfl (w' := (W'.setCell ⟨B + 1 + 1, 0, none⟩ (.int .i64 (f1 * f2 / 1000))).setCell ⟨B + 1 + 1, 1, none⟩ (.int .i64 (f3 * f4 / 1000))) ?_ ⟨(hI.R.other (by simp only; omega) _).other (by simp only; omega) _, (hI.D.other (by simp only; omega) _).other (by simp only; omega) _, fun h => by omega, fun _ => (o4'.set 0 _).set 1 _, (hI.b.setCell (by simp only; omega) _).setCell (by simp only; omega) _, fun h => hI.o0 (by omega), fun h => hI.o1 (by omega), fun h => hI.o2 (by omega), fun h => hI.o3 (by omega)⟩
      clear hI o4'; go_simp
end Go.Proofs.Ytanjkhclhcnnaaa

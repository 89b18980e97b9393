/- The laws FilmFeet and FilmTurned. -/
import Derived.Test.YtgjpbffoalldkaaGreatDoorXI
namespace Go.Proofs.YtgjpbffoalldkaaGreatDoor
open Go.RowKit

/-- What a call of Awake gives. -/
abbrev AwakeSaid : Prop := ∀ W, Glob W → Calls Tryz.prog 18 #[] W fun e w' => e = .returned (.bool true) ∧ Below W.heap.size W w'

set_option maxRecDepth 100000 in
theorem feetLaw_any (hA : AwakeSaid) (g x0 x1 x2 : Int) (w : World) (G : Glob w) :
    Calls Tryz.prog 5 #[.int .i64 g, .agg #[.int .i64 x0, .int .i64 x1, .int .i64 x2]] w fun e w' => e = .returned (.bool true) ∧ Below w.heap.size w w' := by
  have HF := Lib.hid (fun W h => feet_any g x0 W h)
  have HR := Lib.hid (fun W => refFeet_any g x0 W)
  have HN := Lib.hid (fun W h => frames_any g x1 x2 W h)
  have HM := Lib.hid (fun W => refFrames_any g x1 x2 W)
  have HA := Lib.hid hA
  unfold feetV at HF HR
  unfold framesV at HN HM
  generalize feetS g x0 = p at HF HR
  generalize framesS g x1 x2 = q at HN HM
  obtain ⟨p1, p2, p3⟩ := p
  obtain ⟨q1, q2⟩ := q
  simp only at HF HR HN HM
  clear hA
  go_enter Tryz.func5, Tryz.ntmps5
  go_wp2_with (first
    | (go_at_call 21; refine (HF.out _ (G.alloc _)).mono ?_; rintro e w1 ⟨rfl, hb1⟩; have B1 := Lib.hid (B_trans (B_alloc (Below.refl _ _) _) hb1); have hc1 := (bcell hb1).1; have hz1 : w.heap.size < w1.heap.size := (by have := hb1.size; simp at this; omega))
    | (go_at_call 22; refine (HR.out _).mono ?_; rintro e w2 ⟨rfl, hb2⟩; have B2 := Lib.hid (B_trans B1.out hb2); have hc2 := (bcell hb2).1; have hz2 : w.heap.size < w2.heap.size := (by have := hb2.size; omega))
    | (go_at_call 23; refine (HN.out _ (G.below G.hz B2.out)).mono ?_; rintro e w3 ⟨rfl, hb3⟩; have B3 := Lib.hid (B_trans B2.out hb3); have hc3 := (bcell hb3).1; have hz3 : w.heap.size < w3.heap.size := (by have := hb3.size; omega))
    | (go_at_call 24; refine (HM.out _).mono ?_; rintro e w4 ⟨rfl, rfl⟩)
    | (go_at_call 18; refine (HA.out _ (G.below G.hz B3.out)).mono ?_; rintro e w5 ⟨rfl, hb5⟩))
  all_goals (go_ret; exact ⟨rfl, B_trans B3.out hb5⟩)

theorem turned1 {g n : Int} (h : (feetS g n).2.2 = 0) : framesS g (feetS g n).1 (feetS g n).2.1 = (n, 0) := by
  rcases gauge_or g with ⟨f, m, hg⟩ | ⟨h1, h2, h3⟩
  · by_cases hn : inB n 0 200000 = true
    · rw [feetS_yes hg hn]
      have hb := inB_iff.1 hn
      have key : inB (n / f) 0 200000 = true ∧ inB (n % f) 0 (f - 1) = true ∧ n / f * f + n % f = n := by
        simp only [inB_iff]
        rcases hg with ⟨rfl, rfl, rfl⟩ | ⟨rfl, rfl, rfl⟩ | ⟨rfl, rfl, rfl⟩ <;> omega
      rw [framesS_ok hg key.1 key.2.1 (by rw [key.2.2]; exact hb.2), key.2.2]
    · simp only [Bool.not_eq_true] at hn
      rw [feetS_far hg hn] at h
      cases h
  · rw [feetS_no h1 h2 h3] at h
    cases h
theorem framesS_cases (g a b : Int) : (framesS g a b).2 = 0 ∧ feetS g (framesS g a b).1 = (a, b, 0) ∨ ((framesS g a b).2 != 0) = true ∧ (framesS g a b).1 = 0 := by
  rcases gauge_or g with ⟨f, m, hg⟩ | ⟨h1, h2, h3⟩
  · by_cases h : inB a 0 200000 = true ∧ inB b 0 (f - 1) = true ∧ a * f + b ≤ 200000
    · obtain ⟨h1, h2, h3⟩ := h
      rw [framesS_ok hg h1 h2 h3]
      refine .inl ⟨rfl, ?_⟩
      have hb1 := inB_iff.1 h1
      have hb2 := inB_iff.1 h2
      have key : inB (a * f + b) 0 200000 = true ∧ (a * f + b) / f = a ∧ (a * f + b) % f = b := by
        simp only [inB_iff]
        rcases hg with ⟨rfl, rfl, rfl⟩ | ⟨rfl, rfl, rfl⟩ | ⟨rfl, rfl, rfl⟩ <;> omega
      rw [feetS_yes hg key.1, key.2.1, key.2.2]
    · rw [framesS_far hg fun h1 h2 h3 => h ⟨h1, h2, h3⟩]
      exact .inr ⟨by decide, rfl⟩
  · rw [framesS_no h1 h2 h3]
    exact .inr ⟨by decide, rfl⟩

set_option maxRecDepth 100000 in
theorem turnedLaw_any (hA : AwakeSaid) (g x0 x1 x2 : Int) (w : World) (G : Glob w) :
    Calls Tryz.prog 13 #[.int .i64 g, .agg #[.int .i64 x0, .int .i64 x1, .int .i64 x2]] w fun e w' => e = .returned (.bool true) ∧ Below w.heap.size w w' := by
  have HF := Lib.hid (fun W h => feet_any g x0 W h)
  have H1 := fun (h : (feetS g x0).2.2 = 0) => (turned1 h)
  have HN1 := Lib.hid (fun W h => frames_any g (feetS g x0).1 (feetS g x0).2.1 W h)
  have HN := Lib.hid (fun W h => frames_any g x1 x2 W h)
  have H2 := framesS_cases g x1 x2
  have HF2 := Lib.hid (fun W h => feet_any g (framesS g x1 x2).1 W h)
  have HA := Lib.hid hA
  unfold feetV at HF HF2
  unfold framesV at HN HN1
  generalize framesS g x1 x2 = q at HN H2 HF2
  generalize feetS g x0 = p at HF H1 HN1
  obtain ⟨p1, p2, p3⟩ := p
  obtain ⟨q1, q2⟩ := q
  simp only at HF HN HN1 H1 H2 HF2
  clear hA
  by_cases hp : p3 = 0
  · subst hp
    rw [H1 rfl] at HN1
    simp only at HN1
    clear H1
    rcases H2 with ⟨rfl, h2⟩ | ⟨h2, rfl⟩
    · rw [h2] at HF2
      simp only at HF2
      clear h2
      go_enter Tryz.func13, Tryz.ntmps13
      go_wp2_with (first
        | (go_at_call 21; (with_reducible refine (HF.out _ (G.alloc _)).mono ?_); rintro e w1 ⟨rfl, hb1⟩; have B1 := Lib.hid (B_trans (B_alloc (Below.refl _ _) _) hb1); have hc1 := (bcell hb1).1; have hz1 : w.heap.size < w1.heap.size := (by have := hb1.size; simp at this; omega))
        | (go_at_call 23; (with_reducible refine (HN1.out _ (G.below G.hz B1.out)).mono ?_); rintro e w2 ⟨rfl, hb2⟩; have B2 := Lib.hid (B_trans B1.out hb2); have hc2 := (bcell hb2).1; have hz2 : w.heap.size < w2.heap.size := (by have := hb2.size; omega))
        | (go_at_call 23; (with_reducible refine (HN.out _ (G.below G.hz B2.out)).mono ?_); rintro e w3 ⟨rfl, hb3⟩; have B3 := Lib.hid (B_trans B2.out hb3); have hc3 := (bcell hb3).1; have hz3 : w.heap.size < w3.heap.size := (by have := hb3.size; omega))
        | (go_at_call 21; (with_reducible refine (HF2.out _ (G.below G.hz B3.out)).mono ?_); rintro e w4 ⟨rfl, hb4⟩; have B4 := Lib.hid (B_trans B3.out hb4); have hc4 := (bcell hb4).1; have hz4 : w.heap.size < w4.heap.size := (by have := hb4.size; omega))
        | (go_at_call 18; refine (HA.out _ (G.below G.hz B4.out)).mono ?_; rintro e w5 ⟨rfl, hb5⟩))
      all_goals (go_ret; exact ⟨rfl, B_trans B4.out hb5⟩)
    · go_enter Tryz.func13, Tryz.ntmps13
      go_wp2_with (first
        | (go_at_call 21; (with_reducible refine (HF.out _ (G.alloc _)).mono ?_); rintro e w1 ⟨rfl, hb1⟩; have B1 := Lib.hid (B_trans (B_alloc (Below.refl _ _) _) hb1); have hc1 := (bcell hb1).1; have hz1 : w.heap.size < w1.heap.size := (by have := hb1.size; simp at this; omega))
        | (go_at_call 23; (with_reducible refine (HN1.out _ (G.below G.hz B1.out)).mono ?_); rintro e w2 ⟨rfl, hb2⟩; have B2 := Lib.hid (B_trans B1.out hb2); have hc2 := (bcell hb2).1; have hz2 : w.heap.size < w2.heap.size := (by have := hb2.size; omega))
        | (go_at_call 23; (with_reducible refine (HN.out _ (G.below G.hz B2.out)).mono ?_); rintro e w3 ⟨rfl, hb3⟩; have B3 := Lib.hid (B_trans B2.out hb3); have hc3 := (bcell hb3).1; have hz3 : w.heap.size < w3.heap.size := (by have := hb3.size; omega))
        | (go_at_call 18; refine (HA.out _ (G.below G.hz B3.out)).mono ?_; rintro e w5 ⟨rfl, hb5⟩))
      all_goals (go_ret; exact ⟨rfl, B_trans B3.out hb5⟩)
  · have hp' : (p3 == 0) = false := by simpa using hp
    clear H1 hp HN1
    rcases H2 with ⟨rfl, h2⟩ | ⟨h2, rfl⟩
    · rw [h2] at HF2
      simp only at HF2
      clear h2
      go_enter Tryz.func13, Tryz.ntmps13
      go_wp2_with (first
        | (go_at_call 21; (with_reducible refine (HF.out _ (G.alloc _)).mono ?_); rintro e w1 ⟨rfl, hb1⟩; have B1 := Lib.hid (B_trans (B_alloc (Below.refl _ _) _) hb1); have hc1 := (bcell hb1).1; have hz1 : w.heap.size < w1.heap.size := (by have := hb1.size; simp at this; omega))
        | (go_at_call 23; (with_reducible refine (HN.out _ (G.below G.hz B1.out)).mono ?_); rintro e w3 ⟨rfl, hb3⟩; have B3 := Lib.hid (B_trans B1.out hb3); have hc3 := (bcell hb3).1; have hz3 : w.heap.size < w3.heap.size := (by have := hb3.size; omega))
        | (go_at_call 21; (with_reducible refine (HF2.out _ (G.below G.hz B3.out)).mono ?_); rintro e w4 ⟨rfl, hb4⟩; have B4 := Lib.hid (B_trans B3.out hb4); have hc4 := (bcell hb4).1; have hz4 : w.heap.size < w4.heap.size := (by have := hb4.size; omega))
        | (go_at_call 18; refine (HA.out _ (G.below G.hz B4.out)).mono ?_; rintro e w5 ⟨rfl, hb5⟩))
      all_goals (go_ret; exact ⟨rfl, B_trans B4.out hb5⟩)
    · go_enter Tryz.func13, Tryz.ntmps13
      go_wp2_with (first
        | (go_at_call 21; (with_reducible refine (HF.out _ (G.alloc _)).mono ?_); rintro e w1 ⟨rfl, hb1⟩; have B1 := Lib.hid (B_trans (B_alloc (Below.refl _ _) _) hb1); have hc1 := (bcell hb1).1; have hz1 : w.heap.size < w1.heap.size := (by have := hb1.size; simp at this; omega))
        | (go_at_call 23; (with_reducible refine (HN.out _ (G.below G.hz B1.out)).mono ?_); rintro e w3 ⟨rfl, hb3⟩; have B3 := Lib.hid (B_trans B1.out hb3); have hc3 := (bcell hb3).1; have hz3 : w.heap.size < w3.heap.size := (by have := hb3.size; omega))
        | (go_at_call 18; refine (HA.out _ (G.below G.hz B3.out)).mono ?_; rintro e w5 ⟨rfl, hb5⟩))
      all_goals (go_ret; exact ⟨rfl, B_trans B3.out hb5⟩)
end Go.Proofs.YtgjpbffoalldkaaGreatDoor

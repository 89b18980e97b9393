/- The walks of film.Frames, of the reference's Feet and Frames. -/
import Derived.Test.YtgjpbffoalldkaaGreatDoorWC
import Derived.Deep.QuietTactic
namespace Go.Proofs.YtgjpbffoalldkaaGreatDoor
open Go.RowKit

theorem quiet_left {P : Program} {f : FuncId} {args : Array Value} {w : World} {n : Nat} {v : Value}
    (h : Calls P f args (w.drewN n) fun e w' => e = .returned v ∧ w.drewN n = w') : Calls P f args (w.drewN n) fun e w'' => e = .returned v ∧ ∃ m, w'' = w.drewN m :=
  h.mono fun _ _ ⟨he, hm⟩ => ⟨he, n, hm.symm⟩

/-- What Frames returns. -/
def footG (g : Int) : Int := if g = 35 then 16 else if g = 16 then 40 else 80
def framesS (g a b : Int) : Int × Int :=
  if g = 35 ∨ g = 16 ∨ g = 8 then
    if inB a 0 200000 && inB b 0 (footG g - 1) && decide (a * footG g + b ≤ 200000) then (a * footG g + b, 0) else (0, 7)
  else (0, 2)
def framesV (g a b : Int) : Value := .tuple #[.int .i64 (framesS g a b).1, .int .i64 (framesS g a b).2]
theorem framesV_of {g a b x y : Int} (h : framesS g a b = (x, y)) : Ending.returned (.tuple #[.int .i64 x, .int .i64 y]) = .returned (framesV g a b) := by rw [framesV, h]
theorem framesS_no {g a b : Int} (h1 : (g == 35) = false) (h2 : (g == 16) = false) (h3 : (g == 8) = false) : framesS g a b = (0, 2) := by
  simp at h1 h2 h3
  simp [framesS, h1, h2, h3]
theorem Gauge.footG {g f m : Int} (hg : Gauge g f m) : (g = 35 ∨ g = 16 ∨ g = 8) ∧ footG g = f := by
  rcases hg with ⟨rfl, rfl, rfl⟩ | ⟨rfl, rfl, rfl⟩ | ⟨rfl, rfl, rfl⟩ <;> exact ⟨by decide, by decide⟩
theorem framesS_ok {g f m a b : Int} (hg : Gauge g f m) (h1 : inB a 0 200000 = true) (h2 : inB b 0 (f - 1) = true) (h3 : a * f + b ≤ 200000) : framesS g a b = (a * f + b, 0) := by
  rw [framesS, if_pos hg.footG.1, hg.footG.2, if_pos (by simp [h1, h2, h3])]
theorem framesS_far {g f m a b : Int} (hg : Gauge g f m) (h : inB a 0 200000 = true → inB b 0 (f - 1) = true → ¬ a * f + b ≤ 200000) : framesS g a b = (0, 7) := by
  rw [framesS, if_pos hg.footG.1, hg.footG.2, if_neg]
  intro h'
  rw [Bool.and_eq_true, Bool.and_eq_true, decide_eq_true_eq] at h'
  exact h h'.1.1 h'.1.2 h'.2
theorem inB_iff {n lo hi : Int} : inB n lo hi = true ↔ lo ≤ n ∧ n ≤ hi := by simp [inB]
theorem inB_not {n lo hi : Int} : inB n lo hi = false ↔ ¬ (lo ≤ n ∧ n ≤ hi) := by rw [← inB_iff]; simp
/-- Feet within the limit of a gauge. -/
theorem Gauge.feet {g f m a : Int} (hg : Gauge g f m) : (inB a 0 (200000 / f) = true → 0 ≤ a * f ∧ a * f ≤ 200000 ∧ inB a 0 200000 = true) ∧ (inB a 0 (200000 / f) = false → ∀ b, inB a 0 200000 = true → inB b 0 (f - 1) = true → ¬ a * f + b ≤ 200000) ∧ (inB a 0 200000 = true → 0 ≤ a * f ∧ a * f ≤ 16000000) := by
  simp only [inB_iff, inB_not]
  rcases hg with ⟨rfl, rfl, rfl⟩ | ⟨rfl, rfl, rfl⟩ | ⟨rfl, rfl, rfl⟩
  all_goals refine ⟨fun h => ?_, fun h b h1 h2 => ?_, fun h => ?_⟩ <;> omega

theorem frames_any (g a b : Int) (w : World) (G : Glob w) :
    Calls Tryz.prog 23 #[.int .i64 g, .int .i64 a, .int .i64 b] w fun e w' => e = .returned (framesV g a b) ∧ Below w.heap.size w w' := by
  rcases gauge_or g with ⟨f, m, hg⟩ | ⟨h1, h2, h3⟩
  · obtain ⟨f1, f2, -⟩ := hg.bd
    obtain ⟨k1, k2, -⟩ := hg.feet (a := a)
    have HS := Lib.hid (fun W (h : Glob W) => stockOf_yes g f m W h hg)
    have HW := Lib.hid (fun n lo hi W => within_any n lo hi W)
    have hf0 : f ≠ 0 := by omega
    cases h1 : inB a 0 (200000 / f) with
    | true =>
      obtain ⟨p1, p2, h1'⟩ := k1 h1
      cases h2 : inB b 0 (f - 1) with
      | true =>
        obtain ⟨hb0, hb1⟩ := inB_iff.1 h2
        by_cases h3 : a * f + b ≤ 200000
        · have hv := Lib.hid (framesV_of (framesS_ok hg h1' h2 h3))
          clear k1 k2 hg
          go_enter Tryz.func23, Tryz.ntmps23
          go_wp2_with (first
            | (go_at_call 56; refine (HS.out _ G).mono ?_; rintro e w1 ⟨rfl, hb⟩)
            | (go_at_call 57; refine (HW.out _ _ _ _).mono ?_; rintro e w1 ⟨rfl, rfl⟩))
          go_ret2
          exact ⟨hv.out, B_alloc hb _⟩
        · have hv := Lib.hid (framesV_of (framesS_far hg fun _ _ => h3))
          clear k1 k2 hg
          go_enter Tryz.func23, Tryz.ntmps23
          go_wp2_with (first
            | (go_at_call 56; refine (HS.out _ G).mono ?_; rintro e w1 ⟨rfl, hb⟩)
            | (go_at_call 57; refine (HW.out _ _ _ _).mono ?_; rintro e w1 ⟨rfl, rfl⟩))
          go_ret2
          exact ⟨hv.out, B_alloc hb _⟩
      | false =>
        have hv := Lib.hid (framesV_of (framesS_far (a := a) (b := b) hg fun _ h => by rw [h2] at h; cases h))
        clear k1 k2 hg
        go_enter Tryz.func23, Tryz.ntmps23
        go_wp2_with (first
          | (go_at_call 56; refine (HS.out _ G).mono ?_; rintro e w1 ⟨rfl, hb⟩)
          | (go_at_call 57; refine (HW.out _ _ _ _).mono ?_; rintro e w1 ⟨rfl, rfl⟩))
        go_ret2
        exact ⟨hv.out, B_alloc hb _⟩
    | false =>
      have hv := Lib.hid (framesV_of (framesS_far hg (k2 h1 b)))
      clear k1 k2 hg
      go_enter Tryz.func23, Tryz.ntmps23
      go_wp2_with (first
        | (go_at_call 56; refine (HS.out _ G).mono ?_; rintro e w1 ⟨rfl, hb⟩)
        | (go_at_call 57; refine (HW.out _ _ _ _).mono ?_; rintro e w1 ⟨rfl, rfl⟩))
      go_ret2
      exact ⟨hv.out, B_alloc hb _⟩
  · have hv := Lib.hid (framesV_of (a := a) (b := b) (framesS_no h1 h2 h3))
    have HS := Lib.hid (fun W => stockOf_no g W h1 h2 h3)
    clear h1 h2 h3
    go_enter Tryz.func23, Tryz.ntmps23
    go_wp2_with (go_at_call 56; refine (HS.out _).mono ?_; rintro e w1 ⟨rfl, hb⟩)
    go_ret2
    exact ⟨hv.out, B_alloc hb _⟩

theorem refFeet_any (g n : Int) (w : World) :
    Calls Tryz.prog 22 #[.int .i64 g, .int .i64 n] w fun e w' => e = .returned (feetV g n) ∧ Below w.heap.size w w' := by
  have HI := Lib.hid (fun n lo hi W => in_any n lo hi W)
  rcases gauge_or g with ⟨f, m, hg⟩ | ⟨h1, h2, h3⟩
  · obtain ⟨f1, f2, -⟩ := hg.bd
    have HF := Lib.hid (fun W => foot_yes g f m W hg)
    have hf0 : (f == 0) = false := by simp; omega
    have hf0' : f ≠ 0 := by omega
    by_cases hn : inB n 0 200000 = true
    · have hv := Lib.hid (feetV_of (feetS_yes hg hn))
      obtain ⟨n1, n2⟩ := inB_iff.1 hn
      clear hg
      go_enter Tryz.func22, Tryz.ntmps22
      go_wp2_with (first
        | (go_at_call 42; refine (HF.out _).mono ?_; rintro e w1 ⟨rfl, rfl⟩)
        | (go_at_call 49; refine (HI.out _ _ _ _).mono ?_; rintro e w1 ⟨rfl, rfl⟩))
      go_quiet ((go_at_call 42; exact quiet_left (HF.out _)))
      go_wp2
      go_ret3
      exact ⟨hv.out, B_drewN (Below.refl _ _) _⟩
    · simp only [Bool.not_eq_true] at hn
      have hv := Lib.hid (feetV_of (feetS_far hg hn))
      clear hg
      go_enter Tryz.func22, Tryz.ntmps22
      go_wp2_with (first
        | (go_at_call 42; refine (HF.out _).mono ?_; rintro e w1 ⟨rfl, rfl⟩)
        | (go_at_call 49; refine (HI.out _ _ _ _).mono ?_; rintro e w1 ⟨rfl, rfl⟩))
      go_ret3
      exact ⟨hv.out, Below.refl _ _⟩
  · have hv := Lib.hid (feetV_of (n := n) (feetS_no h1 h2 h3))
    have HF := Lib.hid (fun W => foot_no g W h1 h2 h3)
    clear h1 h2 h3
    go_enter Tryz.func22, Tryz.ntmps22
    go_wp2_with (go_at_call 42; refine (HF.out _).mono ?_; rintro e w1 ⟨rfl, rfl⟩)
    go_ret3
    exact ⟨hv.out, Below.refl _ _⟩

theorem refFrames_any (g a b : Int) (w : World) :
    Calls Tryz.prog 24 #[.int .i64 g, .int .i64 a, .int .i64 b] w fun e w' => e = .returned (framesV g a b) ∧ w = w' := by
  have HI := Lib.hid (fun n lo hi W => in_any n lo hi W)
  rcases gauge_or g with ⟨f, m, hg⟩ | ⟨h1, h2, h3⟩
  · obtain ⟨f1, f2, -⟩ := hg.bd
    have HF := Lib.hid (fun W => foot_yes g f m W hg)
    have hf0 : (f == 0) = false := by simp; omega
    obtain ⟨-, -, k3⟩ := hg.feet (a := a)
    cases h1 : inB a 0 200000 with
    | true =>
      obtain ⟨p1, p2⟩ := k3 h1
      cases h2 : inB b 0 (f - 1) with
      | true =>
        obtain ⟨hb0, hb1⟩ := inB_iff.1 h2
        by_cases h3 : a * f + b ≤ 200000
        · have hv := Lib.hid (framesV_of (framesS_ok hg h1 h2 h3))
          clear k3 hg
          go_enter Tryz.func24, Tryz.ntmps24
          go_wp2_with (first
            | (go_at_call 42; refine (HF.out _).mono ?_; rintro e w1 ⟨rfl, rfl⟩)
            | (go_at_call 49; refine (HI.out _ _ _ _).mono ?_; rintro e w1 ⟨rfl, rfl⟩))
          go_ret2
          exact ⟨hv.out, rfl⟩
        · have hv := Lib.hid (framesV_of (framesS_far hg fun _ _ => h3))
          clear k3 hg
          go_enter Tryz.func24, Tryz.ntmps24
          go_wp2_with (first
            | (go_at_call 42; refine (HF.out _).mono ?_; rintro e w1 ⟨rfl, rfl⟩)
            | (go_at_call 49; refine (HI.out _ _ _ _).mono ?_; rintro e w1 ⟨rfl, rfl⟩))
          go_ret2
          exact ⟨hv.out, rfl⟩
      | false =>
        have hv := Lib.hid (framesV_of (framesS_far (a := a) (b := b) hg fun _ h => by rw [h2] at h; cases h))
        clear k3 hg
        go_enter Tryz.func24, Tryz.ntmps24
        go_wp2_with (first
          | (go_at_call 42; refine (HF.out _).mono ?_; rintro e w1 ⟨rfl, rfl⟩)
          | (go_at_call 49; refine (HI.out _ _ _ _).mono ?_; rintro e w1 ⟨rfl, rfl⟩))
        go_ret2
        exact ⟨hv.out, rfl⟩
    | false =>
      have hv := Lib.hid (framesV_of (framesS_far (a := a) (b := b) hg fun h => by rw [h1] at h; cases h))
      clear k3 hg
      go_enter Tryz.func24, Tryz.ntmps24
      go_wp2_with (first
        | (go_at_call 42; refine (HF.out _).mono ?_; rintro e w1 ⟨rfl, rfl⟩)
        | (go_at_call 49; refine (HI.out _ _ _ _).mono ?_; rintro e w1 ⟨rfl, rfl⟩))
      go_ret2
      exact ⟨hv.out, rfl⟩
  · have hv := Lib.hid (framesV_of (a := a) (b := b) (framesS_no h1 h2 h3))
    have HF := Lib.hid (fun W => foot_no g W h1 h2 h3)
    clear h1 h2 h3
    go_enter Tryz.func24, Tryz.ntmps24
    go_wp2_with (go_at_call 42; refine (HF.out _).mono ?_; rintro e w1 ⟨rfl, rfl⟩)
    go_ret2
    exact ⟨hv.out, rfl⟩
end Go.Proofs.YtgjpbffoalldkaaGreatDoor

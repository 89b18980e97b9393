/- Walks of the small functions. -/
import Derived.Test.YtgjpbffoalldkaaGreatDoorProg
import Derived.Test.YtgjpbffoalldkaaGreatDoorWM
import Derived.WalkKit
import Derived.WalkSpells
import Derived.WalkLawsBesides
import Derived.Lib.Hide
import Derived.Lib.LaidTab
import Derived.Lib.ItoaNum
import Derived.KernelRfl
import Derived.BigQuiet
import Derived.Deep.QuietTactic
namespace Go.Proofs.YtgjpbffoalldkaaGreatDoor
open Go.RowKit

theorem ret_bool {a b : Bool} (h : a = b) : Ending.returned (.bool a) = .returned (.bool b) := by rw [h]

theorem within_any (n lo hi : Int) (w : World) :
    Calls Tryz.prog 57 #[.int .i64 n, .int .i64 lo, .int .i64 hi] w fun e w' => e = .returned (.bool (inB n lo hi)) ∧ w = w' := by
  have h1 : lo ≤ n ∧ n ≤ hi → inB n lo hi = true := fun h => by simp [inB, h.1, h.2]
  have h2 : lo ≤ n → ¬ n ≤ hi → inB n lo hi = false := fun h h' => by simp [inB, h, h']
  have h3 : ¬ lo ≤ n → inB n lo hi = false := fun h => by simp [inB, h]
  have H1 := Lib.hid h1; have H2 := Lib.hid h2; have H3 := Lib.hid h3
  clear h1 h2 h3
  by_cases a : lo ≤ n
  · by_cases b : n ≤ hi
    · go_enter Tryz.func57, Tryz.ntmps57
      go_wp2
      go_ret
      exact ⟨ret_bool (H1.out ⟨a, b⟩).symm, rfl⟩
    · go_enter Tryz.func57, Tryz.ntmps57
      go_wp2
      go_ret
      exact ⟨ret_bool (H2.out a b).symm, rfl⟩
  · go_enter Tryz.func57, Tryz.ntmps57
    go_wp2
    go_ret
    exact ⟨ret_bool (H3.out a).symm, rfl⟩

theorem in_any (n lo hi : Int) (w : World) :
    Calls Tryz.prog 49 #[.int .i64 n, .int .i64 lo, .int .i64 hi] w fun e w' => e = .returned (.bool (inB n lo hi)) ∧ w = w' := by
  go_enter Tryz.func49, Tryz.ntmps49
  go_wp2
  all_goals go_ret
  all_goals exact ⟨ret_bool (by simp [inB]; omega), rfl⟩


theorem Tryz.gPow : Tryz.prog.globalNamed "internal/strconv.uint64pow10" = some 5 := by kernel_rfl

/-- The cells of the package-level table of stocks. -/
structure Glob (w : World) : Prop where
  hz : 10 ≤ w.heap.size
  s0 : w.cell? ⟨1, 0, none⟩ = some (.int .i64 16)
  s1 : w.cell? ⟨1, 1, none⟩ = some (.int .i64 19000)
  s2 : w.cell? ⟨1, 2, none⟩ = some (.int .i64 40)
  s3 : w.cell? ⟨1, 3, none⟩ = some (.int .i64 7620)
  s4 : w.cell? ⟨1, 4, none⟩ = some (.int .i64 80)
  s5 : w.cell? ⟨1, 5, none⟩ = some (.int .i64 3810)
  ml : ∃ m, w.cell? ⟨2, 0, none⟩ = some (.int .i64 m)
  pt : Lib.TabIs Tryz.prog w "internal/strconv.uint64pow10" .u64 Lib.pow10Tab
  b0 : w.cell? ⟨0, 0, none⟩ = some (.string ⟨#[110, 105, 116, 114, 97, 116, 101]⟩)
  b1 : w.cell? ⟨0, 1, none⟩ = some (.string ⟨#[97, 99, 101, 116, 97, 116, 101]⟩)
  b2 : w.cell? ⟨0, 2, none⟩ = some (.string ⟨#[112, 111, 108, 121, 101, 115, 116, 101, 114]⟩)

theorem bcell {W w1 : World} (hb : Below W.heap.size W w1) : (∀ b o, b < W.heap.size → w1.cell? ⟨b, o, none⟩ = W.cell? ⟨b, o, none⟩) ∧ (∀ b o, b < W.heap.size → w1.frozen? ⟨b, o, none⟩ = W.frozen? ⟨b, o, none⟩) :=
  ⟨fun b o h => hb.cell (p := ⟨b, o, none⟩) h, fun b o h => hb.frozen (p := ⟨b, o, none⟩) h⟩

theorem Glob.below {w w' : World} {B : Nat} (g : Glob w) (hB : 10 ≤ B) (h : Below B w w') : Glob w' where
  hz := Nat.le_trans g.hz (by have := h.size; have := g.hz; omega)
  s0 := (h.cell (p := ⟨1, 0, none⟩) (by simp; omega)).trans g.s0
  s1 := (h.cell (p := ⟨1, 1, none⟩) (by simp; omega)).trans g.s1
  s2 := (h.cell (p := ⟨1, 2, none⟩) (by simp; omega)).trans g.s2
  s3 := (h.cell (p := ⟨1, 3, none⟩) (by simp; omega)).trans g.s3
  s4 := (h.cell (p := ⟨1, 4, none⟩) (by simp; omega)).trans g.s4
  s5 := (h.cell (p := ⟨1, 5, none⟩) (by simp; omega)).trans g.s5
  ml := let ⟨m, hm⟩ := g.ml; ⟨m, (h.cell (p := ⟨2, 0, none⟩) (by simp; omega)).trans hm⟩
  pt := var?_below h Tryz.gPow (by omega) g.pt
  b0 := (h.cell (p := ⟨0, 0, none⟩) (by simp; omega)).trans g.b0
  b1 := (h.cell (p := ⟨0, 1, none⟩) (by simp; omega)).trans g.b1
  b2 := (h.cell (p := ⟨0, 2, none⟩) (by simp; omega)).trans g.b2
theorem Glob.alloc {w : World} (g : Glob w) (o : Obj) : Glob (w.alloc o) := g.below g.hz ((Below.refl _ w).alloc (Nat.le_refl _) o)
theorem Glob.drewN {w : World} (g : Glob w) (n : Nat) : Glob (w.drewN n) := ⟨g.hz, g.s0, g.s1, g.s2, g.s3, g.s4, g.s5, g.ml, g.pt, g.b0, g.b1, g.b2⟩
theorem Glob.drew {w : World} (g : Glob w) : Glob w.drew := ⟨g.hz, g.s0, g.s1, g.s2, g.s3, g.s4, g.s5, g.ml, g.pt, g.b0, g.b1, g.b2⟩

/-- A gauge, the frames of its foot, and the micrometres of its new frame. -/
def Gauge (g f m : Int) : Prop := (g = 35 ∧ f = 16 ∧ m = 19000) ∨ (g = 16 ∧ f = 40 ∧ m = 7620) ∨ (g = 8 ∧ f = 80 ∧ m = 3810)
theorem Gauge.bd {g f m : Int} (h : Gauge g f m) : 16 ≤ f ∧ f ≤ 80 ∧ 3810 ≤ m ∧ m ≤ 19000 ∧ 8 ≤ g ∧ g ≤ 35 := by unfold Gauge at h; omega

theorem alloc_old (w : World) (o : Obj) (b k : Nat) (h : b < w.heap.size) : (w.alloc o).cell? ⟨b, k, none⟩ = w.cell? ⟨b, k, none⟩ := World.cell?_alloc_past _ _ _ (by simpa using h)

theorem stockOf_yes (g f m : Int) (w : World) (G : Glob w) (hg : Gauge g f m) :
    Calls Tryz.prog 56 #[.int .i64 g] w fun e w' => e = .returned (.tuple #[.agg #[.int .i64 f, .int .i64 m], .bool true]) ∧ Below w.heap.size w w' := by
  obtain ⟨hz, s0, s1, s2, s3, s4, s5, -, -, -, -, -⟩ := G
  have hz0 : 1 < w.heap.size := by omega
  have hc : ∀ o k, (w.alloc o).cell? ⟨1, k, none⟩ = w.cell? ⟨1, k, none⟩ := fun o k => alloc_old _ _ _ _ hz0
  rcases hg with ⟨rfl, rfl, rfl⟩ | ⟨rfl, rfl, rfl⟩ | ⟨rfl, rfl, rfl⟩
  all_goals go_enter Tryz.func56, Tryz.ntmps56
  all_goals go_wp2
  all_goals refine bodyPost_ret (v := .tuple #[.agg #[.int .i64 _, .int .i64 _], .bool true]) (by simp [results, Tryz.results56, go_sem]) rfl ⟨rfl, ?_⟩
  all_goals exact ((Below.refl _ w).alloc (Nat.le_refl _) _)

theorem stockOf_no (g : Int) (w : World) (h1 : (g == 35) = false) (h2 : (g == 16) = false) (h3 : (g == 8) = false) :
    Calls Tryz.prog 56 #[.int .i64 g] w fun e w' => e = .returned (.tuple #[.agg #[.int .i64 0, .int .i64 0], .bool false]) ∧ Below w.heap.size w w' := by
  go_enter Tryz.func56, Tryz.ntmps56
  go_wp2
  all_goals refine bodyPost_ret (v := .tuple #[.agg #[.int .i64 _, .int .i64 _], .bool false]) (by simp [results, Tryz.results56, go_sem]) rfl ⟨rfl, ?_⟩
  all_goals exact ((Below.refl _ w).alloc (Nat.le_refl _) _)

theorem foot_yes (g f m : Int) (w : World) (hg : Gauge g f m) :
    Calls Tryz.prog 42 #[.int .i64 g] w fun e w' => e = .returned (.int .i64 f) ∧ w = w' := by
  rcases hg with ⟨rfl, rfl, rfl⟩ | ⟨rfl, rfl, rfl⟩ | ⟨rfl, rfl, rfl⟩
  all_goals go_enter Tryz.func42, Tryz.ntmps42
  all_goals go_wp2
  all_goals go_ret
  all_goals exact ⟨rfl, rfl⟩
theorem foot_no (g : Int) (w : World) (h1 : (g == 35) = false) (h2 : (g == 16) = false) (h3 : (g == 8) = false) :
    Calls Tryz.prog 42 #[.int .i64 g] w fun e w' => e = .returned (.int .i64 0) ∧ w = w' := by
  go_enter Tryz.func42, Tryz.ntmps42
  go_wp2
  all_goals go_ret
  all_goals exact ⟨rfl, rfl⟩
theorem long_yes (g f m : Int) (w : World) (hg : Gauge g f m) :
    Calls Tryz.prog 92 #[.int .i64 g] w fun e w' => e = .returned (.int .i64 m) ∧ w = w' := by
  rcases hg with ⟨rfl, rfl, rfl⟩ | ⟨rfl, rfl, rfl⟩ | ⟨rfl, rfl, rfl⟩
  all_goals go_enter Tryz.func92, Tryz.ntmps92
  all_goals go_wp2
  all_goals go_ret
  all_goals exact ⟨rfl, rfl⟩

theorem letter_any (b : Int) (w : World) :
    Calls Tryz.prog 46 #[.int .u8 b] w fun e w' => e = .returned (.bool (inB b 97 122)) ∧ w = w' := by
  go_enter Tryz.func46, Tryz.ntmps46
  go_wp2
  all_goals go_ret
  all_goals exact ⟨ret_bool (by simp [inB]; omega), rfl⟩
theorem digit_any (b : Int) (w : World) :
    Calls Tryz.prog 80 #[.int .u8 b] w fun e w' => e = .returned (.bool (inB b 48 57)) ∧ w = w' := by
  go_enter Tryz.func80, Tryz.ntmps80
  go_wp2
  all_goals go_ret
  all_goals exact ⟨ret_bool (by simp [inB]; omega), rfl⟩
theorem rletter_any (b : Int) (w : World) :
    Calls Tryz.prog 50 #[.int .u8 b] w fun e w' => e = .returned (.bool (inB b 97 122)) ∧ w = w' := by
  go_enter Tryz.func50, Tryz.ntmps50
  go_wp2
  all_goals go_ret
  all_goals exact ⟨ret_bool (by simp [inB]; omega), rfl⟩
theorem span_any (a b : Int) (w : World) :
    Calls Tryz.prog 45 #[.int .i64 a, .int .i64 b] w fun e w' => e = .returned (.agg #[.int .i64 a, .int .i64 b]) ∧ Below w.heap.size w w' := by
  go_enter Tryz.func45, Tryz.ntmps45
  go_wp2
  refine bodyPost_ret (v := .agg #[.int .i64 a, .int .i64 b]) (by simp [results, Tryz.results45, go_sem]) rfl ⟨rfl, ?_⟩
  exact ((Below.refl _ w).alloc (Nat.le_refl _) _)

/-- What Feet returns. -/
def feetS (g n : Int) : Int × Int × Int :=
  if g = 35 ∨ g = 16 ∨ g = 8 then
    if inB n 0 200000 then (n / (if g = 35 then 16 else if g = 16 then 40 else 80), n % (if g = 35 then 16 else if g = 16 then 40 else 80), 0) else (0, 0, 7)
  else (0, 0, 2)
theorem feetS_yes {g f m n : Int} (hg : Gauge g f m) (hn : inB n 0 200000 = true) : feetS g n = (n / f, n % f, 0) := by
  rcases hg with ⟨rfl, rfl, rfl⟩ | ⟨rfl, rfl, rfl⟩ | ⟨rfl, rfl, rfl⟩ <;> simp [feetS, hn]
theorem feetS_far {g f m n : Int} (hg : Gauge g f m) (hn : inB n 0 200000 = false) : feetS g n = (0, 0, 7) := by
  rcases hg with ⟨rfl, rfl, rfl⟩ | ⟨rfl, rfl, rfl⟩ | ⟨rfl, rfl, rfl⟩ <;> simp [feetS, hn]
theorem feetS_no {g n : Int} (h1 : (g == 35) = false) (h2 : (g == 16) = false) (h3 : (g == 8) = false) : feetS g n = (0, 0, 2) := by
  simp at h1 h2 h3
  simp [feetS, h1, h2, h3]
theorem gauge_or (g : Int) : (∃ f m, Gauge g f m) ∨ ((g == 35) = false ∧ (g == 16) = false ∧ (g == 8) = false) := by
  by_cases h1 : g = 35
  · exact .inl ⟨16, 19000, .inl ⟨h1, rfl, rfl⟩⟩
  by_cases h2 : g = 16
  · exact .inl ⟨40, 7620, .inr (.inl ⟨h2, rfl, rfl⟩)⟩
  by_cases h3 : g = 8
  · exact .inl ⟨80, 3810, .inr (.inr ⟨h3, rfl, rfl⟩)⟩
  exact .inr (by simp [h1, h2, h3])
def feetV (g n : Int) : Value := .tuple #[.int .i64 (feetS g n).1, .int .i64 (feetS g n).2.1, .int .i64 (feetS g n).2.2]
theorem feetV_of {g n : Int} {a b c : Int} (h : feetS g n = (a, b, c)) : Ending.returned (.tuple #[.int .i64 a, .int .i64 b, .int .i64 c]) = .returned (feetV g n) := by rw [feetV, h]

theorem feet_any (g n : Int) (w : World) (G : Glob w) :
    Calls Tryz.prog 21 #[.int .i64 g, .int .i64 n] w fun e w' => e = .returned (feetV g n) ∧ Below w.heap.size w w' := by
  rcases gauge_or g with ⟨f, m, hg⟩ | ⟨h1, h2, h3⟩
  · obtain ⟨f1, f2, m1, m2, -, -⟩ := hg.bd
    by_cases hn : inB n 0 200000 = true
    · have hv := Lib.hid (feetV_of (feetS_yes hg hn))
      have hb : 0 ≤ n ∧ n ≤ 200000 := by simpa [inB] using hn
      obtain ⟨n1, n2⟩ := hb
      go_enter Tryz.func21, Tryz.ntmps21
      go_wp2_with (first
        | (go_at_call 56; refine (stockOf_yes g f m _ G hg).mono ?_; rintro e w1 ⟨rfl, hb⟩)
        | (go_at_call 57; refine (within_any _ _ _ _).mono ?_; rintro e w1 ⟨rfl, rfl⟩))
      go_quiet (fail)
      go_wp2
      go_ret3
      exact ⟨hv.out, below_drewN (hb.trans ((Below.refl _ _).alloc hb.size _)) _⟩
    · simp only [Bool.not_eq_true] at hn
      have hv := Lib.hid (feetV_of (feetS_far hg hn))
      go_enter Tryz.func21, Tryz.ntmps21
      go_wp2_with (first
        | (go_at_call 56; refine (stockOf_yes g f m _ G hg).mono ?_; rintro e w1 ⟨rfl, hb⟩)
        | (go_at_call 57; refine (within_any _ _ _ _).mono ?_; rintro e w1 ⟨rfl, rfl⟩))
      go_ret3
      exact ⟨hv.out, hb.trans ((Below.refl _ _).alloc hb.size _)⟩
  · have hv := Lib.hid (feetV_of (n := n) (feetS_no h1 h2 h3))
    go_enter Tryz.func21, Tryz.ntmps21
    go_wp2_with (go_at_call 56; refine (stockOf_no g _ h1 h2 h3).mono ?_; rintro e w1 ⟨rfl, hb⟩)
    go_ret3
    exact ⟨hv.out, hb.trans ((Below.refl _ _).alloc hb.size _)⟩
end Go.Proofs.YtgjpbffoalldkaaGreatDoor

/- The walk of film's between. -/
import Derived.Test.YtgjpbffoalldkaaGreatDoorXO
import Derived.RegionTactic
import Derived.ChangeAlike
import Derived.Deep.DeepCutAuto
namespace Go.Proofs.YtgjpbffoalldkaaGreatDoor
open Go.RowKit

def betV (f : Int) (ms : List T3) (n : Nat) (fr : Int) : Value := .tuple #[.int .i64 (betS f ms n fr).1, .agg #[.int .i64 (betS f ms n fr).2.1, .int .i64 (betS f ms n fr).2.2]]
theorem betV_of {f : Int} {ms : List T3} {n : Nat} {fr x y z : Int} (h : betS f ms n fr = (x, y, z)) : Value.tuple #[.int .i64 x, .agg #[.int .i64 y, .int .i64 z]] = betV f ms n fr := by rw [betV, h]

/-- The numbers of marks. -/
structure MarkB (ms : List T3) (n : Nat) : Prop where
  b0 : ∀ i, i < n → 0 ≤ (ms.getD i (0, 0, 0)).1 ∧ (ms.getD i (0, 0, 0)).1 ≤ 200000
  b2 : ∀ i, i < n → 0 ≤ (ms.getD i (0, 0, 0)).2.2 ∧ (ms.getD i (0, 0, 0)).2.2 ≤ 9999

/-- The span in its box, at the end. -/
structure Tail (B : Nat) (lo hi : Int) (w W : World) : Prop where
  c0 : W.cell? ⟨B, 0, none⟩ = some (.int .i64 lo)
  c1 : W.cell? ⟨B, 1, none⟩ = some (.int .i64 hi)
  f0 : W.frozen? ⟨B, 0, none⟩ = false
  f1 : W.frozen? ⟨B, 1, none⟩ = false
  le : w.heap.size ≤ B
  hb : Below w.heap.size w W
theorem Tail.start {w w1 : World} {lo hi : Int} {t : TypeId} (hb : Below (w.alloc (.cells #[.int .i64 lo, .int .i64 hi] t)).heap.size (w.alloc (.cells #[.int .i64 lo, .int .i64 hi] t)) w1) : Tail w.heap.size lo hi w w1 := by
  obtain ⟨hc, hf⟩ := bcell hb
  refine ⟨?_, ?_, ?_, ?_, Nat.le_refl _, B_trans (B_alloc (Below.refl _ _) _) hb⟩
  · rw [hc _ _ (by simp), World.cell?_alloc_at _ _ _ _ rfl]; rfl
  · rw [hc _ _ (by simp), World.cell?_alloc_at _ _ _ _ rfl]; rfl
  · exact (hf _ _ (by simp)).trans (World.frozen?_alloc_new _ _ _ _)
  · exact (hf _ _ (by simp)).trans (World.frozen?_alloc_new _ _ _ _)
theorem Tail.lt {B : Nat} {lo hi : Int} {w W : World} (h : Tail B lo hi w W) : B < W.heap.size := World.block_lt_of_cell? _ _ h.c0
theorem Tail.alloc {B : Nat} {lo hi : Int} {w W : World} (h : Tail B lo hi w W) (o : Obj) : Tail B lo hi w (W.alloc o) :=
  ⟨(alloc_old _ _ _ _ h.lt).trans h.c0, (alloc_old _ _ _ _ h.lt).trans h.c1, (World.frozen?_alloc_past _ _ _ h.lt).trans h.f0, (World.frozen?_alloc_past _ _ _ h.lt).trans h.f1, h.le, B_alloc h.hb o⟩
theorem Tail.set1 {B : Nat} {lo hi : Int} {w W : World} (h : Tail B lo hi w W) (x : Int) : Tail B lo x w (W.setCell ⟨B, 1, none⟩ (.int .i64 x)) :=
  ⟨(World.cell?_setCell_other _ _ _ _ (by simp)).trans h.c0, World.cell?_setCell_same _ _ _ h.c1, by rw [World.frozen?_setCell]; exact h.f0, by rw [World.frozen?_setCell]; exact h.f1, h.le, h.hb.setCell h.le _⟩
theorem Tail.set0 {B : Nat} {lo hi : Int} {w W : World} (h : Tail B lo hi w W) (x : Int) : Tail B x hi w (W.setCell ⟨B, 0, none⟩ (.int .i64 x)) :=
  ⟨World.cell?_setCell_same _ _ _ h.c0, (World.cell?_setCell_other _ _ _ _ (by simp)).trans h.c1, by rw [World.frozen?_setCell]; exact h.f0, by rw [World.frozen?_setCell]; exact h.f1, h.le, h.hb.setCell h.le _⟩
theorem Tail.below {B : Nat} {lo hi : Int} {w W W' : World} (h : Tail B lo hi w W) (hb : Below W.heap.size W W') : Tail B lo hi w W' := by
  obtain ⟨hc, hf⟩ := bcell hb
  exact ⟨(hc _ _ h.lt).trans h.c0, (hc _ _ h.lt).trans h.c1, (hf _ _ h.lt).trans h.f0, (hf _ _ h.lt).trans h.f1, h.le, B_trans h.hb hb⟩
theorem Tail.new {w W : World} (lo hi : Int) (t : TypeId) (hb : Below w.heap.size w W) : Tail W.heap.size lo hi w (W.alloc (.cells #[.int .i64 lo, .int .i64 hi] t)) :=
  ⟨by rw [World.cell?_alloc_at _ _ _ _ rfl]; rfl, by rw [World.cell?_alloc_at _ _ _ _ rfl]; rfl, World.frozen?_alloc_new _ _ _ _, World.frozen?_alloc_new _ _ _ _, hb.size, B_alloc hb _⟩

theorem lastI_cases (ms : List T3) (n : Nat) (fr : Int) (hn : 0 < n) : (lastI ms n fr = -1 ∧ nextI ms n fr = 0) ∨ ∃ l : Nat, lastI ms n fr = l ∧ l < n ∧ (nextI ms n fr = l ∨ nextI ms n fr = l + 1) := by
  have h := (nextI_spec ms n fr).1
  unfold lastI
  by_cases h1 : nextI ms n fr < n ∧ (ms.getD (nextI ms n fr) (0, 0, 0)).1 = fr
  · rw [if_pos h1]
    exact .inr ⟨_, rfl, h1.1, .inl rfl⟩
  · rw [if_neg h1]
    by_cases h0 : nextI ms n fr = 0
    · exact .inl ⟨by omega, h0⟩
    · exact .inr ⟨nextI ms n fr - 1, by omega, by omega, .inr (by omega)⟩

set_option maxRecDepth 100000 in
theorem between_any (a : Option Addr) (n c : Nat) (ms : List T3) (fr f : Int) (w : World) (hn0 : 0 < n) (hn : n ≤ 60) (hs : Sl3 w a n ms) (hB : MarkB ms n) (hf1 : 16 ≤ f) (hf2 : f ≤ 80) (hfr0 : 0 ≤ fr) (hfr1 : fr ≤ 200000) :
    Calls Tryz.prog 60 #[.slice a n c, .int .i64 fr, .int .i64 f] w fun e w' => e = .returned (betV f ms n fr) ∧ Below w.heap.size w w' := by
  have HA := fun W (h : Below w.heap.size w W) => around_any a n c ms fr W hn (hs.below h)
  obtain ⟨b, o, rfl, hbs, hcells⟩ := hs.at_ hn0
  have hnn : (0 : Int) < n := by omega
  rcases lastI_cases ms n fr hn0 with ⟨hL, hN⟩ | ⟨l, hL, hl, hN⟩
  · obtain ⟨y0c, y1c, y2c⟩ := hcells 0 hn0
    have y0b := hB.b0 0 hn0
    have y2b := hB.b2 0 hn0
    have hv : betS f ms n fr = ((ms.getD 0 (0, 0, 0)).2.1, 0, (ms.getD 0 (0, 0, 0)).2.2 * f - ((ms.getD 0 (0, 0, 0)).1 - fr)) := by
      simp [betS, hL, hN, hn0]
    have HV := Lib.hid (betV_of hv)
    rw [hL, hN] at HA
    replace HA := Lib.hid HA
    generalize ms.getD 0 (0, 0, 0) = y at y0c y1c y2c y0b y2b HV
    obtain ⟨y0, y1, y2⟩ := y
    simp only [Nat.zero_mul, Nat.add_zero] at y0c y1c y2c y0b y2b HV
    obtain ⟨y0l, y0h⟩ := y0b
    obtain ⟨y2l, y2h⟩ := y2b
    have q1 : 0 ≤ y2 * f := Int.mul_nonneg y2l (by omega)
    have q2 : y2 * f ≤ 9999 * 80 := Int.mul_le_mul y2h hf2 (by omega) (by omega)
    clear hcells hv hL hN hs hB
    go_enter Tryz.func60, Tryz.ntmps60
    go_wp2_with (go_at_call 85; (with_reducible refine (HA.out _ (B_alloc (Below.refl _ _) _)).mono ?_); rintro e w1 ⟨rfl, hb1⟩; have hc1 := (bcell hb1).1; have hfz := (bcell hb1).2; have hz1 : w.heap.size < w1.heap.size := (by have := hb1.size; simp at this; omega); have hz2 : w.heap.size < w1.heap.size + 1 := (by omega); have hbw : b < w1.heap.size := (by omega); have hal := fun W O c k h => alloc_old W O c k h)
    have HT := ((Tail.start hb1).set1 (y2 * f - (y0 - fr))).alloc (.cells #[.int .i64 y0, .int .i64 y1, .int .i64 y2] 68)
    generalize ((w1.setCell ⟨w.heap.size, 1, none⟩ (.int .i64 (y2 * f - (y0 - fr)))).alloc (.cells #[.int .i64 y0, .int .i64 y1, .int .i64 y2] 68)) = WX at HT ⊢
    have HE := Lib.hid ((HT.set0 0).set1 (y2 * f - (y0 - fr)))
    obtain ⟨c0, c1, g0, g1, hbX⟩ := HT
    clear hc1 hfz hz1 hz2 hal hb1 y0c y1c y2c
    go_region
    all_goals go_wp2
    have d0 := HE.out.c0
    have d1 := HE.out.c1
    exact bodyPost_ret (v := .tuple #[.int .i64 y1, .agg #[.int .i64 0, .int .i64 (y2 * f - (y0 - fr))]]) (by simp [results, Tryz.results60, go_sem, d0, d1]) rfl ⟨congrArg Ending.returned HV.out, HE.out.hb.drew⟩
  · obtain ⟨x0c, x1c, x2c⟩ := hcells l hl
    obtain ⟨x0l, x0h⟩ := hB.b0 l hl
    obtain ⟨x2l, x2h⟩ := hB.b2 l hl
    have hl0 : (0 : Int) ≤ l := by omega
    have hll : (l : Int) < n := by omega
    have hln : ¬ ((l : Int) < 0) := by omega
    rw [hL] at HA
    have hNle : nextI ms n fr ≤ n := (nextI_spec ms n fr).1
    have hva : nextI ms n fr < n → (ms.getD (nextI ms n fr) (0, 0, 0)).2.1 = (ms.getD l (0, 0, 0)).2.1 → betS f ms n fr = ((ms.getD l (0, 0, 0)).2.1, (ms.getD l (0, 0, 0)).2.2 * f + (fr - (ms.getD l (0, 0, 0)).1), (ms.getD (nextI ms n fr) (0, 0, 0)).2.2 * f - ((ms.getD (nextI ms n fr) (0, 0, 0)).1 - fr)) := fun h1 h2 => by
      simp only [betS, hL, if_neg hln, Int.toNat_natCast]
      rw [if_pos ⟨h1, h2⟩]
    have hvb : ¬ (nextI ms n fr < n ∧ (ms.getD (nextI ms n fr) (0, 0, 0)).2.1 = (ms.getD l (0, 0, 0)).2.1) → betS f ms n fr = ((ms.getD l (0, 0, 0)).2.1, (ms.getD l (0, 0, 0)).2.2 * f + (fr - (ms.getD l (0, 0, 0)).1), 9999 * f) := fun h => by
      simp only [betS, hL, if_neg hln, Int.toNat_natCast]
      rw [if_neg h]
    have hyc := fun h => hcells (nextI ms n fr) h
    have hy0 := fun h => hB.b0 (nextI ms n fr) h
    have hy2 := fun h => hB.b2 (nextI ms n fr) h
    generalize nextI ms n fr = N at HA hNle hva hvb hyc hy0 hy2
    generalize ms.getD N (0, 0, 0) = y at hva hvb hyc hy0 hy2
    generalize ms.getD l (0, 0, 0) = x at x0c x1c x2c x0l x0h x2l x2h hva hvb
    obtain ⟨x0, x1, x2⟩ := x
    obtain ⟨y0, y1, y2⟩ := y
    simp only at x0c x1c x2c x0l x0h x2l x2h hva hvb hyc hy0 hy2
    have p1 : 0 ≤ x2 * f := Int.mul_nonneg x2l (by omega)
    have p2 : x2 * f ≤ 9999 * 80 := Int.mul_le_mul x2h hf2 (by omega) (by omega)
    replace HA := Lib.hid HA
    have hN0 : (0 : Int) ≤ N := by omega
    clear hcells hL hN hs hB hln
    have key : ∀ (hi : Int) (_ : betS f ms n fr = (x1, x2 * f + (fr - x0), hi)), (N < n ∧ y1 = x1 ∧ hi = y2 * f - (y0 - fr) ∨ (N < n ∧ (y1 == x1) = false ∨ ¬ N < n) ∧ hi = 9999 * f) → Calls Tryz.prog 60 #[.slice (some ⟨b, o, none⟩) n c, .int .i64 fr, .int .i64 f] w fun e w' => e = .returned (betV f ms n fr) ∧ Below w.heap.size w w' := by
      intro hi hbet hcase
      have HV := Lib.hid (betV_of hbet)
      clear hva hvb hbet
      go_enter Tryz.func60, Tryz.ntmps60
      go_wp2_with (go_at_call 85; (with_reducible refine (HA.out _ (B_alloc (Below.refl _ _) _)).mono ?_); rintro e w1 ⟨rfl, hb1⟩; have hc1 := (bcell hb1).1; have hz1 : w.heap.size < w1.heap.size := (by have := hb1.size; simp at this; omega); have hbw : b < w1.heap.size := (by omega); have hal := fun W O c k h => alloc_old W O c k h)
      have HT := (Tail.start hb1).alloc (.cells #[.int .i64 x0, .int .i64 x1, .int .i64 x2] 68)
      have mc : ∀ j, (w1.alloc (.cells #[.int .i64 x0, .int .i64 x1, .int .i64 x2] 68)).cell? ⟨w1.heap.size, j, none⟩ = (#[.int .i64 x0, .int .i64 x1, .int .i64 x2] : Array Value)[j]? := fun j => by rw [World.cell?_alloc_at _ _ _ _ rfl]
      have m0 : (w1.alloc (.cells #[.int .i64 x0, .int .i64 x1, .int .i64 x2] 68)).cell? ⟨w1.heap.size, 0, none⟩ = some (.int .i64 x0) := mc 0
      have m1 : (w1.alloc (.cells #[.int .i64 x0, .int .i64 x1, .int .i64 x2] 68)).cell? ⟨w1.heap.size, 1, none⟩ = some (.int .i64 x1) := mc 1
      have m2 : (w1.alloc (.cells #[.int .i64 x0, .int .i64 x1, .int .i64 x2] 68)).cell? ⟨w1.heap.size, 2, none⟩ = some (.int .i64 x2) := mc 2
      generalize (w1.alloc (.cells #[.int .i64 x0, .int .i64 x1, .int .i64 x2] 68)) = WX at HT m0 m1 m2 ⊢
      generalize w1.heap.size = M at m0 m1 m2 hz1 ⊢
      clear hc1 hb1 hbw hal mc x0c x1c x2c
      go_cut [6] (fun v wx => v = .int .i64 x1 ∧ Hid (Tail w.heap.size (x2 * f + (fr - x0)) (9999 * f) w wx))
      case first =>
        have HE := Lib.hid (HT.set0 (x2 * f + (fr - x0)))
        obtain ⟨c0, c1, g0, g1, hbX⟩ := HT
        go_region
        all_goals go_wp2_with fail
        all_goals go_meet
        all_goals exact ⟨rfl, ⟨HE.out.c0, HE.out.c1, HE.out.f0, HE.out.f1, HE.out.le, HE.out.hb.drew⟩⟩
      case rest =>
        obtain ⟨rfl, HT⟩ := hcut
        rcases hcase with ⟨hn1, rfl, rfl⟩ | ⟨hn1, rfl⟩
        · obtain ⟨y0c, y1c, y2c⟩ := hyc hn1
          obtain ⟨y0l, y0h⟩ := hy0 hn1
          obtain ⟨y2l, y2h⟩ := hy2 hn1
          have hcw := (bcell HT.out.hb).1
          rw [← hcw b _ hbs] at y0c y1c y2c
          have hbw : b < wc.heap.size := by have := HT.out.hb.size; omega
          have hnI : (N : Int) < n := by omega
          have r1 : 0 ≤ y2 * f := Int.mul_nonneg y2l (by omega)
          have r2 : y2 * f ≤ 9999 * 80 := Int.mul_le_mul y2h hf2 (by omega) (by omega)
          have c1 := HT.out.c1
          have g1 := HT.out.f1
          have hzB := HT.out.lt
          have hal := fun W O c k h => alloc_old W O c k h
          clear hcw hyc hy0 hy2
          go_wp2_with fail
          have HT2 := ((HT.out.set1 (y2 * f - (y0 - fr))).alloc (.cells #[.int .i64 y0, .int .i64 y1, .int .i64 y2] 68))
          generalize ((wc.setCell ⟨w.heap.size, 1, none⟩ (.int .i64 (y2 * f - (y0 - fr)))).alloc (.cells #[.int .i64 y0, .int .i64 y1, .int .i64 y2] 68)) = WX at HT2 ⊢
          clear c1 g1 y0c y1c y2c hal HT
          have HE := Lib.hid ((HT2.set0 (x2 * f + (fr - x0))).set1 (y2 * f - (y0 - fr)))
          obtain ⟨c0, c1', g0, g1', hbX⟩ := HT2
          go_region
          all_goals go_wp2
          have d0 := HE.out.c0
          have d1 := HE.out.c1
          exact bodyPost_ret (v := .tuple #[.int .i64 y1, .agg #[.int .i64 (x2 * f + (fr - x0)), .int .i64 (y2 * f - (y0 - fr))]]) (by simp [results, Tryz.results60, go_sem, d0, d1]) rfl ⟨congrArg Ending.returned HV.out, HE.out.hb.drew⟩
        · have HT2 := HT.out
          rcases hn1 with ⟨hn1, hyx⟩ | hn1
          · obtain ⟨y0c, y1c, y2c⟩ := hyc hn1
            have hcw := (bcell HT.out.hb).1
            rw [← hcw b _ hbs] at y0c y1c y2c
            have hbw : b < wc.heap.size := by have := HT.out.hb.size; omega
            have hnI : (N : Int) < n := by omega
            clear hcw hyc hy0 hy2 HT
            go_wp2_with fail
            clear y0c y1c y2c
            have HE := Lib.hid ((HT2.set0 (x2 * f + (fr - x0))).set1 (9999 * f))
            obtain ⟨c0, c1', g0, g1', hbX⟩ := HT2
            go_region
            all_goals go_wp2
            have d0 := HE.out.c0
            have d1 := HE.out.c1
            exact bodyPost_ret (v := .tuple #[.int .i64 x1, .agg #[.int .i64 (x2 * f + (fr - x0)), .int .i64 (9999 * f)]]) (by simp [results, Tryz.results60, go_sem, d0, d1]) rfl ⟨congrArg Ending.returned HV.out, HE.out.hb.drew⟩
          · have hnI : ¬ ((N : Int) < n) := by omega
            clear hyc hy0 hy2 HT
            go_wp2_with fail
            have HE := Lib.hid ((HT2.set0 (x2 * f + (fr - x0))).set1 (9999 * f))
            obtain ⟨c0, c1', g0, g1', hbX⟩ := HT2
            go_region
            all_goals go_wp2
            have d0 := HE.out.c0
            have d1 := HE.out.c1
            exact bodyPost_ret (v := .tuple #[.int .i64 x1, .agg #[.int .i64 (x2 * f + (fr - x0)), .int .i64 (9999 * f)]]) (by simp [results, Tryz.results60, go_sem, d0, d1]) rfl ⟨congrArg Ending.returned HV.out, HE.out.hb.drew⟩
    by_cases hn1 : N < n
    · by_cases hy : y1 = x1
      · exact key _ (hva hn1 hy) (.inl ⟨hn1, hy, rfl⟩)
      · exact key _ (hvb fun h => hy h.2) (.inr ⟨.inl ⟨hn1, by simpa using hy⟩, rfl⟩)
    · exact key _ (hvb fun h => hn1 h.1) (.inr ⟨.inr hn1, rfl⟩)
end Go.Proofs.YtgjpbffoalldkaaGreatDoor

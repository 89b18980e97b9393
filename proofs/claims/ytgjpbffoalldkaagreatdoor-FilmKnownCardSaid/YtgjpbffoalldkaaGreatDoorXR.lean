/- The walk of the reference's Place. -/
import Derived.Test.YtgjpbffoalldkaaGreatDoorXQ
import Derived.Test.YtgjpbffoalldkaaGreatDoorXN
import Derived.Deep.RegionWith
import Derived.Deep.RegionHeld
import Derived.StillTailTactics
namespace Go.Proofs.YtgjpbffoalldkaaGreatDoor
open Go.RowKit

/-- The last mark up to a frame, of the first k; the next one. -/
def LastP (ms : List T3) (k : Nat) (x L : Int) : Prop := (L = -1 ∧ ∀ i, i < k → x < (ms.getD i (0, 0, 0)).1) ∨ ∃ l : Nat, L = l ∧ l < k ∧ (ms.getD l (0, 0, 0)).1 ≤ x ∧ ∀ i, l < i → i < k → x < (ms.getD i (0, 0, 0)).1
def NextP (ms : List T3) (k : Nat) (x M : Int) : Prop := (M = -1 ∧ ∀ i, i < k → (ms.getD i (0, 0, 0)).1 < x) ∨ ∃ m : Nat, M = m ∧ m < k ∧ x ≤ (ms.getD m (0, 0, 0)).1 ∧ ∀ i, i < m → (ms.getD i (0, 0, 0)).1 < x
theorem LastP.yes {ms : List T3} {k : Nat} {x : Int} (h : (ms.getD k (0, 0, 0)).1 ≤ x) : LastP ms (k + 1) x k := .inr ⟨k, rfl, by omega, h, fun i a b => by omega⟩
theorem LastP.no {ms : List T3} {k : Nat} {x L : Int} (h : LastP ms k x L) (hx : x < (ms.getD k (0, 0, 0)).1) : LastP ms (k + 1) x L := by
  rcases h with ⟨rfl, h⟩ | ⟨l, rfl, hl, h1, h2⟩
  · refine .inl ⟨rfl, fun i hi => ?_⟩
    by_cases e : i = k
    · rw [e]; exact hx
    · exact h i (by omega)
  · refine .inr ⟨l, rfl, by omega, h1, fun i a b => ?_⟩
    by_cases e : i = k
    · rw [e]; exact hx
    · exact h2 i a (by omega)
theorem NextP.keep {ms : List T3} {k : Nat} {x M : Int} (h : NextP ms k x M) (hx : (ms.getD k (0, 0, 0)).1 < x ∨ 0 ≤ M) : NextP ms (k + 1) x M := by
  rcases h with ⟨rfl, h⟩ | ⟨m, rfl, hm, h1, h2⟩
  · refine .inl ⟨rfl, fun i hi => ?_⟩
    by_cases e : i = k
    · rw [e]; omega
    · exact h i (by omega)
  · exact .inr ⟨m, rfl, by omega, h1, h2⟩
theorem NextP.yes {ms : List T3} {k : Nat} {x M : Int} (h : NextP ms k x M) (hM : M < 0) (hx : x ≤ (ms.getD k (0, 0, 0)).1) : NextP ms (k + 1) x k := by
  rcases h with ⟨rfl, h⟩ | ⟨m, rfl, -⟩
  · exact .inr ⟨k, rfl, by omega, hx, h⟩
  · omega
theorem NextP.eq {ms : List T3} {n : Nat} {x M : Int} (h : NextP ms n x M) : (M = -1 ∧ nextI ms n x = n) ∨ (M = (nextI ms n x : Nat) ∧ nextI ms n x < n) := by
  rcases h with ⟨rfl, h⟩ | ⟨m, rfl, hm, h1, h2⟩
  · exact .inl ⟨rfl, nextTo_eq n 0 n (Nat.zero_le _) (by omega) (fun i _ b => h i b) (fun h => by omega)⟩
  · have e : nextI ms n x = m := nextTo_eq n 0 m (Nat.zero_le _) (by omega) (fun i _ b => h2 i b) (fun _ => by omega)
    exact .inr ⟨by rw [e], by rw [e]; exact hm⟩
/-- Marks ascend. -/
theorem Valid.asc {r : RA} {ms : List T3} {ss : List T2} {ls : List T3} (h : Valid r ms ss ls) {i : Nat} : ∀ {j : Nat}, i < j → j < r.mn → (ms.getD i (0, 0, 0)).1 < (ms.getD j (0, 0, 0)).1
  | 0, hij, _ => by omega
  | j + 1, hij, hj => by
    have h1 := (h.mark hj).2.2.2 (by omega)
    rw [Nat.add_sub_cancel] at h1
    by_cases e : i = j
    · rw [e]; exact h1
    · have := h.asc (i := i) (j := j) (by omega) (by omega)
      omega
theorem LastP.eq {r : RA} {ms : List T3} {ss : List T2} {ls : List T3} {x L : Int} (hV : Valid r ms ss ls) (h : LastP ms r.mn x L) : L = lastI ms r.mn x := by
  obtain ⟨h1, h2, h3⟩ := nextI_spec ms r.mn x
  unfold lastI
  by_cases hc : nextI ms r.mn x < r.mn ∧ (ms.getD (nextI ms r.mn x) (0, 0, 0)).1 = x
  · rw [if_pos hc]
    rcases h with ⟨rfl, h⟩ | ⟨l, rfl, hl, h4, h5⟩
    · have := h _ hc.1; omega
    · have a : ¬ nextI ms r.mn x < l := fun a => by have := hV.asc a hl; omega
      have b : ¬ l < nextI ms r.mn x := fun b => by have := h5 _ b hc.1; omega
      omega
  · rw [if_neg hc]
    have hgt : ∀ i, nextI ms r.mn x ≤ i → i < r.mn → x < (ms.getD i (0, 0, 0)).1 := fun i a b => by
      have hN : nextI ms r.mn x < r.mn := by omega
      have h6 := h3 hN
      have h7 : (ms.getD (nextI ms r.mn x) (0, 0, 0)).1 ≠ x := fun e => hc ⟨hN, e⟩
      by_cases e : i = nextI ms r.mn x
      · rw [e]; omega
      · have := hV.asc (i := nextI ms r.mn x) (j := i) (by omega) b
        omega
    rcases h with ⟨rfl, h⟩ | ⟨l, rfl, hl, h4, h5⟩
    · have : ¬ 0 < nextI ms r.mn x := fun a => by
        have e1 := h2 (nextI ms r.mn x - 1) (by omega)
        have e2 := h (nextI ms r.mn x - 1) (by omega)
        omega
      omega
    · have a : ¬ nextI ms r.mn x ≤ l := fun a => by have := hgt l a hl; omega
      have b : ¬ l + 1 < nextI ms r.mn x := fun b => by
        have e1 := h2 (l + 1) b
        have e2 := h5 (l + 1) (by omega) (by omega)
        omega
      omega

theorem size_alloc2 (w : World) (o : Obj) : (w.alloc o).heap.size = w.heap.size + 1 := by simp
theorem Tail.drew {B : Nat} {lo hi : Int} {w W : World} (h : Tail B lo hi w W) : Tail B lo hi w W.drew := ⟨h.c0, h.c1, h.f0, h.f1, h.le, h.hb.drew⟩
theorem Tail.far {B C : Nat} {lo hi : Int} {w W : World} (h : Tail B lo hi w W) (hne : C ≠ B) (hC : w.heap.size ≤ C) (o : Nat) (v : Value) : Tail B lo hi w (W.setCell ⟨C, o, none⟩ v) :=
  ⟨(World.cell?_setCell_far _ _ _ _ hne).trans h.c0, (World.cell?_setCell_far _ _ _ _ hne).trans h.c1, by rw [World.frozen?_setCell]; exact h.f0, by rw [World.frozen?_setCell]; exact h.f1, h.le, h.hb.setCell hC _⟩
set_option maxHeartbeats 4000000 in
set_option maxRecDepth 100000 in
theorem refPlace_any (r : RA) (x : Int) (ms : List T3) (ss : List T2) (ls : List T3) (w : World) (hR : Reads w r ms ss ls) :
    Calls Tryz.prog 30 #[.agg r.cs, .int .i64 x] w fun e w' => e = .returned (placeV r ms ss ls x) ∧ Below w.heap.size w w' := by
  have hbl : Below w.heap.size w ((w.alloc (.cells r.cs 30)).alloc (.cells #[.int .i64 0, .int .i64 0] 25)) := B_alloc (B_alloc (Below.refl _ _) _) _
  have HC := refValid_any r ms ss ls _ (hR.below hbl)
  have HT0 := Tail.new (w := w) (W := w.alloc (.cells r.cs 30)) 0 0 25 (B_alloc (Below.refl _ _) _)
  have HI := Lib.hid (fun n lo hi W => in_any n lo hi W)
  by_cases h0 : (checkS r ms ss ls).2.2 = 0
  · have hV := valid_of h0
    obtain ⟨-, -, -, ⟨hfr0, hfr1⟩, -⟩ := wholeE_ok hV.whole
    have hwr : IntKind.i64.wrap (r.f - 1) = r.f - 1 := IntWalk.i64_in _ (by omega)
    cases hx : inB x 0 (r.f - 1) with
    | false =>
      have hv := Lib.hid (placeV_of (placeS_far h0 hx))
      rw [h0] at HC
      replace HC := Lib.hid HC
      clear h0 hV
      go_enter Tryz.func30, Tryz.ntmps30
      go_wp2_with (first
        | (go_at_call 58; refine HC.out.mono ?_; rintro e w1 ⟨rfl, hb1⟩; obtain ⟨hc1, hfz⟩ := bcell hb1)
        | (go_at_call 49; refine (HI.out _ _ _ _).mono ?_; rintro e w2 ⟨rfl, rfl⟩))
      have HE := ((HT0.below hb1).set0 0).set1 0
      have d0 := HE.c0
      have d1 := HE.c1
      simp only [World.size_alloc] at d0 d1
      exact bodyPost_ret (v := .tuple #[.int .i64 0, .agg #[.int .i64 0, .int .i64 0], .int .i64 7]) (by simp [results, Tryz.results30, go_sem, d0, d1]) rfl ⟨hv.out, by have := HE.hb; simpa only [World.size_alloc] using this⟩
    | true =>
      obtain ⟨hx0, hx1⟩ : 0 ≤ x ∧ x ≤ r.f - 1 := by simpa [inB] using hx
      by_cases hm : r.mn = 0
      · have hv := Lib.hid (placeV_of (placeS_none h0 hx hm))
        have hmb : ((r.mn : Int) == 0) = true := by simp; omega
        rw [h0] at HC
        replace HC := Lib.hid HC
        clear h0 hV hm
        go_enter Tryz.func30, Tryz.ntmps30
        go_wp2_with (first
          | (go_at_call 58; refine HC.out.mono ?_; rintro e w1 ⟨rfl, hb1⟩; obtain ⟨hc1, hfz⟩ := bcell hb1)
          | (go_at_call 49; refine (HI.out _ _ _ _).mono ?_; rintro e w2 ⟨rfl, rfl⟩))
        have HE := ((HT0.below hb1).set0 0).set1 0
        have d0 := HE.c0
        have d1 := HE.c1
        simp only [World.size_alloc] at d0 d1
        exact bodyPost_ret (v := .tuple #[.int .i64 0, .agg #[.int .i64 0, .int .i64 0], .int .i64 4]) (by simp [results, Tryz.results30, go_sem, d0, d1]) rfl ⟨hv.out, by have := HE.hb; simpa only [World.size_alloc] using this⟩
      · obtain ⟨f, mi, hg⟩ := hV.gauge
        obtain ⟨hf1, hf2, -⟩ := hg.bd
        have hfo := hg.foot.1
        have HF := Lib.hid (fun W => foot_any r.g W)
        rw [hfo] at HF
        have HFS : Hid (∀ W, Calls Tryz.prog 42 #[.int .i64 r.g] W fun e w' => e = .returned (.int .i64 f) ∧ w' = W) := fun W => (HF.out W).mono fun e w' h => ⟨h.1, h.2.symm⟩
        have hd1 := fun a b c (h : betS f ms r.mn x = (a, b, c)) => placeS_down h0 hx hm (by rw [hfo, h])
        have hd2 := fun a b c (h : betS f ms r.mn x = (a, b, c)) => placeS_ok h0 hx hm (by rw [hfo, h])
        have hmb : ((r.mn : Int) == 0) = false := by simp; omega
        have hmn := hV.mn
        have HVa := Lib.hid hV
        have HR := Lib.hid hR
        have HX : Hid (∀ W, Below ((w.alloc (.cells r.cs 30)).alloc (.cells #[.int .i64 0, .int .i64 0] 25)).heap.size ((w.alloc (.cells r.cs 30)).alloc (.cells #[.int .i64 0, .int .i64 0] 25)) W → ∀ j, W.cell? ⟨w.heap.size, j, none⟩ = r.cs[j]?) := fun W h j => by
          rw [h.cell (p := ⟨w.heap.size, j, none⟩) (by simp; omega), alloc_old _ _ _ _ (by simp), World.cell?_alloc_at _ _ _ _ rfl]
        rw [h0] at HC
        replace HC := Lib.hid HC
        have HT0' := Lib.hid HT0
        have Hbl := Lib.hid hbl
        clear h0 hV hg hfo hR HT0 hbl
        go_enter Tryz.func30, Tryz.ntmps30
        go_wp2_with (first
          | (go_at_call 58; refine HC.out.mono ?_; rintro e w1 ⟨rfl, hb1⟩; obtain ⟨hc1, hfz⟩ := bcell hb1)
          | (go_at_call 49; refine (HI.out _ _ _ _).mono ?_; rintro e w2 ⟨rfl, rfl⟩))
        have hz1 : w.heap.size + 1 < w1.heap.size := by have := hb1.size; simp at this; omega
        have HT1 := Lib.hid (HT0'.out.below hb1)
        have HX1 := Lib.hid (HX.out _ hb1)
        have B1 := Lib.hid (B_trans Hbl.out hb1)
        clear hc1 hfz hb1 HX HT0' Hbl HC
        go_loopg [8, 9, 10] r.mn (fun gk L M i wr => ∃ (k : Nat) (l m : Int), gk = r.mn - k ∧ k ≤ r.mn ∧ i = .int .i64 k ∧ L = .int .i64 l ∧ M = .int .i64 m ∧ Hid (LastP ms k x l) ∧ Hid (NextP ms k x m) ∧ w1 = wr)
        case atStart => exact ⟨0, -1, -1, rfl, Nat.zero_le _, rfl, rfl, rfl, .inl ⟨rfl, fun i h => by omega⟩, .inl ⟨rfl, fun i h => by omega⟩, rfl⟩
        case round =>
          obtain ⟨k, l, m, rfl, hk, rfl, rfl, rfl, hL, hM, rfl⟩ := hrel
          have k7 : w1.cell? ⟨w.heap.size, 7, none⟩ = some (.slice r.ma r.mn r.mc) := HX1.out 7
          by_cases hlt : k < r.mn
          · obtain ⟨b, o, hma, hbs, hcells⟩ := HR.out.m.at_ (by omega)
            obtain ⟨x0c, -, -⟩ := hcells k hlt
            have hcw := (bcell B1.out).1
            rw [← hcw b _ hbs] at x0c
            clear hcells hcw
            have hkl : (k : Int) < r.mn := by omega
            have hk0 : 0 ≤ (k : Int) := by omega
            obtain ⟨x0, ex⟩ : ∃ x0, (ms.getD k (0, 0, 0)).1 = x0 := ⟨_, rfl⟩
            rw [ex] at x0c
            have EX := Lib.hid ex
            clear ex
            by_cases hle : x0 ≤ x <;> by_cases hge : x ≤ x0 <;> by_cases hm0 : m < 0
            all_goals
              first
              | (exfalso; omega)
              | (go_wp2_with fail
                 rw [← hma]
                 go_roundg (r.mn - (k + 1))
                 case measure => omega
                 case rel => exact ⟨k + 1, _, _, rfl, hlt, by go_num, rfl, rfl, (by first | exact LastP.yes (by rw [EX.out]; omega) | exact hL.out.no (by rw [EX.out]; omega)), (by first | exact hM.out.yes (by omega) (by rw [EX.out]; omega) | exact hM.out.keep (by rw [EX.out]; omega)), rfl⟩)
          · obtain rfl : k = r.mn := by omega
            have k1 : w1.cell? ⟨w.heap.size, 1, none⟩ = some (.int .i64 r.g) := HX1.out 1
            have hzB : w.heap.size < w1.heap.size := by omega
            have hzB' : w.heap.size < w1.heap.size + 1 := by omega
            have hal := fun W O c k h => alloc_old W O c k h
            have hmi : (0 : Int) < r.mn := by omega
            have hLe := LastP.eq HVa.out hL.out
            have hMe := NextP.eq hM.out
            have hMB := markB_of HVa.out
            obtain ⟨b, o, hma, hbs, hcells⟩ := HR.out.m.at_ (by omega)
            have hcw := (bcell B1.out).1
            rcases lastI_cases ms r.mn x (by omega) with ⟨e1, e2⟩ | ⟨q, e1, hq, e3⟩
            · obtain rfl : l = -1 := by omega
              obtain rfl : m = 0 := by omega
              obtain ⟨y0c, y1c, y2c⟩ := hcells 0 (by omega)
              rw [← hcw b _ hbs] at y0c y1c y2c
              obtain ⟨y0l, y0h⟩ := hMB.b0 0 (by omega)
              obtain ⟨y2l, y2h⟩ := hMB.b2 0 (by omega)
              have hbet : betS f ms r.mn x = ((ms.getD 0 (0, 0, 0)).2.1, 0, (ms.getD 0 (0, 0, 0)).2.2 * f - ((ms.getD 0 (0, 0, 0)).1 - x)) := by
                simp only [betS, e1, e2]
                simp
                omega
              have hd1' := Lib.hid (hd1 _ _ _ hbet)
              have hd2' := Lib.hid (hd2 _ _ _ hbet)
              generalize ms.getD 0 (0, 0, 0) = y at y0c y1c y2c y0l y0h y2l y2h hd1' hd2'
              obtain ⟨y0, y1, y2⟩ := y
              simp only [Nat.zero_mul, Nat.add_zero] at y0c y1c y2c y0l y0h y2l y2h
              have r1 : 0 ≤ y2 * f := Int.mul_nonneg y2l (by omega)
              have r2 : y2 * f ≤ 9999 * 80 := Int.mul_le_mul y2h hf2 (by omega) (by omega)
              have hbw : b < w1.heap.size := by have := B1.out.size; omega
              have hbw' : b < w1.heap.size + 1 := by omega
              have w2' : IntKind.i64.wrap (y2 * f) = y2 * f := IntWalk.i64_in _ (by omega)
              have w3' : IntKind.i64.wrap (y0 - x) = y0 - x := IntWalk.i64_in _ (by omega)
              have w4' : IntKind.i64.wrap (y2 * f - (y0 - x)) = y2 * f - (y0 - x) := IntWalk.i64_in _ (by omega)
              clear hcells hcw hL hM hLe hMe e1 e2 hbet hd1 hd2 hMB
              go_wp2_with (go_at_call 42; (with_reducible refine (HF.out _).mono ?_); rintro e w3 ⟨rfl, rfl⟩)
              have TA := (Tail.new (w := w) (W := w1) 0 (9999 * f) 25 B1.out).alloc (.cells #[.int .i64 y0, .int .i64 y1, .int .i64 y2] 68)
              have TR := (HT1.out.alloc (.cells #[.int .i64 0, .int .i64 (9999 * f)] 25)).alloc (.cells #[.int .i64 y0, .int .i64 y1, .int .i64 y2] 68)
              have m0 : ((w1.alloc (.cells #[.int .i64 0, .int .i64 (9999 * f)] 25)).alloc (.cells #[.int .i64 y0, .int .i64 y1, .int .i64 y2] 68)).cell? ⟨w1.heap.size + 1, 0, none⟩ = some (.int .i64 y0) := by rw [World.cell?_alloc_at _ _ _ _ (size_alloc2 _ _).symm]; rfl
              have m1 : ((w1.alloc (.cells #[.int .i64 0, .int .i64 (9999 * f)] 25)).alloc (.cells #[.int .i64 y0, .int .i64 y1, .int .i64 y2] 68)).cell? ⟨w1.heap.size + 1, 1, none⟩ = some (.int .i64 y1) := by rw [World.cell?_alloc_at _ _ _ _ (size_alloc2 _ _).symm]; rfl
              have m2 : ((w1.alloc (.cells #[.int .i64 0, .int .i64 (9999 * f)] 25)).alloc (.cells #[.int .i64 y0, .int .i64 y1, .int .i64 y2] 68)).cell? ⟨w1.heap.size + 1, 2, none⟩ = some (.int .i64 y2) := by rw [World.cell?_alloc_at _ _ _ _ (size_alloc2 _ _).symm]; rfl
              have k1' : ((w1.alloc (.cells #[.int .i64 0, .int .i64 (9999 * f)] 25)).alloc (.cells #[.int .i64 y0, .int .i64 y1, .int .i64 y2] 68)).cell? ⟨w.heap.size, 1, none⟩ = some (.int .i64 r.g) := by rw [alloc_old _ _ _ _ (by rw [size_alloc2]; omega), alloc_old _ _ _ _ hzB]; exact k1
              simp only [World.size_alloc] at TR
              have hRA : w.heap.size + 1 ≠ w1.heap.size := by omega
              have hle1 := B1.out.size
              generalize ((w1.alloc (.cells #[.int .i64 0, .int .i64 (9999 * f)] 25)).alloc (.cells #[.int .i64 y0, .int .i64 y1, .int .i64 y2] 68)) = WX at TA TR m0 m1 m2 k1' ⊢
              generalize w1.heap.size + 1 = M at m0 m1 m2 ⊢
              generalize w1.heap.size = A at TA hRA hle1 ⊢
              generalize w.heap.size + 1 = C at TR hRA ⊢
              go_cut [11] (fun v wx => v = .int .i64 y1 ∧ Hid (Tail A 0 (y2 * f - (y0 - x)) w wx) ∧ Hid (Tail C 0 0 w wx))
              case first =>
                have HE := Lib.hid (TA.set1 (y2 * f - (y0 - x)))
                have HC2 := Lib.hid (TR.far (Ne.symm hRA) hle1 1 (.int .i64 (y2 * f - (y0 - x))))
                obtain ⟨a0, a1, g0, g1, -, hbX⟩ := TA
                refine wp_region_still_tail 12 (by kernel_rfl) (by kernel_rfl) ?_
                simp only [List.take_succ_cons, List.take_zero, List.drop_succ_cons, List.drop_zero]
                repeat still_step
                still_call (HFS.out _)
                repeat still_step
                try refine wpStill_nil ?_
                go_wp2_with fail
                all_goals go_meet
                all_goals exact ⟨rfl, HE.out.drew, HC2.out.drew⟩
              case rest =>
                obtain ⟨rfl, TA2, TR2⟩ := hcut
                have a0 := TA2.out.c0
                have a1 := TA2.out.c1
                have e0 := TR2.out.c0
                have e1 := TR2.out.c1
                have f0 := TR2.out.f0
                have f1 := TR2.out.f1
                by_cases hd : y2 * f - (y0 - x) < 0
                · have hv := Lib.hid (placeV_of (hd1'.out hd))
                  have HE := Lib.hid ((TR2.out.set0 0).set1 0)
                  go_wp2_with fail
                  have d0 := HE.out.c0
                  have d1 := HE.out.c1
                  exact bodyPost_ret (v := .tuple #[.int .i64 0, .agg #[.int .i64 0, .int .i64 0], .int .i64 9]) (by simp [results, Tryz.results30, go_sem, d0, d1]) rfl ⟨hv.out, HE.out.hb⟩
                · have hv := Lib.hid (placeV_of (hd2'.out (by omega)))
                  have HE := Lib.hid ((TR2.out.set0 (0)).set1 (y2 * f - (y0 - x)))
                  go_wp2_with fail
                  go_region
                  all_goals go_wp2
                  have d0 := HE.out.c0
                  have d1 := HE.out.c1
                  exact bodyPost_ret (v := .tuple #[.int .i64 y1, .agg #[.int .i64 (0), .int .i64 (y2 * f - (y0 - x))], .int .i64 0]) (by simp [results, Tryz.results30, go_sem, d0, d1]) rfl ⟨hv.out, HE.out.hb.drew⟩
            · obtain rfl : l = (q : Int) := by omega
              obtain ⟨x0c, x1c, x2c⟩ := hcells q hq
              rw [← hcw b _ hbs] at x0c x1c x2c
              obtain ⟨x0l, x0h⟩ := hMB.b0 q hq
              obtain ⟨x2l, x2h⟩ := hMB.b2 q hq
              have hq0 : (0 : Int) ≤ q := by omega
              have hqn : (q : Int) < r.mn := by omega
              have hqn' : ¬ ((q : Int) < 0) := by omega
              have hva : nextI ms r.mn x < r.mn → (ms.getD (nextI ms r.mn x) (0, 0, 0)).2.1 = (ms.getD q (0, 0, 0)).2.1 → betS f ms r.mn x = ((ms.getD q (0, 0, 0)).2.1, (ms.getD q (0, 0, 0)).2.2 * f + x - (ms.getD q (0, 0, 0)).1, (ms.getD (nextI ms r.mn x) (0, 0, 0)).2.2 * f - ((ms.getD (nextI ms r.mn x) (0, 0, 0)).1 - x)) := fun h1 h2 => by
                simp only [betS, e1, if_neg hqn', Int.toNat_natCast]
                rw [if_pos ⟨h1, h2⟩, Int.add_sub_assoc]
              have hvb : ¬ (nextI ms r.mn x < r.mn ∧ (ms.getD (nextI ms r.mn x) (0, 0, 0)).2.1 = (ms.getD q (0, 0, 0)).2.1) → betS f ms r.mn x = ((ms.getD q (0, 0, 0)).2.1, (ms.getD q (0, 0, 0)).2.2 * f + x - (ms.getD q (0, 0, 0)).1, 9999 * f) := fun h => by
                simp only [betS, e1, if_neg hqn', Int.toNat_natCast]
                rw [if_neg h, Int.add_sub_assoc]
              have hyc := fun h => hcells (nextI ms r.mn x) h
              have hy0 := fun h => hMB.b0 (nextI ms r.mn x) h
              have hy2 := fun h => hMB.b2 (nextI ms r.mn x) h
              generalize nextI ms r.mn x = N at hMe hva hvb hyc hy0 hy2
              generalize ms.getD N (0, 0, 0) = y at hva hvb hyc hy0 hy2
              generalize ms.getD q (0, 0, 0) = xx at x0c x1c x2c x0l x0h x2l x2h hva hvb
              obtain ⟨x0, x1, x2⟩ := xx
              obtain ⟨y0, y1, y2⟩ := y
              simp only at x0c x1c x2c x0l x0h x2l x2h hva hvb hyc hy0 hy2
              have r1 : 0 ≤ x2 * f := Int.mul_nonneg x2l (by omega)
              have r2 : x2 * f ≤ 9999 * 80 := Int.mul_le_mul x2h hf2 (by omega) (by omega)
              have key : ∃ hi : Int, betS f ms r.mn x = (x1, x2 * f + x - x0, hi) ∧ ((m = (N : Int) ∧ N < r.mn ∧ y1 = x1 ∧ hi = y2 * f - (y0 - x)) ∨ (((m = (N : Int) ∧ N < r.mn ∧ (y1 == x1) = false) ∨ m = -1) ∧ hi = 9999 * f)) := by
                rcases hMe with ⟨hm1, hn1⟩ | ⟨hm1, hn1⟩
                · exact ⟨_, hvb fun h => by omega, .inr ⟨.inr hm1, rfl⟩⟩
                · by_cases hy : y1 = x1
                  · exact ⟨_, hva hn1 hy, .inl ⟨hm1, hn1, hy, rfl⟩⟩
                  · exact ⟨_, hvb fun h => hy h.2, .inr ⟨.inl ⟨hm1, hn1, by simpa using hy⟩, rfl⟩⟩
              obtain ⟨hi, hbet, hcase⟩ := key
              have hd1' := Lib.hid (hd1 _ _ _ hbet)
              have hd2' := Lib.hid (hd2 _ _ _ hbet)
              have hbw : b < w1.heap.size := by have := B1.out.size; omega
              have hbw' : b < w1.heap.size + 1 := by omega
              have w2' : IntKind.i64.wrap (x2 * f) = x2 * f := IntWalk.i64_in _ (by omega)
              have w3' : IntKind.i64.wrap (x2 * f + x) = x2 * f + x := IntWalk.i64_in _ (by omega)
              have w4' : IntKind.i64.wrap (x2 * f + x - x0) = x2 * f + x - x0 := IntWalk.i64_in _ (by omega)
              clear hcells hcw hL hM hLe hMe e1 e3 hbet hd1 hd2 hMB hva hvb hqn'
              have Hyc := Lib.hid hyc
              clear hyc
              go_wp2_with (go_at_call 42; (with_reducible refine (HF.out _).mono ?_); rintro e w3 ⟨rfl, rfl⟩)
              have TA := (Tail.new (w := w) (W := w1) 0 (9999 * f) 25 B1.out).alloc (.cells #[.int .i64 x0, .int .i64 x1, .int .i64 x2] 68)
              have TR := (HT1.out.alloc (.cells #[.int .i64 0, .int .i64 (9999 * f)] 25)).alloc (.cells #[.int .i64 x0, .int .i64 x1, .int .i64 x2] 68)
              have m0 : ((w1.alloc (.cells #[.int .i64 0, .int .i64 (9999 * f)] 25)).alloc (.cells #[.int .i64 x0, .int .i64 x1, .int .i64 x2] 68)).cell? ⟨w1.heap.size + 1, 0, none⟩ = some (.int .i64 x0) := by rw [World.cell?_alloc_at _ _ _ _ (size_alloc2 _ _).symm]; rfl
              have m1 : ((w1.alloc (.cells #[.int .i64 0, .int .i64 (9999 * f)] 25)).alloc (.cells #[.int .i64 x0, .int .i64 x1, .int .i64 x2] 68)).cell? ⟨w1.heap.size + 1, 1, none⟩ = some (.int .i64 x1) := by rw [World.cell?_alloc_at _ _ _ _ (size_alloc2 _ _).symm]; rfl
              have m2 : ((w1.alloc (.cells #[.int .i64 0, .int .i64 (9999 * f)] 25)).alloc (.cells #[.int .i64 x0, .int .i64 x1, .int .i64 x2] 68)).cell? ⟨w1.heap.size + 1, 2, none⟩ = some (.int .i64 x2) := by rw [World.cell?_alloc_at _ _ _ _ (size_alloc2 _ _).symm]; rfl
              have k1' : ((w1.alloc (.cells #[.int .i64 0, .int .i64 (9999 * f)] 25)).alloc (.cells #[.int .i64 x0, .int .i64 x1, .int .i64 x2] 68)).cell? ⟨w.heap.size, 1, none⟩ = some (.int .i64 r.g) := by rw [alloc_old _ _ _ _ (by rw [size_alloc2]; omega), alloc_old _ _ _ _ hzB]; exact k1
              have k7' : ((w1.alloc (.cells #[.int .i64 0, .int .i64 (9999 * f)] 25)).alloc (.cells #[.int .i64 x0, .int .i64 x1, .int .i64 x2] 68)).cell? ⟨w.heap.size, 7, none⟩ = some (.slice r.ma r.mn r.mc) := by rw [alloc_old _ _ _ _ (by rw [size_alloc2]; omega), alloc_old _ _ _ _ hzB]; exact k7
              simp only [World.size_alloc] at TR
              have hRA : w.heap.size + 1 ≠ w1.heap.size := by omega
              have hBA : w1.heap.size ≠ w.heap.size := by omega
              have hle1 := B1.out.size
              clear k1 k7 x0c x1c x2c
              generalize ((w1.alloc (.cells #[.int .i64 0, .int .i64 (9999 * f)] 25)).alloc (.cells #[.int .i64 x0, .int .i64 x1, .int .i64 x2] 68)) = WX at TA TR m0 m1 m2 k1' k7' ⊢
              generalize w1.heap.size + 1 = M at m0 m1 m2 ⊢
              generalize w1.heap.size = A at TA hRA hBA hle1 ⊢
              generalize w.heap.size + 1 = C at TR hRA ⊢
              go_cut [11] (fun v wx => v = .int .i64 x1 ∧ Hid (Tail A (x2 * f + x - x0) (9999 * f) w wx) ∧ Hid (Tail C 0 0 w wx) ∧ wx.cell? ⟨w.heap.size, 1, none⟩ = some (.int .i64 r.g) ∧ wx.cell? ⟨w.heap.size, 7, none⟩ = some (.slice r.ma r.mn r.mc))
              case first =>
                have HE := Lib.hid (TA.set0 (x2 * f + x - x0))
                have HC2 := Lib.hid (TR.far (Ne.symm hRA) hle1 0 (.int .i64 (x2 * f + x - x0)))
                have j1 : (WX.setCell ⟨A, 0, none⟩ (.int .i64 (x2 * f + x - x0))).cell? ⟨w.heap.size, 1, none⟩ = some (.int .i64 r.g) := (World.cell?_setCell_far _ _ _ _ hBA).trans k1'
                have j7 : (WX.setCell ⟨A, 0, none⟩ (.int .i64 (x2 * f + x - x0))).cell? ⟨w.heap.size, 7, none⟩ = some (.slice r.ma r.mn r.mc) := (World.cell?_setCell_far _ _ _ _ hBA).trans k7'
                have J := Lib.hid (And.intro j1 j7)
                clear j1 j7
                obtain ⟨a0, a1, g0, g1, -, hbX⟩ := TA
                refine wp_region_still_tail 15 (by kernel_rfl) (by kernel_rfl) ?_
                simp only [List.take_succ_cons, List.take_zero, List.drop_succ_cons, List.drop_zero]
                repeat still_step
                still_call (HFS.out _)
                repeat still_step
                try refine wpStill_nil ?_
                go_wp2_with fail
                all_goals go_meet
                all_goals exact ⟨rfl, HE.out.drew, HC2.out.drew, J.out.1, J.out.2⟩
              case rest =>
                obtain ⟨rfl, TA2, TR2, k1, k7⟩ := hcut
                have hbc : b < wc.heap.size := by have := TA2.out.hb.size; omega
                have hBc : w.heap.size < wc.heap.size := World.block_lt_of_cell? _ _ k1
                have hBc' : w.heap.size < wc.heap.size + 1 := by omega
                have hcwc := (bcell TA2.out.hb).1
                rcases hcase with ⟨rfl, hn1, rfl, rfl⟩ | ⟨⟨rfl, hn1, hyx⟩ | rfl, rfl⟩
                · obtain ⟨y0c, y1c, y2c⟩ := Hyc.out hn1
                  rw [← hcwc b _ hbs] at y0c y1c y2c
                  obtain ⟨y0l, y0h⟩ := hy0 hn1
                  obtain ⟨y2l, y2h⟩ := hy2 hn1
                  have hNI : (N : Int) < r.mn := by omega
                  have hN0 : (0 : Int) ≤ N := by omega
                  have s1 : 0 ≤ y2 * f := Int.mul_nonneg y2l (by omega)
                  have s2 : y2 * f ≤ 9999 * 80 := Int.mul_le_mul y2h hf2 (by omega) (by omega)
                  have v2' : IntKind.i64.wrap (y2 * f) = y2 * f := IntWalk.i64_in _ (by omega)
                  have v3' : IntKind.i64.wrap (y0 - x) = y0 - x := IntWalk.i64_in _ (by omega)
                  have v4' : IntKind.i64.wrap (y2 * f - (y0 - x)) = y2 * f - (y0 - x) := IntWalk.i64_in _ (by omega)
                  clear hcwc hy0 hy2
                  go_wp2_with fail
                  have TA3 := TA2.out.alloc (.cells #[.int .i64 y0, .int .i64 y1, .int .i64 y2] 68)
                  have TR3 := TR2.out.alloc (.cells #[.int .i64 y0, .int .i64 y1, .int .i64 y2] 68)
                  have n0 : (wc.alloc (.cells #[.int .i64 y0, .int .i64 y1, .int .i64 y2] 68)).cell? ⟨wc.heap.size, 0, none⟩ = some (.int .i64 y0) := by rw [World.cell?_alloc_at _ _ _ _ rfl]; rfl
                  have n1 : (wc.alloc (.cells #[.int .i64 y0, .int .i64 y1, .int .i64 y2] 68)).cell? ⟨wc.heap.size, 1, none⟩ = some (.int .i64 y1) := by rw [World.cell?_alloc_at _ _ _ _ rfl]; rfl
                  have n2 : (wc.alloc (.cells #[.int .i64 y0, .int .i64 y1, .int .i64 y2] 68)).cell? ⟨wc.heap.size, 2, none⟩ = some (.int .i64 y2) := by rw [World.cell?_alloc_at _ _ _ _ rfl]; rfl
                  have k1'' : (wc.alloc (.cells #[.int .i64 y0, .int .i64 y1, .int .i64 y2] 68)).cell? ⟨w.heap.size, 1, none⟩ = some (.int .i64 r.g) := by rw [alloc_old _ _ _ _ hBc]; exact k1
                  clear y0c y1c y2c k1 k7
                  generalize (wc.alloc (.cells #[.int .i64 y0, .int .i64 y1, .int .i64 y2] 68)) = WY at TA3 TR3 n0 n1 n2 k1'' ⊢
                  generalize wc.heap.size = MM at n0 n1 n2 ⊢
                  go_cut [11] (fun v wx => v = .int .i64 y1 ∧ Hid (Tail A (x2 * f + x - x0) (y2 * f - (y0 - x)) w wx) ∧ Hid (Tail C 0 0 w wx))
                  case first =>
                    have HE := Lib.hid (TA3.set1 (y2 * f - (y0 - x)))
                    have HC2 := Lib.hid (TR3.far (Ne.symm hRA) hle1 1 (.int .i64 (y2 * f - (y0 - x))))
                    obtain ⟨a0, a1, g0, g1, -, hbX⟩ := TA3
                    refine wp_region_still_tail 12 (by kernel_rfl) (by kernel_rfl) ?_
                    simp only [List.take_succ_cons, List.take_zero, List.drop_succ_cons, List.drop_zero]
                    repeat still_step
                    still_call (HFS.out _)
                    repeat still_step
                    try refine wpStill_nil ?_
                    go_wp2_with fail
                    all_goals go_meet
                    all_goals exact ⟨rfl, HE.out.drew, HC2.out.drew⟩
                  case rest =>
                    obtain ⟨rfl, TA4, TR4⟩ := hcut
                    have a0 := TA4.out.c0
                    have a1 := TA4.out.c1
                    have e0 := TR4.out.c0
                    have e1 := TR4.out.c1
                    have f0 := TR4.out.f0
                    have f1 := TR4.out.f1
                    by_cases hd : y2 * f - (y0 - x) < x2 * f + x - x0
                    · have hv := Lib.hid (placeV_of (hd1'.out hd))
                      have HE := Lib.hid ((TR4.out.set0 0).set1 0)
                      go_wp2_with fail
                      have d0 := HE.out.c0
                      have d1 := HE.out.c1
                      exact bodyPost_ret (v := .tuple #[.int .i64 0, .agg #[.int .i64 0, .int .i64 0], .int .i64 9]) (by simp [results, Tryz.results30, go_sem, d0, d1]) rfl ⟨hv.out, HE.out.hb⟩
                    · have hv := Lib.hid (placeV_of (hd2'.out (by omega)))
                      have HE := Lib.hid ((TR4.out.set0 (x2 * f + x - x0)).set1 (y2 * f - (y0 - x)))
                      go_wp2_with fail
                      go_region
                      all_goals go_wp2
                      have d0 := HE.out.c0
                      have d1 := HE.out.c1
                      exact bodyPost_ret (v := .tuple #[.int .i64 y1, .agg #[.int .i64 (x2 * f + x - x0), .int .i64 (y2 * f - (y0 - x))], .int .i64 0]) (by simp [results, Tryz.results30, go_sem, d0, d1]) rfl ⟨hv.out, HE.out.hb.drew⟩
                · obtain ⟨y0c, y1c, y2c⟩ := Hyc.out hn1
                  rw [← hcwc b _ hbs] at y0c y1c y2c
                  have hNI : (N : Int) < r.mn := by omega
                  have hN0 : (0 : Int) ≤ N := by omega
                  clear hcwc hy0 hy2
                  have a0 := TA2.out.c0
                  have a1 := TA2.out.c1
                  have e0 := TR2.out.c0
                  have e1 := TR2.out.c1
                  have f0 := TR2.out.f0
                  have f1 := TR2.out.f1
                  by_cases hd : 9999 * f < x2 * f + x - x0
                  · have hv := Lib.hid (placeV_of (hd1'.out hd))
                    have HE := Lib.hid ((TR2.out.set0 0).set1 0)
                    go_wp2_with fail
                    have d0 := HE.out.c0
                    have d1 := HE.out.c1
                    exact bodyPost_ret (v := .tuple #[.int .i64 0, .agg #[.int .i64 0, .int .i64 0], .int .i64 9]) (by simp [results, Tryz.results30, go_sem, d0, d1]) rfl ⟨hv.out, HE.out.hb⟩
                  · have hv := Lib.hid (placeV_of (hd2'.out (by omega)))
                    have HE := Lib.hid ((TR2.out.set0 (x2 * f + x - x0)).set1 (9999 * f))
                    go_wp2_with fail
                    go_region
                    all_goals go_wp2
                    have d0 := HE.out.c0
                    have d1 := HE.out.c1
                    exact bodyPost_ret (v := .tuple #[.int .i64 x1, .agg #[.int .i64 (x2 * f + x - x0), .int .i64 (9999 * f)], .int .i64 0]) (by simp [results, Tryz.results30, go_sem, d0, d1]) rfl ⟨hv.out, HE.out.hb.drew⟩
                · clear hcwc hy0 hy2
                  have a0 := TA2.out.c0
                  have a1 := TA2.out.c1
                  have e0 := TR2.out.c0
                  have e1 := TR2.out.c1
                  have f0 := TR2.out.f0
                  have f1 := TR2.out.f1
                  by_cases hd : 9999 * f < x2 * f + x - x0
                  · have hv := Lib.hid (placeV_of (hd1'.out hd))
                    have HE := Lib.hid ((TR2.out.set0 0).set1 0)
                    go_wp2_with fail
                    have d0 := HE.out.c0
                    have d1 := HE.out.c1
                    exact bodyPost_ret (v := .tuple #[.int .i64 0, .agg #[.int .i64 0, .int .i64 0], .int .i64 9]) (by simp [results, Tryz.results30, go_sem, d0, d1]) rfl ⟨hv.out, HE.out.hb⟩
                  · have hv := Lib.hid (placeV_of (hd2'.out (by omega)))
                    have HE := Lib.hid ((TR2.out.set0 (x2 * f + x - x0)).set1 (9999 * f))
                    go_wp2_with fail
                    go_region
                    all_goals go_wp2
                    have d0 := HE.out.c0
                    have d1 := HE.out.c1
                    exact bodyPost_ret (v := .tuple #[.int .i64 x1, .agg #[.int .i64 (x2 * f + x - x0), .int .i64 (9999 * f)], .int .i64 0]) (by simp [results, Tryz.results30, go_sem, d0, d1]) rfl ⟨hv.out, HE.out.hb.drew⟩
  · have hb0 : ((checkS r ms ss ls).2.2 != 0) = true := by simp [h0]
    have hb1 : ((checkS r ms ss ls).2.2 == 0) = false := by simp [h0]
    have hv := Lib.hid (placeV_of (placeS_bad (x := x) h0))
    generalize (checkS r ms ss ls).2.2 = p3 at HC hb0 hb1 hv
    replace HC := Lib.hid HC
    clear h0
    go_enter Tryz.func30, Tryz.ntmps30
    go_wp2_with (go_at_call 58; refine HC.out.mono ?_; rintro e w1 ⟨rfl, hb1⟩; obtain ⟨hc1, hfz⟩ := bcell hb1)
    have HE := ((HT0.below hb1).set0 0).set1 0
    have d0 := HE.c0
    have d1 := HE.c1
    simp only [World.size_alloc] at d0 d1
    exact bodyPost_ret (v := .tuple #[.int .i64 0, .agg #[.int .i64 0, .int .i64 0], .int .i64 p3]) (by simp [results, Tryz.results30, go_sem, d0, d1]) rfl ⟨hv.out, by have := HE.hb; simpa only [World.size_alloc] using this⟩
end Go.Proofs.YtgjpbffoalldkaaGreatDoor

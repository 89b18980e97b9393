/- The reference's curve, Check, climate, levels. -/
import Derived.Test.YtanjkhclhcnnaaaMA
namespace Go.Proofs.Ytanjkhclhcnnaaa
open Go.RowKit Go.Shelf

theorem dayE_eq (a b c d : Int) : dayE (a, b, c, d) = if inB a (-300) 600 && inB b (-300) 600 && inB c 0 1000 && inB d 0 1000 then (if decide (b < a) || decide (d < c) then 2 else 0) else 7 := by
  unfold dayE demandE outB turnB
  simp only [List.any_cons, List.any_nil, Bool.or_false]
  cases inB a (-300) 600 <;> cases inB b (-300) 600 <;> cases inB c 0 1000 <;> cases inB d 0 1000 <;> simp
theorem lvE_eq (a b : Int) : lvE (a, b) = if inB a 0 1000000 && inB b 0 1000000 then (if decide (b < a) then 2 else 0) else 7 := by
  unfold lvE demandE outB turnB
  simp only [List.any_cons, List.any_nil, Bool.or_false]
  cases inB a 0 1000000 <;> cases inB b 0 1000000 <;> simp

set_option maxHeartbeats 2000000 in
theorem refClimate_any (a b c d : Int) (w : World) :
    Calls Try.prog 59 #[.agg #[.int .i64 a, .int .i64 b, .int .i64 c, .int .i64 d]] w fun e w' => e = .returned (.int .i64 (dayE (a, b, c, d))) ∧ Below w.heap.size w w' := by
  rw [dayE_eq]
  have H1 := Lib.hid (fun W => in_any a (-300) 600 W)
  have H2 := Lib.hid (fun W => in_any b (-300) 600 W)
  have H3 := Lib.hid (fun W => in_any c 0 1000 W)
  have H4 := Lib.hid (fun W => in_any d 0 1000 W)
  generalize inB a (-300) 600 = q1 at H1 ⊢
  generalize inB b (-300) 600 = q2 at H2 ⊢
  generalize inB c 0 1000 = q3 at H3 ⊢
  generalize inB d 0 1000 = q4 at H4 ⊢
  have hB : ∀ x t, Below w.heap.size w (w.alloc (.cells x t)) := fun _ _ => B_alloc (Below.refl _ _) _
  replace hB := Lib.hid hB
  by_cases t1 : b < a <;> by_cases t2 : d < c <;> cases q1 <;> cases q2 <;> cases q3 <;> cases q4
  all_goals
    go_enter Try.func59, Try.ntmps59
    go_wp2_with (first | (go_at_call 52; ((with_reducible refine (H1.out _).mono ?_); rintro e w1 ⟨rfl, rfl⟩)) | (go_at_call 52; ((with_reducible refine (H2.out _).mono ?_); rintro e w1 ⟨rfl, rfl⟩)) | (go_at_call 52; ((with_reducible refine (H3.out _).mono ?_); rintro e w1 ⟨rfl, rfl⟩)) | (go_at_call 52; ((with_reducible refine (H4.out _).mono ?_); rintro e w1 ⟨rfl, rfl⟩)))
    go_ret
    exact ⟨ret_int (by simp), hB.out _ _⟩

theorem refLevel_any (n : Int) (w : World) :
    Calls Try.prog 66 #[.int .i64 n] w fun e w' => e = .returned (.bool (inB n 0 1000000)) ∧ w = w' := by
  have H1 := Lib.hid (fun W => in_any n 0 1000000 W)
  generalize inB n 0 1000000 = q at H1 ⊢
  go_enter Try.func66, Try.ntmps66
  go_wp2_with (go_at_call 52; ((with_reducible refine (H1.out _).mono ?_); rintro e w1 ⟨rfl, rfl⟩))
  go_ret
  exact ⟨rfl, rfl⟩

set_option maxHeartbeats 2000000 in
theorem refLevels_any (a b : Int) (w : World) :
    Calls Try.prog 60 #[.agg #[.int .i64 a, .int .i64 b]] w fun e w' => e = .returned (.int .i64 (lvE (a, b))) ∧ Below w.heap.size w w' := by
  rw [lvE_eq]
  have H1 := Lib.hid (fun W => refLevel_any a W)
  have H2 := Lib.hid (fun W => refLevel_any b W)
  generalize inB a 0 1000000 = q1 at H1 ⊢
  generalize inB b 0 1000000 = q2 at H2 ⊢
  have hB : ∀ x t, Below w.heap.size w (w.alloc (.cells x t)) := fun _ _ => B_alloc (Below.refl _ _) _
  replace hB := Lib.hid hB
  by_cases t1 : b < a <;> cases q1 <;> cases q2
  all_goals
    go_enter Try.func60, Try.ntmps60
    go_wp2_with (first | (go_at_call 66; ((with_reducible refine (H1.out _).mono ?_); rintro e w1 ⟨rfl, rfl⟩)) | (go_at_call 66; ((with_reducible refine (H2.out _).mono ?_); rintro e w1 ⟨rfl, rfl⟩)))
    go_ret
    exact ⟨ret_int (by simp), hB.out _ _⟩
end Go.Proofs.Ytanjkhclhcnnaaa
/- The reference's curve. -/
namespace Go.Proofs.Ytanjkhclhcnnaaa
open Go.RowKit Go.Shelf

set_option maxRecDepth 100000 in
set_option maxHeartbeats 4000000 in
theorem refCurve_any (l : List T2) (a : Option Addr) (n c : Nat) (lo hi : Int) (w : World) (hn : n ≤ 140737488351232) (hS : Sl2 w a n l) :
    Calls Try.prog 51 #[.slice a n c, .int .i64 lo, .int .i64 hi] w fun e w' => e = .returned (.tuple #[.int .i64 (curveE l lo hi).1, .int .i64 (curveE l lo hi).2]) ∧ Below w.heap.size w w' := by
  have hl := hS.len
  have HW := Lib.hid (fun W => in_any (n : Int) 2 8 W)
  unfold curveE
  rw [hl]
  cases x : inB n 2 8
  · rw [x] at HW
    clear hS hl x
    go_enter Try.func51, Try.ntmps51
    go_wp2_with (go_at_call 52; ((with_reducible refine (HW.out _).mono ?_); rintro e w1 ⟨rfl, rfl⟩))
    go_ret2
    exact ⟨rfl, Below.refl _ _⟩
  · rw [x] at HW
    obtain ⟨x1, x2⟩ := inB_iff.1 x
    obtain ⟨b, o, rfl, hbs, hc⟩ := hS.at_ (by omega)
    replace hc := Lib.hid hc
    have hn8 : n ≤ 8 := by omega
    have hn2 : 2 ≤ n := by omega
    clear hS hl x x1 x2 hn
    simp only [if_true]
    go_enter Try.func51, Try.ntmps51
    go_wp2_with (go_at_call 52; ((with_reducible refine (HW.out _).mono ?_); rintro e w1 ⟨rfl, rfl⟩))
    go_loopg [8] n (fun gk i wr => ∃ k : Nat, gk = n - k ∧ k ≤ n ∧ i = .int .i64 (k : Int) ∧ (firstE (ptE l lo hi) k).2 = 0 ∧ ∃ m, wr = w.drewN m)
    case atStart => exact ⟨0, rfl, Nat.zero_le _, rfl, rfl, 0, rfl⟩
    case round =>
      obtain ⟨k, rfl, hk, rfl, h0, m, rfl⟩ := hrel
      replace h0 := Lib.hid h0
      by_cases hlt : k < n
      · obtain ⟨p1, p2⟩ := hc.out k hlt
        obtain ⟨q1, q2⟩ := hc.out (k - 1) (by omega)
        have hs := Lib.hid (fun (h : ptE l lo hi k ≠ 0) => firstE_stop h0.out h hlt)
        have hx := Lib.hid (fun (h : ptE l lo hi k = 0) => firstE_next h0.out h)
        have hE : ptE l lo hi k = ptP (l.getD k (0, 0)) (l.getD (k - 1) (0, 0)) lo hi (decide (k = 0)) := rfl
        rw [hE] at hs hx
        clear hE
        generalize l.getD k (0, 0) = p at p1 p2 hs hx
        generalize l.getD (k - 1) (0, 0) = q at q1 q2 hs hx
        obtain ⟨p1', p2'⟩ := p
        obtain ⟨q1', q2'⟩ := q
        unfold ptP at hs hx
        simp only at p1 p2 q1 q2 hs hx
        have HW1 := Lib.hid (fun W => in_any p1' lo hi W)
        have HW2 := Lib.hid (fun W => in_any p2' 0 1000 W)
        have hkl : (k : Int) < n := by omega
        have hk0 : (0 : Int) ≤ k := by omega
        cases x1 : inB p1' lo hi
        · rw [x1] at HW1 hs hx
          clear x1 q1 q2
          have ex : True := trivial
          replace hs := Lib.hid (hs.out (by simp))
          clear hx ex
          go_wp2_with (first | (go_at_call 52; ((with_reducible refine (HW1.out _).mono ?_); rintro e w1 ⟨rfl, rfl⟩)) | (go_at_call 52; ((with_reducible refine (HW2.out _).mono ?_); rintro e w1 ⟨rfl, rfl⟩)))
          go_ret2
          exact ⟨by first | (rw [hs.out]; simp; done) | (rw [hs.out]; simp; omega), below_drewN (Below.refl _ _) _⟩
        · rw [x1] at HW1 hs hx
          clear x1
          cases x2 : inB p2' 0 1000
          · rw [x2] at HW2 hs hx
            clear x2 q1 q2
            have ex : True := trivial
            replace hs := Lib.hid (hs.out (by simp))
            clear hx ex
            go_wp2_with (first | (go_at_call 52; ((with_reducible refine (HW1.out _).mono ?_); rintro e w1 ⟨rfl, rfl⟩)) | (go_at_call 52; ((with_reducible refine (HW2.out _).mono ?_); rintro e w1 ⟨rfl, rfl⟩)))
            go_ret2
            exact ⟨by first | (rw [hs.out]; simp; done) | (rw [hs.out]; simp; omega), below_drewN (Below.refl _ _) _⟩
          · rw [x2] at HW2 hs hx
            clear x2
            rcases k with _ | j
            · simp only [Nat.zero_mul, Nat.add_zero] at p1 p2
              clear q1 q2
              have ex : True := trivial
              replace hx := Lib.hid (hx.out (by simp))
              clear hs ex
              go_wp2_with (first | (go_at_call 52; ((with_reducible refine (HW1.out _).mono ?_); rintro e w1 ⟨rfl, rfl⟩)) | (go_at_call 52; ((with_reducible refine (HW2.out _).mono ?_); rintro e w1 ⟨rfl, rfl⟩)))
              go_quiet (fail)
              go_wp2
              go_roundg (n - (0 + 1))
              case measure => omega
              case rel => exact ⟨0 + 1, rfl, by omega, by go_num, hx.out, _, rfl⟩
            · have hjl : (j : Int) < n := by omega
              have hj0 : (0 : Int) ≤ j := by omega
              have k0 : ((j + 1 : Nat) : Int) = (j : Int) + 1 := by omega
              have hj1 : (0 : Int) ≤ (j : Int) + 1 := by omega
              rw [k0] at hkl
              rw [show j + 1 - 1 = j from rfl] at q1 q2
              have k1 : ((j : Int) + 1).toNat = j + 1 := by omega
              have k2 : IntKind.i64.wrap ((j : Int) + 1 - 1) = j := by rw [show (j : Int) + 1 - 1 = j by omega]; exact IntWalk.i64_in _ (by omega)
              simp only [k0]
              by_cases y : p1' ≤ q1'
              · have ex : p1' ≤ q1' := y
                clear k0
                replace hs := Lib.hid (hs.out (by simp [ex]))
                clear hx ex
                go_wp2_with (first | (go_at_call 52; ((with_reducible refine (HW1.out _).mono ?_); rintro e w1 ⟨rfl, rfl⟩)) | (go_at_call 52; ((with_reducible refine (HW2.out _).mono ?_); rintro e w1 ⟨rfl, rfl⟩)))
                go_quiet (fail)
                go_wp2
                go_ret2
                exact ⟨by first | (rw [hs.out]; simp; done) | (rw [hs.out]; simp; omega), below_drewN (below_drewN (Below.refl _ _) _) _⟩
              · have hd : decide (p1' ≤ q1') = false := by simpa using y
                by_cases z : p2' < q2'
                · have ex : p2' < q2' := z
                  clear k0
                  replace hs := Lib.hid (hs.out (by simp [ex]))
                  clear hx ex
                  go_wp2_with (first | (go_at_call 52; ((with_reducible refine (HW1.out _).mono ?_); rintro e w1 ⟨rfl, rfl⟩)) | (go_at_call 52; ((with_reducible refine (HW2.out _).mono ?_); rintro e w1 ⟨rfl, rfl⟩)))
                  go_quiet (fail)
                  go_wp2
                  go_ret2
                  exact ⟨by first | (rw [hs.out]; simp; done) | (rw [hs.out]; simp; omega), below_drewN (below_drewN (Below.refl _ _) _) _⟩
                · have hd2 : decide (p2' < q2') = false := by simpa using z
                  have ex : decide (p1' ≤ q1') = false ∧ decide (p2' < q2') = false := ⟨hd, hd2⟩
                  clear k0
                  replace hx := Lib.hid (hx.out (by simp [ex]))
                  clear hs ex
                  go_wp2_with (first | (go_at_call 52; ((with_reducible refine (HW1.out _).mono ?_); rintro e w1 ⟨rfl, rfl⟩)) | (go_at_call 52; ((with_reducible refine (HW2.out _).mono ?_); rintro e w1 ⟨rfl, rfl⟩)))
                  go_quiet (fail)
                  go_wp2
                  go_roundg (n - (j + 1 + 1))
                  case measure => omega
                  case rel => exact ⟨j + 1 + 1, rfl, by omega, by go_num, hx.out, _, rfl⟩
      · obtain rfl : k = n := by omega
        have hzero := Lib.hid (firstE_zero h0.out)
        go_wp2_with fail
        go_ret2
        exact ⟨by rw [hzero.out]; rfl, below_drewN (Below.refl _ _) _⟩
end Go.Proofs.Ytanjkhclhcnnaaa
/- The reference's Check. -/
namespace Go.Proofs.Ytanjkhclhcnnaaa
open Go.RowKit Go.Shelf

theorem gradeE_of (g0 g1 g2 : Int) : ∀ (k : Nat), k < 3 → gradeE g0 g1 g2 k = if inB ([g0, g1, g2].getD k 0) 1 1000000 then (if !decide (k = 0) && decide ([g0, g1, g2].getD k 0 ≤ [g0, g1, g2].getD (k - 1) 0) then 2 else 0) else 7
  | 0, _ => by simp [gradeE]
  | 1, _ => by simp [gradeE]
  | 2, _ => by simp [gradeE]

set_option maxRecDepth 100000 in
set_option maxHeartbeats 4000000 in
theorem refCheck_any (r : RuA) (hs ws : List T2) (w : World) (hR : RuR w r hs ws) :
    Calls Try.prog 16 #[.agg r.cs] w fun e w' => e = .returned (tri (checkS r hs ws)) ∧ Below w.heap.size w w' := by
  have hb0 : Below w.heap.size w (w.alloc (.cells r.cs 25)) := B_alloc (Below.refl _ _) _
  have H1 := Lib.hid (fun W (hb : Below w.heap.size w W) => refCurve_any hs r.ha r.hn r.hc (-300) 600 W hR.hn (hR.h.below hb))
  have H2 := Lib.hid (fun W (hb : Below w.heap.size w W) => refCurve_any ws r.wa r.wn r.wc 0 1000 W hR.wn (hR.w.below hb))
  have H3 := Lib.hid (fun W => in_any r.own 0 100000 W)
  have H4 := Lib.hid (fun W => in_any r.feed 0 999999 W)
  have H6 := Lib.hid (fun W => in_any r.lost 1 1000000 W)
  unfold checkS
  generalize curveE hs (-300) 600 = p1 at H1 ⊢
  generalize curveE ws 0 1000 = p2 at H2 ⊢
  generalize inB r.own 0 100000 = p3 at H3 ⊢
  generalize inB r.feed 0 999999 = p4 at H4 ⊢
  generalize inB r.lost 1 1000000 = p6 at H6 ⊢
  obtain ⟨a1, e1⟩ := p1
  obtain ⟨a2, e2⟩ := p2
  simp only at H1 H2 ⊢
  clear hR
  by_cases h1 : e1 = 0
  · subst h1
    rw [if_neg (by simp)]
    by_cases h2 : e2 = 0
    · subst h2
      rw [if_neg (by simp)]
      cases p3
      · rw [if_neg (by simp)]
        replace hb0 := Lib.hid hb0
        go_enter Try.func16, Try.ntmps16
        go_wp2_with (first | (go_at_call 51; ((with_reducible refine (H1.out _ hb0.out).mono ?_); rintro e w1 ⟨rfl, hb1⟩; obtain ⟨hc1, hf1⟩ := bcell hb1; have hz1 : w.heap.size < w1.heap.size := (by have := hb1.size; simp at this; omega))) | (go_at_call 51; ((with_reducible refine (H2.out _ (B_trans hb0.out hb1)).mono ?_); rintro e w2 ⟨rfl, hb2⟩; obtain ⟨hc2, hf2⟩ := bcell hb2; have hz2 : w.heap.size < w2.heap.size := (by have := hb2.size; omega))) | (go_at_call 52; ((with_reducible refine (H3.out _).mono ?_); rintro e w3 ⟨rfl, rfl⟩)))
        go_ret3
        exact ⟨rfl, B_trans (B_trans hb0.out hb1) hb2⟩
      · cases p4
        · rw [if_neg (by simp)]
          replace hb0 := Lib.hid hb0
          go_enter Try.func16, Try.ntmps16
          go_wp2_with (first | (go_at_call 51; ((with_reducible refine (H1.out _ hb0.out).mono ?_); rintro e w1 ⟨rfl, hb1⟩; obtain ⟨hc1, hf1⟩ := bcell hb1; have hz1 : w.heap.size < w1.heap.size := (by have := hb1.size; simp at this; omega))) | (go_at_call 51; ((with_reducible refine (H2.out _ (B_trans hb0.out hb1)).mono ?_); rintro e w2 ⟨rfl, hb2⟩; obtain ⟨hc2, hf2⟩ := bcell hb2; have hz2 : w.heap.size < w2.heap.size := (by have := hb2.size; omega))) | (go_at_call 52; ((with_reducible refine (H3.out _).mono ?_); rintro e w3 ⟨rfl, rfl⟩)) | (go_at_call 52; ((with_reducible refine (H4.out _).mono ?_); rintro e w3 ⟨rfl, rfl⟩)))
          go_ret3
          exact ⟨rfl, B_trans (B_trans hb0.out hb1) hb2⟩
        · rw [if_pos (by simp)]
          generalize hres : (if (gradesE r.g0 r.g1 r.g2).2 ≠ 0 then ((4 : Int), (gradesE r.g0 r.g1 r.g2).1, (gradesE r.g0 r.g1 r.g2).2) else if p6 = true then (0, 0, 0) else (5, 0, 7)) = res
          replace hres := Lib.hid hres
          replace hb0 := Lib.hid hb0
          go_enter Try.func16, Try.ntmps16
          go_wp2_with (first | (go_at_call 51; ((with_reducible refine (H1.out _ hb0.out).mono ?_); rintro e w1 ⟨rfl, hb1⟩; obtain ⟨hc1, hf1⟩ := bcell hb1; have hz1 : w.heap.size < w1.heap.size := (by have := hb1.size; simp at this; omega))) | (go_at_call 51; ((with_reducible refine (H2.out _ (B_trans hb0.out hb1)).mono ?_); rintro e w2 ⟨rfl, hb2⟩; obtain ⟨hc2, hf2⟩ := bcell hb2; have hz2 : w.heap.size < w2.heap.size := (by have := hb2.size; omega))) | (go_at_call 52; ((with_reducible refine (H3.out _).mono ?_); rintro e w3 ⟨rfl, rfl⟩)) | (go_at_call 52; ((with_reducible refine (H4.out _).mono ?_); rintro e w3 ⟨rfl, rfl⟩)))
          have k4 : w2.cell? ⟨w.heap.size, 4, none⟩ = some (.int .i64 r.g0) := by rw [hc2 _ _ hz1, hc1 _ _ (by simp)]; simp [go_sem]
          have k5 : w2.cell? ⟨w.heap.size, 5, none⟩ = some (.int .i64 r.g1) := by rw [hc2 _ _ hz1, hc1 _ _ (by simp)]; simp [go_sem]
          have k6 : w2.cell? ⟨w.heap.size, 6, none⟩ = some (.int .i64 r.g2) := by rw [hc2 _ _ hz1, hc1 _ _ (by simp)]; simp [go_sem]
          have k7 : w2.cell? ⟨w.heap.size, 7, none⟩ = some (.int .i64 r.lost) := by rw [hc2 _ _ hz1, hc1 _ _ (by simp)]; simp [go_sem]
          have hbw := Lib.hid (B_trans (B_trans hb0.out hb1) hb2)
          clear hc1 hc2 hf1 hf2 hb1 hb2 hb0 H1 H2 H3 H4
          go_loopg [7] 3 (fun gk i wr => ∃ k : Nat, gk = 3 - k ∧ k ≤ 3 ∧ i = .int .i64 (k : Int) ∧ (firstE (gradeE r.g0 r.g1 r.g2) k).2 = 0 ∧ ∃ m, wr = w2.drewN m)
          case atStart => exact ⟨0, rfl, Nat.zero_le _, rfl, rfl, 0, rfl⟩
          case round =>
            obtain ⟨k, rfl, hk, rfl, h0, m, rfl⟩ := hrel
            replace h0 := Lib.hid h0
            have hkk : k = 0 ∨ k = 1 ∨ k = 2 ∨ k = 3 := by omega
            rcases hkk with rfl | rfl | rfl | rfl
            · have HG := Lib.hid (fun W => in_any r.g0 1 1000000 W)
              have hs := Lib.hid (fun (h : gradeE r.g0 r.g1 r.g2 0 ≠ 0) => firstE_stop h0.out h (n := 3) (by decide))
              have hx := Lib.hid (fun (h : gradeE r.g0 r.g1 r.g2 0 = 0) => firstE_next h0.out h)
              have hv : gradeE r.g0 r.g1 r.g2 0 = (if inB r.g0 1 1000000 then 0 else 7) := rfl
              rw [hv] at hs hx
              clear hv
              cases x : inB r.g0 1 1000000
              · rw [x] at HG hs hx
                clear x
                replace hs := Lib.hid (hs.out (by simp))
                clear hx
                go_wp2_with (go_at_call 52; ((with_reducible refine (HG.out _).mono ?_); rintro e w3 ⟨rfl, rfl⟩))
                go_ret3
                exact ⟨by rw [← hres.out, gradesE, hs.out, if_pos (by simp)]; rfl, below_drewN hbw.out _⟩
              · rw [x] at HG hs hx
                clear x
                replace hx := Lib.hid (hx.out (by simp))
                clear hs
                go_wp2_with (go_at_call 52; ((with_reducible refine (HG.out _).mono ?_); rintro e w3 ⟨rfl, rfl⟩))
                go_quiet (fail)
                go_wp2
                go_roundg 2
                case measure => omega
                case rel => exact ⟨1, rfl, by omega, rfl, hx.out, _, rfl⟩
            · have HG := Lib.hid (fun W => in_any r.g1 1 1000000 W)
              have hs := Lib.hid (fun (h : gradeE r.g0 r.g1 r.g2 1 ≠ 0) => firstE_stop h0.out h (n := 3) (by decide))
              have hx := Lib.hid (fun (h : gradeE r.g0 r.g1 r.g2 1 = 0) => firstE_next h0.out h)
              have hv : gradeE r.g0 r.g1 r.g2 1 = (if inB r.g1 1 1000000 then (if decide (r.g1 ≤ r.g0) then 2 else 0) else 7) := rfl
              rw [hv] at hs hx
              clear hv
              cases x : inB r.g1 1 1000000
              · rw [x] at HG hs hx
                clear x
                replace hs := Lib.hid (hs.out (by simp))
                clear hx
                go_wp2_with (go_at_call 52; ((with_reducible refine (HG.out _).mono ?_); rintro e w3 ⟨rfl, rfl⟩))
                go_ret3
                exact ⟨by rw [← hres.out, gradesE, hs.out, if_pos (by simp)]; rfl, below_drewN hbw.out _⟩
              · rw [x] at HG hs hx
                clear x
                by_cases y : r.g1 ≤ r.g0
                · replace hs := Lib.hid (hs.out (by simp [y]))
                  clear hx
                  go_wp2_with (go_at_call 52; ((with_reducible refine (HG.out _).mono ?_); rintro e w3 ⟨rfl, rfl⟩))
                  go_quiet (fail)
                  go_wp2
                  go_ret3
                  exact ⟨by rw [← hres.out, gradesE, hs.out, if_pos (by simp [y])]; simp [y, tri], below_drewN (below_drewN hbw.out _) _⟩
                · replace hx := Lib.hid (hx.out (by simp [y]))
                  have hd : decide (r.g1 ≤ r.g0) = false := by simpa using y
                  clear hs
                  go_wp2_with (go_at_call 52; ((with_reducible refine (HG.out _).mono ?_); rintro e w3 ⟨rfl, rfl⟩))
                  go_quiet (fail)
                  go_wp2
                  go_roundg 1
                  case measure => omega
                  case rel => exact ⟨2, rfl, by omega, rfl, hx.out, _, rfl⟩
            · have HG := Lib.hid (fun W => in_any r.g2 1 1000000 W)
              have hs := Lib.hid (fun (h : gradeE r.g0 r.g1 r.g2 2 ≠ 0) => firstE_stop h0.out h (n := 3) (by decide))
              have hx := Lib.hid (fun (h : gradeE r.g0 r.g1 r.g2 2 = 0) => firstE_next h0.out h)
              have hv : gradeE r.g0 r.g1 r.g2 2 = (if inB r.g2 1 1000000 then (if decide (r.g2 ≤ r.g1) then 2 else 0) else 7) := rfl
              rw [hv] at hs hx
              clear hv
              cases x : inB r.g2 1 1000000
              · rw [x] at HG hs hx
                clear x
                replace hs := Lib.hid (hs.out (by simp))
                clear hx
                go_wp2_with (go_at_call 52; ((with_reducible refine (HG.out _).mono ?_); rintro e w3 ⟨rfl, rfl⟩))
                go_ret3
                exact ⟨by rw [← hres.out, gradesE, hs.out, if_pos (by simp)]; rfl, below_drewN hbw.out _⟩
              · rw [x] at HG hs hx
                clear x
                by_cases y : r.g2 ≤ r.g1
                · replace hs := Lib.hid (hs.out (by simp [y]))
                  clear hx
                  go_wp2_with (go_at_call 52; ((with_reducible refine (HG.out _).mono ?_); rintro e w3 ⟨rfl, rfl⟩))
                  go_quiet (fail)
                  go_wp2
                  go_ret3
                  exact ⟨by rw [← hres.out, gradesE, hs.out, if_pos (by simp [y])]; simp [y, tri], below_drewN (below_drewN hbw.out _) _⟩
                · replace hx := Lib.hid (hx.out (by simp [y]))
                  have hd : decide (r.g2 ≤ r.g1) = false := by simpa using y
                  clear hs
                  go_wp2_with (go_at_call 52; ((with_reducible refine (HG.out _).mono ?_); rintro e w3 ⟨rfl, rfl⟩))
                  go_quiet (fail)
                  go_wp2
                  go_roundg 0
                  case measure => omega
                  case rel => exact ⟨3, rfl, by omega, rfl, hx.out, _, rfl⟩
            · have hzero := Lib.hid (firstE_zero h0.out)
              cases p6
              · go_wp2_with (go_at_call 52; ((with_reducible refine (H6.out _).mono ?_); rintro e w3 ⟨rfl, rfl⟩))
                go_ret3
                exact ⟨by rw [← hres.out, gradesE, hzero.out, if_neg (by simp), if_neg (by simp)]; rfl, below_drewN hbw.out _⟩
              · go_wp2_with (go_at_call 52; ((with_reducible refine (H6.out _).mono ?_); rintro e w3 ⟨rfl, rfl⟩))
                go_ret3
                exact ⟨by rw [← hres.out, gradesE, hzero.out, if_neg (by simp), if_pos trivial]; rfl, below_drewN hbw.out _⟩
    · rw [if_pos h2]
      have hq : (e2 != 0) = true := by simpa using h2
      clear h2
      replace hb0 := Lib.hid hb0
      go_enter Try.func16, Try.ntmps16
      go_wp2_with (first | (go_at_call 51; ((with_reducible refine (H1.out _ hb0.out).mono ?_); rintro e w1 ⟨rfl, hb1⟩; obtain ⟨hc1, hf1⟩ := bcell hb1; have hz1 : w.heap.size < w1.heap.size := (by have := hb1.size; simp at this; omega))) | (go_at_call 51; ((with_reducible refine (H2.out _ (B_trans hb0.out hb1)).mono ?_); rintro e w2 ⟨rfl, hb2⟩; obtain ⟨hc2, hf2⟩ := bcell hb2; have hz2 : w.heap.size < w2.heap.size := (by have := hb2.size; omega))))
      go_ret3
      exact ⟨rfl, B_trans (B_trans hb0.out hb1) hb2⟩
  · rw [if_pos h1]
    have hq : (e1 != 0) = true := by simpa using h1
    clear h1
    replace hb0 := Lib.hid hb0
    go_enter Try.func16, Try.ntmps16
    go_wp2_with (go_at_call 51; ((with_reducible refine (H1.out _ hb0.out).mono ?_); rintro e w1 ⟨rfl, hb1⟩; obtain ⟨hc1, hf1⟩ := bcell hb1; have hz1 : w.heap.size < w1.heap.size := (by have := hb1.size; simp at this; omega)))
    go_ret3
    exact ⟨rfl, B_trans hb0.out hb1⟩
end Go.Proofs.Ytanjkhclhcnnaaa
/- The reference's CheckTask. -/
namespace Go.Proofs.Ytanjkhclhcnnaaa
open Go.RowKit Go.Shelf

set_option maxHeartbeats 8000000 in
set_option maxRecDepth 100000 in
theorem refCheckTask_any (t : TkA) (hs ws : List T2) (ds : List T4) (ts : List T3) (w : World) (hR : TkR w t hs ws ds ts) :
    Calls Try.prog 18 #[.agg t.cs] w fun e w' => e = .returned (tri (taskS t hs ws ds ts)) ∧ Below w.heap.size w w' := by
  have hb0 : Below w.heap.size w (w.alloc (.cells t.cs 31)) := B_alloc (Below.refl _ _) _
  have hT0 := Lib.hid (TBox.new w t 31)
  have H1 := Lib.hid (fun W (hb : Below w.heap.size w W) => refCheck_any t.r hs ws W (hR.r.below hb))
  have H2 := Lib.hid (fun W => in_any t.first 0 80000 W)
  have H4 := Lib.hid (fun W => refLevels_any t.lo t.hi W)
  have hdn := hR.dn
  have htn := hR.tn
  have hRR := Lib.hid hR
  unfold taskS
  have hin : inB t.first 0 (80000 - t.dn) = (inB t.first 0 80000 && !decide (80000 < t.first + t.dn)) := by
    rw [Bool.eq_iff_iff, inB_iff, Bool.and_eq_true, inB_iff, Bool.not_eq_true', decide_eq_false_iff_not]; omega
  rw [hin]
  clear hin
  generalize checkS t.r hs ws = p1 at H1 ⊢
  obtain ⟨a1, b1, e1⟩ := p1
  unfold tri at H1
  simp only at H1 H4 ⊢
  have hfi := Lib.hid (fun (h : inB t.first 0 80000 = true) => inB_iff.1 h)
  generalize inB t.first 0 80000 = q2 at H2 hfi ⊢
  replace hb0 := Lib.hid hb0
  clear hR
  by_cases h1 : e1 = 0
  · subst h1
    rw [if_neg (by simp)]
    by_cases hl : 400 < t.dn
    · rw [if_pos (.inl hl)]
      have hl2 : (400 : Int) < t.dn := by omega
      go_enter Try.func18, Try.ntmps18
      go_wp2_with (first | (go_at_call 16; ((with_reducible refine (H1.out _ hb0.out).mono ?_); rintro e w1 ⟨rfl, hb1⟩; obtain ⟨hc1, hf1⟩ := bcell hb1; have hz1 : w.heap.size < w1.heap.size := (by have := hb1.size; simp at this; omega))))
      go_ret3
      exact ⟨rfl, B_trans hb0.out hb1⟩
    · by_cases hm : 20 < t.tn
      · rw [if_pos (.inr hm)]
        have hl2 : ¬ (400 : Int) < t.dn := by omega
        have hm2 : (20 : Int) < t.tn := by omega
        go_enter Try.func18, Try.ntmps18
        go_wp2_with (first | (go_at_call 16; ((with_reducible refine (H1.out _ hb0.out).mono ?_); rintro e w1 ⟨rfl, hb1⟩; obtain ⟨hc1, hf1⟩ := bcell hb1; have hz1 : w.heap.size < w1.heap.size := (by have := hb1.size; simp at this; omega))))
        go_ret3
        exact ⟨rfl, B_trans hb0.out hb1⟩
      · rw [if_neg (by omega)]
        have hl2 : ¬ (400 : Int) < t.dn := by omega
        have hm2 : ¬ (20 : Int) < t.tn := by omega
        cases q2
        · rw [if_neg (by simp)]
          go_enter Try.func18, Try.ntmps18
          go_wp2_with (first | (go_at_call 16; ((with_reducible refine (H1.out _ hb0.out).mono ?_); rintro e w1 ⟨rfl, hb1⟩; obtain ⟨hc1, hf1⟩ := bcell hb1; have hz1 : w.heap.size < w1.heap.size := (by have := hb1.size; simp at this; omega))) | (go_at_call 52; ((with_reducible refine (H2.out _).mono ?_); rintro e w3 ⟨rfl, rfl⟩)))
          go_ret3
          exact ⟨rfl, B_trans hb0.out hb1⟩
        · obtain ⟨hf1', hf2'⟩ := hfi.out rfl
          have hsum : IntKind.i64.wrap (t.first + t.dn) = t.first + t.dn := IntWalk.i64_in _ (by omega)
          by_cases hd : 80000 < t.first + t.dn
          · rw [if_neg (by simp; omega)]
            clear hsum
            go_enter Try.func18, Try.ntmps18
            go_wp2_with (first | (go_at_call 16; ((with_reducible refine (H1.out _ hb0.out).mono ?_); rintro e w1 ⟨rfl, hb1⟩; obtain ⟨hc1, hf1⟩ := bcell hb1; have hz1 : w.heap.size < w1.heap.size := (by have := hb1.size; simp at this; omega))) | (go_at_call 52; ((with_reducible refine (H2.out _).mono ?_); rintro e w3 ⟨rfl, rfl⟩)))
            go_ret3
            exact ⟨rfl, B_trans hb0.out hb1⟩
          · rw [if_pos (by simp; omega)]
            generalize hres : (if (daysE ds t.dn).2 ≠ 0 then ((3 : Int), (daysE ds t.dn).1, (daysE ds t.dn).2) else if lvE (t.lo, t.hi) ≠ 0 then (4, 0, lvE (t.lo, t.hi)) else if (testsE t.first t.dn ts t.tn).2 ≠ 0 then (5, (testsE t.first t.dn ts t.tn).1, (testsE t.first t.dn ts t.tn).2) else (0, 0, 0)) = res
            replace hres := Lib.hid hres
            clear hfi hsum
            go_enter Try.func18, Try.ntmps18
            go_wp2_with (first | (go_at_call 16; ((with_reducible refine (H1.out _ hb0.out).mono ?_); rintro e w1 ⟨rfl, hb1⟩; obtain ⟨hc1, hf1⟩ := bcell hb1; have hz1 : w.heap.size < w1.heap.size := (by have := hb1.size; simp at this; omega))) | (go_at_call 52; ((with_reducible refine (H2.out _).mono ?_); rintro e w3 ⟨rfl, rfl⟩)))
            have hT1 := Lib.hid (hT0.out.below hb1)
            have hbw := Lib.hid (B_trans hb0.out hb1)
            clear hc1 hf1 hb1 hb0 hT0 H1 H2
            go_loopg [8] t.dn (fun gk i wr => ∃ k : Nat, gk = t.dn - k ∧ k ≤ t.dn ∧ i = .int .i64 (k : Int) ∧ (daysE ds k).2 = 0 ∧ Below w1.heap.size w1 wr)
            case atStart => exact ⟨0, rfl, Nat.zero_le _, rfl, rfl, Below.refl _ _⟩
            case round =>
              obtain ⟨k, rfl, hk, rfl, h0, hb⟩ := hrel
              replace h0 := Lib.hid h0
              have hTB := hT1.out.below hb
              obtain ⟨-, -, -, -, -, -, -, -, k8, k9, k10, k11, k12⟩ := hTB.all
              have hzw := hTB.lt
              clear hTB
              have hk0 : (0 : Int) ≤ k := by omega
              by_cases hlt : k < t.dn
              · have hkl : (k : Int) < t.dn := by omega
                obtain ⟨b, o, hda, hbs, hc⟩ := (hRR.out.d.below (B_trans hbw.out hb)).at_ (by omega)
                obtain ⟨p0, p1, p2, p3⟩ := hc k hlt
                have HC := Lib.hid (fun W => refClimate_any (ds.getD k (0, 0, 0, 0)).1 (ds.getD k (0, 0, 0, 0)).2.1 (ds.getD k (0, 0, 0, 0)).2.2.1 (ds.getD k (0, 0, 0, 0)).2.2.2 W)
                have hs := Lib.hid (fun (h : dayE (ds.getD k (0, 0, 0, 0)) ≠ 0) => firstE_stop (f := fun i => dayE (ds.getD i (0, 0, 0, 0))) h0.out h hlt)
                have hx := Lib.hid (fun (h : dayE (ds.getD k (0, 0, 0, 0)) = 0) => firstE_next (f := fun i => dayE (ds.getD i (0, 0, 0, 0))) h0.out h)
                generalize ds.getD k (0, 0, 0, 0) = x at p0 p1 p2 p3 HC hs hx
                obtain ⟨x0, x1, x2, x3⟩ := x
                simp only at p0 p1 p2 p3 HC
                generalize dayE (x0, x1, x2, x3) = E at HC hs hx
                rw [hda] at k9
                clear hc hda
                by_cases he : E = 0
                · subst he
                  replace hx := Lib.hid (hx.out rfl)
                  clear hs
                  go_wp2_with (go_at_call 59; ((with_reducible refine (HC.out _).mono ?_); rintro e w2 ⟨rfl, hb2⟩))
                  go_roundg (t.dn - (k + 1))
                  case measure => omega
                  case rel => exact ⟨k + 1, rfl, by omega, by go_num, hx.out, B_trans hb hb2⟩
                · replace hs := Lib.hid (hs.out he)
                  have hq : (E != 0) = true := by simpa using he
                  clear hx
                  go_wp2_with (go_at_call 59; ((with_reducible refine (HC.out _).mono ?_); rintro e w2 ⟨rfl, hb2⟩))
                  go_ret3
                  exact ⟨by rw [← hres.out, daysE, hs.out, if_pos he]; rfl, B_trans hbw.out (B_trans hb hb2)⟩
              · obtain rfl : k = t.dn := by omega
                have hzero : Hid (daysE ds t.dn = (0, 0)) := firstE_zero h0.out
                by_cases h4 : lvE (t.lo, t.hi) = 0
                · rw [h4] at H4
                  replace h4 := Lib.hid h4
                  go_wp2_with (go_at_call 60; ((with_reducible refine (H4.out _).mono ?_); rintro e w2 ⟨rfl, hb2⟩))
                  have hT2 := Lib.hid (hT1.out.below (B_trans hb hb2))
                  have hb12 := Lib.hid (B_trans hb hb2)
                  clear hb hb2 hzw hT1 H4 k8 k9 k10 k11 k12
                  go_loopg [10] t.tn (fun gk i wr => ∃ k : Nat, gk = t.tn - k ∧ k ≤ t.tn ∧ i = .int .i64 (k : Int) ∧ (testsE t.first t.dn ts k).2 = 0 ∧ Below w2.heap.size w2 wr)
                  case atStart => exact ⟨0, rfl, Nat.zero_le _, rfl, rfl, Below.refl _ _⟩
                  case round =>
                    obtain ⟨k, rfl, hk, rfl, h0, hb⟩ := hrel
                    replace h0 := Lib.hid h0
                    have hTB := hT2.out.below hb
                    obtain ⟨-, -, -, -, -, -, -, -, k8, k9, k10, k11, k12⟩ := hTB.all
                    have hzw := hTB.lt
                    clear hTB
                    have hk0 : (0 : Int) ≤ k := by omega
                    by_cases hlt : k < t.tn
                    · have hkl : (k : Int) < t.tn := by omega
                      obtain ⟨b, o, hta, hbs, hc⟩ := (hRR.out.t.below (B_trans hbw.out (B_trans hb12.out hb))).at_ (by omega)
                      obtain ⟨p0, p1, p2⟩ := hc k hlt
                      have hs : Hid (testE t.first t.dn (ts.getD k (0, 0, 0)) ≠ 0 → testsE t.first t.dn ts t.tn = ((k : Int), testE t.first t.dn (ts.getD k (0, 0, 0)))) := (fun h => firstE_stop (f := fun i => testE t.first t.dn (ts.getD i (0, 0, 0))) h0.out h hlt)
                      have hx : Hid (testE t.first t.dn (ts.getD k (0, 0, 0)) = 0 → (testsE t.first t.dn ts (k + 1)).2 = 0) := (fun h => firstE_next (f := fun i => testE t.first t.dn (ts.getD i (0, 0, 0))) h0.out h)
                      generalize ts.getD k (0, 0, 0) = x at p0 p1 p2 hs hx
                      obtain ⟨x0, x1, x2⟩ := x
                      simp only at p0 p1 p2 hs hx
                      have hv : testE t.first t.dn (x0, x1, x2) = (if inB x0 t.first (t.first + t.dn) && inB x1 0 3 && inB x2 0 3 then 0 else 7) := rfl
                      rw [hv] at hs hx
                      clear hv
                      rw [hta] at k12
                      clear hc hta
                      have G1 := Lib.hid (fun W => in_any x0 t.first (t.first + t.dn) W)
                      have G2 := Lib.hid (fun W => in_any x1 0 3 W)
                      have G3 := Lib.hid (fun W => in_any x2 0 3 W)
                      have hB : ∀ v T, Below w.heap.size w (wr.alloc (.cells v T)) := fun _ _ => B_alloc (B_trans hbw.out (B_trans hb12.out hb)) _
                      replace hB := Lib.hid hB
                      generalize inB x0 t.first (t.first + t.dn) = q1 at G1 hs hx
                      generalize inB x1 0 3 = q2 at G2 hs hx
                      generalize inB x2 0 3 = q3 at G3 hs hx
                      have hsum : IntKind.i64.wrap (t.first + t.dn) = t.first + t.dn := IntWalk.i64_in _ (by omega)
                      cases q1
                      · clear G2 G3
                        replace hs := Lib.hid (hs.out (by simp))
                        clear hx
                        go_wp2_with (first | (go_at_call 52; ((with_reducible refine (G1.out _).mono ?_); rintro e w3 ⟨rfl, rfl⟩)))
                        go_ret3
                        exact ⟨by rw [← hres.out, hzero.out, h4.out, hs.out]; rfl, hB.out _ _⟩
                      · cases q2
                        · clear G3
                          replace hs := Lib.hid (hs.out (by simp))
                          clear hx
                          go_wp2_with (first | (go_at_call 52; ((with_reducible refine (G1.out _).mono ?_); rintro e w3 ⟨rfl, rfl⟩)) | (go_at_call 52; ((with_reducible refine (G2.out _).mono ?_); rintro e w3 ⟨rfl, rfl⟩)))
                          go_ret3
                          exact ⟨by rw [← hres.out, hzero.out, h4.out, hs.out]; rfl, hB.out _ _⟩
                        · cases q3
                          · skip
                            replace hs := Lib.hid (hs.out (by simp))
                            clear hx
                            go_wp2_with (first | (go_at_call 52; ((with_reducible refine (G1.out _).mono ?_); rintro e w3 ⟨rfl, rfl⟩)) | (go_at_call 52; ((with_reducible refine (G2.out _).mono ?_); rintro e w3 ⟨rfl, rfl⟩)) | (go_at_call 52; ((with_reducible refine (G3.out _).mono ?_); rintro e w3 ⟨rfl, rfl⟩)))
                            go_ret3
                            exact ⟨by rw [← hres.out, hzero.out, h4.out, hs.out]; rfl, hB.out _ _⟩
                          · replace hx := Lib.hid (hx.out (by simp))
                            clear hs
                            go_wp2_with (first | (go_at_call 52; ((with_reducible refine (G1.out _).mono ?_); rintro e w3 ⟨rfl, rfl⟩)) | (go_at_call 52; ((with_reducible refine (G2.out _).mono ?_); rintro e w3 ⟨rfl, rfl⟩)) | (go_at_call 52; ((with_reducible refine (G3.out _).mono ?_); rintro e w3 ⟨rfl, rfl⟩)))
                            go_roundg (t.tn - (k + 1))
                            case measure => omega
                            case rel => exact ⟨k + 1, rfl, by omega, by go_num, hx.out, B_alloc hb _⟩
                    · obtain rfl : k = t.tn := by omega
                      have hzero2 : Hid (testsE t.first t.dn ts t.tn = (0, 0)) := firstE_zero h0.out
                      go_wp2
                      go_ret3
                      exact ⟨by rw [← hres.out, hzero.out, h4.out, hzero2.out]; rfl, B_trans hbw.out (B_trans hb12.out hb)⟩
                · have hq : (lvE (t.lo, t.hi) != 0) = true := by simpa using h4
                  go_wp2_with (go_at_call 60; ((with_reducible refine (H4.out _).mono ?_); rintro e w2 ⟨rfl, hb2⟩))
                  go_ret3
                  exact ⟨by rw [← hres.out, hzero.out, if_neg (by simp), if_pos h4]; rfl, B_trans hbw.out (B_trans hb hb2)⟩
  · rw [if_pos h1]
    have hq : (e1 != 0) = true := by simpa using h1
    clear h1
    go_enter Try.func18, Try.ntmps18
    go_wp2_with (first | (go_at_call 16; ((with_reducible refine (H1.out _ hb0.out).mono ?_); rintro e w1 ⟨rfl, hb1⟩; obtain ⟨hc1, hf1⟩ := bcell hb1; have hz1 : w.heap.size < w1.heap.size := (by have := hb1.size; simp at this; omega))))
    go_ret3
    exact ⟨rfl, B_trans hb0.out hb1⟩
end Go.Proofs.Ytanjkhclhcnnaaa

/- The reference's Check. -/
import Derived.Test.YtanjkhclhcnnaaaWL
import Derived.Test.YtanjkhclhcnnaaaWH
namespace Go.Proofs.Ytanjkhclhcnnaaa
open Go.RowKit Go.Shelf

theorem gradeE_of (g0 g1 g2 : Int) : ∀ (k : Nat), k < 3 → gradeE g0 g1 g2 k = if inB ([g0, g1, g2].getD k 0) 1 1000000 then (if !decide (k = 0) && decide ([g0, g1, g2].getD k 0 ≤ [g0, g1, g2].getD (k - 1) 0) then 2 else 0) else 7
  | 0, _ => by simp [gradeE]
  | 1, _ => by simp [gradeE]
  | 2, _ => by simp [gradeE]

set_option maxRecDepth 100000 in
set_option maxHeartbeats 4000000 in
theorem refCheck_any (r : RuA) (hs ws : List T2) (w : World) (hR : RuR w r hs ws) :
    Calls Try.prog 16 #[.agg r.cs] w fun e w' => e = .returned (tri (checkS r hs ws)) ∧ Below w.heap.size w w' := by
  have hb0 : Below w.heap.size w (w.alloc (.cells r.cs 25)) := B_alloc (Below.refl _ _) _
  have H1 := Lib.hid (fun W (hb : Below w.heap.size w W) => refCurve_any hs r.ha r.hn r.hc (-300) 600 W hR.hn (hR.h.below hb))
  have H2 := Lib.hid (fun W (hb : Below w.heap.size w W) => refCurve_any ws r.wa r.wn r.wc 0 1000 W hR.wn (hR.w.below hb))
  have H3 := Lib.hid (fun W => in_any r.own 0 100000 W)
  have H4 := Lib.hid (fun W => in_any r.feed 0 999999 W)
  have H6 := Lib.hid (fun W => in_any r.lost 1 1000000 W)
  unfold checkS
  generalize curveE hs (-300) 600 = p1 at H1 ⊢
  generalize curveE ws 0 1000 = p2 at H2 ⊢
  generalize inB r.own 0 100000 = p3 at H3 ⊢
  generalize inB r.feed 0 999999 = p4 at H4 ⊢
  generalize inB r.lost 1 1000000 = p6 at H6 ⊢
  obtain ⟨a1, e1⟩ := p1
  obtain ⟨a2, e2⟩ := p2
  simp only at H1 H2 ⊢
  clear hR
  by_cases h1 : e1 = 0
  · subst h1
    rw [if_neg (by simp)]
    by_cases h2 : e2 = 0
    · subst h2
      rw [if_neg (by simp)]
      cases p3
      · rw [if_neg (by simp)]
        replace hb0 := Lib.hid hb0
        go_enter Try.func16, Try.ntmps16
        go_wp2_with (first | (go_at_call 51; ((with_reducible refine (H1.out _ hb0.out).mono ?_); rintro e w1 ⟨rfl, hb1⟩; obtain ⟨hc1, hf1⟩ := bcell hb1; have hz1 : w.heap.size < w1.heap.size := (by have := hb1.size; simp at this; omega))) | (go_at_call 51; ((with_reducible refine (H2.out _ (B_trans hb0.out hb1)).mono ?_); rintro e w2 ⟨rfl, hb2⟩; obtain ⟨hc2, hf2⟩ := bcell hb2; have hz2 : w.heap.size < w2.heap.size := (by have := hb2.size; omega))) | (go_at_call 52; ((with_reducible refine (H3.out _).mono ?_); rintro e w3 ⟨rfl, rfl⟩)))
        go_ret3
        exact ⟨rfl, B_trans (B_trans hb0.out hb1) hb2⟩
      · cases p4
        · rw [if_neg (by simp)]
          replace hb0 := Lib.hid hb0
          go_enter Try.func16, Try.ntmps16
          go_wp2_with (first | (go_at_call 51; ((with_reducible refine (H1.out _ hb0.out).mono ?_); rintro e w1 ⟨rfl, hb1⟩; obtain ⟨hc1, hf1⟩ := bcell hb1; have hz1 : w.heap.size < w1.heap.size := (by have := hb1.size; simp at this; omega))) | (go_at_call 51; ((with_reducible refine (H2.out _ (B_trans hb0.out hb1)).mono ?_); rintro e w2 ⟨rfl, hb2⟩; obtain ⟨hc2, hf2⟩ := bcell hb2; have hz2 : w.heap.size < w2.heap.size := (by have := hb2.size; omega))) | (go_at_call 52; ((with_reducible refine (H3.out _).mono ?_); rintro e w3 ⟨rfl, rfl⟩)) | (go_at_call 52; ((with_reducible refine (H4.out _).mono ?_); rintro e w3 ⟨rfl, rfl⟩)))
          go_ret3
          exact ⟨rfl, B_trans (B_trans hb0.out hb1) hb2⟩
        · rw [if_pos (by simp)]
          generalize hres : (if (gradesE r.g0 r.g1 r.g2).2 ≠ 0 then ((4 : Int), (gradesE r.g0 r.g1 r.g2).1, (gradesE r.g0 r.g1 r.g2).2) else if p6 = true then (0, 0, 0) else (5, 0, 7)) = res
          replace hres := Lib.hid hres
          replace hb0 := Lib.hid hb0
          go_enter Try.func16, Try.ntmps16
          go_wp2_with (first | (go_at_call 51; ((with_reducible refine (H1.out _ hb0.out).mono ?_); rintro e w1 ⟨rfl, hb1⟩; obtain ⟨hc1, hf1⟩ := bcell hb1; have hz1 : w.heap.size < w1.heap.size := (by have := hb1.size; simp at this; omega))) | (go_at_call 51; ((with_reducible refine (H2.out _ (B_trans hb0.out hb1)).mono ?_); rintro e w2 ⟨rfl, hb2⟩; obtain ⟨hc2, hf2⟩ := bcell hb2; have hz2 : w.heap.size < w2.heap.size := (by have := hb2.size; omega))) | (go_at_call 52; ((with_reducible refine (H3.out _).mono ?_); rintro e w3 ⟨rfl, rfl⟩)) | (go_at_call 52; ((with_reducible refine (H4.out _).mono ?_); rintro e w3 ⟨rfl, rfl⟩)))
          have k4 : w2.cell? ⟨w.heap.size, 4, none⟩ = some (.int .i64 r.g0) := by rw [hc2 _ _ hz1, hc1 _ _ (by simp)]; simp [go_sem]
          have k5 : w2.cell? ⟨w.heap.size, 5, none⟩ = some (.int .i64 r.g1) := by rw [hc2 _ _ hz1, hc1 _ _ (by simp)]; simp [go_sem]
          have k6 : w2.cell? ⟨w.heap.size, 6, none⟩ = some (.int .i64 r.g2) := by rw [hc2 _ _ hz1, hc1 _ _ (by simp)]; simp [go_sem]
          have k7 : w2.cell? ⟨w.heap.size, 7, none⟩ = some (.int .i64 r.lost) := by rw [hc2 _ _ hz1, hc1 _ _ (by simp)]; simp [go_sem]
          have hbw := Lib.hid (B_trans (B_trans hb0.out hb1) hb2)
          clear hc1 hc2 hf1 hf2 hb1 hb2 hb0 H1 H2 H3 H4
          go_loopg [7] 3 (fun gk i wr => ∃ k : Nat, gk = 3 - k ∧ k ≤ 3 ∧ i = .int .i64 (k : Int) ∧ (firstE (gradeE r.g0 r.g1 r.g2) k).2 = 0 ∧ ∃ m, wr = w2.drewN m)
          case atStart => exact ⟨0, rfl, Nat.zero_le _, rfl, rfl, 0, rfl⟩
          case round =>
            obtain ⟨k, rfl, hk, rfl, h0, m, rfl⟩ := hrel
            replace h0 := Lib.hid h0
            have hkk : k = 0 ∨ k = 1 ∨ k = 2 ∨ k = 3 := by omega
            rcases hkk with rfl | rfl | rfl | rfl
            · have HG := Lib.hid (fun W => in_any r.g0 1 1000000 W)
              have hs := Lib.hid (fun (h : gradeE r.g0 r.g1 r.g2 0 ≠ 0) => firstE_stop h0.out h (n := 3) (by decide))
              have hx := Lib.hid (fun (h : gradeE r.g0 r.g1 r.g2 0 = 0) => firstE_next h0.out h)
              have hv : gradeE r.g0 r.g1 r.g2 0 = (if inB r.g0 1 1000000 then 0 else 7) := rfl
              rw [hv] at hs hx
              clear hv
              cases x : inB r.g0 1 1000000
              · rw [x] at HG hs hx
                clear x
                replace hs := Lib.hid (hs.out (by simp))
                clear hx
                go_wp2_with (go_at_call 52; ((with_reducible refine (HG.out _).mono ?_); rintro e w3 ⟨rfl, rfl⟩))
                go_ret3
                exact ⟨by rw [← hres.out, gradesE, hs.out, if_pos (by simp)]; rfl, below_drewN hbw.out _⟩
              · rw [x] at HG hs hx
                clear x
                replace hx := Lib.hid (hx.out (by simp))
                clear hs
                go_wp2_with (go_at_call 52; ((with_reducible refine (HG.out _).mono ?_); rintro e w3 ⟨rfl, rfl⟩))
                go_quiet (fail)
                go_wp2
                go_roundg 2
                case measure => omega
                case rel => exact ⟨1, rfl, by omega, rfl, hx.out, _, rfl⟩
            · have HG := Lib.hid (fun W => in_any r.g1 1 1000000 W)
              have hs := Lib.hid (fun (h : gradeE r.g0 r.g1 r.g2 1 ≠ 0) => firstE_stop h0.out h (n := 3) (by decide))
              have hx := Lib.hid (fun (h : gradeE r.g0 r.g1 r.g2 1 = 0) => firstE_next h0.out h)
              have hv : gradeE r.g0 r.g1 r.g2 1 = (if inB r.g1 1 1000000 then (if decide (r.g1 ≤ r.g0) then 2 else 0) else 7) := rfl
              rw [hv] at hs hx
              clear hv
              cases x : inB r.g1 1 1000000
              · rw [x] at HG hs hx
                clear x
                replace hs := Lib.hid (hs.out (by simp))
                clear hx
                go_wp2_with (go_at_call 52; ((with_reducible refine (HG.out _).mono ?_); rintro e w3 ⟨rfl, rfl⟩))
                go_ret3
                exact ⟨by rw [← hres.out, gradesE, hs.out, if_pos (by simp)]; rfl, below_drewN hbw.out _⟩
              · rw [x] at HG hs hx
                clear x
                by_cases y : r.g1 ≤ r.g0
                · replace hs := Lib.hid (hs.out (by simp [y]))
                  clear hx
                  go_wp2_with (go_at_call 52; ((with_reducible refine (HG.out _).mono ?_); rintro e w3 ⟨rfl, rfl⟩))
                  go_quiet (fail)
                  go_wp2
                  go_ret3
                  exact ⟨by rw [← hres.out, gradesE, hs.out, if_pos (by simp [y])]; simp [y, tri], below_drewN (below_drewN hbw.out _) _⟩
                · replace hx := Lib.hid (hx.out (by simp [y]))
                  have hd : decide (r.g1 ≤ r.g0) = false := by simpa using y
                  clear hs
                  go_wp2_with (go_at_call 52; ((with_reducible refine (HG.out _).mono ?_); rintro e w3 ⟨rfl, rfl⟩))
                  go_quiet (fail)
                  go_wp2
                  go_roundg 1
                  case measure => omega
                  case rel => exact ⟨2, rfl, by omega, rfl, hx.out, _, rfl⟩
            · have HG := Lib.hid (fun W => in_any r.g2 1 1000000 W)
              have hs := Lib.hid (fun (h : gradeE r.g0 r.g1 r.g2 2 ≠ 0) => firstE_stop h0.out h (n := 3) (by decide))
              have hx := Lib.hid (fun (h : gradeE r.g0 r.g1 r.g2 2 = 0) => firstE_next h0.out h)
              have hv : gradeE r.g0 r.g1 r.g2 2 = (if inB r.g2 1 1000000 then (if decide (r.g2 ≤ r.g1) then 2 else 0) else 7) := rfl
              rw [hv] at hs hx
              clear hv
              cases x : inB r.g2 1 1000000
              · rw [x] at HG hs hx
                clear x
                replace hs := Lib.hid (hs.out (by simp))
                clear hx
                go_wp2_with (go_at_call 52; ((with_reducible refine (HG.out _).mono ?_); rintro e w3 ⟨rfl, rfl⟩))
                go_ret3
                exact ⟨by rw [← hres.out, gradesE, hs.out, if_pos (by simp)]; rfl, below_drewN hbw.out _⟩
              · rw [x] at HG hs hx
                clear x
                by_cases y : r.g2 ≤ r.g1
                · replace hs := Lib.hid (hs.out (by simp [y]))
                  clear hx
                  go_wp2_with (go_at_call 52; ((with_reducible refine (HG.out _).mono ?_); rintro e w3 ⟨rfl, rfl⟩))
                  go_quiet (fail)
                  go_wp2
                  go_ret3
                  exact ⟨by rw [← hres.out, gradesE, hs.out, if_pos (by simp [y])]; simp [y, tri], below_drewN (below_drewN hbw.out _) _⟩
                · replace hx := Lib.hid (hx.out (by simp [y]))
                  have hd : decide (r.g2 ≤ r.g1) = false := by simpa using y
                  clear hs
                  go_wp2_with (go_at_call 52; ((with_reducible refine (HG.out _).mono ?_); rintro e w3 ⟨rfl, rfl⟩))
                  go_quiet (fail)
                  go_wp2
                  go_roundg 0
                  case measure => omega
                  case rel => exact ⟨3, rfl, by omega, rfl, hx.out, _, rfl⟩
            · have hzero := Lib.hid (firstE_zero h0.out)
              cases p6
              · go_wp2_with (go_at_call 52; ((with_reducible refine (H6.out _).mono ?_); rintro e w3 ⟨rfl, rfl⟩))
                go_ret3
                exact ⟨by rw [← hres.out, gradesE, hzero.out, if_neg (by simp), if_neg (by simp)]; rfl, below_drewN hbw.out _⟩
              · go_wp2_with (go_at_call 52; ((with_reducible refine (H6.out _).mono ?_); rintro e w3 ⟨rfl, rfl⟩))
                go_ret3
                exact ⟨by rw [← hres.out, gradesE, hzero.out, if_neg (by simp), if_pos trivial]; rfl, below_drewN hbw.out _⟩
    · rw [if_pos h2]
      have hq : (e2 != 0) = true := by simpa using h2
      clear h2
      replace hb0 := Lib.hid hb0
      go_enter Try.func16, Try.ntmps16
      go_wp2_with (first | (go_at_call 51; ((with_reducible refine (H1.out _ hb0.out).mono ?_); rintro e w1 ⟨rfl, hb1⟩; obtain ⟨hc1, hf1⟩ := bcell hb1; have hz1 : w.heap.size < w1.heap.size := (by have := hb1.size; simp at this; omega))) | (go_at_call 51; ((with_reducible refine (H2.out _ (B_trans hb0.out hb1)).mono ?_); rintro e w2 ⟨rfl, hb2⟩; obtain ⟨hc2, hf2⟩ := bcell hb2; have hz2 : w.heap.size < w2.heap.size := (by have := hb2.size; omega))))
      go_ret3
      exact ⟨rfl, B_trans (B_trans hb0.out hb1) hb2⟩
  · rw [if_pos h1]
    have hq : (e1 != 0) = true := by simpa using h1
    clear h1
    replace hb0 := Lib.hid hb0
    go_enter Try.func16, Try.ntmps16
    go_wp2_with (go_at_call 51; ((with_reducible refine (H1.out _ hb0.out).mono ?_); rintro e w1 ⟨rfl, hb1⟩; obtain ⟨hc1, hf1⟩ := bcell hb1; have hz1 : w.heap.size < w1.heap.size := (by have := hb1.size; simp at this; omega)))
    go_ret3
    exact ⟨rfl, B_trans hb0.out hb1⟩
end Go.Proofs.Ytanjkhclhcnnaaa

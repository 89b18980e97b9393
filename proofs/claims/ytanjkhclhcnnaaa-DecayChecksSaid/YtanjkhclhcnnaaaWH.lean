/- Check of the code. -/
import Derived.Test.YtanjkhclhcnnaaaWG
namespace Go.Proofs.Ytanjkhclhcnnaaa
open Go.RowKit Go.Shelf

def tri (p : Int × Int × Int) : Value := .tuple #[.int .i64 p.1, .int .i64 p.2.1, .int .i64 p.2.2]

set_option maxHeartbeats 2000000 in
theorem check_any (r : RuA) (hs ws : List T2) (w : World) (hR : RuR w r hs ws) :
    Calls Try.prog 15 #[.agg r.cs] w fun e w' => e = .returned (tri (checkS r hs ws)) ∧ Below w.heap.size w w' := by
  have hb0 : Below w.heap.size w (w.alloc (.cells r.cs 25)) := B_alloc (Below.refl _ _) _
  have H1 := Lib.hid (fun W (hb : Below w.heap.size w W) => checkCurve_any hs r.ha r.hn r.hc (-300) 600 W hR.hn (hR.h.below hb))
  have H2 := Lib.hid (fun W (hb : Below w.heap.size w W) => checkCurve_any ws r.wa r.wn r.wc 0 1000 W hR.wn (hR.w.below hb))
  have H3 := Lib.hid (fun W => within_any r.own 0 100000 W)
  have H4 := Lib.hid (fun W => within_any r.feed 0 999999 W)
  have H5 := Lib.hid (fun W => checkGrades_any r.g0 r.g1 r.g2 W)
  have H6 := Lib.hid (fun W => within_any r.lost 1 1000000 W)
  unfold checkS
  generalize curveE hs (-300) 600 = p1 at H1 ⊢
  generalize curveE ws 0 1000 = p2 at H2 ⊢
  generalize inB r.own 0 100000 = p3 at H3 ⊢
  generalize inB r.feed 0 999999 = p4 at H4 ⊢
  generalize gradesE r.g0 r.g1 r.g2 = p5 at H5 ⊢
  generalize inB r.lost 1 1000000 = p6 at H6 ⊢
  obtain ⟨a1, e1⟩ := p1
  obtain ⟨a2, e2⟩ := p2
  obtain ⟨a5, e5⟩ := p5
  simp only at H1 H2 H5 ⊢
  clear hR
  by_cases h1 : e1 = 0
  · subst h1
    rw [if_neg (by simp)]
    by_cases h2 : e2 = 0
    · subst h2
      rw [if_neg (by simp)]
      cases p3
      · rw [if_neg (by simp)]
        replace hb0 := Lib.hid hb0
        go_enter Try.func15, Try.ntmps15
        go_wp2_with (first | (go_at_call 48; ((with_reducible refine (H1.out _ hb0.out).mono ?_); rintro e w1 ⟨rfl, hb1⟩; obtain ⟨hc1, hf1⟩ := bcell hb1; have hz1 : w.heap.size < w1.heap.size := (by have := hb1.size; simp at this; omega))) | (go_at_call 48; ((with_reducible refine (H2.out _ (B_trans hb0.out hb1)).mono ?_); rintro e w2 ⟨rfl, hb2⟩; obtain ⟨hc2, hf2⟩ := bcell hb2; have hz2 : w.heap.size < w2.heap.size := (by have := hb2.size; omega))) | (go_at_call 49; ((with_reducible refine (H3.out _).mono ?_); rintro e w3 ⟨rfl, rfl⟩)))
        go_ret3
        exact ⟨rfl, B_trans (B_trans hb0.out hb1) hb2⟩
      · cases p4
        · rw [if_neg (by simp)]
          replace hb0 := Lib.hid hb0
          go_enter Try.func15, Try.ntmps15
          go_wp2_with (first | (go_at_call 48; ((with_reducible refine (H1.out _ hb0.out).mono ?_); rintro e w1 ⟨rfl, hb1⟩; obtain ⟨hc1, hf1⟩ := bcell hb1; have hz1 : w.heap.size < w1.heap.size := (by have := hb1.size; simp at this; omega))) | (go_at_call 48; ((with_reducible refine (H2.out _ (B_trans hb0.out hb1)).mono ?_); rintro e w2 ⟨rfl, hb2⟩; obtain ⟨hc2, hf2⟩ := bcell hb2; have hz2 : w.heap.size < w2.heap.size := (by have := hb2.size; omega))) | (go_at_call 49; ((with_reducible refine (H3.out _).mono ?_); rintro e w3 ⟨rfl, rfl⟩)) | (go_at_call 49; ((with_reducible refine (H4.out _).mono ?_); rintro e w3 ⟨rfl, rfl⟩)))
          go_ret3
          exact ⟨rfl, B_trans (B_trans hb0.out hb1) hb2⟩
        · rw [if_pos (by simp)]
          by_cases h5 : e5 = 0
          · subst h5
            rw [if_neg (by simp)]
            cases p6
            · rw [if_neg (by simp)]
              replace hb0 := Lib.hid hb0
              go_enter Try.func15, Try.ntmps15
              go_wp2_with (first | (go_at_call 48; ((with_reducible refine (H1.out _ hb0.out).mono ?_); rintro e w1 ⟨rfl, hb1⟩; obtain ⟨hc1, hf1⟩ := bcell hb1; have hz1 : w.heap.size < w1.heap.size := (by have := hb1.size; simp at this; omega))) | (go_at_call 48; ((with_reducible refine (H2.out _ (B_trans hb0.out hb1)).mono ?_); rintro e w2 ⟨rfl, hb2⟩; obtain ⟨hc2, hf2⟩ := bcell hb2; have hz2 : w.heap.size < w2.heap.size := (by have := hb2.size; omega))) | (go_at_call 49; ((with_reducible refine (H3.out _).mono ?_); rintro e w3 ⟨rfl, rfl⟩)) | (go_at_call 49; ((with_reducible refine (H4.out _).mono ?_); rintro e w3 ⟨rfl, rfl⟩)) | (go_at_call 50; ((with_reducible refine (H5.out _).mono ?_); rintro e w5 ⟨rfl, hb5⟩; obtain ⟨hc5, hf5⟩ := bcell hb5)) | (go_at_call 49; ((with_reducible refine (H6.out _).mono ?_); rintro e w3 ⟨rfl, rfl⟩)))
              go_ret3
              exact ⟨rfl, B_trans (B_trans (B_trans hb0.out hb1) hb2) hb5⟩
            · rw [if_pos rfl]
              replace hb0 := Lib.hid hb0
              go_enter Try.func15, Try.ntmps15
              go_wp2_with (first | (go_at_call 48; ((with_reducible refine (H1.out _ hb0.out).mono ?_); rintro e w1 ⟨rfl, hb1⟩; obtain ⟨hc1, hf1⟩ := bcell hb1; have hz1 : w.heap.size < w1.heap.size := (by have := hb1.size; simp at this; omega))) | (go_at_call 48; ((with_reducible refine (H2.out _ (B_trans hb0.out hb1)).mono ?_); rintro e w2 ⟨rfl, hb2⟩; obtain ⟨hc2, hf2⟩ := bcell hb2; have hz2 : w.heap.size < w2.heap.size := (by have := hb2.size; omega))) | (go_at_call 49; ((with_reducible refine (H3.out _).mono ?_); rintro e w3 ⟨rfl, rfl⟩)) | (go_at_call 49; ((with_reducible refine (H4.out _).mono ?_); rintro e w3 ⟨rfl, rfl⟩)) | (go_at_call 50; ((with_reducible refine (H5.out _).mono ?_); rintro e w5 ⟨rfl, hb5⟩; obtain ⟨hc5, hf5⟩ := bcell hb5)) | (go_at_call 49; ((with_reducible refine (H6.out _).mono ?_); rintro e w3 ⟨rfl, rfl⟩)))
              go_ret3
              exact ⟨rfl, B_trans (B_trans (B_trans hb0.out hb1) hb2) hb5⟩
          · rw [if_pos h5]
            have hq : (e5 != 0) = true := by simpa using h5
            clear h5
            replace hb0 := Lib.hid hb0
            go_enter Try.func15, Try.ntmps15
            go_wp2_with (first | (go_at_call 48; ((with_reducible refine (H1.out _ hb0.out).mono ?_); rintro e w1 ⟨rfl, hb1⟩; obtain ⟨hc1, hf1⟩ := bcell hb1; have hz1 : w.heap.size < w1.heap.size := (by have := hb1.size; simp at this; omega))) | (go_at_call 48; ((with_reducible refine (H2.out _ (B_trans hb0.out hb1)).mono ?_); rintro e w2 ⟨rfl, hb2⟩; obtain ⟨hc2, hf2⟩ := bcell hb2; have hz2 : w.heap.size < w2.heap.size := (by have := hb2.size; omega))) | (go_at_call 49; ((with_reducible refine (H3.out _).mono ?_); rintro e w3 ⟨rfl, rfl⟩)) | (go_at_call 49; ((with_reducible refine (H4.out _).mono ?_); rintro e w3 ⟨rfl, rfl⟩)) | (go_at_call 50; ((with_reducible refine (H5.out _).mono ?_); rintro e w5 ⟨rfl, hb5⟩; obtain ⟨hc5, hf5⟩ := bcell hb5)))
            go_ret3
            exact ⟨rfl, B_trans (B_trans (B_trans hb0.out hb1) hb2) hb5⟩
    · rw [if_pos h2]
      have hq : (e2 != 0) = true := by simpa using h2
      clear h2
      replace hb0 := Lib.hid hb0
      go_enter Try.func15, Try.ntmps15
      go_wp2_with (first | (go_at_call 48; ((with_reducible refine (H1.out _ hb0.out).mono ?_); rintro e w1 ⟨rfl, hb1⟩; obtain ⟨hc1, hf1⟩ := bcell hb1; have hz1 : w.heap.size < w1.heap.size := (by have := hb1.size; simp at this; omega))) | (go_at_call 48; ((with_reducible refine (H2.out _ (B_trans hb0.out hb1)).mono ?_); rintro e w2 ⟨rfl, hb2⟩; obtain ⟨hc2, hf2⟩ := bcell hb2; have hz2 : w.heap.size < w2.heap.size := (by have := hb2.size; omega))))
      go_ret3
      exact ⟨rfl, B_trans (B_trans hb0.out hb1) hb2⟩
  · rw [if_pos h1]
    have hq : (e1 != 0) = true := by simpa using h1
    clear h1
    replace hb0 := Lib.hid hb0
    go_enter Try.func15, Try.ntmps15
    go_wp2_with (first | (go_at_call 48; ((with_reducible refine (H1.out _ hb0.out).mono ?_); rintro e w1 ⟨rfl, hb1⟩; obtain ⟨hc1, hf1⟩ := bcell hb1; have hz1 : w.heap.size < w1.heap.size := (by have := hb1.size; simp at this; omega))))
    go_ret3
    exact ⟨rfl, B_trans hb0.out hb1⟩
end Go.Proofs.Ytanjkhclhcnnaaa

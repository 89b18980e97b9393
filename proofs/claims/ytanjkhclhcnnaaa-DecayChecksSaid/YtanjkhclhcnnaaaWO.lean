/- The reference's CheckTask. -/
import Derived.Test.YtanjkhclhcnnaaaWN
import Derived.Test.YtanjkhclhcnnaaaWK
namespace Go.Proofs.Ytanjkhclhcnnaaa
open Go.RowKit Go.Shelf

set_option maxHeartbeats 8000000 in
set_option maxRecDepth 100000 in
theorem refCheckTask_any (t : TkA) (hs ws : List T2) (ds : List T4) (ts : List T3) (w : World) (hR : TkR w t hs ws ds ts) :
    Calls Try.prog 18 #[.agg t.cs] w fun e w' => e = .returned (tri (taskS t hs ws ds ts)) ∧ Below w.heap.size w w' := by
  have hb0 : Below w.heap.size w (w.alloc (.cells t.cs 31)) := B_alloc (Below.refl _ _) _
  have hT0 := Lib.hid (TBox.new w t 31)
  have H1 := Lib.hid (fun W (hb : Below w.heap.size w W) => refCheck_any t.r hs ws W (hR.r.below hb))
  have H2 := Lib.hid (fun W => in_any t.first 0 80000 W)
  have H4 := Lib.hid (fun W => refLevels_any t.lo t.hi W)
  have hdn := hR.dn
  have htn := hR.tn
  have hRR := Lib.hid hR
  unfold taskS
  have hin : inB t.first 0 (80000 - t.dn) = (inB t.first 0 80000 && !decide (80000 < t.first + t.dn)) := by
    rw [Bool.eq_iff_iff, inB_iff, Bool.and_eq_true, inB_iff, Bool.not_eq_true', decide_eq_false_iff_not]; omega
  rw [hin]
  clear hin
  generalize checkS t.r hs ws = p1 at H1 ⊢
  obtain ⟨a1, b1, e1⟩ := p1
  unfold tri at H1
  simp only at H1 H4 ⊢
  have hfi := Lib.hid (fun (h : inB t.first 0 80000 = true) => inB_iff.1 h)
  generalize inB t.first 0 80000 = q2 at H2 hfi ⊢
  replace hb0 := Lib.hid hb0
  clear hR
  by_cases h1 : e1 = 0
  · subst h1
    rw [if_neg (by simp)]
    by_cases hl : 400 < t.dn
    · rw [if_pos (.inl hl)]
      have hl2 : (400 : Int) < t.dn := by omega
      go_enter Try.func18, Try.ntmps18
      go_wp2_with (first | (go_at_call 16; ((with_reducible refine (H1.out _ hb0.out).mono ?_); rintro e w1 ⟨rfl, hb1⟩; obtain ⟨hc1, hf1⟩ := bcell hb1; have hz1 : w.heap.size < w1.heap.size := (by have := hb1.size; simp at this; omega))))
      go_ret3
      exact ⟨rfl, B_trans hb0.out hb1⟩
    · by_cases hm : 20 < t.tn
      · rw [if_pos (.inr hm)]
        have hl2 : ¬ (400 : Int) < t.dn := by omega
        have hm2 : (20 : Int) < t.tn := by omega
        go_enter Try.func18, Try.ntmps18
        go_wp2_with (first | (go_at_call 16; ((with_reducible refine (H1.out _ hb0.out).mono ?_); rintro e w1 ⟨rfl, hb1⟩; obtain ⟨hc1, hf1⟩ := bcell hb1; have hz1 : w.heap.size < w1.heap.size := (by have := hb1.size; simp at this; omega))))
        go_ret3
        exact ⟨rfl, B_trans hb0.out hb1⟩
      · rw [if_neg (by omega)]
        have hl2 : ¬ (400 : Int) < t.dn := by omega
        have hm2 : ¬ (20 : Int) < t.tn := by omega
        cases q2
        · rw [if_neg (by simp)]
          go_enter Try.func18, Try.ntmps18
          go_wp2_with (first | (go_at_call 16; ((with_reducible refine (H1.out _ hb0.out).mono ?_); rintro e w1 ⟨rfl, hb1⟩; obtain ⟨hc1, hf1⟩ := bcell hb1; have hz1 : w.heap.size < w1.heap.size := (by have := hb1.size; simp at this; omega))) | (go_at_call 52; ((with_reducible refine (H2.out _).mono ?_); rintro e w3 ⟨rfl, rfl⟩)))
          go_ret3
          exact ⟨rfl, B_trans hb0.out hb1⟩
        · obtain ⟨hf1', hf2'⟩ := hfi.out rfl
          have hsum : IntKind.i64.wrap (t.first + t.dn) = t.first + t.dn := IntWalk.i64_in _ (by omega)
          by_cases hd : 80000 < t.first + t.dn
          · rw [if_neg (by simp; omega)]
            clear hsum
            go_enter Try.func18, Try.ntmps18
            go_wp2_with (first | (go_at_call 16; ((with_reducible refine (H1.out _ hb0.out).mono ?_); rintro e w1 ⟨rfl, hb1⟩; obtain ⟨hc1, hf1⟩ := bcell hb1; have hz1 : w.heap.size < w1.heap.size := (by have := hb1.size; simp at this; omega))) | (go_at_call 52; ((with_reducible refine (H2.out _).mono ?_); rintro e w3 ⟨rfl, rfl⟩)))
            go_ret3
            exact ⟨rfl, B_trans hb0.out hb1⟩
          · rw [if_pos (by simp; omega)]
            generalize hres : (if (daysE ds t.dn).2 ≠ 0 then ((3 : Int), (daysE ds t.dn).1, (daysE ds t.dn).2) else if lvE (t.lo, t.hi) ≠ 0 then (4, 0, lvE (t.lo, t.hi)) else if (testsE t.first t.dn ts t.tn).2 ≠ 0 then (5, (testsE t.first t.dn ts t.tn).1, (testsE t.first t.dn ts t.tn).2) else (0, 0, 0)) = res
            replace hres := Lib.hid hres
            clear hfi hsum
            go_enter Try.func18, Try.ntmps18
            go_wp2_with (first | (go_at_call 16; ((with_reducible refine (H1.out _ hb0.out).mono ?_); rintro e w1 ⟨rfl, hb1⟩; obtain ⟨hc1, hf1⟩ := bcell hb1; have hz1 : w.heap.size < w1.heap.size := (by have := hb1.size; simp at this; omega))) | (go_at_call 52; ((with_reducible refine (H2.out _).mono ?_); rintro e w3 ⟨rfl, rfl⟩)))
            have hT1 := Lib.hid (hT0.out.below hb1)
            have hbw := Lib.hid (B_trans hb0.out hb1)
            clear hc1 hf1 hb1 hb0 hT0 H1 H2
            go_loopg [8] t.dn (fun gk i wr => ∃ k : Nat, gk = t.dn - k ∧ k ≤ t.dn ∧ i = .int .i64 (k : Int) ∧ (daysE ds k).2 = 0 ∧ Below w1.heap.size w1 wr)
            case atStart => exact ⟨0, rfl, Nat.zero_le _, rfl, rfl, Below.refl _ _⟩
            case round =>
              obtain ⟨k, rfl, hk, rfl, h0, hb⟩ := hrel
              replace h0 := Lib.hid h0
              have hTB := hT1.out.below hb
              obtain ⟨-, -, -, -, -, -, -, -, k8, k9, k10, k11, k12⟩ := hTB.all
              have hzw := hTB.lt
              clear hTB
              have hk0 : (0 : Int) ≤ k := by omega
              by_cases hlt : k < t.dn
              · have hkl : (k : Int) < t.dn := by omega
                obtain ⟨b, o, hda, hbs, hc⟩ := (hRR.out.d.below (B_trans hbw.out hb)).at_ (by omega)
                obtain ⟨p0, p1, p2, p3⟩ := hc k hlt
                have HC := Lib.hid (fun W => refClimate_any (ds.getD k (0, 0, 0, 0)).1 (ds.getD k (0, 0, 0, 0)).2.1 (ds.getD k (0, 0, 0, 0)).2.2.1 (ds.getD k (0, 0, 0, 0)).2.2.2 W)
                have hs := Lib.hid (fun (h : dayE (ds.getD k (0, 0, 0, 0)) ≠ 0) => firstE_stop (f := fun i => dayE (ds.getD i (0, 0, 0, 0))) h0.out h hlt)
                have hx := Lib.hid (fun (h : dayE (ds.getD k (0, 0, 0, 0)) = 0) => firstE_next (f := fun i => dayE (ds.getD i (0, 0, 0, 0))) h0.out h)
                generalize ds.getD k (0, 0, 0, 0) = x at p0 p1 p2 p3 HC hs hx
                obtain ⟨x0, x1, x2, x3⟩ := x
                simp only at p0 p1 p2 p3 HC
                generalize dayE (x0, x1, x2, x3) = E at HC hs hx
                rw [hda] at k9
                clear hc hda
                by_cases he : E = 0
                · subst he
                  replace hx := Lib.hid (hx.out rfl)
                  clear hs
                  go_wp2_with (go_at_call 59; ((with_reducible refine (HC.out _).mono ?_); rintro e w2 ⟨rfl, hb2⟩))
                  go_roundg (t.dn - (k + 1))
                  case measure => omega
                  case rel => exact ⟨k + 1, rfl, by omega, by go_num, hx.out, B_trans hb hb2⟩
                · replace hs := Lib.hid (hs.out he)
                  have hq : (E != 0) = true := by simpa using he
                  clear hx
                  go_wp2_with (go_at_call 59; ((with_reducible refine (HC.out _).mono ?_); rintro e w2 ⟨rfl, hb2⟩))
                  go_ret3
                  exact ⟨by rw [← hres.out, daysE, hs.out, if_pos he]; rfl, B_trans hbw.out (B_trans hb hb2)⟩
              · obtain rfl : k = t.dn := by omega
                have hzero : Hid (daysE ds t.dn = (0, 0)) := firstE_zero h0.out
                by_cases h4 : lvE (t.lo, t.hi) = 0
                · rw [h4] at H4
                  replace h4 := Lib.hid h4
                  go_wp2_with (go_at_call 60; ((with_reducible refine (H4.out _).mono ?_); rintro e w2 ⟨rfl, hb2⟩))
                  have hT2 := Lib.hid (hT1.out.below (B_trans hb hb2))
                  have hb12 := Lib.hid (B_trans hb hb2)
                  clear hb hb2 hzw hT1 H4 k8 k9 k10 k11 k12
                  go_loopg [10] t.tn (fun gk i wr => ∃ k : Nat, gk = t.tn - k ∧ k ≤ t.tn ∧ i = .int .i64 (k : Int) ∧ (testsE t.first t.dn ts k).2 = 0 ∧ Below w2.heap.size w2 wr)
                  case atStart => exact ⟨0, rfl, Nat.zero_le _, rfl, rfl, Below.refl _ _⟩
                  case round =>
                    obtain ⟨k, rfl, hk, rfl, h0, hb⟩ := hrel
                    replace h0 := Lib.hid h0
                    have hTB := hT2.out.below hb
                    obtain ⟨-, -, -, -, -, -, -, -, k8, k9, k10, k11, k12⟩ := hTB.all
                    have hzw := hTB.lt
                    clear hTB
                    have hk0 : (0 : Int) ≤ k := by omega
                    by_cases hlt : k < t.tn
                    · have hkl : (k : Int) < t.tn := by omega
                      obtain ⟨b, o, hta, hbs, hc⟩ := (hRR.out.t.below (B_trans hbw.out (B_trans hb12.out hb))).at_ (by omega)
                      obtain ⟨p0, p1, p2⟩ := hc k hlt
                      have hs : Hid (testE t.first t.dn (ts.getD k (0, 0, 0)) ≠ 0 → testsE t.first t.dn ts t.tn = ((k : Int), testE t.first t.dn (ts.getD k (0, 0, 0)))) := (fun h => firstE_stop (f := fun i => testE t.first t.dn (ts.getD i (0, 0, 0))) h0.out h hlt)
                      have hx : Hid (testE t.first t.dn (ts.getD k (0, 0, 0)) = 0 → (testsE t.first t.dn ts (k + 1)).2 = 0) := (fun h => firstE_next (f := fun i => testE t.first t.dn (ts.getD i (0, 0, 0))) h0.out h)
                      generalize ts.getD k (0, 0, 0) = x at p0 p1 p2 hs hx
                      obtain ⟨x0, x1, x2⟩ := x
                      simp only at p0 p1 p2 hs hx
                      have hv : testE t.first t.dn (x0, x1, x2) = (if inB x0 t.first (t.first + t.dn) && inB x1 0 3 && inB x2 0 3 then 0 else 7) := rfl
                      rw [hv] at hs hx
                      clear hv
                      rw [hta] at k12
                      clear hc hta
                      have G1 := Lib.hid (fun W => in_any x0 t.first (t.first + t.dn) W)
                      have G2 := Lib.hid (fun W => in_any x1 0 3 W)
                      have G3 := Lib.hid (fun W => in_any x2 0 3 W)
                      have hB : ∀ v T, Below w.heap.size w (wr.alloc (.cells v T)) := fun _ _ => B_alloc (B_trans hbw.out (B_trans hb12.out hb)) _
                      replace hB := Lib.hid hB
                      generalize inB x0 t.first (t.first + t.dn) = q1 at G1 hs hx
                      generalize inB x1 0 3 = q2 at G2 hs hx
                      generalize inB x2 0 3 = q3 at G3 hs hx
                      have hsum : IntKind.i64.wrap (t.first + t.dn) = t.first + t.dn := IntWalk.i64_in _ (by omega)
                      cases q1
                      · clear G2 G3
                        replace hs := Lib.hid (hs.out (by simp))
                        clear hx
                        go_wp2_with (first | (go_at_call 52; ((with_reducible refine (G1.out _).mono ?_); rintro e w3 ⟨rfl, rfl⟩)))
                        go_ret3
                        exact ⟨by rw [← hres.out, hzero.out, h4.out, hs.out]; rfl, hB.out _ _⟩
                      · cases q2
                        · clear G3
                          replace hs := Lib.hid (hs.out (by simp))
                          clear hx
                          go_wp2_with (first | (go_at_call 52; ((with_reducible refine (G1.out _).mono ?_); rintro e w3 ⟨rfl, rfl⟩)) | (go_at_call 52; ((with_reducible refine (G2.out _).mono ?_); rintro e w3 ⟨rfl, rfl⟩)))
                          go_ret3
                          exact ⟨by rw [← hres.out, hzero.out, h4.out, hs.out]; rfl, hB.out _ _⟩
                        · cases q3
                          · skip
                            replace hs := Lib.hid (hs.out (by simp))
                            clear hx
                            go_wp2_with (first | (go_at_call 52; ((with_reducible refine (G1.out _).mono ?_); rintro e w3 ⟨rfl, rfl⟩)) | (go_at_call 52; ((with_reducible refine (G2.out _).mono ?_); rintro e w3 ⟨rfl, rfl⟩)) | (go_at_call 52; ((with_reducible refine (G3.out _).mono ?_); rintro e w3 ⟨rfl, rfl⟩)))
                            go_ret3
                            exact ⟨by rw [← hres.out, hzero.out, h4.out, hs.out]; rfl, hB.out _ _⟩
                          · replace hx := Lib.hid (hx.out (by simp))
                            clear hs
                            go_wp2_with (first | (go_at_call 52; ((with_reducible refine (G1.out _).mono ?_); rintro e w3 ⟨rfl, rfl⟩)) | (go_at_call 52; ((with_reducible refine (G2.out _).mono ?_); rintro e w3 ⟨rfl, rfl⟩)) | (go_at_call 52; ((with_reducible refine (G3.out _).mono ?_); rintro e w3 ⟨rfl, rfl⟩)))
                            go_roundg (t.tn - (k + 1))
                            case measure => omega
                            case rel => exact ⟨k + 1, rfl, by omega, by go_num, hx.out, B_alloc hb _⟩
                    · obtain rfl : k = t.tn := by omega
                      have hzero2 : Hid (testsE t.first t.dn ts t.tn = (0, 0)) := firstE_zero h0.out
                      go_wp2
                      go_ret3
                      exact ⟨by rw [← hres.out, hzero.out, h4.out, hzero2.out]; rfl, B_trans hbw.out (B_trans hb12.out hb)⟩
                · have hq : (lvE (t.lo, t.hi) != 0) = true := by simpa using h4
                  go_wp2_with (go_at_call 60; ((with_reducible refine (H4.out _).mono ?_); rintro e w2 ⟨rfl, hb2⟩))
                  go_ret3
                  exact ⟨by rw [← hres.out, hzero.out, if_neg (by simp), if_pos h4]; rfl, B_trans hbw.out (B_trans hb hb2)⟩
  · rw [if_pos h1]
    have hq : (e1 != 0) = true := by simpa using h1
    clear h1
    go_enter Try.func18, Try.ntmps18
    go_wp2_with (first | (go_at_call 16; ((with_reducible refine (H1.out _ hb0.out).mono ?_); rintro e w1 ⟨rfl, hb1⟩; obtain ⟨hc1, hf1⟩ := bcell hb1; have hz1 : w.heap.size < w1.heap.size := (by have := hb1.size; simp at this; omega))))
    go_ret3
    exact ⟨rfl, B_trans hb0.out hb1⟩
end Go.Proofs.Ytanjkhclhcnnaaa

/- CheckTask of the code. -/
import Derived.Test.YtanjkhclhcnnaaaWH
import Derived.Test.YtanjkhclhcnnaaaWI
namespace Go.Proofs.Ytanjkhclhcnnaaa
open Go.RowKit Go.Shelf

set_option maxHeartbeats 2000000 in
theorem task1_any (t : TkA) (hs ws : List T2) (ds : List T4) (ts : List T3) (B i : Nat) (w : World) (hR : TkR w t hs ws ds ts) (hT : TBox w B t) (hi' : i < t.dn) (htn : t.dn ≤ 1000) :
    Calls Try.prog 54 #[.int .i64 i, .pointer (some ⟨B, 0, none⟩)] w fun e w' => e = .returned (.int .i64 (dayE (ds.getD i (0, 0, 0, 0)))) ∧ Below w.heap.size w w' := by
  obtain ⟨b, o, hta, hbs, hc⟩ := hR.d.at_ (by omega)
  obtain ⟨p0, p1, p2, p3⟩ := hc i hi'
  have HC := Lib.hid (fun W => climateError_any (ds.getD i (0, 0, 0, 0)) W)
  generalize ds.getD i (0, 0, 0, 0) = x at p0 p1 p2 p3 HC ⊢
  obtain ⟨x0, x1, x2, x3⟩ := x
  simp only at p0 p1 p2 p3 HC
  obtain ⟨-, -, -, -, -, -, -, -, -, k9, -⟩ := hT.all
  rw [hta] at k9
  have hBl := hT.lt
  clear hc hR hT hta
  have hil : (i : Int) < t.dn := by omega
  have hi0 : (0 : Int) ≤ i := by omega
  go_enter Try.func54, Try.ntmps54
  go_wp2_with (go_at_call 55; ((with_reducible refine (HC.out _).mono ?_); rintro e w1 ⟨rfl, hb⟩))
  go_ret
  exact ⟨rfl, hb⟩

set_option maxHeartbeats 2000000 in
theorem task2_any (t : TkA) (hs ws : List T2) (ds : List T4) (ts : List T3) (B i : Nat) (w : World) (hR : TkR w t hs ws ds ts) (hT : TBox w B t) (hi' : i < t.tn) (htn : t.tn ≤ 1000) (hf : 0 ≤ t.first) (hd : t.first + t.dn ≤ 80000) :
    Calls Try.prog 57 #[.int .i64 i, .pointer (some ⟨B, 0, none⟩)] w fun e w' => e = .returned (.int .i64 (testE t.first t.dn (ts.getD i (0, 0, 0)))) ∧ Below w.heap.size w w' := by
  have HC := Lib.hid (testError_any t hs ws ds ts i w hR hi' htn hf hd)
  obtain ⟨k0, k1, k2, k3, k4, k5, k6, k7, k8, k9, k10, k11, k12⟩ := hT.all
  have hBl := hT.lt
  clear hR hT
  go_enter Try.func57, Try.ntmps57
  go_wp2_with (go_at_call 58; ((with_reducible refine HC.out.mono ?_); rintro e w1 ⟨rfl, hb⟩))
  go_ret
  exact ⟨rfl, hb⟩

def daysE (ds : List T4) (n : Nat) : Int × Int := firstE (fun i => dayE (ds.getD i (0, 0, 0, 0))) n
def testsE (first : Int) (nd : Nat) (ts : List T3) (n : Nat) : Int × Int := firstE (fun i => testE first nd (ts.getD i (0, 0, 0))) n
def taskS (t : TkA) (hs ws : List T2) (ds : List T4) (ts : List T3) : Int × Int × Int :=
  if (checkS t.r hs ws).2.2 ≠ 0 then (1, 0, (checkS t.r hs ws).2.2)
  else if 400 < t.dn ∨ 20 < t.tn then (2, 0, 3)
  else if inB t.first 0 (80000 - t.dn) then
    (if (daysE ds t.dn).2 ≠ 0 then (3, (daysE ds t.dn).1, (daysE ds t.dn).2)
     else if lvE (t.lo, t.hi) ≠ 0 then (4, 0, lvE (t.lo, t.hi))
     else if (testsE t.first t.dn ts t.tn).2 ≠ 0 then (5, (testsE t.first t.dn ts t.tn).1, (testsE t.first t.dn ts t.tn).2) else (0, 0, 0))
  else (2, 0, 7)

set_option maxHeartbeats 4000000 in
set_option maxRecDepth 100000 in
theorem checkTask_any (t : TkA) (hs ws : List T2) (ds : List T4) (ts : List T3) (w : World) (hR : TkR w t hs ws ds ts) :
    Calls Try.prog 17 #[.agg t.cs] w fun e w' => e = .returned (tri (taskS t hs ws ds ts)) ∧ Below w.heap.size w w' := by
  have hb0 : Below w.heap.size w (w.alloc (.cells t.cs 31)) := B_alloc (Below.refl _ _) _
  have hT0 := Lib.hid (TBox.new w t 31)
  have H1 := Lib.hid (fun W (hb : Below w.heap.size w W) => check_any t.r hs ws W (hR.r.below hb))
  have H2 := Lib.hid (fun W => within_any t.first 0 (80000 - t.dn) W)
  have H3 := Lib.hid (fun (hn : t.dn ≤ 1000) W (hb : Below w.heap.size w W) (hT : TBox W w.heap.size t) => firstError_any 54 #[.pointer (some ⟨w.heap.size, 0, none⟩)] (fun i => dayE (ds.getD i (0, 0, 0, 0))) t.dn W (by omega) (enters_of Try.func54 (by kernel_rfl) rfl)
    (fun i W1 hi' hb1 => task1_any t hs ws ds ts w.heap.size i W1 (hR.below (B_trans hb hb1)) (hT.below hb1) hi' hn))
  have H4 := Lib.hid (fun W => levelsError_any (t.lo, t.hi) W)
  have H5 := Lib.hid (fun (hn : t.tn ≤ 1000) (hf : 0 ≤ t.first) (hd : t.first + t.dn ≤ 80000) W (hb : Below w.heap.size w W) (hT : TBox W w.heap.size t) => firstError_any 57 #[.pointer (some ⟨w.heap.size, 0, none⟩)] (fun i => testE t.first t.dn (ts.getD i (0, 0, 0))) t.tn W (by omega) (enters_of Try.func57 (by kernel_rfl) rfl)
    (fun i W1 hi' hb1 => task2_any t hs ws ds ts w.heap.size i W1 (hR.below (B_trans hb hb1)) (hT.below hb1) hi' hn hf hd))
  have hdn := hR.dn
  have htn := hR.tn
  have hmf : ∀ (fn : Fn) (first cap : Array Value) (w : World), (Instr.makeFunc fn first cap).run Try.prog w = .ok (.func fn first cap) w := fun _ _ _ _ => rfl
  unfold taskS
  unfold daysE testsE
  have hin : inB t.first 0 (80000 - t.dn) = true → 0 ≤ t.first ∧ t.first + t.dn ≤ 80000 := fun h => by have := inB_iff.1 h; omega
  replace hin := Lib.hid hin
  generalize checkS t.r hs ws = p1 at H1 ⊢
  generalize inB t.first 0 (80000 - t.dn) = q2 at H2 hin ⊢
  generalize firstE (fun i => dayE (ds.getD i (0, 0, 0, 0))) t.dn = p3 at H3 ⊢
  generalize lvE (t.lo, t.hi) = e4 at H4 ⊢
  generalize firstE (fun i => testE t.first t.dn (ts.getD i (0, 0, 0))) t.tn = p5 at H5 ⊢
  obtain ⟨a1, b1, e1⟩ := p1
  obtain ⟨a3, e3⟩ := p3
  obtain ⟨a5, e5⟩ := p5
  unfold tri at H1
  simp only at H1 H3 H4 H5 ⊢
  clear hR
  by_cases h1 : e1 = 0
  · subst h1
    rw [if_neg (by simp)]
    by_cases hl : 400 < t.dn
    · rw [if_pos (.inl hl)]
      have hl2 : (400 : Int) < t.dn := by omega
      replace hb0 := Lib.hid hb0
      go_enter Try.func17, Try.ntmps17
      go_wp2_with (first | (go_at_call 15; ((with_reducible refine (H1.out _ hb0.out).mono ?_); rintro e w1 ⟨rfl, hb1⟩; obtain ⟨hc1, hf1⟩ := bcell hb1; have hz1 : w.heap.size < w1.heap.size := (by have := hb1.size; simp at this; omega))))
      go_ret3
      exact ⟨rfl, B_trans hb0.out hb1⟩
    · by_cases hm : 20 < t.tn
      · rw [if_pos (.inr hm)]
        have hl2 : ¬ (400 : Int) < t.dn := by omega
        have hm2 : (20 : Int) < t.tn := by omega
        replace hb0 := Lib.hid hb0
        go_enter Try.func17, Try.ntmps17
        go_wp2_with (first | (go_at_call 15; ((with_reducible refine (H1.out _ hb0.out).mono ?_); rintro e w1 ⟨rfl, hb1⟩; obtain ⟨hc1, hf1⟩ := bcell hb1; have hz1 : w.heap.size < w1.heap.size := (by have := hb1.size; simp at this; omega))))
        go_ret3
        exact ⟨rfl, B_trans hb0.out hb1⟩
      · rw [if_neg (by omega)]
        have hl2 : ¬ (400 : Int) < t.dn := by omega
        have hm2 : ¬ (20 : Int) < t.tn := by omega
        cases q2
        · rw [if_neg (by simp)]
          replace hb0 := Lib.hid hb0
          go_enter Try.func17, Try.ntmps17
          go_wp2_with (first | (go_at_call 15; ((with_reducible refine (H1.out _ hb0.out).mono ?_); rintro e w1 ⟨rfl, hb1⟩; obtain ⟨hc1, hf1⟩ := bcell hb1; have hz1 : w.heap.size < w1.heap.size := (by have := hb1.size; simp at this; omega))) | (go_at_call 49; ((with_reducible refine (H2.out _).mono ?_); rintro e w3 ⟨rfl, rfl⟩)))
          go_ret3
          exact ⟨rfl, B_trans hb0.out hb1⟩
        · rw [if_pos rfl]
          obtain ⟨hf, hd⟩ := hin.out rfl
          replace H3 := Lib.hid (H3.out (by omega))
          replace H5 := Lib.hid (H5.out (by omega) hf hd)
          by_cases h3 : e3 = 0
          · subst h3
            rw [if_neg (by simp)]
            by_cases h4 : e4 = 0
            · subst h4
              rw [if_neg (by simp)]
              by_cases h5 : e5 = 0
              · subst h5
                rw [if_neg (by simp)]
                replace hb0 := Lib.hid hb0
                go_enter Try.func17, Try.ntmps17
                go_wp2_with (first | (go_at_call 15; ((with_reducible refine (H1.out _ hb0.out).mono ?_); rintro e w1 ⟨rfl, hb1⟩; obtain ⟨hc1, hf1⟩ := bcell hb1; have hz1 : w.heap.size < w1.heap.size := (by have := hb1.size; simp at this; omega))) | (go_at_call 49; ((with_reducible refine (H2.out _).mono ?_); rintro e w3 ⟨rfl, rfl⟩)) | (go_at_call 53; ((with_reducible refine (H3.out _ (B_trans hb0.out hb1)  ((hT0.out.below hb1))).mono ?_); rintro e w2 ⟨rfl, hb2⟩; obtain ⟨hc2, hf2⟩ := bcell hb2; have hz2 : w.heap.size < w2.heap.size := (by have := hb2.size; omega))) | (go_at_call 56; ((with_reducible refine (H4.out _).mono ?_); rintro e w3 ⟨rfl, hb3⟩; obtain ⟨hc3, hf3⟩ := bcell hb3; have hz3 : w.heap.size < w3.heap.size := (by have := hb3.size; omega))) | (go_at_call 53; ((with_reducible refine (H5.out _ (B_trans (B_trans (B_trans hb0.out hb1) hb2) hb3) (((hT0.out.below hb1).below hb2).below hb3)).mono ?_); rintro e w4 ⟨rfl, hb4⟩)))
                go_ret3
                exact ⟨rfl, B_trans (B_trans (B_trans (B_trans hb0.out hb1) hb2) hb3) hb4⟩
              · rw [if_pos h5]
                have hq : (e5 != 0) = true := by simpa using h5
                clear h5
                replace hb0 := Lib.hid hb0
                go_enter Try.func17, Try.ntmps17
                go_wp2_with (first | (go_at_call 15; ((with_reducible refine (H1.out _ hb0.out).mono ?_); rintro e w1 ⟨rfl, hb1⟩; obtain ⟨hc1, hf1⟩ := bcell hb1; have hz1 : w.heap.size < w1.heap.size := (by have := hb1.size; simp at this; omega))) | (go_at_call 49; ((with_reducible refine (H2.out _).mono ?_); rintro e w3 ⟨rfl, rfl⟩)) | (go_at_call 53; ((with_reducible refine (H3.out _ (B_trans hb0.out hb1)  ((hT0.out.below hb1))).mono ?_); rintro e w2 ⟨rfl, hb2⟩; obtain ⟨hc2, hf2⟩ := bcell hb2; have hz2 : w.heap.size < w2.heap.size := (by have := hb2.size; omega))) | (go_at_call 56; ((with_reducible refine (H4.out _).mono ?_); rintro e w3 ⟨rfl, hb3⟩; obtain ⟨hc3, hf3⟩ := bcell hb3; have hz3 : w.heap.size < w3.heap.size := (by have := hb3.size; omega))) | (go_at_call 53; ((with_reducible refine (H5.out _ (B_trans (B_trans (B_trans hb0.out hb1) hb2) hb3) (((hT0.out.below hb1).below hb2).below hb3)).mono ?_); rintro e w4 ⟨rfl, hb4⟩)))
                go_ret3
                exact ⟨rfl, B_trans (B_trans (B_trans (B_trans hb0.out hb1) hb2) hb3) hb4⟩
            · rw [if_pos h4]
              have hq : (e4 != 0) = true := by simpa using h4
              clear h4
              replace hb0 := Lib.hid hb0
              go_enter Try.func17, Try.ntmps17
              go_wp2_with (first | (go_at_call 15; ((with_reducible refine (H1.out _ hb0.out).mono ?_); rintro e w1 ⟨rfl, hb1⟩; obtain ⟨hc1, hf1⟩ := bcell hb1; have hz1 : w.heap.size < w1.heap.size := (by have := hb1.size; simp at this; omega))) | (go_at_call 49; ((with_reducible refine (H2.out _).mono ?_); rintro e w3 ⟨rfl, rfl⟩)) | (go_at_call 53; ((with_reducible refine (H3.out _ (B_trans hb0.out hb1)  ((hT0.out.below hb1))).mono ?_); rintro e w2 ⟨rfl, hb2⟩; obtain ⟨hc2, hf2⟩ := bcell hb2; have hz2 : w.heap.size < w2.heap.size := (by have := hb2.size; omega))) | (go_at_call 56; ((with_reducible refine (H4.out _).mono ?_); rintro e w3 ⟨rfl, hb3⟩; obtain ⟨hc3, hf3⟩ := bcell hb3; have hz3 : w.heap.size < w3.heap.size := (by have := hb3.size; omega))))
              go_ret3
              exact ⟨rfl, B_trans (B_trans (B_trans hb0.out hb1) hb2) hb3⟩
          · rw [if_pos h3]
            have hq : (e3 != 0) = true := by simpa using h3
            clear h3
            replace hb0 := Lib.hid hb0
            go_enter Try.func17, Try.ntmps17
            go_wp2_with (first | (go_at_call 15; ((with_reducible refine (H1.out _ hb0.out).mono ?_); rintro e w1 ⟨rfl, hb1⟩; obtain ⟨hc1, hf1⟩ := bcell hb1; have hz1 : w.heap.size < w1.heap.size := (by have := hb1.size; simp at this; omega))) | (go_at_call 49; ((with_reducible refine (H2.out _).mono ?_); rintro e w3 ⟨rfl, rfl⟩)) | (go_at_call 53; ((with_reducible refine (H3.out _ (B_trans hb0.out hb1)  ((hT0.out.below hb1))).mono ?_); rintro e w2 ⟨rfl, hb2⟩; obtain ⟨hc2, hf2⟩ := bcell hb2; have hz2 : w.heap.size < w2.heap.size := (by have := hb2.size; omega))))
            go_ret3
            exact ⟨rfl, B_trans (B_trans hb0.out hb1) hb2⟩
  · rw [if_pos h1]
    have hq : (e1 != 0) = true := by simpa using h1
    clear h1
    replace hb0 := Lib.hid hb0
    go_enter Try.func17, Try.ntmps17
    go_wp2_with (first | (go_at_call 15; ((with_reducible refine (H1.out _ hb0.out).mono ?_); rintro e w1 ⟨rfl, hb1⟩; obtain ⟨hc1, hf1⟩ := bcell hb1; have hz1 : w.heap.size < w1.heap.size := (by have := hb1.size; simp at this; omega))))
    go_ret3
    exact ⟨rfl, B_trans hb0.out hb1⟩
end Go.Proofs.Ytanjkhclhcnnaaa

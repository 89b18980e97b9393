/- Levels and Lost, from what is known. -/
import Derived.Test.YtanjkhclhcnnaaaYO
import Derived.Test.YtanjkhclhcnnaaaYP
import Derived.Test.YtanjkhclhcnnaaaWJ
namespace Go.Proofs.Ytanjkhclhcnnaaa
open Go.RowKit Go.Shelf

/-- What a task without an error keeps. -/
structure TaskOK (t : TkA) (hs ws : List T2) (ds : List T4) (ts : List T3) : Prop where
  r : (checkS t.r hs ws).2.2 = 0
  dn : t.dn ≤ 400
  tn : t.tn ≤ 20
  first : 0 ≤ t.first ∧ t.first ≤ 80000 - t.dn
  days : (daysE ds t.dn).2 = 0
  start : lvE (t.lo, t.hi) = 0
  tests : (testsE t.first t.dn ts t.tn).2 = 0
theorem TaskOK.of {t : TkA} {hs ws : List T2} {ds : List T4} {ts : List T3} (h : (taskS t hs ws ds ts).2.2 = 0) : TaskOK t hs ws ds ts := by
  unfold taskS at h
  by_cases h1 : (checkS t.r hs ws).2.2 = 0
  · rw [if_neg (by simpa using h1)] at h
    by_cases h2 : 400 < t.dn ∨ 20 < t.tn
    · rw [if_pos h2] at h; cases h
    · rw [if_neg h2] at h
      split at h
      · rename_i h3
        have h3 := inB_iff.1 h3
        by_cases h4 : (daysE ds t.dn).2 = 0
        · rw [if_neg (by simpa using h4)] at h
          by_cases h5 : lvE (t.lo, t.hi) = 0
          · rw [if_neg (by simpa using h5)] at h
            by_cases h6 : (testsE t.first t.dn ts t.tn).2 = 0
            · exact ⟨h1, by omega, by omega, h3, h4, h5, h6⟩
            · rw [if_pos h6] at h; exact absurd h h6
          · rw [if_pos h5] at h; exact absurd h h5
        · rw [if_pos h4] at h; exact absurd h h4
      · cases h
  · rw [if_pos h1] at h; exact absurd h h1

set_option maxRecDepth 100000 in
set_option maxHeartbeats 8000000 in
theorem levels_bad (t : TkA) (hs ws : List T2) (ds : List T4) (ts : List T3) (w : World) (hR : TkR w t hs ws ds ts) (he : (taskS t hs ws ds ts).2.2 ≠ 0) :
    Calls Try.prog 28 #[.agg t.cs] w fun e w' => e = .returned (.tuple #[.slice none 0 0, .slice none 0 0, .int .i64 (taskS t hs ws ds ts).2.2]) ∧ Below w.heap.size w w' := by
  have hb0 : Below w.heap.size w (w.alloc (.cells t.cs 31)) := B_alloc (Below.refl _ _) _
  have H1 := Lib.hid (checkTask_any t hs ws ds ts (w.alloc (.cells t.cs 31)) (hR.below hb0))
  generalize taskS t hs ws ds ts = c at H1 he ⊢
  obtain ⟨c1, c2, c3⟩ := c
  simp only [tri] at H1 he ⊢
  replace hb0 := Lib.hid hb0
  clear hR
  go_enter Try.func28, Try.ntmps28
  go_wp2_with (go_at_call 17; ((with_reducible refine (H1.out).mono ?_); rintro e w1 ⟨rfl, hb1⟩))
  refine bodyPost_ret (v := .tuple #[.slice none 0 0, .slice none 0 0, .int .i64 c3]) (by simp [results, Try.results28, go_sem]) rfl ⟨rfl, ?_⟩
  exact B_trans hb0.out hb1

set_option maxRecDepth 100000 in
set_option maxHeartbeats 8000000 in
theorem levels_ok (t : TkA) (hs ws : List T2) (ds : List T4) (ts : List T3) (k : Nat) (LL : List T2) (XS : List Value) (w : World) (hR : TkR w t hs ws ds ts) (he : (taskS t hs ws ds ts).2.2 = 0)
    (HK : ∀ W v, W.ownsRow w.heap.size 28 2 v t.dn (flat2 (ds.map (strS hs ws))) → Below w.heap.size w W → Calls Try.prog 71 #[.agg (t.xc v)] W fun e W' => ∃ g cap C sv, e = .returned (.tuple #[.slice (some ⟨g, 0, none⟩) (t.dn + 1) cap, sv]) ∧ W.heap.size ≤ g ∧ Ob W' g 28 C ∧ SpC C LL ∧ W'.ownsRow W.heap.size 78 2 sv k XS ∧ Below W.heap.size W W') :
    Calls Try.prog 28 #[.agg t.cs] w fun e W' => ∃ g cap C sv, e = .returned (.tuple #[.slice (some ⟨g, 0, none⟩) (t.dn + 1) cap, sv, .int .i64 0]) ∧ w.heap.size ≤ g ∧ Ob W' g 28 C ∧ SpC C LL ∧ W'.ownsRow w.heap.size 78 2 sv k XS ∧ Below w.heap.size w W' := by
  have ok := TaskOK.of he
  obtain ⟨w0, hw0⟩ : ∃ w0, w.alloc (.cells t.cs 31) = w0 := ⟨_, rfl⟩
  have hb0 : Below w.heap.size w w0 := by rw [← hw0]; exact B_alloc (Below.refl _ _) _
  have hT0 : TBox w0 w.heap.size t := by rw [← hw0]; exact TBox.new w t 31
  have H1 := Lib.hid (checkTask_any t hs ws ds ts w0 (hR.below hb0))
  have H2 := Lib.hid (fun W (h : Below w.heap.size w W) => taskOf_any t hs ws ds ts W (hR.below h) (RuOK.of ok.r) ok.dn)
  rw [show tri (taskS t hs ws ds ts) = .tuple #[.int .i64 (taskS t hs ws ds ts).1, .int .i64 (taskS t hs ws ds ts).2.1, .int .i64 (taskS t hs ws ds ts).2.2] from rfl, he] at H1
  generalize (taskS t hs ws ds ts).1 = c1 at H1
  generalize (taskS t hs ws ds ts).2.1 = c2 at H1
  replace hb0 := Lib.hid hb0
  replace HK := Lib.hid HK
  replace hT0 := Lib.hid hT0
  replace hw0 := Lib.hid hw0
  clear hR he ok
  go_enter Try.func28, Try.ntmps28
  go_wp2_with fail
  rw [hw0.out]
  refine H1.out.mono ?_
  rintro e w1 ⟨rfl, hb1⟩
  have hw1 := Lib.hid (B_trans hb0.out hb1)
  obtain ⟨q0, q1, q2, q3, q4, q5, q6, q7, q8, q9, q10, q11, q12⟩ := (hT0.out.below hb1).all
  clear hb1
  go_wp2_with fail
  refine (H2.out w1 hw1.out).mono ?_
  rintro e w2 ⟨⟨v, rfl, hrow⟩, hb2⟩
  have hw2 := Lib.hid (B_trans hw1.out hb2)
  have HK2 := Lib.hid (HK.out w2 v (row_base hrow hw1.out.size) hw2.out)
  clear HK q0 q1 q2 q3 q4 q5 q6 q7 q8 q9 q10 q11 q12 hrow hb2
  go_wp2_with fail
  refine HK2.out.mono ?_
  rintro e W3 ⟨g, cap, C, sv, rfl, hg, hC, hSp, hr3, hb3⟩
  go_wp2
  refine bodyPost_ret (v := .tuple #[.slice (some ⟨g, 0, none⟩) (t.dn + 1) cap, sv, .int .i64 0]) (by simp [results, Try.results28, go_sem]) rfl ⟨g, cap, C, sv, rfl, Nat.le_trans hw2.out.size hg, hC, hSp, row_base hr3 hw2.out.size, B_trans hw2.out hb3⟩
end Go.Proofs.Ytanjkhclhcnnaaa

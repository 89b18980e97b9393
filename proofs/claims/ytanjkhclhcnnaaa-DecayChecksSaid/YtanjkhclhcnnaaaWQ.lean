/- Mathematics of curves and strengths. -/
import Derived.Test.YtanjkhclhcnnaaaWI
import Derived.Test.YtanjkhclhcnnaaaWF
namespace Go.Proofs.Ytanjkhclhcnnaaa

/-- How many points at the head of a curve lie before a number. -/
def posN : List T2 → Int → Nat
  | [], _ => 0
  | p :: l, x => if p.1 < x then posN l x + 1 else 0
theorem posN_le : ∀ (l : List T2) (x : Int), posN l x ≤ l.length
  | [], _ => Nat.le_refl _
  | p :: l, x => by
    unfold posN; split
    · have := posN_le l x; simp; omega
    · simp
theorem posN_lt : ∀ (l : List T2) (x : Int) (t : Nat), t < posN l x → (l.getD t (0, 0)).1 < x
  | [], _, t, h => by simp [posN] at h
  | p :: l, x, 0, h => by unfold posN at h; split at h <;> simp_all
  | p :: l, x, t + 1, h => by
    unfold posN at h; split at h
    · simpa using posN_lt l x t (by omega)
    · omega
theorem posN_at : ∀ (l : List T2) (x : Int), posN l x < l.length → x ≤ (l.getD (posN l x) (0, 0)).1
  | [], _, h => by simp at h
  | p :: l, x, h => by
    unfold posN at h ⊢; split at h
    · rename_i hp; rw [if_pos hp]; simpa using posN_at l x (by simpa using h)
    · rename_i hp; rw [if_neg hp]; simp; omega

/-- A curve without an error. -/
structure CurveOK (l : List T2) (lo hi : Int) : Prop where
  len : 2 ≤ l.length ∧ l.length ≤ 8
  at_ : ∀ i, i < l.length → lo ≤ (l.getD i (0, 0)).1 ∧ (l.getD i (0, 0)).1 ≤ hi ∧ 0 ≤ (l.getD i (0, 0)).2 ∧ (l.getD i (0, 0)).2 ≤ 1000
  up : ∀ i, i + 1 < l.length → (l.getD i (0, 0)).1 < (l.getD (i + 1) (0, 0)).1 ∧ (l.getD i (0, 0)).2 ≤ (l.getD (i + 1) (0, 0)).2
theorem CurveOK.of {l : List T2} {lo hi : Int} (h : (curveE l lo hi).2 = 0) : CurveOK l lo hi := by
  unfold curveE at h
  split at h
  · rename_i hl
    have hl := inB_iff.1 hl
    have ha := firstE_all.1 h
    have h1 : ∀ i, i < l.length → inB (l.getD i (0, 0)).1 lo hi = true ∧ inB (l.getD i (0, 0)).2 0 1000 = true ∧ (!decide (i = 0) && (decide ((l.getD i (0, 0)).1 ≤ (l.getD (i - 1) (0, 0)).1) || decide ((l.getD i (0, 0)).2 < (l.getD (i - 1) (0, 0)).2))) = false := by
      intro i hi'
      have := ha i hi'
      unfold ptE ptP at this
      split at this
      · rename_i q
        rw [Bool.and_eq_true] at q
        refine ⟨q.1, q.2, ?_⟩
        split at this
        · cases this
        · rename_i z; simpa using z
      · cases this
    refine ⟨by omega, fun i hi' => ?_, fun i hi' => ?_⟩
    · obtain ⟨a, b, -⟩ := h1 i hi'
      have a := inB_iff.1 a
      have b := inB_iff.1 b
      omega
    · obtain ⟨-, -, c⟩ := h1 (i + 1) hi'
      simp at c
      exact c
  · cases h
theorem CurveOK.mono {l : List T2} {lo hi : Int} (h : CurveOK l lo hi) {j : Nat} : ∀ {i : Nat}, i ≤ j → j < l.length → (l.getD i (0, 0)).1 ≤ (l.getD j (0, 0)).1 ∧ (l.getD i (0, 0)).2 ≤ (l.getD j (0, 0)).2 := by
  induction j with
  | zero => intro i hi' _; obtain rfl : i = 0 := (by omega); exact ⟨Int.le_refl _, Int.le_refl _⟩
  | succ j ih =>
    intro i hi' hj
    by_cases e : i = j + 1
    · subst e; exact ⟨Int.le_refl _, Int.le_refl _⟩
    · have := ih (i := i) (by omega) (by omega)
      have := h.up j hj
      omega
theorem CurveOK.pos_ge {l : List T2} {lo hi : Int} (h : CurveOK l lo hi) (x : Int) (t : Nat) (h1 : posN l x ≤ t) (h2 : t < l.length) : x ≤ (l.getD t (0, 0)).1 := by
  have := posN_at l x (by omega)
  have := (h.mono h1 h2).1
  omega

def interp (a b : T2) (x : Int) : Int := a.2 + (b.2 - a.2) * (x - a.1) / (b.1 - a.1)
/-- The factor of a curve at a number. -/
def factorS (l : List T2) (x : Int) : Int :=
  if posN l x = 0 then (l.getD 0 (0, 0)).2 else if posN l x = l.length then (l.getD (posN l x - 1) (0, 0)).2
  else interp (l.getD (posN l x - 1) (0, 0)) (l.getD (posN l x) (0, 0)) x
theorem interp_bd {a b : T2} {x : Int} (h1 : a.1 < x) (h2 : x ≤ b.1) (h3 : a.2 ≤ b.2) : a.2 ≤ interp a b x ∧ interp a b x ≤ b.2 := by
  unfold interp
  have hd : 0 < b.1 - a.1 := by omega
  have hn : 0 ≤ (b.2 - a.2) * (x - a.1) := Int.mul_nonneg (by omega) (by omega)
  have h0 := Int.ediv_nonneg hn (Int.le_of_lt hd)
  have hle : (b.2 - a.2) * (x - a.1) / (b.1 - a.1) ≤ b.2 - a.2 := by
    apply Int.ediv_le_of_le_mul hd
    exact Int.mul_le_mul_of_nonneg_left (by omega) (by omega)
  omega
theorem CurveOK.factor_bd {l : List T2} {lo hi : Int} (h : CurveOK l lo hi) (x : Int) : 0 ≤ factorS l x ∧ factorS l x ≤ 1000 := by
  obtain ⟨hl1, hl2⟩ := h.len
  have hle := posN_le l x
  unfold factorS
  split
  · have := h.at_ 0 (by omega); omega
  · split
    · have := h.at_ (posN l x - 1) (by omega); omega
    · have a := h.at_ (posN l x - 1) (by omega)
      have b := h.at_ (posN l x) (by omega)
      have u := h.up (posN l x - 1) (by omega)
      rw [show posN l x - 1 + 1 = posN l x by omega] at u
      have := interp_bd (posN_lt l x (posN l x - 1) (by omega)) (posN_at l x (by omega)) u.2
      omega
theorem interp_mono {a b : T2} {x y : Int} (h1 : a.1 < b.1) (h3 : a.2 ≤ b.2) (h : x ≤ y) : interp a b x ≤ interp a b y := by
  unfold interp
  have := Int.ediv_le_ediv (c := b.1 - a.1) (by omega) (Int.mul_le_mul_of_nonneg_left (show x - a.1 ≤ y - a.1 by omega) (show 0 ≤ b.2 - a.2 by omega))
  omega
theorem posN_mono : ∀ (l : List T2) {x y : Int}, x ≤ y → posN l x ≤ posN l y
  | [], _, _, _ => Nat.le_refl _
  | p :: l, x, y, h => by
    unfold posN
    by_cases a : p.1 < x
    · rw [if_pos a, if_pos (by omega)]; have := posN_mono l h; omega
    · rw [if_neg a]; omega
theorem CurveOK.factor_mono {l : List T2} {lo hi : Int} (h : CurveOK l lo hi) {x y : Int} (hxy : x ≤ y) : factorS l x ≤ factorS l y := by
  obtain ⟨hl1, hl2⟩ := h.len
  have hm := posN_mono l hxy
  have hlx := posN_le l x
  have hly := posN_le l y
  -- the factor lies between the points' factors
  have low : ∀ z, posN l z ≠ 0 → (l.getD (posN l z - 1) (0, 0)).2 ≤ factorS l z := by
    intro z hz
    have hlz := posN_le l z
    unfold factorS
    rw [if_neg hz]
    split
    · exact Int.le_refl _
    · have u := h.up (posN l z - 1) (by omega)
      rw [show posN l z - 1 + 1 = posN l z by omega] at u
      exact (interp_bd (posN_lt l z (posN l z - 1) (by omega)) (posN_at l z (by omega)) u.2).1
  have high : ∀ z, posN l z < l.length → factorS l z ≤ (l.getD (posN l z) (0, 0)).2 := by
    intro z hz
    unfold factorS
    split
    · rename_i e; rw [e]; exact Int.le_refl _
    · rw [if_neg (by omega)]
      have u := h.up (posN l z - 1) (by omega)
      rw [show posN l z - 1 + 1 = posN l z by omega] at u
      exact (interp_bd (posN_lt l z (posN l z - 1) (by omega)) (posN_at l z (by omega)) u.2).2
  by_cases e : posN l x = posN l y
  · unfold factorS
    rw [e]
    split
    · exact Int.le_refl _
    · split
      · exact Int.le_refl _
      · have u := h.up (posN l y - 1) (by omega)
        rw [show posN l y - 1 + 1 = posN l y by omega] at u
        exact interp_mono u.1 u.2 hxy
  · have a := high x (by omega)
    have b := low y (by omega)
    have c := (h.mono (i := posN l x) (j := posN l y - 1) (by omega) (by omega)).2
    omega

/-- A rule without an error. -/
structure RuOK (r : RuA) (hs ws : List T2) : Prop where
  h : CurveOK hs (-300) 600
  w : CurveOK ws 0 1000
  own : 0 ≤ r.own ∧ r.own ≤ 100000
  feed : 0 ≤ r.feed ∧ r.feed ≤ 999999
  g : 1 ≤ r.g0 ∧ r.g0 < r.g1 ∧ r.g1 < r.g2 ∧ r.g2 ≤ 1000000
  lost : 1 ≤ r.lost ∧ r.lost ≤ 1000000
def strengthS (hs ws : List T2) (a b : Int) : Int := factorS hs a * factorS ws b / 1000
def strS (hs ws : List T2) (d : T4) : T2 := (strengthS hs ws d.1 d.2.2.1, strengthS hs ws d.2.1 d.2.2.2)
def gainS (r : RuA) (n s : Int) : Int := (r.own * 1000000 + n * r.feed) * s
def leastS (r : RuA) (s n : Int) : Int := min (n + gainS r n s / 1000000000) 1000000
def mostS (r : RuA) (s n : Int) : Int := min (n + (gainS r n s + 999999999) / 1000000000) 1000000
def nextS (r : RuA) (s n : T2) : T2 := (leastS r s.1 n.1, mostS r s.2 n.2)
theorem RuOK.str_bd {r : RuA} {hs ws : List T2} (h : RuOK r hs ws) (a b : Int) : 0 ≤ strengthS hs ws a b ∧ strengthS hs ws a b ≤ 1000 := by
  have h1 := h.h.factor_bd a
  have h2 := h.w.factor_bd b
  have h3 := Int.mul_nonneg h1.1 h2.1
  have h4 : factorS hs a * factorS ws b ≤ 1000 * 1000 := Int.mul_le_mul h1.2 h2.2 h2.1 (by omega)
  unfold strengthS
  omega
theorem RuOK.gain_bd {r : RuA} {hs ws : List T2} (h : RuOK r hs ws) {n s : Int} (h1 : 0 ≤ n) (h2 : n ≤ 1000000) (h3 : 0 ≤ s) (h4 : s ≤ 1000) :
    0 ≤ n * r.feed ∧ n * r.feed ≤ 999999000000 ∧ 0 ≤ gainS r n s ∧ gainS r n s ≤ 1099999000000000 := by
  obtain ⟨o1, o2⟩ := h.own
  obtain ⟨f1, f2⟩ := h.feed
  have a := Int.mul_nonneg h1 f1
  have b : n * r.feed ≤ 1000000 * 999999 := Int.mul_le_mul h2 f2 f1 (by omega)
  unfold gainS
  have c : 0 ≤ r.own * 1000000 + n * r.feed := by omega
  have d := Int.mul_nonneg c h3
  have e : (r.own * 1000000 + n * r.feed) * s ≤ 1099999000000 * 1000 := Int.mul_le_mul (by omega) h4 h3 (by omega)
  omega
theorem RuOK.of {r : RuA} {hs ws : List T2} (h : (checkS r hs ws).2.2 = 0) : RuOK r hs ws := by
  unfold checkS at h
  by_cases h1 : (curveE hs (-300) 600).2 = 0
  · rw [if_neg (by simpa using h1)] at h
    by_cases h2 : (curveE ws 0 1000).2 = 0
    · rw [if_neg (by simpa using h2)] at h
      split at h
      · rename_i q
        rw [Bool.and_eq_true, inB_iff, inB_iff] at q
        by_cases h5 : (gradesE r.g0 r.g1 r.g2).2 = 0
        · rw [if_neg (by simpa using h5)] at h
          split at h
          · rename_i z
            have z := inB_iff.1 z
            have hg := firstE_all.1 h5
            have k0 := hg 0 (by omega)
            have k1 := hg 1 (by omega)
            have k2 := hg 2 (by omega)
            simp only [gradeE] at k0 k1 k2
            split at k0
            · rename_i y0
              split at k1
              · rename_i y1
                split at k1
                · cases k1
                · rename_i y1'
                  split at k2
                  · rename_i y2
                    split at k2
                    · cases k2
                    · rename_i y2'
                      have y0 := inB_iff.1 y0
                      have y2 := inB_iff.1 y2
                      simp at y1' y2'
                      exact ⟨CurveOK.of h1, CurveOK.of h2, q.1, q.2, ⟨y0.1, y1', y2', y2.2⟩, z⟩
                  · cases k2
              · cases k1
            · cases k0
          · cases h
        · rw [if_pos h5] at h; exact absurd h h5
      · cases h
    · rw [if_pos h2] at h; exact absurd h h2
  · rw [if_pos h1] at h; exact absurd h h1
end Go.Proofs.Ytanjkhclhcnnaaa

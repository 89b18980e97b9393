/- sort.Search, for any function value that only makes memory; the factor of a curve. -/
import Derived.Test.YtanjkhclhcnnaaaMA
import Derived.Test.YtanjkhclhcnnaaaMB
import Derived.Deep.DeepCutAuto
import Derived.RegionTactic
import Derived.ChangeAlike
import Derived.Deep.RegionHeld3
import Derived.Deep.RegionWith
import Derived.StillTailTactics
import Derived.Deep.Draws
import Derived.Orders
import Derived.OrdersIn
import Derived.RangeFuncCalls
import Derived.Lib.OwnKind
import Derived.OneCell
namespace Go.Proofs.Ytanjkhclhcnnaaa
open Go.RowKit Go.Shelf

set_option maxHeartbeats 2000000 in
theorem search_any (g : Nat) (cap : Array Value) (p : Nat → Bool) (n r : Nat) (w : World) (hn : n ≤ 100000000) (hr : r ≤ n) (h1 : ∀ t, t < r → p t = false) (h2 : ∀ t, r ≤ t → t < n → p t = true)
    (eg : ∀ args w, (callFunc g args).run Try.prog w = .ok (.enter g args) w)
    (hf : ∀ (i : Nat) (W : World), i < n → Below w.heap.size w W → Calls Try.prog g (#[.int .i64 i] ++ cap) W fun e w' => e = .returned (.bool (p i)) ∧ Below W.heap.size W w') :
    Calls Try.prog 104 #[.int .i64 n, .func (.func g) #[] cap] w fun e w' => e = .returned (.int .i64 r) ∧ Below w.heap.size w w' := by
  replace hf := Lib.hid hf
  replace h1 := Lib.hid h1
  replace h2 := Lib.hid h2
  go_enter Try.func104, Try.ntmps104
  go_wp2
  go_loopg [5, 6] n (fun gk s5 s6 wr => ∃ lo hi : Nat, gk = hi - lo ∧ s5 = .int .i64 lo ∧ s6 = .int .i64 hi ∧ lo ≤ r ∧ r ≤ hi ∧ hi ≤ n ∧ Below w.heap.size w wr)
  case atStart => exact ⟨0, n, by omega, rfl, rfl, Nat.zero_le _, hr, Nat.le_refl _, Below.refl _ _⟩
  case round =>
    obtain ⟨lo, hi, rfl, rfl, rfl, hlr, hrh, hhn, hb⟩ := hrel
    by_cases hlt : lo < hi
    · have hc := hf.out ((lo + hi) / 2) wr (by omega) hb
      rw [show (((lo + hi) / 2 : Nat) : Int) = ((lo : Int) + (hi : Int)) / 2 by omega] at hc
      by_cases hm : (lo + hi) / 2 < r
      · rw [h1.out _ hm] at hc
        replace hc := Lib.hid hc
        go_wp2_with fail
        refine hc.out.mono ?_
        rintro e w1 ⟨rfl, hb1⟩
        go_wp2
        go_roundg (hi - ((lo + hi) / 2 + 1))
        case measure => omega
        case rel => exact ⟨(lo + hi) / 2 + 1, hi, rfl, by rw [show ((lo : Int) + (hi : Int)) / 2 + 1 = (((lo + hi) / 2 + 1 : Nat) : Int) by omega], rfl, by omega, hrh, hhn, B_trans hb hb1⟩
      · rw [h2.out _ (by omega) (by omega)] at hc
        replace hc := Lib.hid hc
        go_wp2_with fail
        refine hc.out.mono ?_
        rintro e w1 ⟨rfl, hb1⟩
        go_wp2
        go_roundg ((lo + hi) / 2 - lo)
        case measure => omega
        case rel => exact ⟨lo, (lo + hi) / 2, rfl, rfl, by rw [show ((lo : Int) + (hi : Int)) / 2 = (((lo + hi) / 2 : Nat) : Int) by omega], hlr, by omega, by omega, B_trans hb hb1⟩
    · obtain rfl : lo = r := by omega
      obtain rfl : hi = lo := by omega
      go_wp2
      go_ret
      exact ⟨rfl, hb⟩
end Go.Proofs.Ytanjkhclhcnnaaa
/- Mathematics of curves and strengths. -/
namespace Go.Proofs.Ytanjkhclhcnnaaa

/-- How many points at the head of a curve lie before a number. -/
def posN : List T2 → Int → Nat
  | [], _ => 0
  | p :: l, x => if p.1 < x then posN l x + 1 else 0
theorem posN_le : ∀ (l : List T2) (x : Int), posN l x ≤ l.length
  | [], _ => Nat.le_refl _
  | p :: l, x => by
    unfold posN; split
    · have := posN_le l x; simp; omega
    · simp
theorem posN_lt : ∀ (l : List T2) (x : Int) (t : Nat), t < posN l x → (l.getD t (0, 0)).1 < x
  | [], _, t, h => by simp [posN] at h
  | p :: l, x, 0, h => by unfold posN at h; split at h <;> simp_all
  | p :: l, x, t + 1, h => by
    unfold posN at h; split at h
    · simpa using posN_lt l x t (by omega)
    · omega
theorem posN_at : ∀ (l : List T2) (x : Int), posN l x < l.length → x ≤ (l.getD (posN l x) (0, 0)).1
  | [], _, h => by simp at h
  | p :: l, x, h => by
    unfold posN at h ⊢; split at h
    · rename_i hp; rw [if_pos hp]; simpa using posN_at l x (by simpa using h)
    · rename_i hp; rw [if_neg hp]; simp; omega

/-- A curve without an error. -/
structure CurveOK (l : List T2) (lo hi : Int) : Prop where
  len : 2 ≤ l.length ∧ l.length ≤ 8
  at_ : ∀ i, i < l.length → lo ≤ (l.getD i (0, 0)).1 ∧ (l.getD i (0, 0)).1 ≤ hi ∧ 0 ≤ (l.getD i (0, 0)).2 ∧ (l.getD i (0, 0)).2 ≤ 1000
  up : ∀ i, i + 1 < l.length → (l.getD i (0, 0)).1 < (l.getD (i + 1) (0, 0)).1 ∧ (l.getD i (0, 0)).2 ≤ (l.getD (i + 1) (0, 0)).2
theorem CurveOK.of {l : List T2} {lo hi : Int} (h : (curveE l lo hi).2 = 0) : CurveOK l lo hi := by
  unfold curveE at h
  split at h
  · rename_i hl
    have hl := inB_iff.1 hl
    have ha := firstE_all.1 h
    have h1 : ∀ i, i < l.length → inB (l.getD i (0, 0)).1 lo hi = true ∧ inB (l.getD i (0, 0)).2 0 1000 = true ∧ (!decide (i = 0) && (decide ((l.getD i (0, 0)).1 ≤ (l.getD (i - 1) (0, 0)).1) || decide ((l.getD i (0, 0)).2 < (l.getD (i - 1) (0, 0)).2))) = false := by
      intro i hi'
      have := ha i hi'
      unfold ptE ptP at this
      split at this
      · rename_i q
        rw [Bool.and_eq_true] at q
        refine ⟨q.1, q.2, ?_⟩
        split at this
        · cases this
        · rename_i z; simpa using z
      · cases this
    refine ⟨by omega, fun i hi' => ?_, fun i hi' => ?_⟩
    · obtain ⟨a, b, -⟩ := h1 i hi'
      have a := inB_iff.1 a
      have b := inB_iff.1 b
      omega
    · obtain ⟨-, -, c⟩ := h1 (i + 1) hi'
      simp at c
      exact c
  · cases h
theorem CurveOK.mono {l : List T2} {lo hi : Int} (h : CurveOK l lo hi) {j : Nat} : ∀ {i : Nat}, i ≤ j → j < l.length → (l.getD i (0, 0)).1 ≤ (l.getD j (0, 0)).1 ∧ (l.getD i (0, 0)).2 ≤ (l.getD j (0, 0)).2 := by
  induction j with
  | zero => intro i hi' _; obtain rfl : i = 0 := (by omega); exact ⟨Int.le_refl _, Int.le_refl _⟩
  | succ j ih =>
    intro i hi' hj
    by_cases e : i = j + 1
    · subst e; exact ⟨Int.le_refl _, Int.le_refl _⟩
    · have := ih (i := i) (by omega) (by omega)
      have := h.up j hj
      omega
theorem CurveOK.pos_ge {l : List T2} {lo hi : Int} (h : CurveOK l lo hi) (x : Int) (t : Nat) (h1 : posN l x ≤ t) (h2 : t < l.length) : x ≤ (l.getD t (0, 0)).1 := by
  have := posN_at l x (by omega)
  have := (h.mono h1 h2).1
  omega

def interp (a b : T2) (x : Int) : Int := a.2 + (b.2 - a.2) * (x - a.1) / (b.1 - a.1)
/-- The factor of a curve at a number. -/
def factorS (l : List T2) (x : Int) : Int :=
  if posN l x = 0 then (l.getD 0 (0, 0)).2 else if posN l x = l.length then (l.getD (posN l x - 1) (0, 0)).2
  else interp (l.getD (posN l x - 1) (0, 0)) (l.getD (posN l x) (0, 0)) x
theorem interp_bd {a b : T2} {x : Int} (h1 : a.1 < x) (h2 : x ≤ b.1) (h3 : a.2 ≤ b.2) : a.2 ≤ interp a b x ∧ interp a b x ≤ b.2 := by
  unfold interp
  have hd : 0 < b.1 - a.1 := by omega
  have hn : 0 ≤ (b.2 - a.2) * (x - a.1) := Int.mul_nonneg (by omega) (by omega)
  have h0 := Int.ediv_nonneg hn (Int.le_of_lt hd)
  have hle : (b.2 - a.2) * (x - a.1) / (b.1 - a.1) ≤ b.2 - a.2 := by
    apply Int.ediv_le_of_le_mul hd
    exact Int.mul_le_mul_of_nonneg_left (by omega) (by omega)
  omega
theorem CurveOK.factor_bd {l : List T2} {lo hi : Int} (h : CurveOK l lo hi) (x : Int) : 0 ≤ factorS l x ∧ factorS l x ≤ 1000 := by
  obtain ⟨hl1, hl2⟩ := h.len
  have hle := posN_le l x
  unfold factorS
  split
  · have := h.at_ 0 (by omega); omega
  · split
    · have := h.at_ (posN l x - 1) (by omega); omega
    · have a := h.at_ (posN l x - 1) (by omega)
      have b := h.at_ (posN l x) (by omega)
      have u := h.up (posN l x - 1) (by omega)
      rw [show posN l x - 1 + 1 = posN l x by omega] at u
      have := interp_bd (posN_lt l x (posN l x - 1) (by omega)) (posN_at l x (by omega)) u.2
      omega
theorem interp_mono {a b : T2} {x y : Int} (h1 : a.1 < b.1) (h3 : a.2 ≤ b.2) (h : x ≤ y) : interp a b x ≤ interp a b y := by
  unfold interp
  have := Int.ediv_le_ediv (c := b.1 - a.1) (by omega) (Int.mul_le_mul_of_nonneg_left (show x - a.1 ≤ y - a.1 by omega) (show 0 ≤ b.2 - a.2 by omega))
  omega
theorem posN_mono : ∀ (l : List T2) {x y : Int}, x ≤ y → posN l x ≤ posN l y
  | [], _, _, _ => Nat.le_refl _
  | p :: l, x, y, h => by
    unfold posN
    by_cases a : p.1 < x
    · rw [if_pos a, if_pos (by omega)]; have := posN_mono l h; omega
    · rw [if_neg a]; omega
theorem CurveOK.factor_mono {l : List T2} {lo hi : Int} (h : CurveOK l lo hi) {x y : Int} (hxy : x ≤ y) : factorS l x ≤ factorS l y := by
  obtain ⟨hl1, hl2⟩ := h.len
  have hm := posN_mono l hxy
  have hlx := posN_le l x
  have hly := posN_le l y
  -- the factor lies between the points' factors
  have low : ∀ z, posN l z ≠ 0 → (l.getD (posN l z - 1) (0, 0)).2 ≤ factorS l z := by
    intro z hz
    have hlz := posN_le l z
    unfold factorS
    rw [if_neg hz]
    split
    · exact Int.le_refl _
    · have u := h.up (posN l z - 1) (by omega)
      rw [show posN l z - 1 + 1 = posN l z by omega] at u
      exact (interp_bd (posN_lt l z (posN l z - 1) (by omega)) (posN_at l z (by omega)) u.2).1
  have high : ∀ z, posN l z < l.length → factorS l z ≤ (l.getD (posN l z) (0, 0)).2 := by
    intro z hz
    unfold factorS
    split
    · rename_i e; rw [e]; exact Int.le_refl _
    · rw [if_neg (by omega)]
      have u := h.up (posN l z - 1) (by omega)
      rw [show posN l z - 1 + 1 = posN l z by omega] at u
      exact (interp_bd (posN_lt l z (posN l z - 1) (by omega)) (posN_at l z (by omega)) u.2).2
  by_cases e : posN l x = posN l y
  · unfold factorS
    rw [e]
    split
    · exact Int.le_refl _
    · split
      · exact Int.le_refl _
      · have u := h.up (posN l y - 1) (by omega)
        rw [show posN l y - 1 + 1 = posN l y by omega] at u
        exact interp_mono u.1 u.2 hxy
  · have a := high x (by omega)
    have b := low y (by omega)
    have c := (h.mono (i := posN l x) (j := posN l y - 1) (by omega) (by omega)).2
    omega

/-- A rule without an error. -/
structure RuOK (r : RuA) (hs ws : List T2) : Prop where
  h : CurveOK hs (-300) 600
  w : CurveOK ws 0 1000
  own : 0 ≤ r.own ∧ r.own ≤ 100000
  feed : 0 ≤ r.feed ∧ r.feed ≤ 999999
  g : 1 ≤ r.g0 ∧ r.g0 < r.g1 ∧ r.g1 < r.g2 ∧ r.g2 ≤ 1000000
  lost : 1 ≤ r.lost ∧ r.lost ≤ 1000000
def strengthS (hs ws : List T2) (a b : Int) : Int := factorS hs a * factorS ws b / 1000
def strS (hs ws : List T2) (d : T4) : T2 := (strengthS hs ws d.1 d.2.2.1, strengthS hs ws d.2.1 d.2.2.2)
def gainS (r : RuA) (n s : Int) : Int := (r.own * 1000000 + n * r.feed) * s
def leastS (r : RuA) (s n : Int) : Int := min (n + gainS r n s / 1000000000) 1000000
def mostS (r : RuA) (s n : Int) : Int := min (n + (gainS r n s + 999999999) / 1000000000) 1000000
def nextS (r : RuA) (s n : T2) : T2 := (leastS r s.1 n.1, mostS r s.2 n.2)
theorem RuOK.str_bd {r : RuA} {hs ws : List T2} (h : RuOK r hs ws) (a b : Int) : 0 ≤ strengthS hs ws a b ∧ strengthS hs ws a b ≤ 1000 := by
  have h1 := h.h.factor_bd a
  have h2 := h.w.factor_bd b
  have h3 := Int.mul_nonneg h1.1 h2.1
  have h4 : factorS hs a * factorS ws b ≤ 1000 * 1000 := Int.mul_le_mul h1.2 h2.2 h2.1 (by omega)
  unfold strengthS
  omega
theorem RuOK.gain_bd {r : RuA} {hs ws : List T2} (h : RuOK r hs ws) {n s : Int} (h1 : 0 ≤ n) (h2 : n ≤ 1000000) (h3 : 0 ≤ s) (h4 : s ≤ 1000) :
    0 ≤ n * r.feed ∧ n * r.feed ≤ 999999000000 ∧ 0 ≤ gainS r n s ∧ gainS r n s ≤ 1099999000000000 := by
  obtain ⟨o1, o2⟩ := h.own
  obtain ⟨f1, f2⟩ := h.feed
  have a := Int.mul_nonneg h1 f1
  have b : n * r.feed ≤ 1000000 * 999999 := Int.mul_le_mul h2 f2 f1 (by omega)
  unfold gainS
  have c : 0 ≤ r.own * 1000000 + n * r.feed := by omega
  have d := Int.mul_nonneg c h3
  have e : (r.own * 1000000 + n * r.feed) * s ≤ 1099999000000 * 1000 := Int.mul_le_mul (by omega) h4 h3 (by omega)
  omega
theorem RuOK.of {r : RuA} {hs ws : List T2} (h : (checkS r hs ws).2.2 = 0) : RuOK r hs ws := by
  unfold checkS at h
  by_cases h1 : (curveE hs (-300) 600).2 = 0
  · rw [if_neg (by simpa using h1)] at h
    by_cases h2 : (curveE ws 0 1000).2 = 0
    · rw [if_neg (by simpa using h2)] at h
      split at h
      · rename_i q
        rw [Bool.and_eq_true, inB_iff, inB_iff] at q
        by_cases h5 : (gradesE r.g0 r.g1 r.g2).2 = 0
        · rw [if_neg (by simpa using h5)] at h
          split at h
          · rename_i z
            have z := inB_iff.1 z
            have hg := firstE_all.1 h5
            have k0 := hg 0 (by omega)
            have k1 := hg 1 (by omega)
            have k2 := hg 2 (by omega)
            simp only [gradeE] at k0 k1 k2
            split at k0
            · rename_i y0
              split at k1
              · rename_i y1
                split at k1
                · cases k1
                · rename_i y1'
                  split at k2
                  · rename_i y2
                    split at k2
                    · cases k2
                    · rename_i y2'
                      have y0 := inB_iff.1 y0
                      have y2 := inB_iff.1 y2
                      simp at y1' y2'
                      exact ⟨CurveOK.of h1, CurveOK.of h2, q.1, q.2, ⟨y0.1, y1', y2', y2.2⟩, z⟩
                  · cases k2
              · cases k1
            · cases k0
          · cases h
        · rw [if_pos h5] at h; exact absurd h h5
      · cases h
    · rw [if_pos h2] at h; exact absurd h h2
  · rw [if_pos h1] at h; exact absurd h h1
end Go.Proofs.Ytanjkhclhcnnaaa
/- The factor of a curve; the strength; what can follow a level. -/
namespace Go.Proofs.Ytanjkhclhcnnaaa
open Go.RowKit Go.Shelf

set_option maxHeartbeats 1000000 in
theorem factor1_any (l : List T2) (a : Option Addr) (n c : Nat) (x : Int) (B1 B2 i : Nat) (w : World) (hn : n ≤ 100000) (hi' : i < n) (hS : Sl2 w a n l)
    (c1 : w.cell? ⟨B1, 0, none⟩ = some (.slice a n c)) (c2 : w.cell? ⟨B2, 0, none⟩ = some (.int .i64 x)) :
    Calls Try.prog 105 #[.int .i64 i, .pointer (some ⟨B1, 0, none⟩), .pointer (some ⟨B2, 0, none⟩)] w fun e w' => e = .returned (.bool (decide (x ≤ (l.getD i (0, 0)).1))) ∧ Below w.heap.size w w' := by
  obtain ⟨b, o, rfl, hbs, hc⟩ := hS.at_ (by omega)
  obtain ⟨p1, -⟩ := hc i hi'
  generalize (l.getD i (0, 0)).1 = p at p1 ⊢
  clear hc hS
  have hil : (i : Int) < n := by omega
  have hi0 : (0 : Int) ≤ i := by omega
  go_enter Try.func105, Try.ntmps105
  go_wp2
  go_quiet (fail)
  go_wp2
  go_ret
  exact ⟨rfl, below_drewN (Below.refl _ _) _⟩

set_option maxRecDepth 100000 in
set_option maxHeartbeats 4000000 in
theorem factor_any (l : List T2) (a : Option Addr) (n c : Nat) (x lo hi : Int) (w : World) (hS : Sl2 w a n l) (hC : CurveOK l lo hi) (hlo : -100000 ≤ lo) (hhi : hi ≤ 100000) :
    Calls Try.prog 83 #[.slice a n c, .int .i64 x] w fun e w' => e = .returned (.int .i64 (factorS l x)) ∧ Below w.heap.size w w' := by
  have hl := hS.len
  obtain ⟨hl1, hl2⟩ := hC.len
  have hle := posN_le l x
  have hb2 : Below w.heap.size w ((w.alloc (.cells #[.slice a n c] 22)).alloc (.cells #[.int .i64 x] 3)) := B_alloc (B_alloc (Below.refl _ _) _) _
  obtain ⟨W2, hW2⟩ : ∃ W2, ((w.alloc (.cells #[.slice a n c] 22)).alloc (.cells #[.int .i64 x] 3)) = W2 := ⟨_, rfl⟩
  have z1 : W2.cell? ⟨w.heap.size, 0, none⟩ = some (.slice a n c) := by rw [← hW2]; simp [go_sem]
  have z2 : W2.cell? ⟨w.heap.size + 1, 0, none⟩ = some (.int .i64 x) := by rw [← hW2]; simp [go_sem]
  have z : W2.heap.size = w.heap.size + 1 + 1 := by rw [← hW2]; simp
  rw [hW2] at hb2
  have HC := search_any 105 #[.pointer (some ⟨w.heap.size, 0, none⟩), .pointer (some ⟨w.heap.size + 1, 0, none⟩)] (fun i => decide (x ≤ (l.getD i (0, 0)).1)) n (posN l x) W2 (by omega) (by omega)
    (fun t ht => by have := posN_lt l x t ht; exact decide_eq_false (by omega)) (fun t ht1 ht2 => decide_eq_true (hC.pos_ge x t ht1 (by omega))) (enters_of Try.func105 (by kernel_rfl) rfl)
    (fun i W hi' hb => factor1_any l a n c x w.heap.size (w.heap.size + 1) i W (by omega) hi' (hS.below (B_trans hb2 hb)) ((hb.cell (by rw [z]; show w.heap.size < _; omega)).trans z1) ((hb.cell (by rw [z]; show w.heap.size + 1 < _; omega)).trans z2))
  rw [← hW2] at HC hb2
  clear z z1 z2 hW2
  replace HC := Lib.hid HC
  have hb2' := Lib.hid hb2
  have hmf : ∀ (fn : Fn) (first cap : Array Value) (w : World), (Instr.makeFunc fn first cap).run Try.prog w = .ok (.func fn first cap) w := fun _ _ _ _ => rfl
  unfold factorS
  obtain ⟨b, o, rfl, hbs, hc⟩ := hS.at_ (by omega)
  have hcw := fun (i : Nat) (h : i < n) (W : World) (hb : Below w.heap.size w W) => (show W.cell? ⟨b, o + i * 2, none⟩ = some (.int .i64 (l.getD i (0, 0)).1) ∧ W.cell? ⟨b, o + i * 2 + 1, none⟩ = some (.int .i64 (l.getD i (0, 0)).2) from ⟨(hb.cell (p := ⟨b, o + i * 2, none⟩) hbs).trans (hc i h).1, (hb.cell (p := ⟨b, o + i * 2 + 1, none⟩) hbs).trans (hc i h).2⟩)
  replace hcw := Lib.hid hcw
  clear hc hb2
  by_cases h0 : posN l x = 0
  · rw [if_pos h0]
    rw [h0] at HC
    have hp := Lib.hid (fun W hb => hcw.out 0 (by omega) W hb)
    generalize l.getD 0 (0, 0) = v at hp ⊢
    simp only [Nat.zero_mul, Nat.add_zero] at hp
    have hn0 : 0 < n := by omega
    have hn1 : (0 : Int) < n := by omega
    clear hS hC hl hl1 hle h0 hlo hhi hl2 hcw
    go_enter Try.func83, Try.ntmps83
    go_wp2_with (go_at_call 104; ((with_reducible refine HC.out.mono ?_); rintro e w1 ⟨rfl, hb⟩; obtain ⟨hc1, hf1⟩ := bcell hb; have hz : w.heap.size + 1 < w1.heap.size := (by have := hb.size; simp at this; omega); have hbW := B_trans hb2'.out hb; have hbb : b < w1.heap.size := (by omega); obtain ⟨-, q2⟩ := hp.out w1 hbW; clear hbW))
    go_ret
    exact ⟨rfl, B_trans hb2'.out hb⟩
  · rw [if_neg h0]
    by_cases hn : posN l x = l.length
    · rw [if_pos hn]
      rw [hn, hl] at HC
      rw [hn, hl]
      have hp := Lib.hid (fun W hb => hcw.out (n - 1) (by omega) W hb)
      generalize l.getD (n - 1) (0, 0) = v at hp ⊢
      obtain ⟨m, rfl⟩ : ∃ m, n = m + 1 := ⟨n - 1, by omega⟩
      rw [show m + 1 - 1 = m from rfl] at hp
      have k0 : ((m + 1 : Nat) : Int) = (m : Int) + 1 := by omega
      have k2 : ((m : Int) + 1 == 0) = false := by simp; omega
      have k4 : (m : Int) < (m : Int) + 1 := by omega
      have k5 : (0 : Int) ≤ m := by omega
      have k6 : m < m + 1 := by omega
      have k7 : (m : Int) ≤ 8 := by omega
      have k3 : IntKind.i64.wrap ((m : Int) + 1 - 1) = m := by rw [show (m : Int) + 1 - 1 = m by omega]; exact IntWalk.i64_in _ (by omega)
      rw [k0] at HC
      clear hS hC hl hl1 hle h0 hlo hhi hl2 hcw hn k0
      go_enter Try.func83, Try.ntmps83
      go_wp2_with (go_at_call 104; ((with_reducible refine HC.out.mono ?_); rintro e w1 ⟨rfl, hb⟩; obtain ⟨hc1, hf1⟩ := bcell hb; have hz : w.heap.size + 1 < w1.heap.size := (by have := hb.size; simp at this; omega); have hbW := B_trans hb2'.out hb; have hbb : b < w1.heap.size := (by omega); obtain ⟨-, q2⟩ := hp.out w1 hbW; clear hbW))
      go_ret
      exact ⟨rfl, B_trans hb2'.out hb⟩
    · rw [if_neg hn]
      have hj1 := posN_lt l x (posN l x - 1) (by omega)
      have hj2 := posN_at l x (by omega)
      have hup := hC.up (posN l x - 1) (by omega)
      have hAa := hC.at_ (posN l x - 1) (by omega)
      have hAb := hC.at_ (posN l x) (by omega)
      have hp := Lib.hid (fun W hb => hcw.out (posN l x - 1) (by omega) W hb)
      have hq := Lib.hid (fun W hb => hcw.out (posN l x) (by omega) W hb)
      rw [show posN l x - 1 + 1 = posN l x by omega] at hup
      generalize l.getD (posN l x - 1) (0, 0) = va at hp hj1 hup hAa ⊢
      generalize l.getD (posN l x) (0, 0) = vb at hq hj2 hup hAb ⊢
      have hibd := interp_bd hj1 hj2 hup.2
      generalize hpj : posN l x = pj at HC hp hq h0 hn hle
      obtain ⟨j, rfl⟩ : ∃ j, pj = j + 1 := ⟨pj - 1, by omega⟩
      rw [show j + 1 - 1 = j from rfl] at hp
      obtain ⟨a1, a2⟩ := va
      obtain ⟨b1, b2⟩ := vb
      simp only at hp hq hj1 hj2 hup hAa hAb
      have k0 : ((j + 1 : Nat) : Int) = (j : Int) + 1 := by omega
      rw [k0] at HC
      have k1 : ((j : Int) + 1 == 0) = false := by simp; omega
      have k2 : ((j : Int) + 1 == n) = false := by simp; omega
      have k3 : (0 : Int) ≤ j := by omega
      have k4 : (j : Int) + 1 < n := by omega
      have k5 : (j : Int) < n := by omega
      have k6 : (n : Int) ≤ 8 := by omega
      have k7 : (0 : Int) ≤ (j : Int) + 1 := by omega
      have k8 : ((j : Int) + 1).toNat = j + 1 := by omega
      have k9 : IntKind.i64.wrap ((j : Int) + 1 - 1) = j := by rw [show (j : Int) + 1 - 1 = j by omega]; exact IntWalk.i64_in _ (by omega)
      have k10 : IntKind.i64.wrap (j : Int) = j := IntWalk.i64_in _ (by omega)
      unfold interp at hibd ⊢
      simp only at hibd ⊢
      clear hS hC hl hl1 hle h0 hl2 hcw hn k0 hpj
      go_enter Try.func83, Try.ntmps83
      go_wp2_with (go_at_call 104; ((with_reducible refine HC.out.mono ?_); rintro e w1 ⟨rfl, hb⟩; obtain ⟨hc1, hf1⟩ := bcell hb; have hz : w.heap.size + 1 < w1.heap.size := (by have := hb.size; simp at this; omega); have hbW := Lib.hid (B_trans hb2'.out hb); have hbb : b < w1.heap.size := (by omega); obtain ⟨q1, q2⟩ := hp.out w1 hbW.out; obtain ⟨q3, q4⟩ := hq.out w1 hbW.out; have e1 : w1.cell? ⟨w.heap.size, 0, none⟩ = some (.slice (some ⟨b, o, none⟩) n c) := (by rw [hc1 _ _ (by simp; omega)]; simp [go_sem]); have e2 : w1.cell? ⟨w.heap.size + 1, 0, none⟩ = some (.int .i64 x) := (by rw [hc1 _ _ (by simp)]; simp [go_sem]); have hz0 : w.heap.size < w1.heap.size := (by omega); have hz1 : w.heap.size < w1.heap.size + 1 := (by omega); have hbb1 : b < w1.heap.size + 1 := (by omega); clear hc1 hf1))
      go_cut [6, 7] (fun a b wx => ∃ ga gb : Nat, a = .pointer (some ⟨ga, 0, none⟩) ∧ b = .pointer (some ⟨gb, 0, none⟩) ∧ wx.cell? ⟨ga, 0, none⟩ = some (.int .i64 a1) ∧ wx.cell? ⟨ga, 1, none⟩ = some (.int .i64 a2) ∧ wx.cell? ⟨gb, 0, none⟩ = some (.int .i64 b1) ∧ wx.cell? ⟨gb, 1, none⟩ = some (.int .i64 b2) ∧ ga < wx.heap.size ∧ gb < wx.heap.size ∧ Below w1.heap.size w1 wx)
      case first =>
        go_region
        all_goals go_wp2_with fail
        all_goals go_meet
        · exact ⟨w1.heap.size, w1.heap.size + 1, rfl, rfl, by simp, by simp, by simp, by simp, by first | (simp; done) | (simp; omega), by first | (simp; done) | (simp; omega), (B_alloc (B_alloc (Below.refl _ _) _) _).drew⟩
        · exact ⟨w1.heap.size + 1, w1.heap.size, rfl, rfl, by simp, by simp, by simp, by simp, by first | (simp; done) | (simp; omega), by first | (simp; done) | (simp; omega), (B_alloc (B_alloc (Below.refl _ _) _) _).drew⟩
      case rest =>
        obtain ⟨ga, gb, rfl, rfl, m1, m2, m3, m4, hga, hgb, hb1⟩ := hcut
        have e2' : wc.cell? ⟨w.heap.size + 1, 0, none⟩ = some (.int .i64 x) := (hb1.cell (p := ⟨w.heap.size + 1, 0, none⟩) (by show w.heap.size + 1 < _; omega)).trans e2
        have hnn : 0 ≤ (b2 - a2) * (x - a1) := Int.mul_nonneg (by omega) (by omega)
        have hnb : (b2 - a2) * (x - a1) ≤ 1000 * 200000 := Int.mul_le_mul (by omega) (by omega) (by omega) (by omega)
        have u1 : IntKind.i64.wrap (b2 - a2) = b2 - a2 := IntWalk.i64_in _ (by omega)
        have u2 : IntKind.i64.wrap (x - a1) = x - a1 := IntWalk.i64_in _ (by omega)
        have u3 : IntKind.i64.wrap ((b2 - a2) * (x - a1)) = (b2 - a2) * (x - a1) := IntWalk.i64_in _ (by omega)
        have u4 : IntKind.i64.wrap (b1 - a1) = b1 - a1 := IntWalk.i64_in _ (by omega)
        have u5 : ((b2 - a2) * (x - a1)).tdiv (b1 - a1) = (b2 - a2) * (x - a1) / (b1 - a1) := Int.tdiv_eq_ediv_of_nonneg hnn
        have hquo : 0 ≤ (b2 - a2) * (x - a1) / (b1 - a1) := by omega
        have u6 : IntKind.i64.wrap ((b2 - a2) * (x - a1) / (b1 - a1)) = (b2 - a2) * (x - a1) / (b1 - a1) := IntWalk.i64_in _ (by omega)
        have u7 : IntKind.i64.wrap (a2 + (b2 - a2) * (x - a1) / (b1 - a1)) = a2 + (b2 - a2) * (x - a1) / (b1 - a1) := IntWalk.i64_in _ (by omega)
        have u8 : ¬ b1 - a1 = 0 := by omega
        go_wp2_with fail
        go_quiet (fail)
        go_wp2
        go_ret
        exact ⟨rfl, below_drewN (B_trans hbW.out hb1) _⟩
end Go.Proofs.Ytanjkhclhcnnaaa
/- Strengths; what can follow a level. -/
namespace Go.Proofs.Ytanjkhclhcnnaaa
open Go.RowKit Go.Shelf

/-- What stays while memory is made: two cells of one block. -/
theorem ks_b {w W : World} {p q : Prop} (h : p ∧ q ∧ Below w.heap.size w W) : Below w.heap.size w W := h.2.2
theorem ks_step {w W W1 : World} {B i j : Nat} {x y : Value} (hB : B < w.heap.size) (h : W.cell? ⟨B, i, none⟩ = some x ∧ W.cell? ⟨B, j, none⟩ = some y ∧ Below w.heap.size w W) (hb : Below W.heap.size W W1) :
    W1.cell? ⟨B, i, none⟩ = some x ∧ W1.cell? ⟨B, j, none⟩ = some y ∧ Below w.heap.size w W1 :=
  have hs := Nat.lt_of_lt_of_le hB h.2.2.size
  ⟨(hb.cell (p := ⟨B, i, none⟩) hs).trans h.1, (hb.cell (p := ⟨B, j, none⟩) hs).trans h.2.1, B_trans h.2.2 hb⟩

set_option maxHeartbeats 4000000 in
theorem strength1_any (r : RuA) (hs ws : List T2) (a b : Int) (B : Nat) (w : World) (hR : RuR w r hs ws) (hO : RuOK r hs ws)
    (c0 : w.cell? ⟨B, 0, none⟩ = some (.slice r.ha r.hn r.hc)) (c1 : w.cell? ⟨B, 1, none⟩ = some (.slice r.wa r.wn r.wc)) (hB : B < w.heap.size) :
    Calls Try.prog 82 #[.int .i64 a, .int .i64 b, .pointer (some ⟨B, 0, none⟩)] w fun e w' => e = .returned (.int .i64 (strengthS hs ws a b)) ∧ Below w.heap.size w w' := by
  have H1 := Lib.hid (fun W (h : Below w.heap.size w W) => factor_any hs r.ha r.hn r.hc a (-300) 600 W (hR.h.below h) hO.h (by omega) (by omega))
  have H2 := Lib.hid (fun W (h : Below w.heap.size w W) => factor_any ws r.wa r.wn r.wc b 0 1000 W (hR.w.below h) hO.w (by omega) (by omega))
  have h1 := hO.h.factor_bd a
  have h2 := hO.w.factor_bd b
  have h3 := Int.mul_nonneg h1.1 h2.1
  have h4 : factorS hs a * factorS ws b ≤ 1000 * 1000 := Int.mul_le_mul h1.2 h2.2 h2.1 (by omega)
  unfold strengthS
  generalize factorS hs a = p at H1 h1 h3 h4 ⊢
  generalize factorS ws b = q at H2 h2 h3 h4 ⊢
  have u1 : IntKind.i64.wrap (p * q) = p * q := IntWalk.i64_in _ (by omega)
  have u2 : (p * q).tdiv 1000 = p * q / 1000 := Int.tdiv_eq_ediv_of_nonneg h3
  have u3 : IntKind.i64.wrap (p * q / 1000) = p * q / 1000 := IntWalk.i64_in _ (by omega)
  have hbl : Below w.heap.size w w := Below.refl _ _
  clear hR hO
  go_enter Try.func82, Try.ntmps82
  go_wp2
  go_region_held3 (fun w' => w'.cell? ⟨B, 0, none⟩ = some (.slice r.ha r.hn r.hc) ∧ w'.cell? ⟨B, 1, none⟩ = some (.slice r.wa r.wn r.wc) ∧ Below w.heap.size w w') (first | exact ⟨c0, c1, hbl.drew⟩ | exact ks_step hB (by assumption) (by assumption)) (first | (go_at_call 83; ((with_reducible refine (H1.out _ (ks_b (by assumption))).mono ?_); rintro e w1 ⟨rfl, hb1⟩)) | (go_at_call 83; ((with_reducible refine (H2.out _ (ks_b (by assumption))).mono ?_); rintro e w1 ⟨rfl, hb1⟩)))
  all_goals go_wp2_with fail
  all_goals go_ret
  all_goals exact ⟨rfl, ks_b (by assumption)⟩
end Go.Proofs.Ytanjkhclhcnnaaa
/- Regions that read cells, call what makes memory, and end in a store of a span. -/
namespace Go.Proofs.Ytanjkhclhcnnaaa
open Go.RowKit Go.Shelf

/-- A block that holds a span. -/
structure SpB (T : Nat) (W : World) : Prop where
  lt : T < W.heap.size
  c0 : ∃ x, W.cell? ⟨T, 0, none⟩ = some (.int .i64 x)
  c1 : ∃ x, W.cell? ⟨T, 1, none⟩ = some (.int .i64 x)
  f0 : W.frozen? ⟨T, 0, none⟩ = false
  f1 : W.frozen? ⟨T, 1, none⟩ = false
def spv (T j : Nat) (W : World) : Int := match W.cell? ⟨T, j, none⟩ with | some (.int _ n) => n | _ => 0
theorem SpB.v0 {T : Nat} {W : World} (h : SpB T W) : W.cell? ⟨T, 0, none⟩ = some (.int .i64 (spv T 0 W)) := by
  obtain ⟨x, hx⟩ := h.c0; unfold spv; rw [hx]
theorem SpB.v1 {T : Nat} {W : World} (h : SpB T W) : W.cell? ⟨T, 1, none⟩ = some (.int .i64 (spv T 1 W)) := by
  obtain ⟨x, hx⟩ := h.c1; unfold spv; rw [hx]
theorem SpB.drew {T : Nat} {W : World} (h : SpB T W) : SpB T W.drew := ⟨h.lt, h.c0, h.c1, h.f0, h.f1⟩
theorem SpB.below {T : Nat} {W W1 : World} (h : SpB T W) (hb : Below W.heap.size W W1) : SpB T W1 :=
  ⟨Nat.lt_of_lt_of_le h.lt hb.size, let ⟨x, hx⟩ := h.c0; ⟨x, (hb.cell (p := ⟨T, 0, none⟩) h.lt).trans hx⟩, let ⟨x, hx⟩ := h.c1; ⟨x, (hb.cell (p := ⟨T, 1, none⟩) h.lt).trans hx⟩, (hb.frozen (p := ⟨T, 0, none⟩) h.lt).trans h.f0, (hb.frozen (p := ⟨T, 1, none⟩) h.lt).trans h.f1⟩
theorem set_same {W : World} {a : Addr} {u v : Value} (h : W.cell? a = some u) : (W.setCell a v).cell? a = some v := World.cell?_setCell_same' _ _ _ (by rw [h]; rfl)
theorem SpB.set0 {T : Nat} {W : World} (h : SpB T W) (x : Int) : SpB T (W.setCell ⟨T, 0, none⟩ (.int .i64 x)) ∧ (W.setCell ⟨T, 0, none⟩ (.int .i64 x)).cell? ⟨T, 0, none⟩ = some (.int .i64 x) ∧ (W.setCell ⟨T, 0, none⟩ (.int .i64 x)).cell? ⟨T, 1, none⟩ = W.cell? ⟨T, 1, none⟩ := by
  have e0 := set_same (v := .int .i64 x) h.v0
  have e1 : (W.setCell ⟨T, 0, none⟩ (.int .i64 x)).cell? ⟨T, 1, none⟩ = W.cell? ⟨T, 1, none⟩ := World.cell?_setCell_other _ _ _ _ (by simp)
  exact ⟨⟨by simpa using h.lt, ⟨x, e0⟩, by rw [e1]; exact h.c1, by rw [World.frozen?_setCell]; exact h.f0, by rw [World.frozen?_setCell]; exact h.f1⟩, e0, e1⟩
theorem SpB.set1 {T : Nat} {W : World} (h : SpB T W) (x : Int) : SpB T (W.setCell ⟨T, 1, none⟩ (.int .i64 x)) ∧ (W.setCell ⟨T, 1, none⟩ (.int .i64 x)).cell? ⟨T, 1, none⟩ = some (.int .i64 x) ∧ (W.setCell ⟨T, 1, none⟩ (.int .i64 x)).cell? ⟨T, 0, none⟩ = W.cell? ⟨T, 0, none⟩ := by
  have e0 := set_same (v := .int .i64 x) h.v1
  have e1 : (W.setCell ⟨T, 1, none⟩ (.int .i64 x)).cell? ⟨T, 0, none⟩ = W.cell? ⟨T, 0, none⟩ := World.cell?_setCell_other _ _ _ _ (by simp)
  exact ⟨⟨by simpa using h.lt, by rw [e1]; exact h.c0, ⟨x, e0⟩, by rw [World.frozen?_setCell]; exact h.f0, by rw [World.frozen?_setCell]; exact h.f1⟩, e0, e1⟩

/-- Cells that stay, a block that holds a span and may be written, and all else as before. -/
structure HH (l : List (Nat × Nat × Value)) (T : Nat) (w W : World) : Prop where
  c : ∀ p ∈ l, W.cell? ⟨p.1, p.2.1, none⟩ = some p.2.2 ∧ p.1 < W.heap.size ∧ p.1 ≠ T
  t : SpB T W
  b : Below w.heap.size w W
  le : w.heap.size ≤ T
theorem HH.at {l : List (Nat × Nat × Value)} {T : Nat} {w W : World} (h : HH l T w W) {b o : Nat} {v : Value} (i : Nat) (hi : l[i]? = some (b, o, v)) : W.cell? ⟨b, o, none⟩ = some v := (h.c (b, o, v) (List.mem_of_getElem? hi)).1
theorem HH.drew {l : List (Nat × Nat × Value)} {T : Nat} {w W : World} (h : HH l T w W) : HH l T w W.drew := ⟨h.c, h.t.drew, h.b.drew, h.le⟩
theorem HH.below {l : List (Nat × Nat × Value)} {T : Nat} {w W W1 : World} (h : HH l T w W) (hb : Below W.heap.size W W1) : HH l T w W1 :=
  ⟨fun p hp => by obtain ⟨a, b, c⟩ := h.c p hp; exact ⟨(hb.cell (p := ⟨p.1, p.2.1, none⟩) b).trans a, Nat.lt_of_lt_of_le b hb.size, c⟩, h.t.below hb, B_trans h.b hb, h.le⟩
theorem HH.set {l : List (Nat × Nat × Value)} {T : Nat} {w W : World} (h : HH l T w W) (x y : Int) : HH l T w ((W.setCell ⟨T, 0, none⟩ (.int .i64 x)).setCell ⟨T, 1, none⟩ (.int .i64 y)) := by
  refine ⟨fun p hp => ?_, ((h.t.set0 x).1.set1 y).1, (h.b.setCell h.le _).setCell h.le _, h.le⟩
  obtain ⟨a, b, c⟩ := h.c p hp
  refine ⟨?_, by simpa using b, c⟩
  rw [World.cell?_setCell_other _ _ _ _ (by intro e; exact c (by injection e with e1; exact e1.symm)), World.cell?_setCell_other _ _ _ _ (by intro e; exact c (by injection e with e1; exact e1.symm))]
  exact a
theorem HH.out0 {l : List (Nat × Nat × Value)} {T : Nat} {w W : World} (h : HH l T w W) (x y : Int) : ((W.setCell ⟨T, 0, none⟩ (.int .i64 x)).setCell ⟨T, 1, none⟩ (.int .i64 y)).cell? ⟨T, 0, none⟩ = some (.int .i64 x) ∧ ((W.setCell ⟨T, 0, none⟩ (.int .i64 x)).setCell ⟨T, 1, none⟩ (.int .i64 y)).cell? ⟨T, 1, none⟩ = some (.int .i64 y) := by
  obtain ⟨h0, e0, -⟩ := h.t.set0 x
  obtain ⟨-, e1, e2⟩ := h0.set1 y
  exact ⟨e2.trans e0, e1⟩

theorem hh5 {p q r s t : Prop} (h : p ∧ q ∧ r ∧ s ∧ t) : t := h.2.2.2.2

set_option maxHeartbeats 4000000 in
theorem strength_any (r : RuA) (hs ws : List T2) (a b c d : Int) (w : World) (hR : RuR w r hs ws) (hO : RuOK r hs ws) :
    Calls Try.prog 61 #[.agg r.cs, .agg #[.int .i64 a, .int .i64 b, .int .i64 c, .int .i64 d]] w fun e w' => e = .returned (.agg #[.int .i64 (strengthS hs ws a c), .int .i64 (strengthS hs ws b d)]) ∧ Below w.heap.size w w' := by
  have hb0 : Below w.heap.size w (w.alloc (.cells r.cs 96)) := B_alloc (Below.refl _ _) _
  obtain ⟨W3, hW3⟩ : ∃ W3, (((w.alloc (.cells r.cs 96)).alloc (.cells #[.int .i64 a, .int .i64 b, .int .i64 c, .int .i64 d] 39)).alloc (.cells #[.int .i64 0, .int .i64 0] 28)) = W3 := ⟨_, rfl⟩
  have hb3 : Below w.heap.size w W3 := by rw [← hW3]; exact B_alloc (B_alloc hb0 _) _
  have z : W3.heap.size = w.heap.size + 1 + 1 + 1 := by rw [← hW3]; simp
  have b0 : W3.cell? ⟨w.heap.size, 0, none⟩ = some (.slice r.ha r.hn r.hc) := by rw [← hW3, alloc_old _ _ _ _ (by simp; omega), alloc_old _ _ _ _ (by simp)]; simp [go_sem]
  have b1 : W3.cell? ⟨w.heap.size, 1, none⟩ = some (.slice r.wa r.wn r.wc) := by rw [← hW3, alloc_old _ _ _ _ (by simp; omega), alloc_old _ _ _ _ (by simp)]; simp [go_sem]
  have d0 : W3.cell? ⟨w.heap.size + 1, 0, none⟩ = some (.int .i64 a) := by rw [← hW3, alloc_old _ _ _ _ (by simp)]; simp [go_sem]
  have d1 : W3.cell? ⟨w.heap.size + 1, 1, none⟩ = some (.int .i64 b) := by rw [← hW3, alloc_old _ _ _ _ (by simp)]; simp [go_sem]
  have d2 : W3.cell? ⟨w.heap.size + 1, 2, none⟩ = some (.int .i64 c) := by rw [← hW3, alloc_old _ _ _ _ (by simp)]; simp [go_sem]
  have d3 : W3.cell? ⟨w.heap.size + 1, 3, none⟩ = some (.int .i64 d) := by rw [← hW3, alloc_old _ _ _ _ (by simp)]; simp [go_sem]
  have tt : SpB (w.heap.size + 1 + 1) W3 := by
    rw [← hW3]
    exact ⟨by simp, ⟨0, by simp [go_sem]⟩, ⟨0, by simp [go_sem]⟩, by simp [go_sem], by simp [go_sem]⟩
  have h0 : HH [(w.heap.size, 0, .slice r.ha r.hn r.hc), (w.heap.size, 1, .slice r.wa r.wn r.wc), (w.heap.size + 1, 0, .int .i64 a), (w.heap.size + 1, 1, .int .i64 b), (w.heap.size + 1, 2, .int .i64 c), (w.heap.size + 1, 3, .int .i64 d)] (w.heap.size + 1 + 1) w W3 := by
    refine ⟨fun p hp => ?_, tt, hb3, by omega⟩
    simp only [List.mem_cons, List.not_mem_nil, or_false] at hp
    rcases hp with rfl | rfl | rfl | rfl | rfl | rfl
    · exact ⟨b0, by rw [z]; simp; omega, by simp; omega⟩
    · exact ⟨b1, by rw [z]; simp; omega, by simp; omega⟩
    · exact ⟨d0, by rw [z]; simp, by simp⟩
    · exact ⟨d1, by rw [z]; simp, by simp⟩
    · exact ⟨d2, by rw [z]; simp, by simp⟩
    · exact ⟨d3, by rw [z]; simp, by simp⟩
  clear b0 b1 d0 d1 d2 d3 tt z hb3 hb0
  generalize hl : ([(w.heap.size, 0, .slice r.ha r.hn r.hc), (w.heap.size, 1, .slice r.wa r.wn r.wc), (w.heap.size + 1, 0, .int .i64 a), (w.heap.size + 1, 1, .int .i64 b), (w.heap.size + 1, 2, .int .i64 c), (w.heap.size + 1, 3, .int .i64 d)] : List (Nat × Nat × Value)) = l at h0
  have H1 := Lib.hid (fun W (h : HH l (w.heap.size + 1 + 1) w W) => strength1_any r hs ws a c w.heap.size W (hR.below h.b) hO (h.at 0 (by rw [← hl]; rfl)) (h.at 1 (by rw [← hl]; rfl)) (h.c (w.heap.size, 0, .slice r.ha r.hn r.hc) (by rw [← hl]; simp)).2.1)
  have H2 := Lib.hid (fun W (h : HH l (w.heap.size + 1 + 1) w W) => strength1_any r hs ws b d w.heap.size W (hR.below h.b) hO (h.at 0 (by rw [← hl]; rfl)) (h.at 1 (by rw [← hl]; rfl)) (h.c (w.heap.size, 0, .slice r.ha r.hn r.hc) (by rw [← hl]; simp)).2.1)
  have HA := Lib.hid (fun W (h : HH l (w.heap.size + 1 + 1) w W) => (show W.cell? ⟨w.heap.size + 1, 0, none⟩ = some (.int .i64 a) ∧ W.cell? ⟨w.heap.size + 1, 1, none⟩ = some (.int .i64 b) ∧ W.cell? ⟨w.heap.size + 1, 2, none⟩ = some (.int .i64 c) ∧ W.cell? ⟨w.heap.size + 1, 3, none⟩ = some (.int .i64 d) ∧ HH l (w.heap.size + 1 + 1) w W from ⟨h.at 2 (by rw [← hl]; rfl), h.at 3 (by rw [← hl]; rfl), h.at 4 (by rw [← hl]; rfl), h.at 5 (by rw [← hl]; rfl), h⟩))
  clear hl
  generalize strengthS hs ws a c = p at H1 ⊢
  generalize strengthS hs ws b d = q at H2 ⊢
  have hmf : ∀ (fn : Fn) (first cap : Array Value) (w : World), (Instr.makeFunc fn first cap).run Try.prog w = .ok (.func fn first cap) w := fun _ _ _ _ => rfl
  replace hW3 := Lib.hid hW3
  have v0 : ∀ W, HH l (w.heap.size + 1 + 1) w W → W.cell? ⟨w.heap.size + 1 + 1, 0, none⟩ = some (.int .i64 (spv (w.heap.size + 1 + 1) 0 W)) := fun W h => h.t.v0
  have v1 : ∀ W, HH l (w.heap.size + 1 + 1) w W → W.cell? ⟨w.heap.size + 1 + 1, 1, none⟩ = some (.int .i64 (spv (w.heap.size + 1 + 1) 1 W)) := fun W h => h.t.v1
  have v2 : ∀ W, HH l (w.heap.size + 1 + 1) w W → W.frozen? ⟨w.heap.size + 1 + 1, 0, none⟩ = false := fun W h => h.t.f0
  have v3 : ∀ W, HH l (w.heap.size + 1 + 1) w W → W.frozen? ⟨w.heap.size + 1 + 1, 1, none⟩ = false := fun W h => h.t.f1
  clear hR hO
  go_enter Try.func61, Try.ntmps61
  go_wp2
  rw [hW3.out]
  clear hW3
  go_region_held3 (fun W => W.cell? ⟨w.heap.size + 1, 0, none⟩ = some (.int .i64 a) ∧ W.cell? ⟨w.heap.size + 1, 1, none⟩ = some (.int .i64 b) ∧ W.cell? ⟨w.heap.size + 1, 2, none⟩ = some (.int .i64 c) ∧ W.cell? ⟨w.heap.size + 1, 3, none⟩ = some (.int .i64 d) ∧ HH l (w.heap.size + 1 + 1) w W) (first | exact HA.out _ h0.drew | exact HA.out _ (HH.below (hh5 (by assumption)) (by assumption)) | exact HA.out _ (HH.set (hh5 (by assumption)) _ _)) (first | (go_at_call 82; ((with_reducible refine (H1.out _ (hh5 (by assumption))).mono ?_); rintro e w1 ⟨rfl, hb1⟩)) | (go_at_call 82; ((with_reducible refine (H2.out _ (hh5 (by assumption))).mono ?_); rintro e w1 ⟨rfl, hb1⟩)))
  have hw1 := (h0.drew.below (by assumption)).below hb1
  obtain ⟨o0, o1⟩ := hw1.out0 p q
  have hset := hw1.set p q
  clear v0 v1 v2 v3 HA H1 H2 h0 hw1
  generalize (w1.setCell ⟨w.heap.size + 1 + 1, 0, none⟩ (.int .i64 p)).setCell ⟨w.heap.size + 1 + 1, 1, none⟩ (.int .i64 q) = W at *
  have hB := hset.b
  clear hset
  go_wp2_with fail
  exact bodyPost_ret (v := .agg #[.int .i64 p, .int .i64 q]) (by simp [results, Try.results61, go_sem, o0, o1]) rfl ⟨rfl, hB⟩
end Go.Proofs.Ytanjkhclhcnnaaa
/- gain, least, most. -/
namespace Go.Proofs.Ytanjkhclhcnnaaa
open Go.RowKit Go.Shelf

set_option maxHeartbeats 2000000 in
theorem gain_any (r : RuA) (hs ws : List T2) (n s : Int) (w : World) (hO : RuOK r hs ws) (h1 : 0 ≤ n) (h2 : n ≤ 1000000) (h3 : 0 ≤ s) (h4 : s ≤ 1000) :
    Calls Try.prog 106 #[.agg r.cs, .int .i64 n, .int .i64 s] w fun e w' => e = .returned (.int .i64 (gainS r n s)) ∧ Below w.heap.size w w' := by
  obtain ⟨g1, g2, g3, g4⟩ := hO.gain_bd h1 h2 h3 h4
  obtain ⟨o1, o2⟩ := hO.own
  unfold gainS at g3 g4 ⊢
  have u1 : IntKind.i64.wrap (r.own * 1000000) = r.own * 1000000 := IntWalk.i64_in _ (by omega)
  have u2 : IntKind.i64.wrap (n * r.feed) = n * r.feed := IntWalk.i64_in _ (by omega)
  have u3 : IntKind.i64.wrap (r.own * 1000000 + n * r.feed) = r.own * 1000000 + n * r.feed := IntWalk.i64_in _ (by omega)
  have u4 : IntKind.i64.wrap ((r.own * 1000000 + n * r.feed) * s) = (r.own * 1000000 + n * r.feed) * s := IntWalk.i64_in _ (by omega)
  clear hO
  go_enter Try.func106, Try.ntmps106
  go_wp2
  go_ret
  exact ⟨ret_int (by first | rfl | simp [u1, u2, u3, u4]), B_alloc (Below.refl _ _) _⟩

set_option maxHeartbeats 2000000 in
theorem least_any (r : RuA) (hs ws : List T2) (n s t : Int) (w : World) (hO : RuOK r hs ws) (h1 : 0 ≤ n) (h2 : n ≤ 1000000) (h3 : 0 ≤ s) (h4 : s ≤ 1000) :
    Calls Try.prog 85 #[.agg r.cs, .agg #[.int .i64 s, .int .i64 t], .int .i64 n] w fun e w' => e = .returned (.int .i64 (leastS r s n)) ∧ Below w.heap.size w w' := by
  obtain ⟨-, -, g3, g4⟩ := hO.gain_bd h1 h2 h3 h4
  have HC := Lib.hid (fun W => gain_any r hs ws n s W hO h1 h2 h3 h4)
  unfold leastS
  generalize gainS r n s = g at g3 g4 HC ⊢
  have hb : Below w.heap.size w ((w.alloc (.cells r.cs 96)).alloc (.cells #[.int .i64 s, .int .i64 t] 28)) := B_alloc (B_alloc (Below.refl _ _) _) _
  replace hb := Lib.hid hb
  have d1 : g.tdiv 1000000000 = g / 1000000000 := Int.tdiv_eq_ediv_of_nonneg g3
  have d2 : 0 ≤ g / 1000000000 := by omega
  have d3 : g / 1000000000 ≤ 2000000 := by omega
  have u1 : IntKind.i64.wrap (n + g / 1000000000) = n + g / 1000000000 := IntWalk.i64_in _ (by omega)
  clear hO
  go_enter Try.func85, Try.ntmps85
  go_wp2_with (go_at_call 106; ((with_reducible refine (HC.out _).mono ?_); rintro e w1 ⟨rfl, hb1⟩))
  all_goals go_ret
  all_goals exact ⟨ret_int (by omega), B_trans hb.out hb1⟩

set_option maxHeartbeats 2000000 in
theorem most_any (r : RuA) (hs ws : List T2) (n s t : Int) (w : World) (hO : RuOK r hs ws) (h1 : 0 ≤ n) (h2 : n ≤ 1000000) (h3 : 0 ≤ s) (h4 : s ≤ 1000) :
    Calls Try.prog 86 #[.agg r.cs, .agg #[.int .i64 t, .int .i64 s], .int .i64 n] w fun e w' => e = .returned (.int .i64 (mostS r s n)) ∧ Below w.heap.size w w' := by
  obtain ⟨-, -, g3, g4⟩ := hO.gain_bd h1 h2 h3 h4
  have HC := Lib.hid (fun W => gain_any r hs ws n s W hO h1 h2 h3 h4)
  unfold mostS
  generalize gainS r n s = g at g3 g4 HC ⊢
  have hb : Below w.heap.size w ((w.alloc (.cells r.cs 96)).alloc (.cells #[.int .i64 t, .int .i64 s] 28)) := B_alloc (B_alloc (Below.refl _ _) _) _
  replace hb := Lib.hid hb
  have e0 : g + 1000000000 - 1 = g + 999999999 := by omega
  have u0 : IntKind.i64.wrap (g + 1000000000) = g + 1000000000 := IntWalk.i64_in _ (by omega)
  have u2 : IntKind.i64.wrap (g + 1000000000 - 1) = g + 999999999 := by rw [e0]; exact IntWalk.i64_in _ (by omega)
  have d1 : (g + 999999999).tdiv 1000000000 = (g + 999999999) / 1000000000 := Int.tdiv_eq_ediv_of_nonneg (by omega)
  have d2 : 0 ≤ (g + 999999999) / 1000000000 := by omega
  have d3 : (g + 999999999) / 1000000000 ≤ 2000000 := by omega
  have u1 : IntKind.i64.wrap (n + (g + 999999999) / 1000000000) = n + (g + 999999999) / 1000000000 := IntWalk.i64_in _ (by omega)
  clear hO
  go_enter Try.func86, Try.ntmps86
  go_wp2_with (go_at_call 106; ((with_reducible refine (HC.out _).mono ?_); rintro e w1 ⟨rfl, hb1⟩))
  all_goals go_ret
  all_goals exact ⟨ret_int (by omega), B_trans hb.out hb1⟩
end Go.Proofs.Ytanjkhclhcnnaaa
/- What can follow a level. -/
namespace Go.Proofs.Ytanjkhclhcnnaaa
open Go.RowKit Go.Shelf

theorem hh12 {a b c d e f g i j k l m t : Prop} (h : a ∧ b ∧ c ∧ d ∧ e ∧ f ∧ g ∧ i ∧ j ∧ k ∧ l ∧ m ∧ t) : t := h.2.2.2.2.2.2.2.2.2.2.2.2
theorem cells_mem {cs : Array Value} {t : TypeId} {W : World} {n : Nat} (h : n = W.heap.size) (j : Nat) : (W.alloc (.cells cs t)).cell? ⟨n, j, none⟩ = cs[j]? := World.cell?_alloc_at _ _ _ _ h

set_option maxRecDepth 100000 in
set_option maxHeartbeats 8000000 in
theorem next_any (r : RuA) (hs ws : List T2) (s0 s1 n0 n1 : Int) (w : World) (hO : RuOK r hs ws) (h1 : 0 ≤ n0 ∧ n0 ≤ 1000000) (h2 : 0 ≤ n1 ∧ n1 ≤ 1000000) (h3 : 0 ≤ s0 ∧ s0 ≤ 1000) (h4 : 0 ≤ s1 ∧ s1 ≤ 1000) :
    Calls Try.prog 63 #[.agg r.cs, .agg #[.int .i64 s0, .int .i64 s1], .agg #[.int .i64 n0, .int .i64 n1]] w fun e w' => e = .returned (.agg #[.int .i64 (leastS r s0 n0), .int .i64 (mostS r s1 n1)]) ∧ Below w.heap.size w w' := by
  obtain ⟨W3, hW3⟩ : ∃ W3, ((((w.alloc (.cells r.cs 96)).alloc (.cells #[.int .i64 s0, .int .i64 s1] 28)).alloc (.cells #[.int .i64 n0, .int .i64 n1] 28)).alloc (.cells #[.int .i64 0, .int .i64 0] 28)) = W3 := ⟨_, rfl⟩
  have hb3 : Below w.heap.size w W3 := by rw [← hW3]; exact B_alloc (B_alloc (B_alloc (B_alloc (Below.refl _ _) _) _) _) _
  have z : W3.heap.size = w.heap.size + 1 + 1 + 1 + 1 := by rw [← hW3]; simp
  have cB : ∀ j, W3.cell? ⟨w.heap.size, j, none⟩ = r.cs[j]? := fun j => by rw [← hW3, alloc_old _ _ _ _ (by first | (simp; done) | (simp; omega)), alloc_old _ _ _ _ (by first | (simp; done) | (simp; omega)), alloc_old _ _ _ _ (by simp), cells_mem rfl]
  have cD : ∀ j, W3.cell? ⟨w.heap.size + 1, j, none⟩ = (#[.int .i64 s0, .int .i64 s1] : Array Value)[j]? := fun j => by rw [← hW3, alloc_old _ _ _ _ (by first | (simp; done) | (simp; omega)), alloc_old _ _ _ _ (by simp), cells_mem (by simp)]
  have cE : ∀ j, W3.cell? ⟨w.heap.size + 1 + 1, j, none⟩ = (#[.int .i64 n0, .int .i64 n1] : Array Value)[j]? := fun j => by rw [← hW3, alloc_old _ _ _ _ (by simp), cells_mem (by simp)]
  have tt : SpB (w.heap.size + 1 + 1 + 1) W3 := by
    rw [← hW3]
    exact ⟨by simp, ⟨0, by simp [go_sem]⟩, ⟨0, by simp [go_sem]⟩, by simp [go_sem], by simp [go_sem]⟩
  have h0 : HH [(w.heap.size, 0, .slice r.ha r.hn r.hc), (w.heap.size, 1, .slice r.wa r.wn r.wc), (w.heap.size, 2, .int .i64 r.own), (w.heap.size, 3, .int .i64 r.feed), (w.heap.size, 4, .int .i64 r.g0), (w.heap.size, 5, .int .i64 r.g1), (w.heap.size, 6, .int .i64 r.g2), (w.heap.size, 7, .int .i64 r.lost), (w.heap.size + 1, 0, .int .i64 s0), (w.heap.size + 1, 1, .int .i64 s1), (w.heap.size + 1 + 1, 0, .int .i64 n0), (w.heap.size + 1 + 1, 1, .int .i64 n1)] (w.heap.size + 1 + 1 + 1) w W3 := by
    refine ⟨fun p hp => ?_, tt, hb3, by omega⟩
    simp only [List.mem_cons, List.not_mem_nil, or_false] at hp
    rcases hp with rfl | rfl | rfl | rfl | rfl | rfl | rfl | rfl | rfl | rfl | rfl | rfl
    all_goals first | exact ⟨cB _, by rw [z]; show w.heap.size < _; omega, by show w.heap.size ≠ _; omega⟩ | exact ⟨cD _, by rw [z]; show w.heap.size + 1 < _; omega, by show w.heap.size + 1 ≠ _; omega⟩ | exact ⟨cE _, by rw [z]; show w.heap.size + 1 + 1 < _; omega, by show w.heap.size + 1 + 1 ≠ _; omega⟩
  clear cB cD cE tt z hb3
  generalize hl : ([(w.heap.size, 0, .slice r.ha r.hn r.hc), (w.heap.size, 1, .slice r.wa r.wn r.wc), (w.heap.size, 2, .int .i64 r.own), (w.heap.size, 3, .int .i64 r.feed), (w.heap.size, 4, .int .i64 r.g0), (w.heap.size, 5, .int .i64 r.g1), (w.heap.size, 6, .int .i64 r.g2), (w.heap.size, 7, .int .i64 r.lost), (w.heap.size + 1, 0, .int .i64 s0), (w.heap.size + 1, 1, .int .i64 s1), (w.heap.size + 1 + 1, 0, .int .i64 n0), (w.heap.size + 1 + 1, 1, .int .i64 n1)] : List (Nat × Nat × Value)) = l at h0
  have HA := Lib.hid (fun W (h : HH l (w.heap.size + 1 + 1 + 1) w W) => (show W.cell? ⟨w.heap.size, 0, none⟩ = some (.slice r.ha r.hn r.hc) ∧ W.cell? ⟨w.heap.size, 1, none⟩ = some (.slice r.wa r.wn r.wc) ∧ W.cell? ⟨w.heap.size, 2, none⟩ = some (.int .i64 r.own) ∧ W.cell? ⟨w.heap.size, 3, none⟩ = some (.int .i64 r.feed) ∧ W.cell? ⟨w.heap.size, 4, none⟩ = some (.int .i64 r.g0) ∧ W.cell? ⟨w.heap.size, 5, none⟩ = some (.int .i64 r.g1) ∧ W.cell? ⟨w.heap.size, 6, none⟩ = some (.int .i64 r.g2) ∧ W.cell? ⟨w.heap.size, 7, none⟩ = some (.int .i64 r.lost) ∧ W.cell? ⟨w.heap.size + 1, 0, none⟩ = some (.int .i64 s0) ∧ W.cell? ⟨w.heap.size + 1, 1, none⟩ = some (.int .i64 s1) ∧ W.cell? ⟨w.heap.size + 1 + 1, 0, none⟩ = some (.int .i64 n0) ∧ W.cell? ⟨w.heap.size + 1 + 1, 1, none⟩ = some (.int .i64 n1) ∧ HH l (w.heap.size + 1 + 1 + 1) w W from ⟨h.at 0 (by rw [← hl]; rfl), h.at 1 (by rw [← hl]; rfl), h.at 2 (by rw [← hl]; rfl), h.at 3 (by rw [← hl]; rfl), h.at 4 (by rw [← hl]; rfl), h.at 5 (by rw [← hl]; rfl), h.at 6 (by rw [← hl]; rfl), h.at 7 (by rw [← hl]; rfl), h.at 8 (by rw [← hl]; rfl), h.at 9 (by rw [← hl]; rfl), h.at 10 (by rw [← hl]; rfl), h.at 11 (by rw [← hl]; rfl), h⟩))
  clear hl
  have H1 := Lib.hid (fun W => least_any r hs ws n0 s0 s1 W hO h1.1 h1.2 h3.1 h3.2)
  have H2 := Lib.hid (fun W => most_any r hs ws n1 s1 s0 W hO h2.1 h2.2 h4.1 h4.2)
  generalize leastS r s0 n0 = p at H1 ⊢
  generalize mostS r s1 n1 = q at H2 ⊢
  replace hW3 := Lib.hid hW3
  have v0 : ∀ W, HH l (w.heap.size + 1 + 1 + 1) w W → W.cell? ⟨w.heap.size + 1 + 1 + 1, 0, none⟩ = some (.int .i64 (spv (w.heap.size + 1 + 1 + 1) 0 W)) := fun W h => h.t.v0
  have v1 : ∀ W, HH l (w.heap.size + 1 + 1 + 1) w W → W.cell? ⟨w.heap.size + 1 + 1 + 1, 1, none⟩ = some (.int .i64 (spv (w.heap.size + 1 + 1 + 1) 1 W)) := fun W h => h.t.v1
  have v2 : ∀ W, HH l (w.heap.size + 1 + 1 + 1) w W → W.frozen? ⟨w.heap.size + 1 + 1 + 1, 0, none⟩ = false := fun W h => h.t.f0
  have v3 : ∀ W, HH l (w.heap.size + 1 + 1 + 1) w W → W.frozen? ⟨w.heap.size + 1 + 1 + 1, 1, none⟩ = false := fun W h => h.t.f1
  clear hO h1 h2 h3 h4
  go_enter Try.func63, Try.ntmps63
  go_wp2
  rw [hW3.out]
  clear hW3
  go_region_held3 (fun W => W.cell? ⟨w.heap.size, 0, none⟩ = some (.slice r.ha r.hn r.hc) ∧ W.cell? ⟨w.heap.size, 1, none⟩ = some (.slice r.wa r.wn r.wc) ∧ W.cell? ⟨w.heap.size, 2, none⟩ = some (.int .i64 r.own) ∧ W.cell? ⟨w.heap.size, 3, none⟩ = some (.int .i64 r.feed) ∧ W.cell? ⟨w.heap.size, 4, none⟩ = some (.int .i64 r.g0) ∧ W.cell? ⟨w.heap.size, 5, none⟩ = some (.int .i64 r.g1) ∧ W.cell? ⟨w.heap.size, 6, none⟩ = some (.int .i64 r.g2) ∧ W.cell? ⟨w.heap.size, 7, none⟩ = some (.int .i64 r.lost) ∧ W.cell? ⟨w.heap.size + 1, 0, none⟩ = some (.int .i64 s0) ∧ W.cell? ⟨w.heap.size + 1, 1, none⟩ = some (.int .i64 s1) ∧ W.cell? ⟨w.heap.size + 1 + 1, 0, none⟩ = some (.int .i64 n0) ∧ W.cell? ⟨w.heap.size + 1 + 1, 1, none⟩ = some (.int .i64 n1) ∧ HH l (w.heap.size + 1 + 1 + 1) w W) (first | exact HA.out _ h0.drew | exact HA.out _ (HH.below (hh12 (by assumption)) (by assumption)) | exact HA.out _ (HH.set (hh12 (by assumption)) _ _)) (first | (go_at_call 85; ((with_reducible refine (H1.out _).mono ?_); rintro e w1 ⟨rfl, hb1⟩)) | (go_at_call 86; ((with_reducible refine (H2.out _).mono ?_); rintro e w1 ⟨rfl, hb1⟩)))
  all_goals (
    have hw1 := (h0.drew.below (by assumption)).below hb1
    obtain ⟨o0, o1⟩ := hw1.out0 p q
    have hset := hw1.set p q
    clear v0 v1 v2 v3 HA H1 H2 h0 hw1
    generalize (w1.setCell ⟨w.heap.size + 1 + 1 + 1, 0, none⟩ (.int .i64 p)).setCell ⟨w.heap.size + 1 + 1 + 1, 1, none⟩ (.int .i64 q) = W at *
    have hB := hset.b
    clear hset
    go_wp2_with fail
    exact bodyPost_ret (v := .agg #[.int .i64 p, .int .i64 q]) (by simp [results, Try.results63, go_sem, o0, o1]) rfl ⟨rfl, hB⟩)
end Go.Proofs.Ytanjkhclhcnnaaa
/- Regions that draw their order and turn the world step by step (no order is walked). -/
namespace Go.Proofs.Ytanjkhclhcnnaaa
open Go

section
variable {P : Program} {ops : Array Oper} {Q : Exit → Act → World → Prop} {md : Region.Mode}

theorem ready_unlisted {listed : Array Bool} {i : Nat} (h : i ∈ Region.ready md ops listed) : i < ops.size ∧ listed.getD i true = false := by
  unfold Region.ready at h
  rw [List.mem_filter, Bool.and_eq_true, List.mem_range] at h
  exact ⟨h.1, by simpa using h.2.1⟩

/-- One operation, by what it does alone. -/
def wpOpL (P : Program) (ops : Array Oper) (Q : Exit → Act → World → Prop) (i : Nat) (K : Act → World → Prop) (a : Act) (w : World) : Prop :=
  match ops[i]? with
  | none => K a w
  | some o => if Region.wanted o (yielded ops a.tmps) then o.wp P a w K Q else K (a.put o.dst undef) w
theorem wpOpL_mono {i : Nat} {a : Act} {w : World} {K K' : Act → World → Prop} (h : ∀ a w, K a w → K' a w) (hh : wpOpL P ops Q i K a w) : wpOpL P ops Q i K' a w := by
  unfold wpOpL at *
  split
  · exact h _ _ (by simpa [*] using hh)
  · rename_i o ho
    simp only [ho] at hh
    split
    · rename_i hw; simp only [hw, if_true] at hh; exact Oper.wp_mono h hh
    · rename_i hw; simp only [hw] at hh; exact h _ _ hh
/-- Whatever order is drawn. -/
def wpAll (P : Program) (ops : Array Oper) (Q : Exit → Act → World → Prop) : Nat → Array Bool → Act → World → Prop
  | 0, listed, a, w => Region.ready .any ops listed = [] ∧ Q .normal a w
  | fuel + 1, listed, a, w =>
    (Region.ready .any ops listed = [] → Q .normal a w) ∧
    ∀ i ∈ Region.ready .any ops listed, wpOpL P ops Q i (wpAll P ops Q fuel (listed.setIfInBounds i true)) a w
theorem wpAny_of_all : ∀ {fuel : Nat} {listed : Array Bool} {a : Act} {w : World}, wpAll P ops Q fuel listed a w → wpAny P .any ops Q fuel listed a w
  | 0, _, _, _, h => h
  | fuel + 1, listed, a, w, h => ⟨h.1, fun i hi => by
      have h2 := h.2 i hi
      unfold wpOpL at h2
      unfold wpOp
      split
      · rename_i ho; simp only [ho] at h2; exact wpAny_of_all h2
      · rename_i o ho
        simp only [ho] at h2
        split
        · rename_i hw; simp only [hw, if_true] at h2; exact .inl (Oper.wp_mono (fun a w h => wpAny_of_all h) h2)
        · rename_i hw; simp only [hw] at h2; exact wpAny_of_all h2⟩
/-- In a round of a loop over a function: what an operation does outside it does there too. -/
theorem wpIn_of_wp {o : Oper} {l n : Nat} {a : Act} {w : World} {K : Act → World → Prop} (hd : ∀ c, o.op ≠ .defer c) (h : o.wp P a w K Q) (hr : ∀ row args w', (execOp a.eval o).run P w ≠ .ok (.row row args) w') : o.wpIn (Fence.wide.inRound l) n P a w K Q := by
  refine ⟨fun _ _ => trivial, ?_⟩
  rw [Oper.semAt_eq _ _ _ hd]
  unfold Oper.wp at h
  generalize (execOp a.eval o).run P w = r at *
  match r, h with
  | .ok (.value v) w', h => exact h
  | .ok .skip w', h => exact h
  | .ok (.defer d) w', h => exact h
  | .ok (.enter f args) w', h => exact ⟨(fun (hz : _ = true) => Bool.noConfusion (show false = true from hz)), CallsIn.inRound l (callsIn_wide.2 h)⟩
  | .ok (.row row args) w', _ => exact absurd rfl (hr row args w')
  | .halt (.panic v) w', h => exact h
theorem wpAnyIn_of_all {l n : Nat} (hd : ∀ o ∈ ops.toList, (∀ c, o.op ≠ .defer c) ∧ ∀ ρ w row args w', (execOp ρ o).run P w ≠ .ok (.row row args) w') : ∀ {fuel : Nat} {listed : Array Bool} {a : Act} {w : World}, wpAll P ops Q fuel listed a w → wpAnyIn (Fence.wide.inRound l) n P .any ops Q fuel listed a w
  | 0, _, _, _, h => h
  | fuel + 1, listed, a, w, h => ⟨h.1, fun i hi => by
      have h2 := h.2 i hi
      unfold wpOpL at h2
      unfold wpOpIn
      split
      · rename_i ho; simp only [ho] at h2; exact wpAnyIn_of_all hd h2
      · rename_i o ho
        simp only [ho] at h2
        have hm : o ∈ ops.toList := by rw [Array.mem_toList_iff]; exact Array.mem_of_getElem? ho
        obtain ⟨hd1, hd2⟩ := hd o hm
        split
        · rename_i hw; simp only [hw, if_true] at h2; exact wpIn_of_wp hd1 (Oper.wp_mono (fun a w h => wpAnyIn_of_all hd h) h2) (hd2 _ _)
        · rename_i hw; simp only [hw] at h2; exact ⟨fun _ _ => trivial, wpAnyIn_of_all hd h2⟩⟩

/-- WHAT HOLDS OF THE LISTED, THE FRAME AND THE WORLD AT THE START, AND IS KEPT BY EACH OPERATION THAT IS READY, HOLDS AT THE END. -/
theorem wpAll_inv {I : Array Bool → Act → World → Prop} (hstep : ∀ i listed a w, I listed a w → listed.size = ops.size → i ∈ Region.ready .any ops listed → wpOpL P ops Q i (I (listed.setIfInBounds i true)) a w)
    (hend : ∀ listed a w, I listed a w → listed.size = ops.size → Region.ready .any ops listed = [] → Q .normal a w) :
    ∀ (fuel : Nat) (listed : Array Bool) (a : Act) (w : World), listed.size = ops.size → listed.toList.countP (!·) ≤ fuel → I listed a w → wpAll P ops Q fuel listed a w
  | 0, listed, a, w, hs, hc, hI => by
    have h0 : Region.ready .any ops listed = [] := by
      rw [List.eq_nil_iff_forall_not_mem]
      intro i hi
      obtain ⟨h1, h2⟩ := ready_unlisted hi
      have h3 : i < listed.size := by omega
      have h4 : listed.toList.countP (!·) = 0 := by omega
      rw [List.countP_eq_zero] at h4
      have h5 := h4 listed[i] (by simp)
      rw [Array.getD_eq_getD_getElem?, Array.getElem?_eq_getElem h3, Option.getD_some] at h2
      rw [h2] at h5
      exact h5 rfl
    exact ⟨h0, hend _ _ _ hI hs h0⟩
  | fuel + 1, listed, a, w, hs, hc, hI => by
    refine ⟨fun h => hend _ _ _ hI hs h, fun i hi => wpOpL_mono (fun a' w' h => ?_) (hstep i listed a w hI hs hi)⟩
    obtain ⟨h1, h2⟩ := ready_unlisted hi
    have h3 : i < listed.size := by omega
    rw [Array.getD_eq_getD_getElem?, Array.getElem?_eq_getElem h3, Option.getD_some] at h2
    refine wpAll_inv hstep hend fuel _ a' w' (by simpa using hs) ?_ h
    have e : (listed.setIfInBounds i true).toList = listed.toList.set i true := by simp
    rw [e, List.countP_set (by simpa using h3)]
    simp only [Array.getElem_toList, h2, Bool.not_false, Bool.not_true, if_true, Bool.false_eq_true, if_false]
    omega
theorem wpAll_start {I : Array Bool → Act → World → Prop} {a : Act} {w : World}
    (hstart : I (Array.replicate ops.size false) a w)
    (hstep : ∀ i listed a w, I listed a w → listed.size = ops.size → i ∈ Region.ready .any ops listed → wpOpL P ops Q i (I (listed.setIfInBounds i true)) a w)
    (hend : ∀ listed a w, I listed a w → listed.size = ops.size → Region.ready .any ops listed = [] → Q .normal a w) : wpAll P ops Q ops.size (Array.replicate ops.size false) a w :=
  wpAll_inv hstep hend _ _ _ _ (by simp) (by have := List.countP_le_length (p := (!·)) (l := (Array.replicate ops.size false).toList); simpa using this) hstart

/-- Where each operation waits for earlier ones only, nothing is ready only at the end. -/
theorem ready_nil {listed : Array Bool} (hs : listed.size = ops.size) (he : ∀ i (o : Oper), ops[i]? = some o → ∀ e ∈ o.after, e.on < i) (h : Region.ready md ops listed = []) : ∀ i, i < ops.size → listed.getD i false = true := by
  intro i
  induction i using Nat.strongRecOn with
  | ind i ih =>
    intro hi
    cases hl : listed.getD i false with
    | true => rfl
    | false =>
      have hm : i ∈ Region.ready md ops listed := by
        unfold Region.ready
        rw [List.mem_filter, List.mem_range, Bool.and_eq_true]
        refine ⟨hi, ?_, ?_⟩
        · rw [Array.getD_eq_getD_getElem?, Array.getElem?_eq_getElem (by omega)] at hl ⊢
          simpa using hl
        · rw [Array.getElem?_eq_getElem hi]
          simp only [Option.map_some, Option.getD_some]
          rw [Array.all_eq_true_iff_forall_mem]
          intro e hem
          have hlt := he i ops[i] (Array.getElem?_eq_getElem hi) e hem
          rw [ih e.on hlt (by omega)]
          simp
      rw [h] at hm
      cases hm
end
/-- Slots that hold what x says. -/
def patch (ts : Array Value) (x : Nat → Value) : List Nat → Array Value
  | [] => ts
  | t :: l => (patch ts x l).setIfInBounds t (x t)
def upd (x : Nat → Value) (t : Nat) (v : Value) (s : Nat) : Value := if s = t then v else x s
theorem patch_size (ts : Array Value) (x : Nat → Value) : ∀ l, (patch ts x l).size = ts.size
  | [] => rfl
  | t :: l => by rw [patch, Array.size_setIfInBounds, patch_size ts x l]
theorem patch_get (ts : Array Value) (x : Nat → Value) (s : Nat) : ∀ l, (patch ts x l)[s]? = if s ∈ l ∧ s < ts.size then some (x s) else ts[s]?
  | [] => by simp [patch]
  | t :: l => by
    rw [patch, Array.getElem?_setIfInBounds, patch_size, patch_get ts x s l]
    by_cases h : t = s
    · subst h
      by_cases h2 : t < ts.size
      · simp [h2]
      · simp [h2]
    · have h' : ¬ s = t := fun e => h e.symm
      simp [h, h']
theorem patch_put (ts : Array Value) (x : Nat → Value) (l : List Nat) (t : Nat) (v : Value) (ht : t ∈ l) : (patch ts x l).setIfInBounds t v = patch ts (upd x t v) l := by
  apply Array.ext_getElem?
  intro s
  rw [Array.getElem?_setIfInBounds, patch_size, patch_get, patch_get]
  by_cases h : t = s
  · subst h
    by_cases h2 : t < ts.size
    · simp [h2, ht, upd]
    · simp [h2]
  · have h' : ¬ s = t := fun e => h e.symm
    simp [h, upd, h']
theorem patch_self (ts : Array Value) (l : List Nat) : patch ts (fun t => ts.getD t undef) l = ts := by
  apply Array.ext_getElem?
  intro s
  rw [patch_get]
  by_cases h : s ∈ l ∧ s < ts.size
  · rw [if_pos h, Array.getD_eq_getD_getElem?, Array.getElem?_eq_getElem h.2]
    rfl
  · rw [if_neg h]

theorem dst_inj {α : Type} (f : α → Option Nat) : ∀ (l : List α), (l.filterMap f).Nodup → ∀ (i j : Nat) (a b : α) (t : Nat), l[i]? = some a → l[j]? = some b → f a = some t → f b = some t → i = j
  | [], _, i, j, a, b, t, hi, _, _, _ => by simp at hi
  | c :: l, hn, i, j, a, b, t, hi, hj, ha, hb => by
    have hn' : (l.filterMap f).Nodup := by
      rw [List.filterMap_cons] at hn
      cases hc : f c with
      | none => rw [hc] at hn; exact hn
      | some u => rw [hc] at hn; exact (List.nodup_cons.1 hn).2
    have key : ∀ (k : Nat) (d : α), l[k]? = some d → f d = some t → f c = some t → False := fun k d hk hd hc => by
      rw [List.filterMap_cons, hc] at hn
      exact (List.nodup_cons.1 hn).1 (List.mem_filterMap.2 ⟨d, List.mem_of_getElem? hk, hd⟩)
    cases i with
    | zero =>
      cases j with
      | zero => rfl
      | succ j =>
        simp at hi hj
        subst hi
        exact (key j b hj hb ha).elim
    | succ i =>
      cases j with
      | zero =>
        simp at hi hj
        subst hj
        exact (key i a hi ha hb).elim
      | succ j =>
        simp at hi hj
        rw [dst_inj f l hn' i j a b t hi hj ha hb]

section
variable {P : Program} {ops : Array Oper} {Q : Exit → Act → World → Prop} {a0 : Act} {I : Nat → (Nat → Value) → World → Prop} {V : (Nat → Value) → Nat → Value} {eff : Nat → Bool} {need till : Nat → Nat} {m : Nat}

/-- The frame in which the region's slots hold what x says. -/
def flowAct (a0 : Act) (ops : Array Oper) (x : Nat → Value) : Act := ⟨patch a0.tmps x (ops.toList.filterMap (·.dst)), a0.defers⟩
/-- The slots that the region writes; those of them that an operation reads. -/
def dstsOf (ops : Array Oper) : List Nat := ops.toList.filterMap (·.dst)
def readsOf (ops : Array Oper) (o : Oper) : List Nat := (o.op.operands.toList.filterMap fun | .tmp t => some t | _ => none).filter fun t => (dstsOf ops).contains t
/-- Each slot of the region's that an operation reads is one that it waits for. -/
def readsBound (ops : Array Oper) : Bool := ops.toList.all fun o => (readsOf ops o).all fun t => o.after.any fun e => Region.binds .any e && ((ops[e.on]?).bind (·.dst) == some t)
theorem flow_eval (x : Nat → Value) (t : Nat) (ht : (dstsOf ops).contains t = true) (hs : t < a0.tmps.size) : (flowAct a0 ops x).eval (.tmp t) = x t := by
  unfold flowAct Act.eval
  simp only
  rw [Array.getD_eq_getD_getElem?, patch_get, if_pos ⟨by simpa [dstsOf] using ht, hs⟩]
  rfl
theorem flow_else (x : Nat → Value) (t : Nat) (ht : (dstsOf ops).contains t = false) : (flowAct a0 ops x).eval (.tmp t) = a0.tmps.getD t undef := by
  have h : ¬ (t ∈ ops.toList.filterMap (·.dst) ∧ t < a0.tmps.size) := fun h => by
    have h1 : (dstsOf ops).contains t = true := by simpa [dstsOf] using h.1
    rw [ht] at h1; cases h1
  unfold flowAct Act.eval
  simp only
  rw [Array.getD_eq_getD_getElem?, patch_get, if_neg h, Array.getD_eq_getD_getElem?]

/-- Does an operation wait for another one? -/
def waitsFor (o : Oper) (j : Nat) : Bool := o.after.any fun e => Region.binds .any e && e.on == j
/-- What must have turned before an operation runs has turned by what it waits for. -/
def needOK (ops : Array Oper) (eff : Nat → Bool) (need : Nat → Nat) : Bool := (List.range ops.size).all fun i => need i == 0 || ((ops[i]?).map fun o => (List.range ops.size).any fun j => waitsFor o j && (if eff j then decide (need i ≤ need j + 1) else decide (need i ≤ need j))).getD false
/-- What must not have turned yet waits for it. -/
def tillOK (ops : Array Oper) (eff : Nat → Bool) (need till : Nat → Nat) (m : Nat) : Bool := (List.range ops.size).all fun i => (if eff i then decide (need i < m) && till i == need i else true) && (decide (m ≤ till i) || (eff i && till i == need i) || (List.range ops.size).any fun j => eff j && need j == till i && ((ops[j]?).map fun o => waitsFor o i).getD false)
/-- Those that turn something come one after another, m of them. -/
def effOK (ops : Array Oper) (eff : Nat → Bool) (need : Nat → Nat) (m : Nat) : Bool := ((List.range ops.size).all fun i => (List.range ops.size).all fun j => i == j || !eff i || !eff j || need i != need j) && (m == 0 || (List.range ops.size).any fun i => eff i && need i + 1 == m)

/-- What an operation's run owes. -/
def StepOut (P : Program) (I : Nat → (Nat → Value) → World → Prop) (V : (Nat → Value) → Nat → Value) (k : Nat) (outs : Nat → Value) (o : Oper) (w : World) : Bool → Result Next → Prop
  | false, .ok (.value v) w' => w' = w ∧ ∀ t, o.dst = some t → V outs t = v
  | true, .ok (.value v) w' => I (k + 1) (upd outs k v) w' ∧ ∀ t, o.dst = some t → V (upd outs k v) t = v
  | true, .ok (.enter f args) w' => Calls P f args w' fun e w'' => ∃ v, e = .returned v ∧ I (k + 1) (upd outs k v) w'' ∧ ∀ t, o.dst = some t → V (upd outs k v) t = v
  | true, .ok .skip w' => o.dst = none ∧ I (k + 1) (upd outs k undef) w'
  | _, _ => False
def StepRun (P : Program) (ops : Array Oper) (I : Nat → (Nat → Value) → World → Prop) (V : (Nat → Value) → Nat → Value) (eff : Nat → Bool) (need till : Nat → Nat) (a0 : Act) (i : Nat) (o : Oper) : Prop :=
  o.guard = none ∧ (∀ t, o.dst = some t → ∀ k outs u, (if eff i then need i < k else need i ≤ k) → V (upd outs k u) t = V outs t) ∧
  ∀ (k : Nat) (outs : Nat → Value) (w : World) (ρ : Operand → Value), need i ≤ k → k ≤ till i → I k outs w → (∀ v, ρ (.const v) = v) → (∀ g, ρ (.global g) = .pointer (some ⟨g, 0, none⟩)) → (∀ f, ρ (.func f) = .func (.func f) #[] #[]) →
    (∀ t, (readsOf ops o).contains t = true → ρ (.tmp t) = V outs t) → (∀ t, (dstsOf ops).contains t = false → ρ (.tmp t) = a0.tmps.getD t undef) → StepOut P I V k outs o w (eff i) ((execOp ρ o).run P w)

theorem range_all {n : Nat} {p : Nat → Bool} (h : (List.range n).all p = true) {i : Nat} (hi : i < n) : p i = true := List.all_eq_true.1 h i (List.mem_range.2 hi)
theorem range_any {n : Nat} {p : Nat → Bool} (h : (List.range n).any p = true) : ∃ i, i < n ∧ p i = true := by
  obtain ⟨i, h1, h2⟩ := List.any_eq_true.1 h
  exact ⟨i, List.mem_range.1 h1, h2⟩

set_option maxHeartbeats 4000000 in
/-- A REGION THAT DRAWS ITS ORDER AND TURNS THE WORLD STEP BY STEP: what only reads may come anywhere between. -/
theorem wpAll_steps {w : World} (m : Nat) (hn : (dstsOf ops).Nodup)
    (hafter : ((List.range ops.size).all fun i => ((ops[i]?).map fun o => o.after.all fun e => decide (e.on < i)).getD true) = true)
    {N : Nat} (hN : a0.tmps.size = N) (hs : ((dstsOf ops).all fun t => decide (t < N)) = true) (hb : readsBound ops = true)
    (hneed : needOK ops eff need = true) (htill : tillOK ops eff need till m = true) (heff : effOK ops eff need m = true)
    (hS : I 0 (fun _ => undef) w) (hsteps : ∀ i o, ops[i]? = some o → StepRun P ops I V eff need till a0 i o)
    (hend : ∀ (outs : Nat → Value) (w' : World), I m outs w' → Q .normal (flowAct a0 ops (V outs)) w') : wpAll P ops Q ops.size (Array.replicate ops.size false) a0 w := by
  have hinj : ∀ (i j : Nat) (a b : Oper) (t : Nat), ops[i]? = some a → ops[j]? = some b → a.dst = some t → b.dst = some t → i = j := fun i j a b t hi hj => by
    refine dst_inj (fun o : Oper => o.dst) ops.toList hn i j a b t ?_ ?_
    · rw [Array.getElem?_toList]; exact hi
    · rw [Array.getElem?_toList]; exact hj
  have hsl : ∀ t, (dstsOf ops).contains t = true → t < a0.tmps.size := fun t ht => by rw [hN]; exact of_decide_eq_true (List.all_eq_true.1 hs t (by simpa using ht))
  unfold effOK at heff
  rw [Bool.and_eq_true] at heff
  obtain ⟨hdist, hlast⟩ := heff
  refine wpAll_start (I := fun listed a w' => ∃ k outs x, k ≤ m ∧ I k outs w' ∧ a = flowAct a0 ops x ∧
      (∀ i o t, listed.getD i false = true → ops[i]? = some o → o.dst = some t → x t = V outs t) ∧
      (∀ i, i < ops.size → eff i = true → (listed.getD i false = true ↔ need i < k)) ∧
      (∀ i, i < ops.size → eff i = false → listed.getD i false = true → need i ≤ k) ∧
      (∀ i o j, listed.getD i false = true → ops[i]? = some o → waitsFor o j = true → listed.getD j false = true)) ?_ ?_ ?_
  · have hno : ∀ i, (Array.replicate ops.size false).getD i false = false := fun i => by
      rw [Array.getD_eq_getD_getElem?, Array.getElem?_replicate]; split <;> rfl
    refine ⟨0, fun _ => undef, fun t => a0.tmps.getD t undef, Nat.zero_le _, hS, ?_, fun i o t h => ?_, fun i _ _ => ?_, fun i _ _ h => ?_, fun i o j h => ?_⟩
    · unfold flowAct
      rw [patch_self]
    · rw [hno] at h; cases h
    · rw [hno]; simp
    · rw [hno] at h; cases h
    · rw [hno] at h; cases h
  · rintro i listed a w' ⟨k, outs, x, hkm, hI, rfl, hx, he1, he2, hC⟩ hsz hi
    obtain ⟨hun', hunl⟩ := ready_unlisted hi
    have hunl' : listed.getD i false = false := by
      have h3 : i < listed.size := by omega
      rw [Array.getD_eq_getD_getElem?, Array.getElem?_eq_getElem h3, Option.getD_some] at hunl ⊢
      exact hunl
    obtain ⟨hun, o, ho, hall⟩ := mem_ready.1 hi
    have hmem : o ∈ ops.toList := by
      rw [Array.mem_toList_iff]
      exact Array.mem_of_getElem? ho
    obtain ⟨hg, hmono, hrun⟩ := hsteps i o ho
    have hw : Region.wanted o (yielded ops (flowAct a0 ops x).tmps) = true := by
      unfold Region.wanted
      rw [hg]
    unfold wpOpL
    simp only [ho]
    rw [if_pos hw]
    -- what it waits for is listed
    have hwl : ∀ j, waitsFor o j = true → listed.getD j false = true := fun j hj => by
      obtain ⟨e, he, h2⟩ := Array.any_eq_true'.1 hj
      rw [Bool.and_eq_true, beq_iff_eq] at h2
      rw [← h2.2]
      exact hall e he h2.1
    have hk1 : need i ≤ k := by
      have h1 := range_all hneed hun'
      rw [Bool.or_eq_true, beq_iff_eq, ho, Option.map_some, Option.getD_some] at h1
      rcases h1 with h1 | h1
      · omega
      · obtain ⟨j, hj, h2⟩ := range_any h1
        rw [Bool.and_eq_true] at h2
        have hl := hwl j h2.1
        cases hej : eff j with
        | true =>
          have h3 := (he1 j hj hej).1 hl
          have h4 := h2.2
          rw [hej, if_pos rfl] at h4
          have := of_decide_eq_true h4
          omega
        | false =>
          have h3 := he2 j hj hej hl
          have h4 := h2.2
          rw [hej, if_neg (by simp)] at h4
          have := of_decide_eq_true h4
          omega
    have ht1 := range_all htill hun'
    rw [Bool.and_eq_true] at ht1
    have hk2 : k ≤ till i := by
      have h1 := ht1.2
      rw [Bool.or_eq_true, Bool.or_eq_true] at h1
      rcases h1 with (h1 | h1) | h1
      · have := of_decide_eq_true h1; omega
      · rw [Bool.and_eq_true, beq_iff_eq] at h1
        have h3 : ¬ need i < k := fun h => by rw [(he1 i hun' h1.1).2 h] at hunl'; cases hunl'
        omega
      · obtain ⟨j, hj, h2⟩ := range_any h1
        rw [Bool.and_eq_true, Bool.and_eq_true, beq_iff_eq] at h2
        have h3 : ¬ need j < k := fun h => by
          have h4 := (he1 j hj h2.1.1).2 h
          have h5 := h2.2
          cases hoj : ops[j]? with
          | none => rw [hoj] at h5; simp at h5
          | some oj =>
            rw [hoj, Option.map_some, Option.getD_some] at h5
            rw [hC j oj i h4 hoj h5] at hunl'
            cases hunl'
        omega
    have hrd : ∀ t, (readsOf ops o).contains t = true → (flowAct a0 ops x).eval (.tmp t) = V outs t := fun t ht => by
      have hmt : t ∈ readsOf ops o := by simpa using ht
      have h1 := List.all_eq_true.1 (List.all_eq_true.1 hb o hmem) t hmt
      obtain ⟨e, he, he2'⟩ := Array.any_eq_true'.1 h1
      rw [Bool.and_eq_true, beq_iff_eq] at he2'
      have hd : (dstsOf ops).contains t = true := (List.mem_filter.1 hmt).2
      rw [flow_eval x t hd (hsl t hd)]
      have hl := hall e he he2'.1
      cases hoe : ops[e.on]? with
      | none => rw [hoe] at he2'; simp at he2'
      | some oe =>
        rw [hoe] at he2'
        exact hx e.on oe t hl hoe (by simpa using he2'.2)
    have h2 := hrun k outs w' (flowAct a0 ops x).eval hk1 hk2 hI (fun _ => rfl) (fun _ => rfl) (fun _ => rfl) hrd (fun t ht => flow_else x t ht)
    have hset : ∀ j, j ≠ i → (listed.setIfInBounds i true).getD j false = listed.getD j false := fun j hji => getD_set_ne false (Ne.symm hji)
    have hseti : (listed.setIfInBounds i true).getD i false = true := by
      rw [Array.getD_eq_getD_getElem?, Array.getElem?_setIfInBounds]
      simp [hsz, hun']
    have hnew : ∀ j, listed.getD j false = true → (listed.setIfInBounds i true).getD j false = true := fun j h => by
      by_cases e : j = i
      · rw [e]; exact hseti
      · rw [hset j e]; exact h
    have hCC : ∀ j oj l, (listed.setIfInBounds i true).getD j false = true → ops[j]? = some oj → waitsFor oj l = true → (listed.setIfInBounds i true).getD l false = true := fun j oj l hj hoj hwk => by
      by_cases hji : j = i
      · subst hji
        rw [ho] at hoj
        cases hoj
        exact hnew _ (hwl l hwk)
      · rw [hset j hji] at hj
        exact hnew _ (hC j oj l hj hoj hwk)
    -- the frame behind it
    have hfr : ∀ (outs2 : Nat → Value) (v : Value), (∀ j oj t, j ≠ i → listed.getD j false = true → ops[j]? = some oj → oj.dst = some t → V outs2 t = V outs t) → (∀ t, o.dst = some t → V outs2 t = v) →
        ∃ x2, (flowAct a0 ops x).put o.dst v = flowAct a0 ops x2 ∧ ∀ j oj t, (listed.setIfInBounds i true).getD j false = true → ops[j]? = some oj → oj.dst = some t → x2 t = V outs2 t := fun outs2 v hsame hv => by
      cases hd : o.dst with
      | none =>
        refine ⟨x, rfl, fun j oj t hj hoj hdt => ?_⟩
        have hji : j ≠ i := fun e => by subst e; rw [ho] at hoj; cases hoj; rw [hd] at hdt; cases hdt
        rw [hset j hji] at hj
        rw [hsame j oj t hji hj hoj hdt]
        exact hx j oj t hj hoj hdt
      | some t0 =>
        refine ⟨upd x t0 v, ?_, fun j oj t hj hoj hdt => ?_⟩
        · unfold flowAct Act.put
          simp only
          rw [patch_put]
          exact List.mem_filterMap.2 ⟨o, hmem, hd⟩
        · by_cases hji : j = i
          · subst hji
            rw [ho] at hoj
            cases hoj
            rw [hd] at hdt
            cases hdt
            rw [show upd x t0 v t0 = v by simp [upd]]
            exact (hv t0 hd).symm
          · have hne : t ≠ t0 := fun e => hji (hinj j i oj o t hoj ho hdt (by rw [e]; exact hd))
            rw [hset j hji] at hj
            rw [show upd x t0 v t = x t by simp [upd, hne], hsame j oj t hji hj hoj hdt]
            exact hx j oj t hj hoj hdt
    have hlt : ∀ {j : Nat} {oj : Oper}, ops[j]? = some oj → j < ops.size := fun h => (Array.getElem?_eq_some_iff.1 h).1
    cases hei : eff i with
    | false =>
      rw [hei] at h2
      unfold Oper.wp
      generalize (execOp (flowAct a0 ops x).eval o).run P w' = res at h2
      match res, h2 with
      | .ok (.value v) w2, ⟨hw2, hv⟩ =>
        subst hw2
        obtain ⟨x2, hx2, hx3⟩ := hfr outs v (fun _ _ _ _ _ _ _ => rfl) hv
        refine ⟨k, outs, x2, hkm, hI, hx2, hx3, fun j hj hej => ?_, fun j hj hej hl => ?_, hCC⟩
        · have hji : j ≠ i := fun e => by rw [e, hei] at hej; cases hej
          rw [hset j hji]; exact he1 j hj hej
        · by_cases hji : j = i
          · rw [hji]; exact hk1
          · rw [hset j hji] at hl; exact he2 j hj hej hl
    | true =>
      have hek : need i = k := by
        have h3 : ¬ need i < k := fun h => by rw [(he1 i hun' hei).2 h] at hunl'; cases hunl'
        omega
      have hkm1 : k + 1 ≤ m := by
        have h3 := ht1.1
        rw [hei, if_pos rfl, Bool.and_eq_true] at h3
        have := of_decide_eq_true h3.1
        omega
      rw [hei] at h2
      have fin : ∀ v w2, I (k + 1) (upd outs k v) w2 → (∀ t, o.dst = some t → V (upd outs k v) t = v) → (∃ k outs x', k ≤ m ∧ I k outs w2 ∧ (flowAct a0 ops x).put o.dst v = flowAct a0 ops x' ∧
      (∀ i' o t, (listed.setIfInBounds i true).getD i' false = true → ops[i']? = some o → o.dst = some t → x' t = V outs t) ∧
      (∀ i', i' < ops.size → eff i' = true → ((listed.setIfInBounds i true).getD i' false = true ↔ need i' < k)) ∧
      (∀ i', i' < ops.size → eff i' = false → (listed.setIfInBounds i true).getD i' false = true → need i' ≤ k) ∧
      (∀ i' o j, (listed.setIfInBounds i true).getD i' false = true → ops[i']? = some o → waitsFor o j = true → (listed.setIfInBounds i true).getD j false = true)) := by
        intro v w2 hI2 hv
        obtain ⟨x2, hx2, hx3⟩ := hfr (upd outs k v) v (fun j oj t hji hj hoj hdt => by
          refine (hsteps j oj hoj).2.1 t hdt k outs v ?_
          cases hej : eff j with
          | true => rw [if_pos rfl]; exact (he1 j (hlt hoj) hej).1 hj
          | false => rw [if_neg (by simp)]; exact he2 j (hlt hoj) hej hj) hv
        refine ⟨k + 1, _, x2, hkm1, hI2, hx2, hx3, fun j hj hej => ?_, fun j hj hej hl => ?_, hCC⟩
        · by_cases hji : j = i
          · subst hji
            rw [hseti]
            exact ⟨fun _ => by omega, fun _ => rfl⟩
          · rw [hset j hji, he1 j hj hej]
            have h4 := range_all (range_all hdist hj) hun'
            rw [hej, hei] at h4
            simp only [Bool.not_true, Bool.or_false, Bool.or_eq_true, beq_iff_eq, bne_iff_ne] at h4
            rcases h4 with h4 | h4
            · exact absurd h4 hji
            · omega
        · have hji : j ≠ i := fun e => by rw [e, hei] at hej; cases hej
          rw [hset j hji] at hl
          have := he2 j hj hej hl
          omega
      unfold Oper.wp
      generalize (execOp (flowAct a0 ops x).eval o).run P w' = res at h2
      match res, h2 with
      | .ok (.value v) w2, ⟨h3, h4⟩ => exact fin v w2 h3 h4
      | .ok (.enter f args) w2, h3 =>
        refine Calls.mono h3 ?_
        rintro e w'' ⟨v, rfl, h4, h5⟩
        exact fin v w'' h4 h5
      | .ok .skip w2, ⟨h3, h4⟩ => exact fin undef w2 h4 (fun t ht => by rw [h3] at ht; cases ht)
  · rintro listed a w' ⟨k, outs, x, hkm, hI, rfl, hx, he1, -, -⟩ hsz hr
    have hall := ready_nil hsz (fun i o ho e he => by
      have h1 := List.all_eq_true.1 hafter i (List.mem_range.2 (Array.getElem?_eq_some_iff.1 ho).1)
      rw [ho, Option.map_some, Option.getD_some, Array.all_eq_true_iff_forall_mem] at h1
      exact of_decide_eq_true (h1 e he)) hr
    have hk : k = m := by
      rw [Bool.or_eq_true, beq_iff_eq] at hlast
      rcases hlast with h | h
      · omega
      · obtain ⟨i, hi, h2⟩ := range_any h
        rw [Bool.and_eq_true, beq_iff_eq] at h2
        have := (he1 i hi h2.1).1 (hall i hi)
        omega
    subst hk
    have hfl : flowAct a0 ops x = flowAct a0 ops (V outs) := by
      unfold flowAct
      congr 1
      apply Array.ext_getElem?
      intro s
      rw [patch_get, patch_get]
      by_cases h : s ∈ ops.toList.filterMap (·.dst) ∧ s < a0.tmps.size
      · rw [if_pos h, if_pos h]
        obtain ⟨o, ho, hd⟩ := List.mem_filterMap.1 h.1
        obtain ⟨i, hi⟩ := List.getElem?_of_mem ho
        rw [Array.getElem?_toList] at hi
        rw [hx i o s (hall i (Array.getElem?_eq_some_iff.1 hi).1) hi hd]
      · rw [if_neg h, if_neg h]
    rw [hfl]
    exact hend outs w' hI

/-- One after another, from a number on. -/
def StepAll (F : Nat → Oper → Prop) : List Oper → Nat → Prop
  | [], _ => True
  | o :: l, k => F k o ∧ StepAll F l (k + 1)
theorem StepAll.at_ {F : Nat → Oper → Prop} : ∀ {l : List Oper} {k : Nat}, StepAll F l k → ∀ i o, l[i]? = some o → F (k + i) o
  | [], _, _, i, o, h => by simp at h
  | a :: l, k, h, 0, o, he => by
    simp at he
    subst he
    exact h.1
  | a :: l, k, h, i + 1, o, he => by
    have := h.2.at_ i o (by simpa using he)
    rw [show k + (i + 1) = k + 1 + i by omega]
    exact this
theorem wp_region_steps {id : Nat} {w : World} (m : Nat) (hm : P.follows .mixedOrders = true) (hn : (dstsOf ops).Nodup)
    (hafter : ((List.range ops.size).all fun i => ((ops[i]?).map fun o => o.after.all fun e => decide (e.on < i)).getD true) = true)
    {N : Nat} (hN : a0.tmps.size = N) (hs : ((dstsOf ops).all fun t => decide (t < N)) = true) (hb : readsBound ops = true)
    (hneed : needOK ops eff need = true) (htill : tillOK ops eff need till m = true) (heff : effOK ops eff need m = true)
    (hS : I 0 (fun _ => undef) w.drew) (hsteps : StepAll (fun i o => StepRun P ops I V eff need till a0 i o) ops.toList 0)
    (hend : ∀ (outs : Nat → Value) (w' : World), I m outs w' → Q .normal (flowAct a0 ops (V outs)) w') : (Code.region id ops true).wp P Q a0 w :=
  wp_region_any hm (wpAny_of_all (wpAll_steps m hn hafter hN hs hb hneed htill heff hS (fun i o h => by
    have := hsteps.at_ i o (by rw [Array.getElem?_toList]; exact h)
    rwa [Nat.zero_add] at this) hend))
/-- Is it an operation that may come in a round of a loop over a function? -/
def plainOp (o : Oper) : Bool := match o.op with | .defer _ => false | _ => true
theorem wpIn_region_steps {id l n : Nat} {w : World} (m : Nat) (hm : P.follows .mixedOrders = true) (hn : (dstsOf ops).Nodup)
    (hafter : ((List.range ops.size).all fun i => ((ops[i]?).map fun o => o.after.all fun e => decide (e.on < i)).getD true) = true)
    {N : Nat} (hN : a0.tmps.size = N) (hs : ((dstsOf ops).all fun t => decide (t < N)) = true) (hb : readsBound ops = true)
    (hneed : needOK ops eff need = true) (htill : tillOK ops eff need till m = true) (heff : effOK ops eff need m = true)
    (hpl : ∀ o ∈ ops.toList, (∀ c, o.op ≠ .defer c) ∧ ∀ ρ w row args w', (execOp ρ o).run P w ≠ .ok (.row row args) w')
    (hS : I 0 (fun _ => undef) w.drew) (hsteps : StepAll (fun i o => StepRun P ops I V eff need till a0 i o) ops.toList 0)
    (hend : ∀ (outs : Nat → Value) (w' : World), I m outs w' → Q .normal (flowAct a0 ops (V outs)) w') : (Code.region id ops true).wpIn (Fence.wide.inRound l) n P Q a0 w :=
  wpIn_region_any hm (wpAnyIn_of_all hpl (wpAll_steps m hn hafter hN hs hb hneed htill heff hS (fun i o h => by
    have := hsteps.at_ i o (by rw [Array.getElem?_toList]; exact h)
    rwa [Nat.zero_add] at this) hend))

/-- An operation that only reads; one that makes something; a store; a call. -/
theorem step_pure {k : Nat} {outs : Nat → Value} {o : Oper} {w : World} {v : Value} {b : Bool} {r : Result Next} (hb : b = false) (hv : ∀ t, o.dst = some t → V outs t = v) (hr : r = .ok (.value v) w) : StepOut P I V k outs o w b r := by
  subst hb; rw [hr]; exact ⟨rfl, hv⟩
theorem step_new {k : Nat} {outs : Nat → Value} {o : Oper} {w w' : World} {v : Value} {b : Bool} {r : Result Next} (hb : b = true) (hr : r = .ok (.value v) w') (hI : I (k + 1) (upd outs k v) w') (hv : ∀ t, o.dst = some t → V (upd outs k v) t = v) : StepOut P I V k outs o w b r := by
  subst hb; rw [hr]; exact ⟨hI, hv⟩
theorem step_store {k : Nat} {outs : Nat → Value} {o : Oper} {w w' : World} {b : Bool} {r : Result Next} (hb : b = true) (hd : o.dst = none) (hr : r = .ok .skip w') (hI : I (k + 1) (upd outs k undef) w') : StepOut P I V k outs o w b r := by
  subst hb; rw [hr]; exact ⟨hd, hI⟩
theorem step_call {k : Nat} {outs : Nat → Value} {o : Oper} {w w' : World} {f : FuncId} {args : Array Value} {b : Bool} {r : Result Next} (hb : b = true) (hr : r = .ok (.enter f args) w') (hc : Calls P f args w' fun e w'' => ∃ v, e = .returned v ∧ I (k + 1) (upd outs k v) w'' ∧ ∀ t, o.dst = some t → V (upd outs k v) t = v) : StepOut P I V k outs o w b r := by
  subst hb; rw [hr]; exact hc
end
end Go.Proofs.Ytanjkhclhcnnaaa
/- Blocks known whole; rows of spans. -/
namespace Go.Proofs.Ytanjkhclhcnnaaa
open Go.RowKit Go.Shelf

/-- A block that holds just these cells. -/
def Ob (W : World) (B : Nat) (T : TypeId) (cs : Array Value) : Prop := W.heap[B]? = some (.cells cs T (0, 0))
theorem Ob.lt {W : World} {B : Nat} {T : TypeId} {cs : Array Value} (h : Ob W B T cs) : B < W.heap.size := (Array.getElem?_eq_some_iff.1 h).1
theorem Ob.cell {W : World} {B : Nat} {T : TypeId} {cs : Array Value} (h : Ob W B T cs) (j : Nat) : W.cell? ⟨B, j, none⟩ = cs[j]? := by
  unfold Ob at h; simp [World.cell?, h]
theorem Ob.frozen {W : World} {B : Nat} {T : TypeId} {cs : Array Value} (h : Ob W B T cs) (j : Nat) : W.frozen? ⟨B, j, none⟩ = false := by
  unfold Ob at h; simp [World.frozen?, h]
theorem Ob.drew {W : World} {B : Nat} {T : TypeId} {cs : Array Value} (h : Ob W B T cs) : Ob W.drew B T cs := h
theorem Ob.below {W W1 : World} {B : Nat} {T : TypeId} {cs : Array Value} (h : Ob W B T cs) (hb : Below W.heap.size W W1) : Ob W1 B T cs := (hb.block B h.lt).trans h
theorem Ob.grown {W W1 : World} {B : Nat} {T : TypeId} {cs : Array Value} {row : Option Nat} (h : Ob W B T cs) (hg : W.grownBy W1 row) (hne : row ≠ some B) : Ob W1 B T cs := (hg.block B h.lt (fun e => hne e.symm)).trans h
theorem Ob.new (W : World) (cs : Array Value) (T : TypeId) : Ob (W.alloc (.cells cs T)) W.heap.size T cs := by show (W.heap.push _)[W.heap.size]? = _; simp
theorem Ob.alloc {W : World} {B : Nat} {T : TypeId} {cs : Array Value} (h : Ob W B T cs) (o : Obj) : Ob (W.alloc o) B T cs := h.below (B_alloc (Below.refl _ _) _)
theorem Ob.other {W : World} {B : Nat} {T : TypeId} {cs : Array Value} (h : Ob W B T cs) {p : Addr} (hne : p.block ≠ B) (v : Value) : Ob (W.setCell p v) B T cs :=
  (Below.heap_setCell W p v B (fun e => hne e.symm)).trans h
theorem Ob.set {W : World} {B : Nat} {T : TypeId} {cs : Array Value} (h : Ob W B T cs) (j : Nat) (v : Value) : Ob (W.setCell ⟨B, j, none⟩ v) B T (cs.setIfInBounds j v) := by
  unfold Ob at h ⊢
  show (W.heap.modify B _)[B]? = _
  rw [Array.getElem?_modify, h]
  simp
/-- A row's block holds another type. -/
theorem Ob.row {W : World} {B : Nat} {T : TypeId} {cs : Array Value} (h : Ob W B T cs) {base : Nat} {e : TypeId} {s n : Nat} {v : Value} {xs : List Value} (hr : W.ownsRow base e s v n xs) (hne : T ≠ e) : v.ownBlock ≠ some B := by
  intro e1
  obtain ⟨c, fz, h1⟩ := Lib.ownsRow_kind hr B e1
  unfold Ob at h
  rw [h] at h1
  injection h1 with h1
  injection h1 with _ h2
  exact hne h2
theorem rowN {W : World} {base : Nat} {e : TypeId} {s n : Nat} {v : Value} {xs : List Value} (h : W.ownsRow base e s v n xs) (o : Obj) : (W.alloc o).ownsRow base e s v n xs := h.alloc o
theorem row_below {W W1 : World} {base : Nat} {e : TypeId} {s n : Nat} {v : Value} {xs : List Value} (h : W.ownsRow base e s v n xs) (hb : Below W.heap.size W W1) : W1.ownsRow base e s v n xs :=
  h.kept (row := none) ⟨hb.os, hb.tape, hb.output, hb.size, fun i hi _ => hb.block i hi⟩ (by cases v.ownBlock with | none => exact .inl rfl | some g => exact .inr (by simp))
theorem row_set {W : World} {base : Nat} {e : TypeId} {s n : Nat} {v : Value} {xs : List Value} (h : W.ownsRow base e s v n xs) {a : Addr} (ha : v.ownBlock ≠ some a.block) (u : Value) : (W.setCell a u).ownsRow base e s v n xs := ownsRow_setCell_other h ha u

/-- Spans as cells. -/
def flat2 (l : List T2) : List Value := l.flatMap fun p => [.int .i64 p.1, .int .i64 p.2]
theorem flat2_len : ∀ l : List T2, (flat2 l).length = l.length * 2
  | [] => rfl
  | x :: l => by have := flat2_len l; simp [flat2] at this ⊢; omega
theorem flat2_snoc (l : List T2) (p : T2) : flat2 (l ++ [p]) = flat2 l ++ [.int .i64 p.1, .int .i64 p.2] := by simp [flat2]
theorem flat2_at : ∀ (l : List T2) (i : Nat), i < l.length → (flat2 l)[i * 2]? = some (.int .i64 (l.getD i (0, 0)).1) ∧ (flat2 l)[i * 2 + 1]? = some (.int .i64 (l.getD i (0, 0)).2)
  | [], i, h => by cases h
  | x :: l, 0, _ => ⟨rfl, rfl⟩
  | x :: l, i + 1, h => by
    have e : flat2 (x :: l) = [.int .i64 x.1, .int .i64 x.2] ++ flat2 l := rfl
    have ih := flat2_at l i (by simpa using h)
    rw [e, show (i + 1) * 2 = 2 + i * 2 by omega, show 2 + i * 2 + 1 = 2 + (i * 2 + 1) by omega]
    rw [List.getElem?_append_right (by simp), List.getElem?_append_right (by simp)]
    simpa using ih
/-- A row of spans, read. -/
theorem sl2_row {W : World} {B : Nat} {t : TypeId} {v : Value} {L : List T2} {n : Nat} (h : W.ownsRow B t 2 v n (flat2 L)) : ∃ a c, v = .slice a n c ∧ Sl2 W a n L ∧ n = L.length ∧ (∀ b, a = some b → b.block < W.heap.size ∧ B ≤ b.block) := by
  have hn : n = L.length := by have := h.1; rw [flat2_len] at this; omega
  rcases h.2 with ⟨rfl, rfl⟩ | ⟨g, cap, cur, rfl, hb, hg, hc1, hc2, hs, ht⟩
  · exact ⟨none, 0, rfl, ⟨hn.symm, fun h => absurd h (Nat.lt_irrefl 0)⟩, hn, fun b h => by cases h⟩
  · refine ⟨_, cap, rfl, ⟨hn.symm, fun _ => ⟨g, 0, rfl, (Array.getElem?_eq_some_iff.1 hg).1, fun i hi => ?_⟩⟩, hn, fun b h => by cases h; exact ⟨(Array.getElem?_eq_some_iff.1 hg).1, hb⟩⟩
    have hat := flat2_at L i (by omega)
    have key : ∀ j, j < n * 2 → W.cell? ⟨g, j, none⟩ = (flat2 L)[j]? := fun j hj => by
      rw [← ht, List.getElem?_take, if_pos hj]
      simp [World.cell?, hg]
    rw [show 0 + i * 2 = i * 2 by omega]
    exact ⟨(key _ (by omega)).trans hat.1, (key _ (by omega)).trans hat.2⟩
end Go.Proofs.Ytanjkhclhcnnaaa
/- The task of a task without an error: its strengths are made day by day. -/
namespace Go.Proofs.Ytanjkhclhcnnaaa
open Go.RowKit Go.Shelf

theorem infoSpan : (Try.prog.info? 28).map (fun i => (i.zero, i.size, i.bytes)) = some (some (.agg #[.int .i64 0, .int .i64 0]), 2, 16) := by kernel_rfl
/-- The cells of a task of the code's own, with strengths v. -/
abbrev TkA.xc (t : TkA) (v : Value) : Array Value := #[.slice t.r.ha t.r.hn t.r.hc, .slice t.r.wa t.r.wn t.r.wc, .int .i64 t.r.own, .int .i64 t.r.feed, .int .i64 t.r.g0, .int .i64 t.r.g1, .int .i64 t.r.g2, .int .i64 t.r.lost, .int .i64 t.first, v, .int .i64 t.lo, .int .i64 t.hi, .slice t.ta t.tn t.tc]
abbrev zc : Array Value := #[.slice none 0 0, .slice none 0 0, .int .i64 0, .int .i64 0, .int .i64 0, .int .i64 0, .int .i64 0, .int .i64 0, .int .i64 0, .slice none 0 0, .int .i64 0, .int .i64 0, .slice none 0 0]

theorem row_form {W : World} {base n s : Nat} {e : TypeId} {v : Value} {xs : List Value} (h : W.ownsRow base e s v n xs) (hn : 0 < n) : ∃ g cap, v = .slice (some ⟨g, 0, none⟩) n cap := by
  rcases h.2 with ⟨-, h2⟩ | ⟨g, cap, _, h1, -⟩
  · omega
  · exact ⟨g, cap, h1⟩
/-- A row of spans to which one is joined. -/
theorem joined {W : World} {base n : Nat} {v : Value} {xs : List Value} {g : Nat} {p q : Int} (hv : W.ownsRow base 28 2 v n xs) (hg : Ob W g 28 #[.int .i64 p, .int .i64 q]) (hn : n ≤ 100000) (hb : base ≤ W.heap.size) :
    ∃ v' w', (Builtin.append_ #[49, 49] 49 #[v, .slice (some ⟨g, 0, none⟩) 1 1]).run Try.prog W = .ok v' w' ∧ w'.ownsRow base 28 2 v' (n + 1) (xs ++ [.int .i64 p, .int .i64 q]) ∧ W.grownBy w' v.ownBlock := by
  obtain ⟨i0, hi, hz0, hs0, hy0⟩ := info_parts infoSpan
  obtain ⟨v', w', h1, h2, h3, -⟩ := run_append_own (P := Try.prog) (w := W) base 49 49 28 i0 _ 2 16 Try.underlying49 hi hz0 hs0 hy0 rfl (by decide) v n xs hv ⟨g, 0, none⟩ 1 1 [.int .i64 p, .int .i64 q] rfl
    (fun j u h => by
      rw [show (⟨g, 0, none⟩ : Addr).add j = ⟨g, j, none⟩ by simp [Addr.add, eq_comm]]
      rw [hg.cell]; simpa using h) (by intro u hu; simp at hu; rcases hu with rfl | rfl <;> rfl) (by unfold maxLen; omega) (by omega) hb
  exact ⟨v', w', h1, h2, h3⟩
theorem run_append_op {P : Program} {ρ : Operand → Value} {o : Oper} {sl x : Operand} {t : TypeId} {v u v' : Value} {w w' : World} (ho : o.op = .call { callee := .builtin .append, args := #[sl, x], argTypes := #[t, t] }) (hs : ρ sl = v) (hx : ρ x = u)
    (hr : (Builtin.append_ #[t, t] o.type #[v, u]).run P w = .ok v' w') : (execOp ρ o).run P w = .ok (.value v') w' := by
  unfold execOp
  simp only [ho, resolve, invoke, builtin, Sem.run_bind, Sem.run_pure, Result.andThen_ok, List.map_toArray, List.map_cons, List.map_nil, hs, hx, hr]

theorem B_grown' {w W W1 : World} {e : TypeId} {s n : Nat} {v : Value} {xs : List Value} (h : Below w.heap.size w W) (ho : W.ownsRow w.heap.size e s v n xs) (hg : W.grownBy W1 v.ownBlock) : Below w.heap.size w W1 :=
  h.grown hg h.size fun k hk => (ho.lt k hk).1

/-- What holds while one day's strength is joined, step by step. -/
def TI (t : TkA) (w : World) (X D R : Nat) (dc : Array Value) (v : Value) (n : Nat) (xs : List Value) (p q : Int) (k : Nat) (outs : Nat → Value) (W : World) : Prop :=
  Below w.heap.size w W ∧ Ob W D 39 dc ∧ Ob W R 104 zc ∧ (k < 4 → Ob W X 104 (t.xc v)) ∧ (k = 4 → Ob W X 104 (t.xc (outs 2))) ∧
  (k < 3 → W.ownsRow w.heap.size 28 2 v n xs) ∧ (3 ≤ k → W.ownsRow w.heap.size 28 2 (outs 2) (n + 1) (xs ++ [.int .i64 p, .int .i64 q])) ∧
  (1 ≤ k → outs 0 = .agg #[.int .i64 p, .int .i64 q]) ∧ (k = 2 → ∃ g, outs 1 = .slice (some ⟨g, 0, none⟩) 1 1 ∧ Ob W g 28 #[.int .i64 p, .int .i64 q])
def tneed : Nat → Nat := fun i => [0, 0, 0, 0, 0, 0, 1, 2, 3, 3].getD i 0
def ttill : Nat → Nat := fun i => [4, 2, 4, 0, 0, 0, 1, 2, 3, 3].getD i 0
def teff : Nat → Bool := fun i => [false, false, false, false, false, true, true, true, false, true].getD i false
def TV (t : TkA) (X : Nat) (dc : Array Value) (v : Value) (outs : Nat → Value) : Nat → Value
  | 23 => .pointer (some ⟨X, 9, none⟩)
  | 24 => v
  | 25 => .pointer (some ⟨X, 0, none⟩)
  | 26 => .agg t.r.cs
  | 27 => .agg dc
  | 28 => outs 0
  | 29 => outs 1
  | 30 => outs 2
  | 31 => .pointer (some ⟨X, 9, none⟩)
  | _ => undef

set_option maxRecDepth 100000 in
set_option maxHeartbeats 8000000 in
theorem taskOf_any (t : TkA) (hs ws : List T2) (ds : List T4) (ts : List T3) (w : World) (hR : TkR w t hs ws ds ts) (hO : RuOK t.r hs ws) (hdn : t.dn ≤ 400) :
    Calls Try.prog 68 #[.agg t.cs] w fun e w' => (∃ v, e = .returned (.agg (t.xc v)) ∧ w'.ownsRow w.heap.size 28 2 v t.dn (flat2 (ds.map (strS hs ws)))) ∧ Below w.heap.size w w' := by
  have HRR := Lib.hid hR
  have hsz := hR.d.len
  clear hR
  obtain ⟨W3, hW3⟩ : ∃ W3, ((w.alloc (.cells t.cs 31)).alloc (.cells zc 104)).alloc (.cells (t.xc (.slice none 0 0)) 104) = W3 := ⟨_, rfl⟩
  have hb3 : Hid (Below w.heap.size w W3) := by rw [Hid, ← hW3]; exact B_alloc (B_alloc (B_alloc (Below.refl _ _) _) _) _
  have hX3 : Hid (Ob W3 (w.heap.size + 1 + 1) 104 (t.xc (.slice none 0 0))) := by
    rw [Hid, ← hW3]
    have := Ob.new ((w.alloc (.cells t.cs 31)).alloc (.cells zc 104)) (t.xc (.slice none 0 0)) 104
    simpa using this
  have hR3 : Hid (Ob W3 (w.heap.size + 1) 104 zc) := by
    rw [Hid, ← hW3]
    have := (Ob.new (w.alloc (.cells t.cs 31)) zc 104).alloc (.cells (t.xc (.slice none 0 0)) 104)
    simpa using this
  replace hW3 := Lib.hid hW3
  go_enter Try.func68, Try.ntmps68
  go_wp2
  rw [hW3.out]
  clear hW3
  generalize hX : w.heap.size + 1 + 1 = X at hX3 ⊢
  generalize hRb : w.heap.size + 1 = R at hR3 ⊢
  have hXR : X ≠ R := by omega
  have hXw : w.heap.size ≤ X := by omega
  have hRw : w.heap.size ≤ R := by omega
  clear hX hRb
  go_loopg [19] t.dn (fun gk i wr => ∃ (k : Nat) (v : Value), gk = t.dn - k ∧ k ≤ t.dn ∧ i = .int .i64 (k : Int) ∧ Ob wr X 104 (t.xc v) ∧ Ob wr R 104 zc ∧ wr.ownsRow w.heap.size 28 2 v k (flat2 ((ds.take k).map (strS hs ws))) ∧ Below w.heap.size w wr)
  case atStart => exact ⟨0, .slice none 0 0, rfl, Nat.zero_le _, rfl, hX3.out, hR3.out, World.ownsRow_nil _ _ _ _, hb3.out⟩
  case round =>
    obtain ⟨k, v, rfl, hk, rfl, hX, hRb, hrow, hb⟩ := hrel
    by_cases hlt : k < t.dn
    · obtain ⟨b, o, hda, hbs, hc⟩ := (HRR.out.d.below hb).at_ (by omega)
      obtain ⟨c0, c1, c2, c3⟩ := hc k hlt
      have htake : Hid (flat2 ((ds.take (k + 1)).map (strS hs ws)) = flat2 ((ds.take k).map (strS hs ws)) ++ [.int .i64 (strengthS hs ws (ds.getD k (0, 0, 0, 0)).1 (ds.getD k (0, 0, 0, 0)).2.2.1), .int .i64 (strengthS hs ws (ds.getD k (0, 0, 0, 0)).2.1 (ds.getD k (0, 0, 0, 0)).2.2.2)]) := by
        have hkl : k < ds.length := by omega
        have e : ds.getD k (0, 0, 0, 0) = ds[k] := by simp [List.getD, hkl]
        rw [Hid, List.take_succ_eq_append_getElem hkl, List.map_append, List.map_cons, List.map_nil, flat2_snoc, e]
        rfl
      generalize ds.getD k (0, 0, 0, 0) = d at c0 c1 c2 c3 htake
      obtain ⟨d0, d1, d2, d3⟩ := d
      simp only at c0 c1 c2 c3 htake
      have HC := Lib.hid (fun W (h : Below w.heap.size w W) => strength_any t.r hs ws d0 d1 d2 d3 W (HRR.out.r.below h) hO)
      have hst1 := hO.str_bd d0 d2
      generalize strengthS hs ws d0 d2 = p at HC htake
      generalize strengthS hs ws d1 d3 = q at HC htake
      have hkl : (k : Int) < t.dn := by omega
      have hk0 : (0 : Int) ≤ k := by omega
      have hX' := Lib.hid hX
      have hRb' := Lib.hid hRb
      have hrow' := Lib.hid hrow
      have hb' := Lib.hid hb
      clear hX hRb hrow hb hc hst1
      generalize flat2 ((ds.take k).map (strS hs ws)) = xs at hrow' htake
      have HOX : Hid (∀ W : (Nat → Value) × World, TI t w X wr.heap.size R #[.int .i64 d0, .int .i64 d1, .int .i64 d2, .int .i64 d3] v k xs p q 4 W.1 W.2 → (∃ v', Ob W.2 X 104 (t.xc v') ∧ Ob W.2 R 104 zc ∧ W.2.ownsRow w.heap.size 28 2 v' (k + 1) (xs ++ [.int .i64 p, .int .i64 q]) ∧ Below w.heap.size w W.2)) :=
        fun W h => ⟨_, h.2.2.2.2.1 rfl, h.2.2.1, h.2.2.2.2.2.2.1 (by omega), h.1⟩
      have hXD : X ≠ wr.heap.size := fun e => by have := hX'.out.lt; omega
      have hS0 : Hid (TI t w X wr.heap.size R #[.int .i64 d0, .int .i64 d1, .int .i64 d2, .int .i64 d3] v k xs p q 0 (fun _ => undef) (wr.alloc (.cells #[.int .i64 d0, .int .i64 d1, .int .i64 d2, .int .i64 d3] 39)).drew) :=
        ⟨(B_alloc hb'.out _).drew, Ob.new _ _ _, hRb'.out.alloc _, fun _ => hX'.out.alloc _, fun h => by omega, fun _ => row_below hrow'.out ((B_alloc (Below.refl _ _) _).drew), fun h => by omega, fun h => by omega, fun h => by omega⟩
      go_upto_region 5 with fail
      refine wp_region_steps (I := TI t w X wr.heap.size R #[.int .i64 d0, .int .i64 d1, .int .i64 d2, .int .i64 d3] v k xs p q) (V := TV t X #[.int .i64 d0, .int .i64 d1, .int .i64 d2, .int .i64 d3] v) (eff := teff) (need := tneed) (till := ttill) 4 (by kernel_rfl) (by decide) (by kernel_rfl) rfl (by kernel_rfl) (by kernel_rfl) (by kernel_rfl) (by kernel_rfl) (by kernel_rfl) hS0.out ?steps ?hend
      case hend =>
          intro outs w' hI
          obtain ⟨v', h1, h2, h3, h4⟩ := HOX.out (outs, w') hI
          replace h1 := Lib.hid h1
          replace h2 := Lib.hid h2
          replace h3 := Lib.hid h3
          replace h4 := Lib.hid h4
          clear hI HOX hS0
          simp only [flowAct, List.filterMap_cons, List.filterMap_nil, patch, List.setIfInBounds_toArray, List.set_cons_zero, List.set_cons_succ]
          go_wp2
          rw [← hda]
          clear hda
          go_roundg (t.dn - (k + 1))
          case measure => omega
          case rel => exact ⟨k + 1, v', rfl, by omega, by go_num, h1.out, h2.out, by rw [htake.out]; exact h3.out, h4.out⟩
      case steps =>
          refine ⟨⟨rfl, fun t ht k' outs u _ => by cases ht; rfl, fun k' outs W ρ hk1 hk2 hI hc hg h_fn hr ho => ?_⟩, ?_⟩
          · have o3 := ho 3 (by kernel_rfl)
            refine step_pure rfl (v := .pointer (some ⟨X, 9, none⟩)) (fun t ht => by cases ht; rfl) ?_
            go_simp
          refine ⟨⟨rfl, fun t ht k' outs u _ => by cases ht; rfl, fun k' outs W ρ hk1 hk2 hI hc hg h_fn hr ho => ?_⟩, ?_⟩
          · have r23 : ρ (.tmp 23) = .pointer (some ⟨X, 9, none⟩) := hr 23 (by kernel_rfl)
            have hk2' : k' ≤ 2 := hk2
            have hc9 : W.cell? ⟨X, 9, none⟩ = some v := (hI.2.2.2.1 (by omega)).cell 9
            clear hI
            refine step_pure rfl (v := v) (fun t ht => by cases ht; rfl) ?_
            go_simp
          refine ⟨⟨rfl, fun t ht k' outs u _ => by cases ht; rfl, fun k' outs W ρ hk1 hk2 hI hc hg h_fn hr ho => ?_⟩, ?_⟩
          · have o3 := ho 3 (by kernel_rfl)
            refine step_pure rfl (v := .pointer (some ⟨X, 0, none⟩)) (fun t ht => by cases ht; rfl) ?_
            go_simp
          refine ⟨⟨rfl, fun t ht k' outs u _ => by cases ht; rfl, fun k' outs W ρ hk1 hk2 hI hc hg h_fn hr ho => ?_⟩, ?_⟩
          · have r25 : ρ (.tmp 25) = .pointer (some ⟨X, 0, none⟩) := hr 25 (by kernel_rfl)
            have hk2' : k' ≤ 0 := hk2
            have hO1 := hI.2.2.2.1 (by omega)
            have hc0 := hO1.cell 0
            have hc1 := hO1.cell 1
            have hc2 := hO1.cell 2
            have hc3 := hO1.cell 3
            have hc4 := hO1.cell 4
            have hc5 := hO1.cell 5
            have hc6 := hO1.cell 6
            have hc7 := hO1.cell 7
            simp only [List.getElem?_toArray, List.getElem?_cons_zero, List.getElem?_cons_succ] at hc0 hc1 hc2 hc3 hc4 hc5 hc6 hc7
            clear hI hO1
            refine step_pure rfl (v := .agg t.r.cs) (fun t ht => by cases ht; rfl) ?_
            go_simp
          refine ⟨⟨rfl, fun t ht k' outs u _ => by cases ht; rfl, fun k' outs W ρ hk1 hk2 hI hc hg h_fn hr ho => ?_⟩, ?_⟩
          · have o5 := ho 5 (by kernel_rfl)
            have hO1 := hI.2.1
            have hc0 := hO1.cell 0
            have hc1 := hO1.cell 1
            have hc2 := hO1.cell 2
            have hc3 := hO1.cell 3
            simp only [List.getElem?_toArray, List.getElem?_cons_zero, List.getElem?_cons_succ] at hc0 hc1 hc2 hc3
            clear hI hO1
            refine step_pure rfl (v := .agg #[.int .i64 d0, .int .i64 d1, .int .i64 d2, .int .i64 d3]) (fun t ht => by cases ht; rfl) ?_
            go_simp
          refine ⟨⟨rfl, fun t ht k' outs u (h : 0 < k') => by cases ht; show upd outs k' u 0 = outs 0; unfold upd; rw [if_neg (by omega)], fun k' outs W ρ hk1 hk2 hI hc hg h_fn hr ho => ?_⟩, ?_⟩
          · have r26 : ρ (.tmp 26) = .agg t.r.cs := hr 26 (by kernel_rfl)
            have r27 : ρ (.tmp 27) = .agg #[.int .i64 d0, .int .i64 d1, .int .i64 d2, .int .i64 d3] := hr 27 (by kernel_rfl)
            have hf60 := h_fn 61
            obtain rfl : k' = 0 := Nat.le_zero.1 hk2
            refine step_call rfl (f := 61) (args := #[.agg t.r.cs, .agg #[.int .i64 d0, .int .i64 d1, .int .i64 d2, .int .i64 d3]]) (w' := W) ?_ ?_
            · clear hI; go_simp
            · refine (HC.out W hI.1).mono ?_
              rintro e w2 ⟨rfl, hb2⟩
              exact ⟨_, rfl, ⟨B_trans hI.1 hb2, hI.2.1.below hb2, hI.2.2.1.below hb2, fun _ => (hI.2.2.2.1 (by omega)).below hb2, fun h => by omega, fun _ => row_below (hI.2.2.2.2.2.1 (by omega)) hb2, fun h => by omega, fun _ => rfl, fun h => by omega⟩, fun t ht => by cases ht; rfl⟩
          refine ⟨⟨rfl, fun t ht k' outs u (h : 1 < k') => by cases ht; show upd outs k' u 1 = outs 1; unfold upd; rw [if_neg (by omega)], fun k' outs W ρ hk1 hk2 hI hc hg h_fn hr ho => ?_⟩, ?_⟩
          · obtain rfl : k' = 1 := by have h1 : 1 ≤ k' := hk1; have h2 : k' ≤ 1 := hk2; omega
            have r28 : ρ (.tmp 28) = .agg #[.int .i64 p, .int .i64 q] := (hr 28 (by kernel_rfl)).trans (hI.2.2.2.2.2.2.2.1 (by omega))
            have hbl := B_alloc (Below.refl W.heap.size W) (.cells #[.int .i64 p, .int .i64 q] 28)
            refine step_new rfl (v := .slice (some ⟨W.heap.size, 0, none⟩) 1 1) (w' := W.alloc (.cells #[.int .i64 p, .int .i64 q] 28)) ?_ ⟨B_trans hI.1 hbl, hI.2.1.below hbl, hI.2.2.1.below hbl, fun _ => (hI.2.2.2.1 (by omega)).below hbl, fun h => by omega, fun _ => row_below (hI.2.2.2.2.2.1 (by omega)) hbl, fun h => by omega, fun _ => hI.2.2.2.2.2.2.2.1 (by omega), fun _ => ⟨_, rfl, Ob.new _ _ _⟩⟩ (fun t ht => by cases ht; rfl)
            clear hI hbl; go_simp
          refine ⟨⟨rfl, fun t ht k' outs u (h : 2 < k') => by cases ht; show upd outs k' u 2 = outs 2; unfold upd; rw [if_neg (by omega)], fun k' outs W ρ hk1 hk2 hI hc hg h_fn hr ho => ?_⟩, ?_⟩
          · obtain rfl : k' = 2 := by have h1 : 2 ≤ k' := hk1; have h2 : k' ≤ 2 := hk2; omega
            obtain ⟨g, hg1, hg2⟩ := hI.2.2.2.2.2.2.2.2 rfl
            have r24 : ρ (.tmp 24) = v := hr 24 (by kernel_rfl)
            have r29 : ρ (.tmp 29) = .slice (some ⟨g, 0, none⟩) 1 1 := (hr 29 (by kernel_rfl)).trans hg1
            have hrw := hI.2.2.2.2.2.1 (by omega)
            obtain ⟨v', w2, hrun, hown, hgr⟩ := joined hrw hg2 (by omega) hI.1.size
            have hX2 := hI.2.2.2.1 (by omega)
            exact step_new rfl (run_append_op rfl r24 r29 hrun) ⟨B_grown' hI.1 hrw hgr, hI.2.1.grown hgr (hI.2.1.row hrw (by decide)), hI.2.2.1.grown hgr (hI.2.2.1.row hrw (by decide)), fun _ => hX2.grown hgr (hX2.row hrw (by decide)), fun h => by omega, fun h => by omega, fun _ => hown, fun _ => hI.2.2.2.2.2.2.2.1 (by omega), fun h => by omega⟩ (fun t ht => by cases ht; rfl)
          refine ⟨⟨rfl, fun t ht k' outs u _ => by cases ht; rfl, fun k' outs W ρ hk1 hk2 hI hc hg h_fn hr ho => ?_⟩, ?_⟩
          · have o3 := ho 3 (by kernel_rfl)
            refine step_pure rfl (v := .pointer (some ⟨X, 9, none⟩)) (fun t ht => by cases ht; rfl) ?_
            go_simp
          refine ⟨⟨rfl, (fun t ht => by cases ht), fun k' outs W ρ hk1 hk2 hI hc hg h_fn hr ho => ?_⟩, trivial⟩
          · obtain rfl : k' = 3 := by have h1 : 3 ≤ k' := hk1; have h2 : k' ≤ 3 := hk2; omega
            have r31 : ρ (.tmp 31) = .pointer (some ⟨X, 9, none⟩) := hr 31 (by kernel_rfl)
            have hown := hI.2.2.2.2.2.2.1 (by omega)
            have hX2 := hI.2.2.2.1 (by omega)
            obtain ⟨g, cap, hv⟩ := row_form hown (Nat.succ_pos _)
            have r30 : ρ (.tmp 30) = .slice (some ⟨g, 0, none⟩) (k + 1) cap := (hr 30 (by kernel_rfl)).trans hv
            have hc9 : W.cell? ⟨X, 9, none⟩ = some v := hX2.cell 9
            have hf9 : W.frozen? ⟨X, 9, none⟩ = false := hX2.frozen 9
            have hset := hX2.set 9 (.slice (some ⟨g, 0, none⟩) (k + 1) cap)
            refine step_store rfl rfl (w' := W.setCell ⟨X, 9, none⟩ (.slice (some ⟨g, 0, none⟩) (k + 1) cap)) ?_ ⟨hI.1.setCell hXw _, hI.2.1.other hXD _, hI.2.2.1.other hXR _, fun h => by omega, fun _ => ?_, fun h => by omega, fun _ => row_set hown (hX2.row hown (by decide)) _, fun _ => hI.2.2.2.2.2.2.2.1 (by omega), fun h => by omega⟩
            · clear hI hown hX2 hset; go_simp
            · show Ob _ X _ (t.xc (outs 2)); rw [hv]; exact hset
    · obtain rfl : k = t.dn := by omega
      rw [List.take_of_length_le (by omega)] at hrow
      have x0 := hX.cell 0
      have r0 := hRb.cell 0
      have f0 := hRb.frozen 0
      have x1 := hX.cell 1
      have r1 := hRb.cell 1
      have f1 := hRb.frozen 1
      have x2 := hX.cell 2
      have r2 := hRb.cell 2
      have f2 := hRb.frozen 2
      have x3 := hX.cell 3
      have r3 := hRb.cell 3
      have f3 := hRb.frozen 3
      have x4 := hX.cell 4
      have r4 := hRb.cell 4
      have f4 := hRb.frozen 4
      have x5 := hX.cell 5
      have r5 := hRb.cell 5
      have f5 := hRb.frozen 5
      have x6 := hX.cell 6
      have r6 := hRb.cell 6
      have f6 := hRb.frozen 6
      have x7 := hX.cell 7
      have r7 := hRb.cell 7
      have f7 := hRb.frozen 7
      have x8 := hX.cell 8
      have r8 := hRb.cell 8
      have f8 := hRb.frozen 8
      have x9 := hX.cell 9
      have r9 := hRb.cell 9
      have f9 := hRb.frozen 9
      have x10 := hX.cell 10
      have r10 := hRb.cell 10
      have f10 := hRb.frozen 10
      have x11 := hX.cell 11
      have r11 := hRb.cell 11
      have f11 := hRb.frozen 11
      have x12 := hX.cell 12
      have r12 := hRb.cell 12
      have f12 := hRb.frozen 12
      obtain ⟨av, cv, hv, -⟩ := sl2_row hrow
      subst hv
      simp only [List.getElem?_toArray, List.getElem?_cons_zero, List.getElem?_cons_succ] at x0 x1 x2 x3 x4 x5 x6 x7 x8 x9 x10 x11 x12 r0 r1 r2 r3 r4 r5 r6 r7 r8 r9 r10 r11 r12
      have hxr := hRb.row hrow (by decide)
      have HF : Hid (∀ W', (∃ p0 p1 p2 p3 p4 p5 p6 p7 p8 p9 p10 p11 p12, W' = ((((((((((((wr.setCell ⟨R, 0, none⟩ p0).setCell ⟨R, 1, none⟩ p1).setCell ⟨R, 2, none⟩ p2).setCell ⟨R, 3, none⟩ p3).setCell ⟨R, 4, none⟩ p4).setCell ⟨R, 5, none⟩ p5).setCell ⟨R, 6, none⟩ p6).setCell ⟨R, 7, none⟩ p7).setCell ⟨R, 8, none⟩ p8).setCell ⟨R, 9, none⟩ p9).setCell ⟨R, 10, none⟩ p10).setCell ⟨R, 11, none⟩ p11).setCell ⟨R, 12, none⟩ p12) → W'.ownsRow w.heap.size 28 2 (.slice av t.dn cv) t.dn (flat2 (ds.map (strS hs ws))) ∧ Below w.heap.size w W') := by
        rintro W' ⟨p0, p1, p2, p3, p4, p5, p6, p7, p8, p9, p10, p11, p12, rfl⟩
        refine ⟨?_, ?_⟩
        · repeat (refine row_set ?_ hxr _)
          exact hrow
        · repeat (refine Below.setCell ?_ hRw _)
          exact hb
      clear hX hRb hrow hb hxr
      go_wp2
      refine bodyPost_ret (v := .agg (t.xc (.slice av t.dn cv))) ?h1 rfl ⟨⟨_, rfl, ?h2⟩, ?h3⟩
      case h2 => exact (HF.out _ ⟨_, _, _, _, _, _, _, _, _, _, _, _, _, rfl⟩).1
      case h3 => exact (HF.out _ ⟨_, _, _, _, _, _, _, _, _, _, _, _, _, rfl⟩).2
      clear HF
      simp [results, Try.results68, go_sem, r0, r1, r2, r3, r4, r5, r6, r7, r8, r9, r10, r11, r12]
end Go.Proofs.Ytanjkhclhcnnaaa

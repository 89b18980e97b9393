/- What levels can come before others. -/
import Derived.Test.YtanjkhclhcnnaaaWU
import Derived.Test.YtanjkhclhcnnaaaWV
import Derived.Deep.RegionHeld3
namespace Go.Proofs.Ytanjkhclhcnnaaa
open Go.RowKit Go.Shelf

/-- The first number from k on, at most n further, at which p holds. -/
def firstT (p : Nat → Bool) : Nat → Nat → Nat
  | 0, k => k
  | f + 1, k => if p k then k else firstT p f (k + 1)
theorem firstT_spec {p : Nat → Bool} : ∀ {f k : Nat}, k ≤ firstT p f k ∧ firstT p f k ≤ k + f ∧ (∀ t, k ≤ t → t < firstT p f k → p t = false) ∧ (firstT p f k < k + f → p (firstT p f k) = true)
  | 0, k => ⟨Nat.le_refl _, Nat.le_refl _, fun t h1 h2 => absurd h2 (by simp [firstT]; omega), fun h => absurd h (by simp [firstT])⟩
  | f + 1, k => by
    unfold firstT
    by_cases h : p k = true
    · rw [if_pos h]; exact ⟨Nat.le_refl _, by omega, fun t h1 h2 => by omega, fun _ => h⟩
    · rw [if_neg h]
      obtain ⟨a, b, c, d⟩ := firstT_spec (p := p) (f := f) (k := k + 1)
      refine ⟨by omega, by omega, fun t h1 h2 => ?_, fun h3 => d (by omega)⟩
      by_cases e : t = k
      · subst e; simpa using h
      · exact c t (by omega) h2
theorem gain_mono {r : RuA} {a b s : Int} (hf : 0 ≤ r.feed) (hs : 0 ≤ s) (h : a ≤ b) : gainS r a s ≤ gainS r b s := by
  unfold gainS
  have := Int.mul_le_mul_of_nonneg_right h hf
  exact Int.mul_le_mul_of_nonneg_right (by omega) hs
theorem least_mono {r : RuA} {a b s : Int} (hf : 0 ≤ r.feed) (hs : 0 ≤ s) (h : a ≤ b) : leastS r s a ≤ leastS r s b := by
  have := gain_mono (r := r) hf hs h
  unfold leastS; omega
theorem most_mono {r : RuA} {a b s : Int} (hf : 0 ≤ r.feed) (hs : 0 ≤ s) (h : a ≤ b) : mostS r s a ≤ mostS r s b := by
  have := gain_mono (r := r) hf hs h
  unfold mostS; omega

def lowN (r : RuA) (s1 n0 x0 : Int) (c : Nat) : Nat := firstT (fun i => decide (x0 ≤ mostS r s1 (n0 + i))) c 0
def aboveN (r : RuA) (s0 n0 x1 : Int) (c : Nat) : Nat := firstT (fun i => decide (x1 < leastS r s0 (n0 + i))) c 0
/-- The levels of a span that a level of another one can follow. -/
def beforeS (r : RuA) (s n x : T2) : T2 := (n.1 + lowN r s.2 n.1 x.1 (n.2 - n.1 + 1).toNat, n.1 + aboveN r s.1 n.1 x.2 (n.2 - n.1 + 1).toNat - 1)

/-- Cells that stay. -/
structure HB (l : List (Nat × Nat × Value)) (w W : World) : Prop where
  c : ∀ p ∈ l, W.cell? ⟨p.1, p.2.1, none⟩ = some p.2.2 ∧ p.1 < W.heap.size
  b : Below w.heap.size w W
theorem HB.at {l : List (Nat × Nat × Value)} {w W : World} (h : HB l w W) {b o : Nat} {v : Value} (i : Nat) (hi : l[i]? = some (b, o, v)) : W.cell? ⟨b, o, none⟩ = some v := (h.c (b, o, v) (List.mem_of_getElem? hi)).1
theorem HB.drew {l : List (Nat × Nat × Value)} {w W : World} (h : HB l w W) : HB l w W.drew := ⟨h.c, h.b.drew⟩
theorem HB.below {l : List (Nat × Nat × Value)} {w W W1 : World} (h : HB l w W) (hb : Below W.heap.size W W1) : HB l w W1 :=
  ⟨fun p hp => by obtain ⟨a, b⟩ := h.c p hp; exact ⟨(hb.cell (p := ⟨p.1, p.2.1, none⟩) b).trans a, Nat.lt_of_lt_of_le b hb.size⟩, B_trans h.b hb⟩

set_option maxRecDepth 100000 in
set_option maxHeartbeats 8000000 in
theorem before1_any (r : RuA) (hs ws : List T2) (s0 s1 n0 x0 : Int) (B S M X i : Nat) (w : World) (hO : RuOK r hs ws) (h1 : 0 ≤ n0) (h2 : n0 + i ≤ 1000000) (h4 : 0 ≤ s1 ∧ s1 ≤ 1000) (hB : B < w.heap.size) (hSb : S < w.heap.size) (hM : M < w.heap.size) (hX : X < w.heap.size)
    (k0 : w.cell? ⟨B, 0, none⟩ = some (.slice r.ha r.hn r.hc)) (k1 : w.cell? ⟨B, 1, none⟩ = some (.slice r.wa r.wn r.wc)) (k2 : w.cell? ⟨B, 2, none⟩ = some (.int .i64 r.own)) (k3 : w.cell? ⟨B, 3, none⟩ = some (.int .i64 r.feed)) (k4 : w.cell? ⟨B, 4, none⟩ = some (.int .i64 r.g0)) (k5 : w.cell? ⟨B, 5, none⟩ = some (.int .i64 r.g1)) (k6 : w.cell? ⟨B, 6, none⟩ = some (.int .i64 r.g2)) (k7 : w.cell? ⟨B, 7, none⟩ = some (.int .i64 r.lost)) (k8 : w.cell? ⟨S, 0, none⟩ = some (.int .i64 s0)) (k9 : w.cell? ⟨S, 1, none⟩ = some (.int .i64 s1)) (k10 : w.cell? ⟨M, 0, none⟩ = some (.int .i64 n0)) (k11 : w.cell? ⟨X, 0, none⟩ = some (.int .i64 x0)) :
    Calls Try.prog 114 #[.int .i64 i, .pointer (some ⟨B, 0, none⟩), .pointer (some ⟨S, 0, none⟩), .pointer (some ⟨M, 0, none⟩), .pointer (some ⟨X, 0, none⟩)] w fun e w' => e = .returned (.bool (decide (x0 ≤ mostS r s1 (n0 + i)))) ∧ Below w.heap.size w w' := by
  have h0 : HB [(B, 0, .slice r.ha r.hn r.hc), (B, 1, .slice r.wa r.wn r.wc), (B, 2, .int .i64 r.own), (B, 3, .int .i64 r.feed), (B, 4, .int .i64 r.g0), (B, 5, .int .i64 r.g1), (B, 6, .int .i64 r.g2), (B, 7, .int .i64 r.lost), (S, 0, .int .i64 s0), (S, 1, .int .i64 s1), (M, 0, .int .i64 n0), (X, 0, .int .i64 x0)] w w := by
    refine ⟨fun p hp => ?_, Below.refl _ _⟩
    simp only [List.mem_cons, List.not_mem_nil, or_false] at hp
    rcases hp with rfl | rfl | rfl | rfl | rfl | rfl | rfl | rfl | rfl | rfl | rfl | rfl
    all_goals first | exact ⟨k0, hB⟩ | exact ⟨k1, hB⟩ | exact ⟨k2, hB⟩ | exact ⟨k3, hB⟩ | exact ⟨k4, hB⟩ | exact ⟨k5, hB⟩ | exact ⟨k6, hB⟩ | exact ⟨k7, hB⟩ | exact ⟨k8, hSb⟩ | exact ⟨k9, hSb⟩ | exact ⟨k10, hM⟩ | exact ⟨k11, hX⟩
  clear k0 k1 k2 k3 k4 k5 k6 k7 k8 k9 k10 k11
  generalize hl : ([(B, 0, .slice r.ha r.hn r.hc), (B, 1, .slice r.wa r.wn r.wc), (B, 2, .int .i64 r.own), (B, 3, .int .i64 r.feed), (B, 4, .int .i64 r.g0), (B, 5, .int .i64 r.g1), (B, 6, .int .i64 r.g2), (B, 7, .int .i64 r.lost), (S, 0, .int .i64 s0), (S, 1, .int .i64 s1), (M, 0, .int .i64 n0), (X, 0, .int .i64 x0)] : List (Nat × Nat × Value)) = l at h0
  have HA := Lib.hid (fun W (h : HB l w W) => (show W.cell? ⟨B, 0, none⟩ = some (.slice r.ha r.hn r.hc) ∧ W.cell? ⟨B, 1, none⟩ = some (.slice r.wa r.wn r.wc) ∧ W.cell? ⟨B, 2, none⟩ = some (.int .i64 r.own) ∧ W.cell? ⟨B, 3, none⟩ = some (.int .i64 r.feed) ∧ W.cell? ⟨B, 4, none⟩ = some (.int .i64 r.g0) ∧ W.cell? ⟨B, 5, none⟩ = some (.int .i64 r.g1) ∧ W.cell? ⟨B, 6, none⟩ = some (.int .i64 r.g2) ∧ W.cell? ⟨B, 7, none⟩ = some (.int .i64 r.lost) ∧ W.cell? ⟨S, 0, none⟩ = some (.int .i64 s0) ∧ W.cell? ⟨S, 1, none⟩ = some (.int .i64 s1) ∧ W.cell? ⟨M, 0, none⟩ = some (.int .i64 n0) ∧ W.cell? ⟨X, 0, none⟩ = some (.int .i64 x0) ∧ HB l w W from ⟨h.at 0 (by rw [← hl]; rfl), h.at 1 (by rw [← hl]; rfl), h.at 2 (by rw [← hl]; rfl), h.at 3 (by rw [← hl]; rfl), h.at 4 (by rw [← hl]; rfl), h.at 5 (by rw [← hl]; rfl), h.at 6 (by rw [← hl]; rfl), h.at 7 (by rw [← hl]; rfl), h.at 8 (by rw [← hl]; rfl), h.at 9 (by rw [← hl]; rfl), h.at 10 (by rw [← hl]; rfl), h.at 11 (by rw [← hl]; rfl), h⟩))
  clear hl
  have H1 := Lib.hid (fun W => most_any r hs ws (n0 + i) s1 s0 W hO (by omega) (by omega) h4.1 h4.2)
  have u1 : IntKind.i64.wrap (n0 + i) = n0 + i := IntWalk.i64_in _ (by omega)
  generalize mostS r s1 (n0 + i) = p at H1 ⊢
  clear hO h1 h2 h4
  go_enter Try.func114, Try.ntmps114
  go_wp2
  go_region_held3 (fun W => W.cell? ⟨B, 0, none⟩ = some (.slice r.ha r.hn r.hc) ∧ W.cell? ⟨B, 1, none⟩ = some (.slice r.wa r.wn r.wc) ∧ W.cell? ⟨B, 2, none⟩ = some (.int .i64 r.own) ∧ W.cell? ⟨B, 3, none⟩ = some (.int .i64 r.feed) ∧ W.cell? ⟨B, 4, none⟩ = some (.int .i64 r.g0) ∧ W.cell? ⟨B, 5, none⟩ = some (.int .i64 r.g1) ∧ W.cell? ⟨B, 6, none⟩ = some (.int .i64 r.g2) ∧ W.cell? ⟨B, 7, none⟩ = some (.int .i64 r.lost) ∧ W.cell? ⟨S, 0, none⟩ = some (.int .i64 s0) ∧ W.cell? ⟨S, 1, none⟩ = some (.int .i64 s1) ∧ W.cell? ⟨M, 0, none⟩ = some (.int .i64 n0) ∧ W.cell? ⟨X, 0, none⟩ = some (.int .i64 x0) ∧ HB l w W) (first | exact HA.out _ h0.drew | exact HA.out _ (HB.below (hh12 (by assumption)) (by assumption))) (first | (go_at_call 86; ((with_reducible refine (H1.out _).mono ?_); rintro e w1 ⟨rfl, hb1⟩)))
  all_goals go_wp2_with fail
  all_goals go_ret
  all_goals exact ⟨rfl, (hh12 (by assumption) : HB l w _).b⟩

set_option maxRecDepth 100000 in
set_option maxHeartbeats 8000000 in
theorem before2_any (r : RuA) (hs ws : List T2) (s0 s1 n0 x1 : Int) (B S M X i : Nat) (w : World) (hO : RuOK r hs ws) (h1 : 0 ≤ n0) (h2 : n0 + i ≤ 1000000) (h3 : 0 ≤ s0 ∧ s0 ≤ 1000) (hB : B < w.heap.size) (hSb : S < w.heap.size) (hM : M < w.heap.size) (hX : X < w.heap.size)
    (k0 : w.cell? ⟨B, 0, none⟩ = some (.slice r.ha r.hn r.hc)) (k1 : w.cell? ⟨B, 1, none⟩ = some (.slice r.wa r.wn r.wc)) (k2 : w.cell? ⟨B, 2, none⟩ = some (.int .i64 r.own)) (k3 : w.cell? ⟨B, 3, none⟩ = some (.int .i64 r.feed)) (k4 : w.cell? ⟨B, 4, none⟩ = some (.int .i64 r.g0)) (k5 : w.cell? ⟨B, 5, none⟩ = some (.int .i64 r.g1)) (k6 : w.cell? ⟨B, 6, none⟩ = some (.int .i64 r.g2)) (k7 : w.cell? ⟨B, 7, none⟩ = some (.int .i64 r.lost)) (k8 : w.cell? ⟨S, 0, none⟩ = some (.int .i64 s0)) (k9 : w.cell? ⟨S, 1, none⟩ = some (.int .i64 s1)) (k10 : w.cell? ⟨M, 0, none⟩ = some (.int .i64 n0)) (k11 : w.cell? ⟨X, 1, none⟩ = some (.int .i64 x1)) :
    Calls Try.prog 115 #[.int .i64 i, .pointer (some ⟨B, 0, none⟩), .pointer (some ⟨S, 0, none⟩), .pointer (some ⟨M, 0, none⟩), .pointer (some ⟨X, 0, none⟩)] w fun e w' => e = .returned (.bool (decide (x1 < leastS r s0 (n0 + i)))) ∧ Below w.heap.size w w' := by
  have h0 : HB [(B, 0, .slice r.ha r.hn r.hc), (B, 1, .slice r.wa r.wn r.wc), (B, 2, .int .i64 r.own), (B, 3, .int .i64 r.feed), (B, 4, .int .i64 r.g0), (B, 5, .int .i64 r.g1), (B, 6, .int .i64 r.g2), (B, 7, .int .i64 r.lost), (S, 0, .int .i64 s0), (S, 1, .int .i64 s1), (M, 0, .int .i64 n0), (X, 1, .int .i64 x1)] w w := by
    refine ⟨fun p hp => ?_, Below.refl _ _⟩
    simp only [List.mem_cons, List.not_mem_nil, or_false] at hp
    rcases hp with rfl | rfl | rfl | rfl | rfl | rfl | rfl | rfl | rfl | rfl | rfl | rfl
    all_goals first | exact ⟨k0, hB⟩ | exact ⟨k1, hB⟩ | exact ⟨k2, hB⟩ | exact ⟨k3, hB⟩ | exact ⟨k4, hB⟩ | exact ⟨k5, hB⟩ | exact ⟨k6, hB⟩ | exact ⟨k7, hB⟩ | exact ⟨k8, hSb⟩ | exact ⟨k9, hSb⟩ | exact ⟨k10, hM⟩ | exact ⟨k11, hX⟩
  clear k0 k1 k2 k3 k4 k5 k6 k7 k8 k9 k10 k11
  generalize hl : ([(B, 0, .slice r.ha r.hn r.hc), (B, 1, .slice r.wa r.wn r.wc), (B, 2, .int .i64 r.own), (B, 3, .int .i64 r.feed), (B, 4, .int .i64 r.g0), (B, 5, .int .i64 r.g1), (B, 6, .int .i64 r.g2), (B, 7, .int .i64 r.lost), (S, 0, .int .i64 s0), (S, 1, .int .i64 s1), (M, 0, .int .i64 n0), (X, 1, .int .i64 x1)] : List (Nat × Nat × Value)) = l at h0
  have HA := Lib.hid (fun W (h : HB l w W) => (show W.cell? ⟨B, 0, none⟩ = some (.slice r.ha r.hn r.hc) ∧ W.cell? ⟨B, 1, none⟩ = some (.slice r.wa r.wn r.wc) ∧ W.cell? ⟨B, 2, none⟩ = some (.int .i64 r.own) ∧ W.cell? ⟨B, 3, none⟩ = some (.int .i64 r.feed) ∧ W.cell? ⟨B, 4, none⟩ = some (.int .i64 r.g0) ∧ W.cell? ⟨B, 5, none⟩ = some (.int .i64 r.g1) ∧ W.cell? ⟨B, 6, none⟩ = some (.int .i64 r.g2) ∧ W.cell? ⟨B, 7, none⟩ = some (.int .i64 r.lost) ∧ W.cell? ⟨S, 0, none⟩ = some (.int .i64 s0) ∧ W.cell? ⟨S, 1, none⟩ = some (.int .i64 s1) ∧ W.cell? ⟨M, 0, none⟩ = some (.int .i64 n0) ∧ W.cell? ⟨X, 1, none⟩ = some (.int .i64 x1) ∧ HB l w W from ⟨h.at 0 (by rw [← hl]; rfl), h.at 1 (by rw [← hl]; rfl), h.at 2 (by rw [← hl]; rfl), h.at 3 (by rw [← hl]; rfl), h.at 4 (by rw [← hl]; rfl), h.at 5 (by rw [← hl]; rfl), h.at 6 (by rw [← hl]; rfl), h.at 7 (by rw [← hl]; rfl), h.at 8 (by rw [← hl]; rfl), h.at 9 (by rw [← hl]; rfl), h.at 10 (by rw [← hl]; rfl), h.at 11 (by rw [← hl]; rfl), h⟩))
  clear hl
  have H1 := Lib.hid (fun W => least_any r hs ws (n0 + i) s0 s1 W hO (by omega) (by omega) h3.1 h3.2)
  have u1 : IntKind.i64.wrap (n0 + i) = n0 + i := IntWalk.i64_in _ (by omega)
  generalize leastS r s0 (n0 + i) = p at H1 ⊢
  clear hO h1 h2 h3
  go_enter Try.func115, Try.ntmps115
  go_wp2
  go_region_held3 (fun W => W.cell? ⟨B, 0, none⟩ = some (.slice r.ha r.hn r.hc) ∧ W.cell? ⟨B, 1, none⟩ = some (.slice r.wa r.wn r.wc) ∧ W.cell? ⟨B, 2, none⟩ = some (.int .i64 r.own) ∧ W.cell? ⟨B, 3, none⟩ = some (.int .i64 r.feed) ∧ W.cell? ⟨B, 4, none⟩ = some (.int .i64 r.g0) ∧ W.cell? ⟨B, 5, none⟩ = some (.int .i64 r.g1) ∧ W.cell? ⟨B, 6, none⟩ = some (.int .i64 r.g2) ∧ W.cell? ⟨B, 7, none⟩ = some (.int .i64 r.lost) ∧ W.cell? ⟨S, 0, none⟩ = some (.int .i64 s0) ∧ W.cell? ⟨S, 1, none⟩ = some (.int .i64 s1) ∧ W.cell? ⟨M, 0, none⟩ = some (.int .i64 n0) ∧ W.cell? ⟨X, 1, none⟩ = some (.int .i64 x1) ∧ HB l w W) (first | exact HA.out _ h0.drew | exact HA.out _ (HB.below (hh12 (by assumption)) (by assumption))) (first | (go_at_call 85; ((with_reducible refine (H1.out _).mono ?_); rintro e w1 ⟨rfl, hb1⟩)))
  all_goals go_wp2_with fail
  all_goals go_ret
  all_goals exact ⟨rfl, (hh12 (by assumption) : HB l w _).b⟩
end Go.Proofs.Ytanjkhclhcnnaaa

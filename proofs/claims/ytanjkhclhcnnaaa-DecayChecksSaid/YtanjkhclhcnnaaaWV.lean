/- What can follow a level. -/
import Derived.Test.YtanjkhclhcnnaaaWT
import Derived.Test.YtanjkhclhcnnaaaWU
namespace Go.Proofs.Ytanjkhclhcnnaaa
open Go.RowKit Go.Shelf

theorem hh12 {a b c d e f g i j k l m t : Prop} (h : a ∧ b ∧ c ∧ d ∧ e ∧ f ∧ g ∧ i ∧ j ∧ k ∧ l ∧ m ∧ t) : t := h.2.2.2.2.2.2.2.2.2.2.2.2
theorem cells_mem {cs : Array Value} {t : TypeId} {W : World} {n : Nat} (h : n = W.heap.size) (j : Nat) : (W.alloc (.cells cs t)).cell? ⟨n, j, none⟩ = cs[j]? := World.cell?_alloc_at _ _ _ _ h

set_option maxRecDepth 100000 in
set_option maxHeartbeats 8000000 in
theorem next_any (r : RuA) (hs ws : List T2) (s0 s1 n0 n1 : Int) (w : World) (hO : RuOK r hs ws) (h1 : 0 ≤ n0 ∧ n0 ≤ 1000000) (h2 : 0 ≤ n1 ∧ n1 ≤ 1000000) (h3 : 0 ≤ s0 ∧ s0 ≤ 1000) (h4 : 0 ≤ s1 ∧ s1 ≤ 1000) :
    Calls Try.prog 63 #[.agg r.cs, .agg #[.int .i64 s0, .int .i64 s1], .agg #[.int .i64 n0, .int .i64 n1]] w fun e w' => e = .returned (.agg #[.int .i64 (leastS r s0 n0), .int .i64 (mostS r s1 n1)]) ∧ Below w.heap.size w w' := by
  obtain ⟨W3, hW3⟩ : ∃ W3, ((((w.alloc (.cells r.cs 96)).alloc (.cells #[.int .i64 s0, .int .i64 s1] 28)).alloc (.cells #[.int .i64 n0, .int .i64 n1] 28)).alloc (.cells #[.int .i64 0, .int .i64 0] 28)) = W3 := ⟨_, rfl⟩
  have hb3 : Below w.heap.size w W3 := by rw [← hW3]; exact B_alloc (B_alloc (B_alloc (B_alloc (Below.refl _ _) _) _) _) _
  have z : W3.heap.size = w.heap.size + 1 + 1 + 1 + 1 := by rw [← hW3]; simp
  have cB : ∀ j, W3.cell? ⟨w.heap.size, j, none⟩ = r.cs[j]? := fun j => by rw [← hW3, alloc_old _ _ _ _ (by first | (simp; done) | (simp; omega)), alloc_old _ _ _ _ (by first | (simp; done) | (simp; omega)), alloc_old _ _ _ _ (by simp), cells_mem rfl]
  have cD : ∀ j, W3.cell? ⟨w.heap.size + 1, j, none⟩ = (#[.int .i64 s0, .int .i64 s1] : Array Value)[j]? := fun j => by rw [← hW3, alloc_old _ _ _ _ (by first | (simp; done) | (simp; omega)), alloc_old _ _ _ _ (by simp), cells_mem (by simp)]
  have cE : ∀ j, W3.cell? ⟨w.heap.size + 1 + 1, j, none⟩ = (#[.int .i64 n0, .int .i64 n1] : Array Value)[j]? := fun j => by rw [← hW3, alloc_old _ _ _ _ (by simp), cells_mem (by simp)]
  have tt : SpB (w.heap.size + 1 + 1 + 1) W3 := by
    rw [← hW3]
    exact ⟨by simp, ⟨0, by simp [go_sem]⟩, ⟨0, by simp [go_sem]⟩, by simp [go_sem], by simp [go_sem]⟩
  have h0 : HH [(w.heap.size, 0, .slice r.ha r.hn r.hc), (w.heap.size, 1, .slice r.wa r.wn r.wc), (w.heap.size, 2, .int .i64 r.own), (w.heap.size, 3, .int .i64 r.feed), (w.heap.size, 4, .int .i64 r.g0), (w.heap.size, 5, .int .i64 r.g1), (w.heap.size, 6, .int .i64 r.g2), (w.heap.size, 7, .int .i64 r.lost), (w.heap.size + 1, 0, .int .i64 s0), (w.heap.size + 1, 1, .int .i64 s1), (w.heap.size + 1 + 1, 0, .int .i64 n0), (w.heap.size + 1 + 1, 1, .int .i64 n1)] (w.heap.size + 1 + 1 + 1) w W3 := by
    refine ⟨fun p hp => ?_, tt, hb3, by omega⟩
    simp only [List.mem_cons, List.not_mem_nil, or_false] at hp
    rcases hp with rfl | rfl | rfl | rfl | rfl | rfl | rfl | rfl | rfl | rfl | rfl | rfl
    all_goals first | exact ⟨cB _, by rw [z]; show w.heap.size < _; omega, by show w.heap.size ≠ _; omega⟩ | exact ⟨cD _, by rw [z]; show w.heap.size + 1 < _; omega, by show w.heap.size + 1 ≠ _; omega⟩ | exact ⟨cE _, by rw [z]; show w.heap.size + 1 + 1 < _; omega, by show w.heap.size + 1 + 1 ≠ _; omega⟩
  clear cB cD cE tt z hb3
  generalize hl : ([(w.heap.size, 0, .slice r.ha r.hn r.hc), (w.heap.size, 1, .slice r.wa r.wn r.wc), (w.heap.size, 2, .int .i64 r.own), (w.heap.size, 3, .int .i64 r.feed), (w.heap.size, 4, .int .i64 r.g0), (w.heap.size, 5, .int .i64 r.g1), (w.heap.size, 6, .int .i64 r.g2), (w.heap.size, 7, .int .i64 r.lost), (w.heap.size + 1, 0, .int .i64 s0), (w.heap.size + 1, 1, .int .i64 s1), (w.heap.size + 1 + 1, 0, .int .i64 n0), (w.heap.size + 1 + 1, 1, .int .i64 n1)] : List (Nat × Nat × Value)) = l at h0
  have HA := Lib.hid (fun W (h : HH l (w.heap.size + 1 + 1 + 1) w W) => (show W.cell? ⟨w.heap.size, 0, none⟩ = some (.slice r.ha r.hn r.hc) ∧ W.cell? ⟨w.heap.size, 1, none⟩ = some (.slice r.wa r.wn r.wc) ∧ W.cell? ⟨w.heap.size, 2, none⟩ = some (.int .i64 r.own) ∧ W.cell? ⟨w.heap.size, 3, none⟩ = some (.int .i64 r.feed) ∧ W.cell? ⟨w.heap.size, 4, none⟩ = some (.int .i64 r.g0) ∧ W.cell? ⟨w.heap.size, 5, none⟩ = some (.int .i64 r.g1) ∧ W.cell? ⟨w.heap.size, 6, none⟩ = some (.int .i64 r.g2) ∧ W.cell? ⟨w.heap.size, 7, none⟩ = some (.int .i64 r.lost) ∧ W.cell? ⟨w.heap.size + 1, 0, none⟩ = some (.int .i64 s0) ∧ W.cell? ⟨w.heap.size + 1, 1, none⟩ = some (.int .i64 s1) ∧ W.cell? ⟨w.heap.size + 1 + 1, 0, none⟩ = some (.int .i64 n0) ∧ W.cell? ⟨w.heap.size + 1 + 1, 1, none⟩ = some (.int .i64 n1) ∧ HH l (w.heap.size + 1 + 1 + 1) w W from ⟨h.at 0 (by rw [← hl]; rfl), h.at 1 (by rw [← hl]; rfl), h.at 2 (by rw [← hl]; rfl), h.at 3 (by rw [← hl]; rfl), h.at 4 (by rw [← hl]; rfl), h.at 5 (by rw [← hl]; rfl), h.at 6 (by rw [← hl]; rfl), h.at 7 (by rw [← hl]; rfl), h.at 8 (by rw [← hl]; rfl), h.at 9 (by rw [← hl]; rfl), h.at 10 (by rw [← hl]; rfl), h.at 11 (by rw [← hl]; rfl), h⟩))
  clear hl
  have H1 := Lib.hid (fun W => least_any r hs ws n0 s0 s1 W hO h1.1 h1.2 h3.1 h3.2)
  have H2 := Lib.hid (fun W => most_any r hs ws n1 s1 s0 W hO h2.1 h2.2 h4.1 h4.2)
  generalize leastS r s0 n0 = p at H1 ⊢
  generalize mostS r s1 n1 = q at H2 ⊢
  replace hW3 := Lib.hid hW3
  have v0 : ∀ W, HH l (w.heap.size + 1 + 1 + 1) w W → W.cell? ⟨w.heap.size + 1 + 1 + 1, 0, none⟩ = some (.int .i64 (spv (w.heap.size + 1 + 1 + 1) 0 W)) := fun W h => h.t.v0
  have v1 : ∀ W, HH l (w.heap.size + 1 + 1 + 1) w W → W.cell? ⟨w.heap.size + 1 + 1 + 1, 1, none⟩ = some (.int .i64 (spv (w.heap.size + 1 + 1 + 1) 1 W)) := fun W h => h.t.v1
  have v2 : ∀ W, HH l (w.heap.size + 1 + 1 + 1) w W → W.frozen? ⟨w.heap.size + 1 + 1 + 1, 0, none⟩ = false := fun W h => h.t.f0
  have v3 : ∀ W, HH l (w.heap.size + 1 + 1 + 1) w W → W.frozen? ⟨w.heap.size + 1 + 1 + 1, 1, none⟩ = false := fun W h => h.t.f1
  clear hO h1 h2 h3 h4
  go_enter Try.func63, Try.ntmps63
  go_wp2
  rw [hW3.out]
  clear hW3
  go_region_held3 (fun W => W.cell? ⟨w.heap.size, 0, none⟩ = some (.slice r.ha r.hn r.hc) ∧ W.cell? ⟨w.heap.size, 1, none⟩ = some (.slice r.wa r.wn r.wc) ∧ W.cell? ⟨w.heap.size, 2, none⟩ = some (.int .i64 r.own) ∧ W.cell? ⟨w.heap.size, 3, none⟩ = some (.int .i64 r.feed) ∧ W.cell? ⟨w.heap.size, 4, none⟩ = some (.int .i64 r.g0) ∧ W.cell? ⟨w.heap.size, 5, none⟩ = some (.int .i64 r.g1) ∧ W.cell? ⟨w.heap.size, 6, none⟩ = some (.int .i64 r.g2) ∧ W.cell? ⟨w.heap.size, 7, none⟩ = some (.int .i64 r.lost) ∧ W.cell? ⟨w.heap.size + 1, 0, none⟩ = some (.int .i64 s0) ∧ W.cell? ⟨w.heap.size + 1, 1, none⟩ = some (.int .i64 s1) ∧ W.cell? ⟨w.heap.size + 1 + 1, 0, none⟩ = some (.int .i64 n0) ∧ W.cell? ⟨w.heap.size + 1 + 1, 1, none⟩ = some (.int .i64 n1) ∧ HH l (w.heap.size + 1 + 1 + 1) w W) (first | exact HA.out _ h0.drew | exact HA.out _ (HH.below (hh12 (by assumption)) (by assumption)) | exact HA.out _ (HH.set (hh12 (by assumption)) _ _)) (first | (go_at_call 85; ((with_reducible refine (H1.out _).mono ?_); rintro e w1 ⟨rfl, hb1⟩)) | (go_at_call 86; ((with_reducible refine (H2.out _).mono ?_); rintro e w1 ⟨rfl, hb1⟩)))
  all_goals (
    have hw1 := (h0.drew.below (by assumption)).below hb1
    obtain ⟨o0, o1⟩ := hw1.out0 p q
    have hset := hw1.set p q
    clear v0 v1 v2 v3 HA H1 H2 h0 hw1
    generalize (w1.setCell ⟨w.heap.size + 1 + 1 + 1, 0, none⟩ (.int .i64 p)).setCell ⟨w.heap.size + 1 + 1 + 1, 1, none⟩ (.int .i64 q) = W at *
    have hB := hset.b
    clear hset
    go_wp2_with fail
    exact bodyPost_ret (v := .agg #[.int .i64 p, .int .i64 q]) (by simp [results, Try.results63, go_sem, o0, o1]) rfl ⟨rfl, hB⟩)
end Go.Proofs.Ytanjkhclhcnnaaa

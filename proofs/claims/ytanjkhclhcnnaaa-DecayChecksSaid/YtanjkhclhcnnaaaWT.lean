/- Regions that read cells, call what makes memory, and end in a store of a span. -/
import Derived.Test.YtanjkhclhcnnaaaWS
import Derived.Test.YtanjkhclhcnnaaaWK
namespace Go.Proofs.Ytanjkhclhcnnaaa
open Go.RowKit Go.Shelf

/-- A block that holds a span. -/
structure SpB (T : Nat) (W : World) : Prop where
  lt : T < W.heap.size
  c0 : ∃ x, W.cell? ⟨T, 0, none⟩ = some (.int .i64 x)
  c1 : ∃ x, W.cell? ⟨T, 1, none⟩ = some (.int .i64 x)
  f0 : W.frozen? ⟨T, 0, none⟩ = false
  f1 : W.frozen? ⟨T, 1, none⟩ = false
def spv (T j : Nat) (W : World) : Int := match W.cell? ⟨T, j, none⟩ with | some (.int _ n) => n | _ => 0
theorem SpB.v0 {T : Nat} {W : World} (h : SpB T W) : W.cell? ⟨T, 0, none⟩ = some (.int .i64 (spv T 0 W)) := by
  obtain ⟨x, hx⟩ := h.c0; unfold spv; rw [hx]
theorem SpB.v1 {T : Nat} {W : World} (h : SpB T W) : W.cell? ⟨T, 1, none⟩ = some (.int .i64 (spv T 1 W)) := by
  obtain ⟨x, hx⟩ := h.c1; unfold spv; rw [hx]
theorem SpB.drew {T : Nat} {W : World} (h : SpB T W) : SpB T W.drew := ⟨h.lt, h.c0, h.c1, h.f0, h.f1⟩
theorem SpB.below {T : Nat} {W W1 : World} (h : SpB T W) (hb : Below W.heap.size W W1) : SpB T W1 :=
  ⟨Nat.lt_of_lt_of_le h.lt hb.size, let ⟨x, hx⟩ := h.c0; ⟨x, (hb.cell (p := ⟨T, 0, none⟩) h.lt).trans hx⟩, let ⟨x, hx⟩ := h.c1; ⟨x, (hb.cell (p := ⟨T, 1, none⟩) h.lt).trans hx⟩, (hb.frozen (p := ⟨T, 0, none⟩) h.lt).trans h.f0, (hb.frozen (p := ⟨T, 1, none⟩) h.lt).trans h.f1⟩
theorem set_same {W : World} {a : Addr} {u v : Value} (h : W.cell? a = some u) : (W.setCell a v).cell? a = some v := World.cell?_setCell_same' _ _ _ (by rw [h]; rfl)
theorem SpB.set0 {T : Nat} {W : World} (h : SpB T W) (x : Int) : SpB T (W.setCell ⟨T, 0, none⟩ (.int .i64 x)) ∧ (W.setCell ⟨T, 0, none⟩ (.int .i64 x)).cell? ⟨T, 0, none⟩ = some (.int .i64 x) ∧ (W.setCell ⟨T, 0, none⟩ (.int .i64 x)).cell? ⟨T, 1, none⟩ = W.cell? ⟨T, 1, none⟩ := by
  have e0 := set_same (v := .int .i64 x) h.v0
  have e1 : (W.setCell ⟨T, 0, none⟩ (.int .i64 x)).cell? ⟨T, 1, none⟩ = W.cell? ⟨T, 1, none⟩ := World.cell?_setCell_other _ _ _ _ (by simp)
  exact ⟨⟨by simpa using h.lt, ⟨x, e0⟩, by rw [e1]; exact h.c1, by rw [World.frozen?_setCell]; exact h.f0, by rw [World.frozen?_setCell]; exact h.f1⟩, e0, e1⟩
theorem SpB.set1 {T : Nat} {W : World} (h : SpB T W) (x : Int) : SpB T (W.setCell ⟨T, 1, none⟩ (.int .i64 x)) ∧ (W.setCell ⟨T, 1, none⟩ (.int .i64 x)).cell? ⟨T, 1, none⟩ = some (.int .i64 x) ∧ (W.setCell ⟨T, 1, none⟩ (.int .i64 x)).cell? ⟨T, 0, none⟩ = W.cell? ⟨T, 0, none⟩ := by
  have e0 := set_same (v := .int .i64 x) h.v1
  have e1 : (W.setCell ⟨T, 1, none⟩ (.int .i64 x)).cell? ⟨T, 0, none⟩ = W.cell? ⟨T, 0, none⟩ := World.cell?_setCell_other _ _ _ _ (by simp)
  exact ⟨⟨by simpa using h.lt, by rw [e1]; exact h.c0, ⟨x, e0⟩, by rw [World.frozen?_setCell]; exact h.f0, by rw [World.frozen?_setCell]; exact h.f1⟩, e0, e1⟩

/-- Cells that stay, a block that holds a span and may be written, and all else as before. -/
structure HH (l : List (Nat × Nat × Value)) (T : Nat) (w W : World) : Prop where
  c : ∀ p ∈ l, W.cell? ⟨p.1, p.2.1, none⟩ = some p.2.2 ∧ p.1 < W.heap.size ∧ p.1 ≠ T
  t : SpB T W
  b : Below w.heap.size w W
  le : w.heap.size ≤ T
theorem HH.at {l : List (Nat × Nat × Value)} {T : Nat} {w W : World} (h : HH l T w W) {b o : Nat} {v : Value} (i : Nat) (hi : l[i]? = some (b, o, v)) : W.cell? ⟨b, o, none⟩ = some v := (h.c (b, o, v) (List.mem_of_getElem? hi)).1
theorem HH.drew {l : List (Nat × Nat × Value)} {T : Nat} {w W : World} (h : HH l T w W) : HH l T w W.drew := ⟨h.c, h.t.drew, h.b.drew, h.le⟩
theorem HH.below {l : List (Nat × Nat × Value)} {T : Nat} {w W W1 : World} (h : HH l T w W) (hb : Below W.heap.size W W1) : HH l T w W1 :=
  ⟨fun p hp => by obtain ⟨a, b, c⟩ := h.c p hp; exact ⟨(hb.cell (p := ⟨p.1, p.2.1, none⟩) b).trans a, Nat.lt_of_lt_of_le b hb.size, c⟩, h.t.below hb, B_trans h.b hb, h.le⟩
theorem HH.set {l : List (Nat × Nat × Value)} {T : Nat} {w W : World} (h : HH l T w W) (x y : Int) : HH l T w ((W.setCell ⟨T, 0, none⟩ (.int .i64 x)).setCell ⟨T, 1, none⟩ (.int .i64 y)) := by
  refine ⟨fun p hp => ?_, ((h.t.set0 x).1.set1 y).1, (h.b.setCell h.le _).setCell h.le _, h.le⟩
  obtain ⟨a, b, c⟩ := h.c p hp
  refine ⟨?_, by simpa using b, c⟩
  rw [World.cell?_setCell_other _ _ _ _ (by intro e; exact c (by injection e with e1; exact e1.symm)), World.cell?_setCell_other _ _ _ _ (by intro e; exact c (by injection e with e1; exact e1.symm))]
  exact a
theorem HH.out0 {l : List (Nat × Nat × Value)} {T : Nat} {w W : World} (h : HH l T w W) (x y : Int) : ((W.setCell ⟨T, 0, none⟩ (.int .i64 x)).setCell ⟨T, 1, none⟩ (.int .i64 y)).cell? ⟨T, 0, none⟩ = some (.int .i64 x) ∧ ((W.setCell ⟨T, 0, none⟩ (.int .i64 x)).setCell ⟨T, 1, none⟩ (.int .i64 y)).cell? ⟨T, 1, none⟩ = some (.int .i64 y) := by
  obtain ⟨h0, e0, -⟩ := h.t.set0 x
  obtain ⟨-, e1, e2⟩ := h0.set1 y
  exact ⟨e2.trans e0, e1⟩

theorem hh5 {p q r s t : Prop} (h : p ∧ q ∧ r ∧ s ∧ t) : t := h.2.2.2.2

set_option maxHeartbeats 4000000 in
theorem strength_any (r : RuA) (hs ws : List T2) (a b c d : Int) (w : World) (hR : RuR w r hs ws) (hO : RuOK r hs ws) :
    Calls Try.prog 61 #[.agg r.cs, .agg #[.int .i64 a, .int .i64 b, .int .i64 c, .int .i64 d]] w fun e w' => e = .returned (.agg #[.int .i64 (strengthS hs ws a c), .int .i64 (strengthS hs ws b d)]) ∧ Below w.heap.size w w' := by
  have hb0 : Below w.heap.size w (w.alloc (.cells r.cs 96)) := B_alloc (Below.refl _ _) _
  obtain ⟨W3, hW3⟩ : ∃ W3, (((w.alloc (.cells r.cs 96)).alloc (.cells #[.int .i64 a, .int .i64 b, .int .i64 c, .int .i64 d] 39)).alloc (.cells #[.int .i64 0, .int .i64 0] 28)) = W3 := ⟨_, rfl⟩
  have hb3 : Below w.heap.size w W3 := by rw [← hW3]; exact B_alloc (B_alloc hb0 _) _
  have z : W3.heap.size = w.heap.size + 1 + 1 + 1 := by rw [← hW3]; simp
  have b0 : W3.cell? ⟨w.heap.size, 0, none⟩ = some (.slice r.ha r.hn r.hc) := by rw [← hW3, alloc_old _ _ _ _ (by simp; omega), alloc_old _ _ _ _ (by simp)]; simp [go_sem]
  have b1 : W3.cell? ⟨w.heap.size, 1, none⟩ = some (.slice r.wa r.wn r.wc) := by rw [← hW3, alloc_old _ _ _ _ (by simp; omega), alloc_old _ _ _ _ (by simp)]; simp [go_sem]
  have d0 : W3.cell? ⟨w.heap.size + 1, 0, none⟩ = some (.int .i64 a) := by rw [← hW3, alloc_old _ _ _ _ (by simp)]; simp [go_sem]
  have d1 : W3.cell? ⟨w.heap.size + 1, 1, none⟩ = some (.int .i64 b) := by rw [← hW3, alloc_old _ _ _ _ (by simp)]; simp [go_sem]
  have d2 : W3.cell? ⟨w.heap.size + 1, 2, none⟩ = some (.int .i64 c) := by rw [← hW3, alloc_old _ _ _ _ (by simp)]; simp [go_sem]
  have d3 : W3.cell? ⟨w.heap.size + 1, 3, none⟩ = some (.int .i64 d) := by rw [← hW3, alloc_old _ _ _ _ (by simp)]; simp [go_sem]
  have tt : SpB (w.heap.size + 1 + 1) W3 := by
    rw [← hW3]
    exact ⟨by simp, ⟨0, by simp [go_sem]⟩, ⟨0, by simp [go_sem]⟩, by simp [go_sem], by simp [go_sem]⟩
  have h0 : HH [(w.heap.size, 0, .slice r.ha r.hn r.hc), (w.heap.size, 1, .slice r.wa r.wn r.wc), (w.heap.size + 1, 0, .int .i64 a), (w.heap.size + 1, 1, .int .i64 b), (w.heap.size + 1, 2, .int .i64 c), (w.heap.size + 1, 3, .int .i64 d)] (w.heap.size + 1 + 1) w W3 := by
    refine ⟨fun p hp => ?_, tt, hb3, by omega⟩
    simp only [List.mem_cons, List.not_mem_nil, or_false] at hp
    rcases hp with rfl | rfl | rfl | rfl | rfl | rfl
    · exact ⟨b0, by rw [z]; simp; omega, by simp; omega⟩
    · exact ⟨b1, by rw [z]; simp; omega, by simp; omega⟩
    · exact ⟨d0, by rw [z]; simp, by simp⟩
    · exact ⟨d1, by rw [z]; simp, by simp⟩
    · exact ⟨d2, by rw [z]; simp, by simp⟩
    · exact ⟨d3, by rw [z]; simp, by simp⟩
  clear b0 b1 d0 d1 d2 d3 tt z hb3 hb0
  generalize hl : ([(w.heap.size, 0, .slice r.ha r.hn r.hc), (w.heap.size, 1, .slice r.wa r.wn r.wc), (w.heap.size + 1, 0, .int .i64 a), (w.heap.size + 1, 1, .int .i64 b), (w.heap.size + 1, 2, .int .i64 c), (w.heap.size + 1, 3, .int .i64 d)] : List (Nat × Nat × Value)) = l at h0
  have H1 := Lib.hid (fun W (h : HH l (w.heap.size + 1 + 1) w W) => strength1_any r hs ws a c w.heap.size W (hR.below h.b) hO (h.at 0 (by rw [← hl]; rfl)) (h.at 1 (by rw [← hl]; rfl)) (h.c (w.heap.size, 0, .slice r.ha r.hn r.hc) (by rw [← hl]; simp)).2.1)
  have H2 := Lib.hid (fun W (h : HH l (w.heap.size + 1 + 1) w W) => strength1_any r hs ws b d w.heap.size W (hR.below h.b) hO (h.at 0 (by rw [← hl]; rfl)) (h.at 1 (by rw [← hl]; rfl)) (h.c (w.heap.size, 0, .slice r.ha r.hn r.hc) (by rw [← hl]; simp)).2.1)
  have HA := Lib.hid (fun W (h : HH l (w.heap.size + 1 + 1) w W) => (show W.cell? ⟨w.heap.size + 1, 0, none⟩ = some (.int .i64 a) ∧ W.cell? ⟨w.heap.size + 1, 1, none⟩ = some (.int .i64 b) ∧ W.cell? ⟨w.heap.size + 1, 2, none⟩ = some (.int .i64 c) ∧ W.cell? ⟨w.heap.size + 1, 3, none⟩ = some (.int .i64 d) ∧ HH l (w.heap.size + 1 + 1) w W from ⟨h.at 2 (by rw [← hl]; rfl), h.at 3 (by rw [← hl]; rfl), h.at 4 (by rw [← hl]; rfl), h.at 5 (by rw [← hl]; rfl), h⟩))
  clear hl
  generalize strengthS hs ws a c = p at H1 ⊢
  generalize strengthS hs ws b d = q at H2 ⊢
  have hmf : ∀ (fn : Fn) (first cap : Array Value) (w : World), (Instr.makeFunc fn first cap).run Try.prog w = .ok (.func fn first cap) w := fun _ _ _ _ => rfl
  replace hW3 := Lib.hid hW3
  have v0 : ∀ W, HH l (w.heap.size + 1 + 1) w W → W.cell? ⟨w.heap.size + 1 + 1, 0, none⟩ = some (.int .i64 (spv (w.heap.size + 1 + 1) 0 W)) := fun W h => h.t.v0
  have v1 : ∀ W, HH l (w.heap.size + 1 + 1) w W → W.cell? ⟨w.heap.size + 1 + 1, 1, none⟩ = some (.int .i64 (spv (w.heap.size + 1 + 1) 1 W)) := fun W h => h.t.v1
  have v2 : ∀ W, HH l (w.heap.size + 1 + 1) w W → W.frozen? ⟨w.heap.size + 1 + 1, 0, none⟩ = false := fun W h => h.t.f0
  have v3 : ∀ W, HH l (w.heap.size + 1 + 1) w W → W.frozen? ⟨w.heap.size + 1 + 1, 1, none⟩ = false := fun W h => h.t.f1
  clear hR hO
  go_enter Try.func61, Try.ntmps61
  go_wp2
  rw [hW3.out]
  clear hW3
  go_region_held3 (fun W => W.cell? ⟨w.heap.size + 1, 0, none⟩ = some (.int .i64 a) ∧ W.cell? ⟨w.heap.size + 1, 1, none⟩ = some (.int .i64 b) ∧ W.cell? ⟨w.heap.size + 1, 2, none⟩ = some (.int .i64 c) ∧ W.cell? ⟨w.heap.size + 1, 3, none⟩ = some (.int .i64 d) ∧ HH l (w.heap.size + 1 + 1) w W) (first | exact HA.out _ h0.drew | exact HA.out _ (HH.below (hh5 (by assumption)) (by assumption)) | exact HA.out _ (HH.set (hh5 (by assumption)) _ _)) (first | (go_at_call 82; ((with_reducible refine (H1.out _ (hh5 (by assumption))).mono ?_); rintro e w1 ⟨rfl, hb1⟩)) | (go_at_call 82; ((with_reducible refine (H2.out _ (hh5 (by assumption))).mono ?_); rintro e w1 ⟨rfl, hb1⟩)))
  have hw1 := (h0.drew.below (by assumption)).below hb1
  obtain ⟨o0, o1⟩ := hw1.out0 p q
  have hset := hw1.set p q
  clear v0 v1 v2 v3 HA H1 H2 h0 hw1
  generalize (w1.setCell ⟨w.heap.size + 1 + 1, 0, none⟩ (.int .i64 p)).setCell ⟨w.heap.size + 1 + 1, 1, none⟩ (.int .i64 q) = W at *
  have hB := hset.b
  clear hset
  go_wp2_with fail
  exact bodyPost_ret (v := .agg #[.int .i64 p, .int .i64 q]) (by simp [results, Try.results61, go_sem, o0, o1]) rfl ⟨rfl, hB⟩
end Go.Proofs.Ytanjkhclhcnnaaa

/- before. -/
import Derived.Test.YtanjkhclhcnnaaaYE
import Derived.Test.YtanjkhclhcnnaaaWP
namespace Go.Proofs.Ytanjkhclhcnnaaa
open Go.RowKit Go.Shelf

set_option maxRecDepth 100000 in
set_option maxHeartbeats 8000000 in
theorem before_any (r : RuA) (hs ws : List T2) (s0 s1 n0 n1 x0 x1 : Int) (w : World) (hO : RuOK r hs ws) (h1 : 0 ≤ n0) (h2 : n1 ≤ 1000000) (h5 : n0 ≤ n1 + 1) (h3 : 0 ≤ s0 ∧ s0 ≤ 1000) (h4 : 0 ≤ s1 ∧ s1 ≤ 1000) :
    Calls Try.prog 90 #[.agg r.cs, .agg #[.int .i64 s0, .int .i64 s1], .agg #[.int .i64 n0, .int .i64 n1], .agg #[.int .i64 x0, .int .i64 x1]] w fun e w' => e = .returned (.agg #[.int .i64 (beforeS r (s0, s1) (n0, n1) (x0, x1)).1, .int .i64 (beforeS r (s0, s1) (n0, n1) (x0, x1)).2]) ∧ Below w.heap.size w w' := by
  obtain ⟨c, hc⟩ : ∃ c : Nat, (n1 - n0 + 1).toNat = c := ⟨_, rfl⟩
  have hcn : (c : Int) = n1 - n0 + 1 := by omega
  obtain ⟨f1, -⟩ := hO.feed
  obtain ⟨W5, hW5⟩ : ∃ W5, (((((w.alloc (.cells r.cs 96)).alloc (.cells #[.int .i64 s0, .int .i64 s1] 28)).alloc (.cells #[.int .i64 n0, .int .i64 n1] 28)).alloc (.cells #[.int .i64 x0, .int .i64 x1] 28)).alloc (.cells #[.int .i64 0, .int .i64 0] 28)) = W5 := ⟨_, rfl⟩
  have hb5 : Below w.heap.size w W5 := by rw [← hW5]; exact B_alloc (B_alloc (B_alloc (B_alloc (B_alloc (Below.refl _ _) _) _) _) _) _
  have z : W5.heap.size = w.heap.size + 1 + 1 + 1 + 1 + 1 := by rw [← hW5]; simp
  have cB : ∀ j, W5.cell? ⟨w.heap.size, j, none⟩ = r.cs[j]? := fun j => by rw [← hW5, alloc_old _ _ _ _ (by first | (simp; done) | (simp; omega)), alloc_old _ _ _ _ (by first | (simp; done) | (simp; omega)), alloc_old _ _ _ _ (by first | (simp; done) | (simp; omega)), alloc_old _ _ _ _ (by simp), cells_mem rfl]
  have cS : ∀ j, W5.cell? ⟨w.heap.size + 1, j, none⟩ = (#[.int .i64 s0, .int .i64 s1] : Array Value)[j]? := fun j => by rw [← hW5, alloc_old _ _ _ _ (by first | (simp; done) | (simp; omega)), alloc_old _ _ _ _ (by first | (simp; done) | (simp; omega)), alloc_old _ _ _ _ (by simp), cells_mem (by simp)]
  have cN : ∀ j, W5.cell? ⟨w.heap.size + 1 + 1, j, none⟩ = (#[.int .i64 n0, .int .i64 n1] : Array Value)[j]? := fun j => by rw [← hW5, alloc_old _ _ _ _ (by first | (simp; done) | (simp; omega)), alloc_old _ _ _ _ (by simp), cells_mem (by simp)]
  have cX : ∀ j, W5.cell? ⟨w.heap.size + 1 + 1 + 1, j, none⟩ = (#[.int .i64 x0, .int .i64 x1] : Array Value)[j]? := fun j => by rw [← hW5, alloc_old _ _ _ _ (by simp), cells_mem (by simp)]
  have cT : ∀ j, W5.cell? ⟨w.heap.size + 1 + 1 + 1 + 1, j, none⟩ = (#[.int .i64 0, .int .i64 0] : Array Value)[j]? := fun j => by rw [← hW5, cells_mem (by simp)]
  have fT : ∀ j, W5.frozen? ⟨w.heap.size + 1 + 1 + 1 + 1, j, none⟩ = false := fun j => by rw [← hW5]; simp [go_sem]
  have e1 := firstT_spec (p := fun i => decide (x0 ≤ mostS r s1 (n0 + (i : Nat)))) (f := c) (k := 0)
  have e2 := firstT_spec (p := fun i => decide (x1 < leastS r s0 (n0 + (i : Nat)))) (f := c) (k := 0)
  rw [Nat.zero_add] at e1 e2
  have hbs : beforeS r (s0, s1) (n0, n1) (x0, x1) = (n0 + (lowN r s1 n0 x0 c : Nat), n0 + (aboveN r s0 n0 x1 c : Nat) - 1) := by unfold beforeS; simp only; rw [hc]
  rw [hbs]
  clear hbs
  have H1 := Lib.hid (fun W (hb : Below W5.heap.size W5 W) => search_any 114 #[.pointer (some ⟨w.heap.size, 0, none⟩), .pointer (some ⟨w.heap.size + 1, 0, none⟩), .pointer (some ⟨w.heap.size + 1 + 1, 0, none⟩), .pointer (some ⟨w.heap.size + 1 + 1 + 1, 0, none⟩)] (fun i => decide (x0 ≤ mostS r s1 (n0 + (i : Nat)))) c (lowN r s1 n0 x0 c) W (by omega) e1.2.1
    (fun t ht => e1.2.2.1 t (Nat.zero_le _) ht) (fun t ht1 ht2 => by
      have hp := of_decide_eq_true (e1.2.2.2 (show lowN r s1 n0 x0 c < c by omega))
      exact decide_eq_true (Int.le_trans hp (most_mono f1 h4.1 (show n0 + ((lowN r s1 n0 x0 c : Nat) : Int) ≤ n0 + (t : Nat) by omega))))
    (enters_of Try.func114 (by kernel_rfl) rfl)
    (fun i W1 hi hb1 => have hbb := B_trans hb hb1
      have hz := hbb.size
      before1_any r hs ws s0 s1 n0 x0 w.heap.size (w.heap.size + 1) (w.heap.size + 1 + 1) (w.heap.size + 1 + 1 + 1) i W1 hO h1 (by omega) h4 (by omega) (by omega) (by omega) (by omega)
      ((hbb.cell (by rw [z]; show w.heap.size < _; omega)).trans (cB 0)) ((hbb.cell (by rw [z]; show w.heap.size < _; omega)).trans (cB 1)) ((hbb.cell (by rw [z]; show w.heap.size < _; omega)).trans (cB 2)) ((hbb.cell (by rw [z]; show w.heap.size < _; omega)).trans (cB 3)) ((hbb.cell (by rw [z]; show w.heap.size < _; omega)).trans (cB 4)) ((hbb.cell (by rw [z]; show w.heap.size < _; omega)).trans (cB 5)) ((hbb.cell (by rw [z]; show w.heap.size < _; omega)).trans (cB 6)) ((hbb.cell (by rw [z]; show w.heap.size < _; omega)).trans (cB 7))
      ((hbb.cell (by rw [z]; show w.heap.size + 1 < _; omega)).trans (cS 0)) ((hbb.cell (by rw [z]; show w.heap.size + 1 < _; omega)).trans (cS 1)) ((hbb.cell (by rw [z]; show w.heap.size + 1 + 1 < _; omega)).trans (cN 0)) ((hbb.cell (by rw [z]; show w.heap.size + 1 + 1 + 1 < _; omega)).trans (cX 0))))
  have H2 := Lib.hid (fun W (hb : Below W5.heap.size W5 W) => search_any 115 #[.pointer (some ⟨w.heap.size, 0, none⟩), .pointer (some ⟨w.heap.size + 1, 0, none⟩), .pointer (some ⟨w.heap.size + 1 + 1, 0, none⟩), .pointer (some ⟨w.heap.size + 1 + 1 + 1, 0, none⟩)] (fun i => decide (x1 < leastS r s0 (n0 + (i : Nat)))) c (aboveN r s0 n0 x1 c) W (by omega) e2.2.1
    (fun t ht => e2.2.2.1 t (Nat.zero_le _) ht) (fun t ht1 ht2 => by
      have hp := of_decide_eq_true (e2.2.2.2 (show aboveN r s0 n0 x1 c < c by omega))
      exact decide_eq_true (Int.lt_of_lt_of_le hp (least_mono f1 h3.1 (show n0 + ((aboveN r s0 n0 x1 c : Nat) : Int) ≤ n0 + (t : Nat) by omega))))
    (enters_of Try.func115 (by kernel_rfl) rfl)
    (fun i W1 hi hb1 => have hbb := B_trans hb hb1
      have hz := hbb.size
      before2_any r hs ws s0 s1 n0 x1 w.heap.size (w.heap.size + 1) (w.heap.size + 1 + 1) (w.heap.size + 1 + 1 + 1) i W1 hO h1 (by omega) h3 (by omega) (by omega) (by omega) (by omega)
      ((hbb.cell (by rw [z]; show w.heap.size < _; omega)).trans (cB 0)) ((hbb.cell (by rw [z]; show w.heap.size < _; omega)).trans (cB 1)) ((hbb.cell (by rw [z]; show w.heap.size < _; omega)).trans (cB 2)) ((hbb.cell (by rw [z]; show w.heap.size < _; omega)).trans (cB 3)) ((hbb.cell (by rw [z]; show w.heap.size < _; omega)).trans (cB 4)) ((hbb.cell (by rw [z]; show w.heap.size < _; omega)).trans (cB 5)) ((hbb.cell (by rw [z]; show w.heap.size < _; omega)).trans (cB 6)) ((hbb.cell (by rw [z]; show w.heap.size < _; omega)).trans (cB 7))
      ((hbb.cell (by rw [z]; show w.heap.size + 1 < _; omega)).trans (cS 0)) ((hbb.cell (by rw [z]; show w.heap.size + 1 < _; omega)).trans (cS 1)) ((hbb.cell (by rw [z]; show w.heap.size + 1 + 1 < _; omega)).trans (cN 0)) ((hbb.cell (by rw [z]; show w.heap.size + 1 + 1 + 1 < _; omega)).trans (cX 1))))
  have hlo : lowN r s1 n0 x0 c ≤ c := e1.2.1
  have hab : aboveN r s0 n0 x1 c ≤ c := e2.2.1
  generalize lowN r s1 n0 x0 c = p at H1 hlo ⊢
  generalize aboveN r s0 n0 x1 c = q at H2 hab ⊢
  have u3 : IntKind.i64.wrap (n0 + p) = n0 + p := IntWalk.i64_in _ (by omega)
  have u4 : IntKind.i64.wrap (n0 + q) = n0 + q := IntWalk.i64_in _ (by omega)
  have u5 : IntKind.i64.wrap (n0 + q - 1) = n0 + q - 1 := IntWalk.i64_in _ (by omega)
  have hmf : ∀ (fn : Fn) (first cap : Array Value) (w : World), (Instr.makeFunc fn first cap).run Try.prog w = .ok (.func fn first cap) w := fun _ _ _ _ => rfl
  rw [hcn] at H1 H2
  have HT := Lib.hid (fun W (hb : Below W5.heap.size W5 W) => (show W.cell? ⟨w.heap.size + 1 + 1 + 1 + 1, 0, none⟩ = some (.int .i64 0) ∧ W.cell? ⟨w.heap.size + 1 + 1 + 1 + 1, 1, none⟩ = some (.int .i64 0) ∧ W.frozen? ⟨w.heap.size + 1 + 1 + 1 + 1, 0, none⟩ = false ∧ W.frozen? ⟨w.heap.size + 1 + 1 + 1 + 1, 1, none⟩ = false ∧ W.cell? ⟨w.heap.size + 1 + 1, 0, none⟩ = some (.int .i64 n0) ∧ W.cell? ⟨w.heap.size + 1 + 1, 1, none⟩ = some (.int .i64 n1) from
    ⟨(hb.cell (by rw [z]; show w.heap.size + 1 + 1 + 1 + 1 < _; omega)).trans (cT 0), (hb.cell (by rw [z]; show w.heap.size + 1 + 1 + 1 + 1 < _; omega)).trans (cT 1), (hb.frozen (by rw [z]; show w.heap.size + 1 + 1 + 1 + 1 < _; omega)).trans (fT 0), (hb.frozen (by rw [z]; show w.heap.size + 1 + 1 + 1 + 1 < _; omega)).trans (fT 1), (hb.cell (by rw [z]; show w.heap.size + 1 + 1 < _; omega)).trans (cN 0), (hb.cell (by rw [z]; show w.heap.size + 1 + 1 < _; omega)).trans (cN 1)⟩))
  replace hb5 := Lib.hid hb5
  obtain ⟨-, -, -, -, n0c, n1c⟩ := HT.out W5 (Below.refl _ _)
  clear cB cS cN cX cT fT z e1 e2 hO
  replace hW5 := Lib.hid hW5
  have hcn' := Lib.hid hcn
  have hc' := Lib.hid hc
  clear hcn hc
  go_enter Try.func90, Try.ntmps90
  go_upto_region 1 with fail
  rw [hW5.out]
  clear hW5
  go_wp2_with (first | (go_at_call 104; ((with_reducible refine (H1.out _ (Below.refl _ _)).mono ?_); rintro e w1 ⟨rfl, hb1⟩)) | (go_at_call 104; ((with_reducible refine (H2.out _ hb1).mono ?_); rintro e w2 ⟨rfl, hb2⟩; have hbw := B_trans hb1 hb2; obtain ⟨t0, t1, g0, g1, m0, m1⟩ := HT.out _ hbw)))
  refine bodyPost_ret (v := .agg #[.int .i64 (n0 + p), .int .i64 (n0 + q - 1)]) (by simp [results, Try.results90, go_sem, t0, t1]) rfl ⟨rfl, ?_⟩
  exact ((B_trans hb5.out hbw).setCell (by simp only; omega) _).setCell (by simp only; omega) _
end Go.Proofs.Ytanjkhclhcnnaaa

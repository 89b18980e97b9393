/- Strengths; what can follow a level. -/
import Derived.Test.YtanjkhclhcnnaaaWR
import Derived.Deep.RegionWith
import Derived.StillTailTactics
import Derived.Deep.Draws
namespace Go.Proofs.Ytanjkhclhcnnaaa
open Go.RowKit Go.Shelf

/-- What stays while memory is made: two cells of one block. -/
theorem ks_b {w W : World} {p q : Prop} (h : p ∧ q ∧ Below w.heap.size w W) : Below w.heap.size w W := h.2.2
theorem ks_step {w W W1 : World} {B i j : Nat} {x y : Value} (hB : B < w.heap.size) (h : W.cell? ⟨B, i, none⟩ = some x ∧ W.cell? ⟨B, j, none⟩ = some y ∧ Below w.heap.size w W) (hb : Below W.heap.size W W1) :
    W1.cell? ⟨B, i, none⟩ = some x ∧ W1.cell? ⟨B, j, none⟩ = some y ∧ Below w.heap.size w W1 :=
  have hs := Nat.lt_of_lt_of_le hB h.2.2.size
  ⟨(hb.cell (p := ⟨B, i, none⟩) hs).trans h.1, (hb.cell (p := ⟨B, j, none⟩) hs).trans h.2.1, B_trans h.2.2 hb⟩

set_option maxHeartbeats 4000000 in
theorem strength1_any (r : RuA) (hs ws : List T2) (a b : Int) (B : Nat) (w : World) (hR : RuR w r hs ws) (hO : RuOK r hs ws)
    (c0 : w.cell? ⟨B, 0, none⟩ = some (.slice r.ha r.hn r.hc)) (c1 : w.cell? ⟨B, 1, none⟩ = some (.slice r.wa r.wn r.wc)) (hB : B < w.heap.size) :
    Calls Try.prog 82 #[.int .i64 a, .int .i64 b, .pointer (some ⟨B, 0, none⟩)] w fun e w' => e = .returned (.int .i64 (strengthS hs ws a b)) ∧ Below w.heap.size w w' := by
  have H1 := Lib.hid (fun W (h : Below w.heap.size w W) => factor_any hs r.ha r.hn r.hc a (-300) 600 W (hR.h.below h) hO.h (by omega) (by omega))
  have H2 := Lib.hid (fun W (h : Below w.heap.size w W) => factor_any ws r.wa r.wn r.wc b 0 1000 W (hR.w.below h) hO.w (by omega) (by omega))
  have h1 := hO.h.factor_bd a
  have h2 := hO.w.factor_bd b
  have h3 := Int.mul_nonneg h1.1 h2.1
  have h4 : factorS hs a * factorS ws b ≤ 1000 * 1000 := Int.mul_le_mul h1.2 h2.2 h2.1 (by omega)
  unfold strengthS
  generalize factorS hs a = p at H1 h1 h3 h4 ⊢
  generalize factorS ws b = q at H2 h2 h3 h4 ⊢
  have u1 : IntKind.i64.wrap (p * q) = p * q := IntWalk.i64_in _ (by omega)
  have u2 : (p * q).tdiv 1000 = p * q / 1000 := Int.tdiv_eq_ediv_of_nonneg h3
  have u3 : IntKind.i64.wrap (p * q / 1000) = p * q / 1000 := IntWalk.i64_in _ (by omega)
  have hbl : Below w.heap.size w w := Below.refl _ _
  clear hR hO
  go_enter Try.func82, Try.ntmps82
  go_wp2
  go_region_held3 (fun w' => w'.cell? ⟨B, 0, none⟩ = some (.slice r.ha r.hn r.hc) ∧ w'.cell? ⟨B, 1, none⟩ = some (.slice r.wa r.wn r.wc) ∧ Below w.heap.size w w') (first | exact ⟨c0, c1, hbl.drew⟩ | exact ks_step hB (by assumption) (by assumption)) (first | (go_at_call 83; ((with_reducible refine (H1.out _ (ks_b (by assumption))).mono ?_); rintro e w1 ⟨rfl, hb1⟩)) | (go_at_call 83; ((with_reducible refine (H2.out _ (ks_b (by assumption))).mono ?_); rintro e w1 ⟨rfl, hb1⟩)))
  all_goals go_wp2_with fail
  all_goals go_ret
  all_goals exact ⟨rfl, ks_b (by assumption)⟩
end Go.Proofs.Ytanjkhclhcnnaaa

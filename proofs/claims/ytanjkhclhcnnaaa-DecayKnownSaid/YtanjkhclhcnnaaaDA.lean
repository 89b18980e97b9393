/- The reference's least, most, factor, strength, Strength, Grow, grade, Grade. -/
import Derived.Test.YtanjkhclhcnnaaaZF
import Derived.Deep.DeepCutAuto
namespace Go.Proofs.Ytanjkhclhcnnaaa
open Go.RowKit Go.Shelf

set_option maxRecDepth 100000 in
set_option maxHeartbeats 4000000 in
theorem refLeast_any (r : RuA) (hs ws : List T2) (n s t : Int) (w : World) (hO : RuOK r hs ws) (h1 : 0 ≤ n) (h2 : n ≤ 1000000) (h3 : 0 ≤ s) (h4 : s ≤ 1000) :
    Calls Try.prog 64 #[.agg r.cs, .agg #[.int .i64 s, .int .i64 t], .int .i64 n] w fun e w' => e = .returned (.int .i64 (leastS r s n)) ∧ Below w.heap.size w w' := by
  obtain ⟨g1, g2, g3, g4⟩ := hO.gain_bd h1 h2 h3 h4
  obtain ⟨o1, o2⟩ := hO.own
  unfold leastS
  unfold gainS at g3 g4 ⊢
  have u1 : IntKind.i64.wrap (r.own * 1000000) = r.own * 1000000 := IntWalk.i64_in _ (by omega)
  have u2 : IntKind.i64.wrap (n * r.feed) = n * r.feed := IntWalk.i64_in _ (by omega)
  have u3 : IntKind.i64.wrap (r.own * 1000000 + n * r.feed) = r.own * 1000000 + n * r.feed := IntWalk.i64_in _ (by omega)
  have u4 : IntKind.i64.wrap ((r.own * 1000000 + n * r.feed) * s) = (r.own * 1000000 + n * r.feed) * s := IntWalk.i64_in _ (by omega)
  generalize hg : (r.own * 1000000 + n * r.feed) * s = g at g3 g4 u4 ⊢
  have d1 : g.tdiv 1000000000 = g / 1000000000 := Int.tdiv_eq_ediv_of_nonneg g3
  have d2 : 0 ≤ g / 1000000000 := by omega
  have d3 : g / 1000000000 ≤ 2000000 := by omega
  have u5 : IntKind.i64.wrap (n + g / 1000000000) = n + g / 1000000000 := IntWalk.i64_in _ (by omega)
  clear hO
  have hb : Below w.heap.size w ((w.alloc (.cells r.cs 25)).alloc (.cells #[.int .i64 s, .int .i64 t] 28)) := B_alloc (B_alloc (Below.refl _ _) _) _
  replace hb := Lib.hid hb
  go_enter Try.func64, Try.ntmps64
  go_wp2
  all_goals go_ret
  all_goals exact ⟨ret_int (by omega), hb.out⟩
set_option maxRecDepth 100000 in
set_option maxHeartbeats 4000000 in
theorem refMost_any (r : RuA) (hs ws : List T2) (n s t : Int) (w : World) (hO : RuOK r hs ws) (h1 : 0 ≤ n) (h2 : n ≤ 1000000) (h3 : 0 ≤ s) (h4 : s ≤ 1000) :
    Calls Try.prog 65 #[.agg r.cs, .agg #[.int .i64 t, .int .i64 s], .int .i64 n] w fun e w' => e = .returned (.int .i64 (mostS r s n)) ∧ Below w.heap.size w w' := by
  obtain ⟨g1, g2, g3, g4⟩ := hO.gain_bd h1 h2 h3 h4
  obtain ⟨o1, o2⟩ := hO.own
  unfold mostS
  unfold gainS at g3 g4 ⊢
  have u1 : IntKind.i64.wrap (r.own * 1000000) = r.own * 1000000 := IntWalk.i64_in _ (by omega)
  have u2 : IntKind.i64.wrap (n * r.feed) = n * r.feed := IntWalk.i64_in _ (by omega)
  have u3 : IntKind.i64.wrap (r.own * 1000000 + n * r.feed) = r.own * 1000000 + n * r.feed := IntWalk.i64_in _ (by omega)
  have u4 : IntKind.i64.wrap ((r.own * 1000000 + n * r.feed) * s) = (r.own * 1000000 + n * r.feed) * s := IntWalk.i64_in _ (by omega)
  generalize hg : (r.own * 1000000 + n * r.feed) * s = g at g3 g4 u4 ⊢
  have u6 : IntKind.i64.wrap (g + 999999999) = g + 999999999 := IntWalk.i64_in _ (by omega)
  have d1 : (g + 999999999).tdiv 1000000000 = (g + 999999999) / 1000000000 := Int.tdiv_eq_ediv_of_nonneg (by omega)
  have d2 : 0 ≤ (g + 999999999) / 1000000000 := by omega
  have d3 : (g + 999999999) / 1000000000 ≤ 2000000 := by omega
  have u5 : IntKind.i64.wrap (n + (g + 999999999) / 1000000000) = n + (g + 999999999) / 1000000000 := IntWalk.i64_in _ (by omega)
  clear hO
  have hb : Below w.heap.size w ((w.alloc (.cells r.cs 25)).alloc (.cells #[.int .i64 t, .int .i64 s] 28)) := B_alloc (B_alloc (Below.refl _ _) _) _
  replace hb := Lib.hid hb
  go_enter Try.func65, Try.ntmps65
  go_wp2
  all_goals go_ret
  all_goals exact ⟨ret_int (by omega), hb.out⟩

set_option maxRecDepth 100000 in
set_option maxHeartbeats 4000000 in
theorem refFactor_any (l : List T2) (a : Option Addr) (n c : Nat) (x lo hi : Int) (w : World) (hS : Sl2 w a n l) (hC : CurveOK l lo hi) (hlo : -100000 ≤ lo) (hhi : hi ≤ 100000) :
    Calls Try.prog 84 #[.slice a n c, .int .i64 x] w fun e w' => e = .returned (.int .i64 (factorS l x)) ∧ Below w.heap.size w w' := by
  have hl := hS.len
  obtain ⟨hl1, hl2⟩ := hC.len
  have hle := posN_le l x
  obtain ⟨b, o, rfl, hbs, hc⟩ := hS.at_ (by omega)
  have hcw := Lib.hid (fun (i : Nat) (h : i < n) (W : World) (hb : Below w.heap.size w W) => (show W.cell? ⟨b, o + i * 2, none⟩ = some (.int .i64 (l.getD i (0, 0)).1) ∧ W.cell? ⟨b, o + i * 2 + 1, none⟩ = some (.int .i64 (l.getD i (0, 0)).2) from ⟨(hb.cell (p := ⟨b, o + i * 2, none⟩) hbs).trans (hc i h).1, (hb.cell (p := ⟨b, o + i * 2 + 1, none⟩) hbs).trans (hc i h).2⟩))
  obtain ⟨p0, p1⟩ := hc 0 (by omega)
  simp only [Nat.zero_mul, Nat.add_zero] at p0 p1
  have hn0 : 0 < n := by omega
  have hn1 : (0 : Int) < n := by omega
  have hn8 : (n : Int) ≤ 8 := by omega
  clear hc
  by_cases h0 : posN l x = 0
  · have hx : x ≤ (l.getD 0 (0, 0)).1 := by have := posN_at l x (by omega); rwa [h0] at this
    unfold factorS
    rw [if_pos h0]
    generalize l.getD 0 (0, 0) = v at p0 p1 hx ⊢
    clear hcw hS hC
    go_enter Try.func84, Try.ntmps84
    go_wp2
    go_ret
    exact ⟨rfl, Below.refl _ _⟩
  · have hx : ¬ x ≤ (l.getD 0 (0, 0)).1 := by have := posN_lt l x 0 (by omega); omega
    obtain ⟨f, hf⟩ : ∃ f, factorS l x = f := ⟨_, rfl⟩
    rw [hf]
    replace hf := Lib.hid hf
    generalize (l.getD 0 (0, 0)).1 = v at p0 hx
    clear p1
    go_enter Try.func84, Try.ntmps84
    go_wp2_with fail
    go_loopg [5] (n - 1) (fun gk i wr => ∃ k : Nat, gk = n - k ∧ i = .int .i64 k ∧ 1 ≤ k ∧ k ≤ n ∧ k ≤ posN l x ∧ Below w.heap.size w wr)
    case atStart => exact ⟨1, rfl, rfl, Nat.le_refl _, by omega, by omega, Below.refl _ _⟩
    case round =>
      obtain ⟨k, rfl, rfl, hk1, hk, hkp, hb⟩ := hrel
      rcases Nat.lt_or_ge k n with hlt | hge
      · obtain ⟨q0, q1⟩ := hcw.out (k - 1) (by omega) wr hb
        obtain ⟨q2, q3⟩ := hcw.out k hlt wr hb
        have hj1 := posN_lt l x (k - 1) (by omega)
        have hup := hC.up (k - 1) (by omega)
        have hAa := hC.at_ (k - 1) (by omega)
        have hAb := hC.at_ k (by omega)
        rw [show k - 1 + 1 = k by omega] at hup
        have hcase : (x ≤ (l.getD k (0, 0)).1 ∧ posN l x = k) ∨ (¬ x ≤ (l.getD k (0, 0)).1 ∧ k + 1 ≤ posN l x) := by
          rcases Nat.lt_or_ge k (posN l x) with h | h
          · exact Or.inr ⟨by have := posN_lt l x k h; omega, h⟩
          · have e : posN l x = k := by omega
            exact Or.inl ⟨by have := posN_at l x (by omega); rwa [e] at this, e⟩
        have hval : posN l x = k → f = interp (l.getD (k - 1) (0, 0)) (l.getD k (0, 0)) x := fun e => by
          rw [← hf.out]; unfold factorS; rw [if_neg (by omega), if_neg (by omega), e]
        generalize l.getD (k - 1) (0, 0) = va at q0 q1 hj1 hup hAa hval
        generalize l.getD k (0, 0) = vb at q2 q3 hup hAb hcase hval
        obtain ⟨a1, a2⟩ := va
        obtain ⟨b1, b2⟩ := vb
        simp only at q0 q1 q2 q3 hj1 hup hAa hAb hcase hval
        obtain ⟨j, rfl⟩ : ∃ j, k = j + 1 := ⟨k - 1, by omega⟩
        rw [show j + 1 - 1 = j from rfl] at q0 q1
        have k0 : ((j + 1 : Nat) : Int) = (j : Int) + 1 := by omega
        have k3 : (0 : Int) ≤ j := by omega
        have k4 : (j : Int) + 1 < n := by omega
        have k5 : (j : Int) < n := by omega
        have k7 : (0 : Int) ≤ (j : Int) + 1 := by omega
        have k8 : ((j : Int) + 1).toNat = j + 1 := by omega
        have k9 : IntKind.i64.wrap ((j : Int) + 1 - 1) = j := by rw [show (j : Int) + 1 - 1 = j by omega]; exact IntWalk.i64_in _ (by omega)
        have hbb : b < wr.heap.size := Nat.lt_of_lt_of_le hbs hb.size
        have hbb1 : b < wr.heap.size + 1 := by omega
        replace hb := Lib.hid hb
        replace hval := Lib.hid hval
        clear hS hC p0 hx
        rw [k0]
        go_upto_region 6 with fail
        go_cut [6, 7] (fun a b wx => ∃ ga gb : Nat, a = .pointer (some ⟨ga, 0, none⟩) ∧ b = .pointer (some ⟨gb, 0, none⟩) ∧ wx.cell? ⟨ga, 0, none⟩ = some (.int .i64 a1) ∧ wx.cell? ⟨ga, 1, none⟩ = some (.int .i64 a2) ∧ wx.cell? ⟨gb, 0, none⟩ = some (.int .i64 b1) ∧ wx.cell? ⟨gb, 1, none⟩ = some (.int .i64 b2) ∧ ga < wx.heap.size ∧ gb < wx.heap.size ∧ Below wr.heap.size wr wx)
        case first =>
          go_region
          all_goals go_wp2_with fail
          all_goals go_meet
          · exact ⟨wr.heap.size, wr.heap.size + 1, rfl, rfl, by simp, by simp, by simp, by simp, by first | (simp; done) | (simp; omega), by first | (simp; done) | (simp; omega), (B_alloc (B_alloc (Below.refl _ _) _) _).drew⟩
          · exact ⟨wr.heap.size + 1, wr.heap.size, rfl, rfl, by simp, by simp, by simp, by simp, by first | (simp; done) | (simp; omega), by first | (simp; done) | (simp; omega), (B_alloc (B_alloc (Below.refl _ _) _) _).drew⟩
        case rest =>
          obtain ⟨ga, gb, rfl, rfl, m1, m2, m3, m4, hga, hgb, hb1⟩ := hcut
          have hb3 := Lib.hid (B_trans hb.out hb1)
          rcases hcase with ⟨hx1, he⟩ | ⟨hx1, he⟩
          · replace hval := Lib.hid (hval.out he)
            have hup2 := hup
            have hnn : 0 ≤ (b2 - a2) * (x - a1) := Int.mul_nonneg (by omega) (by omega)
            have hnb : (b2 - a2) * (x - a1) ≤ 1000 * 200000 := Int.mul_le_mul (by omega) (by omega) (by omega) (by omega)
            have u1 : IntKind.i64.wrap (b2 - a2) = b2 - a2 := IntWalk.i64_in _ (by omega)
            have u2 : IntKind.i64.wrap (x - a1) = x - a1 := IntWalk.i64_in _ (by omega)
            have u3 : IntKind.i64.wrap ((b2 - a2) * (x - a1)) = (b2 - a2) * (x - a1) := IntWalk.i64_in _ (by omega)
            have u4 : IntKind.i64.wrap (b1 - a1) = b1 - a1 := IntWalk.i64_in _ (by omega)
            have u5 : ((b2 - a2) * (x - a1)).tdiv (b1 - a1) = (b2 - a2) * (x - a1) / (b1 - a1) := Int.tdiv_eq_ediv_of_nonneg hnn
            have hibd := interp_bd (a := (a1, a2)) (b := (b1, b2)) (x := x) hj1 hx1 hup.2
            unfold interp at hibd
            simp only at hibd
            have hquo : 0 ≤ (b2 - a2) * (x - a1) / (b1 - a1) := by omega
            have u6 : IntKind.i64.wrap ((b2 - a2) * (x - a1) / (b1 - a1)) = (b2 - a2) * (x - a1) / (b1 - a1) := IntWalk.i64_in _ (by omega)
            have u7 : IntKind.i64.wrap (a2 + (b2 - a2) * (x - a1) / (b1 - a1)) = a2 + (b2 - a2) * (x - a1) / (b1 - a1) := IntWalk.i64_in _ (by omega)
            have u8 : ¬ b1 - a1 = 0 := by omega
            clear hb hb1 hcw hf hup2
            go_wp2_with fail
            go_quiet (fail)
            go_wp2
            go_ret
            exact ⟨ret_int hval.out.symm, below_drewN hb3.out _⟩
          · clear hb hb1 hcw hf hval
            go_wp2_with fail
            go_roundg (n - (j + 1 + 1))
            case measure => omega
            case rel => exact ⟨j + 1 + 1, rfl, by push_cast; rfl, by omega, by omega, he, hb3.out⟩
      · obtain rfl : k = n := by omega
        obtain ⟨q0, q1⟩ := hcw.out (k - 1) (by omega) wr hb
        have e : posN l x = k := by omega
        have hval : f = (l.getD (k - 1) (0, 0)).2 := by
          rw [← hf.out]; unfold factorS; rw [if_neg (by omega), if_pos (by omega), e]
        generalize l.getD (k - 1) (0, 0) = va at q0 q1 hval
        obtain ⟨j, rfl⟩ : ∃ j, k = j + 1 := ⟨k - 1, by omega⟩
        rw [show j + 1 - 1 = j from rfl] at q0 q1
        have k0 : ((j + 1 : Nat) : Int) = (j : Int) + 1 := by omega
        have k3 : (0 : Int) ≤ j := by omega
        have k5 : (j : Int) < (j : Int) + 1 := by omega
        have k6 : j < j + 1 := by omega
        have k9 : IntKind.i64.wrap ((j : Int) + 1 - 1) = j := by rw [show (j : Int) + 1 - 1 = j by omega]; exact IntWalk.i64_in _ (by omega)
        replace hb := Lib.hid hb
        replace hval := Lib.hid hval
        clear hS hC p0 hx hcw
        go_wp2
        go_ret
        exact ⟨ret_int hval.out.symm, hb.out⟩
end Go.Proofs.Ytanjkhclhcnnaaa

/- The factor of a curve; the strength; what can follow a level. -/
import Derived.Test.YtanjkhclhcnnaaaWP
import Derived.Test.YtanjkhclhcnnaaaWQ
import Derived.Deep.DeepCutAuto
import Derived.RegionTactic
import Derived.ChangeAlike
import Derived.Deep.RegionHeld3
namespace Go.Proofs.Ytanjkhclhcnnaaa
open Go.RowKit Go.Shelf

set_option maxHeartbeats 1000000 in
theorem factor1_any (l : List T2) (a : Option Addr) (n c : Nat) (x : Int) (B1 B2 i : Nat) (w : World) (hn : n ≤ 100000) (hi' : i < n) (hS : Sl2 w a n l)
    (c1 : w.cell? ⟨B1, 0, none⟩ = some (.slice a n c)) (c2 : w.cell? ⟨B2, 0, none⟩ = some (.int .i64 x)) :
    Calls Try.prog 105 #[.int .i64 i, .pointer (some ⟨B1, 0, none⟩), .pointer (some ⟨B2, 0, none⟩)] w fun e w' => e = .returned (.bool (decide (x ≤ (l.getD i (0, 0)).1))) ∧ Below w.heap.size w w' := by
  obtain ⟨b, o, rfl, hbs, hc⟩ := hS.at_ (by omega)
  obtain ⟨p1, -⟩ := hc i hi'
  generalize (l.getD i (0, 0)).1 = p at p1 ⊢
  clear hc hS
  have hil : (i : Int) < n := by omega
  have hi0 : (0 : Int) ≤ i := by omega
  go_enter Try.func105, Try.ntmps105
  go_wp2
  go_quiet (fail)
  go_wp2
  go_ret
  exact ⟨rfl, below_drewN (Below.refl _ _) _⟩

set_option maxRecDepth 100000 in
set_option maxHeartbeats 4000000 in
theorem factor_any (l : List T2) (a : Option Addr) (n c : Nat) (x lo hi : Int) (w : World) (hS : Sl2 w a n l) (hC : CurveOK l lo hi) (hlo : -100000 ≤ lo) (hhi : hi ≤ 100000) :
    Calls Try.prog 83 #[.slice a n c, .int .i64 x] w fun e w' => e = .returned (.int .i64 (factorS l x)) ∧ Below w.heap.size w w' := by
  have hl := hS.len
  obtain ⟨hl1, hl2⟩ := hC.len
  have hle := posN_le l x
  have hb2 : Below w.heap.size w ((w.alloc (.cells #[.slice a n c] 22)).alloc (.cells #[.int .i64 x] 3)) := B_alloc (B_alloc (Below.refl _ _) _) _
  obtain ⟨W2, hW2⟩ : ∃ W2, ((w.alloc (.cells #[.slice a n c] 22)).alloc (.cells #[.int .i64 x] 3)) = W2 := ⟨_, rfl⟩
  have z1 : W2.cell? ⟨w.heap.size, 0, none⟩ = some (.slice a n c) := by rw [← hW2]; simp [go_sem]
  have z2 : W2.cell? ⟨w.heap.size + 1, 0, none⟩ = some (.int .i64 x) := by rw [← hW2]; simp [go_sem]
  have z : W2.heap.size = w.heap.size + 1 + 1 := by rw [← hW2]; simp
  rw [hW2] at hb2
  have HC := search_any 105 #[.pointer (some ⟨w.heap.size, 0, none⟩), .pointer (some ⟨w.heap.size + 1, 0, none⟩)] (fun i => decide (x ≤ (l.getD i (0, 0)).1)) n (posN l x) W2 (by omega) (by omega)
    (fun t ht => by have := posN_lt l x t ht; exact decide_eq_false (by omega)) (fun t ht1 ht2 => decide_eq_true (hC.pos_ge x t ht1 (by omega))) (enters_of Try.func105 (by kernel_rfl) rfl)
    (fun i W hi' hb => factor1_any l a n c x w.heap.size (w.heap.size + 1) i W (by omega) hi' (hS.below (B_trans hb2 hb)) ((hb.cell (by rw [z]; show w.heap.size < _; omega)).trans z1) ((hb.cell (by rw [z]; show w.heap.size + 1 < _; omega)).trans z2))
  rw [← hW2] at HC hb2
  clear z z1 z2 hW2
  replace HC := Lib.hid HC
  have hb2' := Lib.hid hb2
  have hmf : ∀ (fn : Fn) (first cap : Array Value) (w : World), (Instr.makeFunc fn first cap).run Try.prog w = .ok (.func fn first cap) w := fun _ _ _ _ => rfl
  unfold factorS
  obtain ⟨b, o, rfl, hbs, hc⟩ := hS.at_ (by omega)
  have hcw := fun (i : Nat) (h : i < n) (W : World) (hb : Below w.heap.size w W) => (show W.cell? ⟨b, o + i * 2, none⟩ = some (.int .i64 (l.getD i (0, 0)).1) ∧ W.cell? ⟨b, o + i * 2 + 1, none⟩ = some (.int .i64 (l.getD i (0, 0)).2) from ⟨(hb.cell (p := ⟨b, o + i * 2, none⟩) hbs).trans (hc i h).1, (hb.cell (p := ⟨b, o + i * 2 + 1, none⟩) hbs).trans (hc i h).2⟩)
  replace hcw := Lib.hid hcw
  clear hc hb2
  by_cases h0 : posN l x = 0
  · rw [if_pos h0]
    rw [h0] at HC
    have hp := Lib.hid (fun W hb => hcw.out 0 (by omega) W hb)
    generalize l.getD 0 (0, 0) = v at hp ⊢
    simp only [Nat.zero_mul, Nat.add_zero] at hp
    have hn0 : 0 < n := by omega
    have hn1 : (0 : Int) < n := by omega
    clear hS hC hl hl1 hle h0 hlo hhi hl2 hcw
    go_enter Try.func83, Try.ntmps83
    go_wp2_with (go_at_call 104; ((with_reducible refine HC.out.mono ?_); rintro e w1 ⟨rfl, hb⟩; obtain ⟨hc1, hf1⟩ := bcell hb; have hz : w.heap.size + 1 < w1.heap.size := (by have := hb.size; simp at this; omega); have hbW := B_trans hb2'.out hb; have hbb : b < w1.heap.size := (by omega); obtain ⟨-, q2⟩ := hp.out w1 hbW; clear hbW))
    go_ret
    exact ⟨rfl, B_trans hb2'.out hb⟩
  · rw [if_neg h0]
    by_cases hn : posN l x = l.length
    · rw [if_pos hn]
      rw [hn, hl] at HC
      rw [hn, hl]
      have hp := Lib.hid (fun W hb => hcw.out (n - 1) (by omega) W hb)
      generalize l.getD (n - 1) (0, 0) = v at hp ⊢
      obtain ⟨m, rfl⟩ : ∃ m, n = m + 1 := ⟨n - 1, by omega⟩
      rw [show m + 1 - 1 = m from rfl] at hp
      have k0 : ((m + 1 : Nat) : Int) = (m : Int) + 1 := by omega
      have k2 : ((m : Int) + 1 == 0) = false := by simp; omega
      have k4 : (m : Int) < (m : Int) + 1 := by omega
      have k5 : (0 : Int) ≤ m := by omega
      have k6 : m < m + 1 := by omega
      have k7 : (m : Int) ≤ 8 := by omega
      have k3 : IntKind.i64.wrap ((m : Int) + 1 - 1) = m := by rw [show (m : Int) + 1 - 1 = m by omega]; exact IntWalk.i64_in _ (by omega)
      rw [k0] at HC
      clear hS hC hl hl1 hle h0 hlo hhi hl2 hcw hn k0
      go_enter Try.func83, Try.ntmps83
      go_wp2_with (go_at_call 104; ((with_reducible refine HC.out.mono ?_); rintro e w1 ⟨rfl, hb⟩; obtain ⟨hc1, hf1⟩ := bcell hb; have hz : w.heap.size + 1 < w1.heap.size := (by have := hb.size; simp at this; omega); have hbW := B_trans hb2'.out hb; have hbb : b < w1.heap.size := (by omega); obtain ⟨-, q2⟩ := hp.out w1 hbW; clear hbW))
      go_ret
      exact ⟨rfl, B_trans hb2'.out hb⟩
    · rw [if_neg hn]
      have hj1 := posN_lt l x (posN l x - 1) (by omega)
      have hj2 := posN_at l x (by omega)
      have hup := hC.up (posN l x - 1) (by omega)
      have hAa := hC.at_ (posN l x - 1) (by omega)
      have hAb := hC.at_ (posN l x) (by omega)
      have hp := Lib.hid (fun W hb => hcw.out (posN l x - 1) (by omega) W hb)
      have hq := Lib.hid (fun W hb => hcw.out (posN l x) (by omega) W hb)
      rw [show posN l x - 1 + 1 = posN l x by omega] at hup
      generalize l.getD (posN l x - 1) (0, 0) = va at hp hj1 hup hAa ⊢
      generalize l.getD (posN l x) (0, 0) = vb at hq hj2 hup hAb ⊢
      have hibd := interp_bd hj1 hj2 hup.2
      generalize hpj : posN l x = pj at HC hp hq h0 hn hle
      obtain ⟨j, rfl⟩ : ∃ j, pj = j + 1 := ⟨pj - 1, by omega⟩
      rw [show j + 1 - 1 = j from rfl] at hp
      obtain ⟨a1, a2⟩ := va
      obtain ⟨b1, b2⟩ := vb
      simp only at hp hq hj1 hj2 hup hAa hAb
      have k0 : ((j + 1 : Nat) : Int) = (j : Int) + 1 := by omega
      rw [k0] at HC
      have k1 : ((j : Int) + 1 == 0) = false := by simp; omega
      have k2 : ((j : Int) + 1 == n) = false := by simp; omega
      have k3 : (0 : Int) ≤ j := by omega
      have k4 : (j : Int) + 1 < n := by omega
      have k5 : (j : Int) < n := by omega
      have k6 : (n : Int) ≤ 8 := by omega
      have k7 : (0 : Int) ≤ (j : Int) + 1 := by omega
      have k8 : ((j : Int) + 1).toNat = j + 1 := by omega
      have k9 : IntKind.i64.wrap ((j : Int) + 1 - 1) = j := by rw [show (j : Int) + 1 - 1 = j by omega]; exact IntWalk.i64_in _ (by omega)
      have k10 : IntKind.i64.wrap (j : Int) = j := IntWalk.i64_in _ (by omega)
      unfold interp at hibd ⊢
      simp only at hibd ⊢
      clear hS hC hl hl1 hle h0 hl2 hcw hn k0 hpj
      go_enter Try.func83, Try.ntmps83
      go_wp2_with (go_at_call 104; ((with_reducible refine HC.out.mono ?_); rintro e w1 ⟨rfl, hb⟩; obtain ⟨hc1, hf1⟩ := bcell hb; have hz : w.heap.size + 1 < w1.heap.size := (by have := hb.size; simp at this; omega); have hbW := Lib.hid (B_trans hb2'.out hb); have hbb : b < w1.heap.size := (by omega); obtain ⟨q1, q2⟩ := hp.out w1 hbW.out; obtain ⟨q3, q4⟩ := hq.out w1 hbW.out; have e1 : w1.cell? ⟨w.heap.size, 0, none⟩ = some (.slice (some ⟨b, o, none⟩) n c) := (by rw [hc1 _ _ (by simp; omega)]; simp [go_sem]); have e2 : w1.cell? ⟨w.heap.size + 1, 0, none⟩ = some (.int .i64 x) := (by rw [hc1 _ _ (by simp)]; simp [go_sem]); have hz0 : w.heap.size < w1.heap.size := (by omega); have hz1 : w.heap.size < w1.heap.size + 1 := (by omega); have hbb1 : b < w1.heap.size + 1 := (by omega); clear hc1 hf1))
      go_cut [6, 7] (fun a b wx => ∃ ga gb : Nat, a = .pointer (some ⟨ga, 0, none⟩) ∧ b = .pointer (some ⟨gb, 0, none⟩) ∧ wx.cell? ⟨ga, 0, none⟩ = some (.int .i64 a1) ∧ wx.cell? ⟨ga, 1, none⟩ = some (.int .i64 a2) ∧ wx.cell? ⟨gb, 0, none⟩ = some (.int .i64 b1) ∧ wx.cell? ⟨gb, 1, none⟩ = some (.int .i64 b2) ∧ ga < wx.heap.size ∧ gb < wx.heap.size ∧ Below w1.heap.size w1 wx)
      case first =>
        go_region
        all_goals go_wp2_with fail
        all_goals go_meet
        · exact ⟨w1.heap.size, w1.heap.size + 1, rfl, rfl, by simp, by simp, by simp, by simp, by first | (simp; done) | (simp; omega), by first | (simp; done) | (simp; omega), (B_alloc (B_alloc (Below.refl _ _) _) _).drew⟩
        · exact ⟨w1.heap.size + 1, w1.heap.size, rfl, rfl, by simp, by simp, by simp, by simp, by first | (simp; done) | (simp; omega), by first | (simp; done) | (simp; omega), (B_alloc (B_alloc (Below.refl _ _) _) _).drew⟩
      case rest =>
        obtain ⟨ga, gb, rfl, rfl, m1, m2, m3, m4, hga, hgb, hb1⟩ := hcut
        have e2' : wc.cell? ⟨w.heap.size + 1, 0, none⟩ = some (.int .i64 x) := (hb1.cell (p := ⟨w.heap.size + 1, 0, none⟩) (by show w.heap.size + 1 < _; omega)).trans e2
        have hnn : 0 ≤ (b2 - a2) * (x - a1) := Int.mul_nonneg (by omega) (by omega)
        have hnb : (b2 - a2) * (x - a1) ≤ 1000 * 200000 := Int.mul_le_mul (by omega) (by omega) (by omega) (by omega)
        have u1 : IntKind.i64.wrap (b2 - a2) = b2 - a2 := IntWalk.i64_in _ (by omega)
        have u2 : IntKind.i64.wrap (x - a1) = x - a1 := IntWalk.i64_in _ (by omega)
        have u3 : IntKind.i64.wrap ((b2 - a2) * (x - a1)) = (b2 - a2) * (x - a1) := IntWalk.i64_in _ (by omega)
        have u4 : IntKind.i64.wrap (b1 - a1) = b1 - a1 := IntWalk.i64_in _ (by omega)
        have u5 : ((b2 - a2) * (x - a1)).tdiv (b1 - a1) = (b2 - a2) * (x - a1) / (b1 - a1) := Int.tdiv_eq_ediv_of_nonneg hnn
        have hquo : 0 ≤ (b2 - a2) * (x - a1) / (b1 - a1) := by omega
        have u6 : IntKind.i64.wrap ((b2 - a2) * (x - a1) / (b1 - a1)) = (b2 - a2) * (x - a1) / (b1 - a1) := IntWalk.i64_in _ (by omega)
        have u7 : IntKind.i64.wrap (a2 + (b2 - a2) * (x - a1) / (b1 - a1)) = a2 + (b2 - a2) * (x - a1) / (b1 - a1) := IntWalk.i64_in _ (by omega)
        have u8 : ¬ b1 - a1 = 0 := by omega
        go_wp2_with fail
        go_quiet (fail)
        go_wp2
        go_ret
        exact ⟨rfl, below_drewN (B_trans hbW.out hb1) _⟩
end Go.Proofs.Ytanjkhclhcnnaaa

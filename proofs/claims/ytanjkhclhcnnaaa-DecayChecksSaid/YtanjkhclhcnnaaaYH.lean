/- The library's insertion sort. -/
import Derived.Test.YtanjkhclhcnnaaaYG
import Derived.IntWalk
import Derived.Deep.Draws
namespace Go.Proofs.Ytanjkhclhcnnaaa
open Go.RowKit Go.Shelf

theorem only_drewN {a w : World} {row : Option Nat} (h : a.grownBy w row) (n : Nat) : a.grownBy (w.drewN n) row := ⟨h.os, h.tape, h.output, h.size, h.block⟩
theorem Ob.drewN {W : World} {B : Nat} {T : TypeId} {cs : Array Value} (h : Ob W B T cs) (n : Nat) : Ob (W.drewN n) B T cs := h
theorem last4 {p q r s : Prop} (h : p ∧ q ∧ r ∧ s) : s := h.2.2.2
theorem kept3 {w W W1 : World} {g : Nat} {cs : Array Value} {p q : Prop} (h : p ∧ q ∧ Ob W g 3 cs ∧ w.grownBy W (some g)) (hb : Below W.heap.size W W1) : Ob W1 g 3 cs ∧ w.grownBy W1 (some g) := ⟨h.2.2.1.below hb, only_trans h.2.2.2 (only_below _ hb)⟩

set_option maxRecDepth 100000 in
set_option maxHeartbeats 8000000 in
theorem isort_any (f : Nat) (cap : Array Value) (cv : Nat → Nat → Int) (g n cp : Nat) (l0 : List Nat) (w : World) (hn : n ≤ 1000) (hl : l0.length = n) (hm : ∀ x ∈ l0, x < n) (hO : Ob w g 3 (cellsN l0))
    (eg : ∀ args w, (callFunc f args).run Try.prog w = .ok (.enter f args) w)
    (hf : ∀ (a b : Nat) (W : World), a < n → b < n → w.grownBy W (some g) → Calls Try.prog f (#[.int .i64 a, .int .i64 b] ++ cap) W fun e w' => e = .returned (.int .i64 (cv a b)) ∧ Below W.heap.size W w') :
    Calls Try.prog 126 #[.slice (some ⟨g, 0, none⟩) n cp, .int .i64 0, .int .i64 n, .func (.func f) #[] cap] w fun e w' => e = .returned (.tuple #[]) ∧ Ob w' g 3 (cellsN (isortL (fun a b => decide (cv a b < 0)) l0 (n - 1))) ∧ w.grownBy w' (some g) := by
  replace hf := Lib.hid hf
  replace hO := Lib.hid hO
  replace hm := Lib.hid hm
  go_enter Try.func126, Try.ntmps126
  go_wp2
  go_loopg [8] n (fun gk i wr => ∃ k : Nat, gk = n - k ∧ i = .int .i64 ((k : Int) + 1) ∧ (k + 1 ≤ n ∨ k = 0) ∧ Ob wr g 3 (cellsN (isortL (fun a b => decide (cv a b < 0)) l0 k)) ∧ w.grownBy wr (some g))
  case atStart => exact ⟨0, by omega, rfl, .inr rfl, hO.out, only_refl _ _⟩
  case round =>
    obtain ⟨k, rfl, rfl, hk, hOk, hg⟩ := hrel
    have hk0 : (0 : Int) ≤ k := by omega
    by_cases hlt : k + 1 < n
    · have hkl : (k : Int) + 1 < n := by omega
      have hlen := isortL_len (fun a b => decide (cv a b < 0)) l0 k
      have hmem := Lib.hid (isortL_mem (lt := fun a b => decide (cv a b < 0)) hm.out k (by omega))
      have hnx : Hid (isortL (fun a b => decide (cv a b < 0)) l0 (k + 1) = sinkL (fun a b => decide (cv a b < 0)) (k + 1) (isortL (fun a b => decide (cv a b < 0)) l0 k)) := rfl
      generalize isortL (fun a b => decide (cv a b < 0)) l0 k = L at hOk hlen hmem hnx
      obtain ⟨wo, rfl⟩ : ∃ wo, wo = wr := ⟨_, rfl⟩
      have hOk' := Lib.hid hOk
      have hg' := Lib.hid hg
      clear hOk hg
      go_wp2
      go_loopg [9] (k + 1) (fun gj j wr => ∃ (m : Nat) (L' : List Nat), gj = m ∧ j = .int .i64 (m : Int) ∧ m ≤ k + 1 ∧ L'.length = n ∧ (∀ x ∈ L', x < n) ∧ sinkL (fun a b => decide (cv a b < 0)) m L' = sinkL (fun a b => decide (cv a b < 0)) (k + 1) L ∧ Ob wr g 3 (cellsN L') ∧ w.grownBy wr (some g))
      case atStart => exact ⟨k + 1, L, rfl, by go_num, Nat.le_refl _, by omega, hmem.out, rfl, hOk'.out, hg'.out⟩
      case round =>
        obtain ⟨m, L', hgm, hjv, hm1, hl', hm', hs, hOj, hgj⟩ := hrel
        rcases m with _ | j
        · obtain rfl := hjv
          have hs' := Lib.hid hs
          have hOj' := Lib.hid hOj
          have hgj' := Lib.hid hgj
          clear hs hOj hgj hm'
          go_wp2_with fail
          go_quiet (fail)
          go_wp2
          go_roundg (n - (k + 1))
          case measure => omega
          case rel =>
            refine ⟨k + 1, rfl, by push_cast; rfl, .inl (by omega), ?_, only_drewN hgj'.out _⟩
            rw [hnx.out, ← hs'.out]
            exact hOj'.out.drewN _
        · obtain rfl : _ = Value.int .i64 ((j : Int) + 1) := hjv.trans (by push_cast; rfl)
          have ha := getD_mem_lt hm' (show j + 1 < L'.length by omega)
          have hb := getD_mem_lt hm' (show j < L'.length by omega)
          have hx := Lib.hid (cellsN_at (l := L') (j := j + 1) (by omega))
          have hy := Lib.hid (cellsN_at (l := L') (j := j) (by omega))
          have hsw := Lib.hid (cellsN_swap (l := L') (j := j))
          have C := Lib.hid (fun W (h : w.grownBy W (some g)) => hf.out _ _ W ha hb h)
          have hx0 : ∃ x, Hid (L'.getD (j + 1) 0 = x) := ⟨_, rfl⟩
          have hy0 : ∃ x, Hid (L'.getD j 0 = x) := ⟨_, rfl⟩
          obtain ⟨x, hx0⟩ := hx0
          obtain ⟨y, hy0⟩ := hy0
          rw [hx0.out] at ha hx C hsw
          rw [hy0.out] at hb hy C hsw
          have hs' := Lib.hid hs
          have u1 : IntKind.i64.wrap ((j : Int) + 1 - 1) = j := by rw [show (j : Int) + 1 - 1 = j by omega]; exact IntWalk.i64_in _ (by omega)
          have a1 : (0 : Int) ≤ (j : Int) + 1 := by omega
          have a2 : (j : Int) + 1 < n := by omega
          have a3 : (0 : Int) ≤ (j : Int) := by omega
          have a4 : (j : Int) < n := by omega
          have a5 : ((j : Int) + 1).toNat = j + 1 := by omega
          have a6 : (0 : Int) < (j : Int) + 1 := by omega
          have u2 : IntKind.i64.wrap (j : Int) = j := IntWalk.i64_in _ (by omega)
          have HK := Lib.hid (fun W (h : Ob W g 3 (cellsN L')) (h2 : w.grownBy W (some g)) => (show W.cell? ⟨g, j + 1, none⟩ = some (.int .i64 x) ∧ W.cell? ⟨g, j, none⟩ = some (.int .i64 y) ∧ Ob W g 3 (cellsN L') ∧ w.grownBy W (some g) from ⟨(h.cell (j + 1)).trans hx.out, (h.cell j).trans hy.out, h, h2⟩))
          have hr0 := Lib.hid (And.intro hOj hgj)
          clear hOj hgj hs hx hy
          by_cases hc : cv x y < 0
          · have hlt2 := Lib.hid (show cv (L'.getD (j + 1) 0) (L'.getD j 0) < 0 from by rw [hx0.out, hy0.out]; exact hc)
            go_wp2_with fail
            go_region_held3 (fun W => W.cell? ⟨g, j + 1, none⟩ = some (.int .i64 x) ∧ W.cell? ⟨g, j, none⟩ = some (.int .i64 y) ∧ Ob W g 3 (cellsN L') ∧ w.grownBy W (some g)) (first | exact HK.out _ hr0.out.1.drew (only_drew hr0.out.2) | exact HK.out _ (kept3 (by assumption) (by assumption)).1 (kept3 (by assumption) (by assumption)).2) (((with_reducible refine (C.out _ (last4 (by assumption))).mono ?_); rintro e w1 ⟨rfl, hb1⟩))
            have hw := kept3 (HK.out _ hr0.out.1.drew (only_drew hr0.out.2)) hb1
            have v1 := (HK.out _ hw.1 hw.2).1
            have v2 := (HK.out _ hw.1 hw.2).2.1
            have v3 := hw.1.frozen (j + 1)
            have v4 := hw.1.frozen j
            replace hw := Lib.hid hw
            rename_i hHeld
            clear HK C hr0 hHeld
            go_wp2_with fail
            go_region
            go_wp2
            go_roundg j
            case measure => omega
            case rel =>
              refine ⟨j, swapL L' j, rfl, by simp, by omega, by rw [swapL_len]; exact hl', swapL_mem hm' (by omega), ?_, ?_, ?_⟩
              · rw [← hs'.out]
                conv => rhs; unfold sinkL
                rw [if_pos (by simpa using hlt2.out)]
              · rw [← hsw.out]
                exact ((hw.out.1.drewN _).set _ _).set _ _
              · exact only_setCell (only_setCell (only_drewN hw.out.2 _) rfl _) rfl _
          · have hlt2 := Lib.hid (show ¬ cv (L'.getD (j + 1) 0) (L'.getD j 0) < 0 from by rw [hx0.out, hy0.out]; exact hc)
            go_wp2_with fail
            go_region_held3 (fun W => W.cell? ⟨g, j + 1, none⟩ = some (.int .i64 x) ∧ W.cell? ⟨g, j, none⟩ = some (.int .i64 y) ∧ Ob W g 3 (cellsN L') ∧ w.grownBy W (some g)) (first | exact HK.out _ hr0.out.1.drew (only_drew hr0.out.2) | exact HK.out _ (kept3 (by assumption) (by assumption)).1 (kept3 (by assumption) (by assumption)).2) (((with_reducible refine (C.out _ (last4 (by assumption))).mono ?_); rintro e w1 ⟨rfl, hb1⟩))
            have hw := Lib.hid (kept3 (HK.out _ hr0.out.1.drew (only_drew hr0.out.2)) hb1)
            rename_i hHeld
            clear HK C hr0 hHeld
            go_wp2
            go_roundg (n - (k + 1))
            case measure => omega
            case rel =>
              refine ⟨k + 1, rfl, by push_cast; rfl, .inl (by omega), ?_, hw.out.2⟩
              rw [hnx.out, ← hs'.out]
              conv => arg 4; arg 1; unfold sinkL
              rw [if_neg (by simpa using hlt2.out)]
              exact hw.out.1
    · obtain rfl : k = n - 1 := by omega
      have hkl : ¬ ((n - 1 : Nat) : Int) + 1 < n := by omega
      have hOk' := Lib.hid hOk
      have hg' := Lib.hid hg
      clear hOk hg
      go_wp2
      go_end0
      exact ⟨rfl, hOk'.out, hg'.out⟩
end Go.Proofs.Ytanjkhclhcnnaaa

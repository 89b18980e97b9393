/- The reference's curve. -/
import Derived.Test.YtanjkhclhcnnaaaWF
namespace Go.Proofs.Ytanjkhclhcnnaaa
open Go.RowKit Go.Shelf

set_option maxRecDepth 100000 in
set_option maxHeartbeats 4000000 in
theorem refCurve_any (l : List T2) (a : Option Addr) (n c : Nat) (lo hi : Int) (w : World) (hn : n ≤ 140737488351232) (hS : Sl2 w a n l) :
    Calls Try.prog 51 #[.slice a n c, .int .i64 lo, .int .i64 hi] w fun e w' => e = .returned (.tuple #[.int .i64 (curveE l lo hi).1, .int .i64 (curveE l lo hi).2]) ∧ Below w.heap.size w w' := by
  have hl := hS.len
  have HW := Lib.hid (fun W => in_any (n : Int) 2 8 W)
  unfold curveE
  rw [hl]
  cases x : inB n 2 8
  · rw [x] at HW
    clear hS hl x
    go_enter Try.func51, Try.ntmps51
    go_wp2_with (go_at_call 52; ((with_reducible refine (HW.out _).mono ?_); rintro e w1 ⟨rfl, rfl⟩))
    go_ret2
    exact ⟨rfl, Below.refl _ _⟩
  · rw [x] at HW
    obtain ⟨x1, x2⟩ := inB_iff.1 x
    obtain ⟨b, o, rfl, hbs, hc⟩ := hS.at_ (by omega)
    replace hc := Lib.hid hc
    have hn8 : n ≤ 8 := by omega
    have hn2 : 2 ≤ n := by omega
    clear hS hl x x1 x2 hn
    simp only [if_true]
    go_enter Try.func51, Try.ntmps51
    go_wp2_with (go_at_call 52; ((with_reducible refine (HW.out _).mono ?_); rintro e w1 ⟨rfl, rfl⟩))
    go_loopg [8] n (fun gk i wr => ∃ k : Nat, gk = n - k ∧ k ≤ n ∧ i = .int .i64 (k : Int) ∧ (firstE (ptE l lo hi) k).2 = 0 ∧ ∃ m, wr = w.drewN m)
    case atStart => exact ⟨0, rfl, Nat.zero_le _, rfl, rfl, 0, rfl⟩
    case round =>
      obtain ⟨k, rfl, hk, rfl, h0, m, rfl⟩ := hrel
      replace h0 := Lib.hid h0
      by_cases hlt : k < n
      · obtain ⟨p1, p2⟩ := hc.out k hlt
        obtain ⟨q1, q2⟩ := hc.out (k - 1) (by omega)
        have hs := Lib.hid (fun (h : ptE l lo hi k ≠ 0) => firstE_stop h0.out h hlt)
        have hx := Lib.hid (fun (h : ptE l lo hi k = 0) => firstE_next h0.out h)
        have hE : ptE l lo hi k = ptP (l.getD k (0, 0)) (l.getD (k - 1) (0, 0)) lo hi (decide (k = 0)) := rfl
        rw [hE] at hs hx
        clear hE
        generalize l.getD k (0, 0) = p at p1 p2 hs hx
        generalize l.getD (k - 1) (0, 0) = q at q1 q2 hs hx
        obtain ⟨p1', p2'⟩ := p
        obtain ⟨q1', q2'⟩ := q
        unfold ptP at hs hx
        simp only at p1 p2 q1 q2 hs hx
        have HW1 := Lib.hid (fun W => in_any p1' lo hi W)
        have HW2 := Lib.hid (fun W => in_any p2' 0 1000 W)
        have hkl : (k : Int) < n := by omega
        have hk0 : (0 : Int) ≤ k := by omega
        cases x1 : inB p1' lo hi
        · rw [x1] at HW1 hs hx
          clear x1 q1 q2
          have ex : True := trivial
          replace hs := Lib.hid (hs.out (by simp))
          clear hx ex
          go_wp2_with (first | (go_at_call 52; ((with_reducible refine (HW1.out _).mono ?_); rintro e w1 ⟨rfl, rfl⟩)) | (go_at_call 52; ((with_reducible refine (HW2.out _).mono ?_); rintro e w1 ⟨rfl, rfl⟩)))
          go_ret2
          exact ⟨by first | (rw [hs.out]; simp; done) | (rw [hs.out]; simp; omega), below_drewN (Below.refl _ _) _⟩
        · rw [x1] at HW1 hs hx
          clear x1
          cases x2 : inB p2' 0 1000
          · rw [x2] at HW2 hs hx
            clear x2 q1 q2
            have ex : True := trivial
            replace hs := Lib.hid (hs.out (by simp))
            clear hx ex
            go_wp2_with (first | (go_at_call 52; ((with_reducible refine (HW1.out _).mono ?_); rintro e w1 ⟨rfl, rfl⟩)) | (go_at_call 52; ((with_reducible refine (HW2.out _).mono ?_); rintro e w1 ⟨rfl, rfl⟩)))
            go_ret2
            exact ⟨by first | (rw [hs.out]; simp; done) | (rw [hs.out]; simp; omega), below_drewN (Below.refl _ _) _⟩
          · rw [x2] at HW2 hs hx
            clear x2
            rcases k with _ | j
            · simp only [Nat.zero_mul, Nat.add_zero] at p1 p2
              clear q1 q2
              have ex : True := trivial
              replace hx := Lib.hid (hx.out (by simp))
              clear hs ex
              go_wp2_with (first | (go_at_call 52; ((with_reducible refine (HW1.out _).mono ?_); rintro e w1 ⟨rfl, rfl⟩)) | (go_at_call 52; ((with_reducible refine (HW2.out _).mono ?_); rintro e w1 ⟨rfl, rfl⟩)))
              go_quiet (fail)
              go_wp2
              go_roundg (n - (0 + 1))
              case measure => omega
              case rel => exact ⟨0 + 1, rfl, by omega, by go_num, hx.out, _, rfl⟩
            · have hjl : (j : Int) < n := by omega
              have hj0 : (0 : Int) ≤ j := by omega
              have k0 : ((j + 1 : Nat) : Int) = (j : Int) + 1 := by omega
              have hj1 : (0 : Int) ≤ (j : Int) + 1 := by omega
              rw [k0] at hkl
              rw [show j + 1 - 1 = j from rfl] at q1 q2
              have k1 : ((j : Int) + 1).toNat = j + 1 := by omega
              have k2 : IntKind.i64.wrap ((j : Int) + 1 - 1) = j := by rw [show (j : Int) + 1 - 1 = j by omega]; exact IntWalk.i64_in _ (by omega)
              simp only [k0]
              by_cases y : p1' ≤ q1'
              · have ex : p1' ≤ q1' := y
                clear k0
                replace hs := Lib.hid (hs.out (by simp [ex]))
                clear hx ex
                go_wp2_with (first | (go_at_call 52; ((with_reducible refine (HW1.out _).mono ?_); rintro e w1 ⟨rfl, rfl⟩)) | (go_at_call 52; ((with_reducible refine (HW2.out _).mono ?_); rintro e w1 ⟨rfl, rfl⟩)))
                go_quiet (fail)
                go_wp2
                go_ret2
                exact ⟨by first | (rw [hs.out]; simp; done) | (rw [hs.out]; simp; omega), below_drewN (below_drewN (Below.refl _ _) _) _⟩
              · have hd : decide (p1' ≤ q1') = false := by simpa using y
                by_cases z : p2' < q2'
                · have ex : p2' < q2' := z
                  clear k0
                  replace hs := Lib.hid (hs.out (by simp [ex]))
                  clear hx ex
                  go_wp2_with (first | (go_at_call 52; ((with_reducible refine (HW1.out _).mono ?_); rintro e w1 ⟨rfl, rfl⟩)) | (go_at_call 52; ((with_reducible refine (HW2.out _).mono ?_); rintro e w1 ⟨rfl, rfl⟩)))
                  go_quiet (fail)
                  go_wp2
                  go_ret2
                  exact ⟨by first | (rw [hs.out]; simp; done) | (rw [hs.out]; simp; omega), below_drewN (below_drewN (Below.refl _ _) _) _⟩
                · have hd2 : decide (p2' < q2') = false := by simpa using z
                  have ex : decide (p1' ≤ q1') = false ∧ decide (p2' < q2') = false := ⟨hd, hd2⟩
                  clear k0
                  replace hx := Lib.hid (hx.out (by simp [ex]))
                  clear hs ex
                  go_wp2_with (first | (go_at_call 52; ((with_reducible refine (HW1.out _).mono ?_); rintro e w1 ⟨rfl, rfl⟩)) | (go_at_call 52; ((with_reducible refine (HW2.out _).mono ?_); rintro e w1 ⟨rfl, rfl⟩)))
                  go_quiet (fail)
                  go_wp2
                  go_roundg (n - (j + 1 + 1))
                  case measure => omega
                  case rel => exact ⟨j + 1 + 1, rfl, by omega, by go_num, hx.out, _, rfl⟩
      · obtain rfl : k = n := by omega
        have hzero := Lib.hid (firstE_zero h0.out)
        go_wp2_with fail
        go_ret2
        exact ⟨by rw [hzero.out]; rfl, below_drewN (Below.refl _ _) _⟩
end Go.Proofs.Ytanjkhclhcnnaaa

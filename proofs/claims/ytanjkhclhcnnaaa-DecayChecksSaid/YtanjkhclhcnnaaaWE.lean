/- firstError, for any function value that only makes memory. -/
import Derived.Test.YtanjkhclhcnnaaaWD
namespace Go.Proofs.Ytanjkhclhcnnaaa
open Go.RowKit

set_option maxHeartbeats 1000000 in
theorem firstError_any (g : Nat) (cap : Array Value) (f : Nat → Int) (n : Nat) (w : World) (hn : n ≤ 100000) (eg : ∀ args w, (callFunc g args).run Try.prog w = .ok (.enter g args) w)
    (hf : ∀ (i : Nat) (W : World), i < n → Below w.heap.size w W → Calls Try.prog g (#[.int .i64 i] ++ cap) W fun e w' => e = .returned (.int .i64 (f i)) ∧ Below W.heap.size W w') :
    Calls Try.prog 53 #[.int .i64 n, .func (.func g) #[] cap] w fun e w' => e = .returned (.tuple #[.int .i64 (firstE f n).1, .int .i64 (firstE f n).2]) ∧ Below w.heap.size w w' := by
  replace hf := Lib.hid hf
  go_enter Try.func53, Try.ntmps53
  go_wp2
  go_loopg [9] n (fun gk i wr => ∃ k : Nat, gk = n - k ∧ k ≤ n ∧ i = .int .i64 (k : Int) ∧ (firstE f k).2 = 0 ∧ Below w.heap.size w wr)
  case atStart => exact ⟨0, rfl, Nat.zero_le _, rfl, rfl, Below.refl _ _⟩
  case round =>
    obtain ⟨k, rfl, hk, rfl, h0, hb⟩ := hrel
    replace h0 := Lib.hid h0
    by_cases hlt : k < n
    · have HC := Lib.hid (hf.out k wr hlt hb)
      have hs := Lib.hid (fun (h : f k ≠ 0) => firstE_stop h0.out h hlt)
      have hx := Lib.hid (fun (h : f k = 0) => firstE_next h0.out h)
      generalize f k = fk at HC hs hx
      have hk0 : (0 : Int) ≤ k := by omega
      have hkl : (k : Int) < n := by omega
      by_cases he : fk = 0
      · subst he
        replace hx := Lib.hid (hx.out rfl)
        clear hs
        go_wp2_with fail
        refine HC.out.mono ?_
        rintro e w1 ⟨rfl, hb1⟩
        go_wp2
        go_roundg (n - (k + 1))
        case rel => exact ⟨k + 1, rfl, by omega, by go_num, hx.out, B_trans hb hb1⟩
        case measure => omega
      · replace hs := Lib.hid (hs.out he)
        have hq : (fk != 0) = true := by simpa using he
        clear hx he
        go_wp2_with fail
        refine HC.out.mono ?_
        rintro e w1 ⟨rfl, hb1⟩
        go_wp2
        go_ret2
        exact ⟨by rw [hs.out]; rfl, B_trans hb hb1⟩
    · obtain rfl : k = n := by omega
      go_wp2
      go_ret2
      exact ⟨by rw [firstE_zero h0.out]; rfl, hb⟩
end Go.Proofs.Ytanjkhclhcnnaaa

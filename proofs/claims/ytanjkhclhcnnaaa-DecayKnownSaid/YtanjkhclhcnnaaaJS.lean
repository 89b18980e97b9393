/- bits.Mul of one and a small number. -/
import Derived.Test.YtanjkhclhcnnaaaJR
namespace Go.Proofs.Ytanjkhclhcnnaaa
open Go.RowKit Go.Shelf

theorem and_low : ∀ b : Fin 512, bits .and .u64 ((b.val : Nat) : Int) 4294967295 = ((b.val : Nat) : Int) := by decide +kernel
theorem and_one : bits .and .u64 1 4294967295 = 1 := by decide
theorem and_zero : bits .and .u64 0 4294967295 = 0 := by decide
set_option maxRecDepth 100000 in
set_option maxHeartbeats 4000000 in
theorem mul64_one (b : Nat) (w : World) (hb : b ≤ 400) : Calls Try.prog 118 #[.int .u64 1, .int .u64 (b : Int)] w fun e w' => e = .returned (.tuple #[.int .u64 0, .int .u64 (b : Int)]) ∧ Below w.heap.size w w' := by
  have h1 := and_one
  have h2 : bits .and .u64 (b : Int) 4294967295 = (b : Int) := and_low ⟨b, by omega⟩
  have h3 := and_zero
  have u1 : IntKind.u64.wrap (b : Int) = (b : Int) := IntWalk.u64_in _ (by omega)
  have u2 : (b : Int) / 4294967296 = 0 := by omega
  have u0 : IntKind.u64.wrap 0 = 0 := IntWalk.u64_in _ (by omega)
  go_enter Try.func118, Try.ntmps118
  go_wp2_with fail
  refine bodyPost_ret (v := .tuple #[.int .u64 0, .int .u64 (b : Int)]) (by simp [results, Try.results118, go_sem]) rfl ⟨rfl, Below.refl _ _⟩
set_option maxRecDepth 100000 in
set_option maxHeartbeats 4000000 in
theorem mul_one (b : Nat) (w : World) (hb : b ≤ 400) : Calls Try.prog 100 #[.int .u64 1, .int .u64 (b : Int)] w fun e w' => e = .returned (.tuple #[.int .u64 0, .int .u64 (b : Int)]) ∧ Below w.heap.size w w' := by
  have H := Lib.hid (mul64_one b w hb)
  go_enter Try.func100, Try.ntmps100
  go_wp2_with fail
  refine H.out.mono ?_
  rintro e w1 ⟨rfl, hb1⟩
  go_wp2_with fail
  refine bodyPost_ret (v := .tuple #[.int .u64 0, .int .u64 (b : Int)]) (by simp [results, Try.results100, go_sem]) rfl ⟨rfl, hb1⟩
end Go.Proofs.Ytanjkhclhcnnaaa

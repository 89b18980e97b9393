/- Arrays of two and of three bytes, opened. -/
import Derived.Test.YtanjkhclhcnnaaaGI
namespace Go.Proofs.Ytanjkhclhcnnaaa
open Go.ChangeShapes Go.WideShapes Go.ChangeAt Go.RowKit Go.Deep

section
variable {H : Type} {enc : TypeId × Value → H} {W : World} {base : Nat} {held : Bool} {b0 : Nat}
theorem okWide_array {P : Program} {t e : TypeId} {n : Nat} {v : Value} {r : Reach} (ht : P.underlying t = some (.array n e)) (h : Value.okWide P W r b0 t v) : ∃ cs, v = .agg cs ∧ cs.size = P.cellsOf t := by
  simp only [Value.okWide, ht] at h
  obtain ⟨cs, h1, h2, _⟩ := h
  exact ⟨cs, h1, h2⟩
set_option maxRecDepth 100000 in
theorem open_2u8 {v : Value} {d : DataW H} {p : List MemPlace} (hv : Value.okWide Try.prog W .any b0 79 v) (h : DataW.Trod enc Try.prog W base (fun _ => true) held 79 v d p) :
    ∃ a b : Int, v = .agg #[.int .u8 a, .int .u8 b] ∧ (0 ≤ a ∧ a ≤ 255) ∧ (0 ≤ b ∧ b ≤ 255) := by
  obtain ⟨cs, rfl, hsz⟩ := okWide_array Try.underlying79 hv
  obtain ⟨n, hn⟩ := h
  obtain ⟨xs, m, -, -, hl, hlen, hf⟩ := DataW.trod_array Try.underlying79 hn
  have c5 : Try.prog.cellsOf 5 = 1 := by kernel_rfl
  have ct : Try.prog.cellsOf 79 = 2 := by kernel_rfl
  have e0 := hf 0 (by decide)
  have e1 := hf 1 (by decide)
  rw [List.getElem?_eq_getElem (by omega), c5] at e0 e1
  obtain ⟨a, q0, -, w0⟩ := DataW.trod_int Try.underlying5 e0
  obtain ⟨b, q1, -, w1⟩ := DataW.trod_int Try.underlying5 e1
  rw [ct] at hsz
  obtain ⟨l⟩ := cs
  obtain ⟨a0, a1, rfl⟩ : ∃ a0 a1, l = [a0, a1] := by
    match l, hsz with
    | [a0, a1], _ => exact ⟨a0, a1, rfl⟩
  simp [Value.cells] at q0 q1
  subst q0 q1
  exact ⟨a, b, rfl, wf_u8 a w0, wf_u8 b w1⟩
set_option maxRecDepth 100000 in
theorem open_3u8 {v : Value} {d : DataW H} {p : List MemPlace} (hv : Value.okWide Try.prog W .any b0 80 v) (h : DataW.Trod enc Try.prog W base (fun _ => true) held 80 v d p) :
    ∃ a b c : Int, v = .agg #[.int .u8 a, .int .u8 b, .int .u8 c] ∧ (0 ≤ a ∧ a ≤ 255) ∧ (0 ≤ b ∧ b ≤ 255) ∧ (0 ≤ c ∧ c ≤ 255) := by
  obtain ⟨cs, rfl, hsz⟩ := okWide_array Try.underlying80 hv
  obtain ⟨n, hn⟩ := h
  obtain ⟨xs, m, -, -, hl, hlen, hf⟩ := DataW.trod_array Try.underlying80 hn
  have c5 : Try.prog.cellsOf 5 = 1 := by kernel_rfl
  have ct : Try.prog.cellsOf 80 = 3 := by kernel_rfl
  have e0 := hf 0 (by decide)
  have e1 := hf 1 (by decide)
  have e2 := hf 2 (by decide)
  rw [List.getElem?_eq_getElem (by omega), c5] at e0 e1 e2
  obtain ⟨a, q0, -, w0⟩ := DataW.trod_int Try.underlying5 e0
  obtain ⟨b, q1, -, w1⟩ := DataW.trod_int Try.underlying5 e1
  obtain ⟨c, q2, -, w2⟩ := DataW.trod_int Try.underlying5 e2
  rw [ct] at hsz
  obtain ⟨l⟩ := cs
  obtain ⟨a0, a1, a2, rfl⟩ : ∃ a0 a1 a2, l = [a0, a1, a2] := by
    match l, hsz with
    | [a0, a1, a2], _ => exact ⟨a0, a1, a2, rfl⟩
  simp [Value.cells] at q0 q1 q2
  subst q0 q1 q2
  exact ⟨a, b, c, rfl, wf_u8 a w0, wf_u8 b w1, wf_u8 c w2⟩
end
end Go.Proofs.Ytanjkhclhcnnaaa

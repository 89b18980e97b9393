/- Openings for DecayMoved: room for days, an array of two bytes. -/
import Derived.Test.YtijkhpaiiieanaaHZ
namespace Go.Proofs.Ytijkhpaiiieanaa
open Go.ChangeShapes Go.WideShapes Go.ChangeAt Go.RowKit Go.Deep

section
variable {H : Type} {enc : TypeId × Value → H} {W : World} {base : Nat} {held : Bool} {b0 : Nat}
set_option maxRecDepth 100000 in
theorem task_cap {t : TkA} {d : DataW H} {p : List MemPlace} (h : DataW.Trod enc Try.prog W base (fun _ => true) held 31 (.agg t.cs) d p) : t.dn ≤ t.dc := by
  obtain ⟨m, hm⟩ := h
  obtain ⟨xs, n, -, hx, hl, hlen, hf⟩ := DataW.trod_struct Try.underlying31 hm
  have hl5 : xs.length = 5 := hlen
  obtain ⟨y0, y1, y2, y3, y4, rfl⟩ : ∃ y0 y1 y2 y3 y4, xs = [y0, y1, y2, y3, y4] := by
    match xs, hl5 with
    | [y0, y1, y2, y3, y4], _ => exact ⟨y0, y1, y2, y3, y4, rfl⟩
  have c2 : Try.prog.cellsOf 26 = 1 := by kernel_rfl
  have k2 : DataW.trod enc Try.prog W base (fun _ => true) held n 26 (((Value.agg t.cs).cells.toList.drop 9).take (Try.prog.cellsOf 26)) = some y2 := hf 2 ⟨"Days", 26, 9, false, "", "", 104⟩ rfl
  rw [c2] at k2
  have e : (((Value.agg t.cs).cells.toList.drop 9).take 1) = [.slice t.da t.dn t.dc] := by simp [Value.cells]
  rw [e] at k2
  rcases open_slice Try.underlying26 k2 with ⟨h1, -⟩ | ⟨a, len, cap, m', n', D, Pl, h1, -, hle, -⟩
  · simp at h1
    omega
  · simp at h1
    omega
theorem okWide_array {P : Program} {t e : TypeId} {n : Nat} {v : Value} {r : Reach} (ht : P.underlying t = some (.array n e)) (h : Value.okWide P W r b0 t v) : ∃ cs, v = .agg cs ∧ cs.size = P.cellsOf t := by
  simp only [Value.okWide, ht] at h
  obtain ⟨cs, h1, h2, _⟩ := h
  exact ⟨cs, h1, h2⟩
set_option maxRecDepth 100000 in
theorem open_2u8 {v : Value} {d : DataW H} {p : List MemPlace} (hv : Value.okWide Try.prog W .any b0 41 v) (h : DataW.Trod enc Try.prog W base (fun _ => true) held 41 v d p) :
    ∃ a b : Int, v = .agg #[.int .u8 a, .int .u8 b] ∧ (0 ≤ a ∧ a ≤ 255) ∧ (0 ≤ b ∧ b ≤ 255) := by
  obtain ⟨cs, rfl, hsz⟩ := okWide_array Try.underlying41 hv
  obtain ⟨n, hn⟩ := h
  obtain ⟨xs, m, -, -, hl, hlen, hf⟩ := DataW.trod_array Try.underlying41 hn
  have c5 : Try.prog.cellsOf 5 = 1 := by kernel_rfl
  have ct : Try.prog.cellsOf 41 = 2 := by kernel_rfl
  have e0 := hf 0 (by decide)
  have e1 := hf 1 (by decide)
  rw [List.getElem?_eq_getElem (by omega), c5] at e0 e1
  obtain ⟨a, q0, -, w0⟩ := DataW.trod_int Try.underlying5 e0
  obtain ⟨b, q1, -, w1⟩ := DataW.trod_int Try.underlying5 e1
  rw [ct] at hsz
  obtain ⟨l⟩ := cs
  obtain ⟨a0, a1, rfl⟩ : ∃ a0 a1, l = [a0, a1] := by
    match l, hsz with
    | [a0, a1], _ => exact ⟨a0, a1, rfl⟩
  simp [Value.cells] at q0 q1
  subst q0 q1
  exact ⟨a, b, rfl, wf_u8 a w0, wf_u8 b w1⟩
end
end Go.Proofs.Ytijkhpaiiieanaa

/- Openings for DecayLosts: room for days, an int. -/
import Derived.Test.YtanjkhclhcnnaaaKC
namespace Go.Proofs.Ytanjkhclhcnnaaa
open Go.ChangeShapes Go.WideShapes Go.ChangeAt Go.RowKit Go.Deep

section
variable {H : Type} {enc : TypeId × Value → H} {W : World} {base : Nat} {held : Bool} {b0 : Nat}
set_option maxRecDepth 100000 in
theorem task_cap {t : TkA} {d : DataW H} {p : List MemPlace} (h : DataW.Trod enc Try.prog W base (fun _ => true) held 31 (.agg t.cs) d p) : t.dn ≤ t.dc := by
  obtain ⟨m, hm⟩ := h
  obtain ⟨xs, n, -, hx, hl, hlen, hf⟩ := DataW.trod_struct Try.underlying31 hm
  have hl5 : xs.length = 5 := hlen
  obtain ⟨y0, y1, y2, y3, y4, rfl⟩ : ∃ y0 y1 y2 y3 y4, xs = [y0, y1, y2, y3, y4] := by
    match xs, hl5 with
    | [y0, y1, y2, y3, y4], _ => exact ⟨y0, y1, y2, y3, y4, rfl⟩
  have c2 : Try.prog.cellsOf 26 = 1 := by kernel_rfl
  have k2 : DataW.trod enc Try.prog W base (fun _ => true) held n 26 (((Value.agg t.cs).cells.toList.drop 9).take (Try.prog.cellsOf 26)) = some y2 := hf 2 ⟨"Days", 26, 9, false, "", "", 104⟩ rfl
  rw [c2] at k2
  have e : (((Value.agg t.cs).cells.toList.drop 9).take 1) = [.slice t.da t.dn t.dc] := by simp [Value.cells]
  rw [e] at k2
  rcases open_slice Try.underlying26 k2 with ⟨h1, -⟩ | ⟨a, len, cap, m', n', D, Pl, h1, -, hle, -⟩
  · simp at h1
    omega
  · simp at h1
    omega
set_option maxRecDepth 100000 in
theorem open_int {t : TypeId} {k : IntKind} {v : Value} {d : DataW H} {p : List MemPlace} (ht : Try.prog.underlying t = some (.int k)) (hv : Value.okWide Try.prog W .any b0 t v) (h : DataW.Trod enc Try.prog W base (fun _ => true) held t v d p) :
    ∃ x : Int, v = .int k x ∧ (Lit.int k x).wf = true := by
  obtain ⟨x, rfl⟩ := okWide_int ht hv
  obtain ⟨n, hn⟩ := h
  obtain ⟨y, e, -, wf⟩ := DataW.trod_int ht hn
  simp [Value.cells] at e
  subst e
  exact ⟨_, rfl, wf⟩
end
end Go.Proofs.Ytanjkhclhcnnaaa

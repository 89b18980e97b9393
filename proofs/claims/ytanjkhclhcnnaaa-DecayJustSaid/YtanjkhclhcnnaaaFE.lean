/- The law DecayJust, every task; one small integer. -/
import Derived.Test.YtanjkhclhcnnaaaEH
import Derived.Test.YtanjkhclhcnnaaaFD
namespace Go.Proofs.Ytanjkhclhcnnaaa
open Go.ChangeShapes Go.WideShapes Go.ChangeAt Go.RowKit Go.Deep

theorem justLaw_all (t : TkA) (hs ws : List T2) (ds : List T4) (ts : List T3) (by_ : Int) (w : World) (hR : TkR w t hs ws ds ts) (hby : 0 ≤ by_ ∧ by_ ≤ 255) :
    Calls Try.prog 10 #[.agg t.cs, .int .u8 by_] w fun e w' => e = .returned (.bool true) ∧ Below w.heap.size w w' := by
  by_cases he : (taskS t hs ws ds ts).2.2 = 0
  · exact justLaw_any t hs ws ds ts by_ w hR he hby
  · exact justLaw_bad t hs ws ds ts by_ w hR he
section
variable {H : Type} {enc : TypeId × Value → H} {W : World} {base : Nat} {held : Bool} {b0 : Nat}
set_option maxRecDepth 100000 in
theorem open_int {t : TypeId} {k : IntKind} {v : Value} {d : DataW H} {p : List MemPlace} (ht : Try.prog.underlying t = some (.int k)) (hv : Value.okWide Try.prog W .any b0 t v) (h : DataW.Trod enc Try.prog W base (fun _ => true) held t v d p) :
    ∃ x : Int, v = .int k x ∧ (Lit.int k x).wf = true := by
  obtain ⟨x, rfl⟩ := okWide_int ht hv
  obtain ⟨n, hn⟩ := h
  obtain ⟨y, e, -, wf⟩ := DataW.trod_int ht hn
  simp [Value.cells] at e
  subst e
  exact ⟨_, rfl, wf⟩
end
end Go.Proofs.Ytanjkhclhcnnaaa

/- What the rows of all laws of this layer share: the post; arguments opened. -/
import Derived.Test.YtgjpbffoalldkaaGreatDoorWZ
import Derived.Test.YtgjpbffoalldkaaGreatDoorXE
namespace Go.Proofs.YtgjpbffoalldkaaGreatDoor
open Go.ChangeShapes Go.WideShapes Go.ChangeAt Go.RowKit Go.Deep

theorem laid_out : laidOutB Tryz.prog = true := by kernel_rfl

/-- THE POST of a law that returns true and leaves the memory of before as it was. -/
theorem law_post {H : Type} {enc : TypeId × Value → H} {f : Func} {s : ChangeSpec} {W W' : World} {args : Array Value} {ds : List (DataW H)} {before : List MemPlace} (hT : ∀ t ∈ f.params.toList, Tryz.prog.readableRec t = true ∧ t < Tryz.prog.types.size)
    (hW : DataW.Whole enc Tryz.prog f.params.toList s.vars false W args.toList ds [] before) (hV : s.vars = []) (hs : s.fn H (ds ++ []) = { results := [.lit (.bool true)], args := ds, vars := [] }) (hr : f.resultTypes = #[4]) (hb : Below W.heap.size W W') :
    s.post enc Tryz.prog f false true false false W args (.bool true) W' := by
  have hW' := hW
  obtain ⟨p, q, hA, hq, rfl, -, -⟩ := hW
  rw [hV] at hq
  obtain rfl : q = [] := hq
  simp only [List.append_nil] at hW' ⊢
  have hlt : ∀ x ∈ p, x.block < W.heap.size := fun x hx => by simpa using hW'.lt x hx
  refine post_below (pa := p) (pv := []) hW' (fun _ _ _ => ?_) (fun sp hsp => ?_) (fun _ _ => ?_) (by simp) (hb.frame _)
  · rw [hs, hr]
    exact trodAll_cons_mk (shut_bool Tryz.underlying4 _) trodAll_mk0
  · rw [hs]
    exact args_stay laid_out hT hA (fun x hx => hb.same (hlt x hx)) hsp
  · rw [hs, hV]
    rfl

section
variable {H : Type} {enc : TypeId × Value → H} {W : World} {base : Nat} {spare : Nat → Bool} {held : Bool} {b0 : Nat}

set_option maxRecDepth 100000 in
theorem okWide_arr {t e : TypeId} {n : Nat} {v : Value} (ht : Tryz.prog.underlying t = some (.array n e)) (h : Value.okWide Tryz.prog W .any b0 t v) : ∃ cs, v = .agg cs ∧ cs.size = Tryz.prog.cellsOf t := by
  unfold Value.okWide at h
  rw [ht] at h
  obtain ⟨cs, h1, h2, -⟩ := h
  exact ⟨cs, h1, h2⟩

set_option maxRecDepth 100000 in
/-- Three integers in an array. -/
theorem open_arr3 {v : Value} {d : DataW H} {p : List MemPlace} (hv : Value.okWide Tryz.prog W .any b0 35 v) (h : DataW.Trod enc Tryz.prog W base spare held 35 v d p) : ∃ x y z : Int, v = .agg #[.int .i64 x, .int .i64 y, .int .i64 z] := by
  obtain ⟨cs, rfl, hsz⟩ := okWide_arr Tryz.underlying35 hv
  obtain ⟨n, hn⟩ := h
  obtain ⟨xs, m, -, -, -, hl, hk⟩ := DataW.trod_array Tryz.underlying35 hn
  have hc : Tryz.prog.cellsOf 35 = 3 := by kernel_rfl
  have hc3 : Tryz.prog.cellsOf 3 = 1 := by kernel_rfl
  rw [hc] at hsz
  obtain ⟨l⟩ := cs
  match l, hsz with
  | [c0, c1, c2], _ =>
    have k0 := hk 0 (by decide)
    have k1 := hk 1 (by decide)
    have k2 := hk 2 (by decide)
    rw [hc3, List.getElem?_eq_getElem (by omega)] at k0 k1 k2
    obtain ⟨x, e0, -, -⟩ := DataW.trod_int Tryz.underlying3 k0
    obtain ⟨y, e1, -, -⟩ := DataW.trod_int Tryz.underlying3 k1
    obtain ⟨z, e2, -, -⟩ := DataW.trod_int Tryz.underlying3 k2
    simp [Value.cells] at e0 e1 e2
    exact ⟨x, y, z, by rw [e0, e1, e2]⟩
end
end Go.Proofs.YtgjpbffoalldkaaGreatDoor

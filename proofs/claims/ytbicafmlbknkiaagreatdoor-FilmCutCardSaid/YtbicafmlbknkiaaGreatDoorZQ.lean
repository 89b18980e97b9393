/- Arguments opened: the part of a roll. -/
import Derived.Test.YtbicafmlbknkiaaGreatDoorZC
namespace Go.Proofs.YtbicafmlbknkiaaGreatDoor
open Go.ChangeShapes Go.WideShapes Go.ChangeAt Go.RowKit Go.Deep

section
variable {H : Type} {enc : TypeId × Value → H} {W : World} {base : Nat} {held : Bool} {b0 : Nat}

set_option maxRecDepth 100000 in
theorem open_cut {v : Value} {d : DataW H} {p : List MemPlace} (hv : Value.okWide Tryz.prog W .any b0 64 v) (h : DataW.Trod enc Tryz.prog W base (fun _ => true) held 64 v d p) (hw : (d.weights Tryz.prog 64).all (· ≤ reachBytes) = true) :
    ∃ (g ro fi fr : Int) (aa : Option Addr) (an ac : Nat) (ah : List Int) (na : Option Addr) (nn nc : Nat) (no : List Int), v = .agg #[.int .u8 g, .int .u8 ro, .int .u16 fi, .slice aa an ac, .int .u16 fr, .slice na nn nc] ∧
      (0 ≤ g ∧ g ≤ 255) ∧ (0 ≤ ro ∧ ro ≤ 255) ∧ (0 ≤ fi ∧ fi ≤ 65535) ∧ (0 ≤ fr ∧ fr ≤ 65535) ∧ Nums W .u8 0 255 aa an ah ∧ Nums W .u8 0 255 na nn no := by
  obtain ⟨cs, rfl, hsz⟩ := okWide_struct Tryz.underlying64 hv
  obtain ⟨n, hn⟩ := h
  obtain ⟨xs, m, -, hx, -, hl, hk⟩ := DataW.trod_struct Tryz.underlying64 hn
  have hd : d = .agg (xs.map (·.1)) := congrArg Prod.fst hx
  have hc : Tryz.prog.cellsOf 64 = 6 := by kernel_rfl
  have c5 : Tryz.prog.cellsOf 5 = 1 := by kernel_rfl
  have c61 : Tryz.prog.cellsOf 61 = 1 := by kernel_rfl
  have c62 : Tryz.prog.cellsOf 62 = 1 := by kernel_rfl
  have hl6 : xs.length = 6 := hl
  obtain ⟨y0, y1, y2, y3, y4, y5, rfl⟩ : ∃ y0 y1 y2 y3 y4 y5, xs = [y0, y1, y2, y3, y4, y5] := by
    match xs, hl6 with
    | [y0, y1, y2, y3, y4, y5], _ => exact ⟨y0, y1, y2, y3, y4, y5, rfl⟩
  have k0 : DataW.trod enc Tryz.prog W base (fun _ => true) held m 5 (((Value.agg cs).cells.toList.drop 0).take (Tryz.prog.cellsOf 5)) = some y0 := hk 0 _ rfl
  have k1 : DataW.trod enc Tryz.prog W base (fun _ => true) held m 5 (((Value.agg cs).cells.toList.drop 1).take (Tryz.prog.cellsOf 5)) = some y1 := hk 1 _ rfl
  have k2 : DataW.trod enc Tryz.prog W base (fun _ => true) held m 61 (((Value.agg cs).cells.toList.drop 2).take (Tryz.prog.cellsOf 61)) = some y2 := hk 2 _ rfl
  have k3 : DataW.trod enc Tryz.prog W base (fun _ => true) held m 62 (((Value.agg cs).cells.toList.drop 3).take (Tryz.prog.cellsOf 62)) = some y3 := hk 3 _ rfl
  have k4 : DataW.trod enc Tryz.prog W base (fun _ => true) held m 61 (((Value.agg cs).cells.toList.drop 4).take (Tryz.prog.cellsOf 61)) = some y4 := hk 4 _ rfl
  have k5 : DataW.trod enc Tryz.prog W base (fun _ => true) held m 62 (((Value.agg cs).cells.toList.drop 5).take (Tryz.prog.cellsOf 62)) = some y5 := hk 5 _ rfl
  rw [c5] at k0 k1
  rw [c61] at k2 k4
  rw [c62] at k3 k5
  rw [hd] at hw
  simp only [DataW.weights, Tryz.underlying64, DataW.weightsEach, List.map_cons, List.map_nil, List.all_append, Bool.and_eq_true] at hw
  obtain ⟨-, -, -, w3, -, w5, -⟩ := hw
  obtain ⟨g, e0, -, wg⟩ := DataW.trod_int Tryz.underlying5 k0
  obtain ⟨ro, e1, -, wr⟩ := DataW.trod_int Tryz.underlying5 k1
  obtain ⟨fi, e2, -, wf⟩ := DataW.trod_int Tryz.underlying61 k2
  obtain ⟨aa, an, ac, ah, e3, hA⟩ := open_nums_of Tryz.underlying62 Tryz.underlying5 (by kernel_rfl) wf_u8 k3 (of_decide_eq_true (by kernel_rfl)) w3
  obtain ⟨fr, e4, -, wq⟩ := DataW.trod_int Tryz.underlying61 k4
  obtain ⟨na, nn, nc, no, e5, hN⟩ := open_nums_of Tryz.underlying62 Tryz.underlying5 (by kernel_rfl) wf_u8 k5 (of_decide_eq_true (by kernel_rfl)) w5
  rw [hc] at hsz
  obtain ⟨l⟩ := cs
  obtain ⟨a0, a1, a2, a3, a4, a5, rfl⟩ : ∃ a0 a1 a2 a3 a4 a5, l = [a0, a1, a2, a3, a4, a5] := by
    match l, hsz with
    | [a0, a1, a2, a3, a4, a5], _ => exact ⟨a0, a1, a2, a3, a4, a5, rfl⟩
  simp [Value.cells] at e0 e1 e2 e3 e4 e5
  subst e0 e1 e2 e3 e4 e5
  exact ⟨g, ro, fi, fr, aa, an, ac, ah, na, nn, nc, no, rfl, wf_u8 g wg, wf_u8 ro wr, wf_u16 fi wf, wf_u16 fr wq, hA, hN⟩
end
end Go.Proofs.YtbicafmlbknkiaaGreatDoor

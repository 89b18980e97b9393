/- Arguments opened: structs of integers; how long the slices of a reel can be. -/
import Derived.Test.YtbicafmlbknkiaaGreatDoorZC
namespace Go.Proofs.YtbicafmlbknkiaaGreatDoor
open Go.ChangeShapes Go.WideShapes Go.ChangeAt Go.RowKit Go.Deep

section
variable {H : Type} {enc : TypeId × Value → H} {W : World} {base : Nat} {held : Bool} {b0 : Nat}

set_option maxRecDepth 100000 in
theorem slice_reach {t e : TypeId} {fuel : Nat} {a : Option Addr} {n c : Nat} {x : DataW H × List MemPlace} (ht : Tryz.prog.underlying t = some (.slice e))
    (h : DataW.trod enc Tryz.prog W base (fun _ => true) held fuel t [.slice a n c] = some x) (hw : (x.1.weights Tryz.prog t).all (· ≤ reachBytes) = true) : n * Tryz.prog.bytesOf e ≤ 140737488351232 := by
  rcases open_slice ht h with ⟨h1, -⟩ | ⟨a', len, cap, m, k, D, Pl, h1, hbase, hle, hmax, hm, hx, hi⟩
  · simp at h1
    obtain ⟨-, rfl, -⟩ := h1
    simp
  · simp at h1
    obtain ⟨-, rfl, rfl⟩ := h1
    rw [hx] at hw
    simp only [DataW.weights, ht, List.all_cons, Bool.and_eq_true, decide_eq_true_eq, List.length_map, List.length_range] at hw
    have h2 := hw.1
    have h3 : n * Tryz.prog.bytesOf e ≤ (n + (m - n)) * Tryz.prog.bytesOf e := Nat.mul_le_mul_right _ (by omega)
    have h4 : reachBytes = 140737488351232 := rfl
    omega

set_option maxRecDepth 100000 in
/-- How long the slices of a reel can be. -/
theorem reel_reach {r : RA} {d : DataW H} {p : List MemPlace} (h : DataW.Trod enc Tryz.prog W base (fun _ => true) held 30 (.agg r.cs) d p) (hw : (d.weights Tryz.prog 30).all (· ≤ reachBytes) = true) :
    r.sn * 16 ≤ 140737488351232 ∧ r.ln * 24 ≤ 140737488351232 := by
  obtain ⟨n, hn⟩ := h
  obtain ⟨xs, m, -, hx, -, hl, hk⟩ := DataW.trod_struct Tryz.underlying30 hn
  have hd : d = .agg (xs.map (·.1)) := congrArg Prod.fst hx
  have c27 : Tryz.prog.cellsOf 27 = 1 := by kernel_rfl
  have c28 : Tryz.prog.cellsOf 28 = 1 := by kernel_rfl
  have b74 : Tryz.prog.bytesOf 74 = 16 := by kernel_rfl
  have b81 : Tryz.prog.bytesOf 81 = 24 := by kernel_rfl
  have hl9 : xs.length = 9 := hl
  obtain ⟨y0, y1, y2, y3, y4, y5, y6, y7, y8, rfl⟩ : ∃ y0 y1 y2 y3 y4 y5 y6 y7 y8, xs = [y0, y1, y2, y3, y4, y5, y6, y7, y8] := by
    match xs, hl9 with
    | [y0, y1, y2, y3, y4, y5, y6, y7, y8], _ => exact ⟨y0, y1, y2, y3, y4, y5, y6, y7, y8, rfl⟩
  have k7 : DataW.trod enc Tryz.prog W base (fun _ => true) held m 27 (((Value.agg r.cs).cells.toList.drop 8).take (Tryz.prog.cellsOf 27)) = some y7 := hk 7 ⟨"Symbols", 27, 8, false, "", "", 88⟩ rfl
  rw [c27] at k7
  have k8 : DataW.trod enc Tryz.prog W base (fun _ => true) held m 28 (((Value.agg r.cs).cells.toList.drop 9).take (Tryz.prog.cellsOf 28)) = some y8 := hk 8 ⟨"Lengths", 28, 9, false, "", "", 112⟩ rfl
  rw [c28] at k8
  rw [hd] at hw
  simp only [DataW.weights, Tryz.underlying30, DataW.weightsEach, List.map_cons, List.map_nil, List.all_append, Bool.and_eq_true] at hw
  obtain ⟨-, -, -, -, -, -, -, w7, w8, -⟩ := hw
  have h1 := slice_reach (a := r.sa) (n := r.sn) (c := r.sc) Tryz.underlying27 k7 w7
  have h2 := slice_reach (a := r.la) (n := r.ln) (c := r.lc) Tryz.underlying28 k8 w8
  rw [b74] at h1
  rw [b81] at h2
  exact ⟨h1, h2⟩

set_option maxRecDepth 100000 in
theorem open_len {v : Value} {d : DataW H} {p : List MemPlace} (hv : Value.okWide Tryz.prog W .any b0 81 v) (h : DataW.Trod enc Tryz.prog W base (fun _ => true) held 81 v d p) : ∃ x y z : Int, v = .agg #[.int .i64 x, .int .i64 y, .int .i64 z] := by
  obtain ⟨cs, rfl, hsz⟩ := okWide_struct Tryz.underlying81 hv
  obtain ⟨n, hn⟩ := h
  obtain ⟨xs, m, -, -, -, hl, hk⟩ := DataW.trod_struct Tryz.underlying81 hn
  have hc : Tryz.prog.cellsOf 81 = 3 := by kernel_rfl
  have c3 : Tryz.prog.cellsOf 3 = 1 := by kernel_rfl
  rw [hc] at hsz
  obtain ⟨l⟩ := cs
  obtain ⟨a0, a1, a2, rfl⟩ : ∃ a0 a1 a2, l = [a0, a1, a2] := by
    match l, hsz with
    | [a0, a1, a2], _ => exact ⟨a0, a1, a2, rfl⟩
  have hl3 : xs.length = 3 := hl
  obtain ⟨y0, y1, y2, rfl⟩ : ∃ y0 y1 y2, xs = [y0, y1, y2] := by
    match xs, hl3 with
    | [y0, y1, y2], _ => exact ⟨y0, y1, y2, rfl⟩
  have k0 : DataW.trod enc Tryz.prog W base (fun _ => true) held m 3 (((Value.agg ⟨[a0, a1, a2]⟩).cells.toList.drop 0).take (Tryz.prog.cellsOf 3)) = some y0 := hk 0 ⟨"Frames", 3, 0, false, "", "", 0⟩ rfl
  have k1 : DataW.trod enc Tryz.prog W base (fun _ => true) held m 3 (((Value.agg ⟨[a0, a1, a2]⟩).cells.toList.drop 1).take (Tryz.prog.cellsOf 3)) = some y1 := hk 1 ⟨"Micro", 3, 1, false, "", "", 8⟩ rfl
  have k2 : DataW.trod enc Tryz.prog W base (fun _ => true) held m 3 (((Value.agg ⟨[a0, a1, a2]⟩).cells.toList.drop 2).take (Tryz.prog.cellsOf 3)) = some y2 := hk 2 ⟨"Error", 3, 2, false, "", "", 16⟩ rfl
  rw [c3] at k0 k1 k2
  obtain ⟨x, e0, -, -⟩ := DataW.trod_int Tryz.underlying3 k0
  obtain ⟨y, e1, -, -⟩ := DataW.trod_int Tryz.underlying3 k1
  obtain ⟨z, e2, -, -⟩ := DataW.trod_int Tryz.underlying3 k2
  simp [Value.cells] at e0 e1 e2
  exact ⟨x, y, z, by rw [e0, e1, e2]⟩

set_option maxRecDepth 100000 in
theorem open_sym {v : Value} {d : DataW H} {p : List MemPlace} (hv : Value.okWide Tryz.prog W .any b0 74 v) (h : DataW.Trod enc Tryz.prog W base (fun _ => true) held 74 v d p) : ∃ x y : Int, v = .agg #[.int .i64 x, .int .i64 y] := by
  obtain ⟨cs, rfl, hsz⟩ := okWide_struct Tryz.underlying74 hv
  obtain ⟨n, hn⟩ := h
  obtain ⟨xs, m, -, -, -, hl, hk⟩ := DataW.trod_struct Tryz.underlying74 hn
  have hc : Tryz.prog.cellsOf 74 = 2 := by kernel_rfl
  have c3 : Tryz.prog.cellsOf 3 = 1 := by kernel_rfl
  rw [hc] at hsz
  obtain ⟨l⟩ := cs
  obtain ⟨a0, a1, rfl⟩ : ∃ a0 a1, l = [a0, a1] := by
    match l, hsz with
    | [a0, a1], _ => exact ⟨a0, a1, rfl⟩
  have hl2 : xs.length = 2 := hl
  obtain ⟨y0, y1, rfl⟩ : ∃ y0 y1, xs = [y0, y1] := by
    match xs, hl2 with
    | [y0, y1], _ => exact ⟨y0, y1, rfl⟩
  have k0 : DataW.trod enc Tryz.prog W base (fun _ => true) held m 3 (((Value.agg ⟨[a0, a1]⟩).cells.toList.drop 0).take (Tryz.prog.cellsOf 3)) = some y0 := hk 0 ⟨"Roll", 3, 0, false, "", "", 0⟩ rfl
  have k1 : DataW.trod enc Tryz.prog W base (fun _ => true) held m 3 (((Value.agg ⟨[a0, a1]⟩).cells.toList.drop 1).take (Tryz.prog.cellsOf 3)) = some y1 := hk 1 ⟨"Code", 3, 1, false, "", "", 8⟩ rfl
  rw [c3] at k0 k1
  obtain ⟨x, e0, -, -⟩ := DataW.trod_int Tryz.underlying3 k0
  obtain ⟨y, e1, -, -⟩ := DataW.trod_int Tryz.underlying3 k1
  simp [Value.cells] at e0 e1
  exact ⟨x, y, by rw [e0, e1]⟩
end
end Go.Proofs.YtbicafmlbknkiaaGreatDoor

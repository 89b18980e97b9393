/- Rules, tasks, climates and spans as arguments, opened. -/
import Derived.Test.YtanjkhclhcnnaaaZD
namespace Go.Proofs.Ytanjkhclhcnnaaa
open Go.ChangeShapes Go.WideShapes Go.ChangeAt Go.RowKit Go.Deep

theorem flatInt : Flat Try.prog 3 1 := flat_int Try.underlying3
theorem flatSpan : Flat Try.prog 28 2 := flat_struct2 (f0 := ⟨"Lo", 3, 0, false, "", "", 0⟩) (f1 := ⟨"Hi", 3, 1, false, "", "", 8⟩) (k0 := 1) (k1 := 1) Try.underlying28 rfl rfl (by kernel_rfl) (by kernel_rfl) (by kernel_rfl) flatInt flatInt
theorem flatDay : Flat Try.prog 39 4 := flat_struct2 (f0 := ⟨"Temp", 28, 0, false, "", "", 0⟩) (f1 := ⟨"Damp", 28, 2, false, "", "", 16⟩) (k0 := 2) (k1 := 2) Try.underlying39 rfl rfl (by kernel_rfl) (by kernel_rfl) (by kernel_rfl) flatSpan flatSpan
theorem flatTest : Flat Try.prog 64 3 := flat_struct3 (f0 := ⟨"Day", 3, 0, false, "", "", 0⟩) (f1 := ⟨"Grade", 3, 1, false, "", "", 8⟩) (f2 := ⟨"Error", 3, 2, false, "", "", 16⟩) Try.underlying64 rfl rfl rfl (by kernel_rfl) (by kernel_rfl) (by kernel_rfl) (by kernel_rfl) flatInt flatInt flatInt
theorem flatPoint : Flat Try.prog 120 2 := flat_struct2 (f0 := ⟨"At", 3, 0, false, "", "", 0⟩) (f1 := ⟨"Factor", 3, 1, false, "", "", 8⟩) (k0 := 1) (k1 := 1) Try.underlying120 rfl rfl (by kernel_rfl) (by kernel_rfl) (by kernel_rfl) flatInt flatInt
theorem flatArr : Flat Try.prog 23 3 := flat_arr3 Try.underlying23 (by kernel_rfl) (by kernel_rfl) flatInt
theorem len1 {zs : List Int} (h : zs.length = 1) : ∃ a, zs = [a] := by match zs, h with | [a], _ => exact ⟨a, rfl⟩
theorem len2 {zs : List Int} (h : zs.length = 2) : ∃ a b, zs = [a, b] := by match zs, h with | [a, b], _ => exact ⟨a, b, rfl⟩
theorem len3 {zs : List Int} (h : zs.length = 3) : ∃ a b c, zs = [a, b, c] := by match zs, h with | [a, b, c], _ => exact ⟨a, b, c, rfl⟩
theorem len4 {zs : List Int} (h : zs.length = 4) : ∃ a b c d, zs = [a, b, c, d] := by match zs, h with | [a, b, c, d], _ => exact ⟨a, b, c, d, rfl⟩

section
variable {H : Type} {enc : TypeId × Value → H} {W : World} {base : Nat} {held : Bool}

set_option maxRecDepth 100000 in
theorem open_rule_cells {m : Nat} {cs : List Value} {x : DataW H × List MemPlace} (h : DataW.trod enc Try.prog W base (fun _ => true) held m 25 cs = some x) (hw : (x.1.weights Try.prog 25).all (· ≤ reachBytes) = true) :
    ∃ (r : RuA) (hs ws : List T2), cs = r.cs.toList ∧ RuR W r hs ws := by
  obtain ⟨xs, n, -, hx, hl, hlen, hf⟩ := DataW.trod_struct Try.underlying25 h
  have hl6 : xs.length = 6 := hlen
  obtain ⟨y0, y1, y2, y3, y4, y5, rfl⟩ : ∃ y0 y1 y2 y3 y4 y5, xs = [y0, y1, y2, y3, y4, y5] := by
    match xs, hl6 with
    | [y0, y1, y2, y3, y4, y5], _ => exact ⟨y0, y1, y2, y3, y4, y5, rfl⟩
  have c1 : Try.prog.cellsOf 3 = 1 := by kernel_rfl
  have c2 : Try.prog.cellsOf 22 = 1 := by kernel_rfl
  have c3 : Try.prog.cellsOf 23 = 3 := by kernel_rfl
  have k0 : DataW.trod enc Try.prog W base (fun _ => true) held n 22 ((cs.drop 0).take (Try.prog.cellsOf 22)) = some y0 := hf 0 ⟨"Heat", 22, 0, false, "", "", 0⟩ rfl
  have k1 : DataW.trod enc Try.prog W base (fun _ => true) held n 22 ((cs.drop 1).take (Try.prog.cellsOf 22)) = some y1 := hf 1 ⟨"Wet", 22, 1, false, "", "", 24⟩ rfl
  have k2 : DataW.trod enc Try.prog W base (fun _ => true) held n 3 ((cs.drop 2).take (Try.prog.cellsOf 3)) = some y2 := hf 2 ⟨"Own", 3, 2, false, "", "", 48⟩ rfl
  have k3 : DataW.trod enc Try.prog W base (fun _ => true) held n 3 ((cs.drop 3).take (Try.prog.cellsOf 3)) = some y3 := hf 3 ⟨"Feed", 3, 3, false, "", "", 56⟩ rfl
  have k4 : DataW.trod enc Try.prog W base (fun _ => true) held n 23 ((cs.drop 4).take (Try.prog.cellsOf 23)) = some y4 := hf 4 ⟨"Grades", 23, 4, false, "", "", 64⟩ rfl
  have k5 : DataW.trod enc Try.prog W base (fun _ => true) held n 3 ((cs.drop 7).take (Try.prog.cellsOf 3)) = some y5 := hf 5 ⟨"Lost", 3, 7, false, "", "", 88⟩ rfl
  rw [c2] at k0 k1
  rw [c1] at k2 k3 k5
  rw [c3] at k4
  rw [hx] at hw
  simp only [DataW.weights, Try.underlying25, DataW.weightsEach, List.map_cons, List.map_nil, List.all_append, Bool.and_eq_true] at hw
  obtain ⟨w0, w1, -⟩ := hw
  obtain ⟨ha, hn, hc, hs, e0, b0, r0⟩ := open_sl2 Try.underlying22 flatPoint (by kernel_rfl) k0 (of_decide_eq_true (by kernel_rfl)) w0
  obtain ⟨wa, wn, wc, ws, e1, b1, r1⟩ := open_sl2 Try.underlying22 flatPoint (by kernel_rfl) k1 (of_decide_eq_true (by kernel_rfl)) w1
  obtain ⟨z2, l2, e2, -⟩ := flatInt k2
  obtain ⟨z3, l3, e3, -⟩ := flatInt k3
  obtain ⟨z4, l4, e4, -⟩ := flatArr k4
  obtain ⟨z5, l5, e5, -⟩ := flatInt k5
  obtain ⟨own, rfl⟩ := len1 l2
  obtain ⟨feed, rfl⟩ := len1 l3
  obtain ⟨g0, g1, g2, rfl⟩ := len3 l4
  obtain ⟨lost, rfl⟩ := len1 l5
  rw [show Try.prog.cellsOf 25 = 8 by kernel_rfl] at hl
  obtain ⟨a0, a1, a2, a3, a4, a5, a6, a7, rfl⟩ : ∃ a0 a1 a2 a3 a4 a5 a6 a7, cs = [a0, a1, a2, a3, a4, a5, a6, a7] := by
    match cs, hl with
    | [a0, a1, a2, a3, a4, a5, a6, a7], _ => exact ⟨a0, a1, a2, a3, a4, a5, a6, a7, rfl⟩
  simp at e0 e1 e2 e3 e4 e5
  obtain ⟨e4, e6, e7⟩ := e4
  subst e0 e1 e2 e3 e4 e5 e6 e7
  exact ⟨⟨ha, hn, hc, wa, wn, wc, own, feed, g0, g1, g2, lost⟩, hs, ws, rfl, ⟨by simp only; omega, by simp only; omega, r0, r1⟩⟩
set_option maxRecDepth 100000 in
theorem open_rule {b0 : Nat} {v : Value} {d : DataW H} {p : List MemPlace} (hv : Value.okWide Try.prog W .any b0 25 v) (h : DataW.Trod enc Try.prog W base (fun _ => true) held 25 v d p) (hw : (d.weights Try.prog 25).all (· ≤ reachBytes) = true) :
    ∃ (r : RuA) (hs ws : List T2), v = .agg r.cs ∧ RuR W r hs ws := by
  obtain ⟨cs, rfl, hsz⟩ := okWide_struct Try.underlying25 hv
  obtain ⟨n, hn⟩ := h
  obtain ⟨r, hs, ws, e, hR⟩ := open_rule_cells hn hw
  refine ⟨r, hs, ws, ?_, hR⟩
  have e' : cs.toList = r.cs.toList := by simpa [Value.cells] using e
  rw [show cs = r.cs from Array.toList_inj.1 e']

set_option maxRecDepth 100000 in
theorem open_task {b0 : Nat} {v : Value} {d : DataW H} {p : List MemPlace} (hv : Value.okWide Try.prog W .any b0 31 v) (h : DataW.Trod enc Try.prog W base (fun _ => true) held 31 v d p) (hw : (d.weights Try.prog 31).all (· ≤ reachBytes) = true) :
    ∃ (t : TkA) (hs ws : List T2) (ds : List T4) (ts : List T3), v = .agg t.cs ∧ TkR W t hs ws ds ts := by
  obtain ⟨cs, rfl, hsz⟩ := okWide_struct Try.underlying31 hv
  obtain ⟨m, hm⟩ := h
  obtain ⟨xs, n, -, hx, hl, hlen, hf⟩ := DataW.trod_struct Try.underlying31 hm
  have hd : d = .agg (xs.map (·.1)) := congrArg Prod.fst hx
  have hl5 : xs.length = 5 := hlen
  obtain ⟨y0, y1, y2, y3, y4, rfl⟩ : ∃ y0 y1 y2 y3 y4, xs = [y0, y1, y2, y3, y4] := by
    match xs, hl5 with
    | [y0, y1, y2, y3, y4], _ => exact ⟨y0, y1, y2, y3, y4, rfl⟩
  have c0 : Try.prog.cellsOf 25 = 8 := by kernel_rfl
  have c1 : Try.prog.cellsOf 3 = 1 := by kernel_rfl
  have c2 : Try.prog.cellsOf 26 = 1 := by kernel_rfl
  have c3 : Try.prog.cellsOf 28 = 2 := by kernel_rfl
  have c4 : Try.prog.cellsOf 29 = 1 := by kernel_rfl
  have k0 : DataW.trod enc Try.prog W base (fun _ => true) held n 25 (((Value.agg cs).cells.toList.drop 0).take (Try.prog.cellsOf 25)) = some y0 := hf 0 ⟨"Rule", 25, 0, false, "", "", 0⟩ rfl
  have k1 : DataW.trod enc Try.prog W base (fun _ => true) held n 3 (((Value.agg cs).cells.toList.drop 8).take (Try.prog.cellsOf 3)) = some y1 := hf 1 ⟨"First", 3, 8, false, "", "", 96⟩ rfl
  have k2 : DataW.trod enc Try.prog W base (fun _ => true) held n 26 (((Value.agg cs).cells.toList.drop 9).take (Try.prog.cellsOf 26)) = some y2 := hf 2 ⟨"Days", 26, 9, false, "", "", 104⟩ rfl
  have k3 : DataW.trod enc Try.prog W base (fun _ => true) held n 28 (((Value.agg cs).cells.toList.drop 10).take (Try.prog.cellsOf 28)) = some y3 := hf 3 ⟨"Start", 28, 10, false, "", "", 128⟩ rfl
  have k4 : DataW.trod enc Try.prog W base (fun _ => true) held n 29 (((Value.agg cs).cells.toList.drop 12).take (Try.prog.cellsOf 29)) = some y4 := hf 4 ⟨"Tests", 29, 12, false, "", "", 144⟩ rfl
  rw [c0] at k0
  rw [c1] at k1
  rw [c2] at k2
  rw [c3] at k3
  rw [c4] at k4
  rw [hd] at hw
  simp only [DataW.weights, Try.underlying31, DataW.weightsEach, List.map_cons, List.map_nil, List.all_append, Bool.and_eq_true] at hw
  obtain ⟨w0, -, w2, -, w4, -⟩ := hw
  obtain ⟨r, hs, ws, e0, hR⟩ := open_rule_cells k0 w0
  obtain ⟨z1, l1, e1, -⟩ := flatInt k1
  obtain ⟨da, dn, dc, ds, e2, b2, r2⟩ := open_sl4 Try.underlying26 flatDay (by kernel_rfl) k2 (of_decide_eq_true (by kernel_rfl)) w2
  obtain ⟨z3, l3, e3, -⟩ := flatSpan k3
  obtain ⟨ta, tn, tc, ts, e4, b4, r4⟩ := open_sl3 Try.underlying29 flatTest (by kernel_rfl) k4 (of_decide_eq_true (by kernel_rfl)) w4
  obtain ⟨first, rfl⟩ := len1 l1
  obtain ⟨lo, hi, rfl⟩ := len2 l3
  rw [show Try.prog.cellsOf 31 = 13 by kernel_rfl] at hsz
  obtain ⟨l⟩ := cs
  obtain ⟨a0, a1, a2, a3, a4, a5, a6, a7, a8, a9, a10, a11, a12, rfl⟩ : ∃ a0 a1 a2 a3 a4 a5 a6 a7 a8 a9 a10 a11 a12, l = [a0, a1, a2, a3, a4, a5, a6, a7, a8, a9, a10, a11, a12] := by
    match l, hsz with
    | [a0, a1, a2, a3, a4, a5, a6, a7, a8, a9, a10, a11, a12], _ => exact ⟨a0, a1, a2, a3, a4, a5, a6, a7, a8, a9, a10, a11, a12, rfl⟩
  simp [Value.cells] at e0 e1 e2 e3 e4
  obtain ⟨f0, f1, f2, f3, f4, f5, f6, f7⟩ := e0
  obtain ⟨e3, e5⟩ := e3
  subst f0 f1 f2 f3 f4 f5 f6 f7 e1 e2 e3 e4 e5
  exact ⟨⟨r, first, da, dn, dc, lo, hi, ta, tn, tc⟩, hs, ws, ds, ts, rfl, ⟨hR, by simp only; omega, by simp only; omega, r2, r4⟩⟩
set_option maxRecDepth 100000 in
theorem open_day {b0 : Nat} {v : Value} {d : DataW H} {p : List MemPlace} (hv : Value.okWide Try.prog W .any b0 39 v) (h : DataW.Trod enc Try.prog W base (fun _ => true) held 39 v d p) :
    ∃ a b c e : Int, v = .agg #[.int .i64 a, .int .i64 b, .int .i64 c, .int .i64 e] := by
  obtain ⟨cs, rfl, -⟩ := okWide_struct Try.underlying39 hv
  obtain ⟨n, hn⟩ := h
  obtain ⟨zs, l, e, -⟩ := flatDay hn
  obtain ⟨a, b, c, f, rfl⟩ := len4 l
  refine ⟨a, b, c, f, ?_⟩
  have e' : cs.toList = [.int .i64 a, .int .i64 b, .int .i64 c, .int .i64 f] := by simpa [Value.cells] using e
  rw [show cs = #[.int .i64 a, .int .i64 b, .int .i64 c, .int .i64 f] from Array.toList_inj.1 e']
set_option maxRecDepth 100000 in
theorem open_span {b0 : Nat} {v : Value} {d : DataW H} {p : List MemPlace} (hv : Value.okWide Try.prog W .any b0 28 v) (h : DataW.Trod enc Try.prog W base (fun _ => true) held 28 v d p) :
    ∃ a b : Int, v = .agg #[.int .i64 a, .int .i64 b] := by
  obtain ⟨cs, rfl, -⟩ := okWide_struct Try.underlying28 hv
  obtain ⟨n, hn⟩ := h
  obtain ⟨zs, l, e, -⟩ := flatSpan hn
  obtain ⟨a, b, rfl⟩ := len2 l
  refine ⟨a, b, ?_⟩
  have e' : cs.toList = [.int .i64 a, .int .i64 b] := by simpa [Value.cells] using e
  rw [show cs = #[.int .i64 a, .int .i64 b] from Array.toList_inj.1 e']
end
end Go.Proofs.Ytanjkhclhcnnaaa

/- A reel as an argument, opened; the law FilmChecks. -/
import Derived.Test.YtgjpbffoalldkaaGreatDoorXK
import Derived.Test.YtgjpbffoalldkaaGreatDoorXL
import Derived.Test.YtgjpbffoalldkaaGreatDoorXJ
namespace Go.Proofs.YtgjpbffoalldkaaGreatDoor
open Go.ChangeShapes Go.WideShapes Go.ChangeAt Go.RowKit Go.Deep

section
variable {H : Type} {enc : TypeId × Value → H} {W : World} {base : Nat} {held : Bool}

/-- A slice of structs of three integers, opened. -/
theorem open_sl3 {t e : TypeId} {fs : Array Field} {fuel : Nat} {cs : List Value} {x : DataW H × List MemPlace} (ht : Tryz.prog.underlying t = some (.slice e)) (he : Tryz.prog.underlying e = some (.struct fs))
    (hone : oneCellFields Tryz.prog fs = true) (hk : fs.size = 3) (hC : Tryz.prog.cellsOf e = 3) (hall : ∀ (j : Nat) (f : Field), fs[j]? = some f → Tryz.prog.underlying f.type = some (.int .i64)) (h : DataW.trod enc Tryz.prog W base (fun _ => true) held fuel t cs = some x)
    (hb : 8 ≤ Tryz.prog.bytesOf e) (hw : (x.1.weights Tryz.prog t).all (· ≤ reachBytes) = true) : ∃ (a : Option Addr) (n c : Nat) (ms : List T3), cs = [.slice a n c] ∧ n ≤ 17592186043904 ∧ Sl3 W a n ms ∧ ∀ i, i < n → (Lit.int .i64 (ms.getD i (0, 0, 0)).1).wf = true ∧ (Lit.int .i64 (ms.getD i (0, 0, 0)).2.1).wf = true ∧ (Lit.int .i64 (ms.getD i (0, 0, 0)).2.2).wf = true := by
  obtain ⟨a, n, c, rfl, -, hn, -, hat⟩ := open_ints_of ht he hone hk (by decide) hC hall h hb hw
  have key : ∃ ms : List T3, ms.length = n ∧ ∀ i, i < n → ((∀ b o, a = some ⟨b, o, none⟩ → W.cell? ⟨b, o + i * 3, none⟩ = some (.int .i64 (ms.getD i (0, 0, 0)).1) ∧ W.cell? ⟨b, o + i * 3 + 1, none⟩ = some (.int .i64 (ms.getD i (0, 0, 0)).2.1) ∧ W.cell? ⟨b, o + i * 3 + 2, none⟩ = some (.int .i64 (ms.getD i (0, 0, 0)).2.2)) ∧ (Lit.int .i64 (ms.getD i (0, 0, 0)).1).wf = true ∧ (Lit.int .i64 (ms.getD i (0, 0, 0)).2.1).wf = true ∧ (Lit.int .i64 (ms.getD i (0, 0, 0)).2.2).wf = true) := by
    refine exists_list (0, 0, 0) (fun i (m : T3) => (∀ b o, a = some ⟨b, o, none⟩ → W.cell? ⟨b, o + i * 3, none⟩ = some (.int .i64 m.1) ∧ W.cell? ⟨b, o + i * 3 + 1, none⟩ = some (.int .i64 m.2.1) ∧ W.cell? ⟨b, o + i * 3 + 2, none⟩ = some (.int .i64 m.2.2)) ∧ (Lit.int .i64 m.1).wf = true ∧ (Lit.int .i64 m.2.1).wf = true ∧ (Lit.int .i64 m.2.2).wf = true) n fun i hi => ?_
    obtain ⟨b, o, rfl, -, hc⟩ := hat (by omega)
    obtain ⟨g, hg⟩ := hc i hi
    refine ⟨(g 0, g 1, g 2), fun b' o' e => ?_, (hg 0 (by decide)).2, (hg 1 (by decide)).2, (hg 2 (by decide)).2⟩
    injection e with e
    injection e with e1 e2
    subst e1 e2
    exact ⟨(hg 0 (by decide)).1, (hg 1 (by decide)).1, (hg 2 (by decide)).1⟩
  obtain ⟨ms, hl, hms⟩ := key
  refine ⟨a, n, c, ms, rfl, hn, ⟨hl, fun hp => ?_⟩, fun i hi => (hms i hi).2⟩
  obtain ⟨b, o, e, hlt, -⟩ := hat hp
  exact ⟨b, o, e, hlt, fun i hi => (hms i hi).1 b o e⟩
/-- A slice of structs of two integers, opened. -/
theorem open_sl2 {t e : TypeId} {fs : Array Field} {fuel : Nat} {cs : List Value} {x : DataW H × List MemPlace} (ht : Tryz.prog.underlying t = some (.slice e)) (he : Tryz.prog.underlying e = some (.struct fs))
    (hone : oneCellFields Tryz.prog fs = true) (hk : fs.size = 2) (hC : Tryz.prog.cellsOf e = 2) (hall : ∀ (j : Nat) (f : Field), fs[j]? = some f → Tryz.prog.underlying f.type = some (.int .i64)) (h : DataW.trod enc Tryz.prog W base (fun _ => true) held fuel t cs = some x)
    (hb : 8 ≤ Tryz.prog.bytesOf e) (hw : (x.1.weights Tryz.prog t).all (· ≤ reachBytes) = true) : ∃ (a : Option Addr) (n c : Nat) (ms : List T2), cs = [.slice a n c] ∧ n ≤ 17592186043904 ∧ Sl2 W a n ms ∧ ∀ i, i < n → (Lit.int .i64 (ms.getD i (0, 0)).1).wf = true ∧ (Lit.int .i64 (ms.getD i (0, 0)).2).wf = true := by
  obtain ⟨a, n, c, rfl, -, hn, -, hat⟩ := open_ints_of ht he hone hk (by decide) hC hall h hb hw
  have key : ∃ ms : List T2, ms.length = n ∧ ∀ i, i < n → ((∀ b o, a = some ⟨b, o, none⟩ → W.cell? ⟨b, o + i * 2, none⟩ = some (.int .i64 (ms.getD i (0, 0)).1) ∧ W.cell? ⟨b, o + i * 2 + 1, none⟩ = some (.int .i64 (ms.getD i (0, 0)).2)) ∧ (Lit.int .i64 (ms.getD i (0, 0)).1).wf = true ∧ (Lit.int .i64 (ms.getD i (0, 0)).2).wf = true) := by
    refine exists_list (0, 0) (fun i (m : T2) => (∀ b o, a = some ⟨b, o, none⟩ → W.cell? ⟨b, o + i * 2, none⟩ = some (.int .i64 m.1) ∧ W.cell? ⟨b, o + i * 2 + 1, none⟩ = some (.int .i64 m.2)) ∧ (Lit.int .i64 m.1).wf = true ∧ (Lit.int .i64 m.2).wf = true) n fun i hi => ?_
    obtain ⟨b, o, rfl, -, hc⟩ := hat (by omega)
    obtain ⟨g, hg⟩ := hc i hi
    refine ⟨(g 0, g 1), fun b' o' e => ?_, (hg 0 (by decide)).2, (hg 1 (by decide)).2⟩
    injection e with e
    injection e with e1 e2
    subst e1 e2
    exact ⟨(hg 0 (by decide)).1, (hg 1 (by decide)).1⟩
  obtain ⟨ms, hl, hms⟩ := key
  refine ⟨a, n, c, ms, rfl, hn, ⟨hl, fun hp => ?_⟩, fun i hi => (hms i hi).2⟩
  obtain ⟨b, o, e, hlt, -⟩ := hat hp
  exact ⟨b, o, e, hlt, fun i hi => (hms i hi).1 b o e⟩

/-- The reel's own numbers, and those of its slices, are numbers of 64 bits. -/
structure Wide (r : RA) (ms : List T3) (ss : List T2) (ls : List T3) : Prop where
  g : (Lit.int .i64 r.g).wf = true
  f : (Lit.int .i64 r.f).wf = true
  m : ∀ i, i < r.mn → (Lit.int .i64 (ms.getD i (0, 0, 0)).1).wf = true ∧ (Lit.int .i64 (ms.getD i (0, 0, 0)).2.1).wf = true ∧ (Lit.int .i64 (ms.getD i (0, 0, 0)).2.2).wf = true
  s : ∀ i, i < r.sn → (Lit.int .i64 (ss.getD i (0, 0)).1).wf = true ∧ (Lit.int .i64 (ss.getD i (0, 0)).2).wf = true
  l : ∀ i, i < r.ln → (Lit.int .i64 (ls.getD i (0, 0, 0)).1).wf = true ∧ (Lit.int .i64 (ls.getD i (0, 0, 0)).2.1).wf = true ∧ (Lit.int .i64 (ls.getD i (0, 0, 0)).2.2).wf = true

theorem one_of {cs : List Value} {i : Nat} {v : Value} (h : (cs.drop i).take 1 = [v]) : cs[i]? = some v := by
  have := congrArg (·[0]?) h
  simpa [List.getElem?_take, List.getElem?_drop] using this

set_option maxRecDepth 100000 in
theorem open_reel {b0 : Nat} {v : Value} {d : DataW H} {p : List MemPlace} (hv : Value.okWide Tryz.prog W .any b0 30 v) (h : DataW.Trod enc Tryz.prog W base (fun _ => true) held 30 v d p) (hw : (d.weights Tryz.prog 30).all (· ≤ reachBytes) = true) :
    ∃ (r : RA) (ms : List T3) (ss : List T2) (ls : List T3), v = .agg r.cs ∧ Reads W r ms ss ls ∧ Wide r ms ss ls := by
  obtain ⟨cs, rfl, hsz⟩ := okWide_struct Tryz.underlying30 hv
  obtain ⟨n, hn⟩ := h
  obtain ⟨xs, m, -, hx, -, hl, hk⟩ := DataW.trod_struct Tryz.underlying30 hn
  have hd : d = .agg (xs.map (·.1)) := congrArg Prod.fst hx
  have hc : Tryz.prog.cellsOf 30 = 10 := by kernel_rfl
  have c3 : Tryz.prog.cellsOf 3 = 1 := by kernel_rfl
  have c9 : Tryz.prog.cellsOf 9 = 1 := by kernel_rfl
  have c25 : Tryz.prog.cellsOf 25 = 2 := by kernel_rfl
  have c26 : Tryz.prog.cellsOf 26 = 1 := by kernel_rfl
  have c27 : Tryz.prog.cellsOf 27 = 1 := by kernel_rfl
  have c28 : Tryz.prog.cellsOf 28 = 1 := by kernel_rfl
  have hl9 : xs.length = 9 := hl
  obtain ⟨y0, y1, y2, y3, y4, y5, y6, y7, y8, rfl⟩ : ∃ y0 y1 y2 y3 y4 y5 y6 y7 y8, xs = [y0, y1, y2, y3, y4, y5, y6, y7, y8] := by
    match xs, hl9 with
    | [y0, y1, y2, y3, y4, y5, y6, y7, y8], _ => exact ⟨y0, y1, y2, y3, y4, y5, y6, y7, y8, rfl⟩
  have k0 : DataW.trod enc Tryz.prog W base (fun _ => true) held m 9 (((Value.agg cs).cells.toList.drop 0).take (Tryz.prog.cellsOf 9)) = some y0 := hk 0 ⟨"Name", 9, 0, false, "", "", 0⟩ rfl
  rw [c9] at k0
  have k1 : DataW.trod enc Tryz.prog W base (fun _ => true) held m 3 (((Value.agg cs).cells.toList.drop 1).take (Tryz.prog.cellsOf 3)) = some y1 := hk 1 ⟨"Gauge", 3, 1, false, "", "", 16⟩ rfl
  rw [c3] at k1
  have k2 : DataW.trod enc Tryz.prog W base (fun _ => true) held m 3 (((Value.agg cs).cells.toList.drop 2).take (Tryz.prog.cellsOf 3)) = some y2 := hk 2 ⟨"Base", 3, 2, false, "", "", 24⟩ rfl
  rw [c3] at k2
  have k3 : DataW.trod enc Tryz.prog W base (fun _ => true) held m 3 (((Value.agg cs).cells.toList.drop 3).take (Tryz.prog.cellsOf 3)) = some y3 := hk 3 ⟨"Frames", 3, 3, false, "", "", 32⟩ rfl
  rw [c3] at k3
  have k4 : DataW.trod enc Tryz.prog W base (fun _ => true) held m 25 (((Value.agg cs).cells.toList.drop 4).take (Tryz.prog.cellsOf 25)) = some y4 := hk 4 ⟨"Years", 25, 4, false, "", "", 40⟩ rfl
  rw [c25] at k4
  have k5 : DataW.trod enc Tryz.prog W base (fun _ => true) held m 3 (((Value.agg cs).cells.toList.drop 6).take (Tryz.prog.cellsOf 3)) = some y5 := hk 5 ⟨"Keep", 3, 6, false, "", "", 56⟩ rfl
  rw [c3] at k5
  have k6 : DataW.trod enc Tryz.prog W base (fun _ => true) held m 26 (((Value.agg cs).cells.toList.drop 7).take (Tryz.prog.cellsOf 26)) = some y6 := hk 6 ⟨"Marks", 26, 7, false, "", "", 64⟩ rfl
  rw [c26] at k6
  have k7 : DataW.trod enc Tryz.prog W base (fun _ => true) held m 27 (((Value.agg cs).cells.toList.drop 8).take (Tryz.prog.cellsOf 27)) = some y7 := hk 7 ⟨"Symbols", 27, 8, false, "", "", 88⟩ rfl
  rw [c27] at k7
  have k8 : DataW.trod enc Tryz.prog W base (fun _ => true) held m 28 (((Value.agg cs).cells.toList.drop 9).take (Tryz.prog.cellsOf 28)) = some y8 := hk 8 ⟨"Lengths", 28, 9, false, "", "", 112⟩ rfl
  rw [c28] at k8
  obtain ⟨nm, e0, -, hnm⟩ := DataW.trod_string Tryz.underlying9 k0
  obtain ⟨g, e1, -, wg⟩ := DataW.trod_int Tryz.underlying3 k1
  obtain ⟨b, e2, -, -⟩ := DataW.trod_int Tryz.underlying3 k2
  obtain ⟨f, e3, -, wf⟩ := DataW.trod_int Tryz.underlying3 k3
  obtain ⟨ys, m', -, -, -, hyl, hy⟩ := DataW.trod_struct Tryz.underlying25 k4
  have hyl2 : ys.length = 2 := hyl
  obtain ⟨z0, z1, rfl⟩ : ∃ z0 z1, ys = [z0, z1] := by
    match ys, hyl2 with
    | [z0, z1], _ => exact ⟨z0, z1, rfl⟩
  have q0 : DataW.trod enc Tryz.prog W base (fun _ => true) held m' 3 (((((Value.agg cs).cells.toList.drop 4).take 2).drop 0).take (Tryz.prog.cellsOf 3)) = some z0 := hy 0 ⟨"Lo", 3, 0, false, "", "", 0⟩ rfl
  have q1 : DataW.trod enc Tryz.prog W base (fun _ => true) held m' 3 (((((Value.agg cs).cells.toList.drop 4).take 2).drop 1).take (Tryz.prog.cellsOf 3)) = some z1 := hy 1 ⟨"Hi", 3, 1, false, "", "", 8⟩ rfl
  rw [c3] at q0 q1
  obtain ⟨lo, e4, -, -⟩ := DataW.trod_int Tryz.underlying3 q0
  obtain ⟨hi, e5, -, -⟩ := DataW.trod_int Tryz.underlying3 q1
  obtain ⟨kp, e6, -, -⟩ := DataW.trod_int Tryz.underlying3 k5
  rw [hd] at hw
  simp only [DataW.weights, Tryz.underlying30, DataW.weightsEach, List.map_cons, List.map_nil, List.all_append, Bool.and_eq_true] at hw
  obtain ⟨-, -, -, -, -, -, w6, w7, w8, -⟩ := hw
  obtain ⟨ma, mn, mc, ms, e7, hmn, hms, wm⟩ := open_sl3 Tryz.underlying26 Tryz.underlying68 (by kernel_rfl) rfl (by kernel_rfl) (fun j f' hj => by
    match j with
    | 0 => cases hj; exact Tryz.underlying3
    | 1 => cases hj; exact Tryz.underlying3
    | 2 => cases hj; exact Tryz.underlying3
    | j + 3 => simp at hj) k6 (of_decide_eq_true (by kernel_rfl)) w6
  obtain ⟨sa, sn, sc, ss, e8, hsn, hss, wss⟩ := open_sl2 Tryz.underlying27 Tryz.underlying74 (by kernel_rfl) rfl (by kernel_rfl) (fun j f' hj => by
    match j with
    | 0 => cases hj; exact Tryz.underlying3
    | 1 => cases hj; exact Tryz.underlying3
    | j + 2 => simp at hj) k7 (of_decide_eq_true (by kernel_rfl)) w7
  obtain ⟨la, ln, lc, ls, e9, hln, hls, wl⟩ := open_sl3 Tryz.underlying28 Tryz.underlying81 (by kernel_rfl) rfl (by kernel_rfl) (fun j f' hj => by
    match j with
    | 0 => cases hj; exact Tryz.underlying3
    | 1 => cases hj; exact Tryz.underlying3
    | 2 => cases hj; exact Tryz.underlying3
    | j + 3 => simp at hj) k8 (of_decide_eq_true (by kernel_rfl)) w8
  rw [hc] at hsz
  obtain ⟨l⟩ := cs
  obtain ⟨a0, a1, a2, a3, a4, a5, a6, a7, a8, a9, rfl⟩ : ∃ a0 a1 a2 a3 a4 a5 a6 a7 a8 a9, l = [a0, a1, a2, a3, a4, a5, a6, a7, a8, a9] := by
    match l, hsz with
    | [a0, a1, a2, a3, a4, a5, a6, a7, a8, a9], _ => exact ⟨a0, a1, a2, a3, a4, a5, a6, a7, a8, a9, rfl⟩
  simp [Value.cells] at e0 e1 e2 e3 e4 e5 e6 e7 e8 e9
  subst e0 e1 e2 e3 e4 e5 e6 e7 e8 e9
  exact ⟨⟨nm, g, b, f, lo, hi, kp, ma, mn, mc, sa, sn, sc, la, ln, lc⟩, ms, ss, ls, rfl, ⟨hnm, by simp only; omega, by simp only; omega, by simp only; omega, hms, hss, hls⟩, ⟨wg, wf, wm, wss, wl⟩⟩
end

set_option maxRecDepth 100000 in
theorem checksLaw_any (hA : AwakeSaid) (r : RA) (ms : List T3) (ss : List T2) (ls : List T3) (w : World) (G : Glob w) (hR : Reads w r ms ss ls) :
    Calls Tryz.prog 4 #[.agg r.cs] w fun e w' => e = .returned (.bool true) ∧ Below w.heap.size w w' := by
  have HC := Lib.hid (fun W (h : Below w.heap.size w W) => check_any r ms ss ls W (G.below G.hz h) (hR.below h))
  have HR := Lib.hid (fun W (h : Below w.heap.size w W) => refCheck_any r ms ss ls W (hR.below h))
  have HA := Lib.hid (fun W (h : Below w.heap.size w W) => hA W (G.below G.hz h))
  unfold CheckPost at HR
  generalize checkS r ms ss ls = p at HC HR
  obtain ⟨p1, p2, p3⟩ := p
  simp only at HC HR
  clear hA hR
  go_enter Tryz.func4, Tryz.ntmps4
  go_wp2_with (first
    | (go_at_call 19; (with_reducible refine (HC.out _ (B_alloc (Below.refl _ _) _)).mono ?_); rintro e w1 ⟨rfl, hb1⟩; have B1 := Lib.hid (B_trans (B_alloc (Below.refl _ _) _) hb1); have hc1 := (bcell hb1).1; have hz1 : w.heap.size < w1.heap.size := (by have := hb1.size; simp at this; omega))
    | (go_at_call 20; (with_reducible refine (HR.out _ B1.out).mono ?_); rintro e w2 ⟨rfl, hb2⟩; have B2 := Lib.hid (B_trans B1.out hb2))
    | (go_at_call 18; (with_reducible refine (HA.out _ B2.out).mono ?_); rintro e w3 ⟨rfl, hb3⟩))
  all_goals (go_ret; exact ⟨rfl, B_trans B2.out hb3⟩)
end Go.Proofs.YtgjpbffoalldkaaGreatDoor

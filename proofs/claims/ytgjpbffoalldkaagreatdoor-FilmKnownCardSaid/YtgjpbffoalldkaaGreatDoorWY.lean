/- What the rows' laid tables give: the world that the walks ask for. -/
import Derived.Test.YtgjpbffoalldkaaGreatDoorWX
import Derived.Test.YtgjpbffoalldkaaGreatDoorRows
import Derived.Lib.LaidTab
import Derived.OpenShut
namespace Go.Proofs.YtgjpbffoalldkaaGreatDoor
open Go.RowKit

theorem laid_tail {P : Program} {x : String × DataW Unit} {r : List (String × DataW Unit)} {W : World} (h : laidMet P (x :: r) W) : laidMet P r W := by
  obtain ⟨ps, ⟨g, t, cs, fuel, p, q, hg, ht, hv, hd, hr, rfl⟩, hn, ha⟩ := h
  exact ⟨q, hr, (List.nodup_append.1 hn).2.1, fun b off hm => ha b off (List.mem_append_right _ hm)⟩

theorem g_words : Tryz.prog.globalNamed "telecine/film.baseWords" = some 0 := by kernel_rfl
theorem g_stocks : Tryz.prog.globalNamed "telecine/film.stocks" = some 1 := by kernel_rfl
theorem g_pow : Tryz.prog.globalNamed "internal/strconv.uint64pow10" = some 5 := by kernel_rfl
theorem t_words : (Tryz.prog.globals[0]?).map (·.type) = some 113 := by kernel_rfl
theorem t_stocks : (Tryz.prog.globals[1]?).map (·.type) = some 121 := by kernel_rfl
theorem t_pow : (Tryz.prog.globals[5]?).map (·.type) = some 204 := by kernel_rfl
theorem u112 : Tryz.prog.underlying 113 = some (.array 3 9) := by kernel_rfl
theorem u9 : Tryz.prog.underlying 9 = some .string := by kernel_rfl
theorem u3 : Tryz.prog.underlying 3 = some (.int .i64) := by kernel_rfl
theorem c9 : Tryz.prog.cellsOf 9 = 1 := by kernel_rfl
theorem c3 : Tryz.prog.cellsOf 3 = 1 := by kernel_rfl
theorem c203 : Tryz.prog.cellsOf 204 = 20 := by kernel_rfl

/-- What a table of strings holds. -/
theorem words_at {W : World} {rest : List (String × DataW Unit)} {ls : List (List UInt8)} (h : laidMet Tryz.prog (("telecine/film.baseWords", .agg (ls.map fun l => .lit (.string l))) :: rest) W) (i : Nat) (hi : i < 3) (l : List UInt8) (hl : ls[i]? = some l) :
    W.cell? ⟨0, i, none⟩ = some (.string ⟨l.toArray⟩) := by
  obtain ⟨ps, ⟨g', t', cs, fuel, p, q, hg', ht', hvar, hd, -, -⟩, -⟩ := h
  obtain rfl := Option.some.inj (g_words.symm.trans hg')
  obtain rfl := Option.some.inj (t_words.symm.trans ht')
  obtain ⟨xs, m, rfl, hx, -, hxl, hk⟩ := DataW.trod_array u112 hd
  have hxs : xs.map (·.1) = ls.map fun l => (DataW.lit (.string l) : DataW Unit) := by
    have := congrArg Prod.fst hx
    simpa using this.symm
  have h1 := hk i hi
  rw [c9, List.getElem?_eq_getElem (by omega : i < xs.length)] at h1
  obtain ⟨s, hs, hx2, -⟩ := DataW.trod_string u9 h1
  have h2 := congrArg (·[i]?) hxs
  simp only [List.getElem?_map, hl, Option.map_some, List.getElem?_eq_getElem (by omega : i < xs.length), hx2, Option.some.injEq, DataW.lit.injEq, Lit.string.injEq] at h2
  have h3 : cs[i]? = some (.string s) := by
    have := congrArg (·[0]?) hs
    simpa [List.getElem?_take, List.getElem?_drop] using this
  have := World.var?_cell g_words hvar i
  rw [this]
  subst h2
  simpa using h3
theorem u120 : Tryz.prog.underlying 121 = some (.array 3 95) := by kernel_rfl
theorem c94 : Tryz.prog.cellsOf 95 = 2 := by kernel_rfl
theorem u94 : (match Tryz.prog.underlying 95 with | some (.struct fs) => fs.map (fun f => (f.type, f.offset)) | _ => #[]) = #[(3, 0), (3, 1)] := by kernel_rfl
/-- What a table of pairs of numbers holds. -/
theorem stocks_at {W : World} {rest : List (String × DataW Unit)} {ls : List (Int × Int)} (h : laidMet Tryz.prog (("telecine/film.stocks", .agg (ls.map fun l => .agg [.lit (.int .i64 l.1), .lit (.int .i64 l.2)])) :: rest) W) (i : Nat) (hi : i < 3) (l : Int × Int) (hl : ls[i]? = some l) :
    W.cell? ⟨1, i * 2, none⟩ = some (.int .i64 l.1) ∧ W.cell? ⟨1, i * 2 + 1, none⟩ = some (.int .i64 l.2) := by
  obtain ⟨ps, ⟨g', t', cs, fuel, p, q, hg', ht', hvar, hd, -, -⟩, -⟩ := h
  obtain rfl := Option.some.inj (g_stocks.symm.trans hg')
  obtain rfl := Option.some.inj (t_stocks.symm.trans ht')
  obtain ⟨xs, m, rfl, hx, -, hxl, hk⟩ := DataW.trod_array u120 hd
  have hxs : xs.map (·.1) = ls.map fun l => (DataW.agg [.lit (.int .i64 l.1), .lit (.int .i64 l.2)] : DataW Unit) := by
    have := congrArg Prod.fst hx
    simpa using this.symm
  have h1 := hk i hi
  rw [c94, List.getElem?_eq_getElem (by omega : i < xs.length)] at h1
  have u := u94
  cases hu : Tryz.prog.underlying 95 with
  | none => rw [hu] at u; cases u
  | some T =>
    rw [hu] at u
    cases T <;> try (cases u; done)
    rename_i fs
    simp only at u
    obtain ⟨ys, n, rfl, hy, -, hyl, hf⟩ := DataW.trod_struct hu h1
    have hfs : fs.size = 2 := by have := congrArg Array.size u; simpa using this
    obtain ⟨f0, e0, e0t, e0o⟩ : ∃ f, fs[0]? = some f ∧ f.type = 3 ∧ f.offset = 0 := by
      have := congrArg (·[0]?) u
      simp only [Array.getElem?_map] at this
      obtain ⟨f, h, e⟩ := Option.map_eq_some_iff.1 (this.trans rfl)
      exact ⟨f, h, congrArg Prod.fst e, congrArg Prod.snd e⟩
    obtain ⟨f1, e1, e1t, e1o⟩ : ∃ f, fs[1]? = some f ∧ f.type = 3 ∧ f.offset = 1 := by
      have := congrArg (·[1]?) u
      simp only [Array.getElem?_map] at this
      obtain ⟨f, h, e⟩ := Option.map_eq_some_iff.1 (this.trans rfl)
      exact ⟨f, h, congrArg Prod.fst e, congrArg Prod.snd e⟩
    have a0 := hf 0 f0 e0
    have a1 := hf 1 f1 e1
    rw [e0t, e0o, c3, List.getElem?_eq_getElem (by omega : 0 < ys.length)] at a0
    rw [e1t, e1o, c3, List.getElem?_eq_getElem (by omega : 1 < ys.length)] at a1
    obtain ⟨n0, b0, d0, -⟩ := DataW.trod_int u3 a0
    obtain ⟨n1, b1, d1, -⟩ := DataW.trod_int u3 a1
    have h2 := congrArg (·[i]?) hxs
    simp only [List.getElem?_map, hl, Option.map_some, List.getElem?_eq_getElem (by omega : i < xs.length), Option.some.injEq] at h2
    have hy1 := congrArg Prod.fst hy
    rw [hy1] at h2
    injection h2 with h2
    have k0 := congrArg (·[0]?) h2
    have k1 := congrArg (·[1]?) h2
    simp only [List.getElem?_map, List.getElem?_eq_getElem (by omega : 0 < ys.length), d0, Option.map_some, List.getElem?_cons_zero, Option.some.injEq, DataW.lit.injEq, Lit.int.injEq, true_and] at k0
    simp only [List.getElem?_map, List.getElem?_eq_getElem (by omega : 1 < ys.length), d1, Option.map_some, List.getElem?_cons_succ, List.getElem?_cons_zero, Option.some.injEq, DataW.lit.injEq, Lit.int.injEq, true_and] at k1
    have m0 := congrArg (·[0]?) b0
    have m1 := congrArg (·[0]?) b1
    simp [List.getElem?_drop] at m0 m1
    rw [World.var?_cell g_stocks hvar, World.var?_cell g_stocks hvar, m0, m1, k0, k1]
    exact ⟨rfl, rfl⟩
theorem b32_10 (W : World) (h : W.ShapedOpen Tryz.prog) : 10 ≤ W.heap.size := by
  obtain ⟨h1, -⟩ := h
  have e : ∃ z t, ((begin Tryz.prog (fun _ _ => 0) default).world.heap[9]?).bind Obj.row? = some (z, t) := by
    have : (((begin Tryz.prog (fun _ _ => 0) default).world.heap[9]?).bind Obj.row?).isSome = true := by kernel_rfl
    obtain ⟨x, hx⟩ := Option.isSome_iff_exists.1 this
    exact ⟨x.1, x.2, hx⟩
  obtain ⟨z, t, e⟩ := e
  obtain ⟨cs, hcs, -⟩ := h1 9 z t (of_decide_eq_true (by kernel_rfl)) e
  obtain ⟨hlt, -⟩ := Array.getElem?_eq_some_iff.1 hcs
  omega

set_option maxRecDepth 100000 in
/-- THE WORLD OF A ROW IS ONE OF THE WALKS'. -/
theorem glob_of {W : World} (hsh : W.ShapedOpen Tryz.prog) (h : laidMetH Tryz.prog Rows.filmNamesRow.laid W) : Glob W := by
  have l0 : laidMet Tryz.prog Rows.filmNamesRow.laid W := h
  have l2 := laid_tail (laid_tail l0)
  have l4 := laid_tail (laid_tail l2)
  have l5 := laid_tail l4
  have hw := words_at (ls := [[110, 105, 116, 114, 97, 116, 101], [97, 99, 101, 116, 97, 116, 101], [112, 111, 108, 121, 101, 115, 116, 101, 114]]) l4
  have hst := stocks_at (ls := [(16, 19000), (40, 7620), (80, 3810)]) l5
  exact {
    hz := b32_10 W hsh
    s0 := (hst 0 (by decide) _ rfl).1
    s1 := (hst 0 (by decide) _ rfl).2
    s2 := (hst 1 (by decide) _ rfl).1
    s3 := (hst 1 (by decide) _ rfl).2
    s4 := (hst 2 (by decide) _ rfl).1
    s5 := (hst 2 (by decide) _ rfl).2
    ml := Tryz.laysM219.s1_3 W hsh
    pt := Lib.tabIs_of_head g_pow t_pow Tryz.underlying204 (by kernel_rfl) (by kernel_rfl) c203 l2
    b0 := hw 0 (by decide) _ rfl
    b1 := hw 1 (by decide) _ rfl
    b2 := hw 2 (by decide) _ rfl }
end Go.Proofs.YtgjpbffoalldkaaGreatDoor

/- The law DecayTrue, for every task; a course opened. -/
import Derived.Test.YtanjkhclhcnnaaaEG
namespace Go.Proofs.Ytanjkhclhcnnaaa
open Go.ChangeShapes Go.WideShapes Go.ChangeAt Go.RowKit Go.Deep

theorem trueLaw_all (t : TkA) (hs ws : List T2) (ds : List T4) (ts : List T3) (x0 : Int) (xa : Option Addr) (xn xc : Nat) (bs : List Int) (w : World) (hR : TkR w t hs ws ds ts) (hx : 0 ≤ x0 ∧ x0 ≤ 255) (hX : Nums w .u8 0 255 xa xn bs) :
    Calls Try.prog 9 #[.agg t.cs, .agg #[.int .u8 x0, .slice xa xn xc]] w fun e w' => e = .returned (.bool true) ∧ Below w.heap.size w w' := by
  by_cases he : (taskS t hs ws ds ts).2.2 = 0
  · exact trueLaw_any t hs ws ds ts x0 xa xn xc bs w hR he hx hX
  · exact trueLaw_bad t hs ws ds ts x0 _ w hR he

section
variable {H : Type} {enc : TypeId × Value → H} {W : World} {base : Nat} {held : Bool} {b0 : Nat}

theorem wf_u8 (x : Int) (h : (Lit.int .u8 x).wf = true) : 0 ≤ x ∧ x ≤ 255 := by
  simp only [Lit.wf, Bool.and_eq_true, decide_eq_true_eq] at h
  exact ⟨h.1, h.2⟩
set_option maxRecDepth 100000 in
/-- A slice of integers with their bounds. -/
theorem open_nums_of {t e : TypeId} {k : IntKind} {lo hi : Int} {fuel : Nat} {cs : List Value} {x : DataW H × List MemPlace} (ht : Try.prog.underlying t = some (.slice e)) (he : Try.prog.underlying e = some (.int k)) (hC : Try.prog.cellsOf e = 1)
    (hk : ∀ x, (Lit.int k x).wf = true → lo ≤ x ∧ x ≤ hi) (h : DataW.trod enc Try.prog W base (fun _ => true) held fuel t cs = some x) (hb : 1 ≤ Try.prog.bytesOf e) (hw : (x.1.weights Try.prog t).all (· ≤ reachBytes) = true) :
    ∃ (a : Option Addr) (n c : Nat) (zs : List Int), cs = [.slice a n c] ∧ Nums W k lo hi a n zs := by
  rcases open_slice ht h with ⟨rfl, rfl⟩ | ⟨a, len, cap, m, n, D, Pl, rfl, hbase, hle, hmax, hm, hx, hi'⟩
  · exact ⟨none, 0, 0, [], rfl, rfl, by omega, fun h => absurd h (Nat.lt_irrefl 0)⟩
  · have hmc : m = cap := by rw [hm]; simp
    have hreach : cap ≤ 140737488351232 := by
      rw [hx] at hw
      simp only [DataW.weights, ht, List.all_cons, Bool.and_eq_true, decide_eq_true_eq, List.length_map, List.length_range] at hw
      have h1 := hw.1
      have h2 : (len + (m - len)) * 1 ≤ (len + (m - len)) * Try.prog.bytesOf e := Nat.mul_le_mul_left _ hb
      have h3 : reachBytes = 140737488351232 := rfl
      rw [hmc] at h1 h2
      omega
    have cellAt : ∀ i, i < len → ∃ z : Int, W.cell? (a.add i) = some (.int k z) ∧ lo ≤ z ∧ z ≤ hi := by
      intro i hil
      obtain ⟨cs', hc, ht'⟩ := hi' i (by omega)
      rw [hC, Nat.mul_one] at hc
      obtain ⟨_, hcl, hat⟩ := World.cells?_some hc
      obtain ⟨z, hz1, -, hz3⟩ := DataW.trod_int he ht'
      have h2 := congrArg (·[0]?) hz1
      simp at h2
      refine ⟨z, ?_, hk z hz3⟩
      rw [← Nat.add_zero i, ← Go.Deep.add_add, hat 0 (by decide), h2]
    obtain ⟨zs, hzl, hzs⟩ := exists_list (0 : Int) (fun i z => W.cell? (a.add i) = some (.int k z) ∧ lo ≤ z ∧ z ≤ hi) len cellAt
    refine ⟨some a, len, cap, zs, rfl, hzl, by omega, fun hp => ?_⟩
    obtain ⟨b, off, spot⟩ := a
    have h0 := (hzs 0 hp).1
    have hspot : spot = none := by simpa [Addr.add] using World.cell?_spot h0
    subst hspot
    refine ⟨b, off, rfl, by simpa [Addr.add] using World.block_lt_of_cell? _ _ h0, fun i hi'' => ?_⟩
    have := hzs i hi''
    rw [Go.WideShapes.add_plain] at this
    exact this
set_option maxRecDepth 100000 in
theorem open_course {v : Value} {d : DataW H} {p : List MemPlace} (hv : Value.okWide Try.prog W .any b0 68 v) (h : DataW.Trod enc Try.prog W base (fun _ => true) held 68 v d p) (hw : (d.weights Try.prog 68).all (· ≤ reachBytes) = true) :
    ∃ (x0 : Int) (xa : Option Addr) (xn xc : Nat) (bs : List Int), v = .agg #[.int .u8 x0, .slice xa xn xc] ∧ (0 ≤ x0 ∧ x0 ≤ 255) ∧ Nums W .u8 0 255 xa xn bs := by
  obtain ⟨cs, rfl, hsz⟩ := okWide_struct Try.underlying68 hv
  obtain ⟨n, hn⟩ := h
  obtain ⟨xs, m, -, hx, -, hl, hk⟩ := DataW.trod_struct Try.underlying68 hn
  have hd : d = .agg (xs.map (·.1)) := congrArg Prod.fst hx
  have hc : Try.prog.cellsOf 68 = 2 := by kernel_rfl
  have c5 : Try.prog.cellsOf 5 = 1 := by kernel_rfl
  have c6 : Try.prog.cellsOf 66 = 1 := by kernel_rfl
  have hl2 : xs.length = 2 := hl
  obtain ⟨y0, y1, rfl⟩ : ∃ y0 y1, xs = [y0, y1] := by
    match xs, hl2 with
    | [y0, y1], _ => exact ⟨y0, y1, rfl⟩
  have k0 : DataW.trod enc Try.prog W base (fun _ => true) held m 5 (((Value.agg cs).cells.toList.drop 0).take (Try.prog.cellsOf 5)) = some y0 := hk 0 _ rfl
  have k1 : DataW.trod enc Try.prog W base (fun _ => true) held m 66 (((Value.agg cs).cells.toList.drop 1).take (Try.prog.cellsOf 66)) = some y1 := hk 1 _ rfl
  rw [c5] at k0
  rw [c6] at k1
  rw [hd] at hw
  simp only [DataW.weights, Try.underlying68, DataW.weightsEach, List.map_cons, List.map_nil, List.all_append, Bool.and_eq_true] at hw
  obtain ⟨-, w1, -⟩ := hw
  obtain ⟨x0, e0, -, wx⟩ := DataW.trod_int Try.underlying5 k0
  obtain ⟨xa, xn, xc, bs, e1, hA⟩ := open_nums_of Try.underlying66 Try.underlying5 (by kernel_rfl) wf_u8 k1 (of_decide_eq_true (by kernel_rfl)) w1
  rw [hc] at hsz
  obtain ⟨l⟩ := cs
  obtain ⟨a0, a1, rfl⟩ : ∃ a0 a1, l = [a0, a1] := by
    match l, hsz with
    | [a0, a1], _ => exact ⟨a0, a1, rfl⟩
  simp [Value.cells] at e0 e1
  subst e0 e1
  exact ⟨x0, xa, xn, xc, bs, rfl, wf_u8 x0 wx, hA⟩
end
end Go.Proofs.Ytanjkhclhcnnaaa

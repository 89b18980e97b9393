/- Arguments opened: small integers and slices of them. -/
import Derived.Test.YtbicafmlbknkiaaGreatDoorZA
import Derived.Test.YtbicafmlbknkiaaGreatDoorXM
namespace Go.Proofs.YtbicafmlbknkiaaGreatDoor
open Go.ChangeShapes Go.WideShapes Go.ChangeAt Go.RowKit Go.Deep

section
variable {H : Type} {enc : TypeId × Value → H} {W : World} {base : Nat} {held : Bool}

theorem wf_u16 (x : Int) (h : (Lit.int .u16 x).wf = true) : 0 ≤ x ∧ x ≤ 65535 := by
  simp only [Lit.wf, Bool.and_eq_true, decide_eq_true_eq] at h
  exact ⟨h.1, h.2⟩
theorem wf_i16 (x : Int) (h : (Lit.int .i16 x).wf = true) : -32768 ≤ x ∧ x ≤ 32767 := by
  simp only [Lit.wf, Bool.and_eq_true, decide_eq_true_eq] at h
  exact ⟨h.1, h.2⟩
theorem wf_u8 (x : Int) (h : (Lit.int .u8 x).wf = true) : 0 ≤ x ∧ x ≤ 255 := by
  simp only [Lit.wf, Bool.and_eq_true, decide_eq_true_eq] at h
  exact ⟨h.1, h.2⟩

set_option maxRecDepth 100000 in
/-- An integer with its bounds. -/
theorem open_int {t : TypeId} {k : IntKind} {b0 : Nat} {v : Value} {d : DataW H} {p : List MemPlace} (ht : Tryz.prog.underlying t = some (.int k)) (hv : Value.okWide Tryz.prog W .any b0 t v) (h : DataW.Trod enc Tryz.prog W base (fun _ => true) held t v d p) :
    ∃ x : Int, v = .int k x ∧ (Lit.int k x).wf = true := by
  obtain ⟨x, rfl⟩ := okWide_int ht hv
  obtain ⟨n, hn⟩ := h
  obtain ⟨y, e, -, wf⟩ := DataW.trod_int ht hn
  simp [Value.cells] at e
  subst e
  exact ⟨_, rfl, wf⟩

set_option maxRecDepth 100000 in
/-- A slice of integers with their bounds. -/
theorem open_nums_of {t e : TypeId} {k : IntKind} {lo hi : Int} {fuel : Nat} {cs : List Value} {x : DataW H × List MemPlace} (ht : Tryz.prog.underlying t = some (.slice e)) (he : Tryz.prog.underlying e = some (.int k)) (hC : Tryz.prog.cellsOf e = 1)
    (hk : ∀ x, (Lit.int k x).wf = true → lo ≤ x ∧ x ≤ hi) (h : DataW.trod enc Tryz.prog W base (fun _ => true) held fuel t cs = some x) (hb : 1 ≤ Tryz.prog.bytesOf e) (hw : (x.1.weights Tryz.prog t).all (· ≤ reachBytes) = true) :
    ∃ (a : Option Addr) (n c : Nat) (zs : List Int), cs = [.slice a n c] ∧ Nums W k lo hi a n zs := by
  rcases open_slice ht h with ⟨rfl, rfl⟩ | ⟨a, len, cap, m, n, D, Pl, rfl, hbase, hle, hmax, hm, hx, hi'⟩
  · exact ⟨none, 0, 0, [], rfl, rfl, by omega, fun h => absurd h (Nat.lt_irrefl 0)⟩
  · have hmc : m = cap := by rw [hm]; simp
    have hreach : cap ≤ 140737488351232 := by
      rw [hx] at hw
      simp only [DataW.weights, ht, List.all_cons, Bool.and_eq_true, decide_eq_true_eq, List.length_map, List.length_range] at hw
      have h1 := hw.1
      have h2 : (len + (m - len)) * 1 ≤ (len + (m - len)) * Tryz.prog.bytesOf e := Nat.mul_le_mul_left _ hb
      have h3 : reachBytes = 140737488351232 := rfl
      rw [hmc] at h1 h2
      omega
    have cellAt : ∀ i, i < len → ∃ z : Int, W.cell? (a.add i) = some (.int k z) ∧ lo ≤ z ∧ z ≤ hi := by
      intro i hil
      obtain ⟨cs', hc, ht'⟩ := hi' i (by omega)
      rw [hC, Nat.mul_one] at hc
      obtain ⟨_, hcl, hat⟩ := World.cells?_some hc
      obtain ⟨z, hz1, -, hz3⟩ := DataW.trod_int he ht'
      have h2 := congrArg (·[0]?) hz1
      simp at h2
      refine ⟨z, ?_, hk z hz3⟩
      rw [← Nat.add_zero i, ← Go.Deep.add_add, hat 0 (by decide), h2]
    obtain ⟨zs, hzl, hzs⟩ := exists_list (0 : Int) (fun i z => W.cell? (a.add i) = some (.int k z) ∧ lo ≤ z ∧ z ≤ hi) len cellAt
    refine ⟨some a, len, cap, zs, rfl, hzl, by omega, fun hp => ?_⟩
    obtain ⟨b, off, spot⟩ := a
    have h0 := (hzs 0 hp).1
    have hspot : spot = none := by simpa [Addr.add] using World.cell?_spot h0
    subst hspot
    refine ⟨b, off, rfl, by simpa [Addr.add] using World.block_lt_of_cell? _ _ h0, fun i hi'' => ?_⟩
    have := hzs i hi''
    rw [Go.WideShapes.add_plain] at this
    exact this
set_option maxRecDepth 100000 in
theorem open_nums {t e : TypeId} {k : IntKind} {lo hi : Int} {b0 : Nat} {v : Value} {d : DataW H} {p : List MemPlace} (ht : Tryz.prog.underlying t = some (.slice e)) (he : Tryz.prog.underlying e = some (.int k)) (hC : Tryz.prog.cellsOf e = 1)
    (hk : ∀ x, (Lit.int k x).wf = true → lo ≤ x ∧ x ≤ hi) (hv : Value.okWide Tryz.prog W .any b0 t v) (h : DataW.Trod enc Tryz.prog W base (fun _ => true) held t v d p) (hb : 1 ≤ Tryz.prog.bytesOf e) (hw : (d.weights Tryz.prog t).all (· ≤ reachBytes) = true) :
    ∃ (a : Option Addr) (n c : Nat) (zs : List Int), v = .slice a n c ∧ Nums W k lo hi a n zs := by
  obtain ⟨a0, l0, c0, rfl⟩ := okWide_slice ht hv
  obtain ⟨n, hn⟩ := h
  obtain ⟨a, n', c, zs, e, hN⟩ := open_nums_of ht he hC hk hn hb hw
  simp [Value.cells] at e
  obtain ⟨rfl, rfl, rfl⟩ := e
  exact ⟨_, _, _, zs, rfl, hN⟩
end
end Go.Proofs.YtbicafmlbknkiaaGreatDoor

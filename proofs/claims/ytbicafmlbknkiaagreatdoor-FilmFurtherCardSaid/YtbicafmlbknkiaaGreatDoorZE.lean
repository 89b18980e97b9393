/- The law FilmDated. -/
import Derived.Test.YtbicafmlbknkiaaGreatDoorXX
import Derived.Test.YtbicafmlbknkiaaGreatDoorZA
namespace Go.Proofs.YtbicafmlbknkiaaGreatDoor
open Go.RowKit Go.Maps Go.Lib

/-- The code that a year's symbol has. -/
def codeI (y : Int) : Int := ((y - 1916).tmod 20 + 20).tmod 20
theorem code_all : ∀ n : Fin 211, (fitsC (codeI (1890 + (n.val : Int))) (1890 + (n.val : Int)) && decide (0 ≤ codeI (1890 + (n.val : Int))) && decide (codeI (1890 + (n.val : Int)) ≤ 19)) = true := by decide +kernel
theorem code_ok {y : Int} (h0 : 1890 ≤ y) (h1 : y ≤ 2100) : fitsC (codeI y) y = true ∧ 0 ≤ codeI y ∧ codeI y ≤ 19 := by
  have := code_all ⟨(y - 1890).toNat, by omega⟩
  rw [show (1890 : Int) + (((y - 1890).toNat : Nat) : Int) = y by omega] at this
  rw [Bool.and_eq_true, Bool.and_eq_true, decide_eq_true_eq, decide_eq_true_eq] at this
  exact ⟨this.1.1, this.1.2, this.2⟩
/-- The year of the i-th roll; the symbols as the statement makes them. -/
def yI (year k : Int) (zs : List Int) (i : Nat) : Int := max 1890 (year - (zs.getD i 0).tmod (k + 1))
def rL (n : Nat) : List Int := (List.range n).map fun (i : Nat) => 3 * (i : Int)
def yL (year k : Int) (zs : List Int) (n : Nat) : List Int := (List.range n).map fun (i : Nat) => yI year k zs i
def sL (year k : Int) (zs : List Int) (n : Nat) : List T2 := (List.range n).map fun (i : Nat) => (3 * (i : Int), codeI (yI year k zs i))
theorem range_map_succ {α : Type} (f : Nat → α) (n : Nat) : (List.range (n + 1)).map f = (List.range n).map f ++ [f n] := by rw [List.range_succ, List.map_append]; rfl
theorem range_map_at {α : Type} (f : Nat → α) (d : α) {n i : Nat} (h : i < n) : ((List.range n).map f).getD i d = f i := by
  rw [List.getD_eq_getElem?_getD, List.getElem?_map, List.getElem?_range h]; rfl
theorem yI_bd {year k : Int} {zs : List Int} {i : Nat} (h0 : 1890 ≤ year) (h1 : year ≤ 2100) (hk : 0 ≤ k) (hz : 0 ≤ zs.getD i 0) : 1890 ≤ yI year k zs i ∧ yI year k zs i ≤ year ∧ year - k ≤ yI year k zs i := by
  have a := Int.tmod_nonneg (k + 1) hz
  have b := Int.tmod_lt_of_pos (zs.getD i 0) (show 0 < k + 1 by omega)
  unfold yI
  omega

theorem rL_sorted (n : Nat) : (rL n).Pairwise (fun x y => x < y) := by
  unfold rL
  rw [List.pairwise_map]
  exact (List.pairwise_lt_range (n := n)).imp (fun h => by omega)
theorem rL_mem (n : Nat) (x : Int) : x ∈ rL n ↔ ∃ i, i < n ∧ 3 * (i : Int) = x := by
  unfold rL
  rw [List.mem_map]
  exact ⟨fun ⟨i, h, e⟩ => ⟨i, List.mem_range.1 h, e⟩, fun ⟨i, h, e⟩ => ⟨i, List.mem_range.2 h, e⟩⟩
theorem rolls_made {year k : Int} {zs : List Int} {n : Nat} : rollsL (sL year k zs n) = rL n := by
  have e : (sL year k zs n).map (·.1) = rL n := by unfold sL rL; rw [List.map_map]; rfl
  have hs : ((rL n).mergeSort fun x y => decide (x ≤ y)).Pairwise (fun x y => x ≤ y) := by
    have := List.pairwise_mergeSort (le := fun (x y : Int) => decide (x ≤ y)) (fun a b c h1 h2 => by simp at *; omega) (fun a b => by simp; omega) (rL n)
    exact this.imp (fun h => by simpa using h)
  obtain ⟨c1, c2⟩ := compact_asc hs
  unfold rollsL
  rw [e]
  exact asc_ext c1 (rL_sorted n) (fun x => by rw [c2, List.mem_mergeSort])
theorem madeTo_true {lo hi : Int} {ss : List T2} {roll x : Int} (hx : lo ≤ x ∧ x ≤ hi) : ∀ n, (∀ j, j < n → (ss.getD j (0, 0)).1 = roll → fitsC (ss.getD j (0, 0)).2 x = true) → madeTo lo hi ss roll n x = true
  | 0, _ => by simp [madeTo, inB]; omega
  | n + 1, h => by
    unfold madeTo
    rw [madeTo_true hx n (fun j hj => h j (by omega)), Bool.true_and]
    by_cases e : (ss.getD n (0, 0)).1 = roll
    · rw [if_pos e]; exact h n (by omega) e
    · rw [if_neg e]
theorem made_has {r : RA} {year : Int} {zs : List Int} {n i : Nat} (hi : i < n) (hl0 : 1890 ≤ r.lo) (hh1 : r.hi ≤ 2100) (hy0 : r.lo ≤ year) (hy1 : year ≤ r.hi) (hk : 0 ≤ r.k) (hz : 0 ≤ zs.getD i 0) (hsn : r.sn = n) : yI year r.k zs i ∈ madeL r (sL year r.k zs n) (3 * (i : Int)) := by
  obtain ⟨b1, b2, b3⟩ := yI_bd (year := year) (k := r.k) (zs := zs) (i := i) (by omega) (by omega) hk hz
  have hlo : 0 ≤ madeLo r.lo r.k := by unfold madeLo; omega
  unfold madeL
  rw [mem_yl (madeTo_range hlo (by omega) _)]
  refine madeTo_true (by unfold madeLo; omega) _ (fun j hj e => ?_)
  rw [hsn] at hj
  unfold sL at e ⊢
  rw [range_map_at _ _ hj] at e ⊢
  simp only at e ⊢
  obtain rfl : j = i := by omega
  exact (code_ok b1 (by omega)).1
theorem poss_true {r : RA} {ss : List T2} {L : List Int} {y : Int} (hy : r.lo ≤ y ∧ y ≤ r.hi) : ∀ n, (∀ j, j < n → nearB (madeL r ss (L.getD j 0)) r.k y = true) → possTo r ss L n y = true
  | 0, _ => by simp [possTo, inB]; omega
  | n + 1, h => by
    unfold possTo
    rw [poss_true hy n (fun j hj => h j (by omega)), Bool.true_and]
    exact h n (by omega)
theorem poss_has {r : RA} {year : Int} {zs : List Int} {n : Nat} (hl0 : 1890 ≤ r.lo) (hh1 : r.hi ≤ 2100) (hy0 : r.lo ≤ year) (hy1 : year ≤ r.hi) (hk : 0 ≤ r.k) (hz : ∀ i, i < n → 0 ≤ zs.getD i 0) (hsn : r.sn = n) :
    year ∈ yl (possTo r (sL year r.k zs n) (rL n) (rL n).length) := by
  rw [mem_yl (possTo_range (by omega) (by omega) _)]
  refine poss_true ⟨hy0, hy1⟩ _ (fun j hj => ?_)
  have hjn : j < n := by simpa [rL] using hj
  have e : (rL n).getD j 0 = 3 * (j : Int) := by unfold rL; rw [range_map_at _ _ hjn]
  rw [e]
  unfold nearB
  rw [List.any_eq_true]
  obtain ⟨b1, b2, b3⟩ := yI_bd (year := year) (k := r.k) (zs := zs) (i := j) (by omega) (by omega) hk (hz j hjn)
  exact ⟨_, made_has hjn hl0 hh1 hy0 hy1 hk (hz j hjn) hsn, by simp [inB]; omega⟩
/-- A reel without symbols is valid with those that the statement makes. -/
theorem check_made {r : RA} {ms : List T3} {ls : List T3} {a b : Option Addr} {c d n : Nat} {year : Int} {zs : List Int} (h : Valid { r with sa := a, sn := 0, sc := c } ms [] ls) (hn : n ≤ 20) (hl0 : 1890 ≤ year) (hh1 : year ≤ 2100) (hk : 0 ≤ r.k) (hz : ∀ i, i < n → 0 ≤ zs.getD i 0) :
    (checkS { r with sa := b, sn := n, sc := d } ms (sL year r.k zs n) ls).2.2 = 0 := by
  have e1 : eachE (markE r.f ms) r.mn 60 = (0, 0) := by unfold eachE; rw [if_neg (by have := h.mn; simp only at this; omega)]; exact firstE_none _ _ (fun j _ hj => h.m j (by simpa using hj))
  have e2 : eachE (symE (sL year r.k zs n)) n 20 = (0, 0) := by
    unfold eachE
    rw [if_neg (by omega)]
    refine firstE_none _ _ (fun j _ hj => ?_)
    have hj' : j < n := by omega
    obtain ⟨b1, b2, b3⟩ := yI_bd (year := year) (k := r.k) (zs := zs) (i := j) hl0 hh1 hk (hz j hj')
    obtain ⟨-, c1, c2⟩ := code_ok b1 (by omega)
    unfold symE sL
    rw [range_map_at _ _ hj', if_pos]
    simp [inB]
    omega
  have e3 : eachE (lenE r.f ls) r.ln 20 = (0, 0) := by unfold eachE; rw [if_neg (by have := h.ln; simp only at this; omega)]; exact firstE_none _ _ (fun j _ hj => h.l j (by simpa using hj))
  have e0 : wholeE { r with sa := b, sn := n, sc := d } = 0 := h.whole
  unfold checkS
  rw [e0]
  simp [e1, e2, e3]

theorem contains_at {zs : List Int} {x : Int} {i : Nat} (hi : i < zs.length) (h : zs.getD i 0 = x) : zs.contains x = true := by
  rw [List.contains_iff_mem]
  rw [List.getD_eq_getElem?_getD, List.getElem?_eq_getElem hi] at h
  subst h
  exact List.getElem_mem hi
theorem contains_no {zs : List Int} {x : Int} (h : ∀ i, i < zs.length → zs.getD i 0 ≠ x) : zs.contains x = false := by
  cases hc : zs.contains x with
  | false => rfl
  | true =>
    rw [List.contains_iff_mem] at hc
    obtain ⟨i, hi, e⟩ := List.getElem_of_mem hc
    exact absurd (by rw [List.getD_eq_getElem?_getD, List.getElem?_eq_getElem hi]; exact e) (h i hi)

set_option maxRecDepth 100000 in
theorem has_any (a : Option Addr) (n c : Nat) (zs : List Int) (x : Int) (w : World) (hn : n ≤ 100000) (hz : Ints w a n zs) :
    Calls Tryz.prog 42 #[.slice a n c, .int .i64 x] w fun e w' => e = .returned (.bool (zs.contains x)) ∧ w = w' := by
  have Hz := Lib.hid hz
  have hlen := hz.len
  clear hz
  go_enter Tryz.func42, Tryz.ntmps42
  go_wp2
  go_loopg [5] n (fun gk i wr => ∃ k : Nat, gk = n - k ∧ k ≤ n ∧ i = .int .i64 k ∧ wr = w ∧ Hid (∀ j, j < k → zs.getD j 0 ≠ x))
  case atStart => exact ⟨0, rfl, Nat.zero_le _, rfl, rfl, fun j h => absurd h (Nat.not_lt_zero _)⟩
  case round =>
    obtain ⟨k, rfl, hk, rfl, rfl, hno⟩ := hrel
    by_cases hlt : k < n
    · obtain ⟨b, o, hab, hbs, hcells⟩ := Hz.out.at_ (by omega)
      have hc := hcells k hlt
      have hyes := Lib.hid (fun h => contains_at (zs := zs) (x := x) (by omega : k < zs.length) h)
      have hno2 : zs.getD k 0 ≠ x → Hid (∀ j, j < k + 1 → zs.getD j 0 ≠ x) := fun h j hj => by
        by_cases e : j = k
        · rw [e]; exact h
        · exact hno.out j (by omega)
      clear hcells hno
      generalize zs.getD k 0 = z at hc hyes hno2
      by_cases hzx : z = x
      · have hv := Lib.hid (hyes.out hzx)
        clear hyes hno2
        subst hzx
        go_wp2
        go_ret
        exact ⟨by rw [hv.out]; rfl, rfl⟩
      · have hb0 : (z == x) = false := by simpa using hzx
        have hno3 := hno2 hzx
        clear hyes hno2
        go_wp2
        try rw [← hab]
        go_roundg (n - (k + 1))
        case measure => omega
        case rel => exact ⟨k + 1, rfl, by omega, by go_num, rfl, hno3⟩
    · have hv := Lib.hid (contains_no (zs := zs) (x := x) (fun i hi => hno.out i (by omega)))
      clear hno
      go_wp2
      go_ret
      exact ⟨by rw [hv.out]; rfl, rfl⟩
end Go.Proofs.YtbicafmlbknkiaaGreatDoor

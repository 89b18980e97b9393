/- The walks of film's years: sets of years as maps. -/
import Derived.Test.YtgjpbffoalldkaaGreatDoorWE
import Derived.Maps.Own
import Derived.Maps.OwnOps
import Derived.Maps.RangeWalk
import Derived.Maps.Views
namespace Go.Proofs.YtgjpbffoalldkaaGreatDoor
open Go.RowKit Go.Maps

theorem law3 : Keyed Tryz.prog 3 := int_keyed Tryz.underlying3

/-- Block b is a set of numbers: those of which S says so. -/
def SetAt (w : World) (b : Nat) (S : Int → Bool) : Prop := ∃ D : DataW Unit, w.ownsMap Tryz.prog 3 (plainElem Tryz.prog 4) b 1000 D ∧ IsMap D ∧ ∀ x, Maps.has D (.int .i64 x) = S x

theorem SetAt.lt {w : World} {b : Nat} {S : Int → Bool} (h : SetAt w b S) : b < w.heap.size := let ⟨_, h, _⟩ := h; h.lt
theorem SetAt.kept {w w' : World} {b : Nat} {S : Int → Bool} {row : Option Nat} (h : SetAt w b S) (hg : w.grownBy w' row) (hne : some b ≠ row) : SetAt w' b S :=
  let ⟨D, h, h1, h2⟩ := h; ⟨D, h.kept hg hne, h1, h2⟩
theorem SetAt.below {w w' : World} {b : Nat} {S : Int → Bool} (h : SetAt w b S) (hb : Below w.heap.size w w') : SetAt w' b S :=
  h.kept (row := none) ⟨hb.os, hb.tape, hb.output, hb.size, fun i hi _ => hb.block i hi⟩ (by simp)

/-- What yearsOf returns. -/
def NewSet (S : Int → Bool) (w : World) (e : Ending) (w' : World) : Prop := ∃ b, e = .returned (.map (some b)) ∧ w.heap.size ≤ b ∧ SetAt w' b S ∧ Below w.heap.size w w'

theorem has_put_int {D : DataW Unit} (hD : IsMap D) (k x : Int) (d : DataW Unit) : Maps.has (D.put (.int .i64 k) d) (.int .i64 x) = (x == k || Maps.has D (.int .i64 x)) := by
  by_cases h : x = k
  · subst h; rw [has_put_same (k := .int .i64 x) hD trivial]; simp
  · rw [has_put_other (by simpa using h)]; simp [h]

set_option maxHeartbeats 1000000 in
set_option maxRecDepth 100000 in
theorem yearsOf_any (lo hi : Int) (w : World) (h0 : 0 ≤ lo) (h1 : hi ≤ 3000) (h2 : hi - lo ≤ 900) :
    Calls Tryz.prog 61 #[.agg #[.int .i64 lo, .int .i64 hi]] w (NewSet (fun x => inB x lo hi) w) := by
  have hmm := @run_makeMap Tryz.prog
  go_enter Tryz.func61, Tryz.ntmps61
  go_wp2_with fail
  have hc1 : ∀ (W : World), Below (w.heap.size + 1) (w.alloc (.cells #[.int .i64 lo, .int .i64 hi] 25)) W → W.cell? ⟨w.heap.size, 1, none⟩ = some (.int .i64 hi) := fun W h => by
    rw [h.cell (p := ⟨w.heap.size, 1, none⟩) (by simp), World.cell?_alloc_at _ _ _ _ rfl]; rfl
  have HC1 := Lib.hid hc1
  clear hc1
  go_loopg [4] (hi + 1 - lo).toNat (fun gk i wr => ∃ (c : Int) (D : DataW Unit), gk = (hi + 1 - c).toNat ∧ i = .int .i64 c ∧ lo ≤ c ∧ (c = lo ∨ c ≤ hi + 1) ∧ wr.ownsMap Tryz.prog 3 (plainElem Tryz.prog 4) (w.heap.size + 1) (c - lo).toNat D ∧ IsMap D ∧ Hid (∀ x, Maps.has D (.int .i64 x) = inB x lo (c - 1)) ∧ Below (w.heap.size + 1) (w.alloc (.cells #[.int .i64 lo, .int .i64 hi] 25)) wr)
  case atStart =>
    refine ⟨lo, .map [], rfl, rfl, Int.le_refl _, .inl rfl, ?_, isMap_empty, fun x => ?_, (Below.refl _ _).alloc (by simp) _⟩
    · have := World.ownsMap_made (H := Unit) (w.alloc (.cells #[.int .i64 lo, .int .i64 hi] 25)) Tryz.prog 3 (plainElem Tryz.prog 4)
      simpa using this
    · simp [Maps.has, inB]; omega
  case round =>
    obtain ⟨c, D, rfl, rfl, hlc, hcc, hown, hD, hS, hb⟩ := hrel
    have k1 := HC1.out _ hb
    by_cases hch : c ≤ hi
    · have hkey : keyOf Tryz.prog 3 (.int .i64 c) = some (.int .i64 c) := keyOf_int_mk Tryz.underlying3 (WalkArith.wf_i64 (by omega))
      have hS1 : Hid (∀ x, Maps.has (D.put (.int .i64 c) (.lit (.bool true))) (.int .i64 x) = inB x lo (c + 1 - 1)) := fun x => by
        rw [has_put_int hD, hS.out x, Bool.eq_iff_iff]; simp [inB]; omega
      go_wp2_with (first
        | (at_mapUpdate; refine wpList_mapUpdate_own _ rfl _ _ _ 101 rfl 3 4 law3 Tryz.underlying101 _ (w.heap.size + 1) (c - lo).toNat _ rfl hown (by unfold maxLen; omega) _ _ _ rfl rfl hkey _ [] (plainElem_bool Tryz.underlying4 true) ?_; intro w1 hown1 hgrow1))
      go_roundg (hi + 1 - (c + 1)).toNat
      case measure => omega
      case rel => exact ⟨c + 1, _, rfl, rfl, by omega, by omega, hown1.mono (by omega), hD.put _ _, hS1, hb.grown hgrow1 (by have := hb.size; simp at this; omega) (fun k e => by cases e; omega)⟩
    · have hend : ∀ x, Maps.has D (.int .i64 x) = inB x lo hi := fun x => by
        rw [hS.out x, Bool.eq_iff_iff]; simp [inB]; omega
      have Hend := Lib.hid hend
      clear hend hS
      go_wp2
      go_ret
      exact ⟨_, rfl, by simp, ⟨D, hown.mono (by omega), hD, Hend.out⟩, ((Below.refl _ w).alloc (Nat.le_refl _) _).trans (hb.mono (by omega))⟩

theorem bool_inv {P : Program} {e : TypeId} (he : P.underlying e = some .bool) {v : Value} {z : DataW Unit × List MemPlace} (h : plainElem P e v = some z) : ∃ a, v = .bool a ∧ z = (.lit (.bool a), []) := by
  unfold plainElem at h
  rw [he] at h
  cases v <;> simp at h
  exact ⟨_, rfl, h.symm⟩
/-- The step of a range over a set. -/
theorem next_ib {P : Program} (w : World) {ops : Array Oper} {rest : List Oper} {o : Oper} {a : Act} {Q : Exit → Act → World → Prop} (hg : o.guard = none) (it : Operand) (hop : o.op = Op.next it false) (k e : TypeId) (K : Keyed P k) (hk : P.underlying k = some (.int .i64)) (he : P.underlying e = some .bool)
    (b r n : Nat) (D : DataW Unit) (left : Lit → Bool) (cnt : Nat) (hit : a.eval it = .pointer (some ⟨r, 0, none⟩)) (h : w.ranges P k (plainElem P e) b r n D left cnt)
    (hDone : cnt = 0 → (∀ kl, left kl = false) → wpList P ops Q rest (a.put o.dst (.tuple #[.bool false])) w)
    (hMore : ∀ (x : Int) (c : Value) (w' : World) (cnt' : Nat), (Lit.int .i64 x).wf = true → left (.int .i64 x) = true → Maps.has D (.int .i64 x) = true → w'.ranges P k (plainElem P e) b r n D (fun z => left z && !z.sameKey (.int .i64 x)) cnt' → cnt' < cnt →
      w.grownBy w' (some r) → w'.heap.size = w.heap.size → (Instr.entry (.pointer (some ⟨r, 0, none⟩))).run P w' = .ok (.tuple #[.int .i64 x, c]) w' → wpList P ops Q rest (a.put o.dst (.tuple #[.bool true, .int .i64 x, c])) w') :
    wpList P ops Q (o :: rest) a w :=
  wpList_next_ranges w hg it hop k K (plainElem P e) (Value.int .i64) Value.bool (fun key kl hkey => by obtain ⟨x, rfl, _⟩ := Maps.keyOf_int_inv hk hkey; exact ⟨x, rfl⟩) (fun v y hv => by obtain ⟨c, rfl, _⟩ := bool_inv he hv; exact ⟨c, rfl⟩)
    b r n D left cnt hit h hDone (fun x c kl y w' cnt' hkey hlk hv hat hrg hlt hgr hsz hen => by
      obtain ⟨x', ex, rfl, hwx⟩ := Maps.keyOf_int_inv hk hkey
      cases ex
      obtain ⟨c', ec, rfl⟩ := bool_inv he hv
      cases ec
      exact hMore x (.bool c) w' cnt' hwx hlk (has_true_of_atKey hat) hrg hlt hgr hsz hen)
theorem has_del_int {D : DataW Unit} (k x : Int) : Maps.has (D.del (.int .i64 k)) (.int .i64 x) = (!(x == k) && Maps.has D (.int .i64 x)) := by
  by_cases h : x = k
  · subst h; rw [has_del_same]; simp
  · rw [has_del_other (by simpa using h)]; simp [h]
/-- What the loop of keepYears keeps. -/
structure KeepInv (b r : Nat) (S f : Int → Bool) (left : Lit → Bool) (cnt : Nat) (w wr : World) (D : DataW Unit) : Prop where
  rg : wr.ranges Tryz.prog 3 (plainElem Tryz.prog 4) b r 1000 D left cnt
  map : IsMap D
  has : ∀ x, Maps.has D (.int .i64 x) = (S x && (left (.int .i64 x) || f x))
  only : w.grownBy wr (some b)
theorem grown_of_below {a w : World} (h : Below a.heap.size a w) (row : Option Nat) : a.grownBy w row := ⟨h.os, h.tape, h.output, h.size, fun i hi _ => h.block i hi⟩
theorem same_int (x k : Int) : (Lit.int .i64 x).sameKey (Lit.int .i64 k) = (x == k) := by
  by_cases h : x = k
  · subst h; simp [Lit.sameKey]
  · simp [Lit.sameKey, h]

/-- A closure that tells of a number, whatever has come since the world w0 but the block g. -/
def Tells (fn : FuncId) (cap : Array Value) (f : Int → Bool) (w0 : World) (g : Nat) : Prop :=
  ∀ (x : Int) (W : World), 0 ≤ x → x ≤ 3000 → w0.grownBy W (some g) → Calls Tryz.prog fn (#[.int .i64 x] ++ cap) W fun e w' => e = .returned (.bool (f x)) ∧ Below W.heap.size W w'

set_option maxHeartbeats 2000000 in
set_option maxRecDepth 100000 in
theorem keepYears_any (b : Nat) (S f : Int → Bool) (fn : FuncId) (cap : Array Value) (w : World) (hS : SetAt w b S) (hrange : ∀ x, S x = true → 0 ≤ x ∧ x ≤ 3000)
    (hent : ∀ args w, (callFunc fn args).run Tryz.prog w = .ok (.enter fn args) w) (hf : Tells fn cap f w b) :
    Calls Tryz.prog 64 #[.map (some b), .func (.func fn) #[] cap] w fun e w' => e = .returned (.tuple #[]) ∧ SetAt w' b (fun x => S x && f x) ∧ w.grownBy w' (some b) := by
  obtain ⟨D0, hown, hD0, hSx⟩ := hS
  have HSx := Lib.hid hSx
  have HR := Lib.hid hrange
  have HF := Lib.hid hf
  clear hSx hrange hf
  go_enter Tryz.func64, Tryz.ntmps64
  go_wp2_with (first
    | (at_range; refine wpList_range_own _ rfl _ 101 rfl 3 4 law3 Tryz.underlying101 _ b 1000 _ rfl hown ?_; intro w0 hrg0 hg0 hs0)
    | go_in)
  go_frame
  go_loopw [4] (fun _ wr => ∃ (left : Lit → Bool) (cnt : Nat) (D : DataW Unit), KeepInv b w.heap.size S f left cnt w wr D)
    (fun _ wr => wr.rangeLeft b w.heap.size)
  case atStart => exact ⟨_, _, D0, ⟨hrg0, hD0, fun x => by rw [HSx.out x]; cases S x <;> rfl, hg0.but _⟩⟩
  case round =>
    obtain ⟨left, cnt, D, hinv⟩ := hrel
    have hrg := hinv.rg
    have Hinv := Lib.hid hinv
    clear hinv
    go_wp2_with (first
      | (at_next; refine next_ib _ rfl _ rfl 3 4 law3 Tryz.underlying3 Tryz.underlying4 b w.heap.size 1000 _ _ _ rfl hrg ?_ ?_)
      | go_in)
    · intro _ hl0
      have hfin : SetAt wr b (fun x => S x && f x) := ⟨D, hrg.owns, Hinv.out.map, fun x => by rw [Hinv.out.has x, hl0]; simp⟩
      have Hfin := Lib.hid hfin
      clear hfin hl0
      go_wp2
      go_end0
      exact ⟨rfl, Hfin.out, Hinv.out.only⟩
    · intro x c w1 cnt1 hwx hlx hhx hrg1 hlt hg1 hs1 hen
      have hgw1 := Hinv.out.only.andThen hg1 (fun j hj => by cases hj; exact Or.inl (Nat.le_refl _))
      have hSxx : S x = true := by
        have := Hinv.out.has x
        rw [hhx] at this
        cases hs : S x
        · rw [hs] at this; simp at this
        · rfl
      obtain ⟨hx0, hx1⟩ := HR.out x hSxx
      have hc := HF.out x w1 hx0 hx1 hgw1
      have HC := Lib.hid hc
      have HS := Lib.hid (And.intro hSxx hlx)
      clear hc hhx hSxx hlx
      cases hfx : f x
      · rw [hfx] at HC
        have hh : Hid (∀ y, Maps.has (D.del (.int .i64 x)) (.int .i64 y) = (S y && ((left (.int .i64 y) && !(Lit.int .i64 y).sameKey (.int .i64 x)) || f y))) := fun y => by
          rw [has_del_int, Hinv.out.has y, same_int]
          by_cases e : y = x
          · rw [e, hfx]; simp
          · have e' : (y == x) = false := by simpa using e
            rw [e']; simp
        clear hfx
        go_wp2_with fail
        refine HC.out.mono ?_
        rintro e w2 ⟨rfl, hb2⟩
        have hrg2 := hrg1.kept (grown_of_below hb2 none) (by simp) (by simp)
        go_wp2_with (first
          | (at_delete; refine wpList_delete_ranges _ rfl _ _ 101 3 rfl 4 law3 Tryz.underlying101 _ b w.heap.size 1000 _ _ _ rfl hrg2 _ _ rfl (keyOf_int_mk Tryz.underlying3 hwx) ?_; intro w3 cnt3 hrg3 hle hturn; go_frame)
          | go_in)
        rw [strike_twice] at hrg3
        go_roundw
        case rel => exact ⟨_, cnt3, _, ⟨hrg3, Hinv.out.map.del _, hh.out, (hgw1.andThen (grown_of_below hb2 none) (fun j hj => by cases hj)).andThen hturn.grown (fun j hj => by cases hj; exact Or.inr rfl)⟩⟩
        case measure => rw [hrg3.left_eq, hrg.left_eq]; omega
      · rw [hfx] at HC
        have hh : Hid (∀ y, Maps.has D (.int .i64 y) = (S y && ((left (.int .i64 y) && !(Lit.int .i64 y).sameKey (.int .i64 x)) || f y))) := fun y => by
          rw [Hinv.out.has y, same_int]
          by_cases e : y = x
          · rw [e, hfx]; simp
          · have e' : (y == x) = false := by simpa using e
            rw [e']; simp
        clear hfx
        go_wp2_with fail
        refine HC.out.mono ?_
        rintro e w2 ⟨rfl, hb2⟩
        have hrg2 := hrg1.kept (grown_of_below hb2 none) (by simp) (by simp)
        go_wp2
        go_roundw
        case rel => exact ⟨_, cnt1, D, ⟨hrg2, Hinv.out.map, hh.out, hgw1.andThen (grown_of_below hb2 none) (fun j hj => by cases hj)⟩⟩
        case measure => rw [hrg2.left_eq, hrg.left_eq]; exact hlt
end Go.Proofs.YtgjpbffoalldkaaGreatDoor

/- Tests: Clone, IndexFunc, DeleteFunc; the closure of Moved. -/
import Derived.Test.YtanjkhclhcnnaaaJX
import Derived.Lib.SlKept
import Derived.Laws.IdiomCopy
namespace Go.Proofs.Ytanjkhclhcnnaaa
open Go Go.RowKit Go.Shelf

theorem below_base {B b : Nat} {w W : World} (h : Below B w W) (hb : b ≤ B) : Below b w W := h.mono hb
theorem below_cells {B b : Nat} {a : World} (hb : B ≤ b) : ∀ (vs : List Value) (o : Nat) (w : World), Below B a w → Below B a (w.setCells b o vs)
  | [], _, _, h => h
  | v :: r, o, _, h => below_cells hb r (o + 1) _ (h.setCell (p := ⟨b, o, none⟩) hb v)
theorem clearT (w : World) (b o n c : Nat) (hn : 0 < n) (hc : ∀ j, j < n * 3 → (w.cell? ⟨b, o + j, none⟩).isSome = true) (hf : ∀ j, w.frozen? ⟨b, j, none⟩ = false) :
    ∃ Z : List Value, Z.length = n * 3 ∧ ∀ ty, (Builtin.clear_ #[29] ty #[.slice (some ⟨b, o, none⟩) n c]).run Try.prog w = .ok (.tuple #[]) (w.setCells b o Z) := by
  refine ⟨(Builtin.zeroCells (Value.agg #[.int .i64 0, .int .i64 0, .int .i64 0]).cells n).toList, by simp [Builtin.zeroCells, Value.cells], fun ty => ?_⟩
  obtain ⟨Z, hZ⟩ : ∃ Z, (Builtin.zeroCells (Value.agg #[.int .i64 0, .int .i64 0, .int .i64 0]).cells n).toList = Z := ⟨_, rfl⟩
  have hl : Z.length = n * 3 := by rw [← hZ]; simp [Builtin.zeroCells, Value.cells]
  have h1 : ∀ v ∈ Z, v.oneCell' = true := by
    intro v hv
    rw [← hZ] at hv
    simp [Builtin.zeroCells, Value.cells] at hv
    obtain ⟨i, hi, rfl⟩ := hv
    have h3 : i % 3 = 0 ∨ i % 3 = 1 ∨ i % 3 = 2 := by omega
    rcases h3 with h3 | h3 | h3 <;> simp [h3] <;> rfl
  have hst := run_storeCells_cells (P := Try.prog) b o Z 0 w (fun j hj => by rw [Nat.add_zero]; exact hc j (by omega)) (fun j _ => hf _) h1
  rw [hZ]
  simp only [Nat.add_zero] at hst
  obtain ⟨m, rfl⟩ : ∃ m, n = m + 1 := ⟨n - 1, by omega⟩
  simp [Builtin.clear_, run_underlying Try.underlying29, hZ, hst]

set_option maxRecDepth 100000 in
set_option maxHeartbeats 4000000 in
theorem clone_any (ts : List T3) (a : Option Addr) (n c : Nat) (w : World) (hT : Sl3 w a n ts) (hn : n ≤ 100000) :
    Calls Try.prog 77 #[.slice a n c] w fun e w' => ∃ v, e = .returned v ∧ w'.ownsRow w.heap.size 64 3 v n (flat3 ts) ∧ Below w.heap.size w w' := by
  have hl := hT.len
  rcases a with _ | ad
  · have hn0 : n = 0 := by
      rcases Nat.eq_zero_or_pos n with h | h
      · exact h
      · obtain ⟨b, o, h1, -⟩ := hT.at_ h
        cases h1
    subst hn0
    obtain rfl : ts = [] := List.length_eq_zero_iff.1 hl
    clear hT hl hn
    go_enter Try.func77, Try.ntmps77
    have he : ∀ W, (binOp BinOp.eql 29 (Value.slice none 0 c) (Value.slice none 0 0)).run Try.prog W = .ok (.bool true) W := fun W => by
      simp [binOp, run_equal_slice_nil (P := Try.prog) W 29 64 none 0 c Try.underlying29]
    go_wp2_with fail
    go_wp2
    refine bodyPost_ret (v := .slice none 0 0) (by simp [results, Try.results77, go_sem]) rfl ⟨_, rfl, ⟨rfl, Or.inl ⟨rfl, rfl⟩⟩, Below.refl _ _⟩
  · obtain ⟨w1, hw1⟩ : ∃ w1, w.alloc (.cells #[] 64) = w1 := ⟨_, rfl⟩
    have hb1 : Below w.heap.size w w1 := by rw [← hw1]; exact B_alloc (Below.refl _ _) _
    have hrow : w1.ownsRow w.heap.size 64 3 (.slice (some ⟨w.heap.size, 0, none⟩) 0 0) 0 [] := by rw [← hw1]; exact ⟨rfl, Or.inr ⟨w.heap.size, 0, #[], rfl, Nat.le_refl _, Ob.new _ _ _, Nat.le_refl _, by unfold maxLen; omega, rfl, rfl⟩⟩
    have hrun : ∃ v' w', (Builtin.append_ #[29, 29] 29 #[.slice (some ⟨w.heap.size, 0, none⟩) 0 0, .slice (some ad) n c]).run Try.prog w1 = .ok v' w' ∧ w'.ownsRow w.heap.size 64 3 v' n (flat3 ts) ∧ w1.grownBy w' (Value.slice (some ⟨w.heap.size, 0, none⟩) 0 0).ownBlock := by
      rcases Nat.eq_zero_or_pos n with h | h
      · subst h
        obtain rfl : ts = [] := List.length_eq_zero_iff.1 hl
        obtain ⟨i0, hi, hz0, hs0, hy0⟩ := info_parts infoTst
        obtain ⟨v', w', h1, h2, h3, -⟩ := run_append_own (P := Try.prog) (w := w1) w.heap.size 29 29 64 i0 _ 3 24 Try.underlying29 hi hz0 hs0 hy0 rfl (by decide) _ 0 [] hrow ad 0 c [] rfl (fun j u hj => by cases hj) (by intro u hu; cases hu) (by unfold maxLen; omega) (by omega) hb1.size
        exact ⟨v', w', h1, h2, h3⟩
      · obtain ⟨p, o, hab, hp, hc⟩ := hT.at_ h
        injection hab with hab
        subst hab
        obtain ⟨v', w', h1, h2, h3⟩ := joinedM (c := c) hrow hl (fun i hi => by obtain ⟨c0, c1, c2⟩ := hc i hi; exact ⟨(hb1.cell (p := ⟨p, _, none⟩) hp).trans c0, (hb1.cell (p := ⟨p, _, none⟩) hp).trans c1, (hb1.cell (p := ⟨p, _, none⟩) hp).trans c2⟩) (by omega) hn hb1.size
        rw [Nat.zero_add, List.nil_append] at h2
        exact ⟨v', w', h1, h2, h3⟩
    obtain ⟨v', w2, hrun, hown, hgr⟩ := hrun
    have S2 := Lib.hid (And.intro hown (B_grown' hb1 hrow hgr))
    rw [← hw1] at hrun
    have he : ∀ W, (binOp BinOp.eql 29 (Value.slice (some ad) n c) (Value.slice none 0 0)).run Try.prog W = .ok (.bool false) W := fun W => by
      simp [binOp, run_equal_slice_nil (P := Try.prog) W 29 64 (some ad) n c Try.underlying29]
    clear hown hgr hrow hb1 hw1 hT hl hn
    go_enter Try.func77, Try.ntmps77
    go_wp2_with (at_builtin; refine Lib.wpList_append_run _ rfl _ _ _ _ rfl _ _ rfl rfl _ _ hrun ?_)
    obtain ⟨a2, c2, rfl, -⟩ := sl3_row S2.out.1
    go_wp2
    refine bodyPost_ret (v := .slice a2 n c2) (by simp [results, Try.results77, go_sem]) rfl ⟨_, rfl, S2.out.1, S2.out.2⟩

theorem movedF_any (x a b c : Int) (X : Nat) (w : World) (hc : w.cell? ⟨X, 0, none⟩ = some (.int .i64 x)) :
    Calls Try.prog 78 #[.agg #[.int .i64 a, .int .i64 b, .int .i64 c], .pointer (some ⟨X, 0, none⟩)] w fun e w' => e = .returned (.bool (decide (x < a))) ∧ Below w.heap.size w w' := by
  have hB := World.block_lt_of_cell? w _ hc
  have hc2 : (w.alloc (.cells #[.int .i64 a, .int .i64 b, .int .i64 c] 64)).cell? ⟨X, 0, none⟩ = some (.int .i64 x) := (alloc_old _ _ _ _ hB).trans hc
  go_enter Try.func78, Try.ntmps78
  go_wp2
  go_ret
  exact ⟨rfl, B_alloc (Below.refl _ _) _⟩

/-- The first index at which p holds, or -1. -/
def idxT (p : T3 → Bool) (L : List T3) : Int := if firstT (fun i => p (L.getD i (0, 0, 0))) L.length 0 < L.length then (firstT (fun i => p (L.getD i (0, 0, 0))) L.length 0 : Nat) else -1
theorem idxT_at {p : T3 → Bool} {L : List T3} {k : Nat} (h1 : ∀ i, i < k → p (L.getD i (0, 0, 0)) = false) (h2 : p (L.getD k (0, 0, 0)) = true) (h3 : k < L.length) : idxT p L = k := by
  have h := firstT_spec (p := fun i => p (L.getD i (0, 0, 0))) (f := L.length) (k := 0)
  have e : firstT (fun i => p (L.getD i (0, 0, 0))) L.length 0 = k := by
    obtain ⟨-, b, c, d⟩ := h
    rcases Nat.lt_trichotomy (firstT (fun i => p (L.getD i (0, 0, 0))) L.length 0) k with h4 | h4 | h4
    · have h5 := d (by omega)
      have h6 := h1 _ h4
      rw [h6] at h5
      cases h5
    · exact h4
    · have h5 := c k (Nat.zero_le _) h4
      rw [h2] at h5
      cases h5
  unfold idxT
  rw [e, if_pos h3]
theorem idxT_none {p : T3 → Bool} {L : List T3} (h1 : ∀ i, i < L.length → p (L.getD i (0, 0, 0)) = false) : idxT p L = -1 := by
  have h := firstT_spec (p := fun i => p (L.getD i (0, 0, 0))) (f := L.length) (k := 0)
  unfold idxT
  rw [if_neg]
  intro h2
  have h3 := h.2.2.2 (by omega)
  have h4 := h1 _ h2
  rw [h4] at h3
  cases h3
theorem idxT_lt (p : T3 → Bool) (L : List T3) : idxT p L < L.length := by
  unfold idxT
  split
  · omega
  · omega
theorem idxT_ge (p : T3 → Bool) (L : List T3) : -1 ≤ idxT p L := by
  unfold idxT
  split
  · omega
  · omega

set_option maxHeartbeats 4000000 in
theorem indexFuncT_any (f : Nat) (cap : Array Value) (p : T3 → Bool) (L : List T3) (a : Option Addr) (n c base : Nat) (w : World) (hbase : base ≤ w.heap.size) (hn : n ≤ 100000) (hs : Sl3 w a n L)
    (eg : ∀ args w, (callFunc f args).run Try.prog w = .ok (.enter f args) w)
    (hf : ∀ (x : T3) (W : World), Below base w W → Calls Try.prog f (#[.agg #[.int .i64 x.1, .int .i64 x.2.1, .int .i64 x.2.2]] ++ cap) W fun e w' => e = .returned (.bool (p x)) ∧ Below W.heap.size W w') :
    Calls Try.prog 101 #[.slice a n c, .func (.func f) #[] cap] w fun e w' => e = .returned (.int .i64 (idxT p L)) ∧ Below w.heap.size w w' := by
  replace hf := Lib.hid hf
  replace hs := Lib.hid hs
  go_enter Try.func101, Try.ntmps101
  go_wp2
  go_loopg [5, 8] n (fun gk s5 i wr => ∃ k : Nat, gk = n - k ∧ k ≤ n ∧ i = .int .i64 (k : Int) ∧ (∀ j, j < k → p (L.getD j (0, 0, 0)) = false) ∧ Below w.heap.size w wr)
  case atStart => exact ⟨0, rfl, Nat.zero_le _, rfl, fun j hj => absurd hj (Nat.not_lt_zero _), Below.refl _ _⟩
  case round =>
    obtain ⟨k, hgk, hk, rfl, hno, hb⟩ := hrel
    by_cases hlt : k < n
    · obtain ⟨b, o, hab, hbs, hc⟩ := (hs.out.below hb).at_ (by omega)
      obtain ⟨c0, c1, c2⟩ := hc k hlt
      have hC := hf.out (L.getD k (0, 0, 0)) wr (below_base hb hbase)
      have hkn : (k : Int) < n := by omega
      have hk0 : (0 : Int) ≤ k := by omega
      have hlen := hs.out.len
      cases hp : p (L.getD k (0, 0, 0)) with
      | false =>
        rw [hp] at hC
        have hno2 : Hid (∀ j, j < k + 1 → p (L.getD j (0, 0, 0)) = false) := fun j hj => by
          by_cases e : j = k
          · subst e; exact hp
          · exact hno j (by omega)
        generalize L.getD k (0, 0, 0) = x at c0 c1 c2 hC
        replace hC := Lib.hid hC
        replace hb := Lib.hid hb
        clear hc hno hp
        rw [hab]
        go_wp2_with fail
        refine hC.out.mono ?_
        rintro e w1 ⟨rfl, hb1⟩
        go_wp2
        rw [← hab]
        go_roundg (n - (k + 1))
        case measure => omega
        case rel => exact ⟨k + 1, rfl, hlt, by push_cast; rfl, hno2.out, B_trans hb.out hb1⟩
      | true =>
        rw [hp] at hC
        have hres := idxT_at hno hp (by rw [hlen]; exact hlt)
        generalize L.getD k (0, 0, 0) = x at c0 c1 c2 hC
        replace hC := Lib.hid hC
        replace hb := Lib.hid hb
        replace hres := Lib.hid hres
        clear hc hno hp
        rw [hab]
        go_wp2_with fail
        refine hC.out.mono ?_
        rintro e w1 ⟨rfl, hb1⟩
        go_wp2
        go_ret
        exact ⟨by rw [hres.out]; rfl, B_trans hb.out hb1⟩
    · obtain rfl : k = n := by omega
      have hlen := hs.out.len
      have hres := Lib.hid (idxT_none (p := p) (L := L) (by rw [hlen]; exact hno))
      have hkn : ¬ (k : Int) < k := by omega
      replace hb := Lib.hid hb
      clear hno
      go_wp2
      go_ret
      exact ⟨by rw [hres.out]; rfl, hb.out⟩


theorem toA (L : List T3) (j : Nat) : (L.toArray)[j]! = L.getD j (0, 0, 0) := by
  simp [List.getD, List.getElem!_eq_getElem?_getD]
  rfl
theorem idxT_none' {p : T3 → Bool} {L : List T3} (h : idxT p L = -1) : ∀ i, i < L.length → p (L.getD i (0, 0, 0)) = false := by
  have hs := firstT_spec (p := fun i => p (L.getD i (0, 0, 0))) (f := L.length) (k := 0)
  unfold idxT at h
  split at h
  · omega
  · rename_i h1
    intro i hi
    exact hs.2.2.1 i (Nat.zero_le _) (by omega)
theorem idxT_at' {p : T3 → Bool} {L : List T3} {k : Nat} (h : idxT p L = k) : k < L.length ∧ p (L.getD k (0, 0, 0)) = true ∧ ∀ i, i < k → p (L.getD i (0, 0, 0)) = false := by
  have hs := firstT_spec (p := fun i => p (L.getD i (0, 0, 0))) (f := L.length) (k := 0)
  unfold idxT at h
  split at h
  · rename_i h1
    have e : firstT (fun i => p (L.getD i (0, 0, 0))) L.length 0 = k := by omega
    rw [e] at h1 hs
    exact ⟨h1, hs.2.2.2 (by omega), fun i hi => hs.2.2.1 i (Nat.zero_le _) hi⟩
  · omega
theorem filter_all {p : T3 → Bool} : ∀ {L : List T3}, (∀ i, i < L.length → p (L.getD i (0, 0, 0)) = false) → (L.filter fun x => !p x) = L
  | [], _ => rfl
  | x :: L, h => by
    have h0 := h 0 (by simp)
    have ih := filter_all (p := p) (L := L) fun i hi => by have := h (i + 1) (by simpa using hi); simpa using this
    have h0' : p x = false := by simpa using h0
    rw [List.filter_cons, h0', ih]
    rfl
/-- A row of tests in a block, and what lies behind it. -/
structure RowT (W : World) (g o n : Nat) (T : TypeId) (dk : Array T3) (cs : Array Value) : Prop where
  ob : Ob W g T cs
  sz : dk.size = n
  le : o + n * 3 ≤ cs.size
  at_ : ∀ i, i < n → cs[o + i * 3]? = some (.int .i64 (dk[i]!).1) ∧ cs[o + i * 3 + 1]? = some (.int .i64 (dk[i]!).2.1) ∧ cs[o + i * 3 + 2]? = some (.int .i64 (dk[i]!).2.2)
theorem RowT.below {W W' : World} {g o n : Nat} {T : TypeId} {dk : Array T3} {cs : Array Value} (h : RowT W g o n T dk cs) (hb : Below W.heap.size W W') : RowT W' g o n T dk cs := ⟨h.ob.below hb, h.sz, h.le, h.at_⟩
theorem RowT.cell {W : World} {g o n : Nat} {T : TypeId} {dk : Array T3} {cs : Array Value} (h : RowT W g o n T dk cs) {i : Nat} (hi : i < n) : W.cell? ⟨g, o + i * 3, none⟩ = some (.int .i64 (dk[i]!).1) ∧ W.cell? ⟨g, o + i * 3 + 1, none⟩ = some (.int .i64 (dk[i]!).2.1) ∧ W.cell? ⟨g, o + i * 3 + 2, none⟩ = some (.int .i64 (dk[i]!).2.2) := by
  obtain ⟨x0, x1, x2⟩ := h.at_ i hi
  exact ⟨(h.ob.cell _).trans x0, (h.ob.cell _).trans x1, (h.ob.cell _).trans x2⟩
theorem RowT.put {W : World} {g o n : Nat} {T : TypeId} {dk : Array T3} {cs : Array Value} (h : RowT W g o n T dk cs) {i : Nat} (hi : i < n) (x : T3) :
    RowT (((W.setCell ⟨g, o + i * 3, none⟩ (.int .i64 x.1)).setCell ⟨g, o + i * 3 + 1, none⟩ (.int .i64 x.2.1)).setCell ⟨g, o + i * 3 + 2, none⟩ (.int .i64 x.2.2)) g o n T (dk.setIfInBounds i x) (((cs.setIfInBounds (o + i * 3) (.int .i64 x.1)).setIfInBounds (o + i * 3 + 1) (.int .i64 x.2.1)).setIfInBounds (o + i * 3 + 2) (.int .i64 x.2.2)) := by
  refine ⟨((h.ob.set _ _).set _ _).set _ _, by simpa using h.sz, by simpa using h.le, fun j hj => ?_⟩
  have hs := h.sz
  have hle := h.le
  by_cases e : j = i
  · subst e
    have hd : (dk.setIfInBounds j x)[j]! = x := Sort.getElem!_set_same dk j _ (by omega)
    rw [hd]
    refine ⟨?_, ?_, ?_⟩
    · rw [Array.getElem?_setIfInBounds_ne (by omega), Array.getElem?_setIfInBounds_ne (by omega), Array.getElem?_setIfInBounds_self_of_lt (by omega)]
    · rw [Array.getElem?_setIfInBounds_ne (by omega), Array.getElem?_setIfInBounds_self_of_lt (by simp; omega)]
    · rw [Array.getElem?_setIfInBounds_self_of_lt (by simp; omega)]
  · have hd : (dk.setIfInBounds i x)[j]! = dk[j]! := Sort.getElem!_set_other dk i j _ e
    rw [hd]
    obtain ⟨x0, x1, x2⟩ := h.at_ j hj
    refine ⟨?_, ?_, ?_⟩ <;> (rw [Array.getElem?_setIfInBounds_ne (by omega), Array.getElem?_setIfInBounds_ne (by omega), Array.getElem?_setIfInBounds_ne (by omega)]; assumption)

set_option maxRecDepth 100000 in
set_option maxHeartbeats 8000000 in
theorem deleteAt (f : Nat) (cap : Array Value) (p : T3 → Bool) (L : List T3) (g o n cp base k : Nat) (cs : Array Value) (w : World) (hn : n ≤ 100000) (hR : RowT w g o n 64 L.toArray cs) (hcp : n ≤ cp) (hbg : base ≤ g) (hbase : base ≤ w.heap.size)
    (eg : ∀ args w, (callFunc f args).run Try.prog w = .ok (.enter f args) w)
    (hf : ∀ (x : T3) (W : World), Below base w W → Calls Try.prog f (#[.agg #[.int .i64 x.1, .int .i64 x.2.1, .int .i64 x.2.2]] ++ cap) W fun e w' => e = .returned (.bool (p x)) ∧ Below W.heap.size W w') (hq : idxT p L = (k : Int)) :
    Calls Try.prog 76 #[.slice (some ⟨g, o, none⟩) n cp, .func (.func f) #[] cap] w fun e w' => ∃ a c, e = .returned (.slice a (L.filter fun x => !p x).length c) ∧ Sl3 w' a (L.filter fun x => !p x).length (L.filter fun x => !p x) ∧ (∀ ad, a = some ad → base ≤ ad.block) ∧ Below base w w' := by
  have hnl : L.length = n := by have := hR.sz; simpa using this
  have hT : Sl3 w (some ⟨g, o, none⟩) n L := ⟨hnl, fun _ => ⟨g, o, rfl, hR.ob.lt, fun i hi => by have h := hR.cell hi; rw [toA] at h; exact h⟩⟩
  have HI' := indexFuncT_any f cap p L (some ⟨g, o, none⟩) n cp base w hbase hn hT eg hf
  rw [hq] at HI'
  have HI := Lib.hid HI'
  obtain ⟨hk, hpk, hpl⟩ := idxT_at' hq
  obtain ⟨kp, hkp⟩ : ∃ kp : Nat → Bool, kp = fun j => !p (L.toArray[j]!) := ⟨_, rfl⟩
  have hkv : ∀ j, kp j = !p (L.getD j (0, 0, 0)) := fun j => by rw [hkp]; simp only [toA]
  have K0 : Hid (Lib.KeptInv kp L.toArray (k + 1) k L.toArray) := Lib.KeptInv.start (fun j hj => by rw [hkv, hpl j hj]; rfl) (by rw [hkv, hpk]; rfl)
  have KF : Hid (Lib.keptUpTo kp L.toArray n = L.filter fun x => !p x) := by
    have h := Lib.keptUpTo_filter (fun x => !p x) L.toArray
    rw [← hnl, hkp]
    exact (by simpa using h : Lib.keptUpTo (fun j => !p (L.toArray[j]!)) L.toArray L.length = L.filter fun x => !p x)
  have KV := Lib.hid hkv
  have HF := Lib.hid hf
  have R0 := Lib.hid hR
  have hne1 : ((k : Int) == -1) = false := beq_eq_false_iff_ne.2 (by omega)
  have u1 : IntKind.i64.wrap ((k : Int) + 1) = (k : Int) + 1 := IntWalk.i64_in _ (by omega)
  have hkn : k < n := by omega
  clear HI' hf hR hT hpk hpl hkv hq hkp hk
  go_enter Try.func76, Try.ntmps76
  go_wp2_with fail
  refine HI.out.mono ?_
  rintro e w1 ⟨rfl, hb1⟩
  have B1 := Lib.hid hb1
  clear hb1
  go_wp2_with fail
  go_loopg [5, 6, 7] n (fun gk s5 s6 s7 wr => ∃ (i j : Nat) (dk : Array T3) (cs : Array Value), n - j ≤ gk ∧ s5 = .int .i64 (i : Int) ∧ s6 = .int .i64 (j : Int) ∧ j ≤ n ∧ RowT wr g o n 64 dk cs ∧ Below base w wr ∧ Hid (Lib.KeptInv kp L.toArray j i dk))
  case atStart => exact ⟨k, k + 1, L.toArray, cs, by omega, rfl, by push_cast; rfl, by omega, R0.out.below B1.out, below_base B1.out hbase, K0⟩
  case round =>
    obtain ⟨i, j, dk, cs, hgk, rfl, rfl, hj, hRr, hbr, HK⟩ := hrel
    have hij := HK.out.lt
    clear K0 B1
    have j0 : (0 : Int) ≤ (j : Int) := by omega
    have i0 : (0 : Int) ≤ (i : Int) := by omega
    by_cases hlt : j < n
    · obtain ⟨c0, c1, c2⟩ := hRr.cell hlt
      have hx : dk[j]! = L.getD j (0, 0, 0) := by rw [HK.out.high j (by omega), toA]
      rw [hx] at c0 c1 c2
      have KX := Lib.hid (show L.toArray[j]! = L.getD j (0, 0, 0) from toA L j)
      have HKJ := Lib.hid (KV.out j)
      generalize L.getD j (0, 0, 0) = x at c0 c1 c2 KX HKJ
      obtain ⟨x0, x1, x2⟩ := x
      simp only at c0 c1 c2
      have j1 : (j : Int) < (n : Int) := by omega
      have i1 : (i : Int) < (n : Int) := by omega
      have u2 : IntKind.i64.wrap ((j : Int) + 1) = (j : Int) + 1 := IntWalk.i64_in _ (by omega)
      have u3 : IntKind.i64.wrap ((i : Int) + 1) = (i : Int) + 1 := IntWalk.i64_in _ (by omega)
      obtain ⟨wx, hwx⟩ : ∃ wx, wr.alloc (.cells #[.int .i64 x0, .int .i64 x1, .int .i64 x2] 64) = wx := ⟨_, rfl⟩
      have hbx : Below wr.heap.size wr wx := by rw [← hwx]; exact B_alloc (Below.refl _ _) _
      have oX : Ob wx wr.heap.size 64 #[.int .i64 x0, .int .i64 x1, .int .i64 x2] := by rw [← hwx]; exact Ob.new _ _ _
      have RX := Lib.hid (And.intro (hRr.below hbx) (And.intro (hbr.trans (below_base hbx (Nat.le_trans hbase hbr.size))) oX))
      have HC := Lib.hid (HF.out (x0, x1, x2) wx RX.out.2.1)
      have WX := Lib.hid hwx
      simp only at HC
      clear hwx hbx oX hRr hbr hx
      go_upto_region 8 with fail
      rw [WX.out]
      clear c0 c1 c2
      have z0 := RX.out.2.2.cell 0
      have z1 := RX.out.2.2.cell 1
      have z2 := RX.out.2.2.cell 2
      simp only [List.getElem?_toArray, List.getElem?_cons_zero, List.getElem?_cons_succ] at z0 z1 z2
      cases hp : p (x0, x1, x2) with
      | true =>
        rw [hp] at HC HKJ
        have KN : Hid (Lib.KeptInv kp L.toArray (j + 1) i dk) := HK.out.skip HKJ.out
        clear hp
        go_wp2_with fail
        refine HC.out.mono ?_
        rintro e w2 ⟨rfl, hb2⟩
        have R2 := Lib.hid (And.intro (RX.out.1.below hb2) (RX.out.2.1.trans (below_base hb2 (Nat.le_trans hbase RX.out.2.1.size))))
        clear z0 z1 z2 hb2
        go_wp2_with fail
        go_roundg (n - (j + 1))
        case measure => omega
        case rel => exact ⟨i, j + 1, dk, cs, Nat.le_refl _, rfl, by push_cast; rfl, by omega, R2.out.1, R2.out.2, KN⟩
      | false =>
        rw [hp] at HC HKJ
        have KN : Hid (Lib.KeptInv kp L.toArray (j + 1) (i + 1) (dk.setIfInBounds i (x0, x1, x2))) := by
          have h := HK.out.keep (by simp; omega) HKJ.out
          rw [KX.out] at h
          exact h
        clear hp
        go_wp2_with fail
        refine HC.out.mono ?_
        rintro e w2 ⟨rfl, hb2⟩
        have R2 := Lib.hid (And.intro (RX.out.1.below hb2) (RX.out.2.1.trans (below_base hb2 (Nat.le_trans hbase RX.out.2.1.size))))
        have oX := RX.out.2.2.below hb2
        clear z0 z1 z2
        have z0 := oX.cell 0
        have z1 := oX.cell 1
        have z2 := oX.cell 2
        simp only [List.getElem?_toArray, List.getElem?_cons_zero, List.getElem?_cons_succ] at z0 z1 z2
        obtain ⟨c0, c1, c2⟩ := R2.out.1.cell (show i < n by omega)
        have g0 := R2.out.1.ob.frozen (o + i * 3)
        have g1 := R2.out.1.ob.frozen (o + i * 3 + 1)
        have g2 := R2.out.1.ob.frozen (o + i * 3 + 2)
        generalize dk[i]! = old at c0 c1 c2
        have RP := Lib.hid (R2.out.1.put (show i < n by omega) (x0, x1, x2))
        have BP : Hid (Below base w (((w2.setCell ⟨g, o + i * 3, none⟩ (.int .i64 x0)).setCell ⟨g, o + i * 3 + 1, none⟩ (.int .i64 x1)).setCell ⟨g, o + i * 3 + 2, none⟩ (.int .i64 x2))) := ((R2.out.2.setCell (by exact hbg) _).setCell (by exact hbg) _).setCell (by exact hbg) _
        clear hb2 oX
        go_wp2_with fail
        go_roundg (n - (j + 1))
        case measure => omega
        case rel => exact ⟨i + 1, j + 1, _, _, Nat.le_refl _, by push_cast; rfl, by push_cast; rfl, by omega, RP.out, BP.out, KN⟩
    · obtain rfl : j = n := by omega
      have j1 : ¬ (j : Int) < (j : Int) := by omega
      have hle := hRr.le
      obtain ⟨Z, hZ, hcl⟩ := clearT wr g (o + i * 3) (j - i) (cp - i) (by omega) (fun t ht => by rw [hRr.ob.cell, Array.getElem?_eq_getElem (by omega)]; rfl) (fun t => hRr.ob.frozen t)
      have hlen := HK.out.len
      rw [KF.out] at hlen
      have POST : Hid (Sl3 (wr.setCells g (o + i * 3) Z) (some ⟨g, o, none⟩) i (L.filter fun x => !p x) ∧ Below base w (wr.setCells g (o + i * 3) Z)) := by
        refine ⟨⟨hlen, fun _ => ⟨g, o, rfl, ?_, fun t ht => ?_⟩⟩, below_cells hbg Z _ _ hbr⟩
        · exact Nat.lt_of_lt_of_le hRr.ob.lt (below_cells (Nat.le_refl g) Z (o + i * 3) wr (Below.refl g wr)).size
        · have hlow := HK.out.low t ht
          rw [KF.out] at hlow
          have e : (L.filter fun x => !p x).getD t (0, 0, 0) = dk[t]! := by
            rw [List.getD, hlow]
            rfl
          rw [e]
          obtain ⟨x0, x1, x2⟩ := hRr.cell (show t < j by omega)
          rw [World.cell?_setCells_out g Z _ _ _ (fun _ _ => Or.inl (by simp only; omega)), World.cell?_setCells_out g Z _ _ _ (fun _ _ => Or.inl (by simp only; omega)), World.cell?_setCells_out g Z _ _ _ (fun _ _ => Or.inl (by simp only; omega))]
          exact ⟨x0, x1, x2⟩
      have HLEN := Lib.hid hlen
      have HAB : Hid (∀ ad, some (⟨g, o, none⟩ : Addr) = some ad → base ≤ ad.block) := fun ad h => by injection h with h; subst h; exact hbg
      have i1 : (i : Int) ≤ (j : Int) := by omega
      have i2 : (i : Int) ≤ (cp : Int) := by omega
      have i3 : (j : Int) ≤ (cp : Int) := by omega
      have i4 : ¬ cp = i := by omega
      clear hRr hbr hlen hle
      go_wp2
      refine bodyPost_ret (v := .slice (some ⟨g, o, none⟩) i cp) (by simp [results, Try.results76, go_sem]) rfl ?_
      rw [HLEN.out]
      first | exact ⟨_, _, rfl, POST.out.1, HAB.out, POST.out.2⟩ | exact ⟨_, ⟨_, rfl⟩, POST.out.1, HAB.out, POST.out.2⟩

set_option maxRecDepth 100000 in
set_option maxHeartbeats 4000000 in
theorem deleteFunc_any (f : Nat) (cap : Array Value) (p : T3 → Bool) (L : List T3) (v : Value) (n base : Nat) (w : World) (hn : n ≤ 100000) (hrow : w.ownsRow base 64 3 v n (flat3 L)) (hbase : base ≤ w.heap.size)
    (eg : ∀ args w, (callFunc f args).run Try.prog w = .ok (.enter f args) w)
    (hf : ∀ (x : T3) (W : World), Below base w W → Calls Try.prog f (#[.agg #[.int .i64 x.1, .int .i64 x.2.1, .int .i64 x.2.2]] ++ cap) W fun e w' => e = .returned (.bool (p x)) ∧ Below W.heap.size W w') :
    Calls Try.prog 76 #[v, .func (.func f) #[] cap] w fun e w' => ∃ a c, e = .returned (.slice a (L.filter fun x => !p x).length c) ∧ Sl3 w' a (L.filter fun x => !p x).length (L.filter fun x => !p x) ∧ (∀ ad, a = some ad → base ≤ ad.block) ∧ Below base w w' := by
  obtain ⟨a, c, hv, hT, hnl⟩ := sl3_row hrow
  have hge := idxT_ge p L
  rcases (show idxT p L = -1 ∨ ∃ k : Nat, idxT p L = (k : Int) by
    by_cases h : idxT p L < 0
    · exact .inl (by omega)
    · exact .inr ⟨(idxT p L).toNat, by omega⟩) with hq | ⟨k, hq⟩
  · have HAB : Hid (∀ ad, a = some ad → base ≤ ad.block) := fun ad h => by
      rcases hrow.2 with ⟨h1, -⟩ | ⟨g, cp, cur, h1, hbg, -⟩
      · rw [hv] at h1; injection h1 with h1; rw [h] at h1; cases h1
      · rw [hv] at h1; injection h1 with h1; rw [h] at h1; injection h1 with h1; subst h1; exact hbg
    subst hv
    have HI' := indexFuncT_any f cap p L a n c base w hbase hn hT eg hf
    rw [hq] at HI'
    have HI := Lib.hid HI'
    have HFL := filter_all (idxT_none' hq)
    rw [HFL, ← hnl]
    have HT := Lib.hid hT
    clear HI' hT hf hrow HFL hq hge hnl
    go_enter Try.func76, Try.ntmps76
    go_wp2_with fail
    refine HI.out.mono ?_
    rintro e w1 ⟨rfl, hb1⟩
    have B1 := Lib.hid hb1
    clear hb1
    go_wp2
    refine bodyPost_ret (v := .slice a n c) (by simp [results, Try.results76, go_sem]) rfl ?_
    first | exact ⟨_, _, rfl, HT.out.below B1.out, HAB.out, below_base B1.out hbase⟩ | exact ⟨_, ⟨_, rfl⟩, HT.out.below B1.out, HAB.out, below_base B1.out hbase⟩
  · have hk := (idxT_at' hq).1
    rcases hrow.2 with ⟨-, hn0⟩ | ⟨g, cp, cur, hv2, hbg, hg, hc1, hc2, hs, ht⟩
    · omega
    · subst hv2
      refine deleteAt f cap p L g 0 n cp base k cur w hn ⟨hg, by simp; omega, by omega, fun i hi => ?_⟩ hc1 hbg hbase eg hf hq
      obtain ⟨x0, x1, x2⟩ := flat3_at L i (by omega)
      have key : ∀ j, j < n * 3 → cur[j]? = (flat3 L)[j]? := fun j hj => by
        rw [← ht, List.getElem?_take, if_pos hj]
        simp
      rw [toA, Nat.zero_add]
      exact ⟨(key _ (by omega)).trans x0, (key _ (by omega)).trans x1, (key _ (by omega)).trans x2⟩

end Go.Proofs.Ytanjkhclhcnnaaa

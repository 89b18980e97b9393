/- Levels and Lost of a task without an error, whole. -/
import Derived.Test.YtanjkhclhcnnaaaME
import Derived.Test.YtanjkhclhcnnaaaMF
import Derived.Test.YtanjkhclhcnnaaaMG
import Derived.Test.YtanjkhclhcnnaaaRows
import Derived.Deep.Slices
import Derived.Deep.Fields
import Derived.Carry
import Derived.ChangeSame
import Derived.OpenShut
import Derived.ProofKit
import Derived.Deep.DeepHandedRow
import Derived.Lay
namespace Go.Proofs.Ytanjkhclhcnnaaa
open Go.RowKit Go.Shelf

theorem demand_zero {l : List T4} (h : demandE l = 0) : ∀ s ∈ l, outB s = false ∧ turnB s = false := by
  unfold demandE at h
  split at h
  · cases h
  · rename_i h1
    split at h
    · cases h
    · rename_i h2
      intro s hs
      constructor
      · cases e : outB s with
        | false => rfl
        | true => exact absurd (List.any_eq_true.2 ⟨s, hs, e⟩) h1
      · cases e : turnB s with
        | false => rfl
        | true => exact absurd (List.any_eq_true.2 ⟨s, hs, e⟩) h2
theorem out_no {a b c d : Int} (h : outB (a, b, c, d) = false) : (c ≤ a ∧ a ≤ d) ∧ (c ≤ b ∧ b ≤ d) := by
  unfold outB at h
  rw [Bool.or_eq_false_iff] at h
  exact ⟨inB_iff.1 (by simpa using h.1), inB_iff.1 (by simpa using h.2)⟩
theorem turn_no {a b c d : Int} (h : turnB (a, b, c, d) = false) : a ≤ b := by
  unfold turnB at h
  have := of_decide_eq_false h
  simp only at this
  omega
theorem day_ok {d : T4} (h : dayE d = 0) : d.1 ≤ d.2.1 ∧ d.2.2.1 ≤ d.2.2.2 :=
  ⟨turn_no (demand_zero h (d.1, d.2.1, -300, 600) (by simp)).2, turn_no (demand_zero h (d.2.2.1, d.2.2.2, 0, 1000) (by simp)).2⟩
theorem lv_ok {p : T2} (h : lvE p = 0) : CanOK p := by
  have h1 := demand_zero h (p.1, p.2, 0, 1000000) (by simp)
  have h2 := out_no h1.1
  exact ⟨⟨h2.1, h2.2⟩, turn_no h1.2⟩
theorem strength_mono {r : RuA} {hs ws : List T2} (h : RuOK r hs ws) {a b a' b' : Int} (h1 : a ≤ a') (h2 : b ≤ b') : strengthS hs ws a b ≤ strengthS hs ws a' b' := by
  have m1 := h.h.factor_mono h1
  have m2 := h.w.factor_mono h2
  have b1 := h.h.factor_bd a
  have b2 := h.w.factor_bd b
  have m3 : factorS hs a * factorS ws b ≤ factorS hs a' * factorS ws b' := Int.mul_le_mul m1 m2 b2.1 (by omega)
  unfold strengthS
  omega
theorem days_str {r : RuA} {hs ws : List T2} (h : RuOK r hs ws) {ds : List T4} {n : Nat} (hn : ds.length = n) (hd : (daysE ds n).2 = 0) : ∀ s ∈ ds.map (strS hs ws), StrOK s := by
  intro s hs'
  rw [List.mem_map] at hs'
  obtain ⟨d, hd', rfl⟩ := hs'
  obtain ⟨i, hi, rfl⟩ := List.mem_iff_getElem.1 hd'
  have h0 := firstE_all.1 hd i (by omega)
  rw [show ds.getD i (0, 0, 0, 0) = ds[i] by simp [List.getD, hi]] at h0
  have h1 := day_ok h0
  exact ⟨(h.str_bd _ _).1, (h.str_bd _ _).2, strength_mono h h1.1 h1.2⟩
theorem tests_ok {first : Int} {n : Nat} {ts : List T3} {tn : Nat} (h : (testsE first n ts tn).2 = 0) : ∀ i, i < tn → (first ≤ (ts.getD i (0, 0, 0)).1 ∧ (ts.getD i (0, 0, 0)).1 ≤ first + n) ∧ (0 ≤ (ts.getD i (0, 0, 0)).2.1 ∧ (ts.getD i (0, 0, 0)).2.1 ≤ 3) ∧ (0 ≤ (ts.getD i (0, 0, 0)).2.2 ∧ (ts.getD i (0, 0, 0)).2.2 ≤ 3) := by
  intro i hi
  have h0 := firstE_all.1 h i hi
  simp only [testE] at h0
  split at h0
  · rename_i h1
    rw [Bool.and_eq_true, Bool.and_eq_true] at h1
    exact ⟨inB_iff.1 h1.1.1, inB_iff.1 h1.1.2, inB_iff.1 h1.2⟩
  · cases h0

/-- The morning of a test. -/
def morT (t : TkA) (ts : List T3) (i : Nat) : Nat := ((ts.getD i (0, 0, 0)).1 - t.first).toNat
def reachT (t : TkA) (hs ws : List T2) (ds : List T4) (ts : List T3) : RS := reachS t.r (ds.map (strS hs ws)) ts (morT t ts) ⟨orderL ts t.tn, [], (t.lo, t.hi), [], []⟩ (List.range (t.dn + 1))
/-- What can be known of each morning. -/
def levT (t : TkA) (hs ws : List T2) (ds : List T4) (ts : List T3) : List T2 := knownFold t.r (ds.map (strS hs ws)) (reachT t hs ws ds ts).lev (backL t.dn (List.finRange t.dn))
theorem levT_len {t : TkA} {hs ws : List T2} {ds : List T4} {ts : List T3} (he : (taskS t hs ws ds ts).2.2 = 0) (hl : ds.length = t.dn) : (levT t hs ws ds ts).length = t.dn + 1 := by
  have ok := TaskOK.of he
  have hO := RuOK.of ok.r
  have := (reach_ok hO (ss := ds.map (strS hs ws)) (N := t.dn) (by simp [hl]) (days_str hO hl ok.days) ts (morT t ts) (List.range (t.dn + 1)) ⟨orderL ts t.tn, [], (t.lo, t.hi), [], []⟩ (fun m hm => by rw [List.mem_range] at hm; omega) (lv_ok ok.start) (fun p hp => by cases hp)).2.2
  unfold levT
  rw [known_len]
  unfold reachT
  rw [this]
  simp

theorem known_full (t : TkA) (hs ws : List T2) (ds : List T4) (ts : List T3) (w : World) (hR : TkR w t hs ws ds ts) (he : (taskS t hs ws ds ts).2.2 = 0) (W : World) (v : Value) (hrow : W.ownsRow w.heap.size 28 2 v t.dn (flat2 (ds.map (strS hs ws)))) (hb : Below w.heap.size w W) :
    Calls Try.prog 71 #[.agg (t.xc v)] W fun e W' => ∃ g cap C sv, e = .returned (.tuple #[.slice (some ⟨g, 0, none⟩) (t.dn + 1) cap, sv]) ∧ W.heap.size ≤ g ∧ Ob W' g 28 C ∧ SpC C (levT t hs ws ds ts) ∧ W'.ownsRow W.heap.size 78 2 sv (reachT t hs ws ds ts).struck.length (flat2 (reachT t hs ws ds ts).struck) ∧ Below W.heap.size W W' := by
  have ok := TaskOK.of he
  have hO := RuOK.of ok.r
  have hdn := ok.dn
  have htn := ok.tn
  have hT := hR.t.below hb
  have hst := days_str hO hR.d.len ok.days
  have hte := tests_ok ok.tests
  obtain ⟨sa, sc, rfl, hsl, -, -⟩ := sl2_row hrow
  have hre := reach_ok hO (ss := ds.map (strS hs ws)) (N := t.dn) hsl.len hst ts (morT t ts) (List.range (t.dn + 1)) ⟨orderL ts t.tn, [], (t.lo, t.hi), [], []⟩ (fun m hm => by rw [List.mem_range] at hm; omega) (lv_ok ok.start) (fun p hp => by cases hp)
  refine known_any t hs ws sa sc t.dn _ (ds.map (strS hs ws)) (reachT t hs ws ds ts).lev _ W hO (by omega) hsl hst ?_ hre.2.1 (fun W1 hb1 => ?_)
  · rw [show (reachT t hs ws ds ts).lev.length = _ from hre.2.2]; simp
  · exact reached_any t hs ws sa sc t.dn (ds.map (strS hs ws)) ts (morT t ts) W1 hO (by omega) (hsl.below hb1) hst (hT.below hb1) htn
      (fun i hi => by have := hte i hi; omega) (fun i hi => by have := hte i hi; unfold morT; omega) (lv_ok ok.start)
theorem levels_full (t : TkA) (hs ws : List T2) (ds : List T4) (ts : List T3) (w : World) (hR : TkR w t hs ws ds ts) (he : (taskS t hs ws ds ts).2.2 = 0) :
    Calls Try.prog 28 #[.agg t.cs] w fun e W' => ∃ g cap C sv, e = .returned (.tuple #[.slice (some ⟨g, 0, none⟩) (t.dn + 1) cap, sv, .int .i64 0]) ∧ w.heap.size ≤ g ∧ Ob W' g 28 C ∧ SpC C (levT t hs ws ds ts) ∧ W'.ownsRow w.heap.size 78 2 sv (reachT t hs ws ds ts).struck.length (flat2 (reachT t hs ws ds ts).struck) ∧ Below w.heap.size w W' :=
  levels_ok t hs ws ds ts _ _ _ w hR he fun W v hrow hb => known_full t hs ws ds ts w hR he W v hrow hb
theorem lost_full (t : TkA) (hs ws : List T2) (ds : List T4) (ts : List T3) (w : World) (hR : TkR w t hs ws ds ts) (he : (taskS t hs ws ds ts).2.2 = 0) :
    Calls Try.prog 32 #[.agg t.cs] w fun e w' => e = .returned (.tuple #[.agg #[.int .i64 (lostP t (levT t hs ws ds ts)).1, .int .i64 (lostP t (levT t hs ws ds ts)).2], .int .i64 0]) ∧ Below w.heap.size w w' :=
  lostD_ok t hs ws ds ts _ w hR he (levT_len he hR.d.len) fun W v hrow hb => (known_full t hs ws ds ts w hR he W v hrow hb).mono fun _ _ ⟨g, cap, C, sv, h1, h2, h3, h4, _, h6⟩ => ⟨g, cap, C, sv, h1, h2, h3, h4, h6⟩
end Go.Proofs.Ytanjkhclhcnnaaa
/- Awake: the calls of the examples. -/
namespace Go.Proofs.Ytanjkhclhcnnaaa
open Go.RowKit Go.Shelf
attribute [local go_sem] Oper.semAt_some

def days0 : List T4 := [day0, day0, day0]
def ts1 : List T3 := [(101, 0, 0)]
def ts2 : List T3 := [(101, 0, 0), (102, 3, 1)]
theorem aw1 (a b d : Nat) (ta : Option Addr) : (taskS (task0 a b d ta 1 1) hs0 ws0 days0 ts1).2.2 = 0 := by kernel_rfl
theorem aw2 (a b d : Nat) (ta : Option Addr) : (taskS (task0 a b d ta 2 2) hs0 ws0 days0 ts2).2.2 = 0 := by kernel_rfl
theorem aw0 (a b d : Nat) (ta : Option Addr) : (taskS (task0 a b d ta 0 0) hs0 ws0 days0 []).2.2 = 0 := by kernel_rfl
theorem al1 (a b d : Nat) (ta : Option Addr) : levT (task0 a b d ta 1 1) hs0 ws0 days0 ts1 = [(900, 989), (910, 999), (920, 1019), (930, 1039)] := by kernel_rfl
theorem as2 (a b d : Nat) (ta : Option Addr) : (reachT (task0 a b d ta 2 2) hs0 ws0 days0 ts2).struck = [(1, 0)] := by kernel_rfl
theorem ax0 (a b d : Nat) (ta : Option Addr) : lostP (task0 a b d ta 0 0) (levT (task0 a b d ta 0 0) hs0 ws0 days0 []) = (102, -1) := by kernel_rfl
theorem ag0 (a b : Nat) : gradeS (rule0 a b) hs0 ws0 (-1) = (0, 7) := by kernel_rfl
theorem spc_sl2 {W : World} {g : Nat} {T : TypeId} {C : Array Value} {L : List T2} (h : Ob W g T C) (hs : SpC C L) : Sl2 W (some ⟨g, 0, none⟩) L.length L :=
  ⟨rfl, fun _ => ⟨g, 0, rfl, h.lt, fun i hi => by
    have e := hs.c i hi
    rw [Nat.zero_add]
    exact ⟨(h.cell _).trans e.1, (h.cell _).trans e.2⟩⟩⟩
theorem sl3_one (W : World) (x : T3) (T : TypeId) : Sl3 (W.alloc (.cells #[.int .i64 x.1, .int .i64 x.2.1, .int .i64 x.2.2] T)) (some ⟨W.heap.size, 0, none⟩) 1 [x] :=
  ⟨rfl, fun _ => ⟨W.heap.size, 0, rfl, by simp, fun i hi => by
    have h := Ob.new W #[.int .i64 x.1, .int .i64 x.2.1, .int .i64 x.2.2] T
    obtain rfl : i = 0 := by omega
    exact ⟨h.cell 0, h.cell 1, h.cell 2⟩⟩⟩
theorem sl3_two (W : World) (x y : T3) (T : TypeId) : Sl3 (W.alloc (.cells #[.int .i64 x.1, .int .i64 x.2.1, .int .i64 x.2.2, .int .i64 y.1, .int .i64 y.2.1, .int .i64 y.2.2] T)) (some ⟨W.heap.size, 0, none⟩) 2 [x, y] :=
  ⟨rfl, fun _ => ⟨W.heap.size, 0, rfl, by simp, fun i hi => by
    have h := Ob.new W #[.int .i64 x.1, .int .i64 x.2.1, .int .i64 x.2.2, .int .i64 y.1, .int .i64 y.2.1, .int .i64 y.2.2] T
    rcases (show i = 0 ∨ i = 1 by omega) with rfl | rfl
    · exact ⟨h.cell 0, h.cell 1, h.cell 2⟩
    · exact ⟨h.cell 3, h.cell 4, h.cell 5⟩⟩⟩
theorem sl3_nil (W : World) : Sl3 W none 0 [] := ⟨rfl, fun h => by omega⟩
theorem wp_region_held' {P : Program} {ops : Array Oper} {Q : Exit → Act → World → Prop} {S : World → Prop} {id : Nat} {a : Act} {w : World} (hm : P.follows .mixedOrders = true) (hS : S w.drew)
    (h : S w.drew → wpAnyH P .any ops (Only Q) S ops.size (Array.replicate ops.size false) a w.drew) : (Code.region id ops true).wp P Q a w :=
  wp_mono (wp_region_held_drew hm hS h) Only.imp

set_option maxRecDepth 100000 in
set_option maxHeartbeats 8000000 in
theorem awake_any (w : World) : Calls Try.prog 19 #[] w fun e w' => e = .returned (.bool true) ∧ Below w.heap.size w w' := by
  have hb0 := Lib.hid (B_alloc (Below.refl w.heap.size w) (.cells #[.int .i64 101, .int .i64 0, .int .i64 0] 64))
  go_enter Try.func19, Try.ntmps19
  go_wp2_with fail
  refine (task_any (some ⟨w.heap.size, 0, none⟩) 1 1 ts1 _ (sl3_one w (101, 0, 0) 64) (by omega)).mono ?_
  rintro e w1 ⟨a1, b1, d1, rfl, hR1, hb1⟩
  go_wp2_with fail
  refine (levels_full _ hs0 ws0 days0 ts1 w1 hR1 (aw1 _ _ _ _)).mono ?_
  rintro e w2 ⟨g1, cap1, C1, sv1, rfl, -, hC1, hS1, -, hb2⟩
  rw [al1] at hS1
  have hA := Lib.hid (spc_sl2 hC1 hS1)
  have hw2 := Lib.hid (B_trans (B_trans hb0.out hb1) hb2)
  clear hC1 hS1 hR1 hb1 hb2 hb0
  go_wp2_with fail
  refine (task_any (some ⟨w2.heap.size, 0, none⟩) 2 2 ts2 _ (sl3_two w2 (101, 0, 0) (102, 3, 1) 64) (by omega)).mono ?_
  rintro e w3 ⟨a3, b3, d3, rfl, hR3, hb3⟩
  go_wp2_with fail
  refine (levels_full _ hs0 ws0 days0 ts2 w3 hR3 (aw2 _ _ _ _)).mono ?_
  rintro e w4 ⟨g4, cap4, C4, sv4, rfl, -, -, -, hrow4, hb4⟩
  rw [as2] at hrow4
  obtain ⟨sa4, sc4, rfl, hB', -, -⟩ := sl2_row hrow4
  have hB := Lib.hid hB'
  have hb24 := B_trans (B_trans (B_alloc (Below.refl w2.heap.size w2) _) hb3) hb4
  have hw4 := Lib.hid (B_trans hw2.out hb24)
  replace hA := Lib.hid (hA.out.below hb24)
  clear hB' hrow4 hR3 hb3 hb4 hb24 hw2
  go_wp2_with fail
  refine (task_any none 0 0 [] w4 (sl3_nil _) (by omega)).mono ?_
  rintro e w5 ⟨a5, b5, d5, rfl, hR5, hb5⟩
  go_wp2_with fail
  refine (lost_full _ hs0 ws0 days0 [] w5 hR5 (aw0 _ _ _ _)).mono ?_
  rintro e w6 ⟨rfl, hb6⟩
  rw [ax0]
  have hb46 := B_trans hb5 hb6
  have hb47 := B_alloc hb46 (.cells #[.int .i64 102, .int .i64 (-1)] 28)
  have hw7 := Lib.hid (B_trans hw4.out hb47)
  replace hA := Lib.hid (hA.out.below hb47)
  replace hB := Lib.hid (hB.out.below hb47)
  have hx := Lib.hid (Ob.new w6 #[.int .i64 102, .int .i64 (-1)] 28)
  clear hR5 hb5 hb6 hb46 hb47 hw4
  go_wp2_with fail
  refine (rule_any _).mono ?_
  rintro e w8 ⟨a8, b8, rfl, -, -, hRu, hb8⟩
  go_wp2_with fail
  refine (grade_any _ hs0 ws0 (-1) w8 hRu).mono ?_
  rintro e w9 ⟨rfl, hb9⟩
  rw [ag0]
  have hb79 := B_trans hb8 hb9
  have hw9 := Lib.hid (B_trans hw7.out hb79)
  replace hA := Lib.hid (hA.out.below hb79)
  replace hB := Lib.hid (hB.out.below hb79)
  have hx9 := hx.out.below hb79
  have HX := Lib.hid (fun (W' : World) (hh : Below w9.heap.size w9 W') => And.intro ((hx9.below hh).cell 0) ((hx9.below hh).cell 1))
  simp only [List.getElem?_toArray, List.getElem?_cons_zero, List.getElem?_cons_succ] at HX
  clear hx hx9 hRu hb8 hb9 hb79 hw7
  go_upto_region 5 with fail
  -- REGION5
  refine wp_region_held' (S := fun W' => Below w9.heap.size w9 W') (by kernel_rfl) ((Below.refl _ w9).drew) (fun hHeld => ?_)
  refine wpAnyH_take2 (i := 0) (t := 38) (v := ?_) rfl rfl (by kernel_rfl) (by kernel_rfl) (by kernel_rfl) (fun _ _ _ h => Only.not_panic h) (Or.inl ⟨by kernel_rfl, fun W hW => ?_⟩) (by assumption) ?_
  rotate_left
  · have hW2 := hW
    have hX := HX.out W hW2
    obtain ⟨x0, x1⟩ := hX
    clear hW hW2
    go_simp
    try with_reducible rfl
  try simp only [Act.put, List.setIfInBounds_toArray, List.set_cons_zero, List.set_cons_succ]
  refine wpAnyH_take2 (i := 1) (t := 39) (v := .bool true) rfl rfl (by kernel_rfl) (by kernel_rfl) (by kernel_rfl) (fun _ _ _ h => Only.not_panic h) (Or.inl ⟨by kernel_rfl, fun W hW => ?_⟩) (by assumption) ?_
  · have hW2 := hW
    have hX := HX.out W hW2
    obtain ⟨x0, x1⟩ := hX
    clear hW hW2
    go_simp
    try with_reducible rfl
  try simp only [Act.put, List.setIfInBounds_toArray, List.set_cons_zero, List.set_cons_succ]
  refine wpAnyH_take2 (i := 2) (t := 40) (v := .bool true) rfl rfl (by kernel_rfl) (by kernel_rfl) (by kernel_rfl) (fun _ _ _ h => Only.not_panic h) (Or.inl ⟨by kernel_rfl, fun W hW => ?_⟩) (by assumption) ?_
  · have hW2 := hW
    have hX := HX.out W hW2
    obtain ⟨x0, x1⟩ := hX
    clear hW hW2
    go_simp
    try with_reducible rfl
  try simp only [Act.put, List.setIfInBounds_toArray, List.set_cons_zero, List.set_cons_succ]
  refine wpAnyH_take2 (i := 3) (t := 41) (v := ?_) rfl rfl (by kernel_rfl) (by kernel_rfl) (by kernel_rfl) (fun _ _ _ h => Only.not_panic h) (Or.inl ⟨by kernel_rfl, fun W hW => ?_⟩) (by assumption) ?_
  rotate_left
  · have hW2 := hW
    have hX := HX.out W hW2
    obtain ⟨x0, x1⟩ := hX
    clear hW hW2
    go_simp
    try with_reducible rfl
  try simp only [Act.put, List.setIfInBounds_toArray, List.set_cons_zero, List.set_cons_succ]
  refine wpAnyH_take2 (i := 4) (t := 42) (v := .bool true) rfl rfl (by kernel_rfl) (by kernel_rfl) (by kernel_rfl) (fun _ _ _ h => Only.not_panic h) (Or.inl ⟨by kernel_rfl, fun W hW => ?_⟩) (by assumption) ?_
  · have hW2 := hW
    have hX := HX.out W hW2
    obtain ⟨x0, x1⟩ := hX
    clear hW hW2
    go_simp
    try with_reducible rfl
  try simp only [Act.put, List.setIfInBounds_toArray, List.set_cons_zero, List.set_cons_succ]
  refine wpAnyH_take2 (i := 5) (t := 43) (v := .bool true) rfl rfl (by kernel_rfl) (by kernel_rfl) (by kernel_rfl) (fun _ _ _ h => Only.not_panic h) (Or.inl ⟨by kernel_rfl, fun W hW => ?_⟩) (by assumption) ?_
  · have hW2 := hW
    have hX := HX.out W hW2
    obtain ⟨x0, x1⟩ := hX
    clear hW hW2
    go_simp
    try with_reducible rfl
  try simp only [Act.put, List.setIfInBounds_toArray, List.set_cons_zero, List.set_cons_succ]
  refine wpAnyH_take2 (i := 6) (t := 44) (v := .bool true) rfl rfl (by kernel_rfl) (by kernel_rfl) (by kernel_rfl) (fun _ _ _ h => Only.not_panic h) (Or.inl ⟨by kernel_rfl, fun W hW => ?_⟩) (by assumption) ?_
  · have hW2 := hW
    have hX := HX.out W hW2
    obtain ⟨x0, x1⟩ := hX
    clear hW hW2
    go_simp
    try with_reducible rfl
  try simp only [Act.put, List.setIfInBounds_toArray, List.set_cons_zero, List.set_cons_succ]
  refine wpAnyH_take2 (i := 7) (t := 45) (v := ?_) rfl rfl (by kernel_rfl) (by kernel_rfl) (by kernel_rfl) (fun _ _ _ h => Only.not_panic h) (Or.inl ⟨by kernel_rfl, fun W hW => ?_⟩) (by assumption) ?_
  rotate_left
  · have hW2 := hW
    have hX := HX.out W hW2
    obtain ⟨x0, x1⟩ := hX
    clear hW hW2
    go_simp
    try with_reducible rfl
  try simp only [Act.put, List.setIfInBounds_toArray, List.set_cons_zero, List.set_cons_succ]
  refine wpAnyH_take2 (i := 8) (t := 46) (v := .bool true) rfl rfl (by kernel_rfl) (by kernel_rfl) (by kernel_rfl) (fun _ _ _ h => Only.not_panic h) (Or.inl ⟨by kernel_rfl, fun W hW => ?_⟩) (by assumption) ?_
  · have hW2 := hW
    have hX := HX.out W hW2
    obtain ⟨x0, x1⟩ := hX
    clear hW hW2
    go_simp
    try with_reducible rfl
  try simp only [Act.put, List.setIfInBounds_toArray, List.set_cons_zero, List.set_cons_succ]
  refine wpAnyH_take2 (i := 9) (t := 47) (v := .bool true) rfl rfl (by kernel_rfl) (by kernel_rfl) (by kernel_rfl) (fun _ _ _ h => Only.not_panic h) (Or.inl ⟨by kernel_rfl, fun W hW => ?_⟩) (by assumption) ?_
  · have hW2 := hW
    have hX := HX.out W hW2
    obtain ⟨x0, x1⟩ := hX
    clear hW hW2
    go_simp
    try with_reducible rfl
  try simp only [Act.put, List.setIfInBounds_toArray, List.set_cons_zero, List.set_cons_succ]
  refine wpAnyH_take2 (i := 10) (t := 48) (v := .bool true) rfl rfl (by kernel_rfl) (by kernel_rfl) (by kernel_rfl) (fun _ _ _ h => Only.not_panic h) (Or.inl ⟨by kernel_rfl, fun W hW => ?_⟩) (by assumption) ?_
  · have hW2 := hW
    have hX := HX.out W hW2
    obtain ⟨x0, x1⟩ := hX
    clear hW hW2
    go_simp
    try with_reducible rfl
  try simp only [Act.put, List.setIfInBounds_toArray, List.set_cons_zero, List.set_cons_succ]
  refine wpAnyH_take2 (i := 11) (t := 49) (v := ?_) rfl rfl (by kernel_rfl) (by kernel_rfl) (by kernel_rfl) (fun _ _ _ h => Only.not_panic h) (Or.inl ⟨by kernel_rfl, fun W hW => ?_⟩) (by assumption) ?_
  rotate_left
  · have hW2 := hW
    have hX := HX.out W hW2
    obtain ⟨x0, x1⟩ := hX
    clear hW hW2
    go_simp
    try with_reducible rfl
  try simp only [Act.put, List.setIfInBounds_toArray, List.set_cons_zero, List.set_cons_succ]
  refine wpAnyH_take2 (i := 12) (t := 50) (v := .bool true) rfl rfl (by kernel_rfl) (by kernel_rfl) (by kernel_rfl) (fun _ _ _ h => Only.not_panic h) (Or.inl ⟨by kernel_rfl, fun W hW => ?_⟩) (by assumption) ?_
  · have hW2 := hW
    have hX := HX.out W hW2
    obtain ⟨x0, x1⟩ := hX
    clear hW hW2
    go_simp
    try with_reducible rfl
  try simp only [Act.put, List.setIfInBounds_toArray, List.set_cons_zero, List.set_cons_succ]
  refine wpAnyH_take2 (i := 13) (t := 51) (v := .bool true) rfl rfl (by kernel_rfl) (by kernel_rfl) (by kernel_rfl) (fun _ _ _ h => Only.not_panic h) (Or.inl ⟨by kernel_rfl, fun W hW => ?_⟩) (by assumption) ?_
  · have hW2 := hW
    have hX := HX.out W hW2
    obtain ⟨x0, x1⟩ := hX
    clear hW hW2
    go_simp
    try with_reducible rfl
  try simp only [Act.put, List.setIfInBounds_toArray, List.set_cons_zero, List.set_cons_succ]
  refine wpAnyH_take2 (i := 14) (t := 52) (v := .bool true) rfl rfl (by kernel_rfl) (by kernel_rfl) (by kernel_rfl) (fun _ _ _ h => Only.not_panic h) (Or.inl ⟨by kernel_rfl, fun W hW => ?_⟩) (by assumption) ?_
  · have hW2 := hW
    have hX := HX.out W hW2
    obtain ⟨x0, x1⟩ := hX
    clear hW hW2
    go_simp
    try with_reducible rfl
  try simp only [Act.put, List.setIfInBounds_toArray, List.set_cons_zero, List.set_cons_succ]
  refine wpAnyH_take2 (i := 15) (t := 53) (v := ?_) rfl rfl (by kernel_rfl) (by kernel_rfl) (by kernel_rfl) (fun _ _ _ h => Only.not_panic h) (Or.inl ⟨by kernel_rfl, fun W hW => ?_⟩) (by assumption) ?_
  rotate_left
  · have hW2 := hW
    have hX := HX.out W hW2
    obtain ⟨x0, x1⟩ := hX
    clear hW hW2
    go_simp
    try with_reducible rfl
  try simp only [Act.put, List.setIfInBounds_toArray, List.set_cons_zero, List.set_cons_succ]
  refine wpAnyH_ready (rs := [16]) (by kernel_rfl) (by simp) ?_
  refine AllReadyH.cons_want rfl (by kernel_rfl) (fun K hK => ?_) ?_
  · go_simp
    refine (span_any _ _ _).mono ?_
    rintro e w16 ⟨rfl, hb16⟩
    try simp only []
    refine hK.out _ _ ?_ (fun hHeld => ?_)
    · exact B_trans hHeld hb16
    clear hK K
    try simp only [Act.put, List.setIfInBounds_toArray, List.set_cons_zero, List.set_cons_succ]
    refine wpAnyH_ready (rs := [17]) (by kernel_rfl) (by simp) ?_
    refine AllReadyH.cons_want rfl (by kernel_rfl) (fun K hK => ?_) ?_
    · go_simp
      refine (span_any _ _ _).mono ?_
      rintro e w17 ⟨rfl, hb17⟩
      try simp only []
      refine hK.out _ _ ?_ (fun hHeld => ?_)
      · exact B_trans hHeld hb17
      clear hK K
      try simp only [Act.put, List.setIfInBounds_toArray, List.set_cons_zero, List.set_cons_succ]
      refine wpAnyH_ready (rs := [18]) (by kernel_rfl) (by simp) ?_
      refine AllReadyH.cons_want rfl (by kernel_rfl) (fun K hK => ?_) ?_
      · go_simp
        refine (span_any _ _ _).mono ?_
        rintro e w18 ⟨rfl, hb18⟩
        try simp only []
        refine hK.out _ _ ?_ (fun hHeld => ?_)
        · exact B_trans hHeld hb18
        clear hK K
        try simp only [Act.put, List.setIfInBounds_toArray, List.set_cons_zero, List.set_cons_succ]
        refine wpAnyH_ready (rs := [19]) (by kernel_rfl) (by simp) ?_
        refine AllReadyH.cons_want rfl (by kernel_rfl) (fun K hK => ?_) ?_
        · go_simp
          refine (span_any _ _ _).mono ?_
          rintro e w19 ⟨rfl, hb19⟩
          try simp only []
          refine hK.out _ _ ?_ (fun hHeld => ?_)
          · exact B_trans hHeld hb19
          clear hK K
          try simp only [Act.put, List.setIfInBounds_toArray, List.set_cons_zero, List.set_cons_succ]
          refine wpAnyH_ready (rs := [20]) (by kernel_rfl) (by simp) ?_
          refine AllReadyH.cons_want rfl (by kernel_rfl) (fun K hK => ?_) ?_
          · go_simp
            have o20 := Lib.hid (show Sl2 (w19.alloc (.cells #[.int .i64 900, .int .i64 989, .int .i64 910, .int .i64 999, .int .i64 920, .int .i64 1019, .int .i64 930, .int .i64 1039] 28)) (some ⟨w19.heap.size, 0, none⟩) 4 [(900, 989), (910, 999), (920, 1019), (930, 1039)] from ob_sl2 (L := [(900, 989), (910, 999), (920, 1019), (930, 1039)]) (Ob.new w19 _ _))
            refine hK.out _ _ ?_ (fun hHeld => ?_)
            · exact B_alloc hHeld _
            clear hK K
            try simp only [Act.put, List.setIfInBounds_toArray, List.set_cons_zero, List.set_cons_succ]
            refine wpAnyH_ready (rs := [21]) (by kernel_rfl) (by simp) ?_
            refine AllReadyH.cons_want rfl (by kernel_rfl) (fun K hK => ?_) ?_
            · go_simp
              refine (spans_any [(900, 989), (910, 999), (920, 1019), (930, 1039)] [(900, 989), (910, 999), (920, 1019), (930, 1039)] _ _ _ _ _ _ _ (hA.out.below hHeld) o20.out (by show 4 ≤ _; omega) (by omega)).mono ?_
              rintro e w21 ⟨rfl, hb21⟩
              rw [decide_eq_true rfl]
              try simp only []
              refine hK.out _ _ ?_ (fun hHeld => ?_)
              · exact B_trans hHeld hb21
              clear hK K
              try simp only [Act.put, List.setIfInBounds_toArray, List.set_cons_zero, List.set_cons_succ]
              refine wpAnyH_take2 (i := 22) (t := 60) (v := .bool true) rfl rfl (by kernel_rfl) (by kernel_rfl) (by kernel_rfl) (fun _ _ _ h => Only.not_panic h) (Or.inl ⟨by kernel_rfl, fun W hW => ?_⟩) (by assumption) ?_
              · have hW2 := hW
                have hX := HX.out W hW2
                obtain ⟨x0, x1⟩ := hX
                clear hW hW2
                go_simp
                try with_reducible rfl
              try simp only [Act.put, List.setIfInBounds_toArray, List.set_cons_zero, List.set_cons_succ]
              refine wpAnyH_take2 (i := 23) (t := 61) (v := .bool true) rfl rfl (by kernel_rfl) (by kernel_rfl) (by kernel_rfl) (fun _ _ _ h => Only.not_panic h) (Or.inl ⟨by kernel_rfl, fun W hW => ?_⟩) (by assumption) ?_
              · have hW2 := hW
                have hX := HX.out W hW2
                obtain ⟨x0, x1⟩ := hX
                clear hW hW2
                go_simp
                try with_reducible rfl
              try simp only [Act.put, List.setIfInBounds_toArray, List.set_cons_zero, List.set_cons_succ]
              refine wpAnyH_take2 (i := 24) (t := 62) (v := ?_) rfl rfl (by kernel_rfl) (by kernel_rfl) (by kernel_rfl) (fun _ _ _ h => Only.not_panic h) (Or.inl ⟨by kernel_rfl, fun W hW => ?_⟩) (by assumption) ?_
              rotate_left
              · have hW2 := hW
                have hX := HX.out W hW2
                obtain ⟨x0, x1⟩ := hX
                clear hW hW2
                go_simp
                try with_reducible rfl
              try simp only [Act.put, List.setIfInBounds_toArray, List.set_cons_zero, List.set_cons_succ]
              refine wpAnyH_take2 (i := 25) (t := 63) (v := ?_) rfl rfl (by kernel_rfl) (by kernel_rfl) (by kernel_rfl) (fun _ _ _ h => Only.not_panic h) (Or.inl ⟨by kernel_rfl, fun W hW => ?_⟩) (by assumption) ?_
              rotate_left
              · have hW2 := hW
                have hX := HX.out W hW2
                obtain ⟨x0, x1⟩ := hX
                clear hW hW2
                go_simp
                try with_reducible rfl
              try simp only [Act.put, List.setIfInBounds_toArray, List.set_cons_zero, List.set_cons_succ]
              refine wpAnyH_ready (rs := [26]) (by kernel_rfl) (by simp) ?_
              refine AllReadyH.cons_want rfl (by kernel_rfl) (fun K hK => ?_) ?_
              · go_simp
                have o26 := Lib.hid (show Sl2 (w21.alloc (.cells #[.int .i64 1, .int .i64 0] 78)) (some ⟨w21.heap.size, 0, none⟩) 1 [(1, 0)] from ob_sl2 (L := [(1, 0)]) (Ob.new w21 _ _))
                refine hK.out _ _ ?_ (fun hHeld => ?_)
                · exact B_alloc hHeld _
                clear hK K
                try simp only [Act.put, List.setIfInBounds_toArray, List.set_cons_zero, List.set_cons_succ]
                refine wpAnyH_ready (rs := [27]) (by kernel_rfl) (by simp) ?_
                refine AllReadyH.cons_want rfl (by kernel_rfl) (fun K hK => ?_) ?_
                · go_simp
                  refine (strikes_any [(1, 0)] [(1, 0)] _ _ _ _ _ _ _ (hB.out.below hHeld) o26.out (by show 1 ≤ _; omega) (by omega)).mono ?_
                  rintro e w27 ⟨rfl, hb27⟩
                  rw [decide_eq_true rfl]
                  try simp only []
                  refine hK.out _ _ ?_ (fun hHeld => ?_)
                  · exact B_trans hHeld hb27
                  clear hK K
                  try simp only [Act.put, List.setIfInBounds_toArray, List.set_cons_zero, List.set_cons_succ]
                  refine wpAnyH_take2 (i := 28) (t := 66) (v := .bool true) rfl rfl (by kernel_rfl) (by kernel_rfl) (by kernel_rfl) (fun _ _ _ h => Only.not_panic h) (Or.inl ⟨by kernel_rfl, fun W hW => ?_⟩) (by assumption) ?_
                  · have hW2 := hW
                    have hX := HX.out W hW2
                    obtain ⟨x0, x1⟩ := hX
                    clear hW hW2
                    go_simp
                    try with_reducible rfl
                  try simp only [Act.put, List.setIfInBounds_toArray, List.set_cons_zero, List.set_cons_succ]
                  refine wpAnyH_take2 (i := 29) (t := 67) (v := .bool true) rfl rfl (by kernel_rfl) (by kernel_rfl) (by kernel_rfl) (fun _ _ _ h => Only.not_panic h) (Or.inl ⟨by kernel_rfl, fun W hW => ?_⟩) (by assumption) ?_
                  · have hW2 := hW
                    have hX := HX.out W hW2
                    obtain ⟨x0, x1⟩ := hX
                    clear hW hW2
                    go_simp
                    try with_reducible rfl
                  try simp only [Act.put, List.setIfInBounds_toArray, List.set_cons_zero, List.set_cons_succ]
                  refine wpAnyH_take2 (i := 30) (t := 68) (v := ?_) rfl rfl (by kernel_rfl) (by kernel_rfl) (by kernel_rfl) (fun _ _ _ h => Only.not_panic h) (Or.inl ⟨by kernel_rfl, fun W hW => ?_⟩) (by assumption) ?_
                  rotate_left
                  · have hW2 := hW
                    have hX := HX.out W hW2
                    obtain ⟨x0, x1⟩ := hX
                    clear hW hW2
                    go_simp
                    try with_reducible rfl
                  try simp only [Act.put, List.setIfInBounds_toArray, List.set_cons_zero, List.set_cons_succ]
                  refine wpAnyH_ready (rs := [31]) (by kernel_rfl) (by simp) ?_
                  refine AllReadyH.cons_want rfl (by kernel_rfl) (fun K hK => ?_) ?_
                  · go_simp
                    refine (span_any _ _ _).mono ?_
                    rintro e w31 ⟨rfl, hb31⟩
                    try simp only []
                    refine hK.out _ _ ?_ (fun hHeld => ?_)
                    · exact B_trans hHeld hb31
                    clear hK K
                    try simp only [Act.put, List.setIfInBounds_toArray, List.set_cons_zero, List.set_cons_succ]
                    refine wpAnyH_take2 (i := 32) (t := 70) (v := .bool true) rfl rfl (by kernel_rfl) (by kernel_rfl) (by kernel_rfl) (fun _ _ _ h => Only.not_panic h) (Or.inl ⟨by kernel_rfl, fun W hW => ?_⟩) (by assumption) ?_
                    · have hW2 := hW
                      have hX := HX.out W hW2
                      obtain ⟨x0, x1⟩ := hX
                      clear hW hW2
                      go_simp
                      try with_reducible rfl
                    try simp only [Act.put, List.setIfInBounds_toArray, List.set_cons_zero, List.set_cons_succ]
                    refine wpAnyH_take2 (i := 33) (t := 71) (v := .bool true) rfl rfl (by kernel_rfl) (by kernel_rfl) (by kernel_rfl) (fun _ _ _ h => Only.not_panic h) (Or.inl ⟨by kernel_rfl, fun W hW => ?_⟩) (by assumption) ?_
                    · have hW2 := hW
                      have hX := HX.out W hW2
                      obtain ⟨x0, x1⟩ := hX
                      clear hW hW2
                      go_simp
                      try with_reducible rfl
                    try simp only [Act.put, List.setIfInBounds_toArray, List.set_cons_zero, List.set_cons_succ]
                    refine wpAnyH_take2 (i := 34) (t := 0) (v := ?_) rfl rfl (by kernel_rfl) (by kernel_rfl) (by kernel_rfl) (fun _ _ _ h => Only.not_panic h) (Or.inl ⟨by kernel_rfl, fun W hW => ?_⟩) (by assumption) ?_
                    rotate_left
                    · have hW2 := hW
                      have hX := HX.out W hW2
                      obtain ⟨x0, x1⟩ := hX
                      clear hW hW2
                      go_simp
                      try with_reducible rfl
                    try simp only [Act.put, List.setIfInBounds_toArray, List.set_cons_zero]
                    refine wpAnyH_done (by kernel_rfl) (Only.mk ?_) _
                    go_wp2
                    refine bodyPost_ret (v := .bool true) (by simp [results, Try.results19, go_sem]) rfl ⟨rfl, B_trans hw9.out hHeld⟩
                  exact AllReadyH.nil
                exact AllReadyH.nil
              exact AllReadyH.nil
            exact AllReadyH.nil
          exact AllReadyH.nil
        exact AllReadyH.nil
      exact AllReadyH.nil
    exact AllReadyH.nil
  exact AllReadyH.nil
end Go.Proofs.Ytanjkhclhcnnaaa
/- Arguments opened: rules, tasks, slices of structs of integers; arguments read again; the post of a law. -/
namespace Go.Proofs.Ytanjkhclhcnnaaa
open Go.ChangeShapes Go.WideShapes Go.ChangeAt Go.RowKit Go.Deep

theorem own : ownKnob Try.prog.godebug = none := by kernel_rfl
theorem laid_out : laidOutB Try.prog = true := by kernel_rfl

section
variable {H : Type} {enc : TypeId × Value → H} {P : Program} {w W' : World} {base : Nat} {spare : Nat → Bool} {held : Bool}
/-- The arguments read again in a world in which nothing of theirs has turned. -/
theorem args_stay (hl : laidOutB P = true) {sp : Nat → Bool} : ∀ {ts : List TypeId} {vs : List Value} {ds : List (DataW H)} {ps : List MemPlace}, (∀ t ∈ ts, P.readableRec t = true ∧ t < P.types.size) →
    DataW.TrodAll enc P w base (fun _ => true) true ts vs ds ps → (∀ p ∈ ps, w.sameAt W' p) → (∀ p ∈ ps, sp p.block = true) → DataW.TrodAll enc P W' base sp true ts vs ds ps
  | [], [], [], _, _, h, _, _ => h
  | _ :: _, _ :: _, _ :: _, _, hT, ⟨p, q, h1, h2, e⟩, hm, hs =>
    ⟨p, q, WideElems.Trod_stays hl (hT _ (List.mem_cons.2 (Or.inl rfl))).1 (hT _ (List.mem_cons.2 (Or.inl rfl))).2 h1 (fun x hx => hm x (by rw [e]; exact List.mem_append_left _ hx)) (fun x hx => hs x (by rw [e]; exact List.mem_append_left _ hx)),
      args_stay hl (fun t ht => hT t (List.mem_cons.2 (Or.inr ht))) h2 (fun x hx => hm x (by rw [e]; exact List.mem_append_right _ hx)) (fun x hx => hs x (by rw [e]; exact List.mem_append_right _ hx)), e⟩
end
/-- The post of a call that leaves the memory of before as it was. -/
theorem post_below {H : Type} {enc : TypeId × Value → H} {P : Program} {f : Func} {s : ChangeSpec} {apart fresh : Bool} {W W' : World} {args : Array Value} {v : Value} {ds gs : List (DataW H)} {before pa pv : List MemPlace}
    (hW : DataW.Whole enc P f.params.toList s.vars apart W args.toList ds gs before)
    (hres : ∀ (b : Nat) (sp : Nat → Bool) (hd : Bool), DataW.TrodAll enc P W' b sp hd f.resultTypes.toList (v.resultList f.resultTypes.size) (s.fn H (ds ++ gs)).results [])
    (hargs : ∀ sp : Nat → Bool, (∀ p ∈ before, sp p.block = true) → DataW.TrodAll enc P W' 0 sp true f.params.toList args.toList (s.fn H (ds ++ gs)).args pa)
    (hvars : ∀ sp : Nat → Bool, (∀ p ∈ before, sp p.block = true) → DataW.TrodVars enc P W' sp s.vars (s.fn H (ds ++ gs)).vars pv)
    (hps : before = pa ++ pv) (hk : W.keptBut W' (· ∈ before)) :
    s.post enc P f apart fresh false false W args v W' := by
  have hold : ∀ p ∈ before, (fun b => decide (b < W.heap.size)) p.block = true := fun p hp => by simpa using hW.lt p hp
  refine ⟨ds, gs, before, [], pa, pv, hW, hres _ _ _, hargs _ hold, hvars _ hold, World.keptBut_mono (fun p hp => ⟨hp, ?_⟩) hk, fun h => by cases h⟩
  rw [hps, List.mem_append] at hp
  exact Or.inr hp
/-- THE POST of a law that returns true and leaves the memory of before as it was. -/
theorem law_post {H : Type} {enc : TypeId × Value → H} {f : Func} {s : ChangeSpec} {W W' : World} {args : Array Value} {ds : List (DataW H)} {before : List MemPlace} (hT : ∀ t ∈ f.params.toList, Try.prog.readableRec t = true ∧ t < Try.prog.types.size)
    (hW : DataW.Whole enc Try.prog f.params.toList s.vars false W args.toList ds [] before) (hV : s.vars = []) (hs : s.fn H (ds ++ []) = { results := [.lit (.bool true)], args := ds, vars := [] }) (hr : f.resultTypes = #[4]) (hb : Below W.heap.size W W') :
    s.post enc Try.prog f false true false false W args (.bool true) W' := by
  have hW' := hW
  obtain ⟨p, q, hA, hq, rfl, -, -⟩ := hW
  rw [hV] at hq
  obtain rfl : q = [] := hq
  simp only [List.append_nil] at hW' ⊢
  have hlt : ∀ x ∈ p, x.block < W.heap.size := fun x hx => by simpa using hW'.lt x hx
  refine post_below (pa := p) (pv := []) hW' (fun _ _ _ => ?_) (fun sp hsp => ?_) (fun _ _ => ?_) (by simp) (hb.frame _)
  · rw [hs, hr]
    exact trodAll_cons_mk (shut_bool Try.underlying4 _) trodAll_mk0
  · rw [hs]
    exact args_stay laid_out hT hA (fun x hx => hb.same (hlt x hx)) hsp
  · rw [hs, hV]
    rfl

/-- A type whose data are k integers, one after another. -/
def Flat (P : Program) (t : TypeId) (k : Nat) : Prop := ∀ {H : Type} {enc : TypeId × Value → H} {W : World} {base : Nat} {held : Bool} {fuel : Nat} {cs : List Value} {x : DataW H × List MemPlace},
  DataW.trod enc P W base (fun _ => true) held fuel t cs = some x → ∃ zs : List Int, zs.length = k ∧ cs = zs.map (fun z => Value.int .i64 z) ∧ ∀ z ∈ zs, (Lit.int .i64 z).wf = true
theorem flat_int {P : Program} {t : TypeId} (ht : P.underlying t = some (.int .i64)) : Flat P t 1 := fun h => by
  obtain ⟨n, rfl, -, hw⟩ := DataW.trod_int ht h
  exact ⟨[n], rfl, rfl, by simpa using hw⟩
theorem parts2 {cs : List Value} {k0 k1 : Nat} (h : cs.length = k0 + k1) : cs = (cs.drop 0).take k0 ++ (cs.drop k0).take k1 := by
  rw [List.drop_zero, List.take_of_length_le (l := cs.drop k0) (by simp; omega), List.take_append_drop]
theorem flat_struct2 {P : Program} {t : TypeId} {f0 f1 : Field} {k0 k1 : Nat} (ht : P.underlying t = some (.struct #[f0, f1])) (o0 : f0.offset = 0) (o1 : f1.offset = k0) (c0 : P.cellsOf f0.type = k0) (c1 : P.cellsOf f1.type = k1) (ct : P.cellsOf t = k0 + k1)
    (h0 : Flat P f0.type k0) (h1 : Flat P f1.type k1) : Flat P t (k0 + k1) := fun h => by
  obtain ⟨y0, y1, n, -, hl, e0, e1⟩ := trod_struct2 ht h
  rw [o0, c0] at e0
  rw [o1, c1] at e1
  obtain ⟨z0, l0, q0, w0⟩ := h0 e0
  obtain ⟨z1, l1, q1, w1⟩ := h1 e1
  refine ⟨z0 ++ z1, by simp [l0, l1], ?_, fun z hz => (List.mem_append.1 hz).elim (w0 z) (w1 z)⟩
  rw [List.map_append, ← q0, ← q1]
  exact parts2 (by rw [hl, ct])
theorem flat_struct3 {P : Program} {t : TypeId} {f0 f1 f2 : Field} (ht : P.underlying t = some (.struct #[f0, f1, f2])) (o0 : f0.offset = 0) (o1 : f1.offset = 1) (o2 : f2.offset = 2) (c0 : P.cellsOf f0.type = 1) (c1 : P.cellsOf f1.type = 1) (c2 : P.cellsOf f2.type = 1) (ct : P.cellsOf t = 3)
    (h0 : Flat P f0.type 1) (h1 : Flat P f1.type 1) (h2 : Flat P f2.type 1) : Flat P t 3 := fun {_ _ _ _ _ _ cs _} h => by
  obtain ⟨xs, n, -, -, hl, hlen, hf⟩ := DataW.trod_struct ht h
  have e0 := hf 0 f0 rfl
  have e1 := hf 1 f1 rfl
  have e2 := hf 2 f2 rfl
  have hx3 : xs.length = 3 := hlen
  rw [List.getElem?_eq_getElem (by omega)] at e0 e1 e2
  rw [o0, c0] at e0
  rw [o1, c1] at e1
  rw [o2, c2] at e2
  obtain ⟨z0, l0, q0, w0⟩ := h0 e0
  obtain ⟨z1, l1, q1, w1⟩ := h1 e1
  obtain ⟨z2, l2, q2, w2⟩ := h2 e2
  refine ⟨z0 ++ z1 ++ z2, by simp [l0, l1, l2], ?_, fun z hz => by
    rcases List.mem_append.1 hz with hz | hz
    · exact (List.mem_append.1 hz).elim (w0 z) (w1 z)
    · exact w2 z hz⟩
  rw [List.map_append, List.map_append, ← q0, ← q1, ← q2]
  rw [ct] at hl
  match cs, hl with
  | [a, b, c], _ => rfl
theorem flat_arr3 {P : Program} {t e : TypeId} (ht : P.underlying t = some (.array 3 e)) (c0 : P.cellsOf e = 1) (ct : P.cellsOf t = 3) (h0 : Flat P e 1) : Flat P t 3 := fun {_ _ _ _ _ _ cs _} h => by
  obtain ⟨xs, m, -, -, hl, hlen, hf⟩ := DataW.trod_array ht h
  have e0 := hf 0 (by decide)
  have e1 := hf 1 (by decide)
  have e2 := hf 2 (by decide)
  rw [List.getElem?_eq_getElem (by omega), c0] at e0 e1 e2
  obtain ⟨z0, l0, q0, w0⟩ := h0 e0
  obtain ⟨z1, l1, q1, w1⟩ := h0 e1
  obtain ⟨z2, l2, q2, w2⟩ := h0 e2
  refine ⟨z0 ++ z1 ++ z2, by simp [l0, l1, l2], ?_, fun z hz => by
    rcases List.mem_append.1 hz with hz | hz
    · exact (List.mem_append.1 hz).elim (w0 z) (w1 z)
    · exact w2 z hz⟩
  rw [List.map_append, List.map_append, ← q0, ← q1, ← q2]
  rw [ct] at hl
  match cs, hl with
  | [a, b, c], _ => rfl

theorem exists_list {α : Type} (d : α) (p : Nat → α → Prop) : ∀ n, (∀ i, i < n → ∃ a, p i a) → ∃ l : List α, l.length = n ∧ ∀ i, i < n → p i (l.getD i d)
  | 0, _ => ⟨[], rfl, fun i hi => absurd hi (Nat.not_lt_zero i)⟩
  | n + 1, h => by
    obtain ⟨l, hl, hp⟩ := exists_list d p n fun i hi => h i (by omega)
    obtain ⟨a, ha⟩ := h n (by omega)
    refine ⟨l ++ [a], by simp [hl], fun i hi => ?_⟩
    by_cases hin : i < n
    · have := hp i hin
      rw [List.getD_eq_getElem?_getD] at this ⊢
      rw [List.getElem?_append_left (by omega)]
      exact this
    · obtain rfl : i = n := by omega
      rw [List.getD_eq_getElem?_getD, List.getElem?_append_right (by omega), hl, Nat.sub_self]
      exact ha

section
variable {H : Type} {enc : TypeId × Value → H} {P : Program} {w : World} {base : Nat} {held : Bool}
/-- A slice of such, opened. -/
theorem open_flat {t e : TypeId} {k : Nat} {fuel : Nat} {cs : List Value} {x : DataW H × List MemPlace} (ht : P.underlying t = some (.slice e)) (hF : Flat P e k) (hk0 : 0 < k) (hC : P.cellsOf e = k)
    (h : DataW.trod enc P w base (fun _ => true) held fuel t cs = some x) (hb : 8 ≤ P.bytesOf e) (hw : (x.1.weights P t).all (· ≤ reachBytes) = true) :
    ∃ (a : Option Addr) (n c : Nat), cs = [.slice a n c] ∧ n ≤ 17592186043904 ∧ (0 < n → ∃ b o, a = some ⟨b, o, none⟩ ∧ b < w.heap.size ∧
      ∀ i, i < n → ∃ zs : List Int, zs.length = k ∧ ∀ j, j < k → w.cell? ⟨b, o + i * k + j, none⟩ = some (.int .i64 (zs.getD j 0))) := by
  rcases open_slice ht h with ⟨rfl, rfl⟩ | ⟨a, len, cap, m, n, D, Pl, rfl, hbase, hle, hmax, hm, hx, hi⟩
  · exact ⟨none, 0, 0, rfl, by omega, fun h => absurd h (Nat.lt_irrefl 0)⟩
  · have hmc : m = cap := by rw [hm]; simp
    have hreach : cap * 8 ≤ 140737488351232 := by
      rw [hx] at hw
      simp only [DataW.weights, ht, List.all_cons, Bool.and_eq_true, decide_eq_true_eq, List.length_map, List.length_range] at hw
      have h1 := hw.1
      have h2 : (len + (m - len)) * 8 ≤ (len + (m - len)) * P.bytesOf e := Nat.mul_le_mul_left _ hb
      have h3 : reachBytes = 140737488351232 := rfl
      rw [hmc] at h1 h2
      omega
    have cellAt : ∀ i, i < len → ∃ zs : List Int, zs.length = k ∧ ∀ j, j < k → w.cell? (a.add (i * k + j)) = some (.int .i64 (zs.getD j 0)) := by
      intro i hil
      obtain ⟨cs', hc, ht'⟩ := hi i (by omega)
      rw [hC] at hc
      obtain ⟨zs, l, q, -⟩ := hF ht'
      obtain ⟨_, hcl, hat⟩ := World.cells?_some hc
      refine ⟨zs, l, fun j hj => ?_⟩
      rw [← Go.Deep.add_add, hat j hj, q]
      simp [List.getD, l, hj]
    refine ⟨some a, len, cap, rfl, by omega, fun hp => ?_⟩
    obtain ⟨b, off, spot⟩ := a
    obtain ⟨g0, -, hg0⟩ := cellAt 0 hp
    have h0 := hg0 0 hk0
    have hspot : spot = none := by simpa [Addr.add] using World.cell?_spot h0
    subst hspot
    refine ⟨b, off, rfl, by simpa [Addr.add] using World.block_lt_of_cell? _ _ h0, fun i hi' => ?_⟩
    obtain ⟨zs, l, hg⟩ := cellAt i hi'
    refine ⟨zs, l, fun j hj => ?_⟩
    have := hg j hj
    rw [Go.WideShapes.add_plain] at this
    rw [Nat.add_assoc]
    exact this
theorem open_sl1 {t e : TypeId} {fuel : Nat} {cs : List Value} {x : DataW H × List MemPlace} (ht : P.underlying t = some (.slice e)) (hF : Flat P e 1) (hC : P.cellsOf e = 1) (h : DataW.trod enc P w base (fun _ => true) held fuel t cs = some x) (hb : 8 ≤ P.bytesOf e) (hw : (x.1.weights P t).all (· ≤ reachBytes) = true) :
    ∃ (a : Option Addr) (n c : Nat) (ms : List Int), cs = [.slice a n c] ∧ n ≤ 17592186043904 ∧ Sl1 w a n ms := by
  obtain ⟨a, n, c, rfl, hn, hat⟩ := open_flat ht hF (by decide) hC h hb hw
  obtain ⟨ms, hl, hms⟩ := exists_list (0 : Int) (fun i (m : Int) => ∀ b o, a = some ⟨b, o, none⟩ → w.cell? ⟨b, o + i, none⟩ = some (.int .i64 m)) n fun i hi => by
    obtain ⟨b, o, rfl, -, hc⟩ := hat (by omega)
    obtain ⟨zs, -, hg⟩ := hc i hi
    refine ⟨zs.getD 0 0, fun b' o' e => ?_⟩
    injection e with e
    injection e with e1 e2
    subst e1 e2
    simpa using hg 0 (by decide)
  refine ⟨a, n, c, ms, rfl, hn, hl, fun hp => ?_⟩
  obtain ⟨b, o, e, hlt, -⟩ := hat hp
  exact ⟨b, o, e, hlt, fun i hi => hms i hi b o e⟩
theorem open_sl2 {t e : TypeId} {fuel : Nat} {cs : List Value} {x : DataW H × List MemPlace} (ht : P.underlying t = some (.slice e)) (hF : Flat P e 2) (hC : P.cellsOf e = 2) (h : DataW.trod enc P w base (fun _ => true) held fuel t cs = some x) (hb : 8 ≤ P.bytesOf e) (hw : (x.1.weights P t).all (· ≤ reachBytes) = true) :
    ∃ (a : Option Addr) (n c : Nat) (ms : List T2), cs = [.slice a n c] ∧ n ≤ 17592186043904 ∧ Sl2 w a n ms := by
  obtain ⟨a, n, c, rfl, hn, hat⟩ := open_flat ht hF (by decide) hC h hb hw
  obtain ⟨ms, hl, hms⟩ := exists_list (0, 0) (fun i (m : T2) => ∀ b o, a = some ⟨b, o, none⟩ → w.cell? ⟨b, o + i * 2, none⟩ = some (.int .i64 m.1) ∧ w.cell? ⟨b, o + i * 2 + 1, none⟩ = some (.int .i64 m.2)) n fun i hi => by
    obtain ⟨b, o, rfl, -, hc⟩ := hat (by omega)
    obtain ⟨zs, -, hg⟩ := hc i hi
    refine ⟨(zs.getD 0 0, zs.getD 1 0), fun b' o' e => ?_⟩
    injection e with e
    injection e with e1 e2
    subst e1 e2
    exact ⟨hg 0 (by decide), hg 1 (by decide)⟩
  refine ⟨a, n, c, ms, rfl, hn, hl, fun hp => ?_⟩
  obtain ⟨b, o, e, hlt, -⟩ := hat hp
  exact ⟨b, o, e, hlt, fun i hi => hms i hi b o e⟩
theorem open_sl3 {t e : TypeId} {fuel : Nat} {cs : List Value} {x : DataW H × List MemPlace} (ht : P.underlying t = some (.slice e)) (hF : Flat P e 3) (hC : P.cellsOf e = 3) (h : DataW.trod enc P w base (fun _ => true) held fuel t cs = some x) (hb : 8 ≤ P.bytesOf e) (hw : (x.1.weights P t).all (· ≤ reachBytes) = true) :
    ∃ (a : Option Addr) (n c : Nat) (ms : List T3), cs = [.slice a n c] ∧ n ≤ 17592186043904 ∧ Sl3 w a n ms := by
  obtain ⟨a, n, c, rfl, hn, hat⟩ := open_flat ht hF (by decide) hC h hb hw
  obtain ⟨ms, hl, hms⟩ := exists_list (0, 0, 0) (fun i (m : T3) => ∀ b o, a = some ⟨b, o, none⟩ → w.cell? ⟨b, o + i * 3, none⟩ = some (.int .i64 m.1) ∧ w.cell? ⟨b, o + i * 3 + 1, none⟩ = some (.int .i64 m.2.1) ∧ w.cell? ⟨b, o + i * 3 + 2, none⟩ = some (.int .i64 m.2.2)) n fun i hi => by
    obtain ⟨b, o, rfl, -, hc⟩ := hat (by omega)
    obtain ⟨zs, -, hg⟩ := hc i hi
    refine ⟨(zs.getD 0 0, zs.getD 1 0, zs.getD 2 0), fun b' o' e => ?_⟩
    injection e with e
    injection e with e1 e2
    subst e1 e2
    exact ⟨hg 0 (by decide), hg 1 (by decide), hg 2 (by decide)⟩
  refine ⟨a, n, c, ms, rfl, hn, hl, fun hp => ?_⟩
  obtain ⟨b, o, e, hlt, -⟩ := hat hp
  exact ⟨b, o, e, hlt, fun i hi => hms i hi b o e⟩
theorem open_sl4 {t e : TypeId} {fuel : Nat} {cs : List Value} {x : DataW H × List MemPlace} (ht : P.underlying t = some (.slice e)) (hF : Flat P e 4) (hC : P.cellsOf e = 4) (h : DataW.trod enc P w base (fun _ => true) held fuel t cs = some x) (hb : 8 ≤ P.bytesOf e) (hw : (x.1.weights P t).all (· ≤ reachBytes) = true) :
    ∃ (a : Option Addr) (n c : Nat) (ms : List T4), cs = [.slice a n c] ∧ n ≤ 17592186043904 ∧ Sl4 w a n ms := by
  obtain ⟨a, n, c, rfl, hn, hat⟩ := open_flat ht hF (by decide) hC h hb hw
  obtain ⟨ms, hl, hms⟩ := exists_list (0, 0, 0, 0) (fun i (m : T4) => ∀ b o, a = some ⟨b, o, none⟩ → w.cell? ⟨b, o + i * 4, none⟩ = some (.int .i64 m.1) ∧ w.cell? ⟨b, o + i * 4 + 1, none⟩ = some (.int .i64 m.2.1) ∧ w.cell? ⟨b, o + i * 4 + 2, none⟩ = some (.int .i64 m.2.2.1) ∧ w.cell? ⟨b, o + i * 4 + 3, none⟩ = some (.int .i64 m.2.2.2)) n fun i hi => by
    obtain ⟨b, o, rfl, -, hc⟩ := hat (by omega)
    obtain ⟨zs, -, hg⟩ := hc i hi
    refine ⟨(zs.getD 0 0, zs.getD 1 0, zs.getD 2 0, zs.getD 3 0), fun b' o' e => ?_⟩
    injection e with e
    injection e with e1 e2
    subst e1 e2
    exact ⟨hg 0 (by decide), hg 1 (by decide), hg 2 (by decide), hg 3 (by decide)⟩
  refine ⟨a, n, c, ms, rfl, hn, hl, fun hp => ?_⟩
  obtain ⟨b, o, e, hlt, -⟩ := hat hp
  exact ⟨b, o, e, hlt, fun i hi => hms i hi b o e⟩
end
end Go.Proofs.Ytanjkhclhcnnaaa
/- Rules, tasks, climates and spans as arguments, opened. -/
namespace Go.Proofs.Ytanjkhclhcnnaaa
open Go.ChangeShapes Go.WideShapes Go.ChangeAt Go.RowKit Go.Deep

theorem flatInt : Flat Try.prog 3 1 := flat_int Try.underlying3
theorem flatSpan : Flat Try.prog 28 2 := flat_struct2 (f0 := ⟨"Lo", 3, 0, false, "", "", 0⟩) (f1 := ⟨"Hi", 3, 1, false, "", "", 8⟩) (k0 := 1) (k1 := 1) Try.underlying28 rfl rfl (by kernel_rfl) (by kernel_rfl) (by kernel_rfl) flatInt flatInt
theorem flatDay : Flat Try.prog 39 4 := flat_struct2 (f0 := ⟨"Temp", 28, 0, false, "", "", 0⟩) (f1 := ⟨"Damp", 28, 2, false, "", "", 16⟩) (k0 := 2) (k1 := 2) Try.underlying39 rfl rfl (by kernel_rfl) (by kernel_rfl) (by kernel_rfl) flatSpan flatSpan
theorem flatTest : Flat Try.prog 64 3 := flat_struct3 (f0 := ⟨"Day", 3, 0, false, "", "", 0⟩) (f1 := ⟨"Grade", 3, 1, false, "", "", 8⟩) (f2 := ⟨"Error", 3, 2, false, "", "", 16⟩) Try.underlying64 rfl rfl rfl (by kernel_rfl) (by kernel_rfl) (by kernel_rfl) (by kernel_rfl) flatInt flatInt flatInt
theorem flatPoint : Flat Try.prog 120 2 := flat_struct2 (f0 := ⟨"At", 3, 0, false, "", "", 0⟩) (f1 := ⟨"Factor", 3, 1, false, "", "", 8⟩) (k0 := 1) (k1 := 1) Try.underlying120 rfl rfl (by kernel_rfl) (by kernel_rfl) (by kernel_rfl) flatInt flatInt
theorem flatArr : Flat Try.prog 23 3 := flat_arr3 Try.underlying23 (by kernel_rfl) (by kernel_rfl) flatInt
theorem len1 {zs : List Int} (h : zs.length = 1) : ∃ a, zs = [a] := by match zs, h with | [a], _ => exact ⟨a, rfl⟩
theorem len2 {zs : List Int} (h : zs.length = 2) : ∃ a b, zs = [a, b] := by match zs, h with | [a, b], _ => exact ⟨a, b, rfl⟩
theorem len3 {zs : List Int} (h : zs.length = 3) : ∃ a b c, zs = [a, b, c] := by match zs, h with | [a, b, c], _ => exact ⟨a, b, c, rfl⟩
theorem len4 {zs : List Int} (h : zs.length = 4) : ∃ a b c d, zs = [a, b, c, d] := by match zs, h with | [a, b, c, d], _ => exact ⟨a, b, c, d, rfl⟩

section
variable {H : Type} {enc : TypeId × Value → H} {W : World} {base : Nat} {held : Bool}

set_option maxRecDepth 100000 in
theorem open_rule_cells {m : Nat} {cs : List Value} {x : DataW H × List MemPlace} (h : DataW.trod enc Try.prog W base (fun _ => true) held m 25 cs = some x) (hw : (x.1.weights Try.prog 25).all (· ≤ reachBytes) = true) :
    ∃ (r : RuA) (hs ws : List T2), cs = r.cs.toList ∧ RuR W r hs ws := by
  obtain ⟨xs, n, -, hx, hl, hlen, hf⟩ := DataW.trod_struct Try.underlying25 h
  have hl6 : xs.length = 6 := hlen
  obtain ⟨y0, y1, y2, y3, y4, y5, rfl⟩ : ∃ y0 y1 y2 y3 y4 y5, xs = [y0, y1, y2, y3, y4, y5] := by
    match xs, hl6 with
    | [y0, y1, y2, y3, y4, y5], _ => exact ⟨y0, y1, y2, y3, y4, y5, rfl⟩
  have c1 : Try.prog.cellsOf 3 = 1 := by kernel_rfl
  have c2 : Try.prog.cellsOf 22 = 1 := by kernel_rfl
  have c3 : Try.prog.cellsOf 23 = 3 := by kernel_rfl
  have k0 : DataW.trod enc Try.prog W base (fun _ => true) held n 22 ((cs.drop 0).take (Try.prog.cellsOf 22)) = some y0 := hf 0 ⟨"Heat", 22, 0, false, "", "", 0⟩ rfl
  have k1 : DataW.trod enc Try.prog W base (fun _ => true) held n 22 ((cs.drop 1).take (Try.prog.cellsOf 22)) = some y1 := hf 1 ⟨"Wet", 22, 1, false, "", "", 24⟩ rfl
  have k2 : DataW.trod enc Try.prog W base (fun _ => true) held n 3 ((cs.drop 2).take (Try.prog.cellsOf 3)) = some y2 := hf 2 ⟨"Own", 3, 2, false, "", "", 48⟩ rfl
  have k3 : DataW.trod enc Try.prog W base (fun _ => true) held n 3 ((cs.drop 3).take (Try.prog.cellsOf 3)) = some y3 := hf 3 ⟨"Feed", 3, 3, false, "", "", 56⟩ rfl
  have k4 : DataW.trod enc Try.prog W base (fun _ => true) held n 23 ((cs.drop 4).take (Try.prog.cellsOf 23)) = some y4 := hf 4 ⟨"Grades", 23, 4, false, "", "", 64⟩ rfl
  have k5 : DataW.trod enc Try.prog W base (fun _ => true) held n 3 ((cs.drop 7).take (Try.prog.cellsOf 3)) = some y5 := hf 5 ⟨"Lost", 3, 7, false, "", "", 88⟩ rfl
  rw [c2] at k0 k1
  rw [c1] at k2 k3 k5
  rw [c3] at k4
  rw [hx] at hw
  simp only [DataW.weights, Try.underlying25, DataW.weightsEach, List.map_cons, List.map_nil, List.all_append, Bool.and_eq_true] at hw
  obtain ⟨w0, w1, -⟩ := hw
  obtain ⟨ha, hn, hc, hs, e0, b0, r0⟩ := open_sl2 Try.underlying22 flatPoint (by kernel_rfl) k0 (of_decide_eq_true (by kernel_rfl)) w0
  obtain ⟨wa, wn, wc, ws, e1, b1, r1⟩ := open_sl2 Try.underlying22 flatPoint (by kernel_rfl) k1 (of_decide_eq_true (by kernel_rfl)) w1
  obtain ⟨z2, l2, e2, -⟩ := flatInt k2
  obtain ⟨z3, l3, e3, -⟩ := flatInt k3
  obtain ⟨z4, l4, e4, -⟩ := flatArr k4
  obtain ⟨z5, l5, e5, -⟩ := flatInt k5
  obtain ⟨own, rfl⟩ := len1 l2
  obtain ⟨feed, rfl⟩ := len1 l3
  obtain ⟨g0, g1, g2, rfl⟩ := len3 l4
  obtain ⟨lost, rfl⟩ := len1 l5
  rw [show Try.prog.cellsOf 25 = 8 by kernel_rfl] at hl
  obtain ⟨a0, a1, a2, a3, a4, a5, a6, a7, rfl⟩ : ∃ a0 a1 a2 a3 a4 a5 a6 a7, cs = [a0, a1, a2, a3, a4, a5, a6, a7] := by
    match cs, hl with
    | [a0, a1, a2, a3, a4, a5, a6, a7], _ => exact ⟨a0, a1, a2, a3, a4, a5, a6, a7, rfl⟩
  simp at e0 e1 e2 e3 e4 e5
  obtain ⟨e4, e6, e7⟩ := e4
  subst e0 e1 e2 e3 e4 e5 e6 e7
  exact ⟨⟨ha, hn, hc, wa, wn, wc, own, feed, g0, g1, g2, lost⟩, hs, ws, rfl, ⟨by simp only; omega, by simp only; omega, r0, r1⟩⟩
set_option maxRecDepth 100000 in
theorem open_rule {b0 : Nat} {v : Value} {d : DataW H} {p : List MemPlace} (hv : Value.okWide Try.prog W .any b0 25 v) (h : DataW.Trod enc Try.prog W base (fun _ => true) held 25 v d p) (hw : (d.weights Try.prog 25).all (· ≤ reachBytes) = true) :
    ∃ (r : RuA) (hs ws : List T2), v = .agg r.cs ∧ RuR W r hs ws := by
  obtain ⟨cs, rfl, hsz⟩ := okWide_struct Try.underlying25 hv
  obtain ⟨n, hn⟩ := h
  obtain ⟨r, hs, ws, e, hR⟩ := open_rule_cells hn hw
  refine ⟨r, hs, ws, ?_, hR⟩
  have e' : cs.toList = r.cs.toList := by simpa [Value.cells] using e
  rw [show cs = r.cs from Array.toList_inj.1 e']

set_option maxRecDepth 100000 in
theorem open_task {b0 : Nat} {v : Value} {d : DataW H} {p : List MemPlace} (hv : Value.okWide Try.prog W .any b0 31 v) (h : DataW.Trod enc Try.prog W base (fun _ => true) held 31 v d p) (hw : (d.weights Try.prog 31).all (· ≤ reachBytes) = true) :
    ∃ (t : TkA) (hs ws : List T2) (ds : List T4) (ts : List T3), v = .agg t.cs ∧ TkR W t hs ws ds ts := by
  obtain ⟨cs, rfl, hsz⟩ := okWide_struct Try.underlying31 hv
  obtain ⟨m, hm⟩ := h
  obtain ⟨xs, n, -, hx, hl, hlen, hf⟩ := DataW.trod_struct Try.underlying31 hm
  have hd : d = .agg (xs.map (·.1)) := congrArg Prod.fst hx
  have hl5 : xs.length = 5 := hlen
  obtain ⟨y0, y1, y2, y3, y4, rfl⟩ : ∃ y0 y1 y2 y3 y4, xs = [y0, y1, y2, y3, y4] := by
    match xs, hl5 with
    | [y0, y1, y2, y3, y4], _ => exact ⟨y0, y1, y2, y3, y4, rfl⟩
  have c0 : Try.prog.cellsOf 25 = 8 := by kernel_rfl
  have c1 : Try.prog.cellsOf 3 = 1 := by kernel_rfl
  have c2 : Try.prog.cellsOf 26 = 1 := by kernel_rfl
  have c3 : Try.prog.cellsOf 28 = 2 := by kernel_rfl
  have c4 : Try.prog.cellsOf 29 = 1 := by kernel_rfl
  have k0 : DataW.trod enc Try.prog W base (fun _ => true) held n 25 (((Value.agg cs).cells.toList.drop 0).take (Try.prog.cellsOf 25)) = some y0 := hf 0 ⟨"Rule", 25, 0, false, "", "", 0⟩ rfl
  have k1 : DataW.trod enc Try.prog W base (fun _ => true) held n 3 (((Value.agg cs).cells.toList.drop 8).take (Try.prog.cellsOf 3)) = some y1 := hf 1 ⟨"First", 3, 8, false, "", "", 96⟩ rfl
  have k2 : DataW.trod enc Try.prog W base (fun _ => true) held n 26 (((Value.agg cs).cells.toList.drop 9).take (Try.prog.cellsOf 26)) = some y2 := hf 2 ⟨"Days", 26, 9, false, "", "", 104⟩ rfl
  have k3 : DataW.trod enc Try.prog W base (fun _ => true) held n 28 (((Value.agg cs).cells.toList.drop 10).take (Try.prog.cellsOf 28)) = some y3 := hf 3 ⟨"Start", 28, 10, false, "", "", 128⟩ rfl
  have k4 : DataW.trod enc Try.prog W base (fun _ => true) held n 29 (((Value.agg cs).cells.toList.drop 12).take (Try.prog.cellsOf 29)) = some y4 := hf 4 ⟨"Tests", 29, 12, false, "", "", 144⟩ rfl
  rw [c0] at k0
  rw [c1] at k1
  rw [c2] at k2
  rw [c3] at k3
  rw [c4] at k4
  rw [hd] at hw
  simp only [DataW.weights, Try.underlying31, DataW.weightsEach, List.map_cons, List.map_nil, List.all_append, Bool.and_eq_true] at hw
  obtain ⟨w0, -, w2, -, w4, -⟩ := hw
  obtain ⟨r, hs, ws, e0, hR⟩ := open_rule_cells k0 w0
  obtain ⟨z1, l1, e1, -⟩ := flatInt k1
  obtain ⟨da, dn, dc, ds, e2, b2, r2⟩ := open_sl4 Try.underlying26 flatDay (by kernel_rfl) k2 (of_decide_eq_true (by kernel_rfl)) w2
  obtain ⟨z3, l3, e3, -⟩ := flatSpan k3
  obtain ⟨ta, tn, tc, ts, e4, b4, r4⟩ := open_sl3 Try.underlying29 flatTest (by kernel_rfl) k4 (of_decide_eq_true (by kernel_rfl)) w4
  obtain ⟨first, rfl⟩ := len1 l1
  obtain ⟨lo, hi, rfl⟩ := len2 l3
  rw [show Try.prog.cellsOf 31 = 13 by kernel_rfl] at hsz
  obtain ⟨l⟩ := cs
  obtain ⟨a0, a1, a2, a3, a4, a5, a6, a7, a8, a9, a10, a11, a12, rfl⟩ : ∃ a0 a1 a2 a3 a4 a5 a6 a7 a8 a9 a10 a11 a12, l = [a0, a1, a2, a3, a4, a5, a6, a7, a8, a9, a10, a11, a12] := by
    match l, hsz with
    | [a0, a1, a2, a3, a4, a5, a6, a7, a8, a9, a10, a11, a12], _ => exact ⟨a0, a1, a2, a3, a4, a5, a6, a7, a8, a9, a10, a11, a12, rfl⟩
  simp [Value.cells] at e0 e1 e2 e3 e4
  obtain ⟨f0, f1, f2, f3, f4, f5, f6, f7⟩ := e0
  obtain ⟨e3, e5⟩ := e3
  subst f0 f1 f2 f3 f4 f5 f6 f7 e1 e2 e3 e4 e5
  exact ⟨⟨r, first, da, dn, dc, lo, hi, ta, tn, tc⟩, hs, ws, ds, ts, rfl, ⟨hR, by simp only; omega, by simp only; omega, r2, r4⟩⟩
set_option maxRecDepth 100000 in
theorem open_day {b0 : Nat} {v : Value} {d : DataW H} {p : List MemPlace} (hv : Value.okWide Try.prog W .any b0 39 v) (h : DataW.Trod enc Try.prog W base (fun _ => true) held 39 v d p) :
    ∃ a b c e : Int, v = .agg #[.int .i64 a, .int .i64 b, .int .i64 c, .int .i64 e] := by
  obtain ⟨cs, rfl, -⟩ := okWide_struct Try.underlying39 hv
  obtain ⟨n, hn⟩ := h
  obtain ⟨zs, l, e, -⟩ := flatDay hn
  obtain ⟨a, b, c, f, rfl⟩ := len4 l
  refine ⟨a, b, c, f, ?_⟩
  have e' : cs.toList = [.int .i64 a, .int .i64 b, .int .i64 c, .int .i64 f] := by simpa [Value.cells] using e
  rw [show cs = #[.int .i64 a, .int .i64 b, .int .i64 c, .int .i64 f] from Array.toList_inj.1 e']
set_option maxRecDepth 100000 in
theorem open_span {b0 : Nat} {v : Value} {d : DataW H} {p : List MemPlace} (hv : Value.okWide Try.prog W .any b0 28 v) (h : DataW.Trod enc Try.prog W base (fun _ => true) held 28 v d p) :
    ∃ a b : Int, v = .agg #[.int .i64 a, .int .i64 b] := by
  obtain ⟨cs, rfl, -⟩ := okWide_struct Try.underlying28 hv
  obtain ⟨n, hn⟩ := h
  obtain ⟨zs, l, e, -⟩ := flatSpan hn
  obtain ⟨a, b, rfl⟩ := len2 l
  refine ⟨a, b, ?_⟩
  have e' : cs.toList = [.int .i64 a, .int .i64 b] := by simpa [Value.cells] using e
  rw [show cs = #[.int .i64 a, .int .i64 b] from Array.toList_inj.1 e']
end
end Go.Proofs.Ytanjkhclhcnnaaa

/- The law DecayMoved. -/
import Derived.Test.YtijkhpaiiieanaaHY
namespace Go.Proofs.Ytijkhpaiiieanaa
open Go Go.RowKit Go.Shelf

theorem moved_same (t : TkA) (hs ws : List T2) (L : List T4) (da : Option Addr) (dc : Nat) : lostP (t.moved_ da dc) (levT (t.moved_ da dc) hs ws L []) = lostP (t.moved_ none 0) (levT (t.moved_ none 0) hs ws L []) := by
  unfold lostP levT reachT morT
  rfl
def need10d : Nat → Nat := fun i => [0, 0, 0, 0, 0, 0, 0, 0, 0, 0, 0, 0, 0, 0, 0, 0, 0, 0, 0, 0, 0, 0, 0, 0, 0, 0, 0, 0, 0, 1, 1, 2, 3, 3].getD i 0
def till10d : Nat → Nat := fun i => [3, 3, 2, 3, 3, 3, 3, 3, 3, 2, 3, 3, 3, 3, 0, 3, 3, 2, 3, 3, 3, 3, 3, 3, 2, 3, 3, 3, 3, 1, 3, 2, 3, 3].getD i 0
def eff10d : Nat → Bool := fun i => [false, false, false, false, false, false, false, false, false, false, false, false, false, false, true, false, false, false, false, false, false, false, false, false, false, false, false, false, false, true, false, true, false, true].getD i false

def V10d (g h : Nat) (s0 s1 s2 s3 b0 b1 b2 b3 m0 m1 m2 m3 : Int) (outs : Nat → Value) : Nat → Value
  | 66 => .pointer (some ⟨g, 0, none⟩)
  | 67 => .pointer (some ⟨g, 0, none⟩)
  | 68 => .int .i64 s0
  | 69 => .pointer (some ⟨h, 0, none⟩)
  | 70 => .pointer (some ⟨h, 0, none⟩)
  | 71 => .int .i64 b0
  | 72 => .int .i64 m0
  | 73 => .pointer (some ⟨g, 0, none⟩)
  | 74 => .pointer (some ⟨g, 1, none⟩)
  | 75 => .int .i64 s1
  | 76 => .pointer (some ⟨h, 0, none⟩)
  | 77 => .pointer (some ⟨h, 1, none⟩)
  | 78 => .int .i64 b1
  | 79 => .int .i64 m1
  | 80 => outs 0
  | 81 => .pointer (some ⟨g, 2, none⟩)
  | 82 => .pointer (some ⟨g, 2, none⟩)
  | 83 => .int .i64 s2
  | 84 => .pointer (some ⟨h, 2, none⟩)
  | 85 => .pointer (some ⟨h, 2, none⟩)
  | 86 => .int .i64 b2
  | 87 => .int .i64 m2
  | 88 => .pointer (some ⟨g, 2, none⟩)
  | 89 => .pointer (some ⟨g, 3, none⟩)
  | 90 => .int .i64 s3
  | 91 => .pointer (some ⟨h, 2, none⟩)
  | 92 => .pointer (some ⟨h, 3, none⟩)
  | 93 => .int .i64 b3
  | 94 => .int .i64 m3
  | 95 => outs 1
  | 96 => .pointer (some ⟨g, 0, none⟩)
  | 97 => .pointer (some ⟨g, 2, none⟩)
  | _ => undef

structure I10d (g h : Nat) (a0 a1 a2 a3 b0 b1 b2 b3 m0 m1 m2 m3 : Int) (w2 : World) (j : Nat) (outs : Nat → Value) (W : World) : Prop where
  b : Below w2.heap.size w2 W
  D : j ≤ 2 → Ob W g 45 #[.int .i64 a0, .int .i64 a1, .int .i64 a2, .int .i64 a3]
  X : Ob W h 45 #[.int .i64 b0, .int .i64 b1, .int .i64 b2, .int .i64 b3]
  o0 : 1 ≤ j → outs 0 = .agg #[.int .i64 m0, .int .i64 m1]
  o1 : 2 ≤ j → outs 1 = .agg #[.int .i64 m2, .int .i64 m3]
  s : j = 3 → Ob W g 45 #[.int .i64 m0, .int .i64 m1, .int .i64 a2, .int .i64 a3]
  e : j = 4 → Ob W g 45 #[.int .i64 m0, .int .i64 m1, .int .i64 m2, .int .i64 m3]

set_option maxRecDepth 100000 in
set_option maxHeartbeats 4000000 in
theorem movedLaw_bad (t : TkA) (hs ws : List T2) (ds : List T4) (ts : List T3) (x a b : Int) (w : World) (hR : TkR w t hs ws ds ts) (he : (taskS t.bare_ hs ws ds []).2.2 ≠ 0) :
    Calls Try.prog 4 #[.agg t.cs, .int .i64 x, .agg #[.int .u8 a, .int .u8 b]] w fun e w' => e = .returned (.bool true) ∧ Below w.heap.size w w' := by
  obtain ⟨w0, hw0⟩ : ∃ w0, (w.alloc (.cells t.cs 31)).alloc (.cells #[.int .u8 a, .int .u8 b] 41) = w0 := ⟨_, rfl⟩
  have hb0 : Below w.heap.size w w0 := by rw [← hw0]; exact B_alloc (B_alloc (Below.refl _ _) _) _
  have o0 : Ob w0 w.heap.size 31 t.cs := by rw [← hw0]; exact (Ob.new _ _ _).alloc _
  have oY : Ob w0 (w.heap.size + 1) 41 #[.int .u8 a, .int .u8 b] := by
    rw [← hw0]
    have h := Ob.new (w.alloc (.cells t.cs 31)) #[.int .u8 a, .int .u8 b] 41
    simpa using h
  obtain ⟨w1, hw1⟩ : ∃ w1, w0.setCell ⟨w.heap.size, 12, none⟩ (.slice none 0 0) = w1 := ⟨_, rfl⟩
  have hb1 : Below w.heap.size w w1 := by rw [← hw1]; exact hb0.setCell (Nat.le_refl _) _
  have o1 : Ob w1 w.heap.size 31 #[(.slice t.r.ha t.r.hn t.r.hc), (.slice t.r.wa t.r.wn t.r.wc), (.int .i64 t.r.own), (.int .i64 t.r.feed), (.int .i64 t.r.g0), (.int .i64 t.r.g1), (.int .i64 t.r.g2), (.int .i64 t.r.lost), (.int .i64 t.first), (.slice t.da t.dn t.dc), (.int .i64 t.lo), (.int .i64 t.hi), (.slice none 0 0)] := by rw [← hw1]; simpa using o0.set 12 (.slice none 0 0)
  replace oY : Ob w1 (w.heap.size + 1) 41 #[.int .u8 a, .int .u8 b] := by rw [← hw1]; exact oY.other (by simp only; omega) _
  have hz := o0.frozen 12
  have H4 := fun W (h : Below w.heap.size w W) => refCheckTask_any t.bare_ hs ws ds [] W (hR.bare.below h)
  rw [show tri (taskS t.bare_ hs ws ds []) = .tuple #[.int .i64 (taskS t.bare_ hs ws ds []).1, .int .i64 (taskS t.bare_ hs ws ds []).2.1, .int .i64 (taskS t.bare_ hs ws ds []).2.2] from rfl] at H4
  have HA := Lib.hid awake_any
  generalize (taskS t.bare_ hs ws ds []).1 = c1 at H4
  generalize (taskS t.bare_ hs ws ds []).2.1 = c2 at H4
  generalize (taskS t.bare_ hs ws ds []).2.2 = c3 at H4 he
  have G4 := Lib.hid (show ∀ W, Below w.heap.size w W → Calls Try.prog 9 #[.agg #[(.slice t.r.ha t.r.hn t.r.hc), (.slice t.r.wa t.r.wn t.r.wc), (.int .i64 t.r.own), (.int .i64 t.r.feed), (.int .i64 t.r.g0), (.int .i64 t.r.g1), (.int .i64 t.r.g2), (.int .i64 t.r.lost), (.int .i64 t.first), (.slice t.da t.dn t.dc), (.int .i64 t.lo), (.int .i64 t.hi), (.slice none 0 0)]] W fun e w' => e = .returned (.tuple #[.int .i64 c1, .int .i64 c2, .int .i64 c3]) ∧ Below W.heap.size W w' from H4)
  have hq : (c3 != 0) = true := by simpa using he
  obtain ⟨q0, q1, q2, q3, q4, q5, q6, q7, q8, q9, q10, q11, q12⟩ := o0.thirteen
  have W0 := Lib.hid hw0
  have W1 := Lib.hid hw1
  have B1 := Lib.hid hb1
  have O1 := Lib.hid (And.intro o1 oY)
  clear hR he H4 hw0 hw1 hb0 hb1 o0 o1 oY
  go_enter Try.func4, Try.ntmps4
  go_upto_region 1 with fail
  rw [W0.out]
  go_upto_region 2 with fail
  rw [W1.out]
  clear q0 q1 q2 q3 q4 q5 q6 q7 q8 q9 q10 q11 q12 hz
  obtain ⟨q0, q1, q2, q3, q4, q5, q6, q7, q8, q9, q10, q11, q12⟩ := O1.out.1.thirteen
  go_wp2_with fail
  refine (G4.out w1 B1.out).mono ?_
  rintro e w2 ⟨rfl, hb2⟩
  have B2 := Lib.hid (B_trans B1.out hb2)
  clear q0 q1 q2 q3 q4 q5 q6 q7 q8 q9 q10 q11 q12 hb2
  go_wp2_with fail
  refine (HA.out _).mono ?_
  rintro e w3 ⟨rfl, hb3⟩
  have B3 := Lib.hid (B_trans B2.out hb3)
  clear hb3
  go_wp2
  refine bodyPost_ret (v := .bool true) (by simp [results, Try.results4, go_sem]) rfl ⟨rfl, B3.out⟩

set_option maxRecDepth 100000 in
set_option maxHeartbeats 4000000 in
theorem movedLaw_out (t : TkA) (hs ws : List T2) (ds : List T4) (ts : List T3) (x a b : Int) (w : World) (hR : TkR w t hs ws ds ts) (he : (taskS t.bare_ hs ws ds []).2.2 = 0) (hx : x < t.first ∨ t.first + (t.dn : Int) ≤ x) :
    Calls Try.prog 4 #[.agg t.cs, .int .i64 x, .agg #[.int .u8 a, .int .u8 b]] w fun e w' => e = .returned (.bool true) ∧ Below w.heap.size w w' := by
  obtain ⟨w0, hw0⟩ : ∃ w0, (w.alloc (.cells t.cs 31)).alloc (.cells #[.int .u8 a, .int .u8 b] 41) = w0 := ⟨_, rfl⟩
  have hb0 : Below w.heap.size w w0 := by rw [← hw0]; exact B_alloc (B_alloc (Below.refl _ _) _) _
  have o0 : Ob w0 w.heap.size 31 t.cs := by rw [← hw0]; exact (Ob.new _ _ _).alloc _
  have oY : Ob w0 (w.heap.size + 1) 41 #[.int .u8 a, .int .u8 b] := by
    rw [← hw0]
    have h := Ob.new (w.alloc (.cells t.cs 31)) #[.int .u8 a, .int .u8 b] 41
    simpa using h
  obtain ⟨w1, hw1⟩ : ∃ w1, w0.setCell ⟨w.heap.size, 12, none⟩ (.slice none 0 0) = w1 := ⟨_, rfl⟩
  have hb1 : Below w.heap.size w w1 := by rw [← hw1]; exact hb0.setCell (Nat.le_refl _) _
  have o1 : Ob w1 w.heap.size 31 #[(.slice t.r.ha t.r.hn t.r.hc), (.slice t.r.wa t.r.wn t.r.wc), (.int .i64 t.r.own), (.int .i64 t.r.feed), (.int .i64 t.r.g0), (.int .i64 t.r.g1), (.int .i64 t.r.g2), (.int .i64 t.r.lost), (.int .i64 t.first), (.slice t.da t.dn t.dc), (.int .i64 t.lo), (.int .i64 t.hi), (.slice none 0 0)] := by rw [← hw1]; simpa using o0.set 12 (.slice none 0 0)
  replace oY : Ob w1 (w.heap.size + 1) 41 #[.int .u8 a, .int .u8 b] := by rw [← hw1]; exact oY.other (by simp only; omega) _
  have hz := o0.frozen 12
  have H4 := fun W (h : Below w.heap.size w W) => refCheckTask_any t.bare_ hs ws ds [] W (hR.bare.below h)
  rw [show tri (taskS t.bare_ hs ws ds []) = .tuple #[.int .i64 (taskS t.bare_ hs ws ds []).1, .int .i64 (taskS t.bare_ hs ws ds []).2.1, .int .i64 (taskS t.bare_ hs ws ds []).2.2] from rfl] at H4
  have ok : TaskOK t.bare_ hs ws ds [] := TaskOK.of he
  have hdn : t.dn ≤ 400 := ok.dn
  have hf1 : 0 ≤ t.first := ok.first.1
  have hf2 : t.first ≤ 80000 - (t.dn : Int) := ok.first.2
  have u1 : IntKind.i64.wrap (t.first + (t.dn : Int)) = t.first + (t.dn : Int) := IntWalk.i64_in _ (by omega)
  have HA := Lib.hid awake_any
  rw [he] at H4
  generalize (taskS t.bare_ hs ws ds []).1 = c1 at H4
  generalize (taskS t.bare_ hs ws ds []).2.1 = c2 at H4
  have G4 := Lib.hid (show ∀ W, Below w.heap.size w W → Calls Try.prog 9 #[.agg #[(.slice t.r.ha t.r.hn t.r.hc), (.slice t.r.wa t.r.wn t.r.wc), (.int .i64 t.r.own), (.int .i64 t.r.feed), (.int .i64 t.r.g0), (.int .i64 t.r.g1), (.int .i64 t.r.g2), (.int .i64 t.r.lost), (.int .i64 t.first), (.slice t.da t.dn t.dc), (.int .i64 t.lo), (.int .i64 t.hi), (.slice none 0 0)]] W fun e w' => e = .returned (.tuple #[.int .i64 c1, .int .i64 c2, .int .i64 0]) ∧ Below W.heap.size W w' from H4)
  obtain ⟨q0, q1, q2, q3, q4, q5, q6, q7, q8, q9, q10, q11, q12⟩ := o0.thirteen
  have W0 := Lib.hid hw0
  have W1 := Lib.hid hw1
  have B1 := Lib.hid hb1
  have O1 := Lib.hid (And.intro o1 oY)
  clear hR he H4 hw0 hw1 hb0 hb1 o0 o1 oY ok
  go_enter Try.func4, Try.ntmps4
  go_upto_region 1 with fail
  rw [W0.out]
  go_upto_region 2 with fail
  rw [W1.out]
  clear q0 q1 q2 q3 q4 q5 q6 q7 q8 q9 q10 q11 q12 hz
  obtain ⟨q0, q1, q2, q3, q4, q5, q6, q7, q8, q9, q10, q11, q12⟩ := O1.out.1.thirteen
  go_wp2_with fail
  refine (G4.out w1 B1.out).mono ?_
  rintro e w2 ⟨rfl, hb2⟩
  have B2 := Lib.hid (B_trans B1.out hb2)
  have O2 := Lib.hid (O1.out.1.below hb2)
  clear q0 q1 q2 q3 q4 q5 q6 q7 q8 q9 q10 q11 q12 hb2
  obtain ⟨q0, q1, q2, q3, q4, q5, q6, q7, q8, q9, q10, q11, q12⟩ := O2.out.thirteen
  by_cases h1 : x < t.first
  · clear hx
    go_wp2_with fail
    refine (HA.out _).mono ?_
    rintro e w3 ⟨rfl, hb3⟩
    have B3 := Lib.hid (B_trans B2.out hb3)
    clear hb3
    go_wp2
    refine bodyPost_ret (v := .bool true) (by simp [results, Try.results4, go_sem]) rfl ⟨rfl, B3.out⟩
  · have h2 : t.first + (t.dn : Int) ≤ x := by omega
    clear hx
    go_wp2_with fail
    refine (HA.out _).mono ?_
    rintro e w3 ⟨rfl, hb3⟩
    have B3 := Lib.hid (B_trans B2.out hb3)
    clear hb3
    go_wp2
    refine bodyPost_ret (v := .bool true) (by simp [results, Try.results4, go_sem]) rfl ⟨rfl, B3.out⟩

set_option maxRecDepth 100000 in
set_option maxHeartbeats 16000000 in
theorem movedLaw_any (t : TkA) (hs ws : List T2) (ds : List T4) (ts : List T3) (x a b : Int) (w : World) (hR : TkR w t hs ws ds ts) (hcap : t.dn ≤ t.dc) (he : (taskS t.bare_ hs ws ds []).2.2 = 0) (hx : t.first ≤ x ∧ x < t.first + (t.dn : Int)) (ha : 0 ≤ a ∧ a ≤ 255) (hb : 0 ≤ b ∧ b ≤ 255) :
    Calls Try.prog 4 #[.agg t.cs, .int .i64 x, .agg #[.int .u8 a, .int .u8 b]] w fun e w' => e = .returned (.bool true) ∧ Below w.heap.size w w' := by
  obtain ⟨w0, hw0⟩ : ∃ w0, (w.alloc (.cells t.cs 31)).alloc (.cells #[.int .u8 a, .int .u8 b] 41) = w0 := ⟨_, rfl⟩
  have hb0 : Below w.heap.size w w0 := by rw [← hw0]; exact B_alloc (B_alloc (Below.refl _ _) _) _
  have o0 : Ob w0 w.heap.size 31 t.cs := by rw [← hw0]; exact (Ob.new _ _ _).alloc _
  have oY : Ob w0 (w.heap.size + 1) 41 #[.int .u8 a, .int .u8 b] := by
    rw [← hw0]
    have h := Ob.new (w.alloc (.cells t.cs 31)) #[.int .u8 a, .int .u8 b] 41
    simpa using h
  obtain ⟨w1, hw1⟩ : ∃ w1, w0.setCell ⟨w.heap.size, 12, none⟩ (.slice none 0 0) = w1 := ⟨_, rfl⟩
  have hb1 : Below w.heap.size w w1 := by rw [← hw1]; exact hb0.setCell (Nat.le_refl _) _
  have o1 : Ob w1 w.heap.size 31 #[(.slice t.r.ha t.r.hn t.r.hc), (.slice t.r.wa t.r.wn t.r.wc), (.int .i64 t.r.own), (.int .i64 t.r.feed), (.int .i64 t.r.g0), (.int .i64 t.r.g1), (.int .i64 t.r.g2), (.int .i64 t.r.lost), (.int .i64 t.first), (.slice t.da t.dn t.dc), (.int .i64 t.lo), (.int .i64 t.hi), (.slice none 0 0)] := by rw [← hw1]; simpa using o0.set 12 (.slice none 0 0)
  replace oY : Ob w1 (w.heap.size + 1) 41 #[.int .u8 a, .int .u8 b] := by rw [← hw1]; exact oY.other (by simp only; omega) _
  have hz := o0.frozen 12
  have H4 := fun W (h : Below w.heap.size w W) => refCheckTask_any t.bare_ hs ws ds [] W (hR.bare.below h)
  rw [show tri (taskS t.bare_ hs ws ds []) = .tuple #[.int .i64 (taskS t.bare_ hs ws ds []).1, .int .i64 (taskS t.bare_ hs ws ds []).2.1, .int .i64 (taskS t.bare_ hs ws ds []).2.2] from rfl] at H4
  have ok : TaskOK t.bare_ hs ws ds [] := TaskOK.of he
  have hdl : ds.length = t.dn := hR.d.len
  have hdn : t.dn ≤ 400 := ok.dn
  have hf1 : 0 ≤ t.first := ok.first.1
  have hf2 : t.first ≤ 80000 - (t.dn : Int) := ok.first.2
  have hdy : ∀ i, i < t.dn → dayE (ds.getD i (0, 0, 0, 0)) = 0 := fun i hi => firstE_all.1 ok.days i hi
  obtain ⟨k, hxk⟩ : ∃ k : Nat, x = t.first + (k : Int) := ⟨(x - t.first).toNat, by omega⟩
  have hk : k < t.dn := by omega
  have u0 : IntKind.i64.wrap (x - t.first) = (k : Int) := by rw [show x - t.first = (k : Int) by omega]; exact IntWalk.i64_in _ (by omega)
  have u1 : IntKind.i64.wrap (t.first + (t.dn : Int)) = t.first + (t.dn : Int) := IntWalk.i64_in _ (by omega)
  have f1 : ¬ x < t.first := by omega
  have f2 : ¬ t.first + (t.dn : Int) ≤ x := by omega
  have a1 : (0 : Int) ≤ k := by omega
  have a2 : (k : Int) < t.dn := by omega
  have hE : Hid (dayE (leastD ds k (t.dn - k)) = 0) := leastD_ok hdy hk _ (by omega)
  have hLo : dayE (lowerF (leastD ds k (t.dn - k)) a b) = 0 := lower_ok hE.out ha.1 hb.1
  have hLate : Hid (lateB (lostP (t.moved_ none 0) (levT (t.moved_ none 0) hs ws (movedL ds k t.dn (lowerF (leastD ds k (t.dn - k)) a b)) [])).1 (lostP t.bare_ (levT t.bare_ hs ws ds [])).1 = true ∧ lateB (lostP (t.moved_ none 0) (levT (t.moved_ none 0) hs ws (movedL ds k t.dn (lowerF (leastD ds k (t.dn - k)) a b)) [])).2 (lostP t.bare_ (levT t.bare_ hs ws ds [])).2 = true) :=
    moved_late ok rfl hdl (Nat.le_of_lt hk) hLo (fun i h1 h2 => (lower_le hE.out ha.1 hb.1).trans (by have h := leastD_le (ds := ds) (k := k) (t.dn - k) (i - k) (by have h2' : i < t.dn := h2; omega); rw [show k + (i - k) = i by omega] at h; exact h)) none 0
  have HLow' := fun W => lower_any (leastD ds k (t.dn - k)) a b W ha hb hE.out
  have HMv' := fun W (h : Below w.heap.size w W) (l0 l1 l2 l3 : Int) (hl : lowerF (leastD ds k (t.dn - k)) a b = (l0, l1, l2, l3)) => moved_any t hs ws ds x k l0 l1 l2 l3 W (hR.bare.below h) hcap he hk hxk (by rw [← hl]; exact hLo)
  have H3 := fun W (h : Below w.heap.size w W) => lost_full t.bare_ hs ws ds [] W (hR.bare.below h) he
  obtain ⟨lp, hlp⟩ : ∃ lp, lostP t.bare_ (levT t.bare_ hs ws ds []) = lp := ⟨_, rfl⟩
  rw [hlp] at H3 hLate
  have HA := Lib.hid awake_any
  rw [he] at H4
  generalize (taskS t.bare_ hs ws ds []).1 = c1 at H4
  generalize (taskS t.bare_ hs ws ds []).2.1 = c2 at H4
  obtain ⟨db, dO, hda, hdb, hdd⟩ := hR.d.at_ (show 0 < t.dn by omega)
  have G4' := show ∀ W, Below w.heap.size w W → Calls Try.prog 9 #[.agg #[(.slice t.r.ha t.r.hn t.r.hc), (.slice t.r.wa t.r.wn t.r.wc), (.int .i64 t.r.own), (.int .i64 t.r.feed), (.int .i64 t.r.g0), (.int .i64 t.r.g1), (.int .i64 t.r.g2), (.int .i64 t.r.lost), (.int .i64 t.first), (.slice t.da t.dn t.dc), (.int .i64 t.lo), (.int .i64 t.hi), (.slice none 0 0)]] W fun e w' => e = .returned (.tuple #[.int .i64 c1, .int .i64 c2, .int .i64 0]) ∧ Below W.heap.size W w' from H4
  have G3' := show ∀ W, Below w.heap.size w W → Calls Try.prog 11 #[.agg #[(.slice t.r.ha t.r.hn t.r.hc), (.slice t.r.wa t.r.wn t.r.wc), (.int .i64 t.r.own), (.int .i64 t.r.feed), (.int .i64 t.r.g0), (.int .i64 t.r.g1), (.int .i64 t.r.g2), (.int .i64 t.r.lost), (.int .i64 t.first), (.slice t.da t.dn t.dc), (.int .i64 t.lo), (.int .i64 t.hi), (.slice none 0 0)]] W fun e w' => e = .returned (.tuple #[.agg #[.int .i64 lp.1, .int .i64 lp.2], .int .i64 0]) ∧ Below W.heap.size W w' from H3
  rw [hda] at G4' G3' o1
  have G4 := Lib.hid G4'
  have G3 := Lib.hid G3'
  have HSp := Lib.hid (fun x y W' => lawSpan_any x y W')
  have HDY := Lib.hid hdy
  have HDD := Lib.hid hdd
  have HDB := Lib.hid hdb
  have HDA := Lib.hid hda
  have HLw := Lib.hid HLow'
  have HMv := Lib.hid HMv'
  have HLT := Lib.hid hLate
  obtain ⟨q0, q1, q2, q3, q4, q5, q6, q7, q8, q9, q10, q11, q12⟩ := o0.thirteen
  have W0 := Lib.hid hw0
  have W1 := Lib.hid hw1
  have B1 := Lib.hid hb1
  have O1 := Lib.hid (And.intro o1 oY)
  clear hR he H4 H3 hw0 hw1 hb0 hb1 o0 o1 oY ok hdy hx hxk hE hLo hLate hlp G4' G3' HLow' HMv' hda hdd hdb hcap
  go_enter Try.func4, Try.ntmps4
  go_upto_region 1 with fail
  rw [W0.out]
  go_upto_region 2 with fail
  rw [W1.out]
  clear q0 q1 q2 q3 q4 q5 q6 q7 q8 q9 q10 q11 q12 hz
  obtain ⟨q0, q1, q2, q3, q4, q5, q6, q7, q8, q9, q10, q11, q12⟩ := O1.out.1.thirteen
  go_wp2_with fail
  refine (G4.out w1 B1.out).mono ?_
  rintro e w2 ⟨rfl, hb2⟩
  have B2 := Lib.hid (B_trans B1.out hb2)
  have O2 := Lib.hid (And.intro (O1.out.1.below hb2) (O1.out.2.below hb2))
  clear q0 q1 q2 q3 q4 q5 q6 q7 q8 q9 q10 q11 q12 hb2
  obtain ⟨q0, q1, q2, q3, q4, q5, q6, q7, q8, q9, q10, q11, q12⟩ := O2.out.1.thirteen
  have HDC := Lib.hid (fun (W' : World) (hh : Below w2.heap.size w2 W') i (hi : i < t.dn) => (show W'.cell? ⟨db, dO + i * 4, none⟩ = some (.int .i64 (ds.getD i (0, 0, 0, 0)).1) ∧ W'.cell? ⟨db, dO + i * 4 + 1, none⟩ = some (.int .i64 (ds.getD i (0, 0, 0, 0)).2.1) ∧ W'.cell? ⟨db, dO + i * 4 + 2, none⟩ = some (.int .i64 (ds.getD i (0, 0, 0, 0)).2.2.1) ∧ W'.cell? ⟨db, dO + i * 4 + 3, none⟩ = some (.int .i64 (ds.getD i (0, 0, 0, 0)).2.2.2) from
    ⟨((B_trans B2.out hh).cell (p := ⟨db, _, none⟩) HDB.out).trans (HDD.out i hi).1, ((B_trans B2.out hh).cell (p := ⟨db, _, none⟩) HDB.out).trans (HDD.out i hi).2.1, ((B_trans B2.out hh).cell (p := ⟨db, _, none⟩) HDB.out).trans (HDD.out i hi).2.2.1, ((B_trans B2.out hh).cell (p := ⟨db, _, none⟩) HDB.out).trans (HDD.out i hi).2.2.2⟩))
  obtain ⟨y0, y1, y2, y3⟩ := HDC.out w2 (Below.refl _ _) k hk
  have gT := O2.out.1.lt
  have gY := O2.out.2.lt
  obtain ⟨p0, hp0⟩ : ∃ p0, ds.getD k (0, 0, 0, 0) = p0 := ⟨_, rfl⟩
  rw [hp0] at y0 y1 y2 y3
  obtain ⟨d0, d1, d2, d3⟩ := p0
  simp only at y0 y1 y2 y3
  obtain ⟨w3, hw3⟩ : ∃ w3, w2.alloc (.cells #[.int .i64 d0, .int .i64 d1, .int .i64 d2, .int .i64 d3] 45) = w3 := ⟨_, rfl⟩
  have hb23 : Below w2.heap.size w2 w3 := by rw [← hw3]; exact B_alloc (Below.refl _ _) _
  have oD : Ob w3 w2.heap.size 45 #[.int .i64 d0, .int .i64 d1, .int .i64 d2, .int .i64 d3] := by rw [← hw3]; exact Ob.new _ _ _
  have D3 := Lib.hid (show Below w2.heap.size w2 w3 ∧ Ob w3 w2.heap.size 45 #[.int .i64 (leastD ds k 0).1, .int .i64 (leastD ds k 0).2.1, .int .i64 (leastD ds k 0).2.2.1, .int .i64 (leastD ds k 0).2.2.2] from ⟨hb23, by rw [show leastD ds k 0 = (d0, d1, d2, d3) from hp0]; exact oD⟩)
  have W3 := Lib.hid hw3
  clear hw3 hb23 oD hp0
  go_upto_region 6 with fail
  rw [W3.out]
  clear q0 q1 q2 q3 q4 q5 q6 q7 q8 q9 q10 q11 q12 y0 y1 y2 y3
  obtain ⟨q0, q1, q2, q3, q4, q5, q6, q7, q8, q9, q10, q11, q12⟩ := (O2.out.1.below D3.out.1).thirteen
  go_wp2_with fail
  clear q0 q1 q2 q3 q4 q5 q6 q7 q8 q9 q10 q11 q12
  go_loopg [11] (t.dn - k) (fun gk iv wr => ∃ j : Nat, gk = t.dn - k - j ∧ iv = .int .i64 ((k + j : Nat) : Int) ∧ k + j ≤ t.dn ∧ Below w2.heap.size w2 wr ∧ Ob wr w2.heap.size 45 #[.int .i64 (leastD ds k j).1, .int .i64 (leastD ds k j).2.1, .int .i64 (leastD ds k j).2.2.1, .int .i64 (leastD ds k j).2.2.2])
  case atStart => exact ⟨0, rfl, rfl, by omega, D3.out.1, D3.out.2⟩
  case round =>
    obtain ⟨j, rfl, rfl, hj, hbr, hoD⟩ := hrel
    clear D3
    by_cases hlt : k + j < t.dn
    · obtain ⟨i, hi⟩ : ∃ i, k + j = i := ⟨_, rfl⟩
      obtain ⟨q0, q1, q2, q3, q4, q5, q6, q7, q8, q9, q10, q11, q12⟩ := (O2.out.1.below hbr).thirteen
      obtain ⟨y0, y1, y2, y3⟩ := HDC.out wr hbr (k + j) hlt
      have hstep : leastD ds k (j + 1) = minD (leastD ds k j) (ds.getD (k + j) (0, 0, 0, 0)) := rfl
      rw [hi] at hstep y0 y1 y2 y3 hlt ⊢
      generalize ds.getD i (0, 0, 0, 0) = r at hstep y0 y1 y2 y3
      generalize leastD ds k j = s at hstep hoD
      obtain ⟨b0, b1, b2, b3⟩ := r
      obtain ⟨s0, s1, s2, s3⟩ := s
      simp only at y0 y1 y2 y3 hoD
      obtain ⟨m0, hm0⟩ : ∃ m0, min s0 b0 = m0 := ⟨_, rfl⟩
      obtain ⟨m1, hm1⟩ : ∃ m1, min s1 b1 = m1 := ⟨_, rfl⟩
      obtain ⟨m2, hm2⟩ : ∃ m2, min s2 b2 = m2 := ⟨_, rfl⟩
      obtain ⟨m3, hm3⟩ : ∃ m3, min s3 b3 = m3 := ⟨_, rfl⟩
      have hst2 : leastD ds k (j + 1) = (m0, m1, m2, m3) := by rw [hstep, ← hm0, ← hm1, ← hm2, ← hm3]; rfl
      have M := Lib.hid (And.intro hm0 (And.intro hm1 (And.intro hm2 hm3)))
      have ST := Lib.hid (And.intro hst2 hi)
      have c1' : (0 : Int) ≤ (i : Int) := by omega
      have c2' : (i : Int) < t.dn := by omega
      have u4 : IntKind.i64.wrap ((i : Int) + 1) = (i : Int) + 1 := IntWalk.i64_in _ (by omega)
      obtain ⟨wx, hwx⟩ : ∃ wx, wr.alloc (.cells #[.int .i64 b0, .int .i64 b1, .int .i64 b2, .int .i64 b3] 45) = wx := ⟨_, rfl⟩
      have hbx : Below wr.heap.size wr wx := by rw [← hwx]; exact B_alloc (Below.refl _ _) _
      have oX : Ob wx wr.heap.size 45 #[.int .i64 b0, .int .i64 b1, .int .i64 b2, .int .i64 b3] := by rw [← hwx]; exact Ob.new _ _ _
      have gX : w2.heap.size < wr.heap.size := hoD.lt
      have hne := Lib.hid (show w2.heap.size ≠ wr.heap.size by omega)
      have J0 : Hid (I10d w2.heap.size wr.heap.size s0 s1 s2 s3 b0 b1 b2 b3 m0 m1 m2 m3 w2 0 (fun _ => undef) wx.drew) := ⟨(B_trans hbr hbx).drew, fun _ => (hoD.below hbx).drew, oX.drew, fun h => by omega, fun h => by omega, fun h => by omega, fun h => by omega⟩
      have WX := Lib.hid hwx
      clear hm0 hm1 hm2 hm3 hst2 hstep hwx hbx oX hoD hbr
      go_upto_region 10 with fail
      rw [WX.out]
      clear q0 q1 q2 q3 q4 q5 q6 q7 q8 q9 q10 q11 q12 y0 y1 y2 y3
      obtain ⟨g, hg⟩ : ∃ g, w2.heap.size = g := ⟨_, rfl⟩
      obtain ⟨h, hh⟩ : ∃ h, wr.heap.size = h := ⟨_, rfl⟩
      have hwg : w2.heap.size ≤ g := by omega
      rw [hg, hh] at J0 hne
      try rw [hg]
      try rw [hh]
      refine wp_region_steps (I := I10d g h s0 s1 s2 s3 b0 b1 b2 b3 m0 m1 m2 m3 w2) (V := V10d g h s0 s1 s2 s3 b0 b1 b2 b3 m0 m1 m2 m3) (eff := eff10d) (need := need10d) (till := till10d) 4 (by kernel_rfl) (by decide) (by kernel_rfl) rfl (by kernel_rfl) (by kernel_rfl) (by kernel_rfl) (by kernel_rfl) (by kernel_rfl) J0.out ?steps ?hend
      case hend =>
        intro outs w' hI
        have hE := Lib.hid (And.intro hI.b (hI.e rfl))
        clear hI J0
        simp only [flowAct, List.filterMap_cons, List.filterMap_nil, patch, List.setIfInBounds_toArray, List.set_cons_zero, List.set_cons_succ]
        go_wp2_with fail
        try rw [← hg]
        go_roundg (t.dn - k - (j + 1))
        case measure => omega
        case rel =>
          obtain ⟨s1', s2'⟩ := ST.out
          refine ⟨j + 1, rfl, by rw [show ((k + (j + 1) : Nat) : Int) = (i : Int) + 1 by omega], by omega, hE.out.1, ?_⟩
          rw [s1', hg]
          exact hE.out.2
      case steps =>
        refine ⟨⟨rfl, fun t ht k' outs u _ => by cases ht; rfl, fun k' outs W' ρ hk1 hk2 hI hc hg h_fn hr ho => ?_⟩, ?_⟩
        · have hk2' : k' ≤ 3 := hk2
          have o10 := ho 10 (by kernel_rfl)
          clear hI
          refine step_pure rfl (v := .pointer (some ⟨g, 0, none⟩)) (fun t ht => by cases ht; rfl) ?_
          go_simp
        refine ⟨⟨rfl, fun t ht k' outs u _ => by cases ht; rfl, fun k' outs W' ρ hk1 hk2 hI hc hg h_fn hr ho => ?_⟩, ?_⟩
        · have hk2' : k' ≤ 3 := hk2
          have r66 : ρ (.tmp 66) = .pointer (some ⟨g, 0, none⟩) := hr 66 (by kernel_rfl)
          clear hI
          refine step_pure rfl (v := .pointer (some ⟨g, 0, none⟩)) (fun t ht => by cases ht; rfl) ?_
          go_simp
        refine ⟨⟨rfl, fun t ht k' outs u _ => by cases ht; rfl, fun k' outs W' ρ hk1 hk2 hI hc hg h_fn hr ho => ?_⟩, ?_⟩
        · have hk2' : k' ≤ 2 := hk2
          have r67 : ρ (.tmp 67) = .pointer (some ⟨g, 0, none⟩) := hr 67 (by kernel_rfl)
          obtain ⟨x0, x1, x2, x3⟩ := (hI.D (by omega)).day
          clear hI
          refine step_pure rfl (v := .int .i64 s0) (fun t ht => by cases ht; rfl) ?_
          go_simp
        refine ⟨⟨rfl, fun t ht k' outs u _ => by cases ht; rfl, fun k' outs W' ρ hk1 hk2 hI hc hg h_fn hr ho => ?_⟩, ?_⟩
        · have hk2' : k' ≤ 3 := hk2
          have o12 := ho 12 (by kernel_rfl)
          clear hI
          refine step_pure rfl (v := .pointer (some ⟨h, 0, none⟩)) (fun t ht => by cases ht; rfl) ?_
          go_simp
        refine ⟨⟨rfl, fun t ht k' outs u _ => by cases ht; rfl, fun k' outs W' ρ hk1 hk2 hI hc hg h_fn hr ho => ?_⟩, ?_⟩
        · have hk2' : k' ≤ 3 := hk2
          have r69 : ρ (.tmp 69) = .pointer (some ⟨h, 0, none⟩) := hr 69 (by kernel_rfl)
          clear hI
          refine step_pure rfl (v := .pointer (some ⟨h, 0, none⟩)) (fun t ht => by cases ht; rfl) ?_
          go_simp
        refine ⟨⟨rfl, fun t ht k' outs u _ => by cases ht; rfl, fun k' outs W' ρ hk1 hk2 hI hc hg h_fn hr ho => ?_⟩, ?_⟩
        · have hk2' : k' ≤ 3 := hk2
          have r70 : ρ (.tmp 70) = .pointer (some ⟨h, 0, none⟩) := hr 70 (by kernel_rfl)
          obtain ⟨x0, x1, x2, x3⟩ := hI.X.day
          clear hI
          refine step_pure rfl (v := .int .i64 b0) (fun t ht => by cases ht; rfl) ?_
          go_simp
        refine ⟨⟨rfl, fun t ht k' outs u _ => by cases ht; rfl, fun k' outs W' ρ hk1 hk2 hI hc hg h_fn hr ho => ?_⟩, ?_⟩
        · have hk2' : k' ≤ 3 := hk2
          have r68 : ρ (.tmp 68) = .int .i64 s0 := hr 68 (by kernel_rfl)
          have r71 : ρ (.tmp 71) = .int .i64 b0 := hr 71 (by kernel_rfl)
          clear hI
          refine step_pure rfl (v := .int .i64 m0) (fun t ht => by cases ht; rfl) ?_
          (go_simp; have hm := M.out.1; clear M; first | exact hm | (split <;> omega) | omega)
        refine ⟨⟨rfl, fun t ht k' outs u _ => by cases ht; rfl, fun k' outs W' ρ hk1 hk2 hI hc hg h_fn hr ho => ?_⟩, ?_⟩
        · have hk2' : k' ≤ 3 := hk2
          have o10 := ho 10 (by kernel_rfl)
          clear hI
          refine step_pure rfl (v := .pointer (some ⟨g, 0, none⟩)) (fun t ht => by cases ht; rfl) ?_
          go_simp
        refine ⟨⟨rfl, fun t ht k' outs u _ => by cases ht; rfl, fun k' outs W' ρ hk1 hk2 hI hc hg h_fn hr ho => ?_⟩, ?_⟩
        · have hk2' : k' ≤ 3 := hk2
          have r73 : ρ (.tmp 73) = .pointer (some ⟨g, 0, none⟩) := hr 73 (by kernel_rfl)
          clear hI
          refine step_pure rfl (v := .pointer (some ⟨g, 1, none⟩)) (fun t ht => by cases ht; rfl) ?_
          go_simp
        refine ⟨⟨rfl, fun t ht k' outs u _ => by cases ht; rfl, fun k' outs W' ρ hk1 hk2 hI hc hg h_fn hr ho => ?_⟩, ?_⟩
        · have hk2' : k' ≤ 2 := hk2
          have r74 : ρ (.tmp 74) = .pointer (some ⟨g, 1, none⟩) := hr 74 (by kernel_rfl)
          obtain ⟨x0, x1, x2, x3⟩ := (hI.D (by omega)).day
          clear hI
          refine step_pure rfl (v := .int .i64 s1) (fun t ht => by cases ht; rfl) ?_
          go_simp
        refine ⟨⟨rfl, fun t ht k' outs u _ => by cases ht; rfl, fun k' outs W' ρ hk1 hk2 hI hc hg h_fn hr ho => ?_⟩, ?_⟩
        · have hk2' : k' ≤ 3 := hk2
          have o12 := ho 12 (by kernel_rfl)
          clear hI
          refine step_pure rfl (v := .pointer (some ⟨h, 0, none⟩)) (fun t ht => by cases ht; rfl) ?_
          go_simp
        refine ⟨⟨rfl, fun t ht k' outs u _ => by cases ht; rfl, fun k' outs W' ρ hk1 hk2 hI hc hg h_fn hr ho => ?_⟩, ?_⟩
        · have hk2' : k' ≤ 3 := hk2
          have r76 : ρ (.tmp 76) = .pointer (some ⟨h, 0, none⟩) := hr 76 (by kernel_rfl)
          clear hI
          refine step_pure rfl (v := .pointer (some ⟨h, 1, none⟩)) (fun t ht => by cases ht; rfl) ?_
          go_simp
        refine ⟨⟨rfl, fun t ht k' outs u _ => by cases ht; rfl, fun k' outs W' ρ hk1 hk2 hI hc hg h_fn hr ho => ?_⟩, ?_⟩
        · have hk2' : k' ≤ 3 := hk2
          have r77 : ρ (.tmp 77) = .pointer (some ⟨h, 1, none⟩) := hr 77 (by kernel_rfl)
          obtain ⟨x0, x1, x2, x3⟩ := hI.X.day
          clear hI
          refine step_pure rfl (v := .int .i64 b1) (fun t ht => by cases ht; rfl) ?_
          go_simp
        refine ⟨⟨rfl, fun t ht k' outs u _ => by cases ht; rfl, fun k' outs W' ρ hk1 hk2 hI hc hg h_fn hr ho => ?_⟩, ?_⟩
        · have hk2' : k' ≤ 3 := hk2
          have r75 : ρ (.tmp 75) = .int .i64 s1 := hr 75 (by kernel_rfl)
          have r78 : ρ (.tmp 78) = .int .i64 b1 := hr 78 (by kernel_rfl)
          clear hI
          refine step_pure rfl (v := .int .i64 m1) (fun t ht => by cases ht; rfl) ?_
          (go_simp; have hm := M.out.2.1; clear M; first | exact hm | (split <;> omega) | omega)
        refine ⟨⟨rfl, fun t ht k' outs u (h : 0 < k') => by cases ht; show upd outs k' u 0 = outs 0; unfold upd; rw [if_neg (by omega)], fun k' outs W' ρ hk1 hk2 hI hc hg h_fn hr ho => ?_⟩, ?_⟩
        · obtain rfl : k' = 0 := by have h1 : 0 ≤ k' := hk1; have h2 : k' ≤ 0 := hk2; omega
          have r72 : ρ (.tmp 72) = .int .i64 m0 := hr 72 (by kernel_rfl)
          have r79 : ρ (.tmp 79) = .int .i64 m1 := hr 79 (by kernel_rfl)
          have hfn := h_fn 10
          refine step_call rfl (f := 10) (args := #[.int .i64 m0, .int .i64 m1]) (w' := W') ?_ ?_
          · clear hI; go_simp
          · refine (HSp.out _ _ W').mono ?_
            rintro e w2 ⟨rfl, hb2⟩
            exact ⟨_, rfl, ⟨B_trans hI.b hb2, fun _ => (hI.D (by omega)).below hb2, hI.X.below hb2, fun _ => rfl, fun h => by omega, fun h => by omega, fun h => by omega⟩, fun t ht => by cases ht; rfl⟩
        refine ⟨⟨rfl, fun t ht k' outs u _ => by cases ht; rfl, fun k' outs W' ρ hk1 hk2 hI hc hg h_fn hr ho => ?_⟩, ?_⟩
        · have hk2' : k' ≤ 3 := hk2
          have o10 := ho 10 (by kernel_rfl)
          clear hI
          refine step_pure rfl (v := .pointer (some ⟨g, 2, none⟩)) (fun t ht => by cases ht; rfl) ?_
          go_simp
        refine ⟨⟨rfl, fun t ht k' outs u _ => by cases ht; rfl, fun k' outs W' ρ hk1 hk2 hI hc hg h_fn hr ho => ?_⟩, ?_⟩
        · have hk2' : k' ≤ 3 := hk2
          have r81 : ρ (.tmp 81) = .pointer (some ⟨g, 2, none⟩) := hr 81 (by kernel_rfl)
          clear hI
          refine step_pure rfl (v := .pointer (some ⟨g, 2, none⟩)) (fun t ht => by cases ht; rfl) ?_
          go_simp
        refine ⟨⟨rfl, fun t ht k' outs u _ => by cases ht; rfl, fun k' outs W' ρ hk1 hk2 hI hc hg h_fn hr ho => ?_⟩, ?_⟩
        · have hk2' : k' ≤ 2 := hk2
          have r82 : ρ (.tmp 82) = .pointer (some ⟨g, 2, none⟩) := hr 82 (by kernel_rfl)
          obtain ⟨x0, x1, x2, x3⟩ := (hI.D (by omega)).day
          clear hI
          refine step_pure rfl (v := .int .i64 s2) (fun t ht => by cases ht; rfl) ?_
          go_simp
        refine ⟨⟨rfl, fun t ht k' outs u _ => by cases ht; rfl, fun k' outs W' ρ hk1 hk2 hI hc hg h_fn hr ho => ?_⟩, ?_⟩
        · have hk2' : k' ≤ 3 := hk2
          have o12 := ho 12 (by kernel_rfl)
          clear hI
          refine step_pure rfl (v := .pointer (some ⟨h, 2, none⟩)) (fun t ht => by cases ht; rfl) ?_
          go_simp
        refine ⟨⟨rfl, fun t ht k' outs u _ => by cases ht; rfl, fun k' outs W' ρ hk1 hk2 hI hc hg h_fn hr ho => ?_⟩, ?_⟩
        · have hk2' : k' ≤ 3 := hk2
          have r84 : ρ (.tmp 84) = .pointer (some ⟨h, 2, none⟩) := hr 84 (by kernel_rfl)
          clear hI
          refine step_pure rfl (v := .pointer (some ⟨h, 2, none⟩)) (fun t ht => by cases ht; rfl) ?_
          go_simp
        refine ⟨⟨rfl, fun t ht k' outs u _ => by cases ht; rfl, fun k' outs W' ρ hk1 hk2 hI hc hg h_fn hr ho => ?_⟩, ?_⟩
        · have hk2' : k' ≤ 3 := hk2
          have r85 : ρ (.tmp 85) = .pointer (some ⟨h, 2, none⟩) := hr 85 (by kernel_rfl)
          obtain ⟨x0, x1, x2, x3⟩ := hI.X.day
          clear hI
          refine step_pure rfl (v := .int .i64 b2) (fun t ht => by cases ht; rfl) ?_
          go_simp
        refine ⟨⟨rfl, fun t ht k' outs u _ => by cases ht; rfl, fun k' outs W' ρ hk1 hk2 hI hc hg h_fn hr ho => ?_⟩, ?_⟩
        · have hk2' : k' ≤ 3 := hk2
          have r83 : ρ (.tmp 83) = .int .i64 s2 := hr 83 (by kernel_rfl)
          have r86 : ρ (.tmp 86) = .int .i64 b2 := hr 86 (by kernel_rfl)
          clear hI
          refine step_pure rfl (v := .int .i64 m2) (fun t ht => by cases ht; rfl) ?_
          (go_simp; have hm := M.out.2.2.1; clear M; first | exact hm | (split <;> omega) | omega)
        refine ⟨⟨rfl, fun t ht k' outs u _ => by cases ht; rfl, fun k' outs W' ρ hk1 hk2 hI hc hg h_fn hr ho => ?_⟩, ?_⟩
        · have hk2' : k' ≤ 3 := hk2
          have o10 := ho 10 (by kernel_rfl)
          clear hI
          refine step_pure rfl (v := .pointer (some ⟨g, 2, none⟩)) (fun t ht => by cases ht; rfl) ?_
          go_simp
        refine ⟨⟨rfl, fun t ht k' outs u _ => by cases ht; rfl, fun k' outs W' ρ hk1 hk2 hI hc hg h_fn hr ho => ?_⟩, ?_⟩
        · have hk2' : k' ≤ 3 := hk2
          have r88 : ρ (.tmp 88) = .pointer (some ⟨g, 2, none⟩) := hr 88 (by kernel_rfl)
          clear hI
          refine step_pure rfl (v := .pointer (some ⟨g, 3, none⟩)) (fun t ht => by cases ht; rfl) ?_
          go_simp
        refine ⟨⟨rfl, fun t ht k' outs u _ => by cases ht; rfl, fun k' outs W' ρ hk1 hk2 hI hc hg h_fn hr ho => ?_⟩, ?_⟩
        · have hk2' : k' ≤ 2 := hk2
          have r89 : ρ (.tmp 89) = .pointer (some ⟨g, 3, none⟩) := hr 89 (by kernel_rfl)
          obtain ⟨x0, x1, x2, x3⟩ := (hI.D (by omega)).day
          clear hI
          refine step_pure rfl (v := .int .i64 s3) (fun t ht => by cases ht; rfl) ?_
          go_simp
        refine ⟨⟨rfl, fun t ht k' outs u _ => by cases ht; rfl, fun k' outs W' ρ hk1 hk2 hI hc hg h_fn hr ho => ?_⟩, ?_⟩
        · have hk2' : k' ≤ 3 := hk2
          have o12 := ho 12 (by kernel_rfl)
          clear hI
          refine step_pure rfl (v := .pointer (some ⟨h, 2, none⟩)) (fun t ht => by cases ht; rfl) ?_
          go_simp
        refine ⟨⟨rfl, fun t ht k' outs u _ => by cases ht; rfl, fun k' outs W' ρ hk1 hk2 hI hc hg h_fn hr ho => ?_⟩, ?_⟩
        · have hk2' : k' ≤ 3 := hk2
          have r91 : ρ (.tmp 91) = .pointer (some ⟨h, 2, none⟩) := hr 91 (by kernel_rfl)
          clear hI
          refine step_pure rfl (v := .pointer (some ⟨h, 3, none⟩)) (fun t ht => by cases ht; rfl) ?_
          go_simp
        refine ⟨⟨rfl, fun t ht k' outs u _ => by cases ht; rfl, fun k' outs W' ρ hk1 hk2 hI hc hg h_fn hr ho => ?_⟩, ?_⟩
        · have hk2' : k' ≤ 3 := hk2
          have r92 : ρ (.tmp 92) = .pointer (some ⟨h, 3, none⟩) := hr 92 (by kernel_rfl)
          obtain ⟨x0, x1, x2, x3⟩ := hI.X.day
          clear hI
          refine step_pure rfl (v := .int .i64 b3) (fun t ht => by cases ht; rfl) ?_
          go_simp
        refine ⟨⟨rfl, fun t ht k' outs u _ => by cases ht; rfl, fun k' outs W' ρ hk1 hk2 hI hc hg h_fn hr ho => ?_⟩, ?_⟩
        · have hk2' : k' ≤ 3 := hk2
          have r90 : ρ (.tmp 90) = .int .i64 s3 := hr 90 (by kernel_rfl)
          have r93 : ρ (.tmp 93) = .int .i64 b3 := hr 93 (by kernel_rfl)
          clear hI
          refine step_pure rfl (v := .int .i64 m3) (fun t ht => by cases ht; rfl) ?_
          (go_simp; have hm := M.out.2.2.2; clear M; first | exact hm | (split <;> omega) | omega)
        refine ⟨⟨rfl, fun t ht k' outs u (h : 1 < k') => by cases ht; show upd outs k' u 1 = outs 1; unfold upd; rw [if_neg (by omega)], fun k' outs W' ρ hk1 hk2 hI hc hg h_fn hr ho => ?_⟩, ?_⟩
        · obtain rfl : k' = 1 := by have h1 : 1 ≤ k' := hk1; have h2 : k' ≤ 1 := hk2; omega
          have r87 : ρ (.tmp 87) = .int .i64 m2 := hr 87 (by kernel_rfl)
          have r94 : ρ (.tmp 94) = .int .i64 m3 := hr 94 (by kernel_rfl)
          have hfn := h_fn 10
          refine step_call rfl (f := 10) (args := #[.int .i64 m2, .int .i64 m3]) (w' := W') ?_ ?_
          · clear hI; go_simp
          · refine (HSp.out _ _ W').mono ?_
            rintro e w2 ⟨rfl, hb2⟩
            exact ⟨_, rfl, ⟨B_trans hI.b hb2, fun _ => (hI.D (by omega)).below hb2, hI.X.below hb2, fun _ => hI.o0 (by omega), fun _ => rfl, fun h => by omega, fun h => by omega⟩, fun t ht => by cases ht; rfl⟩
        refine ⟨⟨rfl, fun t ht k' outs u _ => by cases ht; rfl, fun k' outs W' ρ hk1 hk2 hI hc hg h_fn hr ho => ?_⟩, ?_⟩
        · have hk2' : k' ≤ 3 := hk2
          have hk1' : 1 ≤ k' := hk1
          have o10 := ho 10 (by kernel_rfl)
          clear hI
          refine step_pure rfl (v := .pointer (some ⟨g, 0, none⟩)) (fun t ht => by cases ht; rfl) ?_
          go_simp
        refine ⟨⟨rfl, (fun t ht => by cases ht), fun k' outs W' ρ hk1 hk2 hI hc hg h_fn hr ho => ?_⟩, ?_⟩
        · obtain rfl : k' = 2 := by have h1 : 2 ≤ k' := hk1; have h2 : k' ≤ 2 := hk2; omega
          have r80 : ρ (.tmp 80) = outs 0 := hr 80 (by kernel_rfl)
          have r96 : ρ (.tmp 96) = .pointer (some ⟨g, 0, none⟩) := hr 96 (by kernel_rfl)
          replace r80 := r80.trans (hI.o0 (by omega))
          have oo := hI.D (by omega)
          have v0 := oo.cell 0
          have v1 := oo.cell 1
          have g0 := oo.frozen 0
          have g1 := oo.frozen 1
          simp only [List.getElem?_toArray, List.getElem?_cons_zero, List.getElem?_cons_succ] at v0 v1
          refine step_store rfl rfl (w' := (W'.setCell ⟨g, 0, none⟩ (.int .i64 m0)).setCell ⟨g, 1, none⟩ (.int .i64 m1)) ?_ ⟨(hI.b.setCell (by simp only; omega) _).setCell (by simp only; omega) _, fun h => by omega, (hI.X.other (by simp only; exact hne.out) _).other (by simp only; exact hne.out) _, fun _ => hI.o0 (by omega), fun _ => hI.o1 (by omega), fun _ => by simpa using (oo.set 0 (.int .i64 m0)).set 1 (.int .i64 m1), fun h => by omega⟩
          clear hI oo; go_simp
        refine ⟨⟨rfl, fun t ht k' outs u _ => by cases ht; rfl, fun k' outs W' ρ hk1 hk2 hI hc hg h_fn hr ho => ?_⟩, ?_⟩
        · have hk2' : k' ≤ 3 := hk2
          have hk1' : 3 ≤ k' := hk1
          have o10 := ho 10 (by kernel_rfl)
          clear hI
          refine step_pure rfl (v := .pointer (some ⟨g, 2, none⟩)) (fun t ht => by cases ht; rfl) ?_
          go_simp
        refine ⟨⟨rfl, (fun t ht => by cases ht), fun k' outs W' ρ hk1 hk2 hI hc hg h_fn hr ho => ?_⟩, trivial⟩
        · obtain rfl : k' = 3 := by have h1 : 3 ≤ k' := hk1; have h2 : k' ≤ 3 := hk2; omega
          have r95 : ρ (.tmp 95) = outs 1 := hr 95 (by kernel_rfl)
          have r97 : ρ (.tmp 97) = .pointer (some ⟨g, 2, none⟩) := hr 97 (by kernel_rfl)
          replace r95 := r95.trans (hI.o1 (by omega))
          have oo := hI.s (by omega)
          have v0 := oo.cell 2
          have v1 := oo.cell 3
          have g0 := oo.frozen 2
          have g1 := oo.frozen 3
          simp only [List.getElem?_toArray, List.getElem?_cons_zero, List.getElem?_cons_succ] at v0 v1
          refine step_store rfl rfl (w' := (W'.setCell ⟨g, 2, none⟩ (.int .i64 m2)).setCell ⟨g, 3, none⟩ (.int .i64 m3)) ?_ ⟨(hI.b.setCell (by simp only; omega) _).setCell (by simp only; omega) _, fun h => by omega, (hI.X.other (by simp only; exact hne.out) _).other (by simp only; exact hne.out) _, fun _ => hI.o0 (by omega), fun _ => hI.o1 (by omega), fun h => by omega, fun _ => by simpa using (oo.set 2 (.int .i64 m2)).set 3 (.int .i64 m3)⟩
          clear hI oo; go_simp
    · have hjk : j = t.dn - k := by omega
      rw [hjk] at hoD
      have hge : ¬ ((k + j : Nat) : Int) < (t.dn : Int) := by omega
      obtain ⟨q0, q1, q2, q3, q4, q5, q6, q7, q8, q9, q10, q11, q12⟩ := (O2.out.1.below hbr).thirteen
      generalize leastD ds k (t.dn - k) = e at hoD HLw HMv HLT
      obtain ⟨e0, e1, e2, e3⟩ := e
      simp only at hoD HLw
      have R4 := Lib.hid (And.intro hbr hoD)
      clear hbr hoD
      go_wp2_with fail
      refine (G3.out wr (B_trans B2.out R4.out.1)).mono ?_
      rintro e w5 ⟨rfl, hb5⟩
      obtain ⟨w6, hw6⟩ : ∃ w6, w5.alloc (.cells #[.int .i64 lp.1, .int .i64 lp.2] 28) = w6 := ⟨_, rfl⟩
      have hb46 : Below wr.heap.size wr w6 := by rw [← hw6]; exact B_trans hb5 (B_alloc (Below.refl _ _) _)
      have oP : Ob w6 w5.heap.size 28 #[.int .i64 lp.1, .int .i64 lp.2] := by rw [← hw6]; exact Ob.new _ _ _
      have B6 := Lib.hid (B_trans B2.out (B_trans R4.out.1 hb46))
      have O6 := Lib.hid (And.intro (O2.out.1.below (B_trans R4.out.1 hb46)) (And.intro (O2.out.2.below (B_trans R4.out.1 hb46)) (And.intro (R4.out.2.below hb46) oP)))
      have W6 := Lib.hid hw6
      clear q0 q1 q2 q3 q4 q5 q6 q7 q8 q9 q10 q11 q12 hb5 hb46 hw6 oP
      go_upto_region 12 with fail
      rw [W6.out]
      obtain ⟨l, hl⟩ : ∃ l, lowerF (e0, e1, e2, e3) a b = l := ⟨_, rfl⟩
      rw [hl] at HLw HMv HLT
      obtain ⟨l0, l1, l2, l3⟩ := l
      obtain ⟨P, hP⟩ : ∃ P, lostP (t.moved_ none 0) (levT (t.moved_ none 0) hs ws (movedL ds k t.dn (l0, l1, l2, l3)) []) = P := ⟨_, rfl⟩
      rw [hP] at HLT
      have HM1' : ∀ W, Below w6.heap.size w6 W → Calls Try.prog 12 #[.agg #[(.slice t.r.ha t.r.hn t.r.hc), (.slice t.r.wa t.r.wn t.r.wc), (.int .i64 t.r.own), (.int .i64 t.r.feed), (.int .i64 t.r.g0), (.int .i64 t.r.g1), (.int .i64 t.r.g2), (.int .i64 t.r.lost), (.int .i64 t.first), (.slice t.da t.dn t.dc), (.int .i64 t.lo), (.int .i64 t.hi), (.slice none 0 0)], .int .i64 x, .agg #[.int .i64 l0, .int .i64 l1, .int .i64 l2, .int .i64 l3]] W fun e w' => e = .returned (.tuple #[.agg #[.int .i64 P.1, .int .i64 P.2], .int .i64 0]) ∧ Below W.heap.size W w' := fun W hW => (HMv.out W (B_trans B6.out hW) l0 l1 l2 l3 rfl).mono fun e w' ⟨da, dc, h1, h2⟩ => ⟨by rw [h1, moved_same, hP], h2⟩
      rw [HDA.out] at HM1'
      have HM1 := Lib.hid HM1'
      simp only at HLw
      have HS := Lib.hid (fun (W' : World) (hh : Below w6.heap.size w6 W') => (show (W'.cell? ⟨w.heap.size, 0, none⟩ = some (.slice t.r.ha t.r.hn t.r.hc) ∧ W'.cell? ⟨w.heap.size, 1, none⟩ = some (.slice t.r.wa t.r.wn t.r.wc) ∧ W'.cell? ⟨w.heap.size, 2, none⟩ = some (.int .i64 t.r.own) ∧ W'.cell? ⟨w.heap.size, 3, none⟩ = some (.int .i64 t.r.feed) ∧ W'.cell? ⟨w.heap.size, 4, none⟩ = some (.int .i64 t.r.g0) ∧ W'.cell? ⟨w.heap.size, 5, none⟩ = some (.int .i64 t.r.g1) ∧ W'.cell? ⟨w.heap.size, 6, none⟩ = some (.int .i64 t.r.g2) ∧ W'.cell? ⟨w.heap.size, 7, none⟩ = some (.int .i64 t.r.lost) ∧ W'.cell? ⟨w.heap.size, 8, none⟩ = some (.int .i64 t.first) ∧ W'.cell? ⟨w.heap.size, 9, none⟩ = some (.slice (some ⟨db, dO, none⟩) t.dn t.dc) ∧ W'.cell? ⟨w.heap.size, 10, none⟩ = some (.int .i64 t.lo) ∧ W'.cell? ⟨w.heap.size, 11, none⟩ = some (.int .i64 t.hi) ∧ W'.cell? ⟨w.heap.size, 12, none⟩ = some (.slice none 0 0)) ∧ (W'.cell? ⟨w2.heap.size, 0, none⟩ = some (.int .i64 e0) ∧ W'.cell? ⟨w2.heap.size, 1, none⟩ = some (.int .i64 e1) ∧ W'.cell? ⟨w2.heap.size, 2, none⟩ = some (.int .i64 e2) ∧ W'.cell? ⟨w2.heap.size, 3, none⟩ = some (.int .i64 e3)) ∧ W'.cell? ⟨w.heap.size + 1, 0, none⟩ = some (.int .u8 a) ∧ W'.cell? ⟨w.heap.size + 1, 1, none⟩ = some (.int .u8 b) from ⟨by have h := (O6.out.1.below hh).thirteen; exact ⟨h.1, h.2.1, h.2.2.1, h.2.2.2.1, h.2.2.2.2.1, h.2.2.2.2.2.1, h.2.2.2.2.2.2.1, h.2.2.2.2.2.2.2.1, h.2.2.2.2.2.2.2.2.1, h.2.2.2.2.2.2.2.2.2.1, h.2.2.2.2.2.2.2.2.2.2.1, h.2.2.2.2.2.2.2.2.2.2.2.1, h.2.2.2.2.2.2.2.2.2.2.2.2⟩, (O6.out.2.2.1.below hh).day, (O6.out.2.1.below hh).cell 0, (O6.out.2.1.below hh).cell 1⟩))
      obtain ⟨p, q⟩ := P
      obtain ⟨lp0, lp1⟩ := lp
      have HL1 := Lib.hid (show ∀ W, Calls Try.prog 14 #[.int .i64 p, .int .i64 lp0] W fun e w' => e = .returned (.bool true) ∧ Below W.heap.size W w' from fun W => by
        have h := later_any p lp0 W
        rw [HLT.out.1] at h
        exact h)
      have HL2 := Lib.hid (show ∀ W, Calls Try.prog 14 #[.int .i64 q, .int .i64 lp1] W fun e w' => e = .returned (.bool true) ∧ Below W.heap.size W w' from fun W => by
        have h := later_any q lp1 W
        rw [HLT.out.2] at h
        exact h)
      clear hl hP HM1' HMv HLT
      go_cut [15, 9] (fun va vb wx => ∃ g : Nat, va = .pointer (some ⟨g, 0, none⟩) ∧ w6.heap.size ≤ g ∧ vb = .int .i64 0 ∧ Ob wx g 28 #[.int .i64 p, .int .i64 q] ∧ Below w6.heap.size w6 wx)
      case first =>
        refine wp_region_held' (S := fun W' => Below w6.heap.size w6 W') (by kernel_rfl) ((Below.refl _ w6).drew) (fun hHeld => ?_)
        refine wpAnyH_take2 (i := 0) (t := 104) (v := ?_) rfl rfl (by kernel_rfl) (by kernel_rfl) (by kernel_rfl) (fun _ _ _ h => Only.not_panic h) (Or.inl ⟨by kernel_rfl, fun W hW => ?_⟩) (by assumption) ?_
        rotate_left
        · have hW2 := hW
          obtain ⟨⟨f0, f1, f2, f3, f4, f5, f6, f7, f8, f9, f10, f11, f12⟩, ⟨y0, y1, y2, y3⟩, z0, z1⟩ := HS.out W hW2
          clear hW hW2
          go_simp
          try with_reducible rfl
        try simp only [Act.put, List.setIfInBounds_toArray, List.set_cons_zero, List.set_cons_succ]
        refine wpAnyH_take2 (i := 1) (t := 105) (v := ?_) rfl rfl (by kernel_rfl) (by kernel_rfl) (by kernel_rfl) (fun _ _ _ h => Only.not_panic h) (Or.inl ⟨by kernel_rfl, fun W hW => ?_⟩) (by assumption) ?_
        rotate_left
        · have hW2 := hW
          obtain ⟨⟨f0, f1, f2, f3, f4, f5, f6, f7, f8, f9, f10, f11, f12⟩, ⟨y0, y1, y2, y3⟩, z0, z1⟩ := HS.out W hW2
          clear hW hW2
          go_simp
          try with_reducible rfl
        try simp only [Act.put, List.setIfInBounds_toArray, List.set_cons_zero, List.set_cons_succ]
        refine wpAnyH_take2 (i := 2) (t := 106) (v := ?_) rfl rfl (by kernel_rfl) (by kernel_rfl) (by kernel_rfl) (fun _ _ _ h => Only.not_panic h) (Or.inl ⟨by kernel_rfl, fun W hW => ?_⟩) (by assumption) ?_
        rotate_left
        · have hW2 := hW
          obtain ⟨⟨f0, f1, f2, f3, f4, f5, f6, f7, f8, f9, f10, f11, f12⟩, ⟨y0, y1, y2, y3⟩, z0, z1⟩ := HS.out W hW2
          clear hW hW2
          go_simp
          try with_reducible rfl
        try simp only [Act.put, List.setIfInBounds_toArray, List.set_cons_zero, List.set_cons_succ]
        refine wpAnyH_take2 (i := 3) (t := 107) (v := ?_) rfl rfl (by kernel_rfl) (by kernel_rfl) (by kernel_rfl) (fun _ _ _ h => Only.not_panic h) (Or.inl ⟨by kernel_rfl, fun W hW => ?_⟩) (by assumption) ?_
        rotate_left
        · have hW2 := hW
          obtain ⟨⟨f0, f1, f2, f3, f4, f5, f6, f7, f8, f9, f10, f11, f12⟩, ⟨y0, y1, y2, y3⟩, z0, z1⟩ := HS.out W hW2
          clear hW hW2
          go_simp
          try with_reducible rfl
        try simp only [Act.put, List.setIfInBounds_toArray, List.set_cons_zero, List.set_cons_succ]
        refine wpAnyH_ready (rs := [4, 9]) (by kernel_rfl) (by simp) ?_
        refine AllReadyH.cons rfl (fun K hK => ?_) ?_
        · go_simp
          refine (HLw.out _).mono ?_
          rintro ev w4 ⟨rfl, hb4⟩
          try simp only []
          refine hK.out _ _ ?_ (fun hHeld => ?_)
          · exact B_trans hHeld hb4
          clear hK K
          try simp only [Act.put, List.setIfInBounds_toArray, List.set_cons_zero, List.set_cons_succ]
          refine wpAnyH_ready (rs := [5, 9]) (by kernel_rfl) (by simp) ?_
          refine AllReadyH.cons rfl (fun K hK => ?_) ?_
          · go_simp
            refine (HM1.out _ hHeld).mono ?_
            rintro ev w5 ⟨rfl, hb5⟩
            try simp only []
            refine hK.out _ _ ?_ (fun hHeld => ?_)
            · exact B_trans hHeld hb5
            clear hK K
            try simp only [Act.put, List.setIfInBounds_toArray, List.set_cons_zero, List.set_cons_succ]
            refine wpAnyH_take2 (i := 6) (t := 103) (v := ?_) rfl rfl (by kernel_rfl) (by kernel_rfl) (by kernel_rfl) (fun _ _ _ h => Only.not_panic h) (Or.inl ⟨by kernel_rfl, fun W hW => ?_⟩) (by assumption) ?_
            rotate_left
            · have hW2 := hW
              obtain ⟨⟨f0, f1, f2, f3, f4, f5, f6, f7, f8, f9, f10, f11, f12⟩, ⟨y0, y1, y2, y3⟩, z0, z1⟩ := HS.out W hW2
              clear hW hW2
              go_simp
              try with_reducible rfl
            try simp only [Act.put, List.setIfInBounds_toArray, List.set_cons_zero, List.set_cons_succ]
            refine wpAnyH_take2 (i := 7) (t := 110) (v := ?_) rfl rfl (by kernel_rfl) (by kernel_rfl) (by kernel_rfl) (fun _ _ _ h => Only.not_panic h) (Or.inl ⟨by kernel_rfl, fun W hW => ?_⟩) (by assumption) ?_
            rotate_left
            · have hW2 := hW
              obtain ⟨⟨f0, f1, f2, f3, f4, f5, f6, f7, f8, f9, f10, f11, f12⟩, ⟨y0, y1, y2, y3⟩, z0, z1⟩ := HS.out W hW2
              clear hW hW2
              go_simp
              try with_reducible rfl
            try simp only [Act.put, List.setIfInBounds_toArray, List.set_cons_zero, List.set_cons_succ]
            refine wpAnyH_take2 (i := 8) (t := 111) (v := ?_) rfl rfl (by kernel_rfl) (by kernel_rfl) (by kernel_rfl) (fun _ _ _ h => Only.not_panic h) (Or.inl ⟨by kernel_rfl, fun W hW => ?_⟩) (by assumption) ?_
            rotate_left
            · have hW2 := hW
              obtain ⟨⟨f0, f1, f2, f3, f4, f5, f6, f7, f8, f9, f10, f11, f12⟩, ⟨y0, y1, y2, y3⟩, z0, z1⟩ := HS.out W hW2
              clear hW hW2
              go_simp
              try with_reducible rfl
            try simp only [Act.put, List.setIfInBounds_toArray, List.set_cons_zero, List.set_cons_succ]
            refine wpAnyH_ready (rs := [9]) (by kernel_rfl) (by simp) ?_
            refine AllReadyH.cons rfl (fun K hK => ?_) ?_
            · go_simp
              have hpre := hHeld
              have o9 := Lib.hid (Ob.new (w5) #[.int .i64 0, .int .i64 0] 28)
              have hb9 := hHeld.size
              refine hK.out _ _ ?_ (fun hHeld => ?_)
              · exact B_alloc hHeld _
              clear hK K
              try simp only [Act.put, List.setIfInBounds_toArray, List.set_cons_zero, List.set_cons_succ]
              refine wpAnyH_ready (rs := [10]) (by kernel_rfl) (by simp) ?_
              refine AllReadyH.cons rfl (fun K hK => ?_) ?_
              · have v0 := o9.out.cell 0
                have v1 := o9.out.cell 1
                have g0 := o9.out.frozen 0
                have g1 := o9.out.frozen 1
                simp only [List.getElem?_toArray, List.getElem?_cons_zero, List.getElem?_cons_succ] at v0 v1
                go_simp
                refine hK.out _ _ ?_ (fun hHeld => ?_)
                · first | exact B_alloc hpre _ | exact (hHeld.setCell (by first | omega | (simp only; omega) | (simp; omega)) _).setCell (by first | omega | (simp only; omega) | (simp; omega)) _
                clear hK K
                try simp only [Act.put, List.setIfInBounds_toArray, List.set_cons_zero, List.set_cons_succ]
                refine wpAnyH_take2 (i := 11) (t := 9) (v := ?_) rfl rfl (by kernel_rfl) (by kernel_rfl) (by kernel_rfl) (fun _ _ _ h => Only.not_panic h) (Or.inl ⟨by kernel_rfl, fun W hW => ?_⟩) (by assumption) ?_
                rotate_left
                · have hW2 := hW
                  obtain ⟨⟨f0, f1, f2, f3, f4, f5, f6, f7, f8, f9, f10, f11, f12⟩, ⟨y0, y1, y2, y3⟩, z0, z1⟩ := HS.out W hW2
                  clear hW hW2
                  go_simp
                  try with_reducible rfl
                try simp only [Act.put, List.setIfInBounds_toArray, List.set_cons_zero, List.set_cons_succ]
                refine wpAnyH_done (by kernel_rfl) (Only.mk ?_) _
                go_wp2_with fail
                go_meet
                first | exact ⟨_, rfl, by first | omega | exact Nat.le_refl _, rfl, Ob.new _ _ _, hHeld⟩ | exact ⟨_, rfl, by first | omega | exact Nat.le_refl _, rfl, (o9.out.set 0 _).set 1 _, hHeld⟩
              exact AllReadyH.nil
            exact AllReadyH.nil
          refine AllReadyH.cons rfl (fun K hK => ?_) ?_
          · go_simp
            have hpre := hHeld
            have o9 := Lib.hid (Ob.new (w4) #[.int .i64 0, .int .i64 0] 28)
            have hb9 := hHeld.size
            refine hK.out _ _ ?_ (fun hHeld => ?_)
            · exact B_alloc hHeld _
            clear hK K
            try simp only [Act.put, List.setIfInBounds_toArray, List.set_cons_zero, List.set_cons_succ]
            refine wpAnyH_ready (rs := [5]) (by kernel_rfl) (by simp) ?_
            refine AllReadyH.cons rfl (fun K hK => ?_) ?_
            · go_simp
              refine (HM1.out _ hHeld).mono ?_
              rintro ev w5 ⟨rfl, hb5⟩
              try simp only []
              replace o9 := Lib.hid (o9.out.below hb5)
              refine hK.out _ _ ?_ (fun hHeld => ?_)
              · exact B_trans hHeld hb5
              clear hK K
              try simp only [Act.put, List.setIfInBounds_toArray, List.set_cons_zero, List.set_cons_succ]
              refine wpAnyH_take2 (i := 6) (t := 103) (v := ?_) rfl rfl (by kernel_rfl) (by kernel_rfl) (by kernel_rfl) (fun _ _ _ h => Only.not_panic h) (Or.inl ⟨by kernel_rfl, fun W hW => ?_⟩) (by assumption) ?_
              rotate_left
              · have hW2 := hW
                obtain ⟨⟨f0, f1, f2, f3, f4, f5, f6, f7, f8, f9, f10, f11, f12⟩, ⟨y0, y1, y2, y3⟩, z0, z1⟩ := HS.out W hW2
                clear hW hW2
                go_simp
                try with_reducible rfl
              try simp only [Act.put, List.setIfInBounds_toArray, List.set_cons_zero, List.set_cons_succ]
              refine wpAnyH_take2 (i := 7) (t := 110) (v := ?_) rfl rfl (by kernel_rfl) (by kernel_rfl) (by kernel_rfl) (fun _ _ _ h => Only.not_panic h) (Or.inl ⟨by kernel_rfl, fun W hW => ?_⟩) (by assumption) ?_
              rotate_left
              · have hW2 := hW
                obtain ⟨⟨f0, f1, f2, f3, f4, f5, f6, f7, f8, f9, f10, f11, f12⟩, ⟨y0, y1, y2, y3⟩, z0, z1⟩ := HS.out W hW2
                clear hW hW2
                go_simp
                try with_reducible rfl
              try simp only [Act.put, List.setIfInBounds_toArray, List.set_cons_zero, List.set_cons_succ]
              refine wpAnyH_take2 (i := 8) (t := 111) (v := ?_) rfl rfl (by kernel_rfl) (by kernel_rfl) (by kernel_rfl) (fun _ _ _ h => Only.not_panic h) (Or.inl ⟨by kernel_rfl, fun W hW => ?_⟩) (by assumption) ?_
              rotate_left
              · have hW2 := hW
                obtain ⟨⟨f0, f1, f2, f3, f4, f5, f6, f7, f8, f9, f10, f11, f12⟩, ⟨y0, y1, y2, y3⟩, z0, z1⟩ := HS.out W hW2
                clear hW hW2
                go_simp
                try with_reducible rfl
              try simp only [Act.put, List.setIfInBounds_toArray, List.set_cons_zero, List.set_cons_succ]
              refine wpAnyH_ready (rs := [10]) (by kernel_rfl) (by simp) ?_
              refine AllReadyH.cons rfl (fun K hK => ?_) ?_
              · have v0 := o9.out.cell 0
                have v1 := o9.out.cell 1
                have g0 := o9.out.frozen 0
                have g1 := o9.out.frozen 1
                simp only [List.getElem?_toArray, List.getElem?_cons_zero, List.getElem?_cons_succ] at v0 v1
                go_simp
                refine hK.out _ _ ?_ (fun hHeld => ?_)
                · first | exact B_alloc hpre _ | exact (hHeld.setCell (by first | omega | (simp only; omega) | (simp; omega)) _).setCell (by first | omega | (simp only; omega) | (simp; omega)) _
                clear hK K
                try simp only [Act.put, List.setIfInBounds_toArray, List.set_cons_zero, List.set_cons_succ]
                refine wpAnyH_take2 (i := 11) (t := 9) (v := ?_) rfl rfl (by kernel_rfl) (by kernel_rfl) (by kernel_rfl) (fun _ _ _ h => Only.not_panic h) (Or.inl ⟨by kernel_rfl, fun W hW => ?_⟩) (by assumption) ?_
                rotate_left
                · have hW2 := hW
                  obtain ⟨⟨f0, f1, f2, f3, f4, f5, f6, f7, f8, f9, f10, f11, f12⟩, ⟨y0, y1, y2, y3⟩, z0, z1⟩ := HS.out W hW2
                  clear hW hW2
                  go_simp
                  try with_reducible rfl
                try simp only [Act.put, List.setIfInBounds_toArray, List.set_cons_zero, List.set_cons_succ]
                refine wpAnyH_done (by kernel_rfl) (Only.mk ?_) _
                go_wp2_with fail
                go_meet
                first | exact ⟨_, rfl, by first | omega | exact Nat.le_refl _, rfl, Ob.new _ _ _, hHeld⟩ | exact ⟨_, rfl, by first | omega | exact Nat.le_refl _, rfl, (o9.out.set 0 _).set 1 _, hHeld⟩
              exact AllReadyH.nil
            exact AllReadyH.nil
          exact AllReadyH.nil
        refine AllReadyH.cons rfl (fun K hK => ?_) ?_
        · go_simp
          have o9 := Lib.hid (show Ob (w6.drew.alloc (.cells #[.int .i64 0, .int .i64 0] 28)) w6.heap.size 28 #[.int .i64 0, .int .i64 0] from Ob.new _ _ _)
          have hpre := hHeld
          refine hK.out _ _ ?_ (fun hHeld => ?_)
          · exact B_alloc hHeld _
          clear hK K
          try simp only [Act.put, List.setIfInBounds_toArray, List.set_cons_zero, List.set_cons_succ]
          refine wpAnyH_ready (rs := [4]) (by kernel_rfl) (by simp) ?_
          refine AllReadyH.cons rfl (fun K hK => ?_) ?_
          · go_simp
            refine (HLw.out _).mono ?_
            rintro ev w4 ⟨rfl, hb4⟩
            try simp only []
            replace o9 := Lib.hid (o9.out.below hb4)
            refine hK.out _ _ ?_ (fun hHeld => ?_)
            · exact B_trans hHeld hb4
            clear hK K
            try simp only [Act.put, List.setIfInBounds_toArray, List.set_cons_zero, List.set_cons_succ]
            refine wpAnyH_ready (rs := [5]) (by kernel_rfl) (by simp) ?_
            refine AllReadyH.cons rfl (fun K hK => ?_) ?_
            · go_simp
              refine (HM1.out _ hHeld).mono ?_
              rintro ev w5 ⟨rfl, hb5⟩
              try simp only []
              replace o9 := Lib.hid (o9.out.below hb5)
              refine hK.out _ _ ?_ (fun hHeld => ?_)
              · exact B_trans hHeld hb5
              clear hK K
              try simp only [Act.put, List.setIfInBounds_toArray, List.set_cons_zero, List.set_cons_succ]
              refine wpAnyH_take2 (i := 6) (t := 103) (v := ?_) rfl rfl (by kernel_rfl) (by kernel_rfl) (by kernel_rfl) (fun _ _ _ h => Only.not_panic h) (Or.inl ⟨by kernel_rfl, fun W hW => ?_⟩) (by assumption) ?_
              rotate_left
              · have hW2 := hW
                obtain ⟨⟨f0, f1, f2, f3, f4, f5, f6, f7, f8, f9, f10, f11, f12⟩, ⟨y0, y1, y2, y3⟩, z0, z1⟩ := HS.out W hW2
                clear hW hW2
                go_simp
                try with_reducible rfl
              try simp only [Act.put, List.setIfInBounds_toArray, List.set_cons_zero, List.set_cons_succ]
              refine wpAnyH_take2 (i := 7) (t := 110) (v := ?_) rfl rfl (by kernel_rfl) (by kernel_rfl) (by kernel_rfl) (fun _ _ _ h => Only.not_panic h) (Or.inl ⟨by kernel_rfl, fun W hW => ?_⟩) (by assumption) ?_
              rotate_left
              · have hW2 := hW
                obtain ⟨⟨f0, f1, f2, f3, f4, f5, f6, f7, f8, f9, f10, f11, f12⟩, ⟨y0, y1, y2, y3⟩, z0, z1⟩ := HS.out W hW2
                clear hW hW2
                go_simp
                try with_reducible rfl
              try simp only [Act.put, List.setIfInBounds_toArray, List.set_cons_zero, List.set_cons_succ]
              refine wpAnyH_take2 (i := 8) (t := 111) (v := ?_) rfl rfl (by kernel_rfl) (by kernel_rfl) (by kernel_rfl) (fun _ _ _ h => Only.not_panic h) (Or.inl ⟨by kernel_rfl, fun W hW => ?_⟩) (by assumption) ?_
              rotate_left
              · have hW2 := hW
                obtain ⟨⟨f0, f1, f2, f3, f4, f5, f6, f7, f8, f9, f10, f11, f12⟩, ⟨y0, y1, y2, y3⟩, z0, z1⟩ := HS.out W hW2
                clear hW hW2
                go_simp
                try with_reducible rfl
              try simp only [Act.put, List.setIfInBounds_toArray, List.set_cons_zero, List.set_cons_succ]
              refine wpAnyH_ready (rs := [10]) (by kernel_rfl) (by simp) ?_
              refine AllReadyH.cons rfl (fun K hK => ?_) ?_
              · have v0 := o9.out.cell 0
                have v1 := o9.out.cell 1
                have g0 := o9.out.frozen 0
                have g1 := o9.out.frozen 1
                simp only [List.getElem?_toArray, List.getElem?_cons_zero, List.getElem?_cons_succ] at v0 v1
                go_simp
                refine hK.out _ _ ?_ (fun hHeld => ?_)
                · first | exact B_alloc hpre _ | exact (hHeld.setCell (by first | omega | (simp only; omega) | (simp; omega)) _).setCell (by first | omega | (simp only; omega) | (simp; omega)) _
                clear hK K
                try simp only [Act.put, List.setIfInBounds_toArray, List.set_cons_zero, List.set_cons_succ]
                refine wpAnyH_take2 (i := 11) (t := 9) (v := ?_) rfl rfl (by kernel_rfl) (by kernel_rfl) (by kernel_rfl) (fun _ _ _ h => Only.not_panic h) (Or.inl ⟨by kernel_rfl, fun W hW => ?_⟩) (by assumption) ?_
                rotate_left
                · have hW2 := hW
                  obtain ⟨⟨f0, f1, f2, f3, f4, f5, f6, f7, f8, f9, f10, f11, f12⟩, ⟨y0, y1, y2, y3⟩, z0, z1⟩ := HS.out W hW2
                  clear hW hW2
                  go_simp
                  try with_reducible rfl
                try simp only [Act.put, List.setIfInBounds_toArray, List.set_cons_zero, List.set_cons_succ]
                refine wpAnyH_done (by kernel_rfl) (Only.mk ?_) _
                go_wp2_with fail
                go_meet
                first | exact ⟨_, rfl, by first | omega | exact Nat.le_refl _, rfl, Ob.new _ _ _, hHeld⟩ | exact ⟨_, rfl, by first | omega | exact Nat.le_refl _, rfl, (o9.out.set 0 _).set 1 _, hHeld⟩
              exact AllReadyH.nil
            exact AllReadyH.nil
          exact AllReadyH.nil
        exact AllReadyH.nil
      case rest =>
        clear HS
        obtain ⟨g, rfl, hg, rfl, oQ, hbc⟩ := hcut
        obtain ⟨s0, s1, -, -⟩ := (O6.out.2.2.2.below hbc).span
        obtain ⟨s2, s3, -, -⟩ := oQ.span
        have BR := Lib.hid (B_trans B6.out hbc)
        have OF := Lib.hid (And.intro (O6.out.2.2.2.below hbc) oQ)
        clear hbc oQ
        go_wp2_with fail
        refine (HL1.out _).mono ?_
        rintro e wf ⟨rfl, hbf⟩
        have BF := Lib.hid (B_trans BR.out hbf)
        clear s0 s1 s2 s3
        obtain ⟨s0, s1, -, -⟩ := (OF.out.1.below hbf).span
        obtain ⟨s2, s3, -, -⟩ := (OF.out.2.below hbf).span
        clear hbf
        go_wp2_with fail
        refine (HL2.out _).mono ?_
        rintro e wg ⟨rfl, hbg⟩
        have BG := Lib.hid (B_trans BF.out hbg)
        clear s0 s1 s2 s3 hbg
        go_wp2_with fail
        refine (HA.out _).mono ?_
        rintro e wh ⟨rfl, hbh⟩
        have BH := Lib.hid (B_trans BG.out hbh)
        clear hbh
        go_wp2
        refine bodyPost_ret (v := .bool true) (by simp [results, Try.results4, go_sem]) rfl ⟨rfl, BH.out⟩
theorem movedLaw_all (t : TkA) (hs ws : List T2) (ds : List T4) (ts : List T3) (x a b : Int) (w : World) (hR : TkR w t hs ws ds ts) (hcap : t.dn ≤ t.dc) (ha : 0 ≤ a ∧ a ≤ 255) (hb : 0 ≤ b ∧ b ≤ 255) :
    Calls Try.prog 4 #[.agg t.cs, .int .i64 x, .agg #[.int .u8 a, .int .u8 b]] w fun e w' => e = .returned (.bool true) ∧ Below w.heap.size w w' := by
  by_cases he : (taskS t.bare_ hs ws ds []).2.2 = 0
  · by_cases hx : t.first ≤ x ∧ x < t.first + (t.dn : Int)
    · exact movedLaw_any t hs ws ds ts x a b w hR hcap he hx ha hb
    · exact movedLaw_out t hs ws ds ts x a b w hR he (by omega)
  · exact movedLaw_bad t hs ws ds ts x a b w hR he
end Go.Proofs.Ytijkhpaiiieanaa

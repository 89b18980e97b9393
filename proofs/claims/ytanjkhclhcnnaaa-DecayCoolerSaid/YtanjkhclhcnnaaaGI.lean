/- The law DecayCooler. -/
import Derived.Test.YtanjkhclhcnnaaaGH
namespace Go.Proofs.Ytanjkhclhcnnaaa
open Go.RowKit Go.Shelf

def need13x : Nat → Nat := fun i => [0, 0, 0, 0, 0, 0, 0, 0, 0, 1, 2, 3, 3].getD i 0
def till13x : Nat → Nat := fun i => [3, 2, 3, 3, 3, 3, 0, 0, 0, 1, 2, 3, 3].getD i 0
def eff13x : Nat → Bool := fun i => [false, false, false, false, false, false, false, false, true, true, true, false, true].getD i false
def V13x (t : TkA) (B T db dO i : Nat) (vd : Value) (a b d0 d1 d2 d3 : Int) (outs : Nat → Value) : Nat → Value
  | 64 => .pointer (some ⟨B, 9, none⟩)
  | 65 => vd
  | 66 => .pointer (some ⟨T, 9, none⟩)
  | 67 => .slice (some ⟨db, dO, none⟩) t.dn t.dc
  | 68 => .int .i64 (i : Nat)
  | 69 => .pointer (some ⟨db, dO + i * 4, none⟩)
  | 70 => .agg #[.int .i64 d0, .int .i64 d1, .int .i64 d2, .int .i64 d3]
  | 71 => .agg #[.int .u8 a, .int .u8 b]
  | 72 => outs 0
  | 73 => outs 1
  | 74 => outs 2
  | 75 => .pointer (some ⟨B, 9, none⟩)
  | _ => undef

structure I13x (t : TkA) (w5 : World) (vd : Value) (L : List T4) (m0 m1 m2 m3 : Int) (k : Nat) (outs : Nat → Value) (W : World) : Prop where
  b : Below w5.heap.size w5 W
  M : k ≤ 2 → LMx t w5 vd vd L W
  o0 : 1 ≤ k → outs 0 = .agg #[.int .i64 m0, .int .i64 m1, .int .i64 m2, .int .i64 m3]
  q : k = 2 → ∃ q, outs 1 = .slice (some ⟨q, 0, none⟩) 1 1 ∧ Ob W q 39 #[.int .i64 m0, .int .i64 m1, .int .i64 m2, .int .i64 m3]
  a : k = 3 → LMx t w5 vd (outs 2) (L ++ [(m0, m1, m2, m3)]) W
  e : k = 4 → LMx t w5 (outs 2) (outs 2) (L ++ [(m0, m1, m2, m3)]) W

set_option maxRecDepth 100000 in
set_option maxHeartbeats 4000000 in
theorem coolLaw_bad (t : TkA) (hs ws : List T2) (ds : List T4) (ts : List T3) (a b x0 x1 x2 : Int) (w : World) (hR : TkR w t hs ws ds ts) (he : (taskS t.bare_ hs ws ds []).2.2 ≠ 0) :
    Calls Try.prog 13 #[.agg t.cs, .agg #[.int .u8 a, .int .u8 b], .agg #[.int .u8 x0, .int .u8 x1, .int .u8 x2]] w fun e w' => e = .returned (.bool true) ∧ Below w.heap.size w w' := by
  obtain ⟨w0, hw0⟩ : ∃ w0, ((w.alloc (.cells t.cs 31)).alloc (.cells #[.int .u8 a, .int .u8 b] 79)).alloc (.cells #[.int .u8 x0, .int .u8 x1, .int .u8 x2] 80) = w0 := ⟨_, rfl⟩
  have hb0 : Below w.heap.size w w0 := by rw [← hw0]; exact B_alloc (B_alloc (B_alloc (Below.refl _ _) _) _) _
  have o0 : Ob w0 w.heap.size 31 t.cs := by rw [← hw0]; exact ((Ob.new _ _ _).alloc _).alloc _
  obtain ⟨w1, hw1⟩ : ∃ w1, w0.setCell ⟨w.heap.size, 12, none⟩ (.slice none 0 0) = w1 := ⟨_, rfl⟩
  have hb1 : Below w.heap.size w w1 := by rw [← hw1]; exact hb0.setCell (Nat.le_refl _) _
  have o1 : Ob w1 w.heap.size 31 #[(.slice t.r.ha t.r.hn t.r.hc), (.slice t.r.wa t.r.wn t.r.wc), (.int .i64 t.r.own), (.int .i64 t.r.feed), (.int .i64 t.r.g0), (.int .i64 t.r.g1), (.int .i64 t.r.g2), (.int .i64 t.r.lost), (.int .i64 t.first), (.slice t.da t.dn t.dc), (.int .i64 t.lo), (.int .i64 t.hi), (.slice none 0 0)] := by rw [← hw1]; simpa using o0.set 12 (.slice none 0 0)
  have hz := o0.frozen 12
  have H2 := fun W (h : Below w.heap.size w W) => levels_bad t.bare_ hs ws ds [] W (hR.bare.below h) he
  have H3 := fun W (h : Below w.heap.size w W) => lostD_bad t.bare_ hs ws ds [] W (hR.bare.below h) he
  have H4 := fun W (h : Below w.heap.size w W) => refCheckTask_any t.bare_ hs ws ds [] W (hR.bare.below h)
  have HA := Lib.hid awake_any
  generalize taskS t.bare_ hs ws ds [] = tr at H2 H3 H4 he
  obtain ⟨c1, c2, c3⟩ := tr
  simp only [tri] at H2 H3 H4 he
  replace H2 := Lib.hid (show ∀ W, Below w.heap.size w W → Calls Try.prog 28 #[.agg #[(.slice t.r.ha t.r.hn t.r.hc), (.slice t.r.wa t.r.wn t.r.wc), (.int .i64 t.r.own), (.int .i64 t.r.feed), (.int .i64 t.r.g0), (.int .i64 t.r.g1), (.int .i64 t.r.g2), (.int .i64 t.r.lost), (.int .i64 t.first), (.slice t.da t.dn t.dc), (.int .i64 t.lo), (.int .i64 t.hi), (.slice none 0 0)]] W fun e w' => e = .returned (.tuple #[.slice none 0 0, .slice none 0 0, .int .i64 c3]) ∧ Below W.heap.size W w' from H2)
  replace H3 := Lib.hid (show ∀ W, Below w.heap.size w W → Calls Try.prog 32 #[.agg #[(.slice t.r.ha t.r.hn t.r.hc), (.slice t.r.wa t.r.wn t.r.wc), (.int .i64 t.r.own), (.int .i64 t.r.feed), (.int .i64 t.r.g0), (.int .i64 t.r.g1), (.int .i64 t.r.g2), (.int .i64 t.r.lost), (.int .i64 t.first), (.slice t.da t.dn t.dc), (.int .i64 t.lo), (.int .i64 t.hi), (.slice none 0 0)]] W fun e w' => e = .returned (.tuple #[.agg #[.int .i64 0, .int .i64 0], .int .i64 c3]) ∧ Below W.heap.size W w' from H3)
  replace H4 := Lib.hid (show ∀ W, Below w.heap.size w W → Calls Try.prog 18 #[.agg #[(.slice t.r.ha t.r.hn t.r.hc), (.slice t.r.wa t.r.wn t.r.wc), (.int .i64 t.r.own), (.int .i64 t.r.feed), (.int .i64 t.r.g0), (.int .i64 t.r.g1), (.int .i64 t.r.g2), (.int .i64 t.r.lost), (.int .i64 t.first), (.slice t.da t.dn t.dc), (.int .i64 t.lo), (.int .i64 t.hi), (.slice none 0 0)]] W fun e w' => e = .returned (.tuple #[.int .i64 c1, .int .i64 c2, .int .i64 c3]) ∧ Below W.heap.size W w' from H4)
  have hq : (c3 != 0) = true := by simpa using he
  obtain ⟨q0, q1, q2, q3, q4, q5, q6, q7, q8, q9, q10, q11, q12⟩ := o0.task
  have W0 := Lib.hid hw0
  have W1 := Lib.hid hw1
  have B1 := Lib.hid hb1
  have O1 := Lib.hid o1
  clear hR he hw0 hw1 hb0 hb1 o0 o1
  go_enter Try.func13, Try.ntmps13
  go_upto_region 1 with fail
  rw [W0.out]
  go_upto_region 2 with fail
  rw [W1.out]
  clear q0 q1 q2 q3 q4 q5 q6 q7 q8 q9 q10 q11 q12 hz
  obtain ⟨q0, q1, q2, q3, q4, q5, q6, q7, q8, q9, q10, q11, q12⟩ := O1.out.thirteen
  go_wp2_with fail
  refine (H2.out w1 B1.out).mono ?_
  rintro e w2 ⟨rfl, hb2⟩
  have B2 := Lib.hid (B_trans B1.out hb2)
  have O2 := Lib.hid (O1.out.below hb2)
  clear q0 q1 q2 q3 q4 q5 q6 q7 q8 q9 q10 q11 q12 hb2
  obtain ⟨q0, q1, q2, q3, q4, q5, q6, q7, q8, q9, q10, q11, q12⟩ := O2.out.thirteen
  go_wp2_with fail
  refine (H3.out w2 B2.out).mono ?_
  rintro e w3 ⟨rfl, hb3⟩
  obtain ⟨w4, hw4⟩ : ∃ w4, w3.alloc (.cells #[.int .i64 0, .int .i64 0] 28) = w4 := ⟨_, rfl⟩
  have hb24 : Below w2.heap.size w2 w4 := by rw [← hw4]; exact B_trans hb3 (B_alloc (Below.refl _ _) _)
  have B4 := Lib.hid (B_trans B2.out hb24)
  have O4 := Lib.hid (O2.out.below hb24)
  have W4 := Lib.hid hw4
  clear q0 q1 q2 q3 q4 q5 q6 q7 q8 q9 q10 q11 q12 hb3 hb24 hw4
  go_upto_region 4 with fail
  rw [W4.out]
  obtain ⟨q0, q1, q2, q3, q4, q5, q6, q7, q8, q9, q10, q11, q12⟩ := O4.out.thirteen
  go_wp2_with fail
  refine (H4.out w4 B4.out).mono ?_
  rintro e w5 ⟨rfl, hb5⟩
  have B5 := Lib.hid (B_trans B4.out hb5)
  clear q0 q1 q2 q3 q4 q5 q6 q7 q8 q9 q10 q11 q12 hb5
  go_wp2_with fail
  refine (HA.out _).mono ?_
  rintro e w6 ⟨rfl, hb6⟩
  have B6 := Lib.hid (B_trans B5.out hb6)
  clear hb6
  go_wp2
  refine bodyPost_ret (v := .bool true) (by simp [results, Try.results13, go_sem]) rfl ⟨rfl, B6.out⟩

set_option maxRecDepth 100000 in
set_option maxHeartbeats 16000000 in
theorem coolLaw_any (t : TkA) (hs ws : List T2) (ds : List T4) (ts : List T3) (a b x0 x1 x2 : Int) (w : World) (hR : TkR w t hs ws ds ts) (he : (taskS t.bare_ hs ws ds []).2.2 = 0) (ha : 0 ≤ a ∧ a ≤ 255) (hb : 0 ≤ b ∧ b ≤ 255) (h0 : 0 ≤ x0 ∧ x0 ≤ 255) (h1 : 0 ≤ x1 ∧ x1 ≤ 255) (h2 : 0 ≤ x2 ∧ x2 ≤ 255) :
    Calls Try.prog 13 #[.agg t.cs, .agg #[.int .u8 a, .int .u8 b], .agg #[.int .u8 x0, .int .u8 x1, .int .u8 x2]] w fun e w' => e = .returned (.bool true) ∧ Below w.heap.size w w' := by
  obtain ⟨w0, hw0⟩ : ∃ w0, ((w.alloc (.cells t.cs 31)).alloc (.cells #[.int .u8 a, .int .u8 b] 79)).alloc (.cells #[.int .u8 x0, .int .u8 x1, .int .u8 x2] 80) = w0 := ⟨_, rfl⟩
  have hb0 : Below w.heap.size w w0 := by rw [← hw0]; exact B_alloc (B_alloc (B_alloc (Below.refl _ _) _) _) _
  have o0 : Ob w0 w.heap.size 31 t.cs := by rw [← hw0]; exact ((Ob.new _ _ _).alloc _).alloc _
  have oY : Ob w0 (w.heap.size + 1) 79 #[.int .u8 a, .int .u8 b] := by
    rw [← hw0]
    have h := (Ob.new (w.alloc (.cells t.cs 31)) #[.int .u8 a, .int .u8 b] 79).alloc (.cells #[.int .u8 x0, .int .u8 x1, .int .u8 x2] 80)
    simpa using h
  have oX : Ob w0 (w.heap.size + 1 + 1) 80 #[.int .u8 x0, .int .u8 x1, .int .u8 x2] := by
    rw [← hw0]
    have h := Ob.new ((w.alloc (.cells t.cs 31)).alloc (.cells #[.int .u8 a, .int .u8 b] 79)) #[.int .u8 x0, .int .u8 x1, .int .u8 x2] 80
    simpa using h
  obtain ⟨w1, hw1⟩ : ∃ w1, w0.setCell ⟨w.heap.size, 12, none⟩ (.slice none 0 0) = w1 := ⟨_, rfl⟩
  have hb1 : Below w.heap.size w w1 := by rw [← hw1]; exact hb0.setCell (Nat.le_refl _) _
  have o1 : Ob w1 w.heap.size 31 #[(.slice t.r.ha t.r.hn t.r.hc), (.slice t.r.wa t.r.wn t.r.wc), (.int .i64 t.r.own), (.int .i64 t.r.feed), (.int .i64 t.r.g0), (.int .i64 t.r.g1), (.int .i64 t.r.g2), (.int .i64 t.r.lost), (.int .i64 t.first), (.slice t.da t.dn t.dc), (.int .i64 t.lo), (.int .i64 t.hi), (.slice none 0 0)] := by rw [← hw1]; simpa using o0.set 12 (.slice none 0 0)
  replace oY : Ob w1 (w.heap.size + 1) 79 #[.int .u8 a, .int .u8 b] := by rw [← hw1]; exact oY.other (by simp only; omega) _
  replace oX : Ob w1 (w.heap.size + 1 + 1) 80 #[.int .u8 x0, .int .u8 x1, .int .u8 x2] := by rw [← hw1]; exact oX.other (by simp only; omega) _
  have hz := o0.frozen 12
  have ok : TaskOK t.bare_ hs ws ds [] := TaskOK.of he
  have hO : RuOK t.r hs ws := RuOK.of ok.r
  have hp : CanOK (t.lo, t.hi) := lv_ok ok.start
  have hdl : ds.length = t.dn := hR.d.len
  have hdn : t.dn ≤ 400 := ok.dn
  have hdy : ∀ i, i < t.dn → dayE (ds.getD i (0, 0, 0, 0)) = 0 := fun i hi => firstE_all.1 ok.days i hi
  have H2 := fun W (h : Below w.heap.size w W) => levels3_any t.bare_ hs ws ds [] W (hR.bare.below h) he
  have H3 := fun W (h : Below w.heap.size w W) => lost_full t.bare_ hs ws ds [] W (hR.bare.below h) he
  have H4 := fun W (h : Below w.heap.size w W) => refCheckTask_any t.bare_ hs ws ds [] W (hR.bare.below h)
  rw [show tri (taskS t.bare_ hs ws ds []) = .tuple #[.int .i64 (taskS t.bare_ hs ws ds []).1, .int .i64 (taskS t.bare_ hs ws ds []).2.1, .int .i64 (taskS t.bare_ hs ws ds []).2.2] from rfl, he] at H4
  have HC := fun da dc => cool_lev (t := t.bare_) (hs := hs) (ws := ws) (ds := ds) ok rfl hdl h0 h1 h2 ha.1 hb.1 da dc
  have HE := fun da dc => (ok.cool hdl h0 h1 h2 ha.1 hb.1 da dc).zero
  generalize (taskS t.bare_ hs ws ds []).1 = c1 at H4
  generalize (taskS t.bare_ hs ws ds []).2.1 = c2 at H4
  obtain ⟨lp, hlp⟩ : ∃ lp, lostP t.bare_ (levT t.bare_ hs ws ds []) = lp := ⟨_, rfl⟩
  rw [hlp] at H3
  generalize (reachT t.bare_ hs ws ds []).struck = S at H2
  have HA := Lib.hid awake_any
  have G2 := Lib.hid (show ∀ W, Below w.heap.size w W → Calls Try.prog 28 #[.agg #[(.slice t.r.ha t.r.hn t.r.hc), (.slice t.r.wa t.r.wn t.r.wc), (.int .i64 t.r.own), (.int .i64 t.r.feed), (.int .i64 t.r.g0), (.int .i64 t.r.g1), (.int .i64 t.r.g2), (.int .i64 t.r.lost), (.int .i64 t.first), (.slice t.da t.dn t.dc), (.int .i64 t.lo), (.int .i64 t.hi), (.slice none 0 0)]] W fun e w' => ∃ la lc sa sc, e = .returned (.tuple #[.slice la (t.dn + 1) lc, .slice sa S.length sc, .int .i64 0]) ∧ Sl2 w' la (t.dn + 1) (levT t.bare_ hs ws ds []) ∧ Sl2 w' sa S.length S ∧ Below W.heap.size W w' from H2)
  have G3 := Lib.hid (show ∀ W, Below w.heap.size w W → Calls Try.prog 32 #[.agg #[(.slice t.r.ha t.r.hn t.r.hc), (.slice t.r.wa t.r.wn t.r.wc), (.int .i64 t.r.own), (.int .i64 t.r.feed), (.int .i64 t.r.g0), (.int .i64 t.r.g1), (.int .i64 t.r.g2), (.int .i64 t.r.lost), (.int .i64 t.first), (.slice t.da t.dn t.dc), (.int .i64 t.lo), (.int .i64 t.hi), (.slice none 0 0)]] W fun e w' => e = .returned (.tuple #[.agg #[.int .i64 lp.1, .int .i64 lp.2], .int .i64 0]) ∧ Below W.heap.size W w' from H3)
  have G4 := Lib.hid (show ∀ W, Below w.heap.size w W → Calls Try.prog 18 #[.agg #[(.slice t.r.ha t.r.hn t.r.hc), (.slice t.r.wa t.r.wn t.r.wc), (.int .i64 t.r.own), (.int .i64 t.r.feed), (.int .i64 t.r.g0), (.int .i64 t.r.g1), (.int .i64 t.r.g2), (.int .i64 t.r.lost), (.int .i64 t.first), (.slice t.da t.dn t.dc), (.int .i64 t.lo), (.int .i64 t.hi), (.slice none 0 0)]] W fun e w' => e = .returned (.tuple #[.int .i64 c1, .int .i64 c2, .int .i64 0]) ∧ Below W.heap.size W w' from H4)
  have HCL := Lib.hid HC
  have HEE := Lib.hid HE
  have LP := Lib.hid hlp
  have HDY := Lib.hid hdy
  have hown := hO.own
  have hfeed := hO.feed
  have hpa := hp.a
  have hpb := hp.b
  have hple := hp.le
  simp only at hpa hpb hple
  obtain ⟨q0, q1, q2, q3, q4, q5, q6, q7, q8, q9, q10, q11, q12⟩ := o0.task
  have W0 := Lib.hid hw0
  have W1 := Lib.hid hw1
  have B1 := Lib.hid hb1
  have O1 := Lib.hid (And.intro o1 (And.intro oY oX))
  clear he hw0 hw1 hb0 hb1 o0 o1 oY oX ok hO hp hdy H2 H3 H4 HC HE hlp
  go_enter Try.func13, Try.ntmps13
  go_upto_region 1 with fail
  rw [W0.out]
  go_upto_region 2 with fail
  rw [W1.out]
  clear q0 q1 q2 q3 q4 q5 q6 q7 q8 q9 q10 q11 q12 hz
  obtain ⟨q0, q1, q2, q3, q4, q5, q6, q7, q8, q9, q10, q11, q12⟩ := O1.out.1.thirteen
  go_wp2_with fail
  refine (G2.out w1 B1.out).mono ?_
  rintro e w2 ⟨la, lc, sa, sc, rfl, hLs, -, hb2⟩
  have B2 := Lib.hid (B_trans B1.out hb2)
  have O2 := Lib.hid (And.intro (O1.out.1.below hb2) (And.intro (O1.out.2.1.below hb2) (And.intro (O1.out.2.2.below hb2) hLs)))
  clear q0 q1 q2 q3 q4 q5 q6 q7 q8 q9 q10 q11 q12 hb2 hLs
  obtain ⟨q0, q1, q2, q3, q4, q5, q6, q7, q8, q9, q10, q11, q12⟩ := O2.out.1.thirteen
  go_wp2_with fail
  refine (G3.out w2 B2.out).mono ?_
  rintro e w3 ⟨rfl, hb3⟩
  obtain ⟨w4, hw4⟩ : ∃ w4, w3.alloc (.cells #[.int .i64 lp.1, .int .i64 lp.2] 28) = w4 := ⟨_, rfl⟩
  have hb24 : Below w2.heap.size w2 w4 := by rw [← hw4]; exact B_trans hb3 (B_alloc (Below.refl _ _) _)
  have oP : Ob w4 w3.heap.size 28 #[.int .i64 lp.1, .int .i64 lp.2] := by rw [← hw4]; exact Ob.new _ _ _
  have B4 := Lib.hid (B_trans B2.out hb24)
  have O4 := Lib.hid (And.intro (O2.out.1.below hb24) (And.intro (O2.out.2.1.below hb24) (And.intro (O2.out.2.2.1.below hb24) (And.intro (O2.out.2.2.2.below hb24) oP))))
  have W4 := Lib.hid hw4
  clear q0 q1 q2 q3 q4 q5 q6 q7 q8 q9 q10 q11 q12 hb3 hb24 hw4 oP O1
  go_upto_region 4 with fail
  rw [W4.out]
  obtain ⟨q0, q1, q2, q3, q4, q5, q6, q7, q8, q9, q10, q11, q12⟩ := O4.out.1.thirteen
  go_wp2_with fail
  refine (G4.out w4 B4.out).mono ?_
  rintro e w5 ⟨rfl, hb5⟩
  have B5 := Lib.hid (B_trans B4.out hb5)
  have O5 := Lib.hid (And.intro (O4.out.1.below hb5) (And.intro (O4.out.2.1.below hb5) (And.intro (O4.out.2.2.1.below hb5) (And.intro (O4.out.2.2.2.1.below hb5) (O4.out.2.2.2.2.below hb5)))))
  clear q0 q1 q2 q3 q4 q5 q6 q7 q8 q9 q10 q11 q12 hb5 O2 O4
  obtain ⟨q0, q1, q2, q3, q4, q5, q6, q7, q8, q9, q10, q11, q12⟩ := O5.out.1.thirteen
  have gT := O5.out.1.lt
  have hM0 : LMx t w5 (.slice none 0 0) (.slice none 0 0) [] (w5.alloc (.cells #[(.slice t.r.ha t.r.hn t.r.hc), (.slice t.r.wa t.r.wn t.r.wc), (.int .i64 t.r.own), (.int .i64 t.r.feed), (.int .i64 t.r.g0), (.int .i64 t.r.g1), (.int .i64 t.r.g2), (.int .i64 t.r.lost), (.int .i64 t.first), (.slice none 0 0), (.int .i64 t.lo), (.int .i64 t.hi), (.slice none 0 0)] 31)) := ⟨Ob.new _ _ _, ⟨rfl, Or.inl ⟨rfl, rfl⟩⟩, B_alloc (Below.refl _ _) _⟩
  have M0 := Lib.hid hM0
  clear hM0
  go_upto_region 9 with fail
  clear q0 q1 q2 q3 q4 q5 q6 q7 q8 q9 q10 q11 q12
  go_wp2_with fail
  go_loopg [16] t.dn (fun gk iv wr => ∃ (i : Nat) (vd : Value), gk = t.dn - i ∧ iv = .int .i64 (i : Int) ∧ i ≤ t.dn ∧ LMx t w5 vd vd ((ds.map fun d => lowerF d a b).take i) wr)
  case atStart => exact ⟨0, _, rfl, rfl, Nat.zero_le _, M0.out⟩
  case round =>
    obtain ⟨i, vd, rfl, rfl, hi, hM⟩ := hrel
    clear M0
    have hML : (ds.map fun d => lowerF d a b).length = t.dn := by rw [List.length_map]; exact hdl
    obtain ⟨q0, q1, q2, q3, q4, q5, q6, q7, q8, q9, q10, q11, q12⟩ := (O5.out.1.below hM.b).thirteen
    by_cases hlt : i < t.dn
    · have hsn := take_snoc4 (L := ds.map fun d => lowerF d a b) (i := i) (by omega)
      have hll : ((ds.map fun d => lowerF d a b).take i).length ≤ 100000 := by rw [List.length_take]; omega
      rw [show (ds.map fun d => lowerF d a b).getD i (0, 0, 0, 0) = lowerF (ds.getD i (0, 0, 0, 0)) a b by simp [List.getD, hdl, hlt]] at hsn
      have HLw := Lib.hid (fun W' => lower_any (ds.getD i (0, 0, 0, 0)) a b W' ha hb (HDY.out i hlt))
      obtain ⟨db, dO, hda, hdb, hdd⟩ := (hR.below B5.out).d.at_ (by omega)
      obtain ⟨y0', y1', y2', y3'⟩ := hdd i hlt
      generalize ds.getD i (0, 0, 0, 0) = d at y0' y1' y2' y3' HLw hsn
      obtain ⟨d0, d1, d2, d3⟩ := d
      generalize lowerF (d0, d1, d2, d3) a b = m at HLw hsn
      obtain ⟨m0, m1, m2, m3⟩ := m
      simp only at y0' y1' y2' y3' HLw
      obtain ⟨L, hL⟩ : ∃ L, (ds.map fun d => lowerF d a b).take i = L := ⟨_, rfl⟩
      rw [hL] at hM hsn hll
      have SN := Lib.hid hsn
      have HS := Lib.hid (fun (W' : World) (hh : Below w5.heap.size w5 W') => (show (W'.cell? ⟨w.heap.size, 0, none⟩ = some (.slice t.r.ha t.r.hn t.r.hc) ∧ W'.cell? ⟨w.heap.size, 1, none⟩ = some (.slice t.r.wa t.r.wn t.r.wc) ∧ W'.cell? ⟨w.heap.size, 2, none⟩ = some (.int .i64 t.r.own) ∧ W'.cell? ⟨w.heap.size, 3, none⟩ = some (.int .i64 t.r.feed) ∧ W'.cell? ⟨w.heap.size, 4, none⟩ = some (.int .i64 t.r.g0) ∧ W'.cell? ⟨w.heap.size, 5, none⟩ = some (.int .i64 t.r.g1) ∧ W'.cell? ⟨w.heap.size, 6, none⟩ = some (.int .i64 t.r.g2) ∧ W'.cell? ⟨w.heap.size, 7, none⟩ = some (.int .i64 t.r.lost) ∧ W'.cell? ⟨w.heap.size, 8, none⟩ = some (.int .i64 t.first) ∧ W'.cell? ⟨w.heap.size, 9, none⟩ = some (.slice (some ⟨db, dO, none⟩) t.dn t.dc) ∧ W'.cell? ⟨w.heap.size, 10, none⟩ = some (.int .i64 t.lo) ∧ W'.cell? ⟨w.heap.size, 11, none⟩ = some (.int .i64 t.hi) ∧ W'.cell? ⟨w.heap.size, 12, none⟩ = some (.slice none 0 0)) ∧ W'.cell? ⟨db, dO + i * 4, none⟩ = some (.int .i64 d0) ∧ W'.cell? ⟨db, dO + i * 4 + 1, none⟩ = some (.int .i64 d1) ∧ W'.cell? ⟨db, dO + i * 4 + 2, none⟩ = some (.int .i64 d2) ∧ W'.cell? ⟨db, dO + i * 4 + 3, none⟩ = some (.int .i64 d3) ∧ W'.cell? ⟨w.heap.size + 1, 0, none⟩ = some (.int .u8 a) ∧ W'.cell? ⟨w.heap.size + 1, 1, none⟩ = some (.int .u8 b) from ⟨by have h := (O5.out.1.below hh).thirteen; rwa [hda] at h, (hh.cell (p := ⟨db, _, none⟩) hdb).trans y0', (hh.cell (p := ⟨db, _, none⟩) hdb).trans y1', (hh.cell (p := ⟨db, _, none⟩) hdb).trans y2', (hh.cell (p := ⟨db, _, none⟩) hdb).trans y3', (O5.out.2.1.below hh).cell 0, (O5.out.2.1.below hh).cell 1⟩))
      have a1 : (0 : Int) ≤ i := by omega
      have a2 : (i : Int) < t.dn := by omega
      have MM := Lib.hid hM
      clear hM hsn hda hdd y0' y1' y2' y3' hL
      go_upto_region 12 with fail
      clear q0 q1 q2 q3 q4 q5 q6 q7 q8 q9 q10 q11 q12
      have J0 : Hid (I13x t w5 vd L m0 m1 m2 m3 0 (fun _ => undef) wr.drew) :=
        ⟨MM.out.b.drew, fun _ => MM.out.below (Below.refl _ _).drew, fun h => by omega, fun h => by omega, fun h => by omega, fun h => by omega⟩
      clear MM
      refine wp_region_steps (I := I13x t w5 vd L m0 m1 m2 m3) (V := V13x t w5.heap.size w.heap.size db dO i vd a b d0 d1 d2 d3) (eff := eff13x) (need := need13x) (till := till13x) 4 (by kernel_rfl) (by decide) (by kernel_rfl) rfl (by kernel_rfl) (by kernel_rfl) (by kernel_rfl) (by kernel_rfl) (by kernel_rfl) J0.out ?steps ?hend
      case hend =>
        intro outs w' hI
        have hE := Lib.hid (hI.e rfl)
        clear hI J0
        simp only [flowAct, List.filterMap_cons, List.filterMap_nil, patch, List.setIfInBounds_toArray, List.set_cons_zero, List.set_cons_succ]
        go_wp2_with fail
        go_roundg (t.dn - (i + 1))
        case measure => omega
        case rel => exact ⟨i + 1, _, rfl, by push_cast; rfl, by omega, by rw [SN.out]; exact hE.out⟩
      case steps =>
        refine ⟨⟨rfl, fun t ht k' outs u _ => by cases ht; rfl, fun k' outs W' ρ hk1 hk2 hI hc hg h_fn hr ho => ?_⟩, ?_⟩
        · have hk2' : k' ≤ 3 := hk2
          have o15 := ho 15 (by kernel_rfl)
          clear hI
          refine step_pure rfl (v := .pointer (some ⟨w5.heap.size, 9, none⟩)) (fun t ht => by cases ht; rfl) ?_
          go_simp
        refine ⟨⟨rfl, fun t ht k' outs u _ => by cases ht; rfl, fun k' outs W' ρ hk1 hk2 hI hc hg h_fn hr ho => ?_⟩, ?_⟩
        · have hk2' : k' ≤ 2 := hk2
          have r64 : ρ (.tmp 64) = .pointer (some ⟨w5.heap.size, 9, none⟩) := hr 64 (by kernel_rfl)
          obtain ⟨u0, u1, u2, u3, u4, u5, u6, u7, u8, u9, u10, u11, u12⟩ := (hI.M (by omega)).U.thirteen
          clear hI
          refine step_pure rfl (v := vd) (fun t ht => by cases ht; rfl) ?_
          go_simp
        refine ⟨⟨rfl, fun t ht k' outs u _ => by cases ht; rfl, fun k' outs W' ρ hk1 hk2 hI hc hg h_fn hr ho => ?_⟩, ?_⟩
        · have hk2' : k' ≤ 3 := hk2
          have o3 := ho 3 (by kernel_rfl)
          clear hI
          refine step_pure rfl (v := .pointer (some ⟨w.heap.size, 9, none⟩)) (fun t ht => by cases ht; rfl) ?_
          go_simp
        refine ⟨⟨rfl, fun t ht k' outs u _ => by cases ht; rfl, fun k' outs W' ρ hk1 hk2 hI hc hg h_fn hr ho => ?_⟩, ?_⟩
        · have hk2' : k' ≤ 3 := hk2
          have r66 : ρ (.tmp 66) = .pointer (some ⟨w.heap.size, 9, none⟩) := hr 66 (by kernel_rfl)
          obtain ⟨f0, f1, f2, f3, f4, f5, f6, f7, f8, f9, f10, f11, f12⟩ := HS.out W' hI.b |>.1
          clear hI
          refine step_pure rfl (v := .slice (some ⟨db, dO, none⟩) t.dn t.dc) (fun t ht => by cases ht; rfl) ?_
          go_simp
        refine ⟨⟨rfl, fun t ht k' outs u _ => by cases ht; rfl, fun k' outs W' ρ hk1 hk2 hI hc hg h_fn hr ho => ?_⟩, ?_⟩
        · have hk2' : k' ≤ 3 := hk2
          have o16 := ho 16 (by kernel_rfl)
          clear hI
          refine step_pure rfl (v := .int .i64 (i : Nat)) (fun t ht => by cases ht; rfl) ?_
          go_simp
        refine ⟨⟨rfl, fun t ht k' outs u _ => by cases ht; rfl, fun k' outs W' ρ hk1 hk2 hI hc hg h_fn hr ho => ?_⟩, ?_⟩
        · have hk2' : k' ≤ 3 := hk2
          have r67 : ρ (.tmp 67) = .slice (some ⟨db, dO, none⟩) t.dn t.dc := hr 67 (by kernel_rfl)
          have r68 : ρ (.tmp 68) = .int .i64 (i : Nat) := hr 68 (by kernel_rfl)
          clear hI
          refine step_pure rfl (v := .pointer (some ⟨db, dO + i * 4, none⟩)) (fun t ht => by cases ht; rfl) ?_
          go_simp
        refine ⟨⟨rfl, fun t ht k' outs u _ => by cases ht; rfl, fun k' outs W' ρ hk1 hk2 hI hc hg h_fn hr ho => ?_⟩, ?_⟩
        · have hk2' : k' ≤ 0 := hk2
          have r69 : ρ (.tmp 69) = .pointer (some ⟨db, dO + i * 4, none⟩) := hr 69 (by kernel_rfl)
          obtain ⟨-, y0, y1, y2, y3, -, -⟩ := HS.out W' hI.b
          clear hI
          refine step_pure rfl (v := .agg #[.int .i64 d0, .int .i64 d1, .int .i64 d2, .int .i64 d3]) (fun t ht => by cases ht; rfl) ?_
          go_simp
        refine ⟨⟨rfl, fun t ht k' outs u _ => by cases ht; rfl, fun k' outs W' ρ hk1 hk2 hI hc hg h_fn hr ho => ?_⟩, ?_⟩
        · have hk2' : k' ≤ 0 := hk2
          have o4 := ho 4 (by kernel_rfl)
          obtain ⟨-, -, -, -, -, z0, z1⟩ := HS.out W' hI.b
          clear hI
          refine step_pure rfl (v := .agg #[.int .u8 a, .int .u8 b]) (fun t ht => by cases ht; rfl) ?_
          go_simp
        refine ⟨⟨rfl, fun t ht k' outs u (h : 0 < k') => by cases ht; show upd outs k' u 0 = outs 0; unfold upd; rw [if_neg (by omega)], fun k' outs W' ρ hk1 hk2 hI hc hg h_fn hr ho => ?_⟩, ?_⟩
        · obtain rfl : k' = 0 := by have h1 : 0 ≤ k' := hk1; have h2 : k' ≤ 0 := hk2; omega
          have r70 : ρ (.tmp 70) = .agg #[.int .i64 d0, .int .i64 d1, .int .i64 d2, .int .i64 d3] := hr 70 (by kernel_rfl)
          have r71 : ρ (.tmp 71) = .agg #[.int .u8 a, .int .u8 b] := hr 71 (by kernel_rfl)
          have hfn := h_fn 45
          refine step_call rfl (f := 45) (args := #[.agg #[.int .i64 d0, .int .i64 d1, .int .i64 d2, .int .i64 d3], .agg #[.int .u8 a, .int .u8 b]]) (w' := W') ?_ ?_
          · clear hI; go_simp
          · refine (HLw.out W').mono ?_
            rintro e w2 ⟨rfl, hb2⟩
            exact ⟨_, rfl, ⟨B_trans hI.b hb2, fun _ => (hI.M (by omega)).below hb2, fun _ => rfl, fun h => by omega, fun h => by omega, fun h => by omega⟩, fun t ht => by cases ht; rfl⟩
        refine ⟨⟨rfl, fun t ht k' outs u (h : 1 < k') => by cases ht; show upd outs k' u 1 = outs 1; unfold upd; rw [if_neg (by omega)], fun k' outs W' ρ hk1 hk2 hI hc hg h_fn hr ho => ?_⟩, ?_⟩
        · obtain rfl : k' = 1 := by have h1 : 1 ≤ k' := hk1; have h2 : k' ≤ 1 := hk2; omega
          have r72 : ρ (.tmp 72) = .agg #[.int .i64 m0, .int .i64 m1, .int .i64 m2, .int .i64 m3] := (hr 72 (by kernel_rfl)).trans (hI.o0 (by omega))
          have hbl := B_alloc (Below.refl W'.heap.size W') (.cells #[.int .i64 m0, .int .i64 m1, .int .i64 m2, .int .i64 m3] 39)
          refine step_new rfl (v := .slice (some ⟨W'.heap.size, 0, none⟩) 1 1) (w' := W'.alloc (.cells #[.int .i64 m0, .int .i64 m1, .int .i64 m2, .int .i64 m3] 39)) ?_ ⟨B_trans hI.b hbl, fun _ => (hI.M (by omega)).below hbl, fun _ => hI.o0 (by omega), fun _ => ⟨_, rfl, Ob.new _ _ _⟩, fun h => by omega, fun h => by omega⟩ (fun t ht => by cases ht; rfl)
          clear hI hbl; go_simp
        refine ⟨⟨rfl, fun t ht k' outs u (h : 2 < k') => by cases ht; show upd outs k' u 2 = outs 2; unfold upd; rw [if_neg (by omega)], fun k' outs W' ρ hk1 hk2 hI hc hg h_fn hr ho => ?_⟩, ?_⟩
        · obtain rfl : k' = 2 := by have h1 : 2 ≤ k' := hk1; have h2 : k' ≤ 2 := hk2; omega
          have r65 : ρ (.tmp 65) = vd := hr 65 (by kernel_rfl)
          have r73 : ρ (.tmp 73) = outs 1 := hr 73 (by kernel_rfl)
          obtain ⟨qn, hq1, hq2⟩ := hI.q rfl
          replace r73 := r73.trans hq1
          have hM3 := hI.M (by omega)
          obtain ⟨v', w2, hrun, hown, hgr⟩ := joinedD hM3.R hq2 (by omega) hM3.sz
          exact step_new rfl (run_append_op rfl r65 r73 hrun) ⟨(hM3.add (x := (m0, m1, m2, m3)) hgr hown).b, fun h => by omega, fun _ => hI.o0 (by omega), fun h => by omega, fun _ => hM3.add (x := (m0, m1, m2, m3)) hgr hown, fun h => by omega⟩ (fun t ht => by cases ht; rfl)
        refine ⟨⟨rfl, fun t ht k' outs u _ => by cases ht; rfl, fun k' outs W' ρ hk1 hk2 hI hc hg h_fn hr ho => ?_⟩, ?_⟩
        · have hk2' : k' ≤ 3 := hk2
          have hk1' : 3 ≤ k' := hk1
          have o15 := ho 15 (by kernel_rfl)
          clear hI
          refine step_pure rfl (v := .pointer (some ⟨w5.heap.size, 9, none⟩)) (fun t ht => by cases ht; rfl) ?_
          go_simp
        refine ⟨⟨rfl, (fun t ht => by cases ht), fun k' outs W' ρ hk1 hk2 hI hc hg h_fn hr ho => ?_⟩, trivial⟩
        · obtain rfl : k' = 3 := by have h1 : 3 ≤ k' := hk1; have h2 : k' ≤ 3 := hk2; omega
          have r74 : ρ (.tmp 74) = outs 2 := hr 74 (by kernel_rfl)
          have r75 : ρ (.tmp 75) = .pointer (some ⟨w5.heap.size, 9, none⟩) := hr 75 (by kernel_rfl)
          have hM3 := hI.a rfl
          obtain ⟨qn, qc, hv⟩ := row4_form hM3.R (by simp)
          replace r74 := r74.trans hv
          obtain ⟨u0, u1, u2, u3, u4, u5, u6, u7, u8, u9, u10, u11, u12⟩ := hM3.U.thirteen
          have e9 := hM3.U.frozen 9
          have hM4 := hM3.set
          rw [hv] at hM4
          refine step_store rfl rfl (w' := W'.setCell ⟨w5.heap.size, 9, none⟩ (.slice (some ⟨qn, 0, none⟩) (L ++ [(m0, m1, m2, m3)]).length qc)) ?_ ⟨hM4.b, fun h => by omega, fun _ => hI.o0 (by omega), fun h => by omega, fun h => by omega, fun _ => ?_⟩
          · clear hI hM3 hM4; go_simp
          · show LMx t w5 (outs 2) (outs 2) (L ++ [(m0, m1, m2, m3)]) _
            rw [hv]; exact hM4
    · obtain rfl : i = t.dn := by omega
      have h3 : ¬ (t.dn : Int) < t.dn := by omega
      rw [List.take_of_length_le (by omega)] at hM
      obtain ⟨LL, hLL⟩ : ∃ LL, (ds.map fun d => lowerF d a b) = LL := ⟨_, rfl⟩
      have hR4 := hM.R
      rw [hML] at hR4
      obtain ⟨da, dc, rfl, -⟩ := sl4_row hR4
      have HC' := HCL.out da dc
      have HE' := HEE.out da dc
      rw [hLL] at hR4 HC' HE'
      have hU := hM.U
      have hBw := hM.b
      have e1 : 0 ≤ t.lo / 255 := Int.ediv_nonneg hpa.1 (by decide)
      have e2 : 0 ≤ t.lo / 255 * x0 := Int.mul_nonneg e1 h0.1
      have e3 : t.lo / 255 * x0 ≤ t.lo / 255 * 255 := Int.mul_le_mul_of_nonneg_left h0.2 e1
      have u0 : IntKind.i64.wrap x0 = x0 := IntWalk.i64_in _ (by omega)
      have u1 : IntKind.i64.wrap (t.lo / 255 * x0) = t.lo / 255 * x0 := IntWalk.i64_in _ (by omega)
      have u2 : IntKind.i64.wrap (t.lo - t.lo / 255 * x0) = t.lo - t.lo / 255 * x0 := IntWalk.i64_in _ (by omega)
      have u3 : IntKind.i64.wrap (t.hi - t.lo / 255 * x0) = t.hi - t.lo / 255 * x0 := IntWalk.i64_in _ (by omega)
      obtain ⟨p1, p2⟩ := hpa
      obtain ⟨z0, z1, z2⟩ := (O5.out.2.2.1.below hBw).three
      have HSp := Lib.hid (fun x y W' => lawSpan_any x y W')
      have HCC := Lib.hid HC'
      have HEF := Lib.hid HE'
      have UU := Lib.hid (And.intro hU (And.intro hR4 hBw))
      clear hM hR4 hU HC' HE' hML
      go_wp2_with fail
      refine (HSp.out _ _ _).mono ?_
      rintro e w8 ⟨rfl, hb8⟩
      have hU8 := UU.out.1.below hb8
      obtain ⟨v0, v1, v2, v3, v4, v5, v6, v7, v8, v9, v10, v11, v12⟩ := hU8.thirteen
      have g10 := hU8.frozen 10
      have g11 := hU8.frozen 11
      obtain ⟨w9, hw9⟩ : ∃ w9, (w8.setCell ⟨w5.heap.size, 10, none⟩ (.int .i64 (t.lo - t.lo / 255 * x0))).setCell ⟨w5.heap.size, 11, none⟩ (.int .i64 (t.hi - t.lo / 255 * x0)) = w9 := ⟨_, rfl⟩
      have o9' : Ob w9 w5.heap.size 31 #[(.slice t.r.ha t.r.hn t.r.hc), (.slice t.r.wa t.r.wn t.r.wc), (.int .i64 t.r.own), (.int .i64 t.r.feed), (.int .i64 t.r.g0), (.int .i64 t.r.g1), (.int .i64 t.r.g2), (.int .i64 t.r.lost), (.int .i64 t.first), (.slice da t.dn dc), (.int .i64 (t.lo - t.lo / 255 * x0)), (.int .i64 (t.hi - t.lo / 255 * x0)), (.slice none 0 0)] := by rw [← hw9]; simpa using (hU8.set 10 _).set 11 _
      have b9' : Below w5.heap.size w5 w9 := by rw [← hw9]; exact ((B_trans UU.out.2.2 hb8).setCell (Nat.le_refl _) _).setCell (Nat.le_refl _) _
      have r9' : w9.ownsRow (w5.heap.size + 1) 39 4 (.slice da t.dn dc) t.dn (flat4 LL) := by rw [← hw9]; exact row_setb (row_setb (row_below UU.out.2.1 hb8) (Nat.lt_succ_self _) _ _) (Nat.lt_succ_self _) _ _
      have W9 := Lib.hid hw9
      have U9 := Lib.hid (And.intro o9' (And.intro b9' r9'))
      clear hb8 hU8 hw9 o9' b9' r9' q0 q1 q2 q3 q4 q5 q6 q7 q8 q9 q10 q11 q12 z0 z1 z2
      go_upto_region 14 with fail
      rw [W9.out]
      clear v0 v1 v2 v3 v4 v5 v6 v7 v8 v9 v10 v11 v12 g10 g11
      have o9 := Lib.hid (U9.out.1.drew)
      have HT := Lib.hid (fun (W' : World) (hh : Below w5.heap.size w5 W') => (show (W'.cell? ⟨w.heap.size, 0, none⟩ = some (.slice t.r.ha t.r.hn t.r.hc) ∧ W'.cell? ⟨w.heap.size, 1, none⟩ = some (.slice t.r.wa t.r.wn t.r.wc) ∧ W'.cell? ⟨w.heap.size, 2, none⟩ = some (.int .i64 t.r.own) ∧ W'.cell? ⟨w.heap.size, 3, none⟩ = some (.int .i64 t.r.feed) ∧ W'.cell? ⟨w.heap.size, 4, none⟩ = some (.int .i64 t.r.g0) ∧ W'.cell? ⟨w.heap.size, 5, none⟩ = some (.int .i64 t.r.g1) ∧ W'.cell? ⟨w.heap.size, 6, none⟩ = some (.int .i64 t.r.g2) ∧ W'.cell? ⟨w.heap.size, 7, none⟩ = some (.int .i64 t.r.lost) ∧ W'.cell? ⟨w.heap.size, 8, none⟩ = some (.int .i64 t.first) ∧ W'.cell? ⟨w.heap.size, 9, none⟩ = some (.slice t.da t.dn t.dc) ∧ W'.cell? ⟨w.heap.size, 10, none⟩ = some (.int .i64 t.lo) ∧ W'.cell? ⟨w.heap.size, 11, none⟩ = some (.int .i64 t.hi) ∧ W'.cell? ⟨w.heap.size, 12, none⟩ = some (.slice none 0 0)) ∧ W'.cell? ⟨w.heap.size + 1 + 1, 0, none⟩ = some (.int .u8 x0) ∧ W'.cell? ⟨w.heap.size + 1 + 1, 1, none⟩ = some (.int .u8 x1) ∧ W'.cell? ⟨w.heap.size + 1 + 1, 2, none⟩ = some (.int .u8 x2) from ⟨(O5.out.1.below hh).thirteen, (O5.out.2.2.1.below hh).three⟩))
      obtain ⟨n1, n2⟩ := hown
      obtain ⟨n3, n4⟩ := hfeed
      have e4 : 0 ≤ t.r.own / 255 := Int.ediv_nonneg n1 (by decide)
      have e5 : 0 ≤ t.r.own / 255 * x1 := Int.mul_nonneg e4 h1.1
      have e6 : t.r.own / 255 * x1 ≤ t.r.own / 255 * 255 := Int.mul_le_mul_of_nonneg_left h1.2 e4
      have e7 : 0 ≤ t.r.feed / 255 := Int.ediv_nonneg n3 (by decide)
      have e8 : 0 ≤ t.r.feed / 255 * x2 := Int.mul_nonneg e7 h2.1
      have e9 : t.r.feed / 255 * x2 ≤ t.r.feed / 255 * 255 := Int.mul_le_mul_of_nonneg_left h2.2 e7
      have k1 : t.r.own.tdiv 255 = t.r.own / 255 := Int.tdiv_eq_ediv_of_nonneg n1
      have k2 : t.r.feed.tdiv 255 = t.r.feed / 255 := Int.tdiv_eq_ediv_of_nonneg n3
      have k3 : IntKind.i64.wrap (t.r.own / 255) = t.r.own / 255 := IntWalk.i64_in _ (by omega)
      have k4 : IntKind.i64.wrap (t.r.feed / 255) = t.r.feed / 255 := IntWalk.i64_in _ (by omega)
      have u4 : IntKind.i64.wrap x1 = x1 := IntWalk.i64_in _ (by omega)
      have u5 : IntKind.i64.wrap x2 = x2 := IntWalk.i64_in _ (by omega)
      have u6 : IntKind.i64.wrap (t.r.own / 255 * x1) = t.r.own / 255 * x1 := IntWalk.i64_in _ (by omega)
      have u7 : IntKind.i64.wrap (t.r.own - t.r.own / 255 * x1) = t.r.own - t.r.own / 255 * x1 := IntWalk.i64_in _ (by omega)
      have u8 : IntKind.i64.wrap (t.r.feed / 255 * x2) = t.r.feed / 255 * x2 := IntWalk.i64_in _ (by omega)
      have u9 : IntKind.i64.wrap (t.r.feed - t.r.feed / 255 * x2) = t.r.feed - t.r.feed / 255 * x2 := IntWalk.i64_in _ (by omega)
      go_cut [] (fun wx => Ob wx w5.heap.size 31 #[(.slice t.r.ha t.r.hn t.r.hc), (.slice t.r.wa t.r.wn t.r.wc), (.int .i64 (t.r.own - t.r.own / 255 * x1)), (.int .i64 (t.r.feed - t.r.feed / 255 * x2)), (.int .i64 t.r.g0), (.int .i64 t.r.g1), (.int .i64 t.r.g2), (.int .i64 t.r.lost), (.int .i64 t.first), (.slice da t.dn dc), (.int .i64 (t.lo - t.lo / 255 * x0)), (.int .i64 (t.hi - t.lo / 255 * x0)), (.slice none 0 0)] ∧ Below w5.heap.size w5 wx ∧ wx.ownsRow (w5.heap.size + 1) 39 4 (.slice da t.dn dc) t.dn (flat4 LL))
      case first =>
        refine wp_region_held' (S := fun W' => Below w5.heap.size w5 W' ∧ W'.ownsRow (w5.heap.size + 1) 39 4 (.slice da t.dn dc) t.dn (flat4 LL)) (by kernel_rfl) (⟨U9.out.2.1.drew, row_below U9.out.2.2 (Below.refl _ _).drew⟩) (fun hHeld => ?_)
        generalize w9.drew = wd at o9 hHeld ⊢
        refine wpAnyH_take2 (i := 0) (t := 102) (v := ?_) rfl rfl (by kernel_rfl) (by kernel_rfl) (by kernel_rfl) (fun _ _ _ h => Only.not_panic h) (Or.inl ⟨by kernel_rfl, fun W hW => ?_⟩) (by assumption) ?_
        rotate_left
        · have hW2 := hW
          obtain ⟨⟨f0, f1, f2, f3, f4, f5, f6, f7, f8, f9, f10, f11, f12⟩, y0, y1, y2⟩ := HT.out W hW2.1
          clear hW hW2
          go_simp
          try with_reducible rfl
        try simp only [Act.put, List.setIfInBounds_toArray, List.set_cons_zero, List.set_cons_succ]
        refine wpAnyH_take2 (i := 1) (t := 103) (v := ?_) rfl rfl (by kernel_rfl) (by kernel_rfl) (by kernel_rfl) (fun _ _ _ h => Only.not_panic h) (Or.inl ⟨by kernel_rfl, fun W hW => ?_⟩) (by assumption) ?_
        rotate_left
        · have hW2 := hW
          obtain ⟨⟨f0, f1, f2, f3, f4, f5, f6, f7, f8, f9, f10, f11, f12⟩, y0, y1, y2⟩ := HT.out W hW2.1
          clear hW hW2
          go_simp
          try with_reducible rfl
        try simp only [Act.put, List.setIfInBounds_toArray, List.set_cons_zero, List.set_cons_succ]
        refine wpAnyH_take2 (i := 2) (t := 104) (v := ?_) rfl rfl (by kernel_rfl) (by kernel_rfl) (by kernel_rfl) (fun _ _ _ h => Only.not_panic h) (Or.inl ⟨by kernel_rfl, fun W hW => ?_⟩) (by assumption) ?_
        rotate_left
        · have hW2 := hW
          obtain ⟨⟨f0, f1, f2, f3, f4, f5, f6, f7, f8, f9, f10, f11, f12⟩, y0, y1, y2⟩ := HT.out W hW2.1
          clear hW hW2
          go_simp
          try with_reducible rfl
        try simp only [Act.put, List.setIfInBounds_toArray, List.set_cons_zero, List.set_cons_succ]
        refine wpAnyH_take2 (i := 3) (t := 105) (v := ?_) rfl rfl (by kernel_rfl) (by kernel_rfl) (by kernel_rfl) (fun _ _ _ h => Only.not_panic h) (Or.inl ⟨by kernel_rfl, fun W hW => ?_⟩) (by assumption) ?_
        rotate_left
        · have hW2 := hW
          obtain ⟨⟨f0, f1, f2, f3, f4, f5, f6, f7, f8, f9, f10, f11, f12⟩, y0, y1, y2⟩ := HT.out W hW2.1
          clear hW hW2
          go_simp
          try with_reducible rfl
        try simp only [Act.put, List.setIfInBounds_toArray, List.set_cons_zero, List.set_cons_succ]
        refine wpAnyH_take2 (i := 4) (t := 106) (v := ?_) rfl rfl (by kernel_rfl) (by kernel_rfl) (by kernel_rfl) (fun _ _ _ h => Only.not_panic h) (Or.inl ⟨by kernel_rfl, fun W hW => ?_⟩) (by assumption) ?_
        rotate_left
        · have hW2 := hW
          obtain ⟨⟨f0, f1, f2, f3, f4, f5, f6, f7, f8, f9, f10, f11, f12⟩, y0, y1, y2⟩ := HT.out W hW2.1
          clear hW hW2
          go_simp
          try with_reducible rfl
        try simp only [Act.put, List.setIfInBounds_toArray, List.set_cons_zero, List.set_cons_succ]
        refine wpAnyH_take2 (i := 5) (t := 107) (v := ?_) rfl rfl (by kernel_rfl) (by kernel_rfl) (by kernel_rfl) (fun _ _ _ h => Only.not_panic h) (Or.inl ⟨by kernel_rfl, fun W hW => ?_⟩) (by assumption) ?_
        rotate_left
        · have hW2 := hW
          obtain ⟨⟨f0, f1, f2, f3, f4, f5, f6, f7, f8, f9, f10, f11, f12⟩, y0, y1, y2⟩ := HT.out W hW2.1
          clear hW hW2
          go_simp
          try with_reducible rfl
        try simp only [Act.put, List.setIfInBounds_toArray, List.set_cons_zero, List.set_cons_succ]
        refine wpAnyH_take2 (i := 6) (t := 108) (v := .int .i64 (t.r.own / 255)) rfl rfl (by kernel_rfl) (by kernel_rfl) (by kernel_rfl) (fun _ _ _ h => Only.not_panic h) (Or.inl ⟨by kernel_rfl, fun W hW => ?_⟩) (by assumption) ?_
        · have hW2 := hW
          obtain ⟨⟨f0, f1, f2, f3, f4, f5, f6, f7, f8, f9, f10, f11, f12⟩, y0, y1, y2⟩ := HT.out W hW2.1
          clear hW hW2
          go_simp
          try with_reducible rfl
        try simp only [Act.put, List.setIfInBounds_toArray, List.set_cons_zero, List.set_cons_succ]
        refine wpAnyH_take2 (i := 7) (t := 109) (v := ?_) rfl rfl (by kernel_rfl) (by kernel_rfl) (by kernel_rfl) (fun _ _ _ h => Only.not_panic h) (Or.inl ⟨by kernel_rfl, fun W hW => ?_⟩) (by assumption) ?_
        rotate_left
        · have hW2 := hW
          obtain ⟨⟨f0, f1, f2, f3, f4, f5, f6, f7, f8, f9, f10, f11, f12⟩, y0, y1, y2⟩ := HT.out W hW2.1
          clear hW hW2
          go_simp
          try with_reducible rfl
        try simp only [Act.put, List.setIfInBounds_toArray, List.set_cons_zero, List.set_cons_succ]
        refine wpAnyH_take2 (i := 8) (t := 110) (v := ?_) rfl rfl (by kernel_rfl) (by kernel_rfl) (by kernel_rfl) (fun _ _ _ h => Only.not_panic h) (Or.inl ⟨by kernel_rfl, fun W hW => ?_⟩) (by assumption) ?_
        rotate_left
        · have hW2 := hW
          obtain ⟨⟨f0, f1, f2, f3, f4, f5, f6, f7, f8, f9, f10, f11, f12⟩, y0, y1, y2⟩ := HT.out W hW2.1
          clear hW hW2
          go_simp
          try with_reducible rfl
        try simp only [Act.put, List.setIfInBounds_toArray, List.set_cons_zero, List.set_cons_succ]
        refine wpAnyH_take2 (i := 9) (t := 111) (v := .int .i64 x1) rfl rfl (by kernel_rfl) (by kernel_rfl) (by kernel_rfl) (fun _ _ _ h => Only.not_panic h) (Or.inl ⟨by kernel_rfl, fun W hW => ?_⟩) (by assumption) ?_
        · have hW2 := hW
          obtain ⟨⟨f0, f1, f2, f3, f4, f5, f6, f7, f8, f9, f10, f11, f12⟩, y0, y1, y2⟩ := HT.out W hW2.1
          clear hW hW2
          go_simp
          try with_reducible rfl
        try simp only [Act.put, List.setIfInBounds_toArray, List.set_cons_zero, List.set_cons_succ]
        refine wpAnyH_take2 (i := 10) (t := 112) (v := .int .i64 (t.r.own / 255 * x1)) rfl rfl (by kernel_rfl) (by kernel_rfl) (by kernel_rfl) (fun _ _ _ h => Only.not_panic h) (Or.inl ⟨by kernel_rfl, fun W hW => ?_⟩) (by assumption) ?_
        · have hW2 := hW
          obtain ⟨⟨f0, f1, f2, f3, f4, f5, f6, f7, f8, f9, f10, f11, f12⟩, y0, y1, y2⟩ := HT.out W hW2.1
          clear hW hW2
          go_simp
          try with_reducible rfl
        try simp only [Act.put, List.setIfInBounds_toArray, List.set_cons_zero, List.set_cons_succ]
        refine wpAnyH_take2 (i := 11) (t := 113) (v := .int .i64 (t.r.own - t.r.own / 255 * x1)) rfl rfl (by kernel_rfl) (by kernel_rfl) (by kernel_rfl) (fun _ _ _ h => Only.not_panic h) (Or.inl ⟨by kernel_rfl, fun W hW => ?_⟩) (by assumption) ?_
        · have hW2 := hW
          obtain ⟨⟨f0, f1, f2, f3, f4, f5, f6, f7, f8, f9, f10, f11, f12⟩, y0, y1, y2⟩ := HT.out W hW2.1
          clear hW hW2
          go_simp
          try with_reducible rfl
        try simp only [Act.put, List.setIfInBounds_toArray, List.set_cons_zero, List.set_cons_succ]
        refine wpAnyH_take2 (i := 12) (t := 114) (v := ?_) rfl rfl (by kernel_rfl) (by kernel_rfl) (by kernel_rfl) (fun _ _ _ h => Only.not_panic h) (Or.inl ⟨by kernel_rfl, fun W hW => ?_⟩) (by assumption) ?_
        rotate_left
        · have hW2 := hW
          obtain ⟨⟨f0, f1, f2, f3, f4, f5, f6, f7, f8, f9, f10, f11, f12⟩, y0, y1, y2⟩ := HT.out W hW2.1
          clear hW hW2
          go_simp
          try with_reducible rfl
        try simp only [Act.put, List.setIfInBounds_toArray, List.set_cons_zero, List.set_cons_succ]
        refine wpAnyH_take2 (i := 13) (t := 115) (v := ?_) rfl rfl (by kernel_rfl) (by kernel_rfl) (by kernel_rfl) (fun _ _ _ h => Only.not_panic h) (Or.inl ⟨by kernel_rfl, fun W hW => ?_⟩) (by assumption) ?_
        rotate_left
        · have hW2 := hW
          obtain ⟨⟨f0, f1, f2, f3, f4, f5, f6, f7, f8, f9, f10, f11, f12⟩, y0, y1, y2⟩ := HT.out W hW2.1
          clear hW hW2
          go_simp
          try with_reducible rfl
        try simp only [Act.put, List.setIfInBounds_toArray, List.set_cons_zero, List.set_cons_succ]
        refine wpAnyH_take2 (i := 14) (t := 116) (v := ?_) rfl rfl (by kernel_rfl) (by kernel_rfl) (by kernel_rfl) (fun _ _ _ h => Only.not_panic h) (Or.inl ⟨by kernel_rfl, fun W hW => ?_⟩) (by assumption) ?_
        rotate_left
        · have hW2 := hW
          obtain ⟨⟨f0, f1, f2, f3, f4, f5, f6, f7, f8, f9, f10, f11, f12⟩, y0, y1, y2⟩ := HT.out W hW2.1
          clear hW hW2
          go_simp
          try with_reducible rfl
        try simp only [Act.put, List.setIfInBounds_toArray, List.set_cons_zero, List.set_cons_succ]
        refine wpAnyH_take2 (i := 15) (t := 117) (v := ?_) rfl rfl (by kernel_rfl) (by kernel_rfl) (by kernel_rfl) (fun _ _ _ h => Only.not_panic h) (Or.inl ⟨by kernel_rfl, fun W hW => ?_⟩) (by assumption) ?_
        rotate_left
        · have hW2 := hW
          obtain ⟨⟨f0, f1, f2, f3, f4, f5, f6, f7, f8, f9, f10, f11, f12⟩, y0, y1, y2⟩ := HT.out W hW2.1
          clear hW hW2
          go_simp
          try with_reducible rfl
        try simp only [Act.put, List.setIfInBounds_toArray, List.set_cons_zero, List.set_cons_succ]
        refine wpAnyH_take2 (i := 16) (t := 118) (v := ?_) rfl rfl (by kernel_rfl) (by kernel_rfl) (by kernel_rfl) (fun _ _ _ h => Only.not_panic h) (Or.inl ⟨by kernel_rfl, fun W hW => ?_⟩) (by assumption) ?_
        rotate_left
        · have hW2 := hW
          obtain ⟨⟨f0, f1, f2, f3, f4, f5, f6, f7, f8, f9, f10, f11, f12⟩, y0, y1, y2⟩ := HT.out W hW2.1
          clear hW hW2
          go_simp
          try with_reducible rfl
        try simp only [Act.put, List.setIfInBounds_toArray, List.set_cons_zero, List.set_cons_succ]
        refine wpAnyH_take2 (i := 17) (t := 119) (v := ?_) rfl rfl (by kernel_rfl) (by kernel_rfl) (by kernel_rfl) (fun _ _ _ h => Only.not_panic h) (Or.inl ⟨by kernel_rfl, fun W hW => ?_⟩) (by assumption) ?_
        rotate_left
        · have hW2 := hW
          obtain ⟨⟨f0, f1, f2, f3, f4, f5, f6, f7, f8, f9, f10, f11, f12⟩, y0, y1, y2⟩ := HT.out W hW2.1
          clear hW hW2
          go_simp
          try with_reducible rfl
        try simp only [Act.put, List.setIfInBounds_toArray, List.set_cons_zero, List.set_cons_succ]
        refine wpAnyH_take2 (i := 18) (t := 120) (v := .int .i64 (t.r.feed / 255)) rfl rfl (by kernel_rfl) (by kernel_rfl) (by kernel_rfl) (fun _ _ _ h => Only.not_panic h) (Or.inl ⟨by kernel_rfl, fun W hW => ?_⟩) (by assumption) ?_
        · have hW2 := hW
          obtain ⟨⟨f0, f1, f2, f3, f4, f5, f6, f7, f8, f9, f10, f11, f12⟩, y0, y1, y2⟩ := HT.out W hW2.1
          clear hW hW2
          go_simp
          try with_reducible rfl
        try simp only [Act.put, List.setIfInBounds_toArray, List.set_cons_zero, List.set_cons_succ]
        refine wpAnyH_take2 (i := 19) (t := 121) (v := ?_) rfl rfl (by kernel_rfl) (by kernel_rfl) (by kernel_rfl) (fun _ _ _ h => Only.not_panic h) (Or.inl ⟨by kernel_rfl, fun W hW => ?_⟩) (by assumption) ?_
        rotate_left
        · have hW2 := hW
          obtain ⟨⟨f0, f1, f2, f3, f4, f5, f6, f7, f8, f9, f10, f11, f12⟩, y0, y1, y2⟩ := HT.out W hW2.1
          clear hW hW2
          go_simp
          try with_reducible rfl
        try simp only [Act.put, List.setIfInBounds_toArray, List.set_cons_zero, List.set_cons_succ]
        refine wpAnyH_take2 (i := 20) (t := 122) (v := ?_) rfl rfl (by kernel_rfl) (by kernel_rfl) (by kernel_rfl) (fun _ _ _ h => Only.not_panic h) (Or.inl ⟨by kernel_rfl, fun W hW => ?_⟩) (by assumption) ?_
        rotate_left
        · have hW2 := hW
          obtain ⟨⟨f0, f1, f2, f3, f4, f5, f6, f7, f8, f9, f10, f11, f12⟩, y0, y1, y2⟩ := HT.out W hW2.1
          clear hW hW2
          go_simp
          try with_reducible rfl
        try simp only [Act.put, List.setIfInBounds_toArray, List.set_cons_zero, List.set_cons_succ]
        refine wpAnyH_take2 (i := 21) (t := 123) (v := .int .i64 x2) rfl rfl (by kernel_rfl) (by kernel_rfl) (by kernel_rfl) (fun _ _ _ h => Only.not_panic h) (Or.inl ⟨by kernel_rfl, fun W hW => ?_⟩) (by assumption) ?_
        · have hW2 := hW
          obtain ⟨⟨f0, f1, f2, f3, f4, f5, f6, f7, f8, f9, f10, f11, f12⟩, y0, y1, y2⟩ := HT.out W hW2.1
          clear hW hW2
          go_simp
          try with_reducible rfl
        try simp only [Act.put, List.setIfInBounds_toArray, List.set_cons_zero, List.set_cons_succ]
        refine wpAnyH_take2 (i := 22) (t := 124) (v := .int .i64 (t.r.feed / 255 * x2)) rfl rfl (by kernel_rfl) (by kernel_rfl) (by kernel_rfl) (fun _ _ _ h => Only.not_panic h) (Or.inl ⟨by kernel_rfl, fun W hW => ?_⟩) (by assumption) ?_
        · have hW2 := hW
          obtain ⟨⟨f0, f1, f2, f3, f4, f5, f6, f7, f8, f9, f10, f11, f12⟩, y0, y1, y2⟩ := HT.out W hW2.1
          clear hW hW2
          go_simp
          try with_reducible rfl
        try simp only [Act.put, List.setIfInBounds_toArray, List.set_cons_zero, List.set_cons_succ]
        refine wpAnyH_take2 (i := 23) (t := 125) (v := .int .i64 (t.r.feed - t.r.feed / 255 * x2)) rfl rfl (by kernel_rfl) (by kernel_rfl) (by kernel_rfl) (fun _ _ _ h => Only.not_panic h) (Or.inl ⟨by kernel_rfl, fun W hW => ?_⟩) (by assumption) ?_
        · have hW2 := hW
          obtain ⟨⟨f0, f1, f2, f3, f4, f5, f6, f7, f8, f9, f10, f11, f12⟩, y0, y1, y2⟩ := HT.out W hW2.1
          clear hW hW2
          go_simp
          try with_reducible rfl
        try simp only [Act.put, List.setIfInBounds_toArray, List.set_cons_zero, List.set_cons_succ]
        refine wpAnyH_take2 (i := 24) (t := 126) (v := ?_) rfl rfl (by kernel_rfl) (by kernel_rfl) (by kernel_rfl) (fun _ _ _ h => Only.not_panic h) (Or.inl ⟨by kernel_rfl, fun W hW => ?_⟩) (by assumption) ?_
        rotate_left
        · have hW2 := hW
          obtain ⟨⟨f0, f1, f2, f3, f4, f5, f6, f7, f8, f9, f10, f11, f12⟩, y0, y1, y2⟩ := HT.out W hW2.1
          clear hW hW2
          go_simp
          try with_reducible rfl
        try simp only [Act.put, List.setIfInBounds_toArray, List.set_cons_zero, List.set_cons_succ]
        refine wpAnyH_take2 (i := 25) (t := 127) (v := ?_) rfl rfl (by kernel_rfl) (by kernel_rfl) (by kernel_rfl) (fun _ _ _ h => Only.not_panic h) (Or.inl ⟨by kernel_rfl, fun W hW => ?_⟩) (by assumption) ?_
        rotate_left
        · have hW2 := hW
          obtain ⟨⟨f0, f1, f2, f3, f4, f5, f6, f7, f8, f9, f10, f11, f12⟩, y0, y1, y2⟩ := HT.out W hW2.1
          clear hW hW2
          go_simp
          try with_reducible rfl
        try simp only [Act.put, List.setIfInBounds_toArray, List.set_cons_zero, List.set_cons_succ]
        refine wpAnyH_ready (rs := [26]) (by kernel_rfl) (by simp) ?_
        refine AllReadyH.cons rfl (fun K hK => ?_) ?_
        · have v2 := o9.out.cell 2
          have g2 := o9.out.frozen 2
          simp only [List.getElem?_toArray, List.getElem?_cons_zero, List.getElem?_cons_succ] at v2
          have o9' := Lib.hid (show Ob ((wd).setCell ⟨w5.heap.size, 2, none⟩ (.int .i64 (t.r.own - t.r.own / 255 * x1))) w5.heap.size 31 #[(.slice t.r.ha t.r.hn t.r.hc), (.slice t.r.wa t.r.wn t.r.wc), (.int .i64 (t.r.own - t.r.own / 255 * x1)), (.int .i64 t.r.feed), (.int .i64 t.r.g0), (.int .i64 t.r.g1), (.int .i64 t.r.g2), (.int .i64 t.r.lost), (.int .i64 t.first), (.slice da t.dn dc), (.int .i64 (t.lo - t.lo / 255 * x0)), (.int .i64 (t.hi - t.lo / 255 * x0)), (.slice none 0 0)] from o9.out.set 2 _)
          go_simp
          replace o9 := o9'
          clear o9' v2 g2
          refine hK.out _ _ ?_ (fun hHeld => ?_)
          · exact ⟨hHeld.1.setCell (by first | omega | (simp only; omega) | exact Nat.le_refl _) _, row_setb hHeld.2 (Nat.lt_succ_self _) _ _⟩
          clear hK K
          try simp only [Act.put, List.setIfInBounds_toArray, List.set_cons_zero, List.set_cons_succ]
          refine wpAnyH_take2 (i := 27) (t := 128) (v := ?_) rfl rfl (by kernel_rfl) (by kernel_rfl) (by kernel_rfl) (fun _ _ _ h => Only.not_panic h) (Or.inl ⟨by kernel_rfl, fun W hW => ?_⟩) (by assumption) ?_
          rotate_left
          · have hW2 := hW
            obtain ⟨⟨f0, f1, f2, f3, f4, f5, f6, f7, f8, f9, f10, f11, f12⟩, y0, y1, y2⟩ := HT.out W hW2.1
            clear hW hW2
            go_simp
            try with_reducible rfl
          try simp only [Act.put, List.setIfInBounds_toArray, List.set_cons_zero, List.set_cons_succ]
          refine wpAnyH_take2 (i := 28) (t := 129) (v := ?_) rfl rfl (by kernel_rfl) (by kernel_rfl) (by kernel_rfl) (fun _ _ _ h => Only.not_panic h) (Or.inl ⟨by kernel_rfl, fun W hW => ?_⟩) (by assumption) ?_
          rotate_left
          · have hW2 := hW
            obtain ⟨⟨f0, f1, f2, f3, f4, f5, f6, f7, f8, f9, f10, f11, f12⟩, y0, y1, y2⟩ := HT.out W hW2.1
            clear hW hW2
            go_simp
            try with_reducible rfl
          try simp only [Act.put, List.setIfInBounds_toArray, List.set_cons_zero, List.set_cons_succ]
          refine wpAnyH_ready (rs := [29]) (by kernel_rfl) (by simp) ?_
          refine AllReadyH.cons rfl (fun K hK => ?_) ?_
          · have v3 := o9.out.cell 3
            have g3 := o9.out.frozen 3
            simp only [List.getElem?_toArray, List.getElem?_cons_zero, List.getElem?_cons_succ] at v3
            have o9' := Lib.hid (show Ob (((wd).setCell ⟨w5.heap.size, 2, none⟩ (.int .i64 (t.r.own - t.r.own / 255 * x1))).setCell ⟨w5.heap.size, 3, none⟩ (.int .i64 (t.r.feed - t.r.feed / 255 * x2))) w5.heap.size 31 #[(.slice t.r.ha t.r.hn t.r.hc), (.slice t.r.wa t.r.wn t.r.wc), (.int .i64 (t.r.own - t.r.own / 255 * x1)), (.int .i64 (t.r.feed - t.r.feed / 255 * x2)), (.int .i64 t.r.g0), (.int .i64 t.r.g1), (.int .i64 t.r.g2), (.int .i64 t.r.lost), (.int .i64 t.first), (.slice da t.dn dc), (.int .i64 (t.lo - t.lo / 255 * x0)), (.int .i64 (t.hi - t.lo / 255 * x0)), (.slice none 0 0)] from o9.out.set 3 _)
            go_simp
            replace o9 := o9'
            clear o9' v3 g3
            refine hK.out _ _ ?_ (fun hHeld => ?_)
            · exact ⟨hHeld.1.setCell (by first | omega | (simp only; omega) | exact Nat.le_refl _) _, row_setb hHeld.2 (Nat.lt_succ_self _) _ _⟩
            clear hK K
            try simp only [Act.put, List.setIfInBounds_toArray, List.set_cons_zero, List.set_cons_succ]
            refine wpAnyH_done (by kernel_rfl) (Only.mk ?_) _
            go_wp2_with fail
            go_meet
            exact ⟨o9.out, hHeld.1, hHeld.2⟩
          exact AllReadyH.nil
        exact AllReadyH.nil
      case rest =>
        clear HT HSp o9
        obtain ⟨oU, hbu, hru⟩ := hcut
        obtain ⟨wv, rfl⟩ : ∃ wv, wv = wc := ⟨wc, rfl⟩
        have BV := Lib.hid (B_trans B5.out hbu)
        have OU := Lib.hid oU
        have CV := Lib.hid hbu
        obtain ⟨da', dc', e10, hD⟩ := sl4_row hru
        injection e10 with e10 e11 e12
        subst e10 e12
        obtain ⟨f0, f1, f2, f3, f4, f5, f6, f7, f8, f9, f10, f11, f12⟩ := oU.thirteen
        have hRv := hR.below BV.out
        have hRu : TkR wv (t.bare_.cool_ x0 x1 x2 da dc) hs ws LL [] := ⟨⟨hRv.r.hn, hRv.r.wn, hRv.r.h, hRv.r.w⟩, hRv.dn, Nat.zero_le _, hD, ⟨rfl, fun h => absurd h (Nat.lt_irrefl 0)⟩⟩
        have G5' := fun W (h : Below wv.heap.size wv W) => levels3_any (t.bare_.cool_ x0 x1 x2 da dc) hs ws LL [] W (hRu.below h) HEF.out
        have G6' := fun W (h : Below wv.heap.size wv W) => lost_full (t.bare_.cool_ x0 x1 x2 da dc) hs ws LL [] W (hRu.below h) HEF.out
        have HC1 := HCC.out
        rw [LP.out] at HC1
        generalize lostP (t.bare_.cool_ x0 x1 x2 da dc) (levT (t.bare_.cool_ x0 x1 x2 da dc) hs ws LL []) = lq at G6' HC1
        generalize (reachT (t.bare_.cool_ x0 x1 x2 da dc) hs ws LL []).struck = S2 at G5'
        generalize levT (t.bare_.cool_ x0 x1 x2 da dc) hs ws LL [] = LV2 at G5' HC1
        have G5 := Lib.hid (show ∀ W, Below wv.heap.size wv W → Calls Try.prog 28 #[.agg #[(.slice t.r.ha t.r.hn t.r.hc), (.slice t.r.wa t.r.wn t.r.wc), (.int .i64 (t.r.own - t.r.own / 255 * x1)), (.int .i64 (t.r.feed - t.r.feed / 255 * x2)), (.int .i64 t.r.g0), (.int .i64 t.r.g1), (.int .i64 t.r.g2), (.int .i64 t.r.lost), (.int .i64 t.first), (.slice da t.dn dc), (.int .i64 (t.lo - t.lo / 255 * x0)), (.int .i64 (t.hi - t.lo / 255 * x0)), (.slice none 0 0)]] W fun e w' => ∃ la lc sa sc, e = .returned (.tuple #[.slice la (t.dn + 1) lc, .slice sa S2.length sc, .int .i64 0]) ∧ Sl2 w' la (t.dn + 1) LV2 ∧ Sl2 w' sa S2.length S2 ∧ Below W.heap.size W w' from G5')
        have G6 := Lib.hid (show ∀ W, Below wv.heap.size wv W → Calls Try.prog 32 #[.agg #[(.slice t.r.ha t.r.hn t.r.hc), (.slice t.r.wa t.r.wn t.r.wc), (.int .i64 (t.r.own - t.r.own / 255 * x1)), (.int .i64 (t.r.feed - t.r.feed / 255 * x2)), (.int .i64 t.r.g0), (.int .i64 t.r.g1), (.int .i64 t.r.g2), (.int .i64 t.r.lost), (.int .i64 t.first), (.slice da t.dn dc), (.int .i64 (t.lo - t.lo / 255 * x0)), (.int .i64 (t.hi - t.lo / 255 * x0)), (.slice none 0 0)]] W fun e w' => e = .returned (.tuple #[.agg #[.int .i64 lq.1, .int .i64 lq.2], .int .i64 0]) ∧ Below W.heap.size W w' from G6')
        obtain ⟨hle, hl1, hl2⟩ := HC1
        generalize levT t.bare_ hs ws ds [] = LV at hle O5
        have HLE := Lib.hid (show ∀ j, j ≤ t.dn → Le2 (LV2.getD j (0, 0)) (LV.getD j (0, 0)) from hle)
        have HL1 := Lib.hid (fun W' => later_any lq.1 lp.1 W')
        have HL2 := Lib.hid (fun W' => later_any lq.2 lp.2 W')
        rw [hl1] at HL1
        rw [hl2] at HL2
        clear oU hbu hru hD hRv hRu G5' G6' hle hl1 hl2
        go_wp2_with fail
        refine (G5.out wv (Below.refl _ _)).mono ?_
        rintro e wa ⟨ra, rc, ta2, tc2, rfl, hL2, -, hba⟩
        have BA := Lib.hid hba
        have OA := Lib.hid (And.intro (OU.out.below hba) hL2)
        clear f0 f1 f2 f3 f4 f5 f6 f7 f8 f9 f10 f11 f12 hba hL2
        obtain ⟨f0, f1, f2, f3, f4, f5, f6, f7, f8, f9, f10, f11, f12⟩ := OA.out.1.thirteen
        go_wp2_with fail
        refine (G6.out wa BA.out).mono ?_
        rintro e wb ⟨rfl, hbb⟩
        obtain ⟨we, hwe⟩ : ∃ we, wb.alloc (.cells #[.int .i64 lq.1, .int .i64 lq.2] 28) = we := ⟨_, rfl⟩
        have hae : Below wa.heap.size wa we := by rw [← hwe]; exact B_trans hbb (B_alloc (Below.refl _ _) _)
        have oQ : Ob we wb.heap.size 28 #[.int .i64 lq.1, .int .i64 lq.2] := by rw [← hwe]; exact Ob.new _ _ _
        have hb5e : Below w5.heap.size w5 we := B_trans CV.out (B_trans BA.out hae)
        have BE := Lib.hid (B_trans B5.out hb5e)
        have OE := Lib.hid (And.intro (O5.out.2.2.2.1.below hb5e) (And.intro (O5.out.2.2.2.2.below hb5e) (And.intro (OA.out.2.below hae) oQ)))
        have WE := Lib.hid hwe
        clear f0 f1 f2 f3 f4 f5 f6 f7 f8 f9 f10 f11 f12 hbb hwe hae oQ hb5e
        go_upto_region 17 with fail
        rw [WE.out]
        go_wp2_with fail
        go_loopg [20] (t.dn + 1) (fun gk iv wr => ∃ j : Nat, gk = t.dn + 1 - j ∧ iv = .int .i64 (j : Int) ∧ j ≤ t.dn + 1 ∧ Below we.heap.size we wr)
        case atStart => exact ⟨0, rfl, rfl, Nat.zero_le _, Below.refl _ _⟩
        case round =>
          obtain ⟨j, rfl, rfl, hj, hbr⟩ := hrel
          by_cases hlt2 : j < t.dn + 1
          · obtain ⟨ab, ao, rfl, hab, hac⟩ := (OE.out.1.below hbr).at_ (by omega)
            obtain ⟨rb, ro, rfl, hrb, hrc⟩ := (OE.out.2.2.1.below hbr).at_ (by omega)
            obtain ⟨s0, s1⟩ := hac j hlt2
            obtain ⟨s2, s3⟩ := hrc j hlt2
            obtain ⟨l1, l2⟩ := HLE.out j (by omega)
            generalize LV.getD j (0, 0) = p at s0 s1 l1 l2
            generalize LV2.getD j (0, 0) = q at s2 s3 l1 l2
            have l3 : ¬ p.1 < q.1 := by omega
            have l4 : ¬ p.2 < q.2 := by omega
            have j1 : (0 : Int) ≤ j := by omega
            have j2 : (j : Int) < ((t.dn + 1 : Nat) : Int) := by omega
            have j3 : (j : Int) < (t.dn : Int) + 1 := by omega
            have BR := Lib.hid hbr
            clear hac hrc hbr l1 l2
            go_wp2_with fail
            go_quiet (fail)
            go_wp2_with fail
            go_roundg (t.dn + 1 - (j + 1))
            case measure => omega
            case rel => exact ⟨j + 1, rfl, by push_cast; rfl, by omega, below_drewN BR.out _⟩
          · obtain rfl : j = t.dn + 1 := by omega
            have h4 : ¬ ((t.dn + 1 : Nat) : Int) < ((t.dn + 1 : Nat) : Int) := by omega
            obtain ⟨s0, s1, -, -⟩ := (OE.out.2.1.below hbr).span
            obtain ⟨s2, s3, -, -⟩ := (OE.out.2.2.2.below hbr).span
            have BR := Lib.hid (B_trans BE.out hbr)
            have OF := Lib.hid (And.intro (OE.out.2.1.below hbr) (OE.out.2.2.2.below hbr))
            clear hbr
            go_wp2_with fail
            refine (HL1.out _).mono ?_
            rintro e wf ⟨rfl, hbf⟩
            have BF := Lib.hid (B_trans BR.out hbf)
            clear s0 s1 s2 s3
            obtain ⟨s0, s1, -, -⟩ := (OF.out.1.below hbf).span
            obtain ⟨s2, s3, -, -⟩ := (OF.out.2.below hbf).span
            clear hbf
            go_wp2_with fail
            refine (HL2.out _).mono ?_
            rintro e wg ⟨rfl, hbg⟩
            have BG := Lib.hid (B_trans BF.out hbg)
            clear s0 s1 s2 s3 hbg
            go_wp2_with fail
            refine (HA.out _).mono ?_
            rintro e wh ⟨rfl, hbh⟩
            have BH := Lib.hid (B_trans BG.out hbh)
            clear hbh
            go_wp2
            refine bodyPost_ret (v := .bool true) (by simp [results, Try.results13, go_sem]) rfl ⟨rfl, BH.out⟩
theorem coolLaw_all (t : TkA) (hs ws : List T2) (ds : List T4) (ts : List T3) (a b x0 x1 x2 : Int) (w : World) (hR : TkR w t hs ws ds ts) (ha : 0 ≤ a ∧ a ≤ 255) (hb : 0 ≤ b ∧ b ≤ 255) (h0 : 0 ≤ x0 ∧ x0 ≤ 255) (h1 : 0 ≤ x1 ∧ x1 ≤ 255) (h2 : 0 ≤ x2 ∧ x2 ≤ 255) :
    Calls Try.prog 13 #[.agg t.cs, .agg #[.int .u8 a, .int .u8 b], .agg #[.int .u8 x0, .int .u8 x1, .int .u8 x2]] w fun e w' => e = .returned (.bool true) ∧ Below w.heap.size w w' := by
  by_cases he : (taskS t.bare_ hs ws ds []).2.2 = 0
  · exact coolLaw_any t hs ws ds ts a b x0 x1 x2 w hR he ha hb h0 h1 h2
  · exact coolLaw_bad t hs ws ds ts a b x0 x1 x2 w hR he
end Go.Proofs.Ytanjkhclhcnnaaa

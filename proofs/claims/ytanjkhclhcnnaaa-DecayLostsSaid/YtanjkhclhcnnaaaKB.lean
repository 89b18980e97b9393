/- Moved of the reference, of a task without an error. -/
import Derived.Test.YtanjkhclhcnnaaaKA
namespace Go.Proofs.Ytanjkhclhcnnaaa
open Go Go.RowKit Go.Shelf

theorem flat3_app (a b : List T3) : flat3 (a ++ b) = flat3 a ++ flat3 b := by simp [flat3]
/-- A row of days in a block. -/
structure RowD (W : World) (g o n : Nat) (T : TypeId) (f : Nat → T4) (cs : Array Value) : Prop where
  ob : Ob W g T cs
  le : o + n * 4 ≤ cs.size
  at_ : ∀ i, i < n → cs[o + i * 4]? = some (.int .i64 (f i).1) ∧ cs[o + i * 4 + 1]? = some (.int .i64 (f i).2.1) ∧ cs[o + i * 4 + 2]? = some (.int .i64 (f i).2.2.1) ∧ cs[o + i * 4 + 3]? = some (.int .i64 (f i).2.2.2)
theorem RowD.below {W W' : World} {g o n : Nat} {T : TypeId} {f : Nat → T4} {cs : Array Value} (h : RowD W g o n T f cs) (hb : Below W.heap.size W W') : RowD W' g o n T f cs := ⟨h.ob.below hb, h.le, h.at_⟩
theorem RowD.cell {W : World} {g o n : Nat} {T : TypeId} {f : Nat → T4} {cs : Array Value} (h : RowD W g o n T f cs) {i : Nat} (hi : i < n) : W.cell? ⟨g, o + i * 4, none⟩ = some (.int .i64 (f i).1) ∧ W.cell? ⟨g, o + i * 4 + 1, none⟩ = some (.int .i64 (f i).2.1) ∧ W.cell? ⟨g, o + i * 4 + 2, none⟩ = some (.int .i64 (f i).2.2.1) ∧ W.cell? ⟨g, o + i * 4 + 3, none⟩ = some (.int .i64 (f i).2.2.2) := by
  obtain ⟨x0, x1, x2, x3⟩ := h.at_ i hi
  exact ⟨(h.ob.cell _).trans x0, (h.ob.cell _).trans x1, (h.ob.cell _).trans x2, (h.ob.cell _).trans x3⟩
theorem RowD.put {W : World} {g o n : Nat} {T : TypeId} {f : Nat → T4} {cs : Array Value} (h : RowD W g o n T f cs) {i : Nat} (hi : i < n) (x : T4) :
    RowD ((((W.setCell ⟨g, o + i * 4, none⟩ (.int .i64 x.1)).setCell ⟨g, o + i * 4 + 1, none⟩ (.int .i64 x.2.1)).setCell ⟨g, o + i * 4 + 2, none⟩ (.int .i64 x.2.2.1)).setCell ⟨g, o + i * 4 + 3, none⟩ (.int .i64 x.2.2.2)) g o n T (fun j => if j = i then x else f j) ((((cs.setIfInBounds (o + i * 4) (.int .i64 x.1)).setIfInBounds (o + i * 4 + 1) (.int .i64 x.2.1)).setIfInBounds (o + i * 4 + 2) (.int .i64 x.2.2.1)).setIfInBounds (o + i * 4 + 3) (.int .i64 x.2.2.2)) := by
  have hle := h.le
  refine ⟨(((h.ob.set _ _).set _ _).set _ _).set _ _, by simpa using h.le, fun j hj => ?_⟩
  by_cases e : j = i
  · subst e
    simp only [if_pos]
    refine ⟨?_, ?_, ?_, ?_⟩
    · rw [Array.getElem?_setIfInBounds_ne (by omega), Array.getElem?_setIfInBounds_ne (by omega), Array.getElem?_setIfInBounds_ne (by omega), Array.getElem?_setIfInBounds_self_of_lt (by omega)]
    · rw [Array.getElem?_setIfInBounds_ne (by omega), Array.getElem?_setIfInBounds_ne (by omega), Array.getElem?_setIfInBounds_self_of_lt (by simp; omega)]
    · rw [Array.getElem?_setIfInBounds_ne (by omega), Array.getElem?_setIfInBounds_self_of_lt (by simp; omega)]
    · rw [Array.getElem?_setIfInBounds_self_of_lt (by simp; omega)]
  · simp only [if_neg e]
    obtain ⟨x0, x1, x2, x3⟩ := h.at_ j hj
    refine ⟨?_, ?_, ?_, ?_⟩ <;> (rw [Array.getElem?_setIfInBounds_ne (by omega), Array.getElem?_setIfInBounds_ne (by omega), Array.getElem?_setIfInBounds_ne (by omega), Array.getElem?_setIfInBounds_ne (by omega)]; assumption)
theorem RowD.sl {W : World} {g o n : Nat} {T : TypeId} {f : Nat → T4} {cs : Array Value} (h : RowD W g o n T f cs) {L : List T4} (hl : L.length = n) (hf : ∀ i, i < n → f i = L.getD i (0, 0, 0, 0)) : Sl4 W (some ⟨g, o, none⟩) n L :=
  ⟨hl, fun _ => ⟨g, o, rfl, h.ob.lt, fun i hi => by have e := h.cell hi; rw [hf i hi] at e; exact e⟩⟩
theorem kept_step {ts : List T3} {x : Int} {i : Nat} (h : i < ts.length) : keptL (ts.take (i + 1)) x = if x < (ts.getD i (0, 0, 0)).1 then keptL (ts.take i) x else keptL (ts.take i) x ++ [ts.getD i (0, 0, 0)] := by
  have e : ts.take (i + 1) = ts.take i ++ [ts.getD i (0, 0, 0)] := by
    rw [List.take_add_one, List.getElem?_eq_getElem h]
    simp [List.getD, h]
  unfold keptL
  rw [e, List.filter_append]
  split
  · rename_i h1
    have h2 : x < (ts[i]?.getD (0, 0, 0)).1 := h1
    simp [h2]
  · rename_i h1
    have h2 : (ts[i]?.getD (0, 0, 0)).1 ≤ x := Int.not_lt.1 h1
    simp [h2]
/-- The days while they are set. -/
def setF (ds : List T4) (k j : Nat) (d : T4) (i : Nat) : T4 := if k ≤ i ∧ i < k + j then d else ds.getD i (0, 0, 0, 0)
theorem setF_step (ds : List T4) (k j : Nat) (d : T4) : (fun i => if i = k + j then d else setF ds k j d i) = setF ds k (j + 1) d := by
  funext i
  unfold setF
  by_cases h1 : i = k + j
  · rw [if_pos h1, if_pos (by omega)]
  · rw [if_neg h1]
    by_cases h2 : k ≤ i ∧ i < k + j
    · rw [if_pos h2, if_pos (by omega)]
    · rw [if_neg h2, if_neg (by omega)]
theorem setF_all {ds : List T4} {k n : Nat} (h : ds.length = n) (hk : k ≤ n) (d : T4) {i : Nat} (hi : i < n) : setF ds k (n - k) d i = (movedL ds k n d).getD i (0, 0, 0, 0) := by
  rw [moved_at h hk d hi]
  unfold setF
  by_cases h1 : i < k
  · rw [if_pos h1, if_neg (by omega)]
  · rw [if_neg h1, if_pos (by omega)]
/-- The memory while the tests that stay are joined. -/
structure KT (t : TkA) (w : World) (u g base : Nat) (va : Option Addr) (vc : Nat) (cs : Array Value) (vt : Value) (L : List T3) (W : World) : Prop where
  T : Ob W w.heap.size 31 t.cs
  U : Ob W u 31 #[(.slice t.r.ha t.r.hn t.r.hc), (.slice t.r.wa t.r.wn t.r.wc), (.int .i64 t.r.own), (.int .i64 t.r.feed), (.int .i64 t.r.g0), (.int .i64 t.r.g1), (.int .i64 t.r.g2), (.int .i64 t.r.lost), (.int .i64 t.first), (.slice va t.dn vc), (.int .i64 t.lo), (.int .i64 t.hi), (vt)]
  G : Ob W g 39 cs
  S : Ob W (w.heap.size + 1 + 1) 28 #[.int .i64 0, .int .i64 0]
  R : W.ownsRow base 64 3 vt L.length (flat3 L)
  b : Below w.heap.size w W
  sz : base ≤ W.heap.size
variable {t : TkA} {w : World} {u g base : Nat} {va : Option Addr} {vc : Nat} {cs : Array Value} {vt : Value} {L : List T3} {W : World}
theorem KT.below (h : KT t w u g base va vc cs vt L W) {W1 : World} (hb : Below W.heap.size W W1) : KT t w u g base va vc cs vt L W1 := ⟨h.T.below hb, h.U.below hb, h.G.below hb, h.S.below hb, row_below h.R hb, B_trans h.b hb, Nat.le_trans h.sz hb.size⟩
theorem KT.add (h : KT t w u g base va vc cs vt L W) (h1 : w.heap.size + 1 + 1 < u) (h2 : u < base) (h3 : g < base) (h4 : g ≠ u) {W1 : World} {x : T3} {v : Value} (hg : W.grownBy W1 vt.ownBlock) (ho : W1.ownsRow base 64 3 v (L.length + 1) (flat3 L ++ flat3 [x])) : KT t w u g base va vc cs v (L ++ [x]) (W1.setCell ⟨u, 12, none⟩ v) :=
  have hU := ob_grow h.U h.R hg h2
  have hR : W1.ownsRow base 64 3 v (L ++ [x]).length (flat3 (L ++ [x])) := by rw [flat3_app, List.length_append]; exact ho
  ⟨(ob_grow h.T h.R hg (by omega)).other (by simp only; omega) _, by simpa using hU.set 12 v, (ob_grow h.G h.R hg h3).other (by simp only; omega) _, (ob_grow h.S h.R hg (by omega)).other (by simp only; omega) _, row_setb hR h2 _ _, (below_grow h.b h.R hg (by omega) h.b.size).setCell (by simp only; omega) _, by
    have hs := (below_grow (Below.refl base W) h.R hg (Nat.le_refl _) h.sz).size
    simp only [World.size_setCell]
    exact Nat.le_trans h.sz hs⟩
def need19 : Nat → Nat := fun i => [0, 0, 0, 0, 0, 0, 0, 0, 1, 2, 2].getD i 0
def till19 : Nat → Nat := fun i => [2, 1, 2, 2, 2, 2, 2, 0, 1, 2, 2].getD i 0
def eff19 : Nat → Bool := fun i => [false, false, false, false, false, false, false, true, true, false, true].getD i false

def V19 (t : TkA) (B U tp to_ i : Nat) (vt : Value) (y0 y1 y2 : Int) (outs : Nat → Value) : Nat → Value
  | 76 => .pointer (some ⟨U, 12, none⟩)
  | 77 => vt
  | 78 => .pointer (some ⟨B, 12, none⟩)
  | 79 => .slice (some ⟨tp, to_, none⟩) t.tn t.tc
  | 80 => .int .i64 (i : Nat)
  | 81 => .pointer (some ⟨tp, to_ + i * 3, none⟩)
  | 82 => .agg #[.int .i64 y0, .int .i64 y1, .int .i64 y2]
  | 83 => outs 0
  | 84 => outs 1
  | 85 => .pointer (some ⟨U, 12, none⟩)
  | _ => undef

structure I19 (t : TkA) (w : World) (u g base : Nat) (va : Option Addr) (vc : Nat) (cs : Array Value) (vt : Value) (L : List T3) (y0 y1 y2 : Int) (j : Nat) (outs : Nat → Value) (W : World) : Prop where
  K : j ≤ 1 → KT t w u g base va vc cs vt L W
  T2 : j ≤ 2 → Ob W w.heap.size 31 t.cs
  b2 : j ≤ 2 → Below w.heap.size w W
  q : j = 1 → ∃ q, outs 0 = .slice (some ⟨q, 0, none⟩) 1 1 ∧ Ob W q 64 #[.int .i64 y0, .int .i64 y1, .int .i64 y2]
  a : j = 2 → ∃ W0, KT t w u g base va vc cs vt L W0 ∧ W0.grownBy W vt.ownBlock ∧ W.ownsRow base 64 3 (outs 1) (L.length + 1) (flat3 L ++ flat3 [(y0, y1, y2)])
  e : j = 3 → ∃ v, KT t w u g base va vc cs v (L ++ [(y0, y1, y2)]) W

set_option maxRecDepth 100000 in
set_option maxHeartbeats 16000000 in
theorem refMoved_any (t : TkA) (hs ws : List T2) (ds : List T4) (ts : List T3) (x : Int) (k : Nat) (d0 d1 d2 d3 : Int) (w : World) (hR : TkR w t hs ws ds ts) (he : (taskS t hs ws ds ts).2.2 = 0) (hk : k < t.dn) (hx : x = t.first + (k : Int)) (hd : dayE (d0, d1, d2, d3) = 0) :
    Calls Try.prog 35 #[.agg #[(.slice t.r.ha t.r.hn t.r.hc), (.slice t.r.wa t.r.wn t.r.wc), (.int .i64 t.r.own), (.int .i64 t.r.feed), (.int .i64 t.r.g0), (.int .i64 t.r.g1), (.int .i64 t.r.g2), (.int .i64 t.r.lost), (.int .i64 t.first), (.slice t.da t.dn t.dc), (.int .i64 t.lo), (.int .i64 t.hi), (.slice t.ta t.tn t.tc)], .int .i64 x, .agg #[.int .i64 d0, .int .i64 d1, .int .i64 d2, .int .i64 d3]] w fun e w' => e = .returned (.tuple #[.agg #[.int .i64 (movV t hs ws ds ts k (d0, d1, d2, d3) x).1, .int .i64 (movV t hs ws ds ts k (d0, d1, d2, d3) x).2], .int .i64 0]) ∧ Below w.heap.size w w' := by
  obtain ⟨⟨l, m⟩, hLP⟩ : ∃ LP, movV t hs ws ds ts k (d0, d1, d2, d3) x = LP := ⟨_, rfl⟩
  rw [hLP]
  have HLP := Lib.hid hLP
  obtain ⟨w0, hw0⟩ : ∃ w0, ((w.alloc (.cells #[(.slice t.r.ha t.r.hn t.r.hc), (.slice t.r.wa t.r.wn t.r.wc), (.int .i64 t.r.own), (.int .i64 t.r.feed), (.int .i64 t.r.g0), (.int .i64 t.r.g1), (.int .i64 t.r.g2), (.int .i64 t.r.lost), (.int .i64 t.first), (.slice t.da t.dn t.dc), (.int .i64 t.lo), (.int .i64 t.hi), (.slice t.ta t.tn t.tc)] 31)).alloc (.cells #[.int .i64 d0, .int .i64 d1, .int .i64 d2, .int .i64 d3] 39)).alloc (.cells #[.int .i64 0, .int .i64 0] 28) = w0 := ⟨_, rfl⟩
  have hb0 : Below w.heap.size w w0 := by rw [← hw0]; exact B_alloc (B_alloc (B_alloc (Below.refl _ _) _) _) _
  have o0 : Ob w0 (w.heap.size) 31 #[(.slice t.r.ha t.r.hn t.r.hc), (.slice t.r.wa t.r.wn t.r.wc), (.int .i64 t.r.own), (.int .i64 t.r.feed), (.int .i64 t.r.g0), (.int .i64 t.r.g1), (.int .i64 t.r.g2), (.int .i64 t.r.lost), (.int .i64 t.first), (.slice t.da t.dn t.dc), (.int .i64 t.lo), (.int .i64 t.hi), (.slice t.ta t.tn t.tc)] := by
    rw [← hw0]
    have h := ((Ob.new (w) #[(.slice t.r.ha t.r.hn t.r.hc), (.slice t.r.wa t.r.wn t.r.wc), (.int .i64 t.r.own), (.int .i64 t.r.feed), (.int .i64 t.r.g0), (.int .i64 t.r.g1), (.int .i64 t.r.g2), (.int .i64 t.r.lost), (.int .i64 t.first), (.slice t.da t.dn t.dc), (.int .i64 t.lo), (.int .i64 t.hi), (.slice t.ta t.tn t.tc)] 31).alloc (.cells #[.int .i64 d0, .int .i64 d1, .int .i64 d2, .int .i64 d3] 39)).alloc (.cells #[.int .i64 0, .int .i64 0] 28)
    simpa using h
  have o1 : Ob w0 (w.heap.size + 1) 39 #[.int .i64 d0, .int .i64 d1, .int .i64 d2, .int .i64 d3] := by
    rw [← hw0]
    have h := (Ob.new (w.alloc (.cells #[(.slice t.r.ha t.r.hn t.r.hc), (.slice t.r.wa t.r.wn t.r.wc), (.int .i64 t.r.own), (.int .i64 t.r.feed), (.int .i64 t.r.g0), (.int .i64 t.r.g1), (.int .i64 t.r.g2), (.int .i64 t.r.lost), (.int .i64 t.first), (.slice t.da t.dn t.dc), (.int .i64 t.lo), (.int .i64 t.hi), (.slice t.ta t.tn t.tc)] 31)) #[.int .i64 d0, .int .i64 d1, .int .i64 d2, .int .i64 d3] 39).alloc (.cells #[.int .i64 0, .int .i64 0] 28)
    simpa using h
  have o2 : Ob w0 (w.heap.size + 1 + 1) 28 #[.int .i64 0, .int .i64 0] := by
    rw [← hw0]
    have h := Ob.new ((w.alloc (.cells #[(.slice t.r.ha t.r.hn t.r.hc), (.slice t.r.wa t.r.wn t.r.wc), (.int .i64 t.r.own), (.int .i64 t.r.feed), (.int .i64 t.r.g0), (.int .i64 t.r.g1), (.int .i64 t.r.g2), (.int .i64 t.r.lost), (.int .i64 t.first), (.slice t.da t.dn t.dc), (.int .i64 t.lo), (.int .i64 t.hi), (.slice t.ta t.tn t.tc)] 31)).alloc (.cells #[.int .i64 d0, .int .i64 d1, .int .i64 d2, .int .i64 d3] 39)) #[.int .i64 0, .int .i64 0] 28
    simpa using h
  have ok : TaskOK t hs ws ds ts := TaskOK.of he
  have hdl : ds.length = t.dn := hR.d.len
  have htl : ts.length = t.tn := hR.t.len
  have hdn : t.dn ≤ 400 := ok.dn
  have htn : t.tn ≤ 20 := ok.tn
  have hf1 : 0 ≤ t.first := ok.first.1
  have hf2 : t.first ≤ 80000 - (t.dn : Int) := ok.first.2
  have u0 : IntKind.i64.wrap (x - t.first) = (k : Int) := by rw [show x - t.first = (k : Int) by omega]; exact IntWalk.i64_in _ (by omega)
  have u1 : IntKind.i64.wrap (t.first + (t.dn : Int)) = t.first + (t.dn : Int) := IntWalk.i64_in _ (by omega)
  have u2 : IntKind.i64.wrap (t.first + (t.dn : Int) - 1) = t.first + (t.dn : Int) - 1 := IntWalk.i64_in _ (by omega)
  have hin : inB x t.first (t.first + (t.dn : Int) - 1) = true := inB_iff.2 (by omega)
  have H1 := refValid_any t hs ws ds ts w0 (hR.below hb0)
  rw [he] at H1
  have G1 := Lib.hid (show Calls Try.prog 70 #[.agg #[(.slice t.r.ha t.r.hn t.r.hc), (.slice t.r.wa t.r.wn t.r.wc), (.int .i64 t.r.own), (.int .i64 t.r.feed), (.int .i64 t.r.g0), (.int .i64 t.r.g1), (.int .i64 t.r.g2), (.int .i64 t.r.lost), (.int .i64 t.first), (.slice t.da t.dn t.dc), (.int .i64 t.lo), (.int .i64 t.hi), (.slice t.ta t.tn t.tc)]] w0 fun e w' => e = .returned (.int .i64 0) ∧ Below w0.heap.size w0 w' from H1)
  have G2 := Lib.hid (show ∀ W, Calls Try.prog 52 #[.int .i64 x, .int .i64 t.first, .int .i64 (t.first + (t.dn : Int) - 1)] W fun e w' => e = .returned (.bool true) ∧ W = w' from fun W => by
    have h := in_any x t.first (t.first + (t.dn : Int) - 1) W
    rw [hin] at h
    exact h)
  have G3 := Lib.hid (show ∀ W, Calls Try.prog 59 #[.agg #[.int .i64 d0, .int .i64 d1, .int .i64 d2, .int .i64 d3]] W fun e w' => e = .returned (.int .i64 0) ∧ Below W.heap.size W w' from fun W => by
    have h := refClimate_any d0 d1 d2 d3 W
    rw [hd] at h
    exact h)
  have HOK := Lib.hid (fun da dc ta tc => (ok.movedT hdl htl (Nat.le_of_lt hk) hd x da dc ta tc).zero)
  obtain ⟨p, o, hda, hpl, hdc⟩ := hR.d.at_ (show 0 < t.dn by omega)
  have HDC : Hid (∀ W', Below w.heap.size w W' → ∀ i, i < t.dn → W'.cell? ⟨p, o + i * 4, none⟩ = some (.int .i64 (ds.getD i (0, 0, 0, 0)).1) ∧ W'.cell? ⟨p, o + i * 4 + 1, none⟩ = some (.int .i64 (ds.getD i (0, 0, 0, 0)).2.1) ∧ W'.cell? ⟨p, o + i * 4 + 2, none⟩ = some (.int .i64 (ds.getD i (0, 0, 0, 0)).2.2.1) ∧ W'.cell? ⟨p, o + i * 4 + 3, none⟩ = some (.int .i64 (ds.getD i (0, 0, 0, 0)).2.2.2)) := fun W' h i hi => by
    obtain ⟨c0, c1, c2, c3⟩ := hdc i hi
    exact ⟨(h.cell (p := ⟨p, _, none⟩) hpl).trans c0, (h.cell (p := ⟨p, _, none⟩) hpl).trans c1, (h.cell (p := ⟨p, _, none⟩) hpl).trans c2, (h.cell (p := ⟨p, _, none⟩) hpl).trans c3⟩
  have HDA := Lib.hid hda
  have HF := Lib.hid (And.intro hdn (And.intro hf1 (And.intro hf2 (And.intro hdl htl))))
  obtain ⟨q0, q1, q2, q3, q4, q5, q6, q7, q8, q9, q10, q11, q12⟩ := o0.thirteen
  obtain ⟨y0, y1, y2, y3⟩ := o1.day
  have W0 := Lib.hid hw0
  have B0 := Lib.hid hb0
  have O0 := Lib.hid (And.intro o0 (And.intro o1 o2))
  clear hLP he hw0 hb0 o0 o1 o2 ok H1 hin hdc hx hd hda hpl hdl htl hf1 hf2
  go_enter Try.func35, Try.ntmps35
  go_wp2_with fail
  rw [W0.out]
  refine G1.out.mono ?_
  rintro e w1 ⟨rfl, hb1⟩
  have B1 := Lib.hid (B_trans B0.out hb1)
  have O1 := Lib.hid (And.intro (O0.out.1.below hb1) (And.intro (O0.out.2.1.below hb1) (O0.out.2.2.below hb1)))
  clear q0 q1 q2 q3 q4 q5 q6 q7 q8 q9 q10 q11 q12 y0 y1 y2 y3 hb1
  obtain ⟨q0, q1, q2, q3, q4, q5, q6, q7, q8, q9, q10, q11, q12⟩ := O1.out.1.thirteen
  obtain ⟨y0, y1, y2, y3⟩ := O1.out.2.1.day
  go_wp2_with fail
  refine (G2.out _).mono ?_
  rintro e w2 ⟨rfl, rfl⟩
  go_wp2_with fail
  refine (G3.out _).mono ?_
  rintro e w3 ⟨rfl, hb3⟩
  obtain ⟨w4, hw4⟩ : ∃ w4, w3.alloc (.cells #[(.slice t.r.ha t.r.hn t.r.hc), (.slice t.r.wa t.r.wn t.r.wc), (.int .i64 t.r.own), (.int .i64 t.r.feed), (.int .i64 t.r.g0), (.int .i64 t.r.g1), (.int .i64 t.r.g2), (.int .i64 t.r.lost), (.int .i64 t.first), (.slice t.da t.dn t.dc), (.int .i64 t.lo), (.int .i64 t.hi), (.slice t.ta t.tn t.tc)] 31) = w4 := ⟨_, rfl⟩
  have hb14 : Below w1.heap.size w1 w4 := by rw [← hw4]; exact B_alloc hb3 _
  have oU : Ob w4 w3.heap.size 31 #[(.slice t.r.ha t.r.hn t.r.hc), (.slice t.r.wa t.r.wn t.r.wc), (.int .i64 t.r.own), (.int .i64 t.r.feed), (.int .i64 t.r.g0), (.int .i64 t.r.g1), (.int .i64 t.r.g2), (.int .i64 t.r.lost), (.int .i64 t.first), (.slice t.da t.dn t.dc), (.int .i64 t.lo), (.int .i64 t.hi), (.slice t.ta t.tn t.tc)] := by rw [← hw4]; exact Ob.new _ _ _
  have B4 := Lib.hid (B_trans B1.out hb14)
  have O4 := Lib.hid (And.intro (O1.out.1.below hb14) (And.intro (O1.out.2.1.below hb14) (And.intro (O1.out.2.2.below hb14) oU)))
  have gU : Hid (w.heap.size + 1 + 1 < w3.heap.size) := (O1.out.2.2.below hb3).lt
  have W4 := Lib.hid hw4
  clear q0 q1 q2 q3 q4 q5 q6 q7 q8 q9 q10 q11 q12 y0 y1 y2 y3
  obtain ⟨q0, q1, q2, q3, q4, q5, q6, q7, q8, q9, q10, q11, q12⟩ := (O1.out.1.below hb3).thirteen
  clear hb3 hb14 oU hw4
  go_upto_region 9 with fail
  rw [W4.out]
  clear q0 q1 q2 q3 q4 q5 q6 q7 q8 q9 q10 q11 q12
  obtain ⟨w5, hw5⟩ : ∃ w5, w4.alloc (.cells #[] 39) = w5 := ⟨_, rfl⟩
  have hb5 : Below w4.heap.size w4 w5 := by rw [← hw5]; exact B_alloc (Below.refl _ _) _
  have hrow0 : w5.ownsRow w4.heap.size 39 4 (.slice (some ⟨w4.heap.size, 0, none⟩) 0 0) 0 [] := by rw [← hw5]; exact ⟨rfl, Or.inr ⟨w4.heap.size, 0, #[], rfl, Nat.le_refl _, Ob.new _ _ _, Nat.le_refl _, by unfold maxLen; omega, rfl, rfl⟩⟩
  obtain ⟨vd, w6, hrun, hown, hgr⟩ := joinedE (c := t.dc) hrow0 HF.out.2.2.2.1 (HDC.out w5 (B_trans B4.out hb5)) (by omega) (by omega) hb5.size
  rw [Nat.zero_add, List.nil_append] at hown
  have hb46 : Below w4.heap.size w4 w6 := B_grown' hb5 hrow0 hgr
  obtain ⟨hown1, hown2⟩ := hown
  rcases hown2 with ⟨-, hz⟩ | ⟨g, vc, cs, hvd, hbg, hG, hc1, -, hcs, hct⟩
  · omega
  obtain ⟨z, hz⟩ : ∃ z : Nat, z = 0 := ⟨0, rfl⟩
  have hvd2 : vd = .slice (some ⟨g, z, none⟩) t.dn vc := by rw [hvd, hz]
  have hRD : RowD w6 g z t.dn 39 (setF ds k 0 (d0, d1, d2, d3)) cs := by
    refine ⟨hG, by rw [hz, hcs]; omega, fun i hi => ?_⟩
    obtain ⟨x0, x1, x2, x3⟩ := flat4_at ds i (by rw [HF.out.2.2.2.1]; exact hi)
    have key : ∀ j, j < t.dn * 4 → cs[j]? = (flat4 ds)[j]? := fun j hj => by
      rw [← hct, List.getElem?_take, if_pos hj]
      simp
    rw [hz, Nat.zero_add, show setF ds k 0 (d0, d1, d2, d3) i = ds.getD i (0, 0, 0, 0) by unfold setF; rw [if_neg (by omega)]]
    exact ⟨(key _ (by omega)).trans x0, (key _ (by omega)).trans x1, (key _ (by omega)).trans x2, (key _ (by omega)).trans x3⟩
  subst hvd2
  have hU6 := O4.out.2.2.2.below hb46
  have hgu : g ≠ w3.heap.size := by have := O4.out.2.2.2.lt; omega
  have hgw : w.heap.size < g := by have := O4.out.1.lt; omega
  obtain ⟨w7, hw7⟩ : ∃ w7, w6.setCell ⟨w3.heap.size, 9, none⟩ (.slice (some ⟨g, z, none⟩) t.dn vc) = w7 := ⟨_, rfl⟩
  have B7 : Hid (Below w.heap.size w w7) := by rw [← hw7]; exact (B_trans B4.out hb46).setCell (by have := gU.out; simp only; omega) _
  have O7 : Hid (Ob w7 w.heap.size 31 #[(.slice t.r.ha t.r.hn t.r.hc), (.slice t.r.wa t.r.wn t.r.wc), (.int .i64 t.r.own), (.int .i64 t.r.feed), (.int .i64 t.r.g0), (.int .i64 t.r.g1), (.int .i64 t.r.g2), (.int .i64 t.r.lost), (.int .i64 t.first), (.slice t.da t.dn t.dc), (.int .i64 t.lo), (.int .i64 t.hi), (.slice t.ta t.tn t.tc)] ∧ Ob w7 (w.heap.size + 1) 39 #[.int .i64 d0, .int .i64 d1, .int .i64 d2, .int .i64 d3] ∧ Ob w7 (w.heap.size + 1 + 1) 28 #[.int .i64 0, .int .i64 0] ∧ Ob w7 w3.heap.size 31 #[(.slice t.r.ha t.r.hn t.r.hc), (.slice t.r.wa t.r.wn t.r.wc), (.int .i64 t.r.own), (.int .i64 t.r.feed), (.int .i64 t.r.g0), (.int .i64 t.r.g1), (.int .i64 t.r.g2), (.int .i64 t.r.lost), (.int .i64 t.first), (.slice (some ⟨g, z, none⟩) t.dn vc), (.int .i64 t.lo), (.int .i64 t.hi), (.slice t.ta t.tn t.tc)] ∧ RowD w7 g z t.dn 39 (setF ds k 0 (d0, d1, d2, d3)) cs) := by
    have hg := gU.out
    rw [← hw7]
    exact ⟨(O4.out.1.below hb46).other (by simp only; omega) _, (O4.out.2.1.below hb46).other (by simp only; omega) _, (O4.out.2.2.1.below hb46).other (by simp only; omega) _, (show Ob (w6.setCell ⟨w3.heap.size, 9, none⟩ (.slice (some ⟨g, z, none⟩) t.dn vc)) w3.heap.size 31 #[(.slice t.r.ha t.r.hn t.r.hc), (.slice t.r.wa t.r.wn t.r.wc), (.int .i64 t.r.own), (.int .i64 t.r.feed), (.int .i64 t.r.g0), (.int .i64 t.r.g1), (.int .i64 t.r.g2), (.int .i64 t.r.lost), (.int .i64 t.first), (.slice (some ⟨g, z, none⟩) t.dn vc), (.int .i64 t.lo), (.int .i64 t.hi), (.slice t.ta t.tn t.tc)] by simpa using hU6.set 9 (.slice (some ⟨g, z, none⟩) t.dn vc)), hRD.ob.other (by simp only; omega) _, hRD.le, hRD.at_⟩
  have W5 := Lib.hid hw5
  have W7 := Lib.hid hw7
  have qz := hU6.frozen 9
  rw [← hw5] at hrun
  obtain ⟨q0, q1, q2, q3, q4, q5, q6, q7, q8, q9, q10, q11, q12⟩ := (O4.out.1.alloc (.cells #[] 39)).thirteen
  rw [HDA.out] at q9
  obtain ⟨r0, r1, r2, r3, r4, r5, r6, r7, r8, r9, r10, r11, r12⟩ := hU6.thirteen
  have hgb : Hid (w4.heap.size ≤ g) := hbg
  have hgU2 := Lib.hid (show w3.heap.size < w4.heap.size from O4.out.2.2.2.lt)
  have HGU := Lib.hid hgu
  have HGW := Lib.hid hgw
  clear hb5 hrow0 hgr hb46 hown1 hvd hbg hG hc1 hcs hct hRD hU6 hgu hgw hw5 hw7 hz
  go_upto_region 10 with (at_builtin; refine Lib.wpList_append_run _ rfl _ _ _ _ rfl _ _ rfl rfl _ _ hrun ?_)
  rw [W7.out]
  clear q0 q1 q2 q3 q4 q5 q6 q7 q8 q9 q10 q11 q12 r0 r1 r2 r3 r4 r5 r6 r7 r8 r9 r10 r11 r12 qz hrun
  obtain ⟨q0, q1, q2, q3, q4, q5, q6, q7, q8, q9, q10, q11, q12⟩ := O7.out.1.thirteen
  go_wp2_with fail
  clear q0 q1 q2 q3 q4 q5 q6 q7 q8 q9 q10 q11 q12
  go_loopg [10] (t.dn - k) (fun gk iv wr => ∃ (j : Nat) (cs : Array Value), gk = t.dn - k - j ∧ iv = .int .i64 ((k + j : Nat) : Int) ∧ k + j ≤ t.dn ∧ Below w.heap.size w wr ∧ Ob wr w.heap.size 31 #[(.slice t.r.ha t.r.hn t.r.hc), (.slice t.r.wa t.r.wn t.r.wc), (.int .i64 t.r.own), (.int .i64 t.r.feed), (.int .i64 t.r.g0), (.int .i64 t.r.g1), (.int .i64 t.r.g2), (.int .i64 t.r.lost), (.int .i64 t.first), (.slice t.da t.dn t.dc), (.int .i64 t.lo), (.int .i64 t.hi), (.slice t.ta t.tn t.tc)] ∧ Ob wr (w.heap.size + 1) 39 #[.int .i64 d0, .int .i64 d1, .int .i64 d2, .int .i64 d3] ∧ Ob wr (w.heap.size + 1 + 1) 28 #[.int .i64 0, .int .i64 0] ∧ Ob wr w3.heap.size 31 #[(.slice t.r.ha t.r.hn t.r.hc), (.slice t.r.wa t.r.wn t.r.wc), (.int .i64 t.r.own), (.int .i64 t.r.feed), (.int .i64 t.r.g0), (.int .i64 t.r.g1), (.int .i64 t.r.g2), (.int .i64 t.r.lost), (.int .i64 t.first), (.slice (some ⟨g, z, none⟩) t.dn vc), (.int .i64 t.lo), (.int .i64 t.hi), (.slice t.ta t.tn t.tc)] ∧ RowD wr g z t.dn 39 (setF ds k j (d0, d1, d2, d3)) cs)
  case atStart => exact ⟨0, cs, rfl, rfl, by omega, B7.out, O7.out⟩
  case round =>
    obtain ⟨j, cs, rfl, rfl, hj, hbr, oT, oD, oS, oU, hRD⟩ := hrel
    clear O7 B7
    by_cases hlt : k + j < t.dn
    · obtain ⟨i, hi⟩ : ∃ i, k + j = i := ⟨_, rfl⟩
      obtain ⟨r0, r1, r2, r3, r4, r5, r6, r7, r8, r9, r10, r11, r12⟩ := oU.thirteen
      obtain ⟨y0, y1, y2, y3⟩ := oD.day
      rw [hi] at hlt ⊢
      obtain ⟨c0, c1, c2, c3⟩ := hRD.cell hlt
      have g0 := hRD.ob.frozen (z + i * 4)
      have g1 := hRD.ob.frozen (z + i * 4 + 1)
      have g2 := hRD.ob.frozen (z + i * 4 + 2)
      have g3 := hRD.ob.frozen (z + i * 4 + 3)
      have hP := hRD.put hlt (d0, d1, d2, d3)
      have hgu := HGU.out
      have hgw := HGW.out
      have hgb2 := hgb.out
      have hgU3 := hgU2.out
      have hgU4 := gU.out
      rw [← hi, setF_step, hi] at hP
      have REL := Lib.hid (And.intro hP (And.intro ((((hbr.setCell (p := ⟨g, z + i * 4, none⟩) (by simp only; omega) (.int .i64 d0)).setCell (p := ⟨g, z + i * 4 + 1, none⟩) (by simp only; omega) (.int .i64 d1)).setCell (p := ⟨g, z + i * 4 + 2, none⟩) (by simp only; omega) (.int .i64 d2)).setCell (p := ⟨g, z + i * 4 + 3, none⟩) (by simp only; omega) (.int .i64 d3))
        (And.intro ((((oT.other (p := ⟨g, z + i * 4, none⟩) (by simp only; omega) (.int .i64 d0)).other (p := ⟨g, z + i * 4 + 1, none⟩) (by simp only; omega) (.int .i64 d1)).other (p := ⟨g, z + i * 4 + 2, none⟩) (by simp only; omega) (.int .i64 d2)).other (p := ⟨g, z + i * 4 + 3, none⟩) (by simp only; omega) (.int .i64 d3))
        (And.intro ((((oD.other (p := ⟨g, z + i * 4, none⟩) (by simp only; omega) (.int .i64 d0)).other (p := ⟨g, z + i * 4 + 1, none⟩) (by simp only; omega) (.int .i64 d1)).other (p := ⟨g, z + i * 4 + 2, none⟩) (by simp only; omega) (.int .i64 d2)).other (p := ⟨g, z + i * 4 + 3, none⟩) (by simp only; omega) (.int .i64 d3))
        (And.intro ((((oS.other (p := ⟨g, z + i * 4, none⟩) (by simp only; omega) (.int .i64 d0)).other (p := ⟨g, z + i * 4 + 1, none⟩) (by simp only; omega) (.int .i64 d1)).other (p := ⟨g, z + i * 4 + 2, none⟩) (by simp only; omega) (.int .i64 d2)).other (p := ⟨g, z + i * 4 + 3, none⟩) (by simp only; omega) (.int .i64 d3))
        ((((oU.other (p := ⟨g, z + i * 4, none⟩) (by simp only; omega) (.int .i64 d0)).other (p := ⟨g, z + i * 4 + 1, none⟩) (by simp only; omega) (.int .i64 d1)).other (p := ⟨g, z + i * 4 + 2, none⟩) (by simp only; omega) (.int .i64 d2)).other (p := ⟨g, z + i * 4 + 3, none⟩) (by simp only; omega) (.int .i64 d3)))))))
      have HI := Lib.hid hi
      have i0 : (0 : Int) ≤ (i : Int) := by omega
      have i1 : (i : Int) < t.dn := by omega
      have u4 : IntKind.i64.wrap ((i : Int) + 1) = (i : Int) + 1 := IntWalk.i64_in _ (by omega)
      generalize setF ds k j (d0, d1, d2, d3) i = old at c0 c1 c2 c3
      clear hbr oT oD oS oU hRD hP hgu hgw hgb2 hgU3 hgU4 hi hj
      go_wp2_with fail
      go_roundg (t.dn - k - (j + 1))
      case measure => have := HI.out; omega
      case rel =>
        have hi := HI.out
        refine ⟨j + 1, _, rfl, by rw [show ((k + (j + 1) : Nat) : Int) = (i : Int) + 1 by omega], by omega, REL.out.2.1, REL.out.2.2.1, REL.out.2.2.2.1, REL.out.2.2.2.2.1, REL.out.2.2.2.2.2, REL.out.1⟩
    · have hjk : j = t.dn - k := by omega
      have hge : ¬ ((k + j : Nat) : Int) < (t.dn : Int) := by omega
      rw [hjk] at hRD
      have gb := hgb.out
      have gu2 := hgU2.out
      have gw := gU.out
      have hgu := HGU.out
      obtain ⟨r0, r1, r2, r3, r4, r5, r6, r7, r8, r9, r10, r11, r12⟩ := oU.thirteen
      have qz := oU.frozen 12
      obtain ⟨wt, hwt⟩ : ∃ wt, wr.setCell ⟨w3.heap.size, 12, none⟩ (.slice none 0 0) = wt := ⟨_, rfl⟩
      have hsz : wr.heap.size = wt.heap.size := by rw [← hwt]; simp
      have hRDt : RowD wt g z t.dn 39 (setF ds k (t.dn - k) (d0, d1, d2, d3)) cs := by rw [← hwt]; exact ⟨hRD.ob.other (by simp only; omega) _, hRD.le, hRD.at_⟩
      have M0 : Hid (KT t w w3.heap.size g wt.heap.size (some ⟨g, z, none⟩) vc cs (.slice none 0 0) (keptL (ts.take 0) x) wt) := by
        refine ⟨?_, ?_, hRDt.ob, ?_, ⟨rfl, Or.inl ⟨rfl, rfl⟩⟩, ?_, Nat.le_refl _⟩
        · rw [← hwt]; exact oT.other (by simp only; omega) _
        · rw [← hwt]; simpa using oU.set 12 (.slice none 0 0)
        · rw [← hwt]; exact oS.other (by simp only; omega) _
        · rw [← hwt]; exact hbr.setCell (by simp only; omega) _
      have GB := Lib.hid (And.intro (show w3.heap.size < wt.heap.size by rw [← hsz]; exact oU.lt) (show g < wt.heap.size from hRDt.ob.lt))
      have RD := Lib.hid hRDt
      have WT := Lib.hid hwt
      clear hRD oT oD oS oU hbr hRDt hsz hwt gb gu2 gw hgu
      go_upto_region 15 with fail
      rw [WT.out]
      clear r0 r1 r2 r3 r4 r5 r6 r7 r8 r9 r10 r11 r12 qz
      go_wp2_with fail
      go_loopg [11] t.tn (fun gk iv wr => ∃ (i : Nat) (vt : Value), gk = t.tn - i ∧ iv = .int .i64 (i : Int) ∧ i ≤ t.tn ∧ KT t w w3.heap.size g wt.heap.size (some ⟨g, z, none⟩) vc cs vt (keptL (ts.take i) x) wr)
      case atStart => exact ⟨0, _, rfl, rfl, Nat.zero_le _, M0.out⟩
      case round =>
        obtain ⟨i, vt, rfl, rfl, hi, hM⟩ := hrel
        clear M0
        obtain ⟨q0, q1, q2, q3, q4, q5, q6, q7, q8, q9, q10, q11, q12⟩ := hM.T.thirteen
        by_cases hlt : i < t.tn
        · obtain ⟨tp, to_, hta, hpl, htc⟩ := (hR.below hM.b).t.at_ (by omega)
          obtain ⟨y0', y1', y2'⟩ := htc i hlt
          have hst := kept_step (ts := ts) (x := x) (i := i) (by rw [HF.out.2.2.2.2]; exact hlt)
          have HTC := Lib.hid (fun (W' : World) (hb : Below w.heap.size w W') => (hR.below hb).t)
          have hll : (keptL (ts.take i) x).length ≤ 100000 := by have := kept_len (ts.take i) x; rw [List.length_take] at this; omega
          have HY := Lib.hid (fun (W' : World) (hb : Below w.heap.size w W') => (show W'.cell? ⟨tp, to_ + i * 3, none⟩ = some (.int .i64 (ts.getD i (0, 0, 0)).1) ∧ W'.cell? ⟨tp, to_ + i * 3 + 1, none⟩ = some (.int .i64 (ts.getD i (0, 0, 0)).2.1) ∧ W'.cell? ⟨tp, to_ + i * 3 + 2, none⟩ = some (.int .i64 (ts.getD i (0, 0, 0)).2.2) from by
            obtain ⟨tp2, to2, hta2, -, htc2⟩ := (hR.below hb).t.at_ (show 0 < t.tn by omega)
            rw [hta] at hta2
            injection hta2 with hta2
            injection hta2 with e1 e2
            subst e1 e2
            exact htc2 i hlt))
          generalize ts.getD i (0, 0, 0) = y at y0' y1' y2' hst HY
          obtain ⟨y0, y1, y2⟩ := y
          simp only at y0' y1' y2' hst HY
          have i0 : (0 : Int) ≤ (i : Int) := by omega
          have i1 : (i : Int) < t.tn := by omega
          have u4 : IntKind.i64.wrap ((i : Int) + 1) = (i : Int) + 1 := IntWalk.i64_in _ (by omega)
          rw [hta] at q12
          by_cases hy : x < y0
          · rw [if_pos hy] at hst
            have ST := Lib.hid hst
            have hle : ¬ y0 ≤ x := by omega
            have MM := Lib.hid hM
            clear hM htc hst hta
            go_wp2_with fail
            go_roundg (t.tn - (i + 1))
            case measure => omega
            case rel => exact ⟨i + 1, vt, rfl, by push_cast; rfl, by omega, by rw [ST.out]; exact MM.out⟩
          · rw [if_neg hy] at hst
            have ST := Lib.hid hst
            have hle : y0 ≤ x := by omega
            have HTA := Lib.hid hta
            obtain ⟨L, hL⟩ : ∃ L, keptL (ts.take i) x = L := ⟨_, rfl⟩
            rw [hL] at hM hll ST
            have J0 : Hid (I19 t w w3.heap.size g wt.heap.size (some ⟨g, z, none⟩) vc cs vt L y0 y1 y2 0 (fun _ => undef) wr.drew) := ⟨fun _ => hM.below (Below.refl _ _).drew, fun _ => hM.T.drew, fun _ => hM.b.drew, fun h => by omega, fun h => by omega, fun h => by omega⟩
            clear hM htc hst hta hL
            go_upto_region 19 with fail
            clear q0 q1 q2 q3 q4 q5 q6 q7 q8 q9 q10 q11 q12 y0' y1' y2'
            refine wp_region_steps (I := I19 t w w3.heap.size g wt.heap.size (some ⟨g, z, none⟩) vc cs vt L y0 y1 y2) (V := V19 t w.heap.size w3.heap.size tp to_ i vt y0 y1 y2) (eff := eff19) (need := need19) (till := till19) 3 (by kernel_rfl) (by decide) (by kernel_rfl) rfl (by kernel_rfl) (by kernel_rfl) (by kernel_rfl) (by kernel_rfl) (by kernel_rfl) J0.out ?steps ?hend
            case hend =>
              intro outs w' hI
              have hE := Lib.hid (hI.e rfl)
              clear hI J0
              simp only [flowAct, List.filterMap_cons, List.filterMap_nil, patch, List.setIfInBounds_toArray, List.set_cons_zero, List.set_cons_succ]
              go_wp2_with fail
              go_roundg (t.tn - (i + 1))
              case measure => omega
              case rel =>
                obtain ⟨v, hv⟩ := hE.out
                exact ⟨i + 1, v, rfl, by push_cast; rfl, by omega, by rw [ST.out]; exact hv⟩
            case steps =>
              refine ⟨⟨rfl, fun t ht k' outs u _ => by cases ht; rfl, fun k' outs W' ρ hk1 hk2 hI hc hg h_fn hr ho => ?_⟩, ?_⟩
              · have hk2' : k' ≤ 2 := hk2
                have o9 := ho 9 (by kernel_rfl)
                clear hI
                refine step_pure rfl (v := .pointer (some ⟨w3.heap.size, 12, none⟩)) (fun t ht => by cases ht; rfl) ?_
                go_simp
              refine ⟨⟨rfl, fun t ht k' outs u _ => by cases ht; rfl, fun k' outs W' ρ hk1 hk2 hI hc hg h_fn hr ho => ?_⟩, ?_⟩
              · have hk2' : k' ≤ 1 := hk2
                have r76 : ρ (.tmp 76) = .pointer (some ⟨w3.heap.size, 12, none⟩) := hr 76 (by kernel_rfl)
                obtain ⟨f0, f1, f2, f3, f4, f5, f6, f7, f8, f9, f10, f11, f12⟩ := (hI.K (by omega)).U.thirteen
                clear hI
                refine step_pure rfl (v := vt) (fun t ht => by cases ht; rfl) ?_
                go_simp
              refine ⟨⟨rfl, fun t ht k' outs u _ => by cases ht; rfl, fun k' outs W' ρ hk1 hk2 hI hc hg h_fn hr ho => ?_⟩, ?_⟩
              · have hk2' : k' ≤ 2 := hk2
                have o3 := ho 3 (by kernel_rfl)
                clear hI
                refine step_pure rfl (v := .pointer (some ⟨w.heap.size, 12, none⟩)) (fun t ht => by cases ht; rfl) ?_
                go_simp
              refine ⟨⟨rfl, fun t ht k' outs u _ => by cases ht; rfl, fun k' outs W' ρ hk1 hk2 hI hc hg h_fn hr ho => ?_⟩, ?_⟩
              · have hk2' : k' ≤ 2 := hk2
                have r78 : ρ (.tmp 78) = .pointer (some ⟨w.heap.size, 12, none⟩) := hr 78 (by kernel_rfl)
                obtain ⟨f0, f1, f2, f3, f4, f5, f6, f7, f8, f9, f10, f11, f12⟩ := (hI.T2 (by omega)).thirteen
                rw [HTA.out] at f12
                clear hI
                refine step_pure rfl (v := .slice (some ⟨tp, to_, none⟩) t.tn t.tc) (fun t ht => by cases ht; rfl) ?_
                go_simp
              refine ⟨⟨rfl, fun t ht k' outs u _ => by cases ht; rfl, fun k' outs W' ρ hk1 hk2 hI hc hg h_fn hr ho => ?_⟩, ?_⟩
              · have hk2' : k' ≤ 2 := hk2
                have o11 := ho 11 (by kernel_rfl)
                clear hI
                refine step_pure rfl (v := .int .i64 (i : Nat)) (fun t ht => by cases ht; rfl) ?_
                go_simp
              refine ⟨⟨rfl, fun t ht k' outs u _ => by cases ht; rfl, fun k' outs W' ρ hk1 hk2 hI hc hg h_fn hr ho => ?_⟩, ?_⟩
              · have hk2' : k' ≤ 2 := hk2
                have r79 : ρ (.tmp 79) = .slice (some ⟨tp, to_, none⟩) t.tn t.tc := hr 79 (by kernel_rfl)
                have r80 : ρ (.tmp 80) = .int .i64 (i : Nat) := hr 80 (by kernel_rfl)
                clear hI
                refine step_pure rfl (v := .pointer (some ⟨tp, to_ + i * 3, none⟩)) (fun t ht => by cases ht; rfl) ?_
                go_simp
              refine ⟨⟨rfl, fun t ht k' outs u _ => by cases ht; rfl, fun k' outs W' ρ hk1 hk2 hI hc hg h_fn hr ho => ?_⟩, ?_⟩
              · have hk2' : k' ≤ 2 := hk2
                have r81 : ρ (.tmp 81) = .pointer (some ⟨tp, to_ + i * 3, none⟩) := hr 81 (by kernel_rfl)
                obtain ⟨e0, e1, e2⟩ := HY.out W' (hI.b2 (by omega))
                clear hI
                refine step_pure rfl (v := .agg #[.int .i64 y0, .int .i64 y1, .int .i64 y2]) (fun t ht => by cases ht; rfl) ?_
                go_simp
              refine ⟨⟨rfl, fun t ht k' outs u (h : 0 < k') => by cases ht; show upd outs k' u 0 = outs 0; unfold upd; rw [if_neg (by omega)], fun k' outs W' ρ hk1 hk2 hI hc hg h_fn hr ho => ?_⟩, ?_⟩
              · obtain rfl : k' = 0 := by have h1 : 0 ≤ k' := hk1; have h2 : k' ≤ 0 := hk2; omega
                have r82 : ρ (.tmp 82) = .agg #[.int .i64 y0, .int .i64 y1, .int .i64 y2] := hr 82 (by kernel_rfl)
                have hbl := B_alloc (Below.refl W'.heap.size W') (.cells #[.int .i64 y0, .int .i64 y1, .int .i64 y2] 64)
                refine step_new rfl (v := .slice (some ⟨W'.heap.size, 0, none⟩) 1 1) (w' := W'.alloc (.cells #[.int .i64 y0, .int .i64 y1, .int .i64 y2] 64)) ?_ ⟨fun _ => (hI.K (by omega)).below hbl, fun _ => (hI.T2 (by omega)).below hbl, fun _ => B_trans (hI.b2 (by omega)) hbl, fun _ => ⟨_, rfl, Ob.new _ _ _⟩, fun h => by omega, fun h => by omega⟩ (fun t ht => by cases ht; rfl)
                clear hI hbl; go_simp
              refine ⟨⟨rfl, fun t ht k' outs u (h : 1 < k') => by cases ht; show upd outs k' u 1 = outs 1; unfold upd; rw [if_neg (by omega)], fun k' outs W' ρ hk1 hk2 hI hc hg h_fn hr ho => ?_⟩, ?_⟩
              · obtain rfl : k' = 1 := by have h1 : 1 ≤ k' := hk1; have h2 : k' ≤ 1 := hk2; omega
                have r77 : ρ (.tmp 77) = vt := hr 77 (by kernel_rfl)
                have r83 : ρ (.tmp 83) = outs 0 := hr 83 (by kernel_rfl)
                obtain ⟨q, hq1, hq2⟩ := hI.q rfl
                replace r83 := r83.trans hq1
                have hK := hI.K (by omega)
                obtain ⟨v', w2', hrun, hown, hgr⟩ := joinedM (c := 1) (p := q) (o := 0) (ys := [(y0, y1, y2)]) (m := 1) hK.R rfl (fun i hi => by obtain rfl : i = 0 := (by omega); exact ⟨hq2.cell 0, hq2.cell 1, hq2.cell 2⟩) (by omega) (by omega) hK.sz
                exact step_new rfl (run_append_op rfl r77 r83 hrun) ⟨fun h => by omega, fun _ => ob_grow hK.T hK.R hgr (by have := GB.out.1; have := gU.out; omega), fun _ => below_grow hK.b hK.R hgr (by have := GB.out.1; have := gU.out; omega) hK.b.size, fun h => by omega, fun _ => ⟨W', hK, hgr, hown⟩, fun h => by omega⟩ (fun t ht => by cases ht; rfl)
              refine ⟨⟨rfl, fun t ht k' outs u _ => by cases ht; rfl, fun k' outs W' ρ hk1 hk2 hI hc hg h_fn hr ho => ?_⟩, ?_⟩
              · have hk2' : k' ≤ 2 := hk2
                have hk1' : 2 ≤ k' := hk1
                have o9 := ho 9 (by kernel_rfl)
                clear hI
                refine step_pure rfl (v := .pointer (some ⟨w3.heap.size, 12, none⟩)) (fun t ht => by cases ht; rfl) ?_
                go_simp
              refine ⟨⟨rfl, (fun t ht => by cases ht), fun k' outs W' ρ hk1 hk2 hI hc hg h_fn hr ho => ?_⟩, trivial⟩
              · obtain rfl : k' = 2 := by have h1 : 2 ≤ k' := hk1; have h2 : k' ≤ 2 := hk2; omega
                have r84 : ρ (.tmp 84) = outs 1 := hr 84 (by kernel_rfl)
                have r85 : ρ (.tmp 85) = .pointer (some ⟨w3.heap.size, 12, none⟩) := hr 85 (by kernel_rfl)
                obtain ⟨W0, hK, hgr, hown⟩ := hI.a rfl
                have hAdd := hK.add gU.out GB.out.1 GB.out.2 HGU.out hgr hown
                have hU := ob_grow hK.U hK.R hgr GB.out.1
                obtain ⟨f0, f1, f2, f3, f4, f5, f6, f7, f8, f9, f10, f11, f12⟩ := hU.thirteen
                have e9 := hU.frozen 12
                have hown2 := hown
                rw [← flat3_app] at hown2
                obtain ⟨oa, oc, hov, -, -⟩ := sl3_row hown2
                rw [hov] at hAdd
                replace r84 := r84.trans hov
                obtain ⟨ol, hol⟩ : ∃ ol, L.length + 1 = ol := ⟨_, rfl⟩
                rw [hol] at r84 hAdd
                clear hov hown2 hol
                refine step_store rfl rfl (w' := W'.setCell ⟨w3.heap.size, 12, none⟩ (.slice oa ol oc)) ?_ ⟨fun h => by omega, fun h => by omega, fun h => by omega, fun h => by omega, fun h => by omega, fun _ => ⟨_, hAdd⟩⟩
                clear hI hK hgr hown hAdd hU; go_simp
        · obtain rfl : i = t.tn := by omega
          have hge2 : ¬ (t.tn : Int) < (t.tn : Int) := by omega
          have hfull : keptL (ts.take t.tn) x = keptL ts x := by rw [List.take_of_length_le (by rw [HF.out.2.2.2.2]; exact Nat.le_refl _)]
          rw [hfull] at hM
          obtain ⟨ua, uc, rfl, hT3, -⟩ := sl3_row hM.R
          have hRv := hR.below hM.b
          have hGG : RowD wr g z t.dn 39 (setF ds k (t.dn - k) (d0, d1, d2, d3)) cs := ⟨hM.G, RD.out.le, RD.out.at_⟩
          have hkl : (keptL ts x).length ≤ 140737488351232 := by have := kept_len ts x; rw [HF.out.2.2.2.2] at this; omega
          have hRu : TkR wr (t.movedT_ (some ⟨g, z, none⟩) vc ua (keptL ts x).length uc) hs ws (movedL ds k t.dn (d0, d1, d2, d3)) (keptL ts x) := ⟨hRv.r, hRv.dn, hkl, hGG.sl (moved_len HF.out.2.2.2.1 (by omega) _) (fun i hi => setF_all HF.out.2.2.2.1 (by omega) _ hi), hT3⟩
          have H2 := refLost_ok (t.movedT_ (some ⟨g, z, none⟩) vc ua (keptL ts x).length uc) hs ws (movedL ds k t.dn (d0, d1, d2, d3)) (keptL ts x) wr hRu (HOK.out _ _ _ _)
          rw [movV_same, HLP.out] at H2
          have K2 := Lib.hid (show Calls Try.prog 33 #[.agg #[(.slice t.r.ha t.r.hn t.r.hc), (.slice t.r.wa t.r.wn t.r.wc), (.int .i64 t.r.own), (.int .i64 t.r.feed), (.int .i64 t.r.g0), (.int .i64 t.r.g1), (.int .i64 t.r.g2), (.int .i64 t.r.lost), (.int .i64 t.first), (.slice (some ⟨g, z, none⟩) t.dn vc), (.int .i64 t.lo), (.int .i64 t.hi), (.slice ua (keptL ts x).length uc)]] wr fun e w' => e = .returned (.tuple #[.agg #[.int .i64 l, .int .i64 m], .int .i64 0]) ∧ Below wr.heap.size wr w' from H2)
          obtain ⟨r0, r1, r2, r3, r4, r5, r6, r7, r8, r9, r10, r11, r12⟩ := hM.U.thirteen
          have MM := Lib.hid (And.intro hM.b hM.S)
          clear hM hT3 hRv hGG hkl hRu H2 hfull
          go_wp2_with fail
          refine K2.out.mono ?_
          rintro e w9 ⟨rfl, hb9⟩
          have B9 := Lib.hid (B_trans MM.out.1 hb9)
          have Z := Lib.hid (MM.out.2.below hb9)
          obtain ⟨z0, z1, z2, z3⟩ := Z.out.span
          clear r0 r1 r2 r3 r4 r5 r6 r7 r8 r9 r10 r11 r12 q0 q1 q2 q3 q4 q5 q6 q7 q8 q9 q10 q11 q12 hb9
          go_wp2
          refine bodyPost_ret (v := .tuple #[.agg #[.int .i64 l, .int .i64 m], .int .i64 0]) (by have q0 := Z.out; have z4 := (q0.set 0 (.int .i64 l)).set 1 (.int .i64 m); simp only [List.setIfInBounds_toArray, List.set_cons_zero, List.set_cons_succ] at z4; have z5 := z4.cell 0; have z6 := z4.cell 1; simp only [List.getElem?_toArray, List.getElem?_cons_zero, List.getElem?_cons_succ] at z5 z6; simp [results, Try.results35, go_sem, z5, z6]) rfl ⟨rfl, ?_⟩
          exact (B9.out.setCell (by simp only; omega) _).setCell (by simp only; omega) _
end Go.Proofs.Ytanjkhclhcnnaaa

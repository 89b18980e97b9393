/- Own of the program. -/
import Derived.Test.YtanjkhclhcnnaaaDE
namespace Go.Proofs.Ytanjkhclhcnnaaa
open Go.RowKit Go.Shelf
attribute [local go_sem] Oper.semAt_some

/-- The levels that can be on the next morning. -/
def canO (r : RuA) (ss : List T2) (dn : Nat) (cs : List Int) (p : T2) (m : Nat) : T2 := if m < dn then nextS r (ss.getD m (0, 0)) (cs.getD m 0, cs.getD m 0) else p
def canL (r : RuA) (ss : List T2) (dn : Nat) (cs : List Int) (p : T2) (ms : List Nat) : T2 := ms.foldl (canO r ss dn cs) p
def goodO (r : RuA) (ss : List T2) (dn : Nat) (cs : List Int) : T2 → List Nat → Bool
  | _, [] => true
  | p, m :: ms => inB (cs.getD m 0) p.1 p.2 && goodO r ss dn cs (canO r ss dn cs p m) ms
/-- The first morning at which levels are no course, or -1. -/
def ownR (r : RuA) (ss : List T2) (dn : Nat) (cs : List Int) : T2 → List Nat → Int
  | _, [] => -1
  | p, m :: ms => if inB (cs.getD m 0) p.1 p.2 then ownR r ss dn cs (canO r ss dn cs p m) ms else m
theorem canL_snoc (r : RuA) (ss : List T2) (dn : Nat) (cs : List Int) (p : T2) (ms : List Nat) (m : Nat) : canL r ss dn cs p (ms ++ [m]) = canO r ss dn cs (canL r ss dn cs p ms) m := by simp [canL]
theorem goodO_snoc {r : RuA} {ss : List T2} {dn : Nat} {cs : List Int} {m : Nat} : ∀ {ms : List Nat} {p : T2}, goodO r ss dn cs p ms = true → inB (cs.getD m 0) (canL r ss dn cs p ms).1 (canL r ss dn cs p ms).2 = true → goodO r ss dn cs p (ms ++ [m]) = true
  | [], p, _, h => by simpa [goodO, canL] using h
  | a :: ms, p, h, h2 => by
    have h' : (inB (cs.getD a 0) p.1 p.2 && goodO r ss dn cs (canO r ss dn cs p a) ms) = true := h
    rw [Bool.and_eq_true] at h'
    show (inB (cs.getD a 0) p.1 p.2 && goodO r ss dn cs (canO r ss dn cs p a) (ms ++ [m])) = true
    rw [h'.1, Bool.true_and]
    exact goodO_snoc h'.2 h2
theorem ownR_good {r : RuA} {ss : List T2} {dn : Nat} {cs : List Int} : ∀ {ms : List Nat} {p : T2}, goodO r ss dn cs p ms = true → ownR r ss dn cs p ms = -1
  | [], _, _ => rfl
  | a :: ms, p, h => by
    have h' : (inB (cs.getD a 0) p.1 p.2 && goodO r ss dn cs (canO r ss dn cs p a) ms) = true := h
    rw [Bool.and_eq_true] at h'
    unfold ownR
    rw [if_pos h'.1]
    exact ownR_good h'.2
theorem ownR_bad {r : RuA} {ss : List T2} {dn : Nat} {cs : List Int} {m : Nat} {post : List Nat} : ∀ {ms : List Nat} {p : T2}, goodO r ss dn cs p ms = true → inB (cs.getD m 0) (canL r ss dn cs p ms).1 (canL r ss dn cs p ms).2 = false → ownR r ss dn cs p (ms ++ m :: post) = m
  | [], p, _, h => by
    have h' : inB (cs.getD m 0) p.1 p.2 = false := h
    show ownR r ss dn cs p (m :: post) = m
    unfold ownR
    rw [if_neg (by rw [h']; simp)]
  | a :: ms, p, h, h2 => by
    have h' : (inB (cs.getD a 0) p.1 p.2 && goodO r ss dn cs (canO r ss dn cs p a) ms) = true := h
    rw [Bool.and_eq_true] at h'
    show ownR r ss dn cs p (a :: (ms ++ m :: post)) = m
    unfold ownR
    rw [if_pos h'.1]
    exact ownR_bad h'.2 h2
/-- What Own answers. -/
def ownF (t : TkA) (hs ws : List T2) (ds : List T4) (ts : List T3) (cs : List Int) : Int × Int :=
  if (taskS t hs ws ds ts).2.2 ≠ 0 then (0, (taskS t hs ws ds ts).2.2) else if cs.length ≠ t.dn + 1 then (0, 2) else (ownR t.r (ds.map (strS hs ws)) t.dn cs (t.lo, t.hi) (List.range (t.dn + 1)), 0)

theorem Ob.xcells {W : World} {X : Nat} {T : TypeId} {t : TkA} {v : Value} (h : Ob W X T (t.xc v)) : W.cell? ⟨X, 0, none⟩ = some (.slice t.r.ha t.r.hn t.r.hc) ∧ W.cell? ⟨X, 1, none⟩ = some (.slice t.r.wa t.r.wn t.r.wc) ∧ W.cell? ⟨X, 2, none⟩ = some (.int .i64 t.r.own) ∧ W.cell? ⟨X, 3, none⟩ = some (.int .i64 t.r.feed) ∧ W.cell? ⟨X, 4, none⟩ = some (.int .i64 t.r.g0) ∧ W.cell? ⟨X, 5, none⟩ = some (.int .i64 t.r.g1) ∧ W.cell? ⟨X, 6, none⟩ = some (.int .i64 t.r.g2) ∧ W.cell? ⟨X, 7, none⟩ = some (.int .i64 t.r.lost) ∧ W.cell? ⟨X, 8, none⟩ = some (.int .i64 t.first) ∧ W.cell? ⟨X, 9, none⟩ = some v ∧ W.cell? ⟨X, 10, none⟩ = some (.int .i64 t.lo) ∧ W.cell? ⟨X, 11, none⟩ = some (.int .i64 t.hi) ∧ W.cell? ⟨X, 12, none⟩ = some (.slice t.ta t.tn t.tc) :=
  ⟨h.cell 0, h.cell 1, h.cell 2, h.cell 3, h.cell 4, h.cell 5, h.cell 6, h.cell 7, h.cell 8, h.cell 9, h.cell 10, h.cell 11, h.cell 12⟩
/-- The memory while mornings come: the task, the levels that can be, what stays for the loop. -/
abbrev OM (t : TkA) (v : Value) (w2 W0 : World) (X : Nat) (p : T2) (W : World) : Prop :=
  Ob W X 104 (t.xc v) ∧ Ob W (X + 1) 28 #[.int .i64 p.1, .int .i64 p.2] ∧ Below X w2 W ∧ KeepsFrom (X + 4) W0 W ∧ KB2 (X + 2) (X + 3) W0 W ∧ X + 4 ≤ W.heap.size ∧ w2.heap.size = X
theorem OM.below {t : TkA} {v : Value} {w2 W0 : World} {X : Nat} {p : T2} {W W1 : World} (h : OM t v w2 W0 X p W) (hb : Below W.heap.size W W1) : OM t v w2 W0 X p W1 :=
  have h6 := h.2.2.2.2.2.1
  ⟨h.1.below hb, h.2.1.below hb, by have := h.2.2.2.2.2.2; subst this; exact B_trans h.2.2.1 hb, h.2.2.2.1.trans (keeps_below hb), h.2.2.2.2.1.trans (kb2_below hb (by omega) (by omega)), Nat.le_trans h6 hb.size, h.2.2.2.2.2.2⟩
theorem OM.set {t : TkA} {v : Value} {w2 W0 : World} {X : Nat} {p : T2} {W : World} (h : OM t v w2 W0 X p W) (q : T2) : OM t v w2 W0 X q ((W.setCell ⟨X + 1, 0, none⟩ (.int .i64 q.1)).setCell ⟨X + 1, 1, none⟩ (.int .i64 q.2)) :=
  ⟨(h.1.other (by simp only; omega) _).other (by simp only; omega) _, by simpa using (h.2.1.set 0 (.int .i64 q.1)).set 1 (.int .i64 q.2), (h.2.2.1.setCell (by simp only; omega) _).setCell (by simp only; omega) _,
    h.2.2.2.1.trans ((keeps_set h.2.1 0 _).trans (keeps_set (h.2.1.set 0 (.int .i64 q.1)) 1 _)), h.2.2.2.2.1.trans ((kb2_set _ _ _ (by omega) (by omega)).trans (kb2_set _ _ _ (by omega) (by omega))), by simpa [World.setCell] using h.2.2.2.2.2.1, h.2.2.2.2.2.2⟩
theorem OM.own {t : TkA} {v : Value} {w2 W0 : World} {X : Nat} {p : T2} {W W1 : World} {row : Option Nat} (h : OM t v w2 W0 X p W) (hg : W.grownBy W1 row) (hr : ∀ r, row = some r → X + 4 ≤ r ∧ ∃ o : Obj, W.heap[r]? = some o ∧ o.isCells = false) : OM t v w2 W1 X p W1 :=
  ⟨h.1.own hg (fun r e => (hr r e).2), h.2.1.own hg (fun r e => (hr r e).2), below_own h.2.2.1 (by have := h.2.2.2.2.2.2; omega) hg (fun r e => by have := (hr r e).1; omega), KeepsFrom.refl _ _, KB2.refl _ _ _, Nat.le_trans h.2.2.2.2.2.1 hg.size, h.2.2.2.2.2.2⟩
def V26 (t : TkA) (X sb so m : Nat) (sc : Nat) (s : T2) (n : Int) (outs : Nat → Value) : Nat → Value
  | 54 => .pointer (some ⟨X, 0, none⟩)
  | 55 => .agg t.r.cs
  | 56 => .pointer (some ⟨X, 9, none⟩)
  | 57 => .slice (some ⟨sb, so, none⟩) t.dn sc
  | 58 => .int .i64 m
  | 59 => .pointer (some ⟨sb, so + m * 2, none⟩)
  | 60 => .agg #[.int .i64 s.1, .int .i64 s.2]
  | 61 => .int .i64 n
  | 62 => .int .i64 n
  | 63 => .agg #[.int .i64 n, .int .i64 n]
  | 64 => outs 0
  | _ => undef
def need26 : Nat → Nat := fun i => [0, 0, 0, 0, 0, 0, 0, 0, 0, 0, 0, 1].getD i 0
def till26 : Nat → Nat := fun i => [1, 1, 1, 1, 1, 1, 1, 1, 1, 1, 0, 1].getD i 0
def eff26 : Nat → Bool := fun i => [false, false, false, false, false, false, false, false, false, false, true, true].getD i false

set_option maxRecDepth 100000 in
set_option maxHeartbeats 8000000 in
theorem ownD_any (t : TkA) (hs ws : List T2) (ds : List T4) (ts : List T3) (ca : Option Addr) (cn cc : Nat) (cs : List Int) (w : World) (hR : TkR w t hs ws ds ts) (hC : Sl1 w ca cn cs) (hcn : cn ≤ 140737488351232) :
    Calls Try.prog 26 #[.agg t.cs, .slice ca cn cc] w fun e w' => e = .returned (.tuple #[.int .i64 (ownF t hs ws ds ts cs).1, .int .i64 (ownF t hs ws ds ts cs).2]) ∧ Below w.heap.size w w' := by
  obtain ⟨w0, hw0⟩ : ∃ w0, ((((w).alloc (.cells t.cs 31)).alloc (.cells #[.slice ca cn cc] 46)).alloc (.cells #[.int .i64 0] 3)).alloc (.cells #[.int .i64 0] 32) = w0 := ⟨_, rfl⟩
  have hb0 : Below w.heap.size w w0 := by rw [← hw0]; exact B_alloc (B_alloc (B_alloc (B_alloc (Below.refl _ _) _) _) _) _
  have o0 : Ob w0 (w.heap.size) 31 t.cs := by
    rw [← hw0]
    have h := Ob.new (w) t.cs 31
    replace h := h.alloc (.cells #[.slice ca cn cc] 46)
    replace h := h.alloc (.cells #[.int .i64 0] 3)
    replace h := h.alloc (.cells #[.int .i64 0] 32)
    exact h
  have o1 : Ob w0 (w.heap.size + 1) 46 #[.slice ca cn cc] := by
    rw [← hw0]
    have h := Ob.new ((w).alloc (.cells t.cs 31)) #[.slice ca cn cc] 46
    replace h := h.alloc (.cells #[.int .i64 0] 3)
    replace h := h.alloc (.cells #[.int .i64 0] 32)
    simp only [World.size_alloc] at h
    exact h
  have o2 : Ob w0 (w.heap.size + 1 + 1) 3 #[.int .i64 0] := by
    rw [← hw0]
    have h := Ob.new (((w).alloc (.cells t.cs 31)).alloc (.cells #[.slice ca cn cc] 46)) #[.int .i64 0] 3
    replace h := h.alloc (.cells #[.int .i64 0] 32)
    simp only [World.size_alloc] at h
    exact h
  have o3 : Ob w0 (w.heap.size + 1 + 1 + 1) 32 #[.int .i64 0] := by
    rw [← hw0]
    have h := Ob.new ((((w).alloc (.cells t.cs 31)).alloc (.cells #[.slice ca cn cc] 46)).alloc (.cells #[.int .i64 0] 3)) #[.int .i64 0] 32
    simp only [World.size_alloc] at h
    exact h
  have H1 := Lib.hid (checkTask_any t hs ws ds ts w0 (hR.below hb0))
  have hlen := hC.len
  have T1 := fun h => TaskOK.of (t := t) (hs := hs) (ws := ws) (ds := ds) (ts := ts) h
  unfold ownF
  rw [show tri (taskS t hs ws ds ts) = .tuple #[.int .i64 (taskS t hs ws ds ts).1, .int .i64 (taskS t hs ws ds ts).2.1, .int .i64 (taskS t hs ws ds ts).2.2] from rfl] at H1
  generalize (taskS t hs ws ds ts).1 = c1 at H1
  generalize (taskS t hs ws ds ts).2.1 = c2 at H1
  obtain ⟨q0, q1, q2, q3, q4, q5, q6, q7, q8, q9, q10, q11, q12⟩ := o0.task
  have l3 := o3.lt
  replace o0 := Lib.hid o0
  replace o1 := Lib.hid o1
  replace o2 := Lib.hid o2
  replace o3 := Lib.hid o3
  replace hb0 := Lib.hid hb0
  replace hw0 := Lib.hid hw0
  by_cases he : (taskS t hs ws ds ts).2.2 = 0
  · rw [if_neg (by simpa using he)]
    rw [he] at H1
    have ok := T1 he
    clear T1
    by_cases hl : cs.length = t.dn + 1
    · rw [if_neg (by simpa using hl)]
      obtain rfl : cn = t.dn + 1 := by omega
      have hO := RuOK.of ok.r
      have hdn := ok.dn
      have H2 := Lib.hid (fun W (h : Below w.heap.size w W) => taskOf_any t hs ws ds ts W (hR.below h) hO ok.dn)
      have hst := days_str hO hR.d.len ok.days
      have hlv := lv_ok ok.start
      generalize ds.map (strS hs ws) = ss at H2 hst ⊢
      clear he hl ok hR
      obtain ⟨cb, co, rfl, hcb, hcc⟩ := hC.at_ (by omega)
      refine (callsIn_wide (n := 12)).1 ?_
      refine callsIn_of_wp_marks Try.func26 rfl trivial ?_ rfl
      simp only [Try.ntmps26, List.size_toArray, List.length_cons, List.length_nil, Nat.reduceAdd, Nat.reduceSub, Array.replicate_succ, Array.replicate_zero, List.push_toArray, List.append_toArray, List.nil_append, List.cons_append]
      gi_wp2_with fail
      rw [hw0.out]
      refine ⟨trivial, CallsIn.mono (callsIn_wide.2 H1.out) ?_⟩
      rintro e w1 ⟨rfl, hb1⟩
      have hw1 := Lib.hid (B_trans hb0.out hb1)
      clear q0 q1 q2 q3 q4 q5 q6 q7 q8 q9 q10 q11 q12
      obtain ⟨q0, q1, q2, q3, q4, q5, q6, q7, q8, q9, q10, q11, q12⟩ := (o0.out.below hb1).task
      have x1 := (o1.out.below hb1).cell 0
      simp only [List.getElem?_toArray, List.getElem?_cons_zero] at x1
      have u1 : IntKind.i64.wrap ((t.dn : Int) + 1) = (t.dn : Int) + 1 := IntWalk.i64_in _ (by omega)
      have u0 : ((t.dn + 1 : Nat) : Int) = (t.dn : Int) + 1 := by omega
      gi_wp2_with fail
      refine ⟨trivial, CallsIn.mono (callsIn_wide.2 (H2.out w1 hw1.out)) ?_⟩
      rintro e w2 ⟨⟨v, rfl, hrow⟩, hb2⟩
      obtain ⟨sa, sc, rfl, hsl, -, -⟩ := sl2_row hrow
      have hb12 := B_trans hb1 hb2
      have hw2 := Lib.hid (B_trans hb0.out hb12)
      have y1 := o1.out.below hb12
      have y2 := o2.out.below hb12
      have y3 := o3.out.below hb12
      have lX : w.heap.size + 1 + 1 + 1 < w2.heap.size := by have := y3.lt; omega
      clear q0 q1 q2 q3 q4 q5 q6 q7 q8 q9 q10 q11 q12 x1 hrow hb1 hb2 hb12 hw1 o0 o1 o2 o3 H1 H2 hb0 hw0
      have x1 : ∀ a b, ((w2.alloc a).alloc b).cell? ⟨w.heap.size + 1, 0, none⟩ = some (.slice (some ⟨cb, co, none⟩) (t.dn + 1) cc) := fun a b => ((y1.alloc a).alloc b).cell 0
      obtain ⟨W4, hW4⟩ : ∃ W4, (w2.alloc (.cells (t.xc (.slice sa t.dn sc)) 104)).alloc (.cells #[.int .i64 t.lo, .int .i64 t.hi] 28) = W4 := ⟨_, rfl⟩
      replace hW4 := Lib.hid hW4
      gi_wp2_with fail
      rw [hW4.out]
      refine ⟨trivial, (forward_in Fence.wide 11 trivial rfl 0 (t.dn + 1) W4).mono ?_⟩
      rintro e W5 ⟨rfl, hW5⟩
      obtain ⟨X, hX⟩ : ∃ X, w2.heap.size = X := ⟨_, rfl⟩
      have z4 : W4.heap.size = X + 2 := by rw [← hW4.out, ← hX]; simp
      have z5 : W5.heap.size = X + 4 := by rw [hW5]; simp; omega
      have hb45 : Below W4.heap.size W4 W5 := by rw [hW5]; exact B_alloc (B_alloc (Below.refl _ _) _) _
      have e0 : W5.cell? ⟨W4.heap.size, 0, none⟩ = some (.int .i64 0) := by rw [hW5, alloc_old _ _ _ _ (by simp)]; simp [go_sem]
      have e1 : W5.cell? ⟨W4.heap.size + 1, 0, none⟩ = some (.int .i64 ((t.dn : Int) + 1)) := by rw [hW5]; simp
      have hb24 : Below w2.heap.size w2 W4 := by rw [← hW4.out]; exact B_alloc (B_alloc (Below.refl _ _) _) _
      have hb25 := B_trans hb24 hb45
      have I0 : Hid (OM t (.slice sa t.dn sc) w2 W5 X (t.lo, t.hi) W5) := by
        refine ⟨?_, ?_, by rw [← hX]; exact hb25, KeepsFrom.refl _ _, KB2.refl _ _ _, by omega, hX⟩
        · refine Ob.below ?_ hb45
          rw [← hW4.out, ← hX]
          exact (Ob.new w2 _ _).alloc _
        · refine Ob.below ?_ hb45
          rw [← hW4.out, ← hX]
          have h := Ob.new (w2.alloc (.cells (t.xc (.slice sa t.dn sc)) 104)) #[.int .i64 t.lo, .int .i64 t.hi] 28
          rw [World.size_alloc] at h
          exact h
      rw [z4] at e0 e1 ⊢
      rw [hX] at lX
      replace y1 := Lib.hid y1
      replace y2 := Lib.hid y2
      replace y3 := Lib.hid y3
      try rw [hX]
      clear hW5 hb45 hb24 hb25 hW4 z4 x1 u0 u1 l3
      gi_wp2_with fail
      refine wpIn_rangeFunc_ownG rfl (by omega) (gf := 87) (lb := #[.pointer (some ⟨X + 2, 0, none⟩), .pointer (some ⟨X + 2 + 1, 0, none⟩)]) rfl trivial (enters_of Try.func87 (by kernel_rfl) rfl) (forward_stops Fence.wide 11 trivial rfl (by omega) (X + 2) (X + 2 + 1) (t.dn + 1) 0 (t.dn + 1) (by push_cast; omega) (by omega) (by omega) (by omega) W5 (by omega) (by omega) e0 e1) KB2.trans (fun W l o o' h1 _ _ _ => KB2.put (n := W5.heap.size) (by omega) (by omega) W l o' h1) (Below.refl _ _) (fun _ => rfl)
        (fun pre W => OM t (.slice sa t.dn sc) w2 W X (canL t.r ss t.dn cs (t.lo, t.hi) (pre.map fun x => x.val)) W ∧ goodO t.r ss t.dn cs (t.lo, t.hi) (pre.map fun x => x.val) = true ∧ InSp (canL t.r ss t.dn cs (t.lo, t.hi) (pre.map fun x => x.val)))
        (fun c pre W => c = Code.ret ∧ ∃ pre' x, pre = pre' ++ [x] ∧ goodO t.r ss t.dn cs (t.lo, t.hi) (pre'.map fun x => x.val) = true ∧ inB (cs.getD x.val 0) (canL t.r ss t.dn cs (t.lo, t.hi) (pre'.map fun x => x.val)).1 (canL t.r ss t.dn cs (t.lo, t.hi) (pre'.map fun x => x.val)).2 = false ∧ Ob W (w.heap.size + 1 + 1) 3 #[.int .i64 x.val] ∧ Ob W (w.heap.size + 1 + 1 + 1) 32 #[.int .i64 0] ∧ Below w.heap.size w W)
        ?own ?ownx ⟨I0.out, rfl, hlv.toInSp⟩ ?a1 ?assign ?body ?done ?stop
      case own =>
        rintro pre W W' row ⟨h1, h2, h3⟩ hgr hr
        exact ⟨OM.own h1 hgr (fun r e => ⟨by have := (hr r e).1; omega, (hr r e).2⟩), h2, h3⟩
      case ownx =>
        rintro c pre W W' row ⟨h0, pre', x, h1, h2, h3, h4, h5, h6⟩ hgr hr
        exact ⟨h0, pre', x, h1, h2, h3, h4.own hgr (fun r e => (hr r e).2), h5.own hgr (fun r e => (hr r e).2), below_own h6 (Nat.le_refl _) hgr (fun r e => by have := (hr r e).1; omega)⟩
      case assign =>
        intro l x W K hK
        gi_wp2
        exact hK
      case body =>
        rintro l pre x W ⟨hM, hgd, hin⟩ hlen
        have hx := x.isLt
        obtain ⟨m, hm, hmm⟩ : ∃ m : Nat, ((x.val : Int) = m) ∧ m = x.val := ⟨x.val, rfl, rfl⟩
        have hcx : ∀ p : List Nat, canL t.r ss t.dn cs (t.lo, t.hi) (p ++ [x.val]) = canO t.r ss t.dn cs (canL t.r ss t.dn cs (t.lo, t.hi) p) m := fun p => by rw [hmm]; exact canL_snoc _ _ _ _ _ _ _
        have hgx := fun h => goodO_snoc (m := x.val) hgd h
        have hmapx : (pre ++ [x]).map (fun x => x.val) = pre.map (fun x => x.val) ++ [x.val] := by simp
        have hbW := B_trans hw2.out (by have := hM.2.2.1; rwa [← hX] at this)
        have hMb : Below w2.heap.size w2 W := by have := hM.2.2.1; rwa [← hX] at this
        have z1 := y1.out.below hMb
        have z2 := y2.out.below hMb
        have z3 := y3.out.below hMb
        have k1 := z1.cell 0
        have n0 : W.cell? ⟨cb, co + m, none⟩ = some (.int .i64 (cs.getD m 0)) := (hbW.cell (p := ⟨cb, co + m, none⟩) hcb).trans (hcc m (by omega))
        have hpost := Lib.hid hcx
        have hres : Hid (∀ b : Bool, inB (cs.getD m 0) (canL t.r ss t.dn cs (t.lo, t.hi) (pre.map fun x => x.val)).1 (canL t.r ss t.dn cs (t.lo, t.hi) (pre.map fun x => x.val)).2 = b → inB (cs.getD x.val 0) (canL t.r ss t.dn cs (t.lo, t.hi) (pre.map fun x => x.val)).1 (canL t.r ss t.dn cs (t.lo, t.hi) (pre.map fun x => x.val)).2 = b) := fun b h => by rw [← hmm]; exact h
        obtain ⟨can, hcan⟩ : ∃ can, canL t.r ss t.dn cs (t.lo, t.hi) (pre.map fun x => x.val) = can := ⟨_, rfl⟩
        rw [hcan] at hM hin hres
        obtain ⟨b4, b5, -, -⟩ := hM.2.1.span
        obtain ⟨nv, hnv⟩ : ∃ nv, cs.getD m 0 = nv := ⟨_, rfl⟩
        rw [hnv] at n0 hres
        have HW := Lib.hid (fun W' => within_any nv can.1 can.2 W')
        simp only [List.getElem?_toArray, List.getElem?_cons_zero] at k1
        have m1 : (m : Int) < (t.dn : Int) + 1 := by omega
        have m2 : (0 : Int) ≤ m := by omega
        have m3 : m < t.dn + 1 := by omega
        replace hM := Lib.hid hM
        replace hcan := Lib.hid hcan
        replace hmm := Lib.hid hmm
        replace hnv := Lib.hid hnv
        clear hx hcx
        gi_upto_region 10 with fail
        rw [hm]
        clear hm
        gi_wp2_with fail
        refine ⟨trivial, CallsIn.mono (CallsIn.inRound l (callsIn_wide.2 (HW.out W))) ?_⟩
        rintro e W1 ⟨rfl, rfl⟩
        cases hb : inB nv can.1 can.2 with
        | false =>
          replace hres := Lib.hid (hres.out false hb)
          have v2 := z2.cell 0
          have f2 := z2.frozen 0
          have v3 := z3.cell 0
          have f3 := z3.frozen 0
          simp only [List.getElem?_toArray, List.getElem?_cons_zero] at v2 v3
          have q2 := (z2.set 0 (.int .i64 m)).other (p := ⟨w.heap.size + 1 + 1 + 1, 0, none⟩) (by simp only; omega) (.int .i64 0)
          have q3 := (z3.other (p := ⟨w.heap.size + 1 + 1, 0, none⟩) (by simp only; omega) (.int .i64 m)).set 0 (.int .i64 0)
          have qb := (hbW.setCell (p := ⟨w.heap.size + 1 + 1, 0, none⟩) (by simp only; omega) (.int .i64 m)).setCell (p := ⟨w.heap.size + 1 + 1 + 1, 0, none⟩) (by simp only; omega) (.int .i64 0)
          have qk : KeepsFrom W5.heap.size W ((W.setCell ⟨w.heap.size + 1 + 1, 0, none⟩ (.int .i64 m)).setCell ⟨w.heap.size + 1 + 1 + 1, 0, none⟩ (.int .i64 0)) := (keeps_set z2 0 _).trans (keeps_set (z3.other (by simp only; omega) _) 0 _)
          have Q := Lib.hid (And.intro q2 (And.intro q3 (And.intro qb qk)))
          clear z1 z2 z3 q2 q3 qb qk hMb hbW k1 n0 b4 b5
          gi_wp2_with fail
          refine ⟨Q.out.2.2.2, rfl, pre, x, rfl, hgd, ?_, ?_, Q.out.2.1, Q.out.2.2.1⟩
          · rw [hcan.out]; exact hres.out
          · have := Q.out.1
            rw [← hmm.out]
            simpa using this
        | true =>
          replace hres := Lib.hid (hres.out true hb)
          have hnr := inB_iff.1 hb
          have hn0 : 0 ≤ nv ∧ nv ≤ 1000000 := ⟨Int.le_trans hin.a.1 hnr.1, Int.le_trans hnr.2 hin.b.2⟩
          have xc := hM.out.1.xcells
          obtain ⟨f0, f1, f2, f3, f4, f5, f6, f7, f8, f9, f10, f11, f12⟩ := xc
          clear z1 z2 z3 hMb hbW k1 b4 b5
          have HEND : ∀ (q : T2) (W' : World), OM t (.slice sa t.dn sc) w2 W X q W' → q = canO t.r ss t.dn cs can m → InSp q → KeepsFrom W5.heap.size W W' ∧ KB2 (X + 2) (X + 2 + 1) W W' ∧ OM t (.slice sa t.dn sc) w2 W' X (canL t.r ss t.dn cs (t.lo, t.hi) ((pre ++ [x]).map fun x => x.val)) W' ∧ goodO t.r ss t.dn cs (t.lo, t.hi) ((pre ++ [x]).map fun x => x.val) = true ∧ InSp (canL t.r ss t.dn cs (t.lo, t.hi) ((pre ++ [x]).map fun x => x.val)) := fun q W' h hq hi => by
            rw [hmapx, hpost.out, hcan.out, ← hq]
            refine ⟨by rw [z5]; exact h.2.2.2.1, h.2.2.2.2.1, ⟨h.1, h.2.1, h.2.2.1, KeepsFrom.refl _ _, KB2.refl _ _ _, h.2.2.2.2.2⟩, hgx (by rw [hcan.out]; exact hres.out), hi⟩
          replace HEND := Lib.hid HEND
          rcases Nat.lt_or_ge m t.dn with hlt | hge
          · have hce : canO t.r ss t.dn cs can m = nextS t.r (ss.getD m (0, 0)) (nv, nv) := by unfold canO; rw [if_pos hlt, hnv.out]
            obtain ⟨sb, so, hsa, hsb, hsc⟩ := hsl.at_ (by omega)
            obtain ⟨s0, s1⟩ := hsc m hlt
            have es := hst _ (getD_lt (L := ss) (i := m) (by rw [hsl.len]; exact hlt))
            generalize ss.getD m (0, 0) = s at s0 s1 es hce
            have hnx := next_in hO es (p := (nv, nv)) ⟨hn0, hn0⟩
            have HN := Lib.hid (show ∀ W', Calls Try.prog 63 #[.agg t.r.cs, .agg #[.int .i64 s.1, .int .i64 s.2], .agg #[.int .i64 nv, .int .i64 nv]] W' fun e w' => e = .returned (.agg #[.int .i64 (nextS t.r s (nv, nv)).1, .int .i64 (nextS t.r s (nv, nv)).2]) ∧ Below W'.heap.size W' w' from fun W' => next_any t.r hs ws s.1 s.2 nv nv W' hO hn0 hn0 ⟨es.lo, by have := es.le; have := es.hi; omega⟩ ⟨by have := es.le; have := es.lo; omega, es.hi⟩)
            generalize nextS t.r s (nv, nv) = uv at HN hce hnx
            obtain ⟨u, v⟩ := uv
            simp only at HN
            have HY := Lib.hid (fun (W' : World) (hh : Below X w2 W') => (show W'.cell? ⟨sb, so + m * 2, none⟩ = some (.int .i64 s.1) ∧ W'.cell? ⟨sb, so + m * 2 + 1, none⟩ = some (.int .i64 s.2) from ⟨(hh.cell (p := ⟨sb, _, none⟩) (by rw [← hX]; exact hsb)).trans s0, (hh.cell (p := ⟨sb, _, none⟩) (by rw [← hX]; exact hsb)).trans s1⟩))
            have hsa2 := Lib.hid (show some (Value.slice sa t.dn sc) = some (.slice (some ⟨sb, so, none⟩) t.dn sc) by rw [hsa])
            have hlt' : (m : Int) < t.dn := by omega
            replace hce := Lib.hid hce
            clear hsc s0 s1 hsa es
            gi_upto_region 14 with fail
            refine wpIn_region_steps2 (I := R7 (fun p W' => OM t (.slice sa t.dn sc) w2 W X p W') can u v) (V := V26 t X sb so m sc s nv) (eff := eff26) (need := need26) (till := till26) 2 (by kernel_rfl) (by decide) (by kernel_rfl) rfl (by kernel_rfl) (by kernel_rfl) (by kernel_rfl) (by kernel_rfl) (by kernel_rfl) (by kernel_rfl) ⟨fun _ => OM.below hM.out ((Below.refl _ W).drew), fun h => by omega, fun h => by omega⟩ ?steps ?hend
            case hend =>
              rintro outs w' ⟨-, -, hI⟩
              have hI2 := hI rfl
              exact HEND.out (u, v) w' hI2 hce.out.symm hnx
            case steps =>
              refine ⟨⟨rfl, fun t ht k' outs u _ => by cases ht; rfl, fun k' outs W' ρ hk1 hk2 hI hc hg h_fn hr ho => ?_⟩, ?_⟩
              · have hk2' : k' ≤ 1 := hk2
                have o9 := ho 9 (by kernel_rfl)
                clear hI
                refine step_pure rfl (v := .pointer (some ⟨X, 0, none⟩)) (fun t ht => by cases ht; rfl) ?_
                go_simp
              refine ⟨⟨rfl, fun t ht k' outs u _ => by cases ht; rfl, fun k' outs W' ρ hk1 hk2 hI hc hg h_fn hr ho => ?_⟩, ?_⟩
              · have hk2' : k' ≤ 1 := hk2
                have r54 : ρ (.tmp 54) = .pointer (some ⟨X, 0, none⟩) := hr 54 (by kernel_rfl)
                obtain ⟨f0, f1, f2, f3, f4, f5, f6, f7, f8, f9, f10, f11, f12⟩ := (hI.1 (by omega)).1.xcells
                clear hI
                refine step_pure rfl (v := .agg t.r.cs) (fun t ht => by cases ht; rfl) ?_
                go_simp
              refine ⟨⟨rfl, fun t ht k' outs u _ => by cases ht; rfl, fun k' outs W' ρ hk1 hk2 hI hc hg h_fn hr ho => ?_⟩, ?_⟩
              · have hk2' : k' ≤ 1 := hk2
                have o9 := ho 9 (by kernel_rfl)
                clear hI
                refine step_pure rfl (v := .pointer (some ⟨X, 9, none⟩)) (fun t ht => by cases ht; rfl) ?_
                go_simp
              refine ⟨⟨rfl, fun t ht k' outs u _ => by cases ht; rfl, fun k' outs W' ρ hk1 hk2 hI hc hg h_fn hr ho => ?_⟩, ?_⟩
              · have hk2' : k' ≤ 1 := hk2
                have r56 : ρ (.tmp 56) = .pointer (some ⟨X, 9, none⟩) := hr 56 (by kernel_rfl)
                obtain ⟨f0, f1, f2, f3, f4, f5, f6, f7, f8, f9, f10, f11, f12⟩ := (hI.1 (by omega)).1.xcells
                replace f9 := f9.trans hsa2.out
                clear hI
                refine step_pure rfl (v := .slice (some ⟨sb, so, none⟩) t.dn sc) (fun t ht => by cases ht; rfl) ?_
                go_simp
              refine ⟨⟨rfl, fun t ht k' outs u _ => by cases ht; rfl, fun k' outs W' ρ hk1 hk2 hI hc hg h_fn hr ho => ?_⟩, ?_⟩
              · have hk2' : k' ≤ 1 := hk2
                have o11 := ho 11 (by kernel_rfl)
                clear hI
                refine step_pure rfl (v := .int .i64 m) (fun t ht => by cases ht; rfl) ?_
                go_simp
              refine ⟨⟨rfl, fun t ht k' outs u _ => by cases ht; rfl, fun k' outs W' ρ hk1 hk2 hI hc hg h_fn hr ho => ?_⟩, ?_⟩
              · have hk2' : k' ≤ 1 := hk2
                have r57 : ρ (.tmp 57) = .slice (some ⟨sb, so, none⟩) t.dn sc := hr 57 (by kernel_rfl)
                have r58 : ρ (.tmp 58) = .int .i64 m := hr 58 (by kernel_rfl)
                clear hI
                refine step_pure rfl (v := .pointer (some ⟨sb, so + m * 2, none⟩)) (fun t ht => by cases ht; rfl) ?_
                go_simp
              refine ⟨⟨rfl, fun t ht k' outs u _ => by cases ht; rfl, fun k' outs W' ρ hk1 hk2 hI hc hg h_fn hr ho => ?_⟩, ?_⟩
              · have hk2' : k' ≤ 1 := hk2
                have r59 : ρ (.tmp 59) = .pointer (some ⟨sb, so + m * 2, none⟩) := hr 59 (by kernel_rfl)
                obtain ⟨y0, y1⟩ := HY.out _ (hI.1 (by omega)).2.2.1
                clear hI
                refine step_pure rfl (v := .agg #[.int .i64 s.1, .int .i64 s.2]) (fun t ht => by cases ht; rfl) ?_
                go_simp
              refine ⟨⟨rfl, fun t ht k' outs u _ => by cases ht; rfl, fun k' outs W' ρ hk1 hk2 hI hc hg h_fn hr ho => ?_⟩, ?_⟩
              · have hk2' : k' ≤ 1 := hk2
                have o12 := ho 12 (by kernel_rfl)
                clear hI
                refine step_pure rfl (v := .int .i64 nv) (fun t ht => by cases ht; rfl) ?_
                go_simp
              refine ⟨⟨rfl, fun t ht k' outs u _ => by cases ht; rfl, fun k' outs W' ρ hk1 hk2 hI hc hg h_fn hr ho => ?_⟩, ?_⟩
              · have hk2' : k' ≤ 1 := hk2
                have o12 := ho 12 (by kernel_rfl)
                clear hI
                refine step_pure rfl (v := .int .i64 nv) (fun t ht => by cases ht; rfl) ?_
                go_simp
              refine ⟨⟨rfl, fun t ht k' outs u _ => by cases ht; rfl, fun k' outs W' ρ hk1 hk2 hI hc hg h_fn hr ho => ?_⟩, ?_⟩
              · have hk2' : k' ≤ 1 := hk2
                have r61 : ρ (.tmp 61) = .int .i64 nv := hr 61 (by kernel_rfl)
                have r62 : ρ (.tmp 62) = .int .i64 nv := hr 62 (by kernel_rfl)
                clear hI
                refine step_pure rfl (v := .agg #[.int .i64 nv, .int .i64 nv]) (fun t ht => by cases ht; rfl) ?_
                go_simp
              refine ⟨⟨rfl, fun t ht k' outs u (h : 0 < k') => by cases ht; show upd outs k' u 0 = outs 0; unfold upd; rw [if_neg (by omega)], fun k' outs W' ρ hk1 hk2 hI hc hg h_fn hr ho => ?_⟩, ?_⟩
              · obtain rfl : k' = 0 := by have h1 : 0 ≤ k' := hk1; have h2 : k' ≤ 0 := hk2; omega
                have r55 : ρ (.tmp 55) = .agg t.r.cs := hr 55 (by kernel_rfl)
                have r60 : ρ (.tmp 60) = .agg #[.int .i64 s.1, .int .i64 s.2] := hr 60 (by kernel_rfl)
                have r63 : ρ (.tmp 63) = .agg #[.int .i64 nv, .int .i64 nv] := hr 63 (by kernel_rfl)
                have hfn := h_fn 63
                refine step_call rfl (f := 63) (args := #[.agg t.r.cs, .agg #[.int .i64 s.1, .int .i64 s.2], .agg #[.int .i64 nv, .int .i64 nv]]) (w' := W') ?_ ?_
                · clear hI; go_simp
                · refine (HN.out W').mono ?_
                  rintro e w2 ⟨rfl, hb2⟩
                  exact ⟨_, rfl, ⟨fun _ => OM.below (hI.1 (by omega)) hb2, fun _ => rfl, fun h => by omega⟩, fun t ht => by cases ht; rfl⟩
              refine ⟨⟨rfl, (fun t ht => by cases ht), fun k' outs W' ρ hk1 hk2 hI hc hg h_fn hr ho => ?_⟩, trivial⟩
              · obtain rfl : k' = 1 := by have h1 : 1 ≤ k' := hk1; have h2 : k' ≤ 1 := hk2; omega
                have o10 := ho 10 (by kernel_rfl)
                have r64 : ρ (.tmp 64) = .agg #[.int .i64 u, .int .i64 v] := (hr 64 (by kernel_rfl)).trans (hI.2.1 (by omega))
                have hM1 := hI.1 (by omega)
                obtain ⟨b4, b5, e4, e5⟩ := hM1.2.1.span
                have hM2 := OM.set hM1 (u, v)
                refine step_store rfl rfl (w' := (W'.setCell ⟨X + 1, 0, none⟩ (.int .i64 u)).setCell ⟨X + 1, 1, none⟩ (.int .i64 v)) ?_ ⟨fun h => by omega, fun _ => hI.2.1 (by omega), fun _ => hM2⟩
                clear hI hM1 hM2; go_simp
          · have hce : canO t.r ss t.dn cs can m = can := by unfold canO; rw [if_neg (by omega)]
            have hlt' : ¬ (m : Int) < t.dn := by omega
            replace hce := Lib.hid hce
            gi_wp2_with fail
            exact HEND.out can W hM.out hce.out.symm hin
      case done =>
        rintro D xs W hD rfl ⟨hM, hgd, -⟩ hK
        rw [vals_fin] at hgd
        have hres := Lib.hid (ownR_good hgd)
        have hMb : Below w2.heap.size w2 W := by have := hM.2.2.1; rwa [← hX] at this
        have hbW := B_trans hw2.out hMb
        have z2 := y2.out.below hMb
        have z3 := y3.out.below hMb
        have v2 := z2.cell 0
        have f2 := z2.frozen 0
        have v3 := z3.cell 0
        have f3 := z3.frozen 0
        simp only [List.getElem?_toArray, List.getElem?_cons_zero] at v2 v3
        have q2 := (z2.set 0 (.int .i64 (-1))).other (p := ⟨w.heap.size + 1 + 1 + 1, 0, none⟩) (by simp only; omega) (.int .i64 0)
        have q3 := (z3.other (p := ⟨w.heap.size + 1 + 1, 0, none⟩) (by simp only; omega) (.int .i64 (-1))).set 0 (.int .i64 0)
        have qb := (hbW.setCell (p := ⟨w.heap.size + 1 + 1, 0, none⟩) (by simp only; omega) (.int .i64 (-1))).setCell (p := ⟨w.heap.size + 1 + 1 + 1, 0, none⟩) (by simp only; omega) (.int .i64 0)
        have eK : ((W.setCell ⟨w.heap.size + 1 + 1, 0, none⟩ (.int .i64 (-1))).setCell ⟨w.heap.size + 1 + 1 + 1, 0, none⟩ (.int .i64 0)).heap[D]? = some (.deferred (some [])) := (Below.heap_setCell _ _ _ _ (by simp only; omega)).trans ((Below.heap_setCell _ _ _ _ (by simp only; omega)).trans hK)
        have hq := grownBy_putObj' ((W.setCell ⟨w.heap.size + 1 + 1, 0, none⟩ (.int .i64 (-1))).setCell ⟨w.heap.size + 1 + 1 + 1, 0, none⟩ (.int .i64 0)) D (.deferred none)
        have E6 := Lib.hid (below_own qb (Nat.le_refl _) hq (fun r e => by cases e; omega))
        have r2 := (q2.own hq (fun r e => by cases e; exact ⟨_, eK, rfl⟩)).cell 0
        have r3 := (q3.own hq (fun r e => by cases e; exact ⟨_, eK, rfl⟩)).cell 0
        simp only [List.setIfInBounds_toArray, List.set_cons_zero, List.getElem?_toArray, List.getElem?_cons_zero] at r2 r3
        clear z2 z3 q2 q3 qb hq hM hMb hbW
        gi_wp2
        refine ⟨by simp, .inl ⟨_, _, rfl, run_takeDeferred eK, ?_⟩⟩
        exact ⟨.tuple #[.int .i64 (-1), .int .i64 0], by simp [results, Try.results26, go_sem, r2, r3], ⟨by rw [hres.out], E6.out⟩⟩
      case stop =>
        rintro D c pre W hD ⟨post, hpost⟩ ⟨rfl, pre', x, rfl, h2, h3, h4, h5, h6⟩ hK
        have hres : Hid (ownR t.r ss t.dn cs (t.lo, t.hi) (List.range (t.dn + 1)) = x.val) := by
          rw [Hid, ← vals_fin, ← hpost]
          simp only [List.map_append, List.map_cons, List.append_assoc, List.cons_append, List.nil_append]
          exact ownR_bad h2 h3
        have hq := grownBy_putObj' W D (.deferred none)
        have E6 := Lib.hid (below_own h6 (Nat.le_refl _) hq (fun r e => by cases e; omega))
        have r2 := (h4.own hq (fun r e => by cases e; exact ⟨_, hK, rfl⟩)).cell 0
        have r3 := (h5.own hq (fun r e => by cases e; exact ⟨_, hK, rfl⟩)).cell 0
        simp only [List.getElem?_toArray, List.getElem?_cons_zero] at r2 r3
        clear h2 h3 h4 h5 h6 hq
        gi_wp2
        refine ⟨by simp, .inl ⟨_, _, rfl, run_takeDeferred hK, ?_⟩⟩
        exact ⟨.tuple #[.int .i64 x.val, .int .i64 0], by simp [results, Try.results26, go_sem, r2, r3], ⟨by rw [hres.out], E6.out⟩⟩
    · rw [if_pos hl]
      have h400 := ok.dn
      obtain ⟨cl, hcl⟩ : ∃ cl : Nat, cl = cn := ⟨cn, rfl⟩
      have hne : ¬ (cn : Int) = (t.dn : Int) + 1 := by omega
      clear ok he hl hR hC
      go_enter Try.func26, Try.ntmps26
      go_wp2_with fail
      rw [hw0.out]
      refine H1.out.mono ?_
      rintro e w1 ⟨rfl, hb1⟩
      have hw1 := Lib.hid (B_trans hb0.out hb1)
      clear q0 q1 q2 q3 q4 q5 q6 q7 q8 q9 q10 q11 q12
      obtain ⟨q0, q1, q2, q3, q4, q5, q6, q7, q8, q9, q10, q11, q12⟩ := (o0.out.below hb1).task
      have x1 := (o1.out.below hb1).cell 0
      have v2 := (o2.out.below hb1).cell 0
      have f2 := (o2.out.below hb1).frozen 0
      have v3 := (o3.out.below hb1).cell 0
      have f3 := (o3.out.below hb1).frozen 0
      simp only [List.getElem?_toArray, List.getElem?_cons_zero] at x1 v2 v3
      have u1 : IntKind.i64.wrap ((t.dn : Int) + 1) = (t.dn : Int) + 1 := IntWalk.i64_in _ (by omega)
      clear hb1
      go_wp2
      refine bodyPost_ret (v := .tuple #[.int .i64 0, .int .i64 2]) (by simp [results, Try.results26, go_sem, v2, v3]) rfl ⟨rfl, ?_⟩
      exact (hw1.out.setCell (by simp only; omega) _).setCell (by simp only; omega) _
  · rw [if_pos he]
    generalize (taskS t hs ws ds ts).2.2 = c3 at H1 he ⊢
    clear T1 hR hC
    go_enter Try.func26, Try.ntmps26
    go_wp2_with fail
    rw [hw0.out]
    refine H1.out.mono ?_
    rintro e w1 ⟨rfl, hb1⟩
    have hw1 := Lib.hid (B_trans hb0.out hb1)
    clear q0 q1 q2 q3 q4 q5 q6 q7 q8 q9 q10 q11 q12
    have v2 := (o2.out.below hb1).cell 0
    have f2 := (o2.out.below hb1).frozen 0
    have v3 := (o3.out.below hb1).cell 0
    have f3 := (o3.out.below hb1).frozen 0
    simp only [List.getElem?_toArray, List.getElem?_cons_zero] at v2 v3
    clear hb1
    go_wp2
    refine bodyPost_ret (v := .tuple #[.int .i64 0, .int .i64 c3]) (by simp [results, Try.results26, go_sem, v2, v3]) rfl ⟨rfl, ?_⟩
    exact (hw1.out.setCell (by simp only; omega) _).setCell (by simp only; omega) _
end Go.Proofs.Ytanjkhclhcnnaaa

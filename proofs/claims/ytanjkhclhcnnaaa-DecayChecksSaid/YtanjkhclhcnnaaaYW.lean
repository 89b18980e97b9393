/- by: the walk. -/
import Derived.Test.YtanjkhclhcnnaaaYV
import Derived.Test.YtanjkhclhcnnaaaYM
import Derived.Test.YtanjkhclhcnnaaaYS
import Derived.Test.YtanjkhclhcnnaaaYC
import Derived.RangeFuncNested
namespace Go.Proofs.Ytanjkhclhcnnaaa
open Go.RowKit Go.Shelf
attribute [local go_sem] Oper.semAt_some

/-- Ends within the levels stay so. -/
theorem fold_in {r : RuA} {hs ws : List T2} (h : RuOK r hs ws) {ss : List T2} {N : Nat} (hss : ss.length = N) (hst : ∀ s ∈ ss, StrOK s) : ∀ (ms : List Nat) (p : T2), InSp p → (∀ m ∈ ms, m < N) → InSp (nextFold r ss p ms)
  | [], _, hp, _ => hp
  | m :: ms, p, hp, hm => by
    unfold nextFold
    rw [List.foldl_cons]
    exact fold_in h hss hst ms _ (next_in h (hst _ (getD_lt (by have := hm m (by simp); omega))) hp) (fun x hx => hm x (by simp [hx]))
theorem range_fin (a : Nat) : ∀ n : Nat, List.range' a n = (List.finRange n).map fun y => a + y.val := fun n => by
  apply List.ext_getElem
  · simp
  · intro i h1 h2
    simp
def KJ (Wd : World) (g : Nat) (u v : Int) (k : Nat) (outs : Nat → Value) (W : World) : Prop :=
  (1 ≤ k → outs 0 = .agg #[.int .i64 u, .int .i64 v]) ∧ (k ≤ 1 → Below Wd.heap.size Wd W) ∧ (k = 2 → ∃ W1, Below Wd.heap.size Wd W1 ∧ W = (W1.setCell ⟨g, 0, none⟩ (.int .i64 u)).setCell ⟨g, 1, none⟩ (.int .i64 v))
def jneed : Nat → Nat := fun i => [0, 0, 0, 0, 0, 0, 0, 0, 0, 1].getD i 0
def jtill : Nat → Nat := fun i => [1, 1, 1, 1, 1, 1, 1, 1, 0, 1].getD i 0
def jeff : Nat → Bool := fun i => [false, false, false, false, false, false, false, false, true, true].getD i false
def JV (T1 : Nat) (rc : Array Value) (sv : Value) (m sb so : Nat) (s n : T2) (outs : Nat → Value) : Nat → Value
  | 33 => .pointer (some ⟨T1, 0, none⟩)
  | 34 => .agg rc
  | 35 => .pointer (some ⟨T1, 9, none⟩)
  | 36 => sv
  | 37 => .int .i64 m
  | 38 => .pointer (some ⟨sb, so + m * 2, none⟩)
  | 39 => .agg #[.int .i64 s.1, .int .i64 s.2]
  | 40 => .agg #[.int .i64 n.1, .int .i64 n.2]
  | 41 => outs 0
  | _ => undef

set_option maxRecDepth 100000 in
set_option maxHeartbeats 8000000 in
theorem by_any (t : TkA) (hs ws : List T2) (sa : Option Addr) (sc N : Nat) (ss : List T2) (ts : List T3) (mor : Nat → Nat) (ka : Option Addr) (kn kc b o : Nat) (L : List Nat) (z : Nat) (w : World) (hO : RuOK t.r hs ws) (hN : N ≤ 1000) (hsl : Sl2 w sa N ss) (hst : ∀ s ∈ ss, StrOK s)
    (hT : Sl3 w t.ta t.tn ts) (htn : t.tn ≤ 1000) (hge : ∀ i, i < t.tn → 0 ≤ (ts.getD i (0, 0, 0)).2.1 ∧ (ts.getD i (0, 0, 0)).2.1 ≤ 3 ∧ 0 ≤ (ts.getD i (0, 0, 0)).2.2 ∧ (ts.getD i (0, 0, 0)).2.2 ≤ 3)
    (hmo : ∀ i, i < t.tn → (ts.getD i (0, 0, 0)).1 - t.first = (mor i : Int) ∧ mor i ≤ N) (hz : z < t.tn) (hL : ∀ i ∈ L, i < t.tn ∧ mor i ≤ mor z) (hkn : L.length = kn) (hk1 : kn ≤ 1000)
    (hka : 0 < kn → ka = some ⟨b, o, none⟩) (hkb : b < w.heap.size) (hkc : ∀ i, i < kn → w.cell? ⟨b, o + i, none⟩ = some (.int .i64 (L.getD i 0 : Nat))) :
    Calls Try.prog 112 #[.agg (t.xc (.slice sa N sc)), .slice ka kn kc, .int .i64 z] w fun e w' => e = .returned (.int .i64 (byS t.r ss ts mor z L)) ∧ Below w.heap.size w w' := by
  obtain ⟨W2, hW2⟩ : ∃ W2, ((w.alloc (.cells (t.xc (.slice sa N sc)) 104)).alloc (.cells #[.int .i64 z] 3)).alloc (.cells #[.int .i64 0] 3) = W2 := ⟨_, rfl⟩
  have hb2 : Below w.heap.size w W2 := by rw [← hW2]; exact B_alloc (B_alloc (B_alloc (Below.refl _ _) _) _) _
  have z2 : W2.heap.size = w.heap.size + 1 + 1 + 1 := by rw [← hW2]; simp
  have hT2 : Ob W2 w.heap.size 104 (t.xc (.slice sa N sc)) := by rw [← hW2]; exact ((Ob.new w _ _).alloc _).alloc _
  have hZ2 : Ob W2 (w.heap.size + 1) 3 #[.int .i64 z] := by
    rw [← hW2]
    have h := (Ob.new (w.alloc (.cells (t.xc (.slice sa N sc)) 104)) #[.int .i64 z] 3).alloc (.cells #[.int .i64 0] 3)
    rw [World.size_alloc] at h
    exact h
  have hR2 : Ob W2 (w.heap.size + 1 + 1) 3 #[.int .i64 0] := by
    rw [← hW2]
    have h := Ob.new ((w.alloc (.cells (t.xc (.slice sa N sc)) 104)).alloc (.cells #[.int .i64 z] 3)) #[.int .i64 0] 3
    rw [World.size_alloc, World.size_alloc] at h
    exact h
  replace hb2 := Lib.hid hb2
  replace hT2 := Lib.hid hT2
  replace hZ2 := Lib.hid hZ2
  replace hR2 := Lib.hid hR2
  replace hW2 := Lib.hid hW2
  refine (callsIn_wide (n := 12)).1 ?_
  refine callsIn_of_wp_marks Try.func112 rfl trivial ?_ rfl
  simp only [Try.ntmps112, List.size_toArray, List.length_cons, List.length_nil, Nat.reduceAdd, Nat.reduceSub, Array.replicate_succ, Array.replicate_zero, List.push_toArray, List.append_toArray, List.nil_append, List.cons_append]
  gi_wp2_with fail
  rw [hW2.out]
  refine ⟨trivial, (backS_in Fence.wide 11 trivial rfl ka kn kc W2).mono ?_⟩
  rintro e W5 ⟨rfl, hW5⟩
  have hb5 : Below W2.heap.size W2 W5 := by rw [hW5]; exact B_alloc (Below.refl _ _) _
  have z5 : W5.heap.size = W2.heap.size + 1 := by rw [hW5]; simp
  have d0 : W5.cell? ⟨W2.heap.size, 0, none⟩ = some (.slice ka kn kc) := by rw [hW5]; simp [go_sem]
  have I0 : Hid (Ob W5 w.heap.size 104 (t.xc (.slice sa N sc)) ∧ Ob W5 (w.heap.size + 1) 3 #[.int .i64 z] ∧ Ob W5 (w.heap.size + 1 + 1) 3 #[.int .i64 0] ∧ Below w.heap.size w W5) := ⟨hT2.out.below hb5, hZ2.out.below hb5, hR2.out.below hb5, B_trans hb2.out hb5⟩
  have hkc5 := fun i hi => (I0.out.2.2.2.cell (p := ⟨b, o + i, none⟩) hkb).trans (hkc i hi)
  clear hW5 hb5 hW2 hb2 hT2 hZ2 hR2
  rw [z2] at z5 d0 ⊢
  obtain ⟨F0, hF0⟩ : ∃ F0, w.heap.size + 1 + 1 + 1 = F0 := ⟨_, rfl⟩
  rw [hF0] at z5 d0 ⊢
  have hF : w.heap.size + 1 + 1 < F0 := by omega
  clear hF0 z2
  gi_wp2_with fail
  refine wpIn_rangeFunc_ownH rfl (by omega) (gf := 125) (lb := #[.pointer (some ⟨F0, 0, none⟩)]) rfl trivial (enters_of Try.func125 (by kernel_rfl) rfl) (backS_stops Fence.wide 11 trivial rfl (by omega) F0 b o kn kc ka (intsL L) (by omega) hka W5 (by omega) (fun _ => by omega) d0 (fun i hi => by rw [intsL_getD]; exact hkc5 i hi)) KB2.trans (fun W l o o' h1 _ _ _ => KB2.put (n := W5.heap.size) (by omega) (by omega) W l o' h1) (Below.refl _ _) (fun _ => rfl)
    (fun pre W => Ob W w.heap.size 104 (t.xc (.slice sa N sc)) ∧ Ob W (w.heap.size + 1) 3 #[.int .i64 z] ∧ Ob W (w.heap.size + 1 + 1) 3 #[.int .i64 0] ∧ Below w.heap.size w W ∧ F0 < W.heap.size ∧ ∀ y ∈ pre, stopB t.r ss ts mor z (L.getD (kn - 1 - y.val) 0) = false)
    (fun c pre W => c = Code.ret ∧ ∃ pre' x, pre = pre' ++ [x] ∧ (∀ y ∈ pre', stopB t.r ss ts mor z (L.getD (kn - 1 - y.val) 0) = false) ∧ stopB t.r ss ts mor z (L.getD (kn - 1 - x.val) 0) = true ∧ Ob W (w.heap.size + 1 + 1) 3 #[.int .i64 (L.getD (kn - 1 - x.val) 0 : Nat)] ∧ Below w.heap.size w W)
    ?own ?ownx ⟨I0.out.1, I0.out.2.1, I0.out.2.2.1, I0.out.2.2.2, by omega, fun y hy => by cases hy⟩ (fun x a' _ => a' = { tmps := #[.agg (t.xc (.slice sa N sc)), .slice ka kn kc, .int .i64 z, .pointer (some ⟨w.heap.size, 0, none⟩), undef, .pointer (some ⟨w.heap.size + 1, 0, none⟩), .pointer (some ⟨w.heap.size + 1 + 1, 0, none⟩), undef, .int .i64 ((intsL L)[kn - 1 - x.val]?.getD 0), undef, undef, undef, undef, .slice ka kn kc, .func (.func 125) #[] #[.pointer (some ⟨F0, 0, none⟩)], .int .i64 ((kn : Int) - 1 - x.val), .int .i64 ((intsL L)[kn - 1 - x.val]?.getD 0), undef, undef, undef, undef, undef, undef, undef, undef, undef, undef, undef, undef, undef, undef, undef, undef, undef, undef, undef, undef, undef, undef, undef, undef, undef, undef, undef, undef, undef, undef, undef, undef, undef, undef, undef, undef, undef, undef, undef, undef, undef], defers := [] }) ?ax ?assign ?body ?done ?stop
  case own =>
    rintro pre W W' row ⟨h1, h2, h3, h4, h5, h6⟩ hgr hr
    exact ⟨h1.own hgr (fun r e => (hr r e).2), h2.own hgr (fun r e => (hr r e).2), h3.own hgr (fun r e => (hr r e).2), below_own h4 (Nat.le_refl _) hgr (fun r e => by have := (hr r e).1; omega), Nat.lt_of_lt_of_le h5 hgr.size, h6⟩
  case ownx =>
    rintro c pre W W' row ⟨h0, pre', x, h1, h2, h3, h4, h5⟩ hgr hr
    exact ⟨h0, pre', x, h1, h2, h3, h4.own hgr (fun r e => (hr r e).2), below_own h5 (Nat.le_refl _) hgr (fun r e => by have := (hr r e).1; omega)⟩
  case ax =>
    intro x a' s W W' row hs _ _
    dsimp only at hs ⊢
    exact hs
  case assign =>
    intro l pre x W K hi hK
    gi_wp2
    exact hK _ _ (KeepsFrom.refl _ _) (KB2.refl _ _ _) hi rfl
  case body =>
    rintro l pre x a' Wb hl ⟨rec, hrec⟩ ⟨h1, h2, h3, h4, h5, h6⟩ rfl hlen
    have hxk : kn - 1 - x.val < L.length := by omega
    have hf := hL _ (getD_mem hxk)
    have hgf : (intsL L)[kn - 1 - x.val]?.getD 0 = ((L.getD (kn - 1 - x.val) 0 : Nat) : Int) := intsL_getD L _
    rw [hgf]
    clear hgf
    generalize hfe' : L.getD (kn - 1 - x.val) 0 = f at hf ⊢
    have hfe := Lib.hid hfe'
    clear hfe'
    have hTb := hT.below h4
    obtain ⟨tb, tj, hta, htb, hcc⟩ := hTb.at_ (by omega)
    have hmf := hmo f hf.1
    have hmz := hmo z hz
    have HM1 : Hid (∀ W', Below Wb.heap.size Wb W' → Calls Try.prog 109 #[.agg #[.slice t.r.ha t.r.hn t.r.hc, .slice t.r.wa t.r.wn t.r.wc, .int .i64 t.r.own, .int .i64 t.r.feed, .int .i64 t.r.g0, .int .i64 t.r.g1, .int .i64 t.r.g2, .int .i64 t.r.lost, .int .i64 t.first, .slice sa N sc, .int .i64 t.lo, .int .i64 t.hi, .slice (some ⟨tb, tj, none⟩) t.tn t.tc], .int .i64 f] W' fun e w' => e = .returned (.int .i64 (mor f : Nat)) ∧ Below W'.heap.size W' w') := fun W' hh => by
      have h := morning_any t (.slice sa N sc) #[.slice t.r.ha t.r.hn t.r.hc, .slice t.r.wa t.r.wn t.r.wc, .int .i64 t.r.own, .int .i64 t.r.feed, .int .i64 t.r.g0, .int .i64 t.r.g1, .int .i64 t.r.g2, .int .i64 t.r.lost, .int .i64 t.first, .slice sa N sc, .int .i64 t.lo, .int .i64 t.hi, .slice (some ⟨tb, tj, none⟩) t.tn t.tc] ts f W' (hTb.below hh) hf.1 htn (by rw [hta]) (by omega) (by omega)
      rwa [hmf.1] at h
    have HM2 : Hid (∀ W', Below Wb.heap.size Wb W' → Calls Try.prog 109 #[.agg #[.slice t.r.ha t.r.hn t.r.hc, .slice t.r.wa t.r.wn t.r.wc, .int .i64 t.r.own, .int .i64 t.r.feed, .int .i64 t.r.g0, .int .i64 t.r.g1, .int .i64 t.r.g2, .int .i64 t.r.lost, .int .i64 t.first, .slice sa N sc, .int .i64 t.lo, .int .i64 t.hi, .slice (some ⟨tb, tj, none⟩) t.tn t.tc], .int .i64 z] W' fun e w' => e = .returned (.int .i64 (mor z : Nat)) ∧ Below W'.heap.size W' w') := fun W' hh => by
      have h := morning_any t (.slice sa N sc) #[.slice t.r.ha t.r.hn t.r.hc, .slice t.r.wa t.r.wn t.r.wc, .int .i64 t.r.own, .int .i64 t.r.feed, .int .i64 t.r.g0, .int .i64 t.r.g1, .int .i64 t.r.g2, .int .i64 t.r.lost, .int .i64 t.first, .slice sa N sc, .int .i64 t.lo, .int .i64 t.hi, .slice (some ⟨tb, tj, none⟩) t.tn t.tc] ts z W' (hTb.below hh) hz htn (by rw [hta]) (by omega) (by omega)
      rwa [hmz.1] at h
    have HFw := Lib.hid (fun W' (p q : Int) => callsIn_wide.1 (forward_in Fence.wide 1 trivial rfl p q W'))
    obtain ⟨v0', v1', v2'⟩ := hcc z hz
    have hgz := hge z hz
    have HZ := Lib.hid (fun (W' : World) (hh : Below Wb.heap.size Wb W') => (show W'.cell? ⟨tb, tj + z * 3, none⟩ = some (.int .i64 (ts.getD z (0, 0, 0)).1) ∧ W'.cell? ⟨tb, tj + z * 3 + 1, none⟩ = some (.int .i64 (ts.getD z (0, 0, 0)).2.1) ∧ W'.cell? ⟨tb, tj + z * 3 + 2, none⟩ = some (.int .i64 (ts.getD z (0, 0, 0)).2.2) from ⟨(hh.cell (p := ⟨tb, _, none⟩) htb).trans v0', (hh.cell (p := ⟨tb, _, none⟩) htb).trans v1', (hh.cell (p := ⟨tb, _, none⟩) htb).trans v2'⟩))
    have HKz : Hid (∀ W', Calls Try.prog 111 #[.agg t.r.cs, .agg #[.int .i64 (ts.getD z (0, 0, 0)).1, .int .i64 (ts.getD z (0, 0, 0)).2.1, .int .i64 (ts.getD z (0, 0, 0)).2.2]] W' fun e' w' => e' = .returned (.agg #[.int .i64 (keepT t.r ts z).1, .int .i64 (keepT t.r ts z).2]) ∧ Below W'.heap.size W' w') := fun W' => keeping_any t.r hs ws _ _ _ W' hO ⟨hgz.1, hgz.2.1⟩ ⟨hgz.2.2.1, hgz.2.2.2⟩
    clear v0' v1' v2' hgz
    obtain ⟨y0, y1, y2⟩ := hcc f hf.1
    have hgg := hge f hf.1
    have hkpe : ∃ kp, Hid (keepT t.r ts f = kp) := ⟨_, rfl⟩
    obtain ⟨kp, hkpe⟩ := hkpe
    have hkp2 : keepS t.r (ts.getD f (0, 0, 0)).2.1 (ts.getD f (0, 0, 0)).2.2 = kp := hkpe.out
    generalize ts.getD f (0, 0, 0) = xx at y0 y1 y2 hgg hkp2
    obtain ⟨x0, x1, x2⟩ := xx
    simp only at y0 y1 y2 hgg hkp2
    have HKp := Lib.hid (fun W' => keeping_any t.r hs ws x0 x1 x2 W' hO ⟨hgg.1, hgg.2.1⟩ ⟨hgg.2.2.1, hgg.2.2.2⟩)
    have hin := keep_in hO x1 x2
    rw [hkp2] at HKp hin
    clear hkp2
    have HS := Lib.hid (fun (W' : World) (hh : Below Wb.heap.size Wb W') => (show W'.cell? ⟨w.heap.size, 0, none⟩ = some (.slice t.r.ha t.r.hn t.r.hc) ∧ W'.cell? ⟨w.heap.size, 1, none⟩ = some (.slice t.r.wa t.r.wn t.r.wc) ∧ W'.cell? ⟨w.heap.size, 2, none⟩ = some (.int .i64 t.r.own) ∧ W'.cell? ⟨w.heap.size, 3, none⟩ = some (.int .i64 t.r.feed) ∧ W'.cell? ⟨w.heap.size, 4, none⟩ = some (.int .i64 t.r.g0) ∧ W'.cell? ⟨w.heap.size, 5, none⟩ = some (.int .i64 t.r.g1) ∧ W'.cell? ⟨w.heap.size, 6, none⟩ = some (.int .i64 t.r.g2) ∧ W'.cell? ⟨w.heap.size, 7, none⟩ = some (.int .i64 t.r.lost) ∧ W'.cell? ⟨w.heap.size, 8, none⟩ = some (.int .i64 t.first) ∧ W'.cell? ⟨w.heap.size, 9, none⟩ = some (.slice sa N sc) ∧ W'.cell? ⟨w.heap.size, 10, none⟩ = some (.int .i64 t.lo) ∧ W'.cell? ⟨w.heap.size, 11, none⟩ = some (.int .i64 t.hi) ∧ W'.cell? ⟨w.heap.size, 12, none⟩ = some (.slice (some ⟨tb, tj, none⟩) t.tn t.tc) ∧ W'.cell? ⟨tb, tj + f * 3, none⟩ = some (.int .i64 x0) ∧ W'.cell? ⟨tb, tj + f * 3 + 1, none⟩ = some (.int .i64 x1) ∧ W'.cell? ⟨tb, tj + f * 3 + 2, none⟩ = some (.int .i64 x2) ∧ W'.cell? ⟨w.heap.size + 1, 0, none⟩ = some (.int .i64 z) from ⟨(hh.cell (p := ⟨w.heap.size, _, none⟩) h1.lt).trans (h1.cell 0), (hh.cell (p := ⟨w.heap.size, _, none⟩) h1.lt).trans (h1.cell 1), (hh.cell (p := ⟨w.heap.size, _, none⟩) h1.lt).trans (h1.cell 2), (hh.cell (p := ⟨w.heap.size, _, none⟩) h1.lt).trans (h1.cell 3), (hh.cell (p := ⟨w.heap.size, _, none⟩) h1.lt).trans (h1.cell 4), (hh.cell (p := ⟨w.heap.size, _, none⟩) h1.lt).trans (h1.cell 5), (hh.cell (p := ⟨w.heap.size, _, none⟩) h1.lt).trans (h1.cell 6), (hh.cell (p := ⟨w.heap.size, _, none⟩) h1.lt).trans (h1.cell 7), (hh.cell (p := ⟨w.heap.size, _, none⟩) h1.lt).trans (h1.cell 8), (hh.cell (p := ⟨w.heap.size, _, none⟩) h1.lt).trans (h1.cell 9), (hh.cell (p := ⟨w.heap.size, _, none⟩) h1.lt).trans (h1.cell 10), (hh.cell (p := ⟨w.heap.size, _, none⟩) h1.lt).trans (h1.cell 11), (hh.cell (p := ⟨w.heap.size, _, none⟩) h1.lt).trans ((h1.cell 12).trans (show some (Value.slice t.ta t.tn t.tc) = _ by rw [hta])), (hh.cell (p := ⟨tb, _, none⟩) htb).trans y0, (hh.cell (p := ⟨tb, _, none⟩) htb).trans y1, (hh.cell (p := ⟨tb, _, none⟩) htb).trans y2, (hh.cell (p := ⟨w.heap.size + 1, _, none⟩) h2.lt).trans (h2.cell 0)⟩))
    have a1 : (0 : Int) ≤ f := by omega
    have a2 : (f : Int) < t.tn := by have := hf.1; omega
    have hsum := Lib.hid (show Ob Wb w.heap.size 104 (t.xc (.slice sa N sc)) ∧ Ob Wb (w.heap.size + 1) 3 #[.int .i64 z] ∧ Ob Wb (w.heap.size + 1 + 1) 3 #[.int .i64 0] ∧ Below w.heap.size w Wb from ⟨h1, h2, h3, h4⟩)
    clear h1 h2 h3 h4 y0 y1 y2 hcc hTb hmf hmz
    gi_wp2_with fail
    rename_i K ha
    have HC : ∀ (b9 : Nat) (W9 : World), Wb.heap.size ≤ b9 → Ob W9 b9 28 #[.int .i64 kp.1, .int .i64 kp.2] → Below Wb.heap.size Wb W9 → K { tmps := #[.agg (t.xc (.slice sa N sc)), .slice ka kn kc, .int .i64 z, .pointer (some ⟨w.heap.size, 0, none⟩), undef, .pointer (some ⟨w.heap.size + 1, 0, none⟩), .pointer (some ⟨w.heap.size + 1 + 1, 0, none⟩), undef, .int .i64 f, .pointer (some ⟨b9, 0, none⟩), undef, undef, undef, .slice ka kn kc, .func (.func 125) #[] #[.pointer (some ⟨F0, 0, none⟩)], .int .i64 ((kn : Int) - 1 - x.val), .int .i64 f, .pointer (some ⟨w.heap.size, 0, none⟩), .agg #[.slice t.r.ha t.r.hn t.r.hc, .slice t.r.wa t.r.wn t.r.wc, .int .i64 t.r.own, .int .i64 t.r.feed, .int .i64 t.r.g0, .int .i64 t.r.g1, .int .i64 t.r.g2, .int .i64 t.r.lost], .pointer (some ⟨w.heap.size, 12, none⟩), .slice (some ⟨tb, tj, none⟩) t.tn t.tc, .int .i64 f, .pointer (some ⟨tb, tj + f * 3, none⟩), .agg #[.int .i64 x0, .int .i64 x1, .int .i64 x2], .agg #[.int .i64 kp.1, .int .i64 kp.2], undef, undef, undef, undef, undef, undef, undef, undef, undef, undef, undef, undef, undef, undef, undef, undef, undef, undef, undef, undef, undef, undef, undef, undef, undef, undef, undef, undef, undef, undef, undef, undef, undef], defers := [] } W9 := by
      intro b9 W9 hb9 o9 hB9
      refine ha _ _ ?_
      clear ha HKp
      gi_wp2_with fail
      rename_i K2 ha2
      refine wpIn_region_held (S := fun W => Below W9.heap.size W9 W) (by kernel_rfl) (by kernel_rfl) ((Below.refl _ W9).drew) (fun hHeld => ?_)
      refine wpAnyH_take (i := 0) (v := ?_) rfl (by kernel_rfl) (by kernel_rfl) (by kernel_rfl) (fun _ _ _ h => Only.not_panic h) (Or.inl ⟨by rfl, fun W hW => ?_⟩) (by assumption) ?_
      rotate_left
      · have hW2 := hW
        obtain ⟨f0, f1, f2, f3, f4, f5, f6, f7, f8, f9, f10, f11, f12, f13, f14, f15, f16⟩ := HS.out W (B_trans hB9 hW2)
        clear hW hW2
        go_simp
        try with_reducible rfl
      try simp only [Act.put, List.setIfInBounds_toArray]
      refine wpAnyH_take (i := 1) (v := ?_) rfl (by kernel_rfl) (by kernel_rfl) (by kernel_rfl) (fun _ _ _ h => Only.not_panic h) (Or.inl ⟨by rfl, fun W hW => ?_⟩) (by assumption) ?_
      rotate_left
      · have hW2 := hW
        obtain ⟨f0, f1, f2, f3, f4, f5, f6, f7, f8, f9, f10, f11, f12, f13, f14, f15, f16⟩ := HS.out W (B_trans hB9 hW2)
        clear hW hW2
        go_simp
        try with_reducible rfl
      try simp only [Act.put]
      refine wpAnyH_take (i := 3) (v := ?_) rfl (by kernel_rfl) (by kernel_rfl) (by kernel_rfl) (fun _ _ _ h => Only.not_panic h) (Or.inl ⟨by rfl, fun W hW => ?_⟩) (by assumption) ?_
      rotate_left
      · have hW2 := hW
        obtain ⟨f0, f1, f2, f3, f4, f5, f6, f7, f8, f9, f10, f11, f12, f13, f14, f15, f16⟩ := HS.out W (B_trans hB9 hW2)
        clear hW hW2
        go_simp
        try with_reducible rfl
      try simp only [Act.put]
      refine wpAnyH_take (i := 4) (v := ?_) rfl (by kernel_rfl) (by kernel_rfl) (by kernel_rfl) (fun _ _ _ h => Only.not_panic h) (Or.inl ⟨by rfl, fun W hW => ?_⟩) (by assumption) ?_
      rotate_left
      · have hW2 := hW
        obtain ⟨f0, f1, f2, f3, f4, f5, f6, f7, f8, f9, f10, f11, f12, f13, f14, f15, f16⟩ := HS.out W (B_trans hB9 hW2)
        clear hW hW2
        go_simp
        try with_reducible rfl
      try simp only [Act.put]
      refine wpAnyH_ready (rs := [2]) (by kernel_rfl) (by simp) ?_
      refine AllReadyH.cons rfl (fun K hK => ?_) ?_
      · go_simp
        refine (HM1.out _ (B_trans hB9 hHeld)).mono ?_
        rintro e w2 ⟨rfl, hb2⟩
        try simp only []
        refine hK.out _ _ ?_ (fun hHeld => ?_)
        · exact B_trans hHeld hb2
        clear hK K
        try simp only [Act.put, List.setIfInBounds_toArray, List.set_cons_zero, List.set_cons_succ]
        refine wpAnyH_ready (rs := [5]) (by kernel_rfl) (by simp) ?_
        refine AllReadyH.cons rfl (fun K hK => ?_) ?_
        · go_simp
          refine (HM2.out _ (B_trans hB9 hHeld)).mono ?_
          rintro e w5 ⟨rfl, hb5⟩
          try simp only []
          refine hK.out _ _ ?_ (fun hHeld => ?_)
          · exact B_trans hHeld hb5
          clear hK K
          try simp only [Act.put, List.setIfInBounds_toArray, List.set_cons_zero, List.set_cons_succ]
          refine wpAnyH_ready (rs := [6]) (by kernel_rfl) (by simp) ?_
          refine AllReadyH.cons rfl (fun K hK => ?_) ?_
          · go_simp
            refine (HFw.out _ _ _).mono ?_
            rintro e w6 ⟨rfl, hw6⟩
            try simp only []
            have hpre := hHeld
            refine hK.out _ _ ?_ (fun hHeld => ?_)
            · rw [hw6]; exact B_alloc (B_alloc hHeld _) _
            clear hK K
            try simp only [Act.put, List.setIfInBounds_toArray, List.set_cons_zero, List.set_cons_succ]
            refine wpAnyH_done (by kernel_rfl) (Only.mk ?_) _
            refine ha2 _ _ ?_
            have hz6 : w6.heap.size = w5.heap.size + 1 + 1 := by rw [hw6]; simp
            have hb6 := B_trans hB9 hHeld
            have o6 := o9.below hHeld
            have hG9 := hpre.size
            have hG8 := o9.lt
            have hG7 := hB9.size
            have e0 : w6.cell? ⟨w5.heap.size, 0, none⟩ = some (.int .i64 (mor f : Nat)) := by rw [hw6, alloc_old _ _ _ _ (by simp)]; simp [go_sem]
            have e1 : w6.cell? ⟨w5.heap.size + 1, 0, none⟩ = some (.int .i64 (mor z : Nat)) := by rw [hw6]; simp
            have hlr := (Array.getElem?_eq_some_iff.1 hrec).1
            have hrl : w6.heap[l]? = some (.loop rec) := (hb6.block l hlr).trans hrec
            have hmz := hmo z hz
            clear hw6 hpre hHeld hb2 hb5 HM1 HM2 HFw ha2
            generalize w5.heap.size = G at hz6 hG9 e0 e1 ⊢
            gi_wp2_with fail
            refine wpIn_rangeFunc_ownN (l₀ := l) (r₀ := rec) rfl hrl (by omega) (gf := 87) (lb := #[.pointer (some ⟨G, 0, none⟩), .pointer (some ⟨G + 1, 0, none⟩)]) rfl trivial (enters_of Try.func87 (by kernel_rfl) rfl) (SeqStopsK.inRound l (forward_stops Fence.wide _ trivial rfl (by omega) G (G + 1) (mor z - mor f) (mor f : Nat) (mor z : Nat) (by have := hf.2; omega) (by omega) (by omega) (by omega) w6 (by omega) (by omega) e0 e1)) KB2.trans (fun W l o o' h1 _ _ _ => KB2.put (n := w6.heap.size) (by omega) (by omega) W l o' h1) (Below.refl _ _) (fun _ => rfl)
              (fun pre W => Ob W b9 28 #[.int .i64 (nextFold t.r ss kp (pre.map fun y => mor f + y.val)).1, .int .i64 (nextFold t.r ss kp (pre.map fun y => mor f + y.val)).2] ∧ Below Wb.heap.size Wb W ∧ G + 1 < W.heap.size)
              (fun _ _ _ => False)
              ?own2 (fun _ _ _ _ _ hs _ _ => hs) ⟨by simpa [nextFold] using o6, hb6, by omega⟩ (fun y a' _ => a' = { tmps := #[.agg (t.xc (.slice sa N sc)), .slice ka kn kc, .int .i64 z, .pointer (some ⟨w.heap.size, 0, none⟩), undef, .pointer (some ⟨w.heap.size + 1, 0, none⟩), .pointer (some ⟨w.heap.size + 1 + 1, 0, none⟩), undef, .int .i64 f, .pointer (some ⟨b9, 0, none⟩), .int .i64 ((mor f : Int) + y.val), undef, undef, .slice ka kn kc, .func (.func 125) #[] #[.pointer (some ⟨F0, 0, none⟩)], .int .i64 ((kn : Int) - 1 - x.val), .int .i64 f, .pointer (some ⟨w.heap.size, 0, none⟩), .agg #[.slice t.r.ha t.r.hn t.r.hc, .slice t.r.wa t.r.wn t.r.wc, .int .i64 t.r.own, .int .i64 t.r.feed, .int .i64 t.r.g0, .int .i64 t.r.g1, .int .i64 t.r.g2, .int .i64 t.r.lost], .pointer (some ⟨w.heap.size, 12, none⟩), .slice (some ⟨tb, tj, none⟩) t.tn t.tc, .int .i64 f, .pointer (some ⟨tb, tj + f * 3, none⟩), .agg #[.int .i64 x0, .int .i64 x1, .int .i64 x2], .agg #[.int .i64 kp.1, .int .i64 kp.2], .agg #[.slice t.r.ha t.r.hn t.r.hc, .slice t.r.wa t.r.wn t.r.wc, .int .i64 t.r.own, .int .i64 t.r.feed, .int .i64 t.r.g0, .int .i64 t.r.g1, .int .i64 t.r.g2, .int .i64 t.r.lost, .int .i64 t.first, .slice sa N sc, .int .i64 t.lo, .int .i64 t.hi, .slice (some ⟨tb, tj, none⟩) t.tn t.tc], .int .i64 f, .int .i64 (mor f : Nat), .agg #[.slice t.r.ha t.r.hn t.r.hc, .slice t.r.wa t.r.wn t.r.wc, .int .i64 t.r.own, .int .i64 t.r.feed, .int .i64 t.r.g0, .int .i64 t.r.g1, .int .i64 t.r.g2, .int .i64 t.r.lost, .int .i64 t.first, .slice sa N sc, .int .i64 t.lo, .int .i64 t.hi, .slice (some ⟨tb, tj, none⟩) t.tn t.tc], .int .i64 z, .int .i64 (mor z : Nat), .func (.func 87) #[] #[.pointer (some ⟨G, 0, none⟩), .pointer (some ⟨G + 1, 0, none⟩)], .int .i64 ((mor f : Int) + y.val), undef, undef, undef, undef, undef, undef, undef, undef, undef, undef, undef, undef, undef, undef, undef, undef, undef, undef, undef, undef, undef, undef, undef, undef, undef], defers := [] }) ?ax2 ?assign2 ?body2 ?done2 ?stop2
            case own2 =>
              rintro pre W W' row ⟨h1, h2, h3⟩ hgr hr
              exact ⟨h1.own hgr (fun r e => (hr r e).2), below_own h2 (Nat.le_refl _) hgr (fun r e => by have := (hr r e).1; omega), Nat.lt_of_lt_of_le h3 hgr.size⟩
            case ax2 =>
              intro x a' s W W' row hs _ _
              dsimp only at hs ⊢
              exact hs
            case assign2 =>
              intro l pre x W K hi hK
              gi_wp2
              exact hK _ _ (KeepsFrom.refl _ _) (KB2.refl _ _ _) hi rfl
            case body2 =>
              rintro l2 pre y a' W hl2 ⟨rec2, hrec2⟩ ⟨g1, g2, g3⟩ rfl hlen
              obtain ⟨m, hm, hmm⟩ : ∃ m : Nat, ((mor f : Int) + y.val = m) ∧ m = mor f + y.val := ⟨mor f + y.val, by push_cast; rfl, rfl⟩
              have hmN : m < N := by have := y.isLt; have := hmz.2; omega
              have hstep : Hid (nextFold t.r ss kp ((pre ++ [y]).map fun y => mor f + y.val) = nextS t.r (ss.getD m (0, 0)) (nextFold t.r ss kp (pre.map fun y => mor f + y.val))) := by
                rw [Hid, hmm, List.map_append, List.map_cons, List.map_nil]; unfold nextFold; rw [List.foldl_append]; rfl
              have hpin := fold_in hO hsl.len hst (pre.map fun y => mor f + y.val) kp hin (fun q hq => by
                rw [List.mem_map] at hq
                obtain ⟨u, -, rfl⟩ := hq
                have := u.isLt; have := hmz.2; omega)
              generalize nextFold t.r ss kp (pre.map fun y => mor f + y.val) = cur at g1 hstep hpin
              obtain ⟨sb, so, hsa, hsb, hsc⟩ := (hsl.below (B_trans hsum.out.2.2.2 g2)).at_ (by omega)
              obtain ⟨s0, s1⟩ := hsc m hmN
              have es := hst _ (getD_lt (L := ss) (i := m) (by rw [hsl.len]; exact hmN))
              generalize ss.getD m (0, 0) = sm at s0 s1 es hstep
              have HN := Lib.hid (show ∀ W', Calls Try.prog 63 #[.agg t.r.cs, .agg #[.int .i64 sm.1, .int .i64 sm.2], .agg #[.int .i64 cur.1, .int .i64 cur.2]] W' fun e w' => e = .returned (.agg #[.int .i64 (nextS t.r sm cur).1, .int .i64 (nextS t.r sm cur).2]) ∧ Below W'.heap.size W' w' from fun W' => next_any t.r hs ws sm.1 sm.2 cur.1 cur.2 W' hO hpin.a hpin.b ⟨es.lo, by have := es.le; have := es.hi; omega⟩ ⟨by have := es.le; have := es.lo; omega, es.hi⟩)
              generalize hu : (nextS t.r sm cur).1 = u at HN
              generalize hv : (nextS t.r sm cur).2 = v at HN
              have hk := HS.out W g2
              have HK := Lib.hid (fun (W' : World) (hh : Below W.heap.size W W') => (show W'.cell? ⟨w.heap.size, 0, none⟩ = some (.slice t.r.ha t.r.hn t.r.hc) ∧ W'.cell? ⟨w.heap.size, 1, none⟩ = some (.slice t.r.wa t.r.wn t.r.wc) ∧ W'.cell? ⟨w.heap.size, 2, none⟩ = some (.int .i64 t.r.own) ∧ W'.cell? ⟨w.heap.size, 3, none⟩ = some (.int .i64 t.r.feed) ∧ W'.cell? ⟨w.heap.size, 4, none⟩ = some (.int .i64 t.r.g0) ∧ W'.cell? ⟨w.heap.size, 5, none⟩ = some (.int .i64 t.r.g1) ∧ W'.cell? ⟨w.heap.size, 6, none⟩ = some (.int .i64 t.r.g2) ∧ W'.cell? ⟨w.heap.size, 7, none⟩ = some (.int .i64 t.r.lost) ∧ W'.cell? ⟨w.heap.size, 9, none⟩ = some (.slice (some ⟨sb, so, none⟩) N sc) ∧ W'.cell? ⟨sb, so + m * 2, none⟩ = some (.int .i64 sm.1) ∧ W'.cell? ⟨sb, so + m * 2 + 1, none⟩ = some (.int .i64 sm.2) ∧ W'.cell? ⟨b9, 0, none⟩ = some (.int .i64 cur.1) ∧ W'.cell? ⟨b9, 1, none⟩ = some (.int .i64 cur.2) from ⟨(hh.cell (p := ⟨w.heap.size, 0, none⟩) (World.block_lt_of_cell? W ⟨w.heap.size, 0, none⟩ hk.1)).trans hk.1, (hh.cell (p := ⟨w.heap.size, 1, none⟩) (World.block_lt_of_cell? W ⟨w.heap.size, 0, none⟩ hk.1)).trans hk.2.1, (hh.cell (p := ⟨w.heap.size, 2, none⟩) (World.block_lt_of_cell? W ⟨w.heap.size, 0, none⟩ hk.1)).trans hk.2.2.1, (hh.cell (p := ⟨w.heap.size, 3, none⟩) (World.block_lt_of_cell? W ⟨w.heap.size, 0, none⟩ hk.1)).trans hk.2.2.2.1, (hh.cell (p := ⟨w.heap.size, 4, none⟩) (World.block_lt_of_cell? W ⟨w.heap.size, 0, none⟩ hk.1)).trans hk.2.2.2.2.1, (hh.cell (p := ⟨w.heap.size, 5, none⟩) (World.block_lt_of_cell? W ⟨w.heap.size, 0, none⟩ hk.1)).trans hk.2.2.2.2.2.1, (hh.cell (p := ⟨w.heap.size, 6, none⟩) (World.block_lt_of_cell? W ⟨w.heap.size, 0, none⟩ hk.1)).trans hk.2.2.2.2.2.2.1, (hh.cell (p := ⟨w.heap.size, 7, none⟩) (World.block_lt_of_cell? W ⟨w.heap.size, 0, none⟩ hk.1)).trans hk.2.2.2.2.2.2.2.1, (hh.cell (p := ⟨w.heap.size, 9, none⟩) (World.block_lt_of_cell? W ⟨w.heap.size, 0, none⟩ hk.1)).trans (hk.2.2.2.2.2.2.2.2.2.1.trans (by rw [hsa])), (hh.cell (p := ⟨sb, _, none⟩) hsb).trans s0, (hh.cell (p := ⟨sb, _, none⟩) hsb).trans s1, (hh.cell (p := ⟨b9, _, none⟩) g1.lt).trans (g1.cell 0), (hh.cell (p := ⟨b9, _, none⟩) g1.lt).trans (g1.cell 1)⟩))
              have HF := Lib.hid (fun (W' : World) (hh : Below W.heap.size W W') (q : Nat) => (hh.frozen (p := ⟨b9, q, none⟩) g1.lt).trans (g1.frozen q))
              have c1 : (0 : Int) ≤ m := by omega
              have c2 : (m : Int) < N := by omega
              have hsum2 := Lib.hid (And.intro g1 g2)
              replace hu := Lib.hid hu
              replace hv := Lib.hid hv
              clear g1 g2 s0 s1 hsc hsb es hpin hk hmm
              gi_wp2_with fail
              try rw [hm]
              clear hm
              try rw [hsa]
              refine wpIn_region_steps2 (l := l2) (I := KJ W b9 u v) (V := JV w.heap.size t.r.cs (.slice (some ⟨sb, so, none⟩) N sc) m sb so sm cur) (eff := jeff) (need := jneed) (till := jtill) 2 (by kernel_rfl) (by decide) (by kernel_rfl) rfl (by kernel_rfl) (by kernel_rfl) (by kernel_rfl) (by kernel_rfl) (by kernel_rfl) (by kernel_rfl) ⟨fun h => by omega, fun _ => (Below.refl _ W).drew, fun h => by omega⟩ ?steps ?hend
              case hend =>
                rintro outs w' ⟨-, -, hI⟩
                obtain ⟨W1, hb1, rfl⟩ := hI rfl
                obtain ⟨g1, g2⟩ := hsum2.out
                have q1 := g1.below hb1
                refine ⟨keeps_two _ _ hb1 (by omega), kb2_two _ _ hb1 (by omega) (by omega) (by omega) (by omega), ?_, ((B_trans g2 hb1).setCell hb9 _).setCell hb9 _, ?_⟩
                · rw [hstep.out, hu.out, hv.out]
                  exact (q1.set _ _).set _ _
                · have := hb1.size
                  simp only [World.setCell, Array.size_modify]
                  omega
              case steps =>
                refine ⟨⟨rfl, fun t ht k' outs u _ => by cases ht; rfl, fun k' outs W' ρ hk1 hk2 hI hc hg h_fn hr ho => ?_⟩, ?_⟩
                · have o3 := ho 3 (by kernel_rfl)
                  clear hI
                  refine step_pure rfl (v := .pointer (some ⟨w.heap.size, 0, none⟩)) (fun t ht => by cases ht; rfl) ?_
                  go_simp
                refine ⟨⟨rfl, fun t ht k' outs u _ => by cases ht; rfl, fun k' outs W' ρ hk1 hk2 hI hc hg h_fn hr ho => ?_⟩, ?_⟩
                · have r33 : ρ (.tmp 33) = .pointer (some ⟨w.heap.size, 0, none⟩) := hr 33 (by kernel_rfl)
                  have hk2' : k' ≤ 1 := hk2
                  obtain ⟨f0, f1, f2, f3, f4, f5, f6, f7, f8, f9, f10, f11, f12⟩ := HK.out W' (hI.2.1 (by omega))
                  clear hI
                  refine step_pure rfl (v := .agg t.r.cs) (fun t ht => by cases ht; rfl) ?_
                  go_simp
                refine ⟨⟨rfl, fun t ht k' outs u _ => by cases ht; rfl, fun k' outs W' ρ hk1 hk2 hI hc hg h_fn hr ho => ?_⟩, ?_⟩
                · have o3 := ho 3 (by kernel_rfl)
                  clear hI
                  refine step_pure rfl (v := .pointer (some ⟨w.heap.size, 9, none⟩)) (fun t ht => by cases ht; rfl) ?_
                  go_simp
                refine ⟨⟨rfl, fun t ht k' outs u _ => by cases ht; rfl, fun k' outs W' ρ hk1 hk2 hI hc hg h_fn hr ho => ?_⟩, ?_⟩
                · have r35 : ρ (.tmp 35) = .pointer (some ⟨w.heap.size, 9, none⟩) := hr 35 (by kernel_rfl)
                  have hk2' : k' ≤ 1 := hk2
                  obtain ⟨f0, f1, f2, f3, f4, f5, f6, f7, f8, f9, f10, f11, f12⟩ := HK.out W' (hI.2.1 (by omega))
                  clear hI
                  refine step_pure rfl (v := .slice (some ⟨sb, so, none⟩) N sc) (fun t ht => by cases ht; rfl) ?_
                  go_simp
                refine ⟨⟨rfl, fun t ht k' outs u _ => by cases ht; rfl, fun k' outs W' ρ hk1 hk2 hI hc hg h_fn hr ho => ?_⟩, ?_⟩
                · have o10 := ho 10 (by kernel_rfl)
                  clear hI
                  refine step_pure rfl (v := .int .i64 m) (fun t ht => by cases ht; rfl) ?_
                  go_simp
                refine ⟨⟨rfl, fun t ht k' outs u _ => by cases ht; rfl, fun k' outs W' ρ hk1 hk2 hI hc hg h_fn hr ho => ?_⟩, ?_⟩
                · have r36 : ρ (.tmp 36) = .slice (some ⟨sb, so, none⟩) N sc := hr 36 (by kernel_rfl)
                  have r37 : ρ (.tmp 37) = .int .i64 m := hr 37 (by kernel_rfl)
                  clear hI
                  refine step_pure rfl (v := .pointer (some ⟨sb, so + m * 2, none⟩)) (fun t ht => by cases ht; rfl) ?_
                  go_simp
                refine ⟨⟨rfl, fun t ht k' outs u _ => by cases ht; rfl, fun k' outs W' ρ hk1 hk2 hI hc hg h_fn hr ho => ?_⟩, ?_⟩
                · have r38 : ρ (.tmp 38) = .pointer (some ⟨sb, so + m * 2, none⟩) := hr 38 (by kernel_rfl)
                  have hk2' : k' ≤ 1 := hk2
                  obtain ⟨f0, f1, f2, f3, f4, f5, f6, f7, f8, f9, f10, f11, f12⟩ := HK.out W' (hI.2.1 (by omega))
                  clear hI
                  refine step_pure rfl (v := .agg #[.int .i64 sm.1, .int .i64 sm.2]) (fun t ht => by cases ht; rfl) ?_
                  go_simp
                refine ⟨⟨rfl, fun t ht k' outs u _ => by cases ht; rfl, fun k' outs W' ρ hk1 hk2 hI hc hg h_fn hr ho => ?_⟩, ?_⟩
                · have o9 := ho 9 (by kernel_rfl)
                  have hk2' : k' ≤ 1 := hk2
                  obtain ⟨f0, f1, f2, f3, f4, f5, f6, f7, f8, f9, f10, f11, f12⟩ := HK.out W' (hI.2.1 (by omega))
                  clear hI
                  refine step_pure rfl (v := .agg #[.int .i64 cur.1, .int .i64 cur.2]) (fun t ht => by cases ht; rfl) ?_
                  go_simp
                refine ⟨⟨rfl, fun t ht k' outs u (h : 0 < k') => by cases ht; show upd outs k' u 0 = outs 0; unfold upd; rw [if_neg (by omega)], fun k' outs W' ρ hk1 hk2 hI hc hg h_fn hr ho => ?_⟩, ?_⟩
                · have r34 : ρ (.tmp 34) = .agg t.r.cs := hr 34 (by kernel_rfl)
                  have r39 : ρ (.tmp 39) = .agg #[.int .i64 sm.1, .int .i64 sm.2] := hr 39 (by kernel_rfl)
                  have r40 : ρ (.tmp 40) = .agg #[.int .i64 cur.1, .int .i64 cur.2] := hr 40 (by kernel_rfl)
                  have hfn := h_fn 63
                  obtain rfl : k' = 0 := Nat.le_zero.1 hk2
                  refine step_call rfl (f := 63) (args := #[.agg t.r.cs, .agg #[.int .i64 sm.1, .int .i64 sm.2], .agg #[.int .i64 cur.1, .int .i64 cur.2]]) (w' := W') ?_ ?_
                  · clear hI; go_simp
                  · refine (HN.out W').mono ?_
                    rintro e w2 ⟨rfl, hb2⟩
                    exact ⟨_, rfl, ⟨fun _ => rfl, fun _ => B_trans (hI.2.1 (by omega)) hb2, fun h => by omega⟩, fun t ht => by cases ht; rfl⟩
                refine ⟨⟨rfl, (fun t ht => by cases ht), fun k' outs W' ρ hk1 hk2 hI hc hg h_fn hr ho => ?_⟩, trivial⟩
                · have o9 := ho 9 (by kernel_rfl)
                  obtain rfl : k' = 1 := by have h1 : 1 ≤ k' := hk1; have h2 : k' ≤ 1 := hk2; omega
                  have r41 : ρ (.tmp 41) = .agg #[.int .i64 u, .int .i64 v] := (hr 41 (by kernel_rfl)).trans (hI.1 (by omega))
                  have hbW := hI.2.1 (by omega)
                  obtain ⟨f0, f1, f2, f3, f4, f5, f6, f7, f8, f9, f10, f11, f12⟩ := HK.out W' hbW
                  have z0 := HF.out W' hbW 0
                  have z1 := HF.out W' hbW 1
                  refine step_store rfl rfl (w' := (W'.setCell ⟨b9, 0, none⟩ (.int .i64 u)).setCell ⟨b9, 1, none⟩ (.int .i64 v)) ?_ ⟨fun _ => hI.1 (by omega), fun h => by omega, fun _ => ⟨W', hbW, rfl⟩⟩
                  clear hI hbW; go_simp
            case done2 =>
              rintro xs W7 rfl ⟨g1, g2, g3⟩
              have hst2 : Hid (stopB t.r ss ts mor z f = !decide (max (nextFold t.r ss kp ((List.finRange (mor z - mor f)).map fun y => mor f + y.val)).1 (keepT t.r ts z).1 ≤ min (nextFold t.r ss kp ((List.finRange (mor z - mor f)).map fun y => mor f + y.val)).2 (keepT t.r ts z).2)) := by
                rw [Hid, ← range_fin, ← hkpe.out]
                rfl
              generalize nextFold t.r ss kp ((List.finRange (mor z - mor f)).map fun y => mor f + y.val) = cs at g1 hst2
              generalize keepT t.r ts z = kz at HKz hst2
              generalize ts.getD z (0, 0, 0) = tz at HZ HKz
              obtain ⟨z0, z1, z2⟩ := tz
              simp only at HZ HKz
              have HCm := Lib.hid (fun W' => common_any cs.1 cs.2 kz.1 kz.2 W')
              have HD := Lib.hid (fun (W' : World) (hh : Below W7.heap.size W7 W') => (show W'.cell? ⟨b9, 0, none⟩ = some (.int .i64 cs.1) ∧ W'.cell? ⟨b9, 1, none⟩ = some (.int .i64 cs.2) from ⟨(hh.cell (p := ⟨b9, _, none⟩) g1.lt).trans (g1.cell 0), (hh.cell (p := ⟨b9, _, none⟩) g1.lt).trans (g1.cell 1)⟩))
              have d1 : (0 : Int) ≤ z := by omega
              have d2 : (z : Int) < t.tn := by omega
              have hsum7 := Lib.hid g2
              clear g1
              gi_wp2_with fail
              rename_i K3 ha3
              have HE : ∀ (b11 : Nat) (W8 : World), Below Wb.heap.size Wb W8 → K3 { tmps := #[.agg (t.xc (.slice sa N sc)), .slice ka kn kc, .int .i64 z, .pointer (some ⟨w.heap.size, 0, none⟩), undef, .pointer (some ⟨w.heap.size + 1, 0, none⟩), .pointer (some ⟨w.heap.size + 1 + 1, 0, none⟩), undef, .int .i64 f, .pointer (some ⟨b9, 0, none⟩), undef, .pointer (some ⟨b11, 0, none⟩), .bool (decide (max cs.1 kz.1 ≤ min cs.2 kz.2)), .slice ka kn kc, .func (.func 125) #[] #[.pointer (some ⟨F0, 0, none⟩)], .int .i64 ((kn : Int) - 1 - x.val), .int .i64 f, .pointer (some ⟨w.heap.size, 0, none⟩), .agg #[.slice t.r.ha t.r.hn t.r.hc, .slice t.r.wa t.r.wn t.r.wc, .int .i64 t.r.own, .int .i64 t.r.feed, .int .i64 t.r.g0, .int .i64 t.r.g1, .int .i64 t.r.g2, .int .i64 t.r.lost], .pointer (some ⟨w.heap.size, 12, none⟩), .slice (some ⟨tb, tj, none⟩) t.tn t.tc, .int .i64 f, .pointer (some ⟨tb, tj + f * 3, none⟩), .agg #[.int .i64 x0, .int .i64 x1, .int .i64 x2], .agg #[.int .i64 kp.1, .int .i64 kp.2], .agg #[.slice t.r.ha t.r.hn t.r.hc, .slice t.r.wa t.r.wn t.r.wc, .int .i64 t.r.own, .int .i64 t.r.feed, .int .i64 t.r.g0, .int .i64 t.r.g1, .int .i64 t.r.g2, .int .i64 t.r.lost, .int .i64 t.first, .slice sa N sc, .int .i64 t.lo, .int .i64 t.hi, .slice (some ⟨tb, tj, none⟩) t.tn t.tc], .int .i64 f, .int .i64 (mor f : Nat), .agg #[.slice t.r.ha t.r.hn t.r.hc, .slice t.r.wa t.r.wn t.r.wc, .int .i64 t.r.own, .int .i64 t.r.feed, .int .i64 t.r.g0, .int .i64 t.r.g1, .int .i64 t.r.g2, .int .i64 t.r.lost, .int .i64 t.first, .slice sa N sc, .int .i64 t.lo, .int .i64 t.hi, .slice (some ⟨tb, tj, none⟩) t.tn t.tc], .int .i64 z, .int .i64 (mor z : Nat), .func (.func 87) #[] #[.pointer (some ⟨G, 0, none⟩), .pointer (some ⟨G + 1, 0, none⟩)], undef, undef, undef, undef, undef, undef, undef, undef, undef, undef, .tuple #[.agg #[.int .i64 (max cs.1 kz.1), .int .i64 (min cs.2 kz.2)], .bool (decide (max cs.1 kz.1 ≤ min cs.2 kz.2))], .agg #[.int .i64 cs.1, .int .i64 cs.2], .pointer (some ⟨w.heap.size, 0, none⟩), .agg #[.slice t.r.ha t.r.hn t.r.hc, .slice t.r.wa t.r.wn t.r.wc, .int .i64 t.r.own, .int .i64 t.r.feed, .int .i64 t.r.g0, .int .i64 t.r.g1, .int .i64 t.r.g2, .int .i64 t.r.lost], .pointer (some ⟨w.heap.size, 12, none⟩), .slice (some ⟨tb, tj, none⟩) t.tn t.tc, .int .i64 z, .pointer (some ⟨tb, tj + z * 3, none⟩), .agg #[.int .i64 z0, .int .i64 z1, .int .i64 z2], .agg #[.int .i64 kz.1, .int .i64 kz.2], .tuple #[.agg #[.int .i64 (max cs.1 kz.1), .int .i64 (min cs.2 kz.2)], .bool (decide (max cs.1 kz.1 ≤ min cs.2 kz.2))], .agg #[.int .i64 (max cs.1 kz.1), .int .i64 (min cs.2 kz.2)], .bool (decide (max cs.1 kz.1 ≤ min cs.2 kz.2)), undef, undef, undef], defers := [] } W8 := by
                intro b11 W8 hB8
                refine ha3 _ _ ?_
                clear ha3
                obtain ⟨j1, j2, j3, j4⟩ := hsum.out
                have m1 := j1.below hB8
                have m2 := j2.below hB8
                have m3 := j3.below hB8
                have m4 := B_trans j4 hB8
                have hkf : KeepsFrom W5.heap.size Wb W8 := ⟨hB8.size, fun k o _ hk _ => (hB8.block k (Array.getElem?_eq_some_iff.1 hk).1).trans hk⟩
                have hkb2 : KB2 F0 b Wb W8 := ⟨hB8.block _ h5, hB8.block _ (by have := j4.size; omega)⟩
                cases hok : decide (max cs.1 kz.1 ≤ min cs.2 kz.2) with
                | true =>
                  have hst3 : stopB t.r ss ts mor z f = false := by rw [hst2.out, hok]; rfl
                  have hfin := Lib.hid (show KeepsFrom W5.heap.size Wb W8 ∧ KB2 F0 b Wb W8 ∧ Ob W8 w.heap.size 104 (t.xc (.slice sa N sc)) ∧ Ob W8 (w.heap.size + 1) 3 #[.int .i64 z] ∧ Ob W8 (w.heap.size + 1 + 1) 3 #[.int .i64 0] ∧ Below w.heap.size w W8 ∧ F0 < W8.heap.size ∧ ∀ y ∈ pre ++ [x], stopB t.r ss ts mor z (L.getD (kn - 1 - y.val) 0) = false from
                    ⟨hkf, hkb2, m1, m2, m3, m4, Nat.lt_of_lt_of_le h5 hB8.size, fun y hy => by
                      rcases List.mem_append.1 hy with h | h
                      · exact h6 y h
                      · rw [List.mem_singleton] at h
                        subst h
                        rw [hfe.out]; exact hst3⟩)
                  clear j1 j2 j3 j4 m1 m2 m3 m4 hkf hkb2
                  gi_wp2
                  exact hfin.out
                | false =>
                  have hst3 : stopB t.r ss ts mor z f = true := by rw [hst2.out, hok]; rfl
                  have q0 := m3.cell 0
                  have q1 := m3.frozen 0
                  simp only [List.getElem?_toArray, List.getElem?_cons_zero] at q0
                  have hs8 := m3.set 0 (.int .i64 f)
                  have hfin := Lib.hid (show KeepsFrom W5.heap.size Wb (W8.setCell ⟨w.heap.size + 1 + 1, 0, none⟩ (.int .i64 f)) ∧ Code.ret = Code.ret ∧ ∃ pre' x', pre ++ [x] = pre' ++ [x'] ∧ (∀ y ∈ pre', stopB t.r ss ts mor z (L.getD (kn - 1 - y.val) 0) = false) ∧ stopB t.r ss ts mor z (L.getD (kn - 1 - x'.val) 0) = true ∧ Ob (W8.setCell ⟨w.heap.size + 1 + 1, 0, none⟩ (.int .i64 f)) (w.heap.size + 1 + 1) 3 #[.int .i64 (L.getD (kn - 1 - x'.val) 0 : Nat)] ∧ Below w.heap.size w (W8.setCell ⟨w.heap.size + 1 + 1, 0, none⟩ (.int .i64 f)) from
                    ⟨⟨by simpa [World.setCell] using hkf.size, fun k o hk h1 h2 => by
                        rw [Below.heap_setCell _ _ _ _ (by simp only; omega)]
                        exact hkf.same k o hk h1 h2⟩, rfl, pre, x, rfl, h6, by rw [hfe.out]; exact hst3, by rw [hfe.out]; exact hs8, m4.setCell (by simp only; omega) _⟩)
                  clear j1 j2 j3 j4 m1 m2 m3 m4 hkf hkb2 hs8
                  gi_wp2
                  refine ⟨?_, rfl, hfin.out.2.2⟩
                  first | exact hfin.out.1 | (rw [← z5]; exact hfin.out.1)
              refine wpIn_region_held (S := fun W => Below W7.heap.size W7 W) (by kernel_rfl) (by kernel_rfl) ((Below.refl _ W7).drew) (fun hHeld => ?_)
              refine wpAnyH_take (i := 0) (v := ?_) rfl (by kernel_rfl) (by kernel_rfl) (by kernel_rfl) (fun _ _ _ h => Only.not_panic h) (Or.inl ⟨by rfl, fun W hW => ?_⟩) (by assumption) ?_
              rotate_left
              · have hW2 := hW
                obtain ⟨f0, f1, f2, f3, f4, f5, f6, f7, f8, f9, f10, f11, f12, f13, f14, f15, f16⟩ := HS.out W (B_trans g2 hW2)
                obtain ⟨e0, e1, e2⟩ := HZ.out W (B_trans g2 hW2)
                obtain ⟨e3, e4⟩ := HD.out W hW2
                clear hW hW2
                go_simp
                try with_reducible rfl
              try simp only [Act.put, List.setIfInBounds_toArray]
              refine wpAnyH_take (i := 1) (v := ?_) rfl (by kernel_rfl) (by kernel_rfl) (by kernel_rfl) (fun _ _ _ h => Only.not_panic h) (Or.inl ⟨by rfl, fun W hW => ?_⟩) (by assumption) ?_
              rotate_left
              · have hW2 := hW
                obtain ⟨f0, f1, f2, f3, f4, f5, f6, f7, f8, f9, f10, f11, f12, f13, f14, f15, f16⟩ := HS.out W (B_trans g2 hW2)
                obtain ⟨e0, e1, e2⟩ := HZ.out W (B_trans g2 hW2)
                obtain ⟨e3, e4⟩ := HD.out W hW2
                clear hW hW2
                go_simp
                try with_reducible rfl
              try simp only [Act.put]
              refine wpAnyH_take (i := 2) (v := ?_) rfl (by kernel_rfl) (by kernel_rfl) (by kernel_rfl) (fun _ _ _ h => Only.not_panic h) (Or.inl ⟨by rfl, fun W hW => ?_⟩) (by assumption) ?_
              rotate_left
              · have hW2 := hW
                obtain ⟨f0, f1, f2, f3, f4, f5, f6, f7, f8, f9, f10, f11, f12, f13, f14, f15, f16⟩ := HS.out W (B_trans g2 hW2)
                obtain ⟨e0, e1, e2⟩ := HZ.out W (B_trans g2 hW2)
                obtain ⟨e3, e4⟩ := HD.out W hW2
                clear hW hW2
                go_simp
                try with_reducible rfl
              try simp only [Act.put]
              refine wpAnyH_take (i := 3) (v := ?_) rfl (by kernel_rfl) (by kernel_rfl) (by kernel_rfl) (fun _ _ _ h => Only.not_panic h) (Or.inl ⟨by rfl, fun W hW => ?_⟩) (by assumption) ?_
              rotate_left
              · have hW2 := hW
                obtain ⟨f0, f1, f2, f3, f4, f5, f6, f7, f8, f9, f10, f11, f12, f13, f14, f15, f16⟩ := HS.out W (B_trans g2 hW2)
                obtain ⟨e0, e1, e2⟩ := HZ.out W (B_trans g2 hW2)
                obtain ⟨e3, e4⟩ := HD.out W hW2
                clear hW hW2
                go_simp
                try with_reducible rfl
              try simp only [Act.put]
              refine wpAnyH_take (i := 4) (v := ?_) rfl (by kernel_rfl) (by kernel_rfl) (by kernel_rfl) (fun _ _ _ h => Only.not_panic h) (Or.inl ⟨by rfl, fun W hW => ?_⟩) (by assumption) ?_
              rotate_left
              · have hW2 := hW
                obtain ⟨f0, f1, f2, f3, f4, f5, f6, f7, f8, f9, f10, f11, f12, f13, f14, f15, f16⟩ := HS.out W (B_trans g2 hW2)
                obtain ⟨e0, e1, e2⟩ := HZ.out W (B_trans g2 hW2)
                obtain ⟨e3, e4⟩ := HD.out W hW2
                clear hW hW2
                go_simp
                try with_reducible rfl
              try simp only [Act.put]
              refine wpAnyH_take (i := 5) (v := ?_) rfl (by kernel_rfl) (by kernel_rfl) (by kernel_rfl) (fun _ _ _ h => Only.not_panic h) (Or.inl ⟨by rfl, fun W hW => ?_⟩) (by assumption) ?_
              rotate_left
              · have hW2 := hW
                obtain ⟨f0, f1, f2, f3, f4, f5, f6, f7, f8, f9, f10, f11, f12, f13, f14, f15, f16⟩ := HS.out W (B_trans g2 hW2)
                obtain ⟨e0, e1, e2⟩ := HZ.out W (B_trans g2 hW2)
                obtain ⟨e3, e4⟩ := HD.out W hW2
                clear hW hW2
                go_simp
                try with_reducible rfl
              try simp only [Act.put]
              refine wpAnyH_take (i := 6) (v := ?_) rfl (by kernel_rfl) (by kernel_rfl) (by kernel_rfl) (fun _ _ _ h => Only.not_panic h) (Or.inl ⟨by rfl, fun W hW => ?_⟩) (by assumption) ?_
              rotate_left
              · have hW2 := hW
                obtain ⟨f0, f1, f2, f3, f4, f5, f6, f7, f8, f9, f10, f11, f12, f13, f14, f15, f16⟩ := HS.out W (B_trans g2 hW2)
                obtain ⟨e0, e1, e2⟩ := HZ.out W (B_trans g2 hW2)
                obtain ⟨e3, e4⟩ := HD.out W hW2
                clear hW hW2
                go_simp
                try with_reducible rfl
              try simp only [Act.put]
              refine wpAnyH_take (i := 7) (v := ?_) rfl (by kernel_rfl) (by kernel_rfl) (by kernel_rfl) (fun _ _ _ h => Only.not_panic h) (Or.inl ⟨by rfl, fun W hW => ?_⟩) (by assumption) ?_
              rotate_left
              · have hW2 := hW
                obtain ⟨f0, f1, f2, f3, f4, f5, f6, f7, f8, f9, f10, f11, f12, f13, f14, f15, f16⟩ := HS.out W (B_trans g2 hW2)
                obtain ⟨e0, e1, e2⟩ := HZ.out W (B_trans g2 hW2)
                obtain ⟨e3, e4⟩ := HD.out W hW2
                clear hW hW2
                go_simp
                try with_reducible rfl
              try simp only [Act.put]
              refine wpAnyH_ready (rs := [8, 13]) (by kernel_rfl) (by simp) ?_
              refine AllReadyH.cons rfl (fun K hK => ?_) ?_
              · go_simp
                refine (HKz.out _).mono ?_
                rintro e w8 ⟨rfl, hb8⟩
                try simp only []
                refine hK.out _ _ ?_ (fun hHeld => ?_)
                · exact B_trans hHeld hb8
                clear hK K
                try simp only [Act.put, List.setIfInBounds_toArray, List.set_cons_zero, List.set_cons_succ]
                refine wpAnyH_ready (rs := [9, 13]) (by kernel_rfl) (by simp) ?_
                refine AllReadyH.cons rfl (fun K hK => ?_) ?_
                · go_simp
                  refine (HCm.out _).mono ?_
                  rintro e w9 ⟨rfl, hb9⟩
                  try simp only []
                  refine hK.out _ _ ?_ (fun hHeld => ?_)
                  · exact B_trans hHeld hb9
                  clear hK K
                  try simp only [Act.put, List.setIfInBounds_toArray, List.set_cons_zero, List.set_cons_succ]
                  refine wpAnyH_take (i := 10) (v := ?_) rfl (by kernel_rfl) (by kernel_rfl) (by kernel_rfl) (fun _ _ _ h => Only.not_panic h) (Or.inl ⟨by rfl, fun W hW => ?_⟩) (by assumption) ?_
                  rotate_left
                  · have hW2 := hW
                    obtain ⟨f0, f1, f2, f3, f4, f5, f6, f7, f8, f9, f10, f11, f12, f13, f14, f15, f16⟩ := HS.out W (B_trans g2 hW2)
                    obtain ⟨e0, e1, e2⟩ := HZ.out W (B_trans g2 hW2)
                    obtain ⟨e3, e4⟩ := HD.out W hW2
                    clear hW hW2
                    go_simp
                    try with_reducible rfl
                  try simp only [Act.put, List.setIfInBounds_toArray]
                  refine wpAnyH_take (i := 11) (v := ?_) rfl (by kernel_rfl) (by kernel_rfl) (by kernel_rfl) (fun _ _ _ h => Only.not_panic h) (Or.inl ⟨by rfl, fun W hW => ?_⟩) (by assumption) ?_
                  rotate_left
                  · have hW2 := hW
                    obtain ⟨f0, f1, f2, f3, f4, f5, f6, f7, f8, f9, f10, f11, f12, f13, f14, f15, f16⟩ := HS.out W (B_trans g2 hW2)
                    obtain ⟨e0, e1, e2⟩ := HZ.out W (B_trans g2 hW2)
                    obtain ⟨e3, e4⟩ := HD.out W hW2
                    clear hW hW2
                    go_simp
                    try with_reducible rfl
                  try simp only [Act.put]
                  refine wpAnyH_take (i := 12) (v := ?_) rfl (by kernel_rfl) (by kernel_rfl) (by kernel_rfl) (fun _ _ _ h => Only.not_panic h) (Or.inl ⟨by rfl, fun W hW => ?_⟩) (by assumption) ?_
                  rotate_left
                  · have hW2 := hW
                    obtain ⟨f0, f1, f2, f3, f4, f5, f6, f7, f8, f9, f10, f11, f12, f13, f14, f15, f16⟩ := HS.out W (B_trans g2 hW2)
                    obtain ⟨e0, e1, e2⟩ := HZ.out W (B_trans g2 hW2)
                    obtain ⟨e3, e4⟩ := HD.out W hW2
                    clear hW hW2
                    go_simp
                    try with_reducible rfl
                  try simp only [Act.put]
                  refine wpAnyH_ready (rs := [13]) (by kernel_rfl) (by simp) ?_
                  refine AllReadyH.cons rfl (fun K hK => ?_) ?_
                  · go_simp
                    have hpre := hHeld
                    have o9 := Lib.hid (Ob.new (w9) #[.int .i64 0, .int .i64 0] 28)
                    have hz9 := hHeld.size
                    refine hK.out _ _ ?_ (fun hHeld => ?_)
                    · exact B_alloc hHeld _
                    clear hK K
                    try simp only [Act.put, List.setIfInBounds_toArray, List.set_cons_zero, List.set_cons_succ]
                    refine wpAnyH_ready (rs := [14]) (by kernel_rfl) (by simp) ?_
                    refine AllReadyH.cons rfl (fun K hK => ?_) ?_
                    · have v0 := o9.out.cell 0
                      have v1 := o9.out.cell 1
                      have p0 := o9.out.frozen 0
                      have p1 := o9.out.frozen 1
                      simp only [List.getElem?_toArray, List.getElem?_cons_zero, List.getElem?_cons_succ] at v0 v1
                      go_simp
                      refine hK.out _ _ ?_ (fun hHeld => ?_)
                      · first | exact B_alloc hpre _ | exact (hHeld.setCell (by first | omega | (simp only; omega) | (simp; omega)) _).setCell (by first | omega | (simp only; omega) | (simp; omega)) _
                      clear hK K
                      try simp only [Act.put, List.setIfInBounds_toArray, List.set_cons_zero, List.set_cons_succ]
                      refine wpAnyH_take (i := 15) (v := ?_) rfl (by kernel_rfl) (by kernel_rfl) (by kernel_rfl) (fun _ _ _ h => Only.not_panic h) (Or.inl ⟨by rfl, fun W hW => ?_⟩) (by assumption) ?_
                      rotate_left
                      · have hW2 := hW
                        obtain ⟨f0, f1, f2, f3, f4, f5, f6, f7, f8, f9, f10, f11, f12, f13, f14, f15, f16⟩ := HS.out W (B_trans g2 hW2)
                        obtain ⟨e0, e1, e2⟩ := HZ.out W (B_trans g2 hW2)
                        obtain ⟨e3, e4⟩ := HD.out W hW2
                        clear hW hW2
                        go_simp
                        try with_reducible rfl
                      try simp only [Act.put, List.setIfInBounds_toArray]
                      refine wpAnyH_done (by kernel_rfl) (Only.mk ?_) _
                      exact HE _ _ (B_trans g2 hHeld)
                    exact AllReadyH.nil
                  exact AllReadyH.nil
                refine AllReadyH.cons rfl (fun K hK => ?_) ?_
                · go_simp
                  have hpre := hHeld
                  have o9 := Lib.hid (Ob.new (w8) #[.int .i64 0, .int .i64 0] 28)
                  have hz9 := hHeld.size
                  refine hK.out _ _ ?_ (fun hHeld => ?_)
                  · exact B_alloc hHeld _
                  clear hK K
                  try simp only [Act.put, List.setIfInBounds_toArray, List.set_cons_zero, List.set_cons_succ]
                  refine wpAnyH_ready (rs := [9]) (by kernel_rfl) (by simp) ?_
                  refine AllReadyH.cons rfl (fun K hK => ?_) ?_
                  · go_simp
                    refine (HCm.out _).mono ?_
                    rintro e w9 ⟨rfl, hb9⟩
                    try simp only []
                    replace o9 := Lib.hid (o9.out.below hb9)
                    refine hK.out _ _ ?_ (fun hHeld => ?_)
                    · exact B_trans hHeld hb9
                    clear hK K
                    try simp only [Act.put, List.setIfInBounds_toArray, List.set_cons_zero, List.set_cons_succ]
                    refine wpAnyH_take (i := 10) (v := ?_) rfl (by kernel_rfl) (by kernel_rfl) (by kernel_rfl) (fun _ _ _ h => Only.not_panic h) (Or.inl ⟨by rfl, fun W hW => ?_⟩) (by assumption) ?_
                    rotate_left
                    · have hW2 := hW
                      obtain ⟨f0, f1, f2, f3, f4, f5, f6, f7, f8, f9, f10, f11, f12, f13, f14, f15, f16⟩ := HS.out W (B_trans g2 hW2)
                      obtain ⟨e0, e1, e2⟩ := HZ.out W (B_trans g2 hW2)
                      obtain ⟨e3, e4⟩ := HD.out W hW2
                      clear hW hW2
                      go_simp
                      try with_reducible rfl
                    try simp only [Act.put, List.setIfInBounds_toArray]
                    refine wpAnyH_take (i := 11) (v := ?_) rfl (by kernel_rfl) (by kernel_rfl) (by kernel_rfl) (fun _ _ _ h => Only.not_panic h) (Or.inl ⟨by rfl, fun W hW => ?_⟩) (by assumption) ?_
                    rotate_left
                    · have hW2 := hW
                      obtain ⟨f0, f1, f2, f3, f4, f5, f6, f7, f8, f9, f10, f11, f12, f13, f14, f15, f16⟩ := HS.out W (B_trans g2 hW2)
                      obtain ⟨e0, e1, e2⟩ := HZ.out W (B_trans g2 hW2)
                      obtain ⟨e3, e4⟩ := HD.out W hW2
                      clear hW hW2
                      go_simp
                      try with_reducible rfl
                    try simp only [Act.put]
                    refine wpAnyH_take (i := 12) (v := ?_) rfl (by kernel_rfl) (by kernel_rfl) (by kernel_rfl) (fun _ _ _ h => Only.not_panic h) (Or.inl ⟨by rfl, fun W hW => ?_⟩) (by assumption) ?_
                    rotate_left
                    · have hW2 := hW
                      obtain ⟨f0, f1, f2, f3, f4, f5, f6, f7, f8, f9, f10, f11, f12, f13, f14, f15, f16⟩ := HS.out W (B_trans g2 hW2)
                      obtain ⟨e0, e1, e2⟩ := HZ.out W (B_trans g2 hW2)
                      obtain ⟨e3, e4⟩ := HD.out W hW2
                      clear hW hW2
                      go_simp
                      try with_reducible rfl
                    try simp only [Act.put]
                    refine wpAnyH_ready (rs := [14]) (by kernel_rfl) (by simp) ?_
                    refine AllReadyH.cons rfl (fun K hK => ?_) ?_
                    · have v0 := o9.out.cell 0
                      have v1 := o9.out.cell 1
                      have p0 := o9.out.frozen 0
                      have p1 := o9.out.frozen 1
                      simp only [List.getElem?_toArray, List.getElem?_cons_zero, List.getElem?_cons_succ] at v0 v1
                      go_simp
                      refine hK.out _ _ ?_ (fun hHeld => ?_)
                      · first | exact B_alloc hpre _ | exact (hHeld.setCell (by first | omega | (simp only; omega) | (simp; omega)) _).setCell (by first | omega | (simp only; omega) | (simp; omega)) _
                      clear hK K
                      try simp only [Act.put, List.setIfInBounds_toArray, List.set_cons_zero, List.set_cons_succ]
                      refine wpAnyH_take (i := 15) (v := ?_) rfl (by kernel_rfl) (by kernel_rfl) (by kernel_rfl) (fun _ _ _ h => Only.not_panic h) (Or.inl ⟨by rfl, fun W hW => ?_⟩) (by assumption) ?_
                      rotate_left
                      · have hW2 := hW
                        obtain ⟨f0, f1, f2, f3, f4, f5, f6, f7, f8, f9, f10, f11, f12, f13, f14, f15, f16⟩ := HS.out W (B_trans g2 hW2)
                        obtain ⟨e0, e1, e2⟩ := HZ.out W (B_trans g2 hW2)
                        obtain ⟨e3, e4⟩ := HD.out W hW2
                        clear hW hW2
                        go_simp
                        try with_reducible rfl
                      try simp only [Act.put, List.setIfInBounds_toArray]
                      refine wpAnyH_done (by kernel_rfl) (Only.mk ?_) _
                      exact HE _ _ (B_trans g2 hHeld)
                    exact AllReadyH.nil
                  exact AllReadyH.nil
                exact AllReadyH.nil
              refine AllReadyH.cons rfl (fun K hK => ?_) ?_
              · go_simp
                have o9 := Lib.hid (show Ob (W7.drew.alloc (.cells #[.int .i64 0, .int .i64 0] 28)) W7.heap.size 28 #[.int .i64 0, .int .i64 0] from Ob.new _ _ _)
                have hpre := hHeld
                have hz9 := hHeld.size
                refine hK.out _ _ ?_ (fun hHeld => ?_)
                · exact B_alloc hHeld _
                clear hK K
                try simp only [Act.put, List.setIfInBounds_toArray, List.set_cons_zero, List.set_cons_succ]
                refine wpAnyH_ready (rs := [8]) (by kernel_rfl) (by simp) ?_
                refine AllReadyH.cons rfl (fun K hK => ?_) ?_
                · go_simp
                  refine (HKz.out _).mono ?_
                  rintro e w8 ⟨rfl, hb8⟩
                  try simp only []
                  replace o9 := Lib.hid (o9.out.below hb8)
                  refine hK.out _ _ ?_ (fun hHeld => ?_)
                  · exact B_trans hHeld hb8
                  clear hK K
                  try simp only [Act.put, List.setIfInBounds_toArray, List.set_cons_zero, List.set_cons_succ]
                  refine wpAnyH_ready (rs := [9]) (by kernel_rfl) (by simp) ?_
                  refine AllReadyH.cons rfl (fun K hK => ?_) ?_
                  · go_simp
                    refine (HCm.out _).mono ?_
                    rintro e w9 ⟨rfl, hb9⟩
                    try simp only []
                    replace o9 := Lib.hid (o9.out.below hb9)
                    refine hK.out _ _ ?_ (fun hHeld => ?_)
                    · exact B_trans hHeld hb9
                    clear hK K
                    try simp only [Act.put, List.setIfInBounds_toArray, List.set_cons_zero, List.set_cons_succ]
                    refine wpAnyH_take (i := 10) (v := ?_) rfl (by kernel_rfl) (by kernel_rfl) (by kernel_rfl) (fun _ _ _ h => Only.not_panic h) (Or.inl ⟨by rfl, fun W hW => ?_⟩) (by assumption) ?_
                    rotate_left
                    · have hW2 := hW
                      obtain ⟨f0, f1, f2, f3, f4, f5, f6, f7, f8, f9, f10, f11, f12, f13, f14, f15, f16⟩ := HS.out W (B_trans g2 hW2)
                      obtain ⟨e0, e1, e2⟩ := HZ.out W (B_trans g2 hW2)
                      obtain ⟨e3, e4⟩ := HD.out W hW2
                      clear hW hW2
                      go_simp
                      try with_reducible rfl
                    try simp only [Act.put, List.setIfInBounds_toArray]
                    refine wpAnyH_take (i := 11) (v := ?_) rfl (by kernel_rfl) (by kernel_rfl) (by kernel_rfl) (fun _ _ _ h => Only.not_panic h) (Or.inl ⟨by rfl, fun W hW => ?_⟩) (by assumption) ?_
                    rotate_left
                    · have hW2 := hW
                      obtain ⟨f0, f1, f2, f3, f4, f5, f6, f7, f8, f9, f10, f11, f12, f13, f14, f15, f16⟩ := HS.out W (B_trans g2 hW2)
                      obtain ⟨e0, e1, e2⟩ := HZ.out W (B_trans g2 hW2)
                      obtain ⟨e3, e4⟩ := HD.out W hW2
                      clear hW hW2
                      go_simp
                      try with_reducible rfl
                    try simp only [Act.put]
                    refine wpAnyH_take (i := 12) (v := ?_) rfl (by kernel_rfl) (by kernel_rfl) (by kernel_rfl) (fun _ _ _ h => Only.not_panic h) (Or.inl ⟨by rfl, fun W hW => ?_⟩) (by assumption) ?_
                    rotate_left
                    · have hW2 := hW
                      obtain ⟨f0, f1, f2, f3, f4, f5, f6, f7, f8, f9, f10, f11, f12, f13, f14, f15, f16⟩ := HS.out W (B_trans g2 hW2)
                      obtain ⟨e0, e1, e2⟩ := HZ.out W (B_trans g2 hW2)
                      obtain ⟨e3, e4⟩ := HD.out W hW2
                      clear hW hW2
                      go_simp
                      try with_reducible rfl
                    try simp only [Act.put]
                    refine wpAnyH_ready (rs := [14]) (by kernel_rfl) (by simp) ?_
                    refine AllReadyH.cons rfl (fun K hK => ?_) ?_
                    · have v0 := o9.out.cell 0
                      have v1 := o9.out.cell 1
                      have p0 := o9.out.frozen 0
                      have p1 := o9.out.frozen 1
                      simp only [List.getElem?_toArray, List.getElem?_cons_zero, List.getElem?_cons_succ] at v0 v1
                      go_simp
                      refine hK.out _ _ ?_ (fun hHeld => ?_)
                      · first | exact B_alloc hpre _ | exact (hHeld.setCell (by first | omega | (simp only; omega) | (simp; omega)) _).setCell (by first | omega | (simp only; omega) | (simp; omega)) _
                      clear hK K
                      try simp only [Act.put, List.setIfInBounds_toArray, List.set_cons_zero, List.set_cons_succ]
                      refine wpAnyH_take (i := 15) (v := ?_) rfl (by kernel_rfl) (by kernel_rfl) (by kernel_rfl) (fun _ _ _ h => Only.not_panic h) (Or.inl ⟨by rfl, fun W hW => ?_⟩) (by assumption) ?_
                      rotate_left
                      · have hW2 := hW
                        obtain ⟨f0, f1, f2, f3, f4, f5, f6, f7, f8, f9, f10, f11, f12, f13, f14, f15, f16⟩ := HS.out W (B_trans g2 hW2)
                        obtain ⟨e0, e1, e2⟩ := HZ.out W (B_trans g2 hW2)
                        obtain ⟨e3, e4⟩ := HD.out W hW2
                        clear hW hW2
                        go_simp
                        try with_reducible rfl
                      try simp only [Act.put, List.setIfInBounds_toArray]
                      refine wpAnyH_done (by kernel_rfl) (Only.mk ?_) _
                      exact HE _ _ (B_trans g2 hHeld)
                    exact AllReadyH.nil
                  exact AllReadyH.nil
                exact AllReadyH.nil
              exact AllReadyH.nil
            case stop2 =>
              rintro c pre W _ h
              exact h.elim
          exact AllReadyH.nil
        exact AllReadyH.nil
      exact AllReadyH.nil
    refine wpIn_region_held (S := fun W => Below Wb.heap.size Wb W) (by kernel_rfl) (by kernel_rfl) ((Below.refl _ Wb).drew) (fun hHeld => ?_)
    refine wpAnyH_take (i := 0) (v := ?_) rfl (by kernel_rfl) (by kernel_rfl) (by kernel_rfl) (fun _ _ _ h => Only.not_panic h) (Or.inl ⟨by rfl, fun W hW => ?_⟩) (by assumption) ?_
    rotate_left
    · have hW2 := hW
      obtain ⟨f0, f1, f2, f3, f4, f5, f6, f7, f8, f9, f10, f11, f12, f13, f14, f15, f16⟩ := HS.out W hW2
      clear hW hW2
      go_simp
      try with_reducible rfl
    try simp only [Act.put, List.setIfInBounds_toArray]
    refine wpAnyH_take (i := 1) (v := ?_) rfl (by kernel_rfl) (by kernel_rfl) (by kernel_rfl) (fun _ _ _ h => Only.not_panic h) (Or.inl ⟨by rfl, fun W hW => ?_⟩) (by assumption) ?_
    rotate_left
    · have hW2 := hW
      obtain ⟨f0, f1, f2, f3, f4, f5, f6, f7, f8, f9, f10, f11, f12, f13, f14, f15, f16⟩ := HS.out W hW2
      clear hW hW2
      go_simp
      try with_reducible rfl
    try simp only [Act.put]
    refine wpAnyH_take (i := 2) (v := ?_) rfl (by kernel_rfl) (by kernel_rfl) (by kernel_rfl) (fun _ _ _ h => Only.not_panic h) (Or.inl ⟨by rfl, fun W hW => ?_⟩) (by assumption) ?_
    rotate_left
    · have hW2 := hW
      obtain ⟨f0, f1, f2, f3, f4, f5, f6, f7, f8, f9, f10, f11, f12, f13, f14, f15, f16⟩ := HS.out W hW2
      clear hW hW2
      go_simp
      try with_reducible rfl
    try simp only [Act.put]
    refine wpAnyH_take (i := 3) (v := ?_) rfl (by kernel_rfl) (by kernel_rfl) (by kernel_rfl) (fun _ _ _ h => Only.not_panic h) (Or.inl ⟨by rfl, fun W hW => ?_⟩) (by assumption) ?_
    rotate_left
    · have hW2 := hW
      obtain ⟨f0, f1, f2, f3, f4, f5, f6, f7, f8, f9, f10, f11, f12, f13, f14, f15, f16⟩ := HS.out W hW2
      clear hW hW2
      go_simp
      try with_reducible rfl
    try simp only [Act.put]
    refine wpAnyH_take (i := 4) (v := ?_) rfl (by kernel_rfl) (by kernel_rfl) (by kernel_rfl) (fun _ _ _ h => Only.not_panic h) (Or.inl ⟨by rfl, fun W hW => ?_⟩) (by assumption) ?_
    rotate_left
    · have hW2 := hW
      obtain ⟨f0, f1, f2, f3, f4, f5, f6, f7, f8, f9, f10, f11, f12, f13, f14, f15, f16⟩ := HS.out W hW2
      clear hW hW2
      go_simp
      try with_reducible rfl
    try simp only [Act.put]
    refine wpAnyH_take (i := 5) (v := ?_) rfl (by kernel_rfl) (by kernel_rfl) (by kernel_rfl) (fun _ _ _ h => Only.not_panic h) (Or.inl ⟨by rfl, fun W hW => ?_⟩) (by assumption) ?_
    rotate_left
    · have hW2 := hW
      obtain ⟨f0, f1, f2, f3, f4, f5, f6, f7, f8, f9, f10, f11, f12, f13, f14, f15, f16⟩ := HS.out W hW2
      clear hW hW2
      go_simp
      try with_reducible rfl
    try simp only [Act.put]
    refine wpAnyH_take (i := 6) (v := ?_) rfl (by kernel_rfl) (by kernel_rfl) (by kernel_rfl) (fun _ _ _ h => Only.not_panic h) (Or.inl ⟨by rfl, fun W hW => ?_⟩) (by assumption) ?_
    rotate_left
    · have hW2 := hW
      obtain ⟨f0, f1, f2, f3, f4, f5, f6, f7, f8, f9, f10, f11, f12, f13, f14, f15, f16⟩ := HS.out W hW2
      clear hW hW2
      go_simp
      try with_reducible rfl
    try simp only [Act.put]
    refine wpAnyH_ready (rs := [7, 8]) (by kernel_rfl) (by simp) ?_
    refine AllReadyH.cons rfl (fun K hK => ?_) ?_
    · go_simp
      refine (HKp.out _).mono ?_
      rintro e w7 ⟨rfl, hb7⟩
      try simp only []
      refine hK.out _ _ ?_ (fun hHeld => ?_)
      · exact B_trans hHeld hb7
      clear hK K
      try simp only [Act.put, List.setIfInBounds_toArray, List.set_cons_zero, List.set_cons_succ]
      refine wpAnyH_ready (rs := [8]) (by kernel_rfl) (by simp) ?_
      refine AllReadyH.cons rfl (fun K hK => ?_) ?_
      · go_simp
        have hpre := hHeld
        have o9 := Lib.hid (Ob.new (w7) #[.int .i64 0, .int .i64 0] 28)
        have hb9 := hHeld.size
        refine hK.out _ _ ?_ (fun hHeld => ?_)
        · exact B_alloc hHeld _
        clear hK K
        try simp only [Act.put, List.setIfInBounds_toArray, List.set_cons_zero, List.set_cons_succ]
        refine wpAnyH_ready (rs := [9]) (by kernel_rfl) (by simp) ?_
        refine AllReadyH.cons rfl (fun K hK => ?_) ?_
        · have v0 := o9.out.cell 0
          have v1 := o9.out.cell 1
          have g0 := o9.out.frozen 0
          have g1 := o9.out.frozen 1
          simp only [List.getElem?_toArray, List.getElem?_cons_zero, List.getElem?_cons_succ] at v0 v1
          go_simp
          refine hK.out _ _ ?_ (fun hHeld => ?_)
          · first | exact B_alloc hpre _ | exact (hHeld.setCell (by first | omega | (simp only; omega) | (simp; omega)) _).setCell (by first | omega | (simp only; omega) | (simp; omega)) _
          clear hK K
          try simp only [Act.put, List.setIfInBounds_toArray, List.set_cons_zero, List.set_cons_succ]
          refine wpAnyH_done (by kernel_rfl) (Only.mk ?_) _
          first | exact HC _ _ (by omega) (Ob.new _ _ _) hHeld | exact HC _ _ (Nat.le_refl _) ((o9.out.set 0 _).set 1 _) hHeld
        exact AllReadyH.nil
      exact AllReadyH.nil
    refine AllReadyH.cons rfl (fun K hK => ?_) ?_
    · go_simp
      have o9 := Lib.hid (show Ob (Wb.drew.alloc (.cells #[.int .i64 0, .int .i64 0] 28)) Wb.heap.size 28 #[.int .i64 0, .int .i64 0] from Ob.new _ _ _)
      have hpre := hHeld
      refine hK.out _ _ ?_ (fun hHeld => ?_)
      · exact B_alloc hHeld _
      clear hK K
      try simp only [Act.put, List.setIfInBounds_toArray, List.set_cons_zero, List.set_cons_succ]
      refine wpAnyH_ready (rs := [7]) (by kernel_rfl) (by simp) ?_
      refine AllReadyH.cons rfl (fun K hK => ?_) ?_
      · go_simp
        refine (HKp.out _).mono ?_
        rintro e w7 ⟨rfl, hb7⟩
        try simp only []
        replace o9 := Lib.hid (o9.out.below hb7)
        refine hK.out _ _ ?_ (fun hHeld => ?_)
        · exact B_trans hHeld hb7
        clear hK K
        try simp only [Act.put, List.setIfInBounds_toArray, List.set_cons_zero, List.set_cons_succ]
        refine wpAnyH_ready (rs := [9]) (by kernel_rfl) (by simp) ?_
        refine AllReadyH.cons rfl (fun K hK => ?_) ?_
        · have v0 := o9.out.cell 0
          have v1 := o9.out.cell 1
          have g0 := o9.out.frozen 0
          have g1 := o9.out.frozen 1
          simp only [List.getElem?_toArray, List.getElem?_cons_zero, List.getElem?_cons_succ] at v0 v1
          go_simp
          refine hK.out _ _ ?_ (fun hHeld => ?_)
          · first | exact B_alloc hpre _ | exact (hHeld.setCell (by first | omega | (simp only; omega) | (simp; omega)) _).setCell (by first | omega | (simp only; omega) | (simp; omega)) _
          clear hK K
          try simp only [Act.put, List.setIfInBounds_toArray, List.set_cons_zero, List.set_cons_succ]
          refine wpAnyH_done (by kernel_rfl) (Only.mk ?_) _
          first | exact HC _ _ (by omega) (Ob.new _ _ _) hHeld | exact HC _ _ (Nat.le_refl _) ((o9.out.set 0 _).set 1 _) hHeld
        exact AllReadyH.nil
      exact AllReadyH.nil
    exact AllReadyH.nil
  case done =>
    rintro D xs W hD rfl ⟨h1, h2, h3, h4, h5, h6⟩ hK
    have hres := Lib.hid (byS_none hkn h6)
    have c0 := h3.cell 0
    have f0 := h3.frozen 0
    simp only [List.getElem?_toArray, List.getElem?_cons_zero] at c0
    have hs4 := h3.set 0 (.int .i64 (-1))
    have e6 := h4.setCell (p := ⟨w.heap.size + 1 + 1, 0, none⟩) (by simp only; omega) (.int .i64 (-1))
    have eK : (W.setCell ⟨w.heap.size + 1 + 1, 0, none⟩ (.int .i64 (-1))).heap[D]? = some (.deferred (some [])) := (Below.heap_setCell _ _ _ _ (by simp only; omega)).trans hK
    have hq := grownBy_putObj' (W.setCell ⟨w.heap.size + 1 + 1, 0, none⟩ (.int .i64 (-1))) D (.deferred none)
    have E6 := Lib.hid (below_own e6 (Nat.le_refl _) hq (fun r e => by cases e; omega))
    have c1 := (hs4.grown hq (by intro e; cases e; omega)).cell 0
    simp only [List.setIfInBounds_toArray, List.set_cons_zero, List.getElem?_toArray, List.getElem?_cons_zero] at c1
    clear h1 h2 h3 h4 h6 hs4 e6 hq
    gi_wp2
    refine ⟨by simp, .inl ⟨_, _, rfl, run_takeDeferred eK, ?_⟩⟩
    exact ⟨.int .i64 (-1), by simp [results, Try.results112, go_sem, c1], ⟨by rw [hres.out], E6.out⟩⟩
  case stop =>
    rintro D c pre W hD hpre ⟨rfl, pre', x, rfl, h2, h3, h4, h5⟩ hK
    have hres := Lib.hid (byS_at hkn hpre h2 h3)
    have hq := grownBy_putObj' W D (.deferred none)
    have E6 := Lib.hid (below_own h5 (Nat.le_refl _) hq (fun r e => by cases e; omega))
    have c1 := (h4.grown hq (by intro e; cases e; omega)).cell 0
    simp only [List.getElem?_toArray, List.getElem?_cons_zero] at c1
    clear h2 h3 h4 h5 hq
    gi_wp2
    refine ⟨by simp, .inl ⟨_, _, rfl, run_takeDeferred hK, ?_⟩⟩
    exact ⟨.int .i64 (L.getD (kn - 1 - x.val) 0 : Nat), by simp [results, Try.results112, go_sem, c1], ⟨by rw [hres.out], E6.out⟩⟩
end Go.Proofs.Ytanjkhclhcnnaaa

/- known, from what reached returns. -/
import Derived.Test.YtanjkhclhcnnaaaYL
import Derived.Test.YtanjkhclhcnnaaaYA
import Derived.Test.YtanjkhclhcnnaaaYK
import Derived.RangeFuncWrites
import Derived.TacticsIn
import Derived.RegionIn
namespace Go.Proofs.Ytanjkhclhcnnaaa
open Go.RowKit Go.Shelf
attribute [local go_sem] Oper.semAt_some

theorem row_base {W : World} {base base' : Nat} {e : TypeId} {s n : Nat} {v : Value} {xs : List Value} (h : W.ownsRow base e s v n xs) (hb : base' ≤ base) : W.ownsRow base' e s v n xs :=
  ⟨h.1, h.2.imp id fun ⟨g, cap, cur, e, h1, r⟩ => ⟨g, cap, cur, e, Nat.le_trans hb h1, r⟩⟩
def backL (N : Nat) (pre : List (Fin N)) : List Nat := pre.map fun x => N - 1 - x.val

/-- What holds while one morning's span is put, step by step. -/
def KI (Wd : World) (g m : Nat) (u v : Int) (k : Nat) (outs : Nat → Value) (W : World) : Prop :=
  (1 ≤ k → outs 0 = .agg #[.int .i64 u, .int .i64 v]) ∧ (k ≤ 1 → Below Wd.heap.size Wd W) ∧ (k = 2 → ∃ W1, Below Wd.heap.size Wd W1 ∧ W = (W1.setCell ⟨g, m * 2, none⟩ (.int .i64 u)).setCell ⟨g, m * 2 + 1, none⟩ (.int .i64 v))
def kneed : Nat → Nat := fun i => [0, 0, 0, 0, 0, 0, 0, 0, 0, 0, 0, 0, 0, 0, 0, 0, 0, 0, 0, 0, 1].getD i 0
def ktill : Nat → Nat := fun i => [1, 1, 1, 1, 1, 1, 1, 1, 1, 1, 1, 1, 1, 1, 1, 1, 1, 1, 0, 1, 1].getD i 0
def keff : Nat → Bool := fun i => [false, false, false, false, false, false, false, false, false, false, false, false, false, false, false, false, false, false, true, false, true].getD i false
def KV (T1 : Nat) (rc : Array Value) (SL sv : Value) (g m sb so : Nat) (s n x : T2) (outs : Nat → Value) : Nat → Value
  | 15 => SL
  | 16 => .int .i64 m
  | 17 => .pointer (some ⟨T1, 0, none⟩)
  | 18 => .agg rc
  | 19 => .pointer (some ⟨T1, 9, none⟩)
  | 20 => sv
  | 21 => .int .i64 m
  | 22 => .pointer (some ⟨sb, so + m * 2, none⟩)
  | 23 => .agg #[.int .i64 s.1, .int .i64 s.2]
  | 24 => SL
  | 25 => .int .i64 m
  | 26 => .pointer (some ⟨g, m * 2, none⟩)
  | 27 => .agg #[.int .i64 n.1, .int .i64 n.2]
  | 28 => SL
  | 29 => .int .i64 m
  | 30 => .int .i64 ((m : Int) + 1)
  | 31 => .pointer (some ⟨g, (m + 1) * 2, none⟩)
  | 32 => .agg #[.int .i64 x.1, .int .i64 x.2]
  | 33 => outs 0
  | 34 => .pointer (some ⟨g, m * 2, none⟩)
  | _ => undef
theorem keeps_two {B g j j2 : Nat} {W W1 : World} (u v : Value) (hb : Below W.heap.size W W1) (hg : g < B) : KeepsFrom B W ((W1.setCell ⟨g, j, none⟩ u).setCell ⟨g, j2, none⟩ v) :=
  ⟨by simpa [World.setCell] using hb.size, fun k o hk h _ => by
    have hlt := (Array.getElem?_eq_some_iff.1 h).1
    rw [Below.heap_setCell _ _ _ _ (by show k ≠ g; omega), Below.heap_setCell _ _ _ _ (by show k ≠ g; omega), hb.block k hlt]
    exact h⟩
theorem kb2_two {F1 F2 g j j2 : Nat} {W W1 : World} (u v : Value) (hb : Below W.heap.size W W1) (h1 : F1 < W.heap.size) (h2 : F2 < W.heap.size) (n1 : F1 ≠ g) (n2 : F2 ≠ g) : KB2 F1 F2 W ((W1.setCell ⟨g, j, none⟩ u).setCell ⟨g, j2, none⟩ v) :=
  ⟨by rw [Below.heap_setCell _ _ _ _ n1, Below.heap_setCell _ _ _ _ n1, hb.block _ h1], by rw [Below.heap_setCell _ _ _ _ n2, Below.heap_setCell _ _ _ _ n2, hb.block _ h2]⟩

set_option maxRecDepth 100000 in
set_option maxHeartbeats 8000000 in
theorem known_any (t : TkA) (hs ws : List T2) (sa : Option Addr) (sc N k : Nat) (ss L0 : List T2) (XS : List Value) (w : World) (hO : RuOK t.r hs ws) (hN : N ≤ 1000) (hsl : Sl2 w sa N ss) (hst : ∀ s ∈ ss, StrOK s) (hL : L0.length = N + 1) (hok : ∀ p ∈ L0, OkSp p)
    (HR : ∀ W, Below w.heap.size w W → Calls Try.prog 88 #[.agg (t.xc (.slice sa N sc))] W fun e W' => ∃ g cap C sv, e = .returned (.tuple #[.slice (some ⟨g, 0, none⟩) (N + 1) cap, sv]) ∧ W.heap.size ≤ g ∧ Ob W' g 28 C ∧ SpC C L0 ∧ W'.ownsRow W.heap.size 78 2 sv k XS ∧ Below W.heap.size W W') :
    Calls Try.prog 71 #[.agg (t.xc (.slice sa N sc))] w fun e W' => ∃ g cap C sv, e = .returned (.tuple #[.slice (some ⟨g, 0, none⟩) (N + 1) cap, sv]) ∧ w.heap.size ≤ g ∧ Ob W' g 28 C ∧ SpC C (knownFold t.r ss L0 (backL N (List.finRange N))) ∧ W'.ownsRow w.heap.size 78 2 sv k XS ∧ Below w.heap.size w W' := by
  replace HR := Lib.hid HR
  obtain ⟨W2, hW2⟩ : ∃ W2, (w.alloc (.cells (t.xc (.slice sa N sc)) 104)).alloc (.cells #[.slice none 0 0] 49) = W2 := ⟨_, rfl⟩
  have hb2 : Below w.heap.size w W2 := by rw [← hW2]; exact B_alloc (B_alloc (Below.refl _ _) _) _
  have z2 : W2.heap.size = w.heap.size + 1 + 1 := by rw [← hW2]; simp
  have hT2 : Ob W2 w.heap.size 104 (t.xc (.slice sa N sc)) := by rw [← hW2]; exact (Ob.new w _ _).alloc _
  have hR2 : Ob W2 (w.heap.size + 1) 49 #[.slice none 0 0] := by rw [← hW2]; simpa using Ob.new (w.alloc (.cells (t.xc (.slice sa N sc)) 104)) #[.slice none 0 0] 49
  have kt : ∀ j, W2.cell? ⟨w.heap.size, j, none⟩ = (t.xc (.slice sa N sc))[j]? := fun j => hT2.cell j
  have k0 := kt 0
  have k1 := kt 1
  have k2 := kt 2
  have k3 := kt 3
  have k4 := kt 4
  have k5 := kt 5
  have k6 := kt 6
  have k7 := kt 7
  have k8 := kt 8
  have k9 := kt 9
  have k10 := kt 10
  have k11 := kt 11
  have k12 := kt 12
  simp only [List.getElem?_toArray, List.getElem?_cons_zero, List.getElem?_cons_succ] at k0 k1 k2 k3 k4 k5 k6 k7 k8 k9 k10 k11 k12
  clear kt
  replace hb2 := Lib.hid hb2
  replace hT2 := Lib.hid hT2
  replace hR2 := Lib.hid hR2
  replace hW2 := Lib.hid hW2
  refine (callsIn_wide (n := 8)).1 ?_
  refine callsIn_of_wp_marks Try.func71 rfl trivial ?_ rfl
  simp only [Try.ntmps71, List.size_toArray, List.length_cons, List.length_nil, Nat.reduceAdd, Nat.reduceSub, Array.replicate_succ, Array.replicate_zero, List.push_toArray, List.append_toArray, List.nil_append, List.cons_append]
  gi_wp2_with fail
  rw [hW2.out]
  refine ⟨trivial, CallsIn.mono (callsIn_wide.2 (HR.out W2 hb2.out)) ?_⟩
  rintro e W3 ⟨g, cap, C, sv, rfl, hg, hC, hSp, hrow, hb3⟩
  have o1 := hT2.out.below hb3
  have o2 := hR2.out.below hb3
  have hgb : Below w.heap.size w W3 := B_trans hb2.out hb3
  obtain ⟨W4, hW4⟩ : ∃ W4, W3.setCell ⟨w.heap.size + 1, 0, none⟩ (.slice (some ⟨g, 0, none⟩) (N + 1) cap) = W4 := ⟨_, rfl⟩
  have p1 : Ob W4 w.heap.size 104 (t.xc (.slice sa N sc)) := by rw [← hW4]; exact o1.other (by simp) _
  have p2 : Ob W4 (w.heap.size + 1) 49 #[.slice (some ⟨g, 0, none⟩) (N + 1) cap] := by rw [← hW4]; simpa using o2.set 0 (.slice (some ⟨g, 0, none⟩) (N + 1) cap)
  have p3 : Ob W4 g 28 C := by rw [← hW4]; exact hC.other (by simp; omega) _
  have p4 : W4.ownsRow w.heap.size 78 2 sv k XS := by
    rw [← hW4]
    refine row_set (row_base hrow (by omega)) ?_ _
    exact o2.row hrow (by decide)
  have p5 : Below w.heap.size w W4 := by rw [← hW4]; exact hgb.setCell (by simp) _
  have c2 := o2.cell 0
  have f2 := o2.frozen 0
  have q9 := o1.cell 9
  simp only [List.getElem?_toArray, List.getElem?_cons_zero, List.getElem?_cons_succ] at c2 q9
  clear k0 k1 k2 k3 k4 k5 k6 k7 k8 k9 k10 k11 k12 hrow hC o1 o2 hgb
  replace hW4 := Lib.hid hW4
  have P := Lib.hid (show Ob W4 w.heap.size 104 (t.xc (.slice sa N sc)) ∧ Ob W4 (w.heap.size + 1) 49 #[.slice (some ⟨g, 0, none⟩) (N + 1) cap] ∧ Ob W4 g 28 C ∧ W4.ownsRow w.heap.size 78 2 sv k XS ∧ Below w.heap.size w W4 from ⟨p1, p2, p3, p4, p5⟩)
  clear p1 p2 p3 p4 p5
  gi_wp2_with fail
  rw [hW4.out]
  refine ⟨trivial, (backward_in Fence.wide 7 trivial rfl 0 N W4).mono ?_⟩
  rintro e W5 ⟨rfl, hW5⟩
  have hb5 : Below W4.heap.size W4 W5 := by rw [hW5]; exact B_alloc (B_alloc (Below.refl _ _) _) _
  have z5 : W5.heap.size = W4.heap.size + 1 + 1 := by rw [hW5]; simp
  have d0 : W5.cell? ⟨W4.heap.size, 0, none⟩ = some (.int .i64 0) := by rw [hW5, alloc_old _ _ _ _ (by simp)]; simp [go_sem]
  have d1 : W5.cell? ⟨W4.heap.size + 1, 0, none⟩ = some (.int .i64 (N : Int)) := by rw [hW5]; simp
  obtain ⟨p1, p2, p3, p4, p5⟩ := P.out
  have hgl := p3.lt
  have I0 : Hid (Ob W5 w.heap.size 104 (t.xc (.slice sa N sc)) ∧ Ob W5 (w.heap.size + 1) 49 #[.slice (some ⟨g, 0, none⟩) (N + 1) cap] ∧ Ob W5 g 28 C ∧ W5.ownsRow w.heap.size 78 2 sv k XS ∧ Below w.heap.size w W5) := ⟨p1.below hb5, p2.below hb5, p3.below hb5, row_below p4 hb5, B_trans p5 hb5⟩
  have hz4 := p2.lt
  clear p1 p2 p3 p4 p5 hW5 hW4 P c2 f2 q9 hb3 hb5
  generalize hF1 : W4.heap.size = F1 at *
  clear hF1
  gi_wp2_with fail
  refine wpIn_rangeFunc_ownG rfl (by omega) (gf := 113) (lb := #[.pointer (some ⟨F1 + 1, 0, none⟩), .pointer (some ⟨F1, 0, none⟩)]) rfl trivial (enters_of Try.func113 (by kernel_rfl) rfl) (backward_stops Fence.wide 7 trivial rfl (by omega) F1 (F1 + 1) N 0 N (by omega) (by omega) (by omega) (by omega) W5 (by omega) (by omega) d0 d1) KB2.trans (fun W l o o' h1 _ _ _ => KB2.put (n := W5.heap.size) (by omega) (by omega) W l o' h1) (Below.refl _ _) (fun _ => rfl)
    (fun pre W => ∃ C', Ob W g 28 C' ∧ SpC C' (knownFold t.r ss L0 (backL N pre)) ∧ Ob W w.heap.size 104 (t.xc (.slice sa N sc)) ∧ Ob W (w.heap.size + 1) 49 #[.slice (some ⟨g, 0, none⟩) (N + 1) cap] ∧ W.ownsRow w.heap.size 78 2 sv k XS ∧ Below w.heap.size w W ∧ F1 + 1 < W.heap.size)
    (fun _ _ _ => False)
    ?own (fun _ _ _ _ _ hs _ _ => hs) ⟨C, I0.out.2.2.1, by simpa [backL, knownFold] using hSp, I0.out.1, I0.out.2.1, I0.out.2.2.2.1, I0.out.2.2.2.2, by omega⟩ ?a1 ?assign ?body ?done ?stop
  case own =>
    rintro pre W W' row ⟨C', h1, h2, h3, h4, h5, h6, h7⟩ hgr hr
    exact ⟨C', h1.own hgr (fun r e => (hr r e).2), h2, h3.own hgr (fun r e => (hr r e).2), h4.own hgr (fun r e => (hr r e).2), row_own h5 hgr (fun r e => (hr r e).2), below_own h6 (Nat.le_refl _) hgr (fun r e => by have := (hr r e).1; omega), Nat.lt_of_lt_of_le h7 hgr.size⟩
  case assign =>
    intro l x W K hK
    gi_wp2
    exact hK
  case body =>
    rintro l pre x W ⟨C', h1, h2, h3, h4, h5, h6, h7⟩ hlen
    obtain ⟨m, hm, hmx⟩ : ∃ m : Nat, ((N : Int) - 1 - x.val = m) ∧ m = N - 1 - x.val := ⟨N - 1 - x.val, by have := x.isLt; omega, rfl⟩
    have hmN : m < N := by have := x.isLt; omega
    have hstep : Hid (knownFold t.r ss L0 (backL N (pre ++ [x])) = knownStep t.r ss (knownFold t.r ss L0 (backL N pre)) m) := by
      rw [Hid, hmx]; unfold backL; rw [List.map_append, List.map_cons, List.map_nil, known_snoc]
    have hLl : (knownFold t.r ss L0 (backL N pre)).length = N + 1 := by rw [known_len, hL]
    have hLo := known_ok hO hsl.len hst (backL N pre) L0 hL hok (fun q hq => by
      unfold backL at hq
      rw [List.mem_map] at hq
      obtain ⟨y, -, rfl⟩ := hq
      have := y.isLt
      omega)
    generalize knownFold t.r ss L0 (backL N pre) = LL at h2 hstep hLl hLo
    obtain ⟨sb, so, hsa, hsb, hsc⟩ := (hsl.below h6).at_ (by omega)
    obtain ⟨s0, s1⟩ := hsc m hmN
    obtain ⟨n0, n1⟩ := h2.c m (by omega)
    obtain ⟨x0, x1⟩ := h2.c (m + 1) (by omega)
    have es := hst _ (getD_lt (L := ss) (i := m) (by rw [hsl.len]; exact hmN))
    have en := hLo _ (getD_lt (L := LL) (i := m) (by omega))
    unfold knownStep at hstep
    generalize ss.getD m (0, 0) = s at s0 s1 es hstep
    generalize LL.getD m (0, 0) = nn at n0 n1 en hstep
    generalize LL.getD (m + 1) (0, 0) = xx at x0 x1 hstep
    have HB := Lib.hid (show ∀ W', Calls Try.prog 90 #[.agg t.r.cs, .agg #[.int .i64 s.1, .int .i64 s.2], .agg #[.int .i64 nn.1, .int .i64 nn.2], .agg #[.int .i64 xx.1, .int .i64 xx.2]] W' fun e w' => e = .returned (.agg #[.int .i64 (beforeS t.r s nn xx).1, .int .i64 (beforeS t.r s nn xx).2]) ∧ Below W'.heap.size W' w' from fun W' => before_any t.r hs ws s.1 s.2 nn.1 nn.2 xx.1 xx.2 W' hO en.lo en.hi en.le ⟨es.lo, by have := es.le; have := es.hi; omega⟩ ⟨by have := es.le; have := es.lo; omega, es.hi⟩)
    have hset := Lib.hid (h2.set (m := m) (by omega) (beforeS t.r s nn xx))
    generalize hu : (beforeS t.r s nn xx).1 = u at HB hset
    generalize hv : (beforeS t.r s nn xx).2 = v at HB hset
    have HK := Lib.hid (fun (W' : World) (hh : Below W.heap.size W W') => (show W'.cell? ⟨w.heap.size + 1, 0, none⟩ = some (.slice (some ⟨g, 0, none⟩) (N + 1) cap) ∧ W'.cell? ⟨w.heap.size, 0, none⟩ = some (.slice t.r.ha t.r.hn t.r.hc) ∧ W'.cell? ⟨w.heap.size, 1, none⟩ = some (.slice t.r.wa t.r.wn t.r.wc) ∧ W'.cell? ⟨w.heap.size, 2, none⟩ = some (.int .i64 t.r.own) ∧ W'.cell? ⟨w.heap.size, 3, none⟩ = some (.int .i64 t.r.feed) ∧ W'.cell? ⟨w.heap.size, 4, none⟩ = some (.int .i64 t.r.g0) ∧ W'.cell? ⟨w.heap.size, 5, none⟩ = some (.int .i64 t.r.g1) ∧ W'.cell? ⟨w.heap.size, 6, none⟩ = some (.int .i64 t.r.g2) ∧ W'.cell? ⟨w.heap.size, 7, none⟩ = some (.int .i64 t.r.lost) ∧ W'.cell? ⟨w.heap.size, 9, none⟩ = some (.slice (some ⟨sb, so, none⟩) N sc) ∧ W'.cell? ⟨sb, so + m * 2, none⟩ = some (.int .i64 s.1) ∧ W'.cell? ⟨sb, so + m * 2 + 1, none⟩ = some (.int .i64 s.2) ∧ W'.cell? ⟨g, m * 2, none⟩ = some (.int .i64 nn.1) ∧ W'.cell? ⟨g, m * 2 + 1, none⟩ = some (.int .i64 nn.2) ∧ W'.cell? ⟨g, (m + 1) * 2, none⟩ = some (.int .i64 xx.1) ∧ W'.cell? ⟨g, (m + 1) * 2 + 1, none⟩ = some (.int .i64 xx.2) from ⟨(hh.cell (p := ⟨w.heap.size + 1, _, none⟩) h4.lt).trans (h4.cell 0), (hh.cell (p := ⟨w.heap.size, _, none⟩) h3.lt).trans (h3.cell 0), (hh.cell (p := ⟨w.heap.size, _, none⟩) h3.lt).trans (h3.cell 1), (hh.cell (p := ⟨w.heap.size, _, none⟩) h3.lt).trans (h3.cell 2), (hh.cell (p := ⟨w.heap.size, _, none⟩) h3.lt).trans (h3.cell 3), (hh.cell (p := ⟨w.heap.size, _, none⟩) h3.lt).trans (h3.cell 4), (hh.cell (p := ⟨w.heap.size, _, none⟩) h3.lt).trans (h3.cell 5), (hh.cell (p := ⟨w.heap.size, _, none⟩) h3.lt).trans (h3.cell 6), (hh.cell (p := ⟨w.heap.size, _, none⟩) h3.lt).trans (h3.cell 7), (hh.cell (p := ⟨w.heap.size, _, none⟩) h3.lt).trans ((h3.cell 9).trans (by rw [hsa]; rfl)), (hh.cell (p := ⟨sb, _, none⟩) hsb).trans s0, (hh.cell (p := ⟨sb, _, none⟩) hsb).trans s1, (hh.cell (p := ⟨g, _, none⟩) h1.lt).trans ((h1.cell _).trans n0), (hh.cell (p := ⟨g, _, none⟩) h1.lt).trans ((h1.cell _).trans n1), (hh.cell (p := ⟨g, _, none⟩) h1.lt).trans ((h1.cell _).trans x0), (hh.cell (p := ⟨g, _, none⟩) h1.lt).trans ((h1.cell _).trans x1)⟩))
    have HF := Lib.hid (fun (W' : World) (hh : Below W.heap.size W W') (q : Nat) => (hh.frozen (p := ⟨g, q, none⟩) h1.lt).trans (h1.frozen q))
    have a1 : (0 : Int) ≤ m := by omega
    have a2 : (m : Int) < N := by omega
    have a3 : (m : Int) < (N : Int) + 1 := by omega
    have a4 : (m : Int) + 1 < (N : Int) + 1 := by omega
    have a5 : (0 : Int) ≤ (m : Int) + 1 := by omega
    have a6 : ((m : Int) + 1).toNat = m + 1 := by omega
    have u1 : IntKind.i64.wrap ((m : Int) + 1) = (m : Int) + 1 := IntWalk.i64_in _ (by omega)
    have hsum := Lib.hid (show Ob W g 28 C' ∧ Ob W w.heap.size 104 (t.xc (.slice sa N sc)) ∧ Ob W (w.heap.size + 1) 49 #[.slice (some ⟨g, 0, none⟩) (N + 1) cap] ∧ W.ownsRow w.heap.size 78 2 sv k XS ∧ Below w.heap.size w W from ⟨h1, h3, h4, h5, h6⟩)
    have hmN' := Lib.hid hmN
    have hgm : g ≠ w.heap.size ∧ g ≠ w.heap.size + 1 := by omega
    have hrow := h1.row h5 (by decide)
    replace hu := Lib.hid hu
    replace hv := Lib.hid hv
    have hwg : w.heap.size ≤ g := by omega
    clear h1 h3 h4 h5 h6 s0 s1 n0 n1 x0 x1 hsc hsb es en h2 hLo hmx
    gi_wp2_with fail
    rw [hm]
    clear hm
    rw [hsa]
    refine wpIn_region_steps2 (I := KI W g m u v) (V := KV w.heap.size t.r.cs (.slice (some ⟨g, 0, none⟩) (N + 1) cap) (.slice (some ⟨sb, so, none⟩) N sc) g m sb so s nn xx) (eff := keff) (need := kneed) (till := ktill) 2 (by kernel_rfl) (by decide) (by kernel_rfl) rfl (by kernel_rfl) (by kernel_rfl) (by kernel_rfl) (by kernel_rfl) (by kernel_rfl) (by kernel_rfl) ⟨fun h => by omega, fun _ => (Below.refl _ W).drew, fun h => by omega⟩ ?steps ?hend
    case hend =>
      rintro outs w' ⟨-, -, hI⟩
      obtain ⟨W1, hb1, rfl⟩ := hI rfl
      obtain ⟨o1, o3, o4, o5, o6⟩ := hsum.out
      have q1 := o1.below hb1
      refine ⟨keeps_two _ _ hb1 (by omega), kb2_two _ _ hb1 (by omega) (by omega) (by omega) (by omega), _, (q1.set _ _).set _ _, ?_, ((o3.below hb1).other (by simp only; omega) _).other (by simp only; omega) _, ((o4.below hb1).other (by simp only; omega) _).other (by simp only; omega) _, ?_, ((B_trans o6 hb1).setCell hwg _).setCell hwg _, ?_⟩
      · rw [hstep.out]
        have := hset.out
        exact this
      · exact row_set (row_set (row_below o5 hb1) hrow _) hrow _
      · have := hb1.size
        simp only [World.setCell, Array.size_modify]
        omega
    case steps =>
      refine ⟨⟨rfl, fun t ht k' outs u _ => by cases ht; rfl, fun k' outs W' ρ hk1 hk2 hI hc hg h_fn hr ho => ?_⟩, ?_⟩
      · have o2 := ho 2 (by kernel_rfl)
        have hk2' : k' ≤ 1 := hk2
        obtain ⟨f0, f1, f2, f3, f4, f5, f6, f7, f8, f9, f10, f11, f12, f13, f14, f15⟩ := HK.out W' (hI.2.1 (by omega))
        clear hI
        refine step_pure rfl (v := (.slice (some ⟨g, 0, none⟩) (N + 1) cap)) (fun t ht => by cases ht; rfl) ?_
        go_simp
      refine ⟨⟨rfl, fun t ht k' outs u _ => by cases ht; rfl, fun k' outs W' ρ hk1 hk2 hI hc hg h_fn hr ho => ?_⟩, ?_⟩
      · have o4 := ho 4 (by kernel_rfl)
        clear hI
        refine step_pure rfl (v := .int .i64 m) (fun t ht => by cases ht; rfl) ?_
        go_simp
      refine ⟨⟨rfl, fun t ht k' outs u _ => by cases ht; rfl, fun k' outs W' ρ hk1 hk2 hI hc hg h_fn hr ho => ?_⟩, ?_⟩
      · have o1 := ho 1 (by kernel_rfl)
        clear hI
        refine step_pure rfl (v := .pointer (some ⟨w.heap.size, 0, none⟩)) (fun t ht => by cases ht; rfl) ?_
        go_simp
      refine ⟨⟨rfl, fun t ht k' outs u _ => by cases ht; rfl, fun k' outs W' ρ hk1 hk2 hI hc hg h_fn hr ho => ?_⟩, ?_⟩
      · have r17 : ρ (.tmp 17) = .pointer (some ⟨w.heap.size, 0, none⟩) := hr 17 (by kernel_rfl)
        have hk2' : k' ≤ 1 := hk2
        obtain ⟨f0, f1, f2, f3, f4, f5, f6, f7, f8, f9, f10, f11, f12, f13, f14, f15⟩ := HK.out W' (hI.2.1 (by omega))
        clear hI
        refine step_pure rfl (v := .agg t.r.cs) (fun t ht => by cases ht; rfl) ?_
        go_simp
      refine ⟨⟨rfl, fun t ht k' outs u _ => by cases ht; rfl, fun k' outs W' ρ hk1 hk2 hI hc hg h_fn hr ho => ?_⟩, ?_⟩
      · have o1 := ho 1 (by kernel_rfl)
        clear hI
        refine step_pure rfl (v := .pointer (some ⟨w.heap.size, 9, none⟩)) (fun t ht => by cases ht; rfl) ?_
        go_simp
      refine ⟨⟨rfl, fun t ht k' outs u _ => by cases ht; rfl, fun k' outs W' ρ hk1 hk2 hI hc hg h_fn hr ho => ?_⟩, ?_⟩
      · have r19 : ρ (.tmp 19) = .pointer (some ⟨w.heap.size, 9, none⟩) := hr 19 (by kernel_rfl)
        have hk2' : k' ≤ 1 := hk2
        obtain ⟨f0, f1, f2, f3, f4, f5, f6, f7, f8, f9, f10, f11, f12, f13, f14, f15⟩ := HK.out W' (hI.2.1 (by omega))
        clear hI
        refine step_pure rfl (v := .slice (some ⟨sb, so, none⟩) N sc) (fun t ht => by cases ht; rfl) ?_
        go_simp
      refine ⟨⟨rfl, fun t ht k' outs u _ => by cases ht; rfl, fun k' outs W' ρ hk1 hk2 hI hc hg h_fn hr ho => ?_⟩, ?_⟩
      · have o4 := ho 4 (by kernel_rfl)
        clear hI
        refine step_pure rfl (v := .int .i64 m) (fun t ht => by cases ht; rfl) ?_
        go_simp
      refine ⟨⟨rfl, fun t ht k' outs u _ => by cases ht; rfl, fun k' outs W' ρ hk1 hk2 hI hc hg h_fn hr ho => ?_⟩, ?_⟩
      · have r20 : ρ (.tmp 20) = .slice (some ⟨sb, so, none⟩) N sc := hr 20 (by kernel_rfl)
        have r21 : ρ (.tmp 21) = .int .i64 m := hr 21 (by kernel_rfl)
        clear hI
        refine step_pure rfl (v := .pointer (some ⟨sb, so + m * 2, none⟩)) (fun t ht => by cases ht; rfl) ?_
        go_simp
      refine ⟨⟨rfl, fun t ht k' outs u _ => by cases ht; rfl, fun k' outs W' ρ hk1 hk2 hI hc hg h_fn hr ho => ?_⟩, ?_⟩
      · have r22 : ρ (.tmp 22) = .pointer (some ⟨sb, so + m * 2, none⟩) := hr 22 (by kernel_rfl)
        have hk2' : k' ≤ 1 := hk2
        obtain ⟨f0, f1, f2, f3, f4, f5, f6, f7, f8, f9, f10, f11, f12, f13, f14, f15⟩ := HK.out W' (hI.2.1 (by omega))
        clear hI
        refine step_pure rfl (v := .agg #[.int .i64 s.1, .int .i64 s.2]) (fun t ht => by cases ht; rfl) ?_
        go_simp
      refine ⟨⟨rfl, fun t ht k' outs u _ => by cases ht; rfl, fun k' outs W' ρ hk1 hk2 hI hc hg h_fn hr ho => ?_⟩, ?_⟩
      · have o2 := ho 2 (by kernel_rfl)
        have hk2' : k' ≤ 1 := hk2
        obtain ⟨f0, f1, f2, f3, f4, f5, f6, f7, f8, f9, f10, f11, f12, f13, f14, f15⟩ := HK.out W' (hI.2.1 (by omega))
        clear hI
        refine step_pure rfl (v := (.slice (some ⟨g, 0, none⟩) (N + 1) cap)) (fun t ht => by cases ht; rfl) ?_
        go_simp
      refine ⟨⟨rfl, fun t ht k' outs u _ => by cases ht; rfl, fun k' outs W' ρ hk1 hk2 hI hc hg h_fn hr ho => ?_⟩, ?_⟩
      · have o4 := ho 4 (by kernel_rfl)
        clear hI
        refine step_pure rfl (v := .int .i64 m) (fun t ht => by cases ht; rfl) ?_
        go_simp
      refine ⟨⟨rfl, fun t ht k' outs u _ => by cases ht; rfl, fun k' outs W' ρ hk1 hk2 hI hc hg h_fn hr ho => ?_⟩, ?_⟩
      · have r24 : ρ (.tmp 24) = (.slice (some ⟨g, 0, none⟩) (N + 1) cap) := hr 24 (by kernel_rfl)
        have r25 : ρ (.tmp 25) = .int .i64 m := hr 25 (by kernel_rfl)
        clear hI
        refine step_pure rfl (v := .pointer (some ⟨g, m * 2, none⟩)) (fun t ht => by cases ht; rfl) ?_
        go_simp
      refine ⟨⟨rfl, fun t ht k' outs u _ => by cases ht; rfl, fun k' outs W' ρ hk1 hk2 hI hc hg h_fn hr ho => ?_⟩, ?_⟩
      · have r26 : ρ (.tmp 26) = .pointer (some ⟨g, m * 2, none⟩) := hr 26 (by kernel_rfl)
        have hk2' : k' ≤ 1 := hk2
        obtain ⟨f0, f1, f2, f3, f4, f5, f6, f7, f8, f9, f10, f11, f12, f13, f14, f15⟩ := HK.out W' (hI.2.1 (by omega))
        clear hI
        refine step_pure rfl (v := .agg #[.int .i64 nn.1, .int .i64 nn.2]) (fun t ht => by cases ht; rfl) ?_
        go_simp
      refine ⟨⟨rfl, fun t ht k' outs u _ => by cases ht; rfl, fun k' outs W' ρ hk1 hk2 hI hc hg h_fn hr ho => ?_⟩, ?_⟩
      · have o2 := ho 2 (by kernel_rfl)
        have hk2' : k' ≤ 1 := hk2
        obtain ⟨f0, f1, f2, f3, f4, f5, f6, f7, f8, f9, f10, f11, f12, f13, f14, f15⟩ := HK.out W' (hI.2.1 (by omega))
        clear hI
        refine step_pure rfl (v := (.slice (some ⟨g, 0, none⟩) (N + 1) cap)) (fun t ht => by cases ht; rfl) ?_
        go_simp
      refine ⟨⟨rfl, fun t ht k' outs u _ => by cases ht; rfl, fun k' outs W' ρ hk1 hk2 hI hc hg h_fn hr ho => ?_⟩, ?_⟩
      · have o4 := ho 4 (by kernel_rfl)
        clear hI
        refine step_pure rfl (v := .int .i64 m) (fun t ht => by cases ht; rfl) ?_
        go_simp
      refine ⟨⟨rfl, fun t ht k' outs u _ => by cases ht; rfl, fun k' outs W' ρ hk1 hk2 hI hc hg h_fn hr ho => ?_⟩, ?_⟩
      · have r29 : ρ (.tmp 29) = .int .i64 m := hr 29 (by kernel_rfl)
        clear hI
        refine step_pure rfl (v := .int .i64 ((m : Int) + 1)) (fun t ht => by cases ht; rfl) ?_
        go_simp
      refine ⟨⟨rfl, fun t ht k' outs u _ => by cases ht; rfl, fun k' outs W' ρ hk1 hk2 hI hc hg h_fn hr ho => ?_⟩, ?_⟩
      · have r28 : ρ (.tmp 28) = (.slice (some ⟨g, 0, none⟩) (N + 1) cap) := hr 28 (by kernel_rfl)
        have r30 : ρ (.tmp 30) = .int .i64 ((m : Int) + 1) := hr 30 (by kernel_rfl)
        clear hI
        refine step_pure rfl (v := .pointer (some ⟨g, (m + 1) * 2, none⟩)) (fun t ht => by cases ht; rfl) ?_
        go_simp
      refine ⟨⟨rfl, fun t ht k' outs u _ => by cases ht; rfl, fun k' outs W' ρ hk1 hk2 hI hc hg h_fn hr ho => ?_⟩, ?_⟩
      · have r31 : ρ (.tmp 31) = .pointer (some ⟨g, (m + 1) * 2, none⟩) := hr 31 (by kernel_rfl)
        have hk2' : k' ≤ 1 := hk2
        obtain ⟨f0, f1, f2, f3, f4, f5, f6, f7, f8, f9, f10, f11, f12, f13, f14, f15⟩ := HK.out W' (hI.2.1 (by omega))
        clear hI
        refine step_pure rfl (v := .agg #[.int .i64 xx.1, .int .i64 xx.2]) (fun t ht => by cases ht; rfl) ?_
        go_simp
      refine ⟨⟨rfl, fun t ht k' outs u (h : 0 < k') => by cases ht; show upd outs k' u 0 = outs 0; unfold upd; rw [if_neg (by omega)], fun k' outs W' ρ hk1 hk2 hI hc hg h_fn hr ho => ?_⟩, ?_⟩
      · have r18 : ρ (.tmp 18) = .agg t.r.cs := hr 18 (by kernel_rfl)
        have r23 : ρ (.tmp 23) = .agg #[.int .i64 s.1, .int .i64 s.2] := hr 23 (by kernel_rfl)
        have r27 : ρ (.tmp 27) = .agg #[.int .i64 nn.1, .int .i64 nn.2] := hr 27 (by kernel_rfl)
        have r32 : ρ (.tmp 32) = .agg #[.int .i64 xx.1, .int .i64 xx.2] := hr 32 (by kernel_rfl)
        have hfn := h_fn 90
        obtain rfl : k' = 0 := Nat.le_zero.1 hk2
        refine step_call rfl (f := 90) (args := #[.agg t.r.cs, .agg #[.int .i64 s.1, .int .i64 s.2], .agg #[.int .i64 nn.1, .int .i64 nn.2], .agg #[.int .i64 xx.1, .int .i64 xx.2]]) (w' := W') ?_ ?_
        · clear hI; go_simp
        · refine (HB.out W').mono ?_
          rintro e w2 ⟨rfl, hb2⟩
          exact ⟨_, rfl, ⟨fun _ => rfl, fun _ => B_trans (hI.2.1 (by omega)) hb2, fun h => by omega⟩, fun t ht => by cases ht; rfl⟩
      refine ⟨⟨rfl, fun t ht k' outs u _ => by cases ht; rfl, fun k' outs W' ρ hk1 hk2 hI hc hg h_fn hr ho => ?_⟩, ?_⟩
      · have r15 : ρ (.tmp 15) = (.slice (some ⟨g, 0, none⟩) (N + 1) cap) := hr 15 (by kernel_rfl)
        have r16 : ρ (.tmp 16) = .int .i64 m := hr 16 (by kernel_rfl)
        clear hI
        refine step_pure rfl (v := .pointer (some ⟨g, m * 2, none⟩)) (fun t ht => by cases ht; rfl) ?_
        go_simp
      refine ⟨⟨rfl, (fun t ht => by cases ht), fun k' outs W' ρ hk1 hk2 hI hc hg h_fn hr ho => ?_⟩, trivial⟩
      · obtain rfl : k' = 1 := by have h1 : 1 ≤ k' := hk1; have h2 : k' ≤ 1 := hk2; omega
        have r34 : ρ (.tmp 34) = .pointer (some ⟨g, m * 2, none⟩) := hr 34 (by kernel_rfl)
        have r33 : ρ (.tmp 33) = .agg #[.int .i64 u, .int .i64 v] := (hr 33 (by kernel_rfl)).trans (hI.1 (by omega))
        have hbW := hI.2.1 (by omega)
        obtain ⟨f0, f1, f2, f3, f4, f5, f6, f7, f8, f9, f10, f11, f12, f13, f14, f15⟩ := HK.out W' hbW
        have z0 := HF.out W' hbW (m * 2)
        have z1 := HF.out W' hbW (m * 2 + 1)
        refine step_store rfl rfl (w' := (W'.setCell ⟨g, m * 2, none⟩ (.int .i64 u)).setCell ⟨g, m * 2 + 1, none⟩ (.int .i64 v)) ?_ ⟨fun _ => hI.1 (by omega), fun h => by omega, fun _ => ⟨W', hbW, rfl⟩⟩
        clear hI hbW; go_simp
  case done =>
    rintro D xs W hD rfl ⟨C', h1, h2, h3, h4, h5, h6, -⟩ hK
    have c0 := h4.cell 0
    have f0 := h4.frozen 0
    simp only [List.getElem?_toArray, List.getElem?_cons_zero] at c0
    have hs4 := h4.set 0 (.slice (some ⟨g, 0, none⟩) (N + 1) cap)
    have e1 := h1.other (p := ⟨w.heap.size + 1, 0, none⟩) (by simp only; omega) (.slice (some ⟨g, 0, none⟩) (N + 1) cap)
    have e5 := row_set (a := ⟨w.heap.size + 1, 0, none⟩) h5 (h4.row h5 (by decide)) (.slice (some ⟨g, 0, none⟩) (N + 1) cap)
    have e6 := h6.setCell (p := ⟨w.heap.size + 1, 0, none⟩) (by simp) (.slice (some ⟨g, 0, none⟩) (N + 1) cap)
    have eK : (W.setCell ⟨w.heap.size + 1, 0, none⟩ (.slice (some ⟨g, 0, none⟩) (N + 1) cap)).heap[D]? = some (.deferred (some [])) := (Below.heap_setCell _ _ _ _ (by simp only; omega)).trans hK
    have hq := grownBy_putObj' (W.setCell ⟨w.heap.size + 1, 0, none⟩ (.slice (some ⟨g, 0, none⟩) (N + 1) cap)) D (.deferred none)
    have E1 := Lib.hid (e1.grown hq (by intro e; cases e; omega))
    have E5 := Lib.hid (row_own e5 hq (fun r e => by cases e; exact ⟨_, eK, rfl⟩))
    have E6 := Lib.hid (below_own e6 (Nat.le_refl _) hq (fun r e => by cases e; omega))
    have c1 := (hs4.grown hq (by intro e; cases e; omega)).cell 0
    simp only [List.setIfInBounds_toArray, List.set_cons_zero, List.getElem?_toArray, List.getElem?_cons_zero] at c1
    clear h1 h3 h4 h5 h6 hs4 e1 e5 e6 hq
    gi_wp2
    refine ⟨by simp, .inl ⟨_, _, rfl, run_takeDeferred eK, ?_⟩⟩
    exact ⟨.tuple #[.slice (some ⟨g, 0, none⟩) (N + 1) cap, sv], by simp [results, Try.results71, go_sem, c1], ⟨g, cap, C', sv, rfl, by omega, E1.out, h2, E5.out, E6.out⟩⟩
  case stop =>
    rintro D c pre W _ _ h _
    exact h.elim
end Go.Proofs.Ytanjkhclhcnnaaa

/- known, from what reached returns. -/
import Derived.Test.YtanjkhclhcnnaaaMA
import Derived.Test.YtanjkhclhcnnaaaMC
import Derived.Test.YtanjkhclhcnnaaaMD
import Derived.RangeFuncWrites
import Derived.TacticsIn
import Derived.RegionIn
namespace Go.Proofs.Ytanjkhclhcnnaaa
open Go.RowKit Go.Shelf
attribute [local go_sem] Oper.semAt_some

theorem row_base {W : World} {base base' : Nat} {e : TypeId} {s n : Nat} {v : Value} {xs : List Value} (h : W.ownsRow base e s v n xs) (hb : base' ≤ base) : W.ownsRow base' e s v n xs :=
  ⟨h.1, h.2.imp id fun ⟨g, cap, cur, e, h1, r⟩ => ⟨g, cap, cur, e, Nat.le_trans hb h1, r⟩⟩
def backL (N : Nat) (pre : List (Fin N)) : List Nat := pre.map fun x => N - 1 - x.val

/-- What holds while one morning's span is put, step by step. -/
def KI (Wd : World) (g m : Nat) (u v : Int) (k : Nat) (outs : Nat → Value) (W : World) : Prop :=
  (1 ≤ k → outs 0 = .agg #[.int .i64 u, .int .i64 v]) ∧ (k ≤ 1 → Below Wd.heap.size Wd W) ∧ (k = 2 → ∃ W1, Below Wd.heap.size Wd W1 ∧ W = (W1.setCell ⟨g, m * 2, none⟩ (.int .i64 u)).setCell ⟨g, m * 2 + 1, none⟩ (.int .i64 v))
def kneed : Nat → Nat := fun i => [0, 0, 0, 0, 0, 0, 0, 0, 0, 0, 0, 0, 0, 0, 0, 0, 0, 0, 0, 0, 1].getD i 0
def ktill : Nat → Nat := fun i => [1, 1, 1, 1, 1, 1, 1, 1, 1, 1, 1, 1, 1, 1, 1, 1, 1, 1, 0, 1, 1].getD i 0
def keff : Nat → Bool := fun i => [false, false, false, false, false, false, false, false, false, false, false, false, false, false, false, false, false, false, true, false, true].getD i false
def KV (T1 : Nat) (rc : Array Value) (SL sv : Value) (g m sb so : Nat) (s n x : T2) (outs : Nat → Value) : Nat → Value
  | 15 => SL
  | 16 => .int .i64 m
  | 17 => .pointer (some ⟨T1, 0, none⟩)
  | 18 => .agg rc
  | 19 => .pointer (some ⟨T1, 9, none⟩)
  | 20 => sv
  | 21 => .int .i64 m
  | 22 => .pointer (some ⟨sb, so + m * 2, none⟩)
  | 23 => .agg #[.int .i64 s.1, .int .i64 s.2]
  | 24 => SL
  | 25 => .int .i64 m
  | 26 => .pointer (some ⟨g, m * 2, none⟩)
  | 27 => .agg #[.int .i64 n.1, .int .i64 n.2]
  | 28 => SL
  | 29 => .int .i64 m
  | 30 => .int .i64 ((m : Int) + 1)
  | 31 => .pointer (some ⟨g, (m + 1) * 2, none⟩)
  | 32 => .agg #[.int .i64 x.1, .int .i64 x.2]
  | 33 => outs 0
  | 34 => .pointer (some ⟨g, m * 2, none⟩)
  | _ => undef
theorem keeps_two {B g j j2 : Nat} {W W1 : World} (u v : Value) (hb : Below W.heap.size W W1) (hg : g < B) : KeepsFrom B W ((W1.setCell ⟨g, j, none⟩ u).setCell ⟨g, j2, none⟩ v) :=
  ⟨by simpa [World.setCell] using hb.size, fun k o hk h _ => by
    have hlt := (Array.getElem?_eq_some_iff.1 h).1
    rw [Below.heap_setCell _ _ _ _ (by show k ≠ g; omega), Below.heap_setCell _ _ _ _ (by show k ≠ g; omega), hb.block k hlt]
    exact h⟩
theorem kb2_two {F1 F2 g j j2 : Nat} {W W1 : World} (u v : Value) (hb : Below W.heap.size W W1) (h1 : F1 < W.heap.size) (h2 : F2 < W.heap.size) (n1 : F1 ≠ g) (n2 : F2 ≠ g) : KB2 F1 F2 W ((W1.setCell ⟨g, j, none⟩ u).setCell ⟨g, j2, none⟩ v) :=
  ⟨by rw [Below.heap_setCell _ _ _ _ n1, Below.heap_setCell _ _ _ _ n1, hb.block _ h1], by rw [Below.heap_setCell _ _ _ _ n2, Below.heap_setCell _ _ _ _ n2, hb.block _ h2]⟩

set_option maxRecDepth 100000 in
set_option maxHeartbeats 8000000 in
theorem known_any (t : TkA) (hs ws : List T2) (sa : Option Addr) (sc N k : Nat) (ss L0 : List T2) (XS : List Value) (w : World) (hO : RuOK t.r hs ws) (hN : N ≤ 1000) (hsl : Sl2 w sa N ss) (hst : ∀ s ∈ ss, StrOK s) (hL : L0.length = N + 1) (hok : ∀ p ∈ L0, OkSp p)
    (HR : ∀ W, Below w.heap.size w W → Calls Try.prog 88 #[.agg (t.xc (.slice sa N sc))] W fun e W' => ∃ g cap C sv, e = .returned (.tuple #[.slice (some ⟨g, 0, none⟩) (N + 1) cap, sv]) ∧ W.heap.size ≤ g ∧ Ob W' g 28 C ∧ SpC C L0 ∧ W'.ownsRow W.heap.size 78 2 sv k XS ∧ Below W.heap.size W W') :
    Calls Try.prog 71 #[.agg (t.xc (.slice sa N sc))] w fun e W' => ∃ g cap C sv, e = .returned (.tuple #[.slice (some ⟨g, 0, none⟩) (N + 1) cap, sv]) ∧ w.heap.size ≤ g ∧ Ob W' g 28 C ∧ SpC C (knownFold t.r ss L0 (backL N (List.finRange N))) ∧ W'.ownsRow w.heap.size 78 2 sv k XS ∧ Below w.heap.size w W' := by
  replace HR := Lib.hid HR
  obtain ⟨W2, hW2⟩ : ∃ W2, (w.alloc (.cells (t.xc (.slice sa N sc)) 104)).alloc (.cells #[.slice none 0 0] 49) = W2 := ⟨_, rfl⟩
  have hb2 : Below w.heap.size w W2 := by rw [← hW2]; exact B_alloc (B_alloc (Below.refl _ _) _) _
  have z2 : W2.heap.size = w.heap.size + 1 + 1 := by rw [← hW2]; simp
  have hT2 : Ob W2 w.heap.size 104 (t.xc (.slice sa N sc)) := by rw [← hW2]; exact (Ob.new w _ _).alloc _
  have hR2 : Ob W2 (w.heap.size + 1) 49 #[.slice none 0 0] := by rw [← hW2]; simpa using Ob.new (w.alloc (.cells (t.xc (.slice sa N sc)) 104)) #[.slice none 0 0] 49
  have kt : ∀ j, W2.cell? ⟨w.heap.size, j, none⟩ = (t.xc (.slice sa N sc))[j]? := fun j => hT2.cell j
  have k0 := kt 0
  have k1 := kt 1
  have k2 := kt 2
  have k3 := kt 3
  have k4 := kt 4
  have k5 := kt 5
  have k6 := kt 6
  have k7 := kt 7
  have k8 := kt 8
  have k9 := kt 9
  have k10 := kt 10
  have k11 := kt 11
  have k12 := kt 12
  simp only [List.getElem?_toArray, List.getElem?_cons_zero, List.getElem?_cons_succ] at k0 k1 k2 k3 k4 k5 k6 k7 k8 k9 k10 k11 k12
  clear kt
  replace hb2 := Lib.hid hb2
  replace hT2 := Lib.hid hT2
  replace hR2 := Lib.hid hR2
  replace hW2 := Lib.hid hW2
  refine (callsIn_wide (n := 8)).1 ?_
  refine callsIn_of_wp_marks Try.func71 rfl trivial ?_ rfl
  simp only [Try.ntmps71, List.size_toArray, List.length_cons, List.length_nil, Nat.reduceAdd, Nat.reduceSub, Array.replicate_succ, Array.replicate_zero, List.push_toArray, List.append_toArray, List.nil_append, List.cons_append]
  gi_wp2_with fail
  rw [hW2.out]
  refine ⟨trivial, CallsIn.mono (callsIn_wide.2 (HR.out W2 hb2.out)) ?_⟩
  rintro e W3 ⟨g, cap, C, sv, rfl, hg, hC, hSp, hrow, hb3⟩
  have o1 := hT2.out.below hb3
  have o2 := hR2.out.below hb3
  have hgb : Below w.heap.size w W3 := B_trans hb2.out hb3
  obtain ⟨W4, hW4⟩ : ∃ W4, W3.setCell ⟨w.heap.size + 1, 0, none⟩ (.slice (some ⟨g, 0, none⟩) (N + 1) cap) = W4 := ⟨_, rfl⟩
  have p1 : Ob W4 w.heap.size 104 (t.xc (.slice sa N sc)) := by rw [← hW4]; exact o1.other (by simp) _
  have p2 : Ob W4 (w.heap.size + 1) 49 #[.slice (some ⟨g, 0, none⟩) (N + 1) cap] := by rw [← hW4]; simpa using o2.set 0 (.slice (some ⟨g, 0, none⟩) (N + 1) cap)
  have p3 : Ob W4 g 28 C := by rw [← hW4]; exact hC.other (by simp; omega) _
  have p4 : W4.ownsRow w.heap.size 78 2 sv k XS := by
    rw [← hW4]
    refine row_set (row_base hrow (by omega)) ?_ _
    exact o2.row hrow (by decide)
  have p5 : Below w.heap.size w W4 := by rw [← hW4]; exact hgb.setCell (by simp) _
  have c2 := o2.cell 0
  have f2 := o2.frozen 0
  have q9 := o1.cell 9
  simp only [List.getElem?_toArray, List.getElem?_cons_zero, List.getElem?_cons_succ] at c2 q9
  clear k0 k1 k2 k3 k4 k5 k6 k7 k8 k9 k10 k11 k12 hrow hC o1 o2 hgb
  replace hW4 := Lib.hid hW4
  have P := Lib.hid (show Ob W4 w.heap.size 104 (t.xc (.slice sa N sc)) ∧ Ob W4 (w.heap.size + 1) 49 #[.slice (some ⟨g, 0, none⟩) (N + 1) cap] ∧ Ob W4 g 28 C ∧ W4.ownsRow w.heap.size 78 2 sv k XS ∧ Below w.heap.size w W4 from ⟨p1, p2, p3, p4, p5⟩)
  clear p1 p2 p3 p4 p5
  gi_wp2_with fail
  rw [hW4.out]
  refine ⟨trivial, (backward_in Fence.wide 7 trivial rfl 0 N W4).mono ?_⟩
  rintro e W5 ⟨rfl, hW5⟩
  have hb5 : Below W4.heap.size W4 W5 := by rw [hW5]; exact B_alloc (B_alloc (Below.refl _ _) _) _
  have z5 : W5.heap.size = W4.heap.size + 1 + 1 := by rw [hW5]; simp
  have d0 : W5.cell? ⟨W4.heap.size, 0, none⟩ = some (.int .i64 0) := by rw [hW5, alloc_old _ _ _ _ (by simp)]; simp [go_sem]
  have d1 : W5.cell? ⟨W4.heap.size + 1, 0, none⟩ = some (.int .i64 (N : Int)) := by rw [hW5]; simp
  obtain ⟨p1, p2, p3, p4, p5⟩ := P.out
  have hgl := p3.lt
  have I0 : Hid (Ob W5 w.heap.size 104 (t.xc (.slice sa N sc)) ∧ Ob W5 (w.heap.size + 1) 49 #[.slice (some ⟨g, 0, none⟩) (N + 1) cap] ∧ Ob W5 g 28 C ∧ W5.ownsRow w.heap.size 78 2 sv k XS ∧ Below w.heap.size w W5) := ⟨p1.below hb5, p2.below hb5, p3.below hb5, row_below p4 hb5, B_trans p5 hb5⟩
  have hz4 := p2.lt
  clear p1 p2 p3 p4 p5 hW5 hW4 P c2 f2 q9 hb3 hb5
  generalize hF1 : W4.heap.size = F1 at *
  clear hF1
  gi_wp2_with fail
  refine wpIn_rangeFunc_ownG rfl (by omega) (gf := 113) (lb := #[.pointer (some ⟨F1 + 1, 0, none⟩), .pointer (some ⟨F1, 0, none⟩)]) rfl trivial (enters_of Try.func113 (by kernel_rfl) rfl) (backward_stops Fence.wide 7 trivial rfl (by omega) F1 (F1 + 1) N 0 N (by omega) (by omega) (by omega) (by omega) W5 (by omega) (by omega) d0 d1) KB2.trans (fun W l o o' h1 _ _ _ => KB2.put (n := W5.heap.size) (by omega) (by omega) W l o' h1) (Below.refl _ _) (fun _ => rfl)
    (fun pre W => ∃ C', Ob W g 28 C' ∧ SpC C' (knownFold t.r ss L0 (backL N pre)) ∧ Ob W w.heap.size 104 (t.xc (.slice sa N sc)) ∧ Ob W (w.heap.size + 1) 49 #[.slice (some ⟨g, 0, none⟩) (N + 1) cap] ∧ W.ownsRow w.heap.size 78 2 sv k XS ∧ Below w.heap.size w W ∧ F1 + 1 < W.heap.size)
    (fun _ _ _ => False)
    ?own (fun _ _ _ _ _ hs _ _ => hs) ⟨C, I0.out.2.2.1, by simpa [backL, knownFold] using hSp, I0.out.1, I0.out.2.1, I0.out.2.2.2.1, I0.out.2.2.2.2, by omega⟩ ?a1 ?assign ?body ?done ?stop
  case own =>
    rintro pre W W' row ⟨C', h1, h2, h3, h4, h5, h6, h7⟩ hgr hr
    exact ⟨C', h1.own hgr (fun r e => (hr r e).2), h2, h3.own hgr (fun r e => (hr r e).2), h4.own hgr (fun r e => (hr r e).2), row_own h5 hgr (fun r e => (hr r e).2), below_own h6 (Nat.le_refl _) hgr (fun r e => by have := (hr r e).1; omega), Nat.lt_of_lt_of_le h7 hgr.size⟩
  case assign =>
    intro l x W K hK
    gi_wp2
    exact hK
  case body =>
    rintro l pre x W ⟨C', h1, h2, h3, h4, h5, h6, h7⟩ hlen
    obtain ⟨m, hm, hmx⟩ : ∃ m : Nat, ((N : Int) - 1 - x.val = m) ∧ m = N - 1 - x.val := ⟨N - 1 - x.val, by have := x.isLt; omega, rfl⟩
    have hmN : m < N := by have := x.isLt; omega
    have hstep : Hid (knownFold t.r ss L0 (backL N (pre ++ [x])) = knownStep t.r ss (knownFold t.r ss L0 (backL N pre)) m) := by
      rw [Hid, hmx]; unfold backL; rw [List.map_append, List.map_cons, List.map_nil, known_snoc]
    have hLl : (knownFold t.r ss L0 (backL N pre)).length = N + 1 := by rw [known_len, hL]
    have hLo := known_ok hO hsl.len hst (backL N pre) L0 hL hok (fun q hq => by
      unfold backL at hq
      rw [List.mem_map] at hq
      obtain ⟨y, -, rfl⟩ := hq
      have := y.isLt
      omega)
    generalize knownFold t.r ss L0 (backL N pre) = LL at h2 hstep hLl hLo
    obtain ⟨sb, so, hsa, hsb, hsc⟩ := (hsl.below h6).at_ (by omega)
    obtain ⟨s0, s1⟩ := hsc m hmN
    obtain ⟨n0, n1⟩ := h2.c m (by omega)
    obtain ⟨x0, x1⟩ := h2.c (m + 1) (by omega)
    have es := hst _ (getD_lt (L := ss) (i := m) (by rw [hsl.len]; exact hmN))
    have en := hLo _ (getD_lt (L := LL) (i := m) (by omega))
    unfold knownStep at hstep
    generalize ss.getD m (0, 0) = s at s0 s1 es hstep
    generalize LL.getD m (0, 0) = nn at n0 n1 en hstep
    generalize LL.getD (m + 1) (0, 0) = xx at x0 x1 hstep
    have HB := Lib.hid (show ∀ W', Calls Try.prog 90 #[.agg t.r.cs, .agg #[.int .i64 s.1, .int .i64 s.2], .agg #[.int .i64 nn.1, .int .i64 nn.2], .agg #[.int .i64 xx.1, .int .i64 xx.2]] W' fun e w' => e = .returned (.agg #[.int .i64 (beforeS t.r s nn xx).1, .int .i64 (beforeS t.r s nn xx).2]) ∧ Below W'.heap.size W' w' from fun W' => before_any t.r hs ws s.1 s.2 nn.1 nn.2 xx.1 xx.2 W' hO en.lo en.hi en.le ⟨es.lo, by have := es.le; have := es.hi; omega⟩ ⟨by have := es.le; have := es.lo; omega, es.hi⟩)
    have hset := Lib.hid (h2.set (m := m) (by omega) (beforeS t.r s nn xx))
    generalize hu : (beforeS t.r s nn xx).1 = u at HB hset
    generalize hv : (beforeS t.r s nn xx).2 = v at HB hset
    have HK := Lib.hid (fun (W' : World) (hh : Below W.heap.size W W') => (show W'.cell? ⟨w.heap.size + 1, 0, none⟩ = some (.slice (some ⟨g, 0, none⟩) (N + 1) cap) ∧ W'.cell? ⟨w.heap.size, 0, none⟩ = some (.slice t.r.ha t.r.hn t.r.hc) ∧ W'.cell? ⟨w.heap.size, 1, none⟩ = some (.slice t.r.wa t.r.wn t.r.wc) ∧ W'.cell? ⟨w.heap.size, 2, none⟩ = some (.int .i64 t.r.own) ∧ W'.cell? ⟨w.heap.size, 3, none⟩ = some (.int .i64 t.r.feed) ∧ W'.cell? ⟨w.heap.size, 4, none⟩ = some (.int .i64 t.r.g0) ∧ W'.cell? ⟨w.heap.size, 5, none⟩ = some (.int .i64 t.r.g1) ∧ W'.cell? ⟨w.heap.size, 6, none⟩ = some (.int .i64 t.r.g2) ∧ W'.cell? ⟨w.heap.size, 7, none⟩ = some (.int .i64 t.r.lost) ∧ W'.cell? ⟨w.heap.size, 9, none⟩ = some (.slice (some ⟨sb, so, none⟩) N sc) ∧ W'.cell? ⟨sb, so + m * 2, none⟩ = some (.int .i64 s.1) ∧ W'.cell? ⟨sb, so + m * 2 + 1, none⟩ = some (.int .i64 s.2) ∧ W'.cell? ⟨g, m * 2, none⟩ = some (.int .i64 nn.1) ∧ W'.cell? ⟨g, m * 2 + 1, none⟩ = some (.int .i64 nn.2) ∧ W'.cell? ⟨g, (m + 1) * 2, none⟩ = some (.int .i64 xx.1) ∧ W'.cell? ⟨g, (m + 1) * 2 + 1, none⟩ = some (.int .i64 xx.2) from ⟨(hh.cell (p := ⟨w.heap.size + 1, _, none⟩) h4.lt).trans (h4.cell 0), (hh.cell (p := ⟨w.heap.size, _, none⟩) h3.lt).trans (h3.cell 0), (hh.cell (p := ⟨w.heap.size, _, none⟩) h3.lt).trans (h3.cell 1), (hh.cell (p := ⟨w.heap.size, _, none⟩) h3.lt).trans (h3.cell 2), (hh.cell (p := ⟨w.heap.size, _, none⟩) h3.lt).trans (h3.cell 3), (hh.cell (p := ⟨w.heap.size, _, none⟩) h3.lt).trans (h3.cell 4), (hh.cell (p := ⟨w.heap.size, _, none⟩) h3.lt).trans (h3.cell 5), (hh.cell (p := ⟨w.heap.size, _, none⟩) h3.lt).trans (h3.cell 6), (hh.cell (p := ⟨w.heap.size, _, none⟩) h3.lt).trans (h3.cell 7), (hh.cell (p := ⟨w.heap.size, _, none⟩) h3.lt).trans ((h3.cell 9).trans (by rw [hsa]; rfl)), (hh.cell (p := ⟨sb, _, none⟩) hsb).trans s0, (hh.cell (p := ⟨sb, _, none⟩) hsb).trans s1, (hh.cell (p := ⟨g, _, none⟩) h1.lt).trans ((h1.cell _).trans n0), (hh.cell (p := ⟨g, _, none⟩) h1.lt).trans ((h1.cell _).trans n1), (hh.cell (p := ⟨g, _, none⟩) h1.lt).trans ((h1.cell _).trans x0), (hh.cell (p := ⟨g, _, none⟩) h1.lt).trans ((h1.cell _).trans x1)⟩))
    have HF := Lib.hid (fun (W' : World) (hh : Below W.heap.size W W') (q : Nat) => (hh.frozen (p := ⟨g, q, none⟩) h1.lt).trans (h1.frozen q))
    have a1 : (0 : Int) ≤ m := by omega
    have a2 : (m : Int) < N := by omega
    have a3 : (m : Int) < (N : Int) + 1 := by omega
    have a4 : (m : Int) + 1 < (N : Int) + 1 := by omega
    have a5 : (0 : Int) ≤ (m : Int) + 1 := by omega
    have a6 : ((m : Int) + 1).toNat = m + 1 := by omega
    have u1 : IntKind.i64.wrap ((m : Int) + 1) = (m : Int) + 1 := IntWalk.i64_in _ (by omega)
    have hsum := Lib.hid (show Ob W g 28 C' ∧ Ob W w.heap.size 104 (t.xc (.slice sa N sc)) ∧ Ob W (w.heap.size + 1) 49 #[.slice (some ⟨g, 0, none⟩) (N + 1) cap] ∧ W.ownsRow w.heap.size 78 2 sv k XS ∧ Below w.heap.size w W from ⟨h1, h3, h4, h5, h6⟩)
    have hmN' := Lib.hid hmN
    have hgm : g ≠ w.heap.size ∧ g ≠ w.heap.size + 1 := by omega
    have hrow := h1.row h5 (by decide)
    replace hu := Lib.hid hu
    replace hv := Lib.hid hv
    have hwg : w.heap.size ≤ g := by omega
    clear h1 h3 h4 h5 h6 s0 s1 n0 n1 x0 x1 hsc hsb es en h2 hLo hmx
    gi_wp2_with fail
    rw [hm]
    clear hm
    rw [hsa]
    refine wpIn_region_steps2 (I := KI W g m u v) (V := KV w.heap.size t.r.cs (.slice (some ⟨g, 0, none⟩) (N + 1) cap) (.slice (some ⟨sb, so, none⟩) N sc) g m sb so s nn xx) (eff := keff) (need := kneed) (till := ktill) 2 (by kernel_rfl) (by decide) (by kernel_rfl) rfl (by kernel_rfl) (by kernel_rfl) (by kernel_rfl) (by kernel_rfl) (by kernel_rfl) (by kernel_rfl) ⟨fun h => by omega, fun _ => (Below.refl _ W).drew, fun h => by omega⟩ ?steps ?hend
    case hend =>
      rintro outs w' ⟨-, -, hI⟩
      obtain ⟨W1, hb1, rfl⟩ := hI rfl
      obtain ⟨o1, o3, o4, o5, o6⟩ := hsum.out
      have q1 := o1.below hb1
      refine ⟨keeps_two _ _ hb1 (by omega), kb2_two _ _ hb1 (by omega) (by omega) (by omega) (by omega), _, (q1.set _ _).set _ _, ?_, ((o3.below hb1).other (by simp only; omega) _).other (by simp only; omega) _, ((o4.below hb1).other (by simp only; omega) _).other (by simp only; omega) _, ?_, ((B_trans o6 hb1).setCell hwg _).setCell hwg _, ?_⟩
      · rw [hstep.out]
        have := hset.out
        exact this
      · exact row_set (row_set (row_below o5 hb1) hrow _) hrow _
      · have := hb1.size
        simp only [World.setCell, Array.size_modify]
        omega
    case steps =>
      refine ⟨⟨rfl, fun t ht k' outs u _ => by cases ht; rfl, fun k' outs W' ρ hk1 hk2 hI hc hg h_fn hr ho => ?_⟩, ?_⟩
      · have o2 := ho 2 (by kernel_rfl)
        have hk2' : k' ≤ 1 := hk2
        obtain ⟨f0, f1, f2, f3, f4, f5, f6, f7, f8, f9, f10, f11, f12, f13, f14, f15⟩ := HK.out W' (hI.2.1 (by omega))
        clear hI
        refine step_pure rfl (v := (.slice (some ⟨g, 0, none⟩) (N + 1) cap)) (fun t ht => by cases ht; rfl) ?_
        go_simp
      refine ⟨⟨rfl, fun t ht k' outs u _ => by cases ht; rfl, fun k' outs W' ρ hk1 hk2 hI hc hg h_fn hr ho => ?_⟩, ?_⟩
      · have o4 := ho 4 (by kernel_rfl)
        clear hI
        refine step_pure rfl (v := .int .i64 m) (fun t ht => by cases ht; rfl) ?_
        go_simp
      refine ⟨⟨rfl, fun t ht k' outs u _ => by cases ht; rfl, fun k' outs W' ρ hk1 hk2 hI hc hg h_fn hr ho => ?_⟩, ?_⟩
      · have o1 := ho 1 (by kernel_rfl)
        clear hI
        refine step_pure rfl (v := .pointer (some ⟨w.heap.size, 0, none⟩)) (fun t ht => by cases ht; rfl) ?_
        go_simp
      refine ⟨⟨rfl, fun t ht k' outs u _ => by cases ht; rfl, fun k' outs W' ρ hk1 hk2 hI hc hg h_fn hr ho => ?_⟩, ?_⟩
      · have r17 : ρ (.tmp 17) = .pointer (some ⟨w.heap.size, 0, none⟩) := hr 17 (by kernel_rfl)
        have hk2' : k' ≤ 1 := hk2
        obtain ⟨f0, f1, f2, f3, f4, f5, f6, f7, f8, f9, f10, f11, f12, f13, f14, f15⟩ := HK.out W' (hI.2.1 (by omega))
        clear hI
        refine step_pure rfl (v := .agg t.r.cs) (fun t ht => by cases ht; rfl) ?_
        go_simp
      refine ⟨⟨rfl, fun t ht k' outs u _ => by cases ht; rfl, fun k' outs W' ρ hk1 hk2 hI hc hg h_fn hr ho => ?_⟩, ?_⟩
      · have o1 := ho 1 (by kernel_rfl)
        clear hI
        refine step_pure rfl (v := .pointer (some ⟨w.heap.size, 9, none⟩)) (fun t ht => by cases ht; rfl) ?_
        go_simp
      refine ⟨⟨rfl, fun t ht k' outs u _ => by cases ht; rfl, fun k' outs W' ρ hk1 hk2 hI hc hg h_fn hr ho => ?_⟩, ?_⟩
      · have r19 : ρ (.tmp 19) = .pointer (some ⟨w.heap.size, 9, none⟩) := hr 19 (by kernel_rfl)
        have hk2' : k' ≤ 1 := hk2
        obtain ⟨f0, f1, f2, f3, f4, f5, f6, f7, f8, f9, f10, f11, f12, f13, f14, f15⟩ := HK.out W' (hI.2.1 (by omega))
        clear hI
        refine step_pure rfl (v := .slice (some ⟨sb, so, none⟩) N sc) (fun t ht => by cases ht; rfl) ?_
        go_simp
      refine ⟨⟨rfl, fun t ht k' outs u _ => by cases ht; rfl, fun k' outs W' ρ hk1 hk2 hI hc hg h_fn hr ho => ?_⟩, ?_⟩
      · have o4 := ho 4 (by kernel_rfl)
        clear hI
        refine step_pure rfl (v := .int .i64 m) (fun t ht => by cases ht; rfl) ?_
        go_simp
      refine ⟨⟨rfl, fun t ht k' outs u _ => by cases ht; rfl, fun k' outs W' ρ hk1 hk2 hI hc hg h_fn hr ho => ?_⟩, ?_⟩
      · have r20 : ρ (.tmp 20) = .slice (some ⟨sb, so, none⟩) N sc := hr 20 (by kernel_rfl)
        have r21 : ρ (.tmp 21) = .int .i64 m := hr 21 (by kernel_rfl)
        clear hI
        refine step_pure rfl (v := .pointer (some ⟨sb, so + m * 2, none⟩)) (fun t ht => by cases ht; rfl) ?_
        go_simp
      refine ⟨⟨rfl, fun t ht k' outs u _ => by cases ht; rfl, fun k' outs W' ρ hk1 hk2 hI hc hg h_fn hr ho => ?_⟩, ?_⟩
      · have r22 : ρ (.tmp 22) = .pointer (some ⟨sb, so + m * 2, none⟩) := hr 22 (by kernel_rfl)
        have hk2' : k' ≤ 1 := hk2
        obtain ⟨f0, f1, f2, f3, f4, f5, f6, f7, f8, f9, f10, f11, f12, f13, f14, f15⟩ := HK.out W' (hI.2.1 (by omega))
        clear hI
        refine step_pure rfl (v := .agg #[.int .i64 s.1, .int .i64 s.2]) (fun t ht => by cases ht; rfl) ?_
        go_simp
      refine ⟨⟨rfl, fun t ht k' outs u _ => by cases ht; rfl, fun k' outs W' ρ hk1 hk2 hI hc hg h_fn hr ho => ?_⟩, ?_⟩
      · have o2 := ho 2 (by kernel_rfl)
        have hk2' : k' ≤ 1 := hk2
        obtain ⟨f0, f1, f2, f3, f4, f5, f6, f7, f8, f9, f10, f11, f12, f13, f14, f15⟩ := HK.out W' (hI.2.1 (by omega))
        clear hI
        refine step_pure rfl (v := (.slice (some ⟨g, 0, none⟩) (N + 1) cap)) (fun t ht => by cases ht; rfl) ?_
        go_simp
      refine ⟨⟨rfl, fun t ht k' outs u _ => by cases ht; rfl, fun k' outs W' ρ hk1 hk2 hI hc hg h_fn hr ho => ?_⟩, ?_⟩
      · have o4 := ho 4 (by kernel_rfl)
        clear hI
        refine step_pure rfl (v := .int .i64 m) (fun t ht => by cases ht; rfl) ?_
        go_simp
      refine ⟨⟨rfl, fun t ht k' outs u _ => by cases ht; rfl, fun k' outs W' ρ hk1 hk2 hI hc hg h_fn hr ho => ?_⟩, ?_⟩
      · have r24 : ρ (.tmp 24) = (.slice (some ⟨g, 0, none⟩) (N + 1) cap) := hr 24 (by kernel_rfl)
        have r25 : ρ (.tmp 25) = .int .i64 m := hr 25 (by kernel_rfl)
        clear hI
        refine step_pure rfl (v := .pointer (some ⟨g, m * 2, none⟩)) (fun t ht => by cases ht; rfl) ?_
        go_simp
      refine ⟨⟨rfl, fun t ht k' outs u _ => by cases ht; rfl, fun k' outs W' ρ hk1 hk2 hI hc hg h_fn hr ho => ?_⟩, ?_⟩
      · have r26 : ρ (.tmp 26) = .pointer (some ⟨g, m * 2, none⟩) := hr 26 (by kernel_rfl)
        have hk2' : k' ≤ 1 := hk2
        obtain ⟨f0, f1, f2, f3, f4, f5, f6, f7, f8, f9, f10, f11, f12, f13, f14, f15⟩ := HK.out W' (hI.2.1 (by omega))
        clear hI
        refine step_pure rfl (v := .agg #[.int .i64 nn.1, .int .i64 nn.2]) (fun t ht => by cases ht; rfl) ?_
        go_simp
      refine ⟨⟨rfl, fun t ht k' outs u _ => by cases ht; rfl, fun k' outs W' ρ hk1 hk2 hI hc hg h_fn hr ho => ?_⟩, ?_⟩
      · have o2 := ho 2 (by kernel_rfl)
        have hk2' : k' ≤ 1 := hk2
        obtain ⟨f0, f1, f2, f3, f4, f5, f6, f7, f8, f9, f10, f11, f12, f13, f14, f15⟩ := HK.out W' (hI.2.1 (by omega))
        clear hI
        refine step_pure rfl (v := (.slice (some ⟨g, 0, none⟩) (N + 1) cap)) (fun t ht => by cases ht; rfl) ?_
        go_simp
      refine ⟨⟨rfl, fun t ht k' outs u _ => by cases ht; rfl, fun k' outs W' ρ hk1 hk2 hI hc hg h_fn hr ho => ?_⟩, ?_⟩
      · have o4 := ho 4 (by kernel_rfl)
        clear hI
        refine step_pure rfl (v := .int .i64 m) (fun t ht => by cases ht; rfl) ?_
        go_simp
      refine ⟨⟨rfl, fun t ht k' outs u _ => by cases ht; rfl, fun k' outs W' ρ hk1 hk2 hI hc hg h_fn hr ho => ?_⟩, ?_⟩
      · have r29 : ρ (.tmp 29) = .int .i64 m := hr 29 (by kernel_rfl)
        clear hI
        refine step_pure rfl (v := .int .i64 ((m : Int) + 1)) (fun t ht => by cases ht; rfl) ?_
        go_simp
      refine ⟨⟨rfl, fun t ht k' outs u _ => by cases ht; rfl, fun k' outs W' ρ hk1 hk2 hI hc hg h_fn hr ho => ?_⟩, ?_⟩
      · have r28 : ρ (.tmp 28) = (.slice (some ⟨g, 0, none⟩) (N + 1) cap) := hr 28 (by kernel_rfl)
        have r30 : ρ (.tmp 30) = .int .i64 ((m : Int) + 1) := hr 30 (by kernel_rfl)
        clear hI
        refine step_pure rfl (v := .pointer (some ⟨g, (m + 1) * 2, none⟩)) (fun t ht => by cases ht; rfl) ?_
        go_simp
      refine ⟨⟨rfl, fun t ht k' outs u _ => by cases ht; rfl, fun k' outs W' ρ hk1 hk2 hI hc hg h_fn hr ho => ?_⟩, ?_⟩
      · have r31 : ρ (.tmp 31) = .pointer (some ⟨g, (m + 1) * 2, none⟩) := hr 31 (by kernel_rfl)
        have hk2' : k' ≤ 1 := hk2
        obtain ⟨f0, f1, f2, f3, f4, f5, f6, f7, f8, f9, f10, f11, f12, f13, f14, f15⟩ := HK.out W' (hI.2.1 (by omega))
        clear hI
        refine step_pure rfl (v := .agg #[.int .i64 xx.1, .int .i64 xx.2]) (fun t ht => by cases ht; rfl) ?_
        go_simp
      refine ⟨⟨rfl, fun t ht k' outs u (h : 0 < k') => by cases ht; show upd outs k' u 0 = outs 0; unfold upd; rw [if_neg (by omega)], fun k' outs W' ρ hk1 hk2 hI hc hg h_fn hr ho => ?_⟩, ?_⟩
      · have r18 : ρ (.tmp 18) = .agg t.r.cs := hr 18 (by kernel_rfl)
        have r23 : ρ (.tmp 23) = .agg #[.int .i64 s.1, .int .i64 s.2] := hr 23 (by kernel_rfl)
        have r27 : ρ (.tmp 27) = .agg #[.int .i64 nn.1, .int .i64 nn.2] := hr 27 (by kernel_rfl)
        have r32 : ρ (.tmp 32) = .agg #[.int .i64 xx.1, .int .i64 xx.2] := hr 32 (by kernel_rfl)
        have hfn := h_fn 90
        obtain rfl : k' = 0 := Nat.le_zero.1 hk2
        refine step_call rfl (f := 90) (args := #[.agg t.r.cs, .agg #[.int .i64 s.1, .int .i64 s.2], .agg #[.int .i64 nn.1, .int .i64 nn.2], .agg #[.int .i64 xx.1, .int .i64 xx.2]]) (w' := W') ?_ ?_
        · clear hI; go_simp
        · refine (HB.out W').mono ?_
          rintro e w2 ⟨rfl, hb2⟩
          exact ⟨_, rfl, ⟨fun _ => rfl, fun _ => B_trans (hI.2.1 (by omega)) hb2, fun h => by omega⟩, fun t ht => by cases ht; rfl⟩
      refine ⟨⟨rfl, fun t ht k' outs u _ => by cases ht; rfl, fun k' outs W' ρ hk1 hk2 hI hc hg h_fn hr ho => ?_⟩, ?_⟩
      · have r15 : ρ (.tmp 15) = (.slice (some ⟨g, 0, none⟩) (N + 1) cap) := hr 15 (by kernel_rfl)
        have r16 : ρ (.tmp 16) = .int .i64 m := hr 16 (by kernel_rfl)
        clear hI
        refine step_pure rfl (v := .pointer (some ⟨g, m * 2, none⟩)) (fun t ht => by cases ht; rfl) ?_
        go_simp
      refine ⟨⟨rfl, (fun t ht => by cases ht), fun k' outs W' ρ hk1 hk2 hI hc hg h_fn hr ho => ?_⟩, trivial⟩
      · obtain rfl : k' = 1 := by have h1 : 1 ≤ k' := hk1; have h2 : k' ≤ 1 := hk2; omega
        have r34 : ρ (.tmp 34) = .pointer (some ⟨g, m * 2, none⟩) := hr 34 (by kernel_rfl)
        have r33 : ρ (.tmp 33) = .agg #[.int .i64 u, .int .i64 v] := (hr 33 (by kernel_rfl)).trans (hI.1 (by omega))
        have hbW := hI.2.1 (by omega)
        obtain ⟨f0, f1, f2, f3, f4, f5, f6, f7, f8, f9, f10, f11, f12, f13, f14, f15⟩ := HK.out W' hbW
        have z0 := HF.out W' hbW (m * 2)
        have z1 := HF.out W' hbW (m * 2 + 1)
        refine step_store rfl rfl (w' := (W'.setCell ⟨g, m * 2, none⟩ (.int .i64 u)).setCell ⟨g, m * 2 + 1, none⟩ (.int .i64 v)) ?_ ⟨fun _ => hI.1 (by omega), fun h => by omega, fun _ => ⟨W', hbW, rfl⟩⟩
        clear hI hbW; go_simp
  case done =>
    rintro D xs W hD rfl ⟨C', h1, h2, h3, h4, h5, h6, -⟩ hK
    have c0 := h4.cell 0
    have f0 := h4.frozen 0
    simp only [List.getElem?_toArray, List.getElem?_cons_zero] at c0
    have hs4 := h4.set 0 (.slice (some ⟨g, 0, none⟩) (N + 1) cap)
    have e1 := h1.other (p := ⟨w.heap.size + 1, 0, none⟩) (by simp only; omega) (.slice (some ⟨g, 0, none⟩) (N + 1) cap)
    have e5 := row_set (a := ⟨w.heap.size + 1, 0, none⟩) h5 (h4.row h5 (by decide)) (.slice (some ⟨g, 0, none⟩) (N + 1) cap)
    have e6 := h6.setCell (p := ⟨w.heap.size + 1, 0, none⟩) (by simp) (.slice (some ⟨g, 0, none⟩) (N + 1) cap)
    have eK : (W.setCell ⟨w.heap.size + 1, 0, none⟩ (.slice (some ⟨g, 0, none⟩) (N + 1) cap)).heap[D]? = some (.deferred (some [])) := (Below.heap_setCell _ _ _ _ (by simp only; omega)).trans hK
    have hq := grownBy_putObj' (W.setCell ⟨w.heap.size + 1, 0, none⟩ (.slice (some ⟨g, 0, none⟩) (N + 1) cap)) D (.deferred none)
    have E1 := Lib.hid (e1.grown hq (by intro e; cases e; omega))
    have E5 := Lib.hid (row_own e5 hq (fun r e => by cases e; exact ⟨_, eK, rfl⟩))
    have E6 := Lib.hid (below_own e6 (Nat.le_refl _) hq (fun r e => by cases e; omega))
    have c1 := (hs4.grown hq (by intro e; cases e; omega)).cell 0
    simp only [List.setIfInBounds_toArray, List.set_cons_zero, List.getElem?_toArray, List.getElem?_cons_zero] at c1
    clear h1 h3 h4 h5 h6 hs4 e1 e5 e6 hq
    gi_wp2
    refine ⟨by simp, .inl ⟨_, _, rfl, run_takeDeferred eK, ?_⟩⟩
    exact ⟨.tuple #[.slice (some ⟨g, 0, none⟩) (N + 1) cap, sv], by simp [results, Try.results71, go_sem, c1], ⟨g, cap, C', sv, rfl, by omega, E1.out, h2, E5.out, E6.out⟩⟩
  case stop =>
    rintro D c pre W _ _ h _
    exact h.elim
end Go.Proofs.Ytanjkhclhcnnaaa
/- The closures of lost; IndexFunc. -/
namespace Go.Proofs.Ytanjkhclhcnnaaa
open Go.RowKit Go.Shelf

theorem lost2_any (a b lo : Int) (B : Nat) (w : World) (hc : w.cell? ⟨B, 7, none⟩ = some (.int .i64 lo)) :
    Calls Try.prog 97 #[.agg #[.int .i64 a, .int .i64 b], .pointer (some ⟨B, 0, none⟩)] w fun e w' => e = .returned (.bool (decide (lo ≤ b))) ∧ Below w.heap.size w w' := by
  have hB := World.block_lt_of_cell? w _ hc
  have hc2 : (w.alloc (.cells #[.int .i64 a, .int .i64 b] 28)).cell? ⟨B, 7, none⟩ = some (.int .i64 lo) := (alloc_old _ _ _ _ hB).trans hc
  go_enter Try.func97, Try.ntmps97
  go_wp2
  go_ret
  exact ⟨rfl, B_alloc (Below.refl _ _) _⟩
theorem lost3_any (a b lo : Int) (B : Nat) (w : World) (hc : w.cell? ⟨B, 7, none⟩ = some (.int .i64 lo)) :
    Calls Try.prog 98 #[.agg #[.int .i64 a, .int .i64 b], .pointer (some ⟨B, 0, none⟩)] w fun e w' => e = .returned (.bool (decide (lo ≤ a))) ∧ Below w.heap.size w w' := by
  have hB := World.block_lt_of_cell? w _ hc
  have hc2 : (w.alloc (.cells #[.int .i64 a, .int .i64 b] 28)).cell? ⟨B, 7, none⟩ = some (.int .i64 lo) := (alloc_old _ _ _ _ hB).trans hc
  go_enter Try.func98, Try.ntmps98
  go_wp2
  go_ret
  exact ⟨rfl, B_alloc (Below.refl _ _) _⟩

/-- The first index at which p holds, or -1. -/
def idxS (p : T2 → Bool) (L : List T2) : Int := if firstT (fun i => p (L.getD i (0, 0))) L.length 0 < L.length then (firstT (fun i => p (L.getD i (0, 0))) L.length 0 : Nat) else -1
theorem idxS_at {p : T2 → Bool} {L : List T2} {k : Nat} (h1 : ∀ i, i < k → p (L.getD i (0, 0)) = false) (h2 : p (L.getD k (0, 0)) = true) (h3 : k < L.length) : idxS p L = k := by
  have h := firstT_spec (p := fun i => p (L.getD i (0, 0))) (f := L.length) (k := 0)
  have e : firstT (fun i => p (L.getD i (0, 0))) L.length 0 = k := by
    obtain ⟨-, b, c, d⟩ := h
    rcases Nat.lt_trichotomy (firstT (fun i => p (L.getD i (0, 0))) L.length 0) k with h4 | h4 | h4
    · have h5 := d (by omega)
      have h6 := h1 _ h4
      rw [h6] at h5
      cases h5
    · exact h4
    · have h5 := c k (Nat.zero_le _) h4
      rw [h2] at h5
      cases h5
  unfold idxS
  rw [e, if_pos h3]
theorem idxS_none {p : T2 → Bool} {L : List T2} (h1 : ∀ i, i < L.length → p (L.getD i (0, 0)) = false) : idxS p L = -1 := by
  have h := firstT_spec (p := fun i => p (L.getD i (0, 0))) (f := L.length) (k := 0)
  unfold idxS
  rw [if_neg]
  intro h2
  have h3 := h.2.2.2 (by omega)
  have h4 := h1 _ h2
  rw [h4] at h3
  cases h3
theorem idxS_lt (p : T2 → Bool) (L : List T2) : idxS p L < L.length := by
  unfold idxS
  split
  · omega
  · omega
theorem idxS_ge (p : T2 → Bool) (L : List T2) : -1 ≤ idxS p L := by
  unfold idxS
  split
  · omega
  · omega

set_option maxHeartbeats 4000000 in
theorem indexFunc_any (f : Nat) (cap : Array Value) (p : T2 → Bool) (L : List T2) (a : Option Addr) (n c : Nat) (w : World) (hn : n ≤ 100000) (hs : Sl2 w a n L)
    (eg : ∀ args w, (callFunc f args).run Try.prog w = .ok (.enter f args) w)
    (hf : ∀ (x : T2) (W : World), Below w.heap.size w W → Calls Try.prog f (#[.agg #[.int .i64 x.1, .int .i64 x.2]] ++ cap) W fun e w' => e = .returned (.bool (p x)) ∧ Below W.heap.size W w') :
    Calls Try.prog 96 #[.slice a n c, .func (.func f) #[] cap] w fun e w' => e = .returned (.int .i64 (idxS p L)) ∧ Below w.heap.size w w' := by
  replace hf := Lib.hid hf
  replace hs := Lib.hid hs
  go_enter Try.func96, Try.ntmps96
  go_wp2
  go_loopg [5, 8] n (fun gk s5 i wr => ∃ k : Nat, gk = n - k ∧ k ≤ n ∧ i = .int .i64 (k : Int) ∧ (∀ j, j < k → p (L.getD j (0, 0)) = false) ∧ Below w.heap.size w wr)
  case atStart => exact ⟨0, rfl, Nat.zero_le _, rfl, fun j hj => absurd hj (Nat.not_lt_zero _), Below.refl _ _⟩
  case round =>
    obtain ⟨k, hgk, hk, rfl, hno, hb⟩ := hrel
    by_cases hlt : k < n
    · obtain ⟨b, o, hab, hbs, hc⟩ := (hs.out.below hb).at_ (by omega)
      obtain ⟨c0, c1⟩ := hc k hlt
      have hC := hf.out (L.getD k (0, 0)) wr hb
      have hkn : (k : Int) < n := by omega
      have hk0 : (0 : Int) ≤ k := by omega
      have hlen := hs.out.len
      cases hp : p (L.getD k (0, 0)) with
      | false =>
        rw [hp] at hC
        have hno2 : Hid (∀ j, j < k + 1 → p (L.getD j (0, 0)) = false) := fun j hj => by
          by_cases e : j = k
          · subst e; exact hp
          · exact hno j (by omega)
        generalize L.getD k (0, 0) = x at c0 c1 hC
        replace hC := Lib.hid hC
        replace hb := Lib.hid hb
        clear hc hno hp
        rw [hab]
        go_wp2_with fail
        refine hC.out.mono ?_
        rintro e w1 ⟨rfl, hb1⟩
        go_wp2
        rw [← hab]
        go_roundg (n - (k + 1))
        case measure => omega
        case rel => exact ⟨k + 1, rfl, hlt, by push_cast; rfl, hno2.out, B_trans hb.out hb1⟩
      | true =>
        rw [hp] at hC
        have hres := idxS_at hno hp (by rw [hlen]; exact hlt)
        generalize L.getD k (0, 0) = x at c0 c1 hC
        replace hC := Lib.hid hC
        replace hb := Lib.hid hb
        replace hres := Lib.hid hres
        clear hc hno hp
        rw [hab]
        go_wp2_with fail
        refine hC.out.mono ?_
        rintro e w1 ⟨rfl, hb1⟩
        go_wp2
        go_ret
        exact ⟨by rw [hres.out]; rfl, B_trans hb.out hb1⟩
    · obtain rfl : k = n := by omega
      have hlen := hs.out.len
      have hres := Lib.hid (idxS_none (p := p) (L := L) (by rw [hlen]; exact hno))
      have hkn : ¬ (k : Int) < k := by omega
      replace hb := Lib.hid hb
      clear hno
      go_wp2
      go_ret
      exact ⟨by rw [hres.out]; rfl, hb.out⟩

def lostS (p : T2 → Bool) (first : Int) (L : List T2) : Int := if 0 ≤ idxS p L then first + idxS p L else -1

set_option maxHeartbeats 4000000 in
theorem lost1_any (f : Nat) (cap : Array Value) (p : T2 → Bool) (L : List T2) (a : Option Addr) (n c B Lv : Nat) (first : Int) (w : World) (hn : n ≤ 100000) (h0 : 0 ≤ first) (h1 : first ≤ 1000000) (hs : Sl2 w a n L)
    (hL : w.cell? ⟨Lv, 0, none⟩ = some (.slice a n c)) (hB : w.cell? ⟨B, 8, none⟩ = some (.int .i64 first))
    (eg : ∀ args w, (callFunc f args).run Try.prog w = .ok (.enter f args) w)
    (hf : ∀ (x : T2) (W : World), Below w.heap.size w W → Calls Try.prog f (#[.agg #[.int .i64 x.1, .int .i64 x.2]] ++ cap) W fun e w' => e = .returned (.bool (p x)) ∧ Below W.heap.size W w') :
    Calls Try.prog 95 #[.func (.func f) #[] cap, .pointer (some ⟨Lv, 0, none⟩), .pointer (some ⟨B, 0, none⟩)] w fun e w' => e = .returned (.int .i64 (lostS p first L)) ∧ Below w.heap.size w w' := by
  have H1 := Lib.hid (indexFunc_any f cap p L a n c w hn hs eg hf)
  have hlt := World.block_lt_of_cell? w _ hB
  have hge := idxS_ge p L
  have hup := idxS_lt p L
  have hlen := hs.len
  clear hf hs
  unfold lostS
  generalize idxS p L = q at H1 hge hup ⊢
  by_cases hq : 0 ≤ q
  · rw [if_pos hq]
    go_enter Try.func95, Try.ntmps95
    go_wp2_with fail
    refine H1.out.mono ?_
    rintro e w1 ⟨rfl, hb1⟩
    have hB1 := (hb1.cell (p := ⟨B, 8, none⟩) hlt).trans hB
    go_wp2
    go_ret
    exact ⟨rfl, hb1⟩
  · rw [if_neg hq]
    go_enter Try.func95, Try.ntmps95
    go_wp2_with fail
    refine H1.out.mono ?_
    rintro e w1 ⟨rfl, hb1⟩
    go_wp2
    go_ret
    exact ⟨rfl, hb1⟩
end Go.Proofs.Ytanjkhclhcnnaaa
/- lost, from what is known. -/
namespace Go.Proofs.Ytanjkhclhcnnaaa
open Go.RowKit Go.Shelf

theorem SpC.sl2 {W : World} {g : Nat} {C : Array Value} {L : List T2} (h : SpC C L) (hO : Ob W g 28 C) : Sl2 W (some ⟨g, 0, none⟩) L.length L :=
  ⟨rfl, fun _ => ⟨g, 0, rfl, hO.lt, fun i hi => by
    rw [Nat.zero_add]
    exact ⟨(hO.cell _).trans (h.c i hi).1, (hO.cell _).trans (h.c i hi).2⟩⟩⟩
def lostP (t : TkA) (LL : List T2) : T2 := (lostS (fun x => decide (t.r.lost ≤ x.2)) t.first LL, lostS (fun x => decide (t.r.lost ≤ x.1)) t.first LL)

set_option maxRecDepth 100000 in
set_option maxHeartbeats 8000000 in
theorem lost_any (t : TkA) (v : Value) (N : Nat) (LL : List T2) (w : World) (hv : ∃ a n c, v = .slice a n c) (hN : N ≤ 1000) (hL : LL.length = N + 1) (h0 : 0 ≤ t.first) (h1 : t.first ≤ 1000000)
    (HK : ∀ W, Below w.heap.size w W → Calls Try.prog 71 #[.agg (t.xc v)] W fun e W' => ∃ g cap C sv, e = .returned (.tuple #[.slice (some ⟨g, 0, none⟩) (N + 1) cap, sv]) ∧ W.heap.size ≤ g ∧ Ob W' g 28 C ∧ SpC C LL ∧ Below W.heap.size W W') :
    Calls Try.prog 73 #[.agg (t.xc v)] w fun e W' => e = .returned (.agg #[.int .i64 (lostP t LL).1, .int .i64 (lostP t LL).2]) ∧ Below w.heap.size w W' := by
  obtain ⟨va, vn, vc, rfl⟩ := hv
  obtain ⟨W2, hW2⟩ : ∃ W2, (w.alloc (.cells (t.xc (.slice va vn vc)) 104)).alloc (.cells #[.int .i64 0, .int .i64 0] 28) = W2 := ⟨_, rfl⟩
  have hb2 : Below w.heap.size w W2 := by rw [← hW2]; exact B_alloc (B_alloc (Below.refl _ _) _) _
  have z2 : W2.heap.size = w.heap.size + 1 + 1 := by rw [← hW2]; simp
  have hT2 : Ob W2 w.heap.size 104 (t.xc (.slice va vn vc)) := by rw [← hW2]; exact (Ob.new w _ _).alloc _
  have hR2 : Ob W2 (w.heap.size + 1) 28 #[.int .i64 0, .int .i64 0] := by rw [← hW2]; simpa using Ob.new (w.alloc (.cells (t.xc (.slice va vn vc)) 104)) #[.int .i64 0, .int .i64 0] 28
  have kt : ∀ j, W2.cell? ⟨w.heap.size, j, none⟩ = (t.xc (.slice va vn vc))[j]? := fun j => hT2.cell j
  have k0 := kt 0
  have k1 := kt 1
  have k2 := kt 2
  have k3 := kt 3
  have k4 := kt 4
  have k5 := kt 5
  have k6 := kt 6
  have k7 := kt 7
  have k8 := kt 8
  have k9 := kt 9
  have k10 := kt 10
  have k11 := kt 11
  have k12 := kt 12
  simp only [List.getElem?_toArray, List.getElem?_cons_zero, List.getElem?_cons_succ] at k0 k1 k2 k3 k4 k5 k6 k7 k8 k9 k10 k11 k12
  clear kt
  have HK2 := Lib.hid (HK W2 hb2)
  clear HK
  have hmf : ∀ (fn : Fn) (first cap : Array Value) (w : World), (Instr.makeFunc fn first cap).run Try.prog w = .ok (.func fn first cap) w := fun _ _ _ _ => rfl
  have H1 := Lib.hid (fun (W : World) (Lv g cap : Nat) (hs : Sl2 W (some ⟨g, 0, none⟩) LL.length LL) (hc : W.cell? ⟨Lv, 0, none⟩ = some (.slice (some ⟨g, 0, none⟩) LL.length cap)) (hT : Ob W w.heap.size 104 (t.xc (.slice va vn vc))) =>
    lost1_any 97 #[.pointer (some ⟨w.heap.size, 0, none⟩)] (fun x => decide (t.r.lost ≤ x.2)) LL (some ⟨g, 0, none⟩) LL.length cap w.heap.size Lv t.first W (by omega) h0 h1 hs hc (hT.cell 8) (fun _ _ => rfl) (fun x W' hb => lost2_any x.1 x.2 t.r.lost w.heap.size W' ((hT.below hb).cell 7)))
  have H2 := Lib.hid (fun (W : World) (Lv g cap : Nat) (hs : Sl2 W (some ⟨g, 0, none⟩) LL.length LL) (hc : W.cell? ⟨Lv, 0, none⟩ = some (.slice (some ⟨g, 0, none⟩) LL.length cap)) (hT : Ob W w.heap.size 104 (t.xc (.slice va vn vc))) =>
    lost1_any 98 #[.pointer (some ⟨w.heap.size, 0, none⟩)] (fun x => decide (t.r.lost ≤ x.1)) LL (some ⟨g, 0, none⟩) LL.length cap w.heap.size Lv t.first W (by omega) h0 h1 hs hc (hT.cell 8) (fun _ _ => rfl) (fun x W' hb => lost3_any x.1 x.2 t.r.lost w.heap.size W' ((hT.below hb).cell 7)))
  rw [hL] at H1 H2
  unfold lostP
  simp only
  generalize lostS (fun x => decide (t.r.lost ≤ x.2)) t.first LL = p at H1 ⊢
  generalize lostS (fun x => decide (t.r.lost ≤ x.1)) t.first LL = q at H2 ⊢
  replace hb2 := Lib.hid hb2
  replace hT2 := Lib.hid hT2
  replace hR2 := Lib.hid hR2
  replace hW2 := Lib.hid hW2
  go_enter Try.func73, Try.ntmps73
  go_wp2_with fail
  rw [hW2.out]
  refine HK2.out.mono ?_
  rintro e W3 ⟨g, cap, C, sv, rfl, hg, hC, hSp, hb3⟩
  clear k0 k1 k2 k3 k4 k5 k6 k7 k8 k9 k10 k11 k12
  have c1 := hb3.size
  obtain ⟨W4, hW4⟩ : ∃ W4, (W3.alloc (.cells #[.slice none 0 0] 49)).setCell ⟨W3.heap.size, 0, none⟩ (.slice (some ⟨g, 0, none⟩) (N + 1) cap) = W4 := ⟨_, rfl⟩
  have oT : Ob W4 w.heap.size 104 (t.xc (.slice va vn vc)) := by rw [← hW4]; exact ((hT2.out.below hb3).alloc _).other (by simp only; omega) _
  have oR : Ob W4 (w.heap.size + 1) 28 #[.int .i64 0, .int .i64 0] := by rw [← hW4]; exact ((hR2.out.below hb3).alloc _).other (by simp only; omega) _
  have oG : Ob W4 g 28 C := by rw [← hW4]; exact (hC.alloc _).other (by have := hC.lt; simp only; omega) _
  have oL : Ob W4 W3.heap.size 49 #[.slice (some ⟨g, 0, none⟩) (N + 1) cap] := by rw [← hW4]; exact (Ob.new W3 _ _).set 0 _
  have bW : Below w.heap.size w W4 := by rw [← hW4]; exact (B_alloc (B_trans hb2.out hb3) _).setCell (by simp only; omega) _
  have sG : Sl2 W4 (some ⟨g, 0, none⟩) (N + 1) LL := hL ▸ hSp.sl2 oG
  have HA := Lib.hid (And.intro oT (And.intro oR (And.intro oL (And.intro bW sG))))
  clear oT oR oG oL bW sG hC hb3 c1
  go_wp2_with fail
  clear hW4
  refine (H1.out W4 W3.heap.size g cap HA.out.2.2.2.2 (HA.out.2.2.1.cell 0) HA.out.1).mono ?_
  rintro e W5 ⟨rfl, hb5⟩
  go_wp2_with fail
  have HB := Lib.hid (show Ob W5 w.heap.size 104 (t.xc (.slice va vn vc)) ∧ Ob W5 (w.heap.size + 1) 28 #[.int .i64 0, .int .i64 0] ∧ Ob W5 W3.heap.size 49 #[.slice (some ⟨g, 0, none⟩) (N + 1) cap] ∧ Below w.heap.size w W5 ∧ Sl2 W5 (some ⟨g, 0, none⟩) (N + 1) LL from ⟨HA.out.1.below hb5, HA.out.2.1.below hb5, HA.out.2.2.1.below hb5, B_trans HA.out.2.2.2.1 hb5, HA.out.2.2.2.2.below hb5⟩)
  refine (H2.out W5 W3.heap.size g cap HB.out.2.2.2.2 (HB.out.2.2.1.cell 0) HB.out.1).mono ?_
  rintro e W6 ⟨rfl, hb6⟩
  have r6 := HB.out.2.1.below hb6
  have r0 := r6.cell 0
  have r1 := r6.cell 1
  have f0 := r6.frozen 0
  have f1 := r6.frozen 1
  simp only [List.getElem?_toArray, List.getElem?_cons_zero, List.getElem?_cons_succ] at r0 r1
  have bE := Lib.hid (B_trans HB.out.2.2.2.1 hb6)
  clear r6 hb6 hb5
  go_wp2
  refine bodyPost_ret (v := .agg #[.int .i64 p, .int .i64 q]) (by simp [results, Try.results73, go_sem, r0, r1]) rfl ⟨rfl, ?_⟩
  exact (bE.out.setCell (by simp only; omega) _).setCell (by simp only; omega) _
end Go.Proofs.Ytanjkhclhcnnaaa
/- Grade. -/
namespace Go.Proofs.Ytanjkhclhcnnaaa
open Go.RowKit Go.Shelf

def gradeL (r : RuA) (n : Int) : Nat := if r.g0 ≤ n then (if r.g1 ≤ n then (if r.g2 ≤ n then 3 else 2) else 1) else 0
def gradeS (r : RuA) (hs ws : List T2) (n : Int) : Int × Int := if (checkS r hs ws).2.2 ≠ 0 then (0, (checkS r hs ws).2.2) else if inB n 0 1000000 then (gradeL r n, 0) else (0, 7)

set_option maxRecDepth 100000 in
set_option maxHeartbeats 8000000 in
theorem grade_any (r : RuA) (hs ws : List T2) (n : Int) (w : World) (hR : RuR w r hs ws) :
    Calls Try.prog 24 #[.agg r.cs, .int .i64 n] w fun e w' => e = .returned (.tuple #[.int .i64 (gradeS r hs ws n).1, .int .i64 (gradeS r hs ws n).2]) ∧ Below w.heap.size w w' := by
  have hb0 : Below w.heap.size w (w.alloc (.cells r.cs 25)) := B_alloc (Below.refl _ _) _
  have H1 := Lib.hid (check_any r hs ws (w.alloc (.cells r.cs 25)) (hR.below hb0))
  have H2 := Lib.hid (fun W => within_any n 0 1000000 W)
  have hC : ∀ W, Below (w.alloc (.cells r.cs 25)).heap.size (w.alloc (.cells r.cs 25)) W → W.cell? ⟨w.heap.size, 4, none⟩ = some (.int .i64 r.g0) ∧ W.cell? ⟨w.heap.size, 5, none⟩ = some (.int .i64 r.g1) ∧ W.cell? ⟨w.heap.size, 6, none⟩ = some (.int .i64 r.g2) := fun W hb =>
    ⟨(hb.cell (p := ⟨w.heap.size, 4, none⟩) (by simp)).trans (World.cell?_alloc_at _ _ _ _ rfl), (hb.cell (p := ⟨w.heap.size, 5, none⟩) (by simp)).trans (World.cell?_alloc_at _ _ _ _ rfl), (hb.cell (p := ⟨w.heap.size, 6, none⟩) (by simp)).trans (World.cell?_alloc_at _ _ _ _ rfl)⟩
  replace hC := Lib.hid hC
  unfold gradeS
  generalize checkS r hs ws = c at H1 ⊢
  obtain ⟨c1, c2, c3⟩ := c
  simp only [tri] at H1 ⊢
  replace hb0 := Lib.hid hb0
  clear hR
  by_cases he : c3 = 0
  · subst he
    rw [if_neg (by simp)]
    cases hq : inB n 0 1000000 with
    | false =>
      rw [if_neg (by simp)]
      rw [hq] at H2
      go_enter Try.func24, Try.ntmps24
      go_wp2_with (first | (go_at_call 15; ((with_reducible refine (H1.out).mono ?_); rintro e w1 ⟨rfl, hb1⟩)) | (go_at_call 49; ((with_reducible refine (H2.out _).mono ?_); rintro e w2 ⟨rfl, rfl⟩)))
      go_ret2
      exact ⟨rfl, B_trans hb0.out hb1⟩
    | true =>
      rw [if_pos rfl]
      rw [hq] at H2
      simp only
      go_enter Try.func24, Try.ntmps24
      go_wp2_with (first | (go_at_call 15; ((with_reducible refine (H1.out).mono ?_); rintro e w1 ⟨rfl, hb1'⟩; have hb1 := Lib.hid hb1'; clear hb1')) | (go_at_call 49; ((with_reducible refine (H2.out _).mono ?_); rintro e w2 ⟨rfl, rfl⟩)))
      go_loopg [9] 3 (fun gk i wr => ∃ k : Nat, gk = 3 - k ∧ k ≤ 3 ∧ i = .int .i64 (k : Int) ∧ (1 ≤ k → r.g0 ≤ n) ∧ (2 ≤ k → r.g1 ≤ n) ∧ (3 ≤ k → r.g2 ≤ n) ∧ wr = w1)
      case atStart => exact ⟨0, rfl, by omega, rfl, fun h => by omega, fun h => by omega, fun h => by omega, rfl⟩
      case round =>
        obtain ⟨k, hgk, hk, rfl, h1, h2, h3, rfl⟩ := hrel
        obtain ⟨q0, q1, q2⟩ := hC.out _ hb1.out
        have hk4 : k = 0 ∨ k = 1 ∨ k = 2 ∨ k = 3 := by omega
        rcases hk4 with rfl | rfl | rfl | rfl
        · clear h1 h2 h3
          by_cases g : r.g0 ≤ n
          · go_wp2
            go_roundg 2
            case measure => omega
            case rel => exact ⟨1, rfl, by omega, rfl, fun _ => g, fun h => by omega, fun h => by omega, rfl⟩
          · have hz : gradeL r n = 0 := by unfold gradeL; rw [if_neg g]
            go_wp2
            go_ret2
            exact ⟨by first | rfl | (rw [hz]; rfl), B_trans hb0.out hb1.out⟩
        · replace h1 := h1 (by omega)
          clear h2 h3
          by_cases g : r.g1 ≤ n
          · go_wp2
            go_roundg 1
            case measure => omega
            case rel => exact ⟨2, rfl, by omega, rfl, fun _ => h1, fun _ => g, fun h => by omega, rfl⟩
          · have hz : gradeL r n = 1 := by unfold gradeL; rw [if_pos h1, if_neg g]
            go_wp2
            go_ret2
            exact ⟨by first | rfl | (rw [hz]; rfl), B_trans hb0.out hb1.out⟩
        · replace h1 := h1 (by omega)
          replace h2 := h2 (by omega)
          clear h3
          by_cases g : r.g2 ≤ n
          · go_wp2
            go_roundg 0
            case measure => omega
            case rel => exact ⟨3, rfl, by omega, rfl, fun _ => h1, fun _ => h2, fun _ => g, rfl⟩
          · have hz : gradeL r n = 2 := by unfold gradeL; rw [if_pos h1, if_pos h2, if_neg g]
            go_wp2
            go_ret2
            exact ⟨by first | rfl | (rw [hz]; rfl), B_trans hb0.out hb1.out⟩
        · have hz : gradeL r n = 3 := by unfold gradeL; rw [if_pos (h1 (by omega)), if_pos (h2 (by omega)), if_pos (h3 (by omega))]
          clear h1 h2 h3
          go_wp2
          go_ret2
          exact ⟨by first | rfl | (rw [hz]; rfl), B_trans hb0.out hb1.out⟩
  · rw [if_pos he]
    simp only
    go_enter Try.func24, Try.ntmps24
    go_wp2_with (first | (go_at_call 15; ((with_reducible refine (H1.out).mono ?_); rintro e w1 ⟨rfl, hb1⟩)))
    go_ret2
    exact ⟨rfl, B_trans hb0.out hb1⟩
end Go.Proofs.Ytanjkhclhcnnaaa
/- Levels and Lost, from what is known. -/
namespace Go.Proofs.Ytanjkhclhcnnaaa
open Go.RowKit Go.Shelf

/-- What a task without an error keeps. -/
structure TaskOK (t : TkA) (hs ws : List T2) (ds : List T4) (ts : List T3) : Prop where
  r : (checkS t.r hs ws).2.2 = 0
  dn : t.dn ≤ 400
  tn : t.tn ≤ 20
  first : 0 ≤ t.first ∧ t.first ≤ 80000 - t.dn
  days : (daysE ds t.dn).2 = 0
  start : lvE (t.lo, t.hi) = 0
  tests : (testsE t.first t.dn ts t.tn).2 = 0
theorem TaskOK.of {t : TkA} {hs ws : List T2} {ds : List T4} {ts : List T3} (h : (taskS t hs ws ds ts).2.2 = 0) : TaskOK t hs ws ds ts := by
  unfold taskS at h
  by_cases h1 : (checkS t.r hs ws).2.2 = 0
  · rw [if_neg (by simpa using h1)] at h
    by_cases h2 : 400 < t.dn ∨ 20 < t.tn
    · rw [if_pos h2] at h; cases h
    · rw [if_neg h2] at h
      split at h
      · rename_i h3
        have h3 := inB_iff.1 h3
        by_cases h4 : (daysE ds t.dn).2 = 0
        · rw [if_neg (by simpa using h4)] at h
          by_cases h5 : lvE (t.lo, t.hi) = 0
          · rw [if_neg (by simpa using h5)] at h
            by_cases h6 : (testsE t.first t.dn ts t.tn).2 = 0
            · exact ⟨h1, by omega, by omega, h3, h4, h5, h6⟩
            · rw [if_pos h6] at h; exact absurd h h6
          · rw [if_pos h5] at h; exact absurd h h5
        · rw [if_pos h4] at h; exact absurd h h4
      · cases h
  · rw [if_pos h1] at h; exact absurd h h1

set_option maxRecDepth 100000 in
set_option maxHeartbeats 8000000 in
theorem levels_bad (t : TkA) (hs ws : List T2) (ds : List T4) (ts : List T3) (w : World) (hR : TkR w t hs ws ds ts) (he : (taskS t hs ws ds ts).2.2 ≠ 0) :
    Calls Try.prog 28 #[.agg t.cs] w fun e w' => e = .returned (.tuple #[.slice none 0 0, .slice none 0 0, .int .i64 (taskS t hs ws ds ts).2.2]) ∧ Below w.heap.size w w' := by
  have hb0 : Below w.heap.size w (w.alloc (.cells t.cs 31)) := B_alloc (Below.refl _ _) _
  have H1 := Lib.hid (checkTask_any t hs ws ds ts (w.alloc (.cells t.cs 31)) (hR.below hb0))
  generalize taskS t hs ws ds ts = c at H1 he ⊢
  obtain ⟨c1, c2, c3⟩ := c
  simp only [tri] at H1 he ⊢
  replace hb0 := Lib.hid hb0
  clear hR
  go_enter Try.func28, Try.ntmps28
  go_wp2_with (go_at_call 17; ((with_reducible refine (H1.out).mono ?_); rintro e w1 ⟨rfl, hb1⟩))
  refine bodyPost_ret (v := .tuple #[.slice none 0 0, .slice none 0 0, .int .i64 c3]) (by simp [results, Try.results28, go_sem]) rfl ⟨rfl, ?_⟩
  exact B_trans hb0.out hb1

set_option maxRecDepth 100000 in
set_option maxHeartbeats 8000000 in
theorem levels_ok (t : TkA) (hs ws : List T2) (ds : List T4) (ts : List T3) (k : Nat) (LL : List T2) (XS : List Value) (w : World) (hR : TkR w t hs ws ds ts) (he : (taskS t hs ws ds ts).2.2 = 0)
    (HK : ∀ W v, W.ownsRow w.heap.size 28 2 v t.dn (flat2 (ds.map (strS hs ws))) → Below w.heap.size w W → Calls Try.prog 71 #[.agg (t.xc v)] W fun e W' => ∃ g cap C sv, e = .returned (.tuple #[.slice (some ⟨g, 0, none⟩) (t.dn + 1) cap, sv]) ∧ W.heap.size ≤ g ∧ Ob W' g 28 C ∧ SpC C LL ∧ W'.ownsRow W.heap.size 78 2 sv k XS ∧ Below W.heap.size W W') :
    Calls Try.prog 28 #[.agg t.cs] w fun e W' => ∃ g cap C sv, e = .returned (.tuple #[.slice (some ⟨g, 0, none⟩) (t.dn + 1) cap, sv, .int .i64 0]) ∧ w.heap.size ≤ g ∧ Ob W' g 28 C ∧ SpC C LL ∧ W'.ownsRow w.heap.size 78 2 sv k XS ∧ Below w.heap.size w W' := by
  have ok := TaskOK.of he
  obtain ⟨w0, hw0⟩ : ∃ w0, w.alloc (.cells t.cs 31) = w0 := ⟨_, rfl⟩
  have hb0 : Below w.heap.size w w0 := by rw [← hw0]; exact B_alloc (Below.refl _ _) _
  have hT0 : TBox w0 w.heap.size t := by rw [← hw0]; exact TBox.new w t 31
  have H1 := Lib.hid (checkTask_any t hs ws ds ts w0 (hR.below hb0))
  have H2 := Lib.hid (fun W (h : Below w.heap.size w W) => taskOf_any t hs ws ds ts W (hR.below h) (RuOK.of ok.r) ok.dn)
  rw [show tri (taskS t hs ws ds ts) = .tuple #[.int .i64 (taskS t hs ws ds ts).1, .int .i64 (taskS t hs ws ds ts).2.1, .int .i64 (taskS t hs ws ds ts).2.2] from rfl, he] at H1
  generalize (taskS t hs ws ds ts).1 = c1 at H1
  generalize (taskS t hs ws ds ts).2.1 = c2 at H1
  replace hb0 := Lib.hid hb0
  replace HK := Lib.hid HK
  replace hT0 := Lib.hid hT0
  replace hw0 := Lib.hid hw0
  clear hR he ok
  go_enter Try.func28, Try.ntmps28
  go_wp2_with fail
  rw [hw0.out]
  refine H1.out.mono ?_
  rintro e w1 ⟨rfl, hb1⟩
  have hw1 := Lib.hid (B_trans hb0.out hb1)
  obtain ⟨q0, q1, q2, q3, q4, q5, q6, q7, q8, q9, q10, q11, q12⟩ := (hT0.out.below hb1).all
  clear hb1
  go_wp2_with fail
  refine (H2.out w1 hw1.out).mono ?_
  rintro e w2 ⟨⟨v, rfl, hrow⟩, hb2⟩
  have hw2 := Lib.hid (B_trans hw1.out hb2)
  have HK2 := Lib.hid (HK.out w2 v (row_base hrow hw1.out.size) hw2.out)
  clear HK q0 q1 q2 q3 q4 q5 q6 q7 q8 q9 q10 q11 q12 hrow hb2
  go_wp2_with fail
  refine HK2.out.mono ?_
  rintro e W3 ⟨g, cap, C, sv, rfl, hg, hC, hSp, hr3, hb3⟩
  go_wp2
  refine bodyPost_ret (v := .tuple #[.slice (some ⟨g, 0, none⟩) (t.dn + 1) cap, sv, .int .i64 0]) (by simp [results, Try.results28, go_sem]) rfl ⟨g, cap, C, sv, rfl, Nat.le_trans hw2.out.size hg, hC, hSp, row_base hr3 hw2.out.size, B_trans hw2.out hb3⟩
end Go.Proofs.Ytanjkhclhcnnaaa
/- Lost, from what is known. -/
namespace Go.Proofs.Ytanjkhclhcnnaaa
open Go.RowKit Go.Shelf

set_option maxRecDepth 100000 in
set_option maxHeartbeats 8000000 in
theorem lostD_bad (t : TkA) (hs ws : List T2) (ds : List T4) (ts : List T3) (w : World) (hR : TkR w t hs ws ds ts) (he : (taskS t hs ws ds ts).2.2 ≠ 0) :
    Calls Try.prog 32 #[.agg t.cs] w fun e w' => e = .returned (.tuple #[.agg #[.int .i64 0, .int .i64 0], .int .i64 (taskS t hs ws ds ts).2.2]) ∧ Below w.heap.size w w' := by
  obtain ⟨w0, hw0⟩ : ∃ w0, (w.alloc (.cells t.cs 31)).alloc (.cells #[.int .i64 0, .int .i64 0] 28) = w0 := ⟨_, rfl⟩
  have hb0 : Below w.heap.size w w0 := by rw [← hw0]; exact B_alloc (B_alloc (Below.refl _ _) _) _
  have hT0 : TBox w0 w.heap.size t := by rw [← hw0]; exact (TBox.new w t 31).below (B_alloc (Below.refl _ _) _)
  have hO0 : Ob w0 (w.heap.size + 1) 28 #[.int .i64 0, .int .i64 0] := by rw [← hw0]; simpa using Ob.new (w.alloc (.cells t.cs 31)) #[.int .i64 0, .int .i64 0] 28
  have H1 := Lib.hid (checkTask_any t hs ws ds ts w0 (hR.below hb0))
  generalize taskS t hs ws ds ts = c at H1 he ⊢
  obtain ⟨c1, c2, c3⟩ := c
  simp only [tri] at H1 he ⊢
  obtain ⟨q0, q1, q2, q3, q4, q5, q6, q7, q8, q9, q10, q11, q12⟩ := hT0.all
  replace hb0 := Lib.hid hb0
  replace hw0 := Lib.hid hw0
  replace hO0 := Lib.hid hO0
  clear hR hT0
  go_enter Try.func32, Try.ntmps32
  go_wp2_with fail
  rw [hw0.out]
  refine H1.out.mono ?_
  rintro e w1 ⟨rfl, hb1⟩
  have o1 := hO0.out.below hb1
  have v0 := o1.cell 0
  have v1 := o1.cell 1
  have f0 := o1.frozen 0
  have f1 := o1.frozen 1
  simp only [List.getElem?_toArray, List.getElem?_cons_zero, List.getElem?_cons_succ] at v0 v1
  have hw1 := Lib.hid (B_trans hb0.out hb1)
  clear hb1 o1 q0 q1 q2 q3 q4 q5 q6 q7 q8 q9 q10 q11 q12
  go_wp2
  refine bodyPost_ret (v := .tuple #[.agg #[.int .i64 0, .int .i64 0], .int .i64 c3]) (by simp [results, Try.results32, go_sem, v0, v1]) rfl ⟨rfl, ?_⟩
  exact (hw1.out.setCell (by simp only; omega) _).setCell (by simp only; omega) _

set_option maxRecDepth 100000 in
set_option maxHeartbeats 8000000 in
theorem lostD_ok (t : TkA) (hs ws : List T2) (ds : List T4) (ts : List T3) (LL : List T2) (w : World) (hR : TkR w t hs ws ds ts) (he : (taskS t hs ws ds ts).2.2 = 0) (hL : LL.length = t.dn + 1)
    (HK : ∀ W v, W.ownsRow w.heap.size 28 2 v t.dn (flat2 (ds.map (strS hs ws))) → Below w.heap.size w W → Calls Try.prog 71 #[.agg (t.xc v)] W fun e W' => ∃ g cap C sv, e = .returned (.tuple #[.slice (some ⟨g, 0, none⟩) (t.dn + 1) cap, sv]) ∧ W.heap.size ≤ g ∧ Ob W' g 28 C ∧ SpC C LL ∧ Below W.heap.size W W') :
    Calls Try.prog 32 #[.agg t.cs] w fun e w' => e = .returned (.tuple #[.agg #[.int .i64 (lostP t LL).1, .int .i64 (lostP t LL).2], .int .i64 0]) ∧ Below w.heap.size w w' := by
  have ok := TaskOK.of he
  obtain ⟨w0, hw0⟩ : ∃ w0, (w.alloc (.cells t.cs 31)).alloc (.cells #[.int .i64 0, .int .i64 0] 28) = w0 := ⟨_, rfl⟩
  have hb0 : Below w.heap.size w w0 := by rw [← hw0]; exact B_alloc (B_alloc (Below.refl _ _) _) _
  have hT0 : TBox w0 w.heap.size t := by rw [← hw0]; exact (TBox.new w t 31).below (B_alloc (Below.refl _ _) _)
  have hO0 : Ob w0 (w.heap.size + 1) 28 #[.int .i64 0, .int .i64 0] := by rw [← hw0]; simpa using Ob.new (w.alloc (.cells t.cs 31)) #[.int .i64 0, .int .i64 0] 28
  have H1 := Lib.hid (checkTask_any t hs ws ds ts w0 (hR.below hb0))
  have H2 := Lib.hid (fun W (h : Below w.heap.size w W) => taskOf_any t hs ws ds ts W (hR.below h) (RuOK.of ok.r) ok.dn)
  have H3 := Lib.hid (fun W v (hv : W.ownsRow w.heap.size 28 2 v t.dn (flat2 (ds.map (strS hs ws)))) (h : Below w.heap.size w W) => lost_any t v t.dn LL W (by obtain ⟨a, c, e, -⟩ := sl2_row hv; exact ⟨a, _, c, e⟩) (by have := ok.dn; omega) hL ok.first.1 (by have := ok.first.2; omega)
    (fun W' h' => HK W' v (row_below hv h') (B_trans h h')))
  rw [show tri (taskS t hs ws ds ts) = .tuple #[.int .i64 (taskS t hs ws ds ts).1, .int .i64 (taskS t hs ws ds ts).2.1, .int .i64 (taskS t hs ws ds ts).2.2] from rfl, he] at H1
  generalize (taskS t hs ws ds ts).1 = c1 at H1
  generalize (taskS t hs ws ds ts).2.1 = c2 at H1
  generalize (lostP t LL).1 = p at H3 ⊢
  generalize (lostP t LL).2 = q at H3 ⊢
  obtain ⟨q0, q1, q2, q3, q4, q5, q6, q7, q8, q9, q10, q11, q12⟩ := hT0.all
  replace hb0 := Lib.hid hb0
  replace hw0 := Lib.hid hw0
  replace hO0 := Lib.hid hO0
  replace hT0 := Lib.hid hT0
  clear hR he ok HK
  go_enter Try.func32, Try.ntmps32
  go_wp2_with fail
  rw [hw0.out]
  refine H1.out.mono ?_
  rintro e w1 ⟨rfl, hb1⟩
  clear q0 q1 q2 q3 q4 q5 q6 q7 q8 q9 q10 q11 q12
  have hw1 := Lib.hid (B_trans hb0.out hb1)
  have o1 := Lib.hid (hO0.out.below hb1)
  obtain ⟨q0, q1, q2, q3, q4, q5, q6, q7, q8, q9, q10, q11, q12⟩ := (hT0.out.below hb1).all
  clear hb1
  go_wp2_with fail
  refine (H2.out w1 hw1.out).mono ?_
  rintro e w2 ⟨⟨v, rfl, hrow⟩, hb2⟩
  have hw2 := Lib.hid (B_trans hw1.out hb2)
  have o2 := Lib.hid (o1.out.below hb2)
  have HK2 := Lib.hid (H3.out w2 v (row_base hrow hw1.out.size) hw2.out)
  clear q0 q1 q2 q3 q4 q5 q6 q7 q8 q9 q10 q11 q12 hrow hb2 H3
  go_wp2_with fail
  refine HK2.out.mono ?_
  rintro e w3 ⟨rfl, hb3⟩
  have o3 := o2.out.below hb3
  have v0 := o3.cell 0
  have v1 := o3.cell 1
  have f0 := o3.frozen 0
  have f1 := o3.frozen 1
  simp only [List.getElem?_toArray, List.getElem?_cons_zero, List.getElem?_cons_succ] at v0 v1
  have hw3 := Lib.hid (B_trans hw2.out hb3)
  clear hb3 o3
  go_wp2
  refine bodyPost_ret (v := .tuple #[.agg #[.int .i64 p, .int .i64 q], .int .i64 0]) (by simp [results, Try.results32, go_sem, v0, v1]) rfl ⟨rfl, ?_⟩
  exact (hw3.out.setCell (by simp only; omega) _).setCell (by simp only; omega) _
end Go.Proofs.Ytanjkhclhcnnaaa

/- decay.Moved. -/
import Derived.Test.YtanjkhclhcnnaaaJY
namespace Go.Proofs.Ytanjkhclhcnnaaa
open Go Go.RowKit Go.Shelf

theorem rep_cells {W : World} {g b : Nat} {T : TypeId} {d : T4} (h : Ob W g T (sameD d b).toArray) {i : Nat} (hi : i < b) :
    W.cell? ⟨g, 0 + i * 4, none⟩ = some (.int .i64 ((List.replicate b d).getD i (0, 0, 0, 0)).1) ∧ W.cell? ⟨g, 0 + i * 4 + 1, none⟩ = some (.int .i64 ((List.replicate b d).getD i (0, 0, 0, 0)).2.1) ∧ W.cell? ⟨g, 0 + i * 4 + 2, none⟩ = some (.int .i64 ((List.replicate b d).getD i (0, 0, 0, 0)).2.2.1) ∧ W.cell? ⟨g, 0 + i * 4 + 3, none⟩ = some (.int .i64 ((List.replicate b d).getD i (0, 0, 0, 0)).2.2.2) := by
  obtain ⟨x0, x1, x2, x3⟩ := flat4_at (List.replicate b d) i (by rw [List.length_replicate]; exact hi)
  rw [Nat.zero_add, h.cell, h.cell, h.cell, h.cell, List.getElem?_toArray, List.getElem?_toArray, List.getElem?_toArray, List.getElem?_toArray]
  exact ⟨x0, x1, x2, x3⟩
theorem Sl3.put {W : World} {a : Option Addr} {n : Nat} {L : List T3} (h : Sl3 W a n L) {p : Addr} (hp : ∀ ad, a = some ad → p.block ≠ ad.block) (v : Value) : Sl3 (W.setCell p v) a n L :=
  ⟨h.len, fun hn => by
    obtain ⟨b, o, e, hb, hc⟩ := h.at_ hn
    have hne : p.block ≠ b := hp _ e
    refine ⟨b, o, e, by simpa using hb, fun i hi => ?_⟩
    obtain ⟨c0, c1, c2⟩ := hc i hi
    have key : ∀ j u, W.cell? ⟨b, j, none⟩ = some u → (W.setCell p v).cell? ⟨b, j, none⟩ = some u := fun j u hu => by
      exact (World.cell?_setCell_other (w := W) (v := v) (h := (show p ≠ ⟨b, j, none⟩ by intro e2; rw [e2] at hne; exact hne rfl))).trans hu
    exact ⟨key _ _ c0, key _ _ c1, key _ _ c2⟩⟩
/-- When a reel is lost that is moved. -/
def movV (t : TkA) (hs ws : List T2) (ds : List T4) (ts : List T3) (k : Nat) (d : T4) (x : Int) : T2 := lostP (t.movedT_ none 0 none (keptL ts x).length 0) (levT (t.movedT_ none 0 none (keptL ts x).length 0) hs ws (movedL ds k t.dn d) (keptL ts x))
theorem movV_same (t : TkA) (hs ws : List T2) (ds : List T4) (ts : List T3) (k : Nat) (d : T4) (x : Int) (da : Option Addr) (dc : Nat) (ta : Option Addr) (tc : Nat) : lostP (t.movedT_ da dc ta (keptL ts x).length tc) (levT (t.movedT_ da dc ta (keptL ts x).length tc) hs ws (movedL ds k t.dn d) (keptL ts x)) = movV t hs ws ds ts k d x := by
  unfold movV lostP levT reachT morT
  rfl
def need10m : Nat → Nat := fun i => [0, 0, 0, 0, 0, 0, 0, 0, 0, 0, 0, 1, 2, 3, 4, 4].getD i 0
def till10m : Nat → Nat := fun i => [4, 4, 4, 4, 4, 0, 4, 4, 4, 4, 4, 1, 2, 3, 4, 4].getD i 0
def eff10m : Nat → Bool := fun i => [false, false, false, false, false, true, false, false, false, false, false, true, true, true, false, true].getD i false

def V10m (t : TkA) (T p o k b : Nat) (d0 d1 d2 d3 : Int) (outs : Nat → Value) : Nat → Value
  | 46 => .pointer (some ⟨T, 9, none⟩)
  | 47 => .slice (some ⟨p, o, none⟩) t.dn t.dc
  | 48 => .int .i64 (k : Nat)
  | 49 => .slice (some ⟨p, o, none⟩) k t.dc
  | 50 => .agg #[.int .i64 d0, .int .i64 d1, .int .i64 d2, .int .i64 d3]
  | 51 => outs 0
  | 52 => .pointer (some ⟨T, 9, none⟩)
  | 53 => .slice (some ⟨p, o, none⟩) t.dn t.dc
  | 54 => .int .i64 (t.dn : Nat)
  | 55 => .int .i64 (k : Nat)
  | 56 => .int .i64 (b : Nat)
  | 57 => outs 1
  | 58 => outs 2
  | 59 => outs 3
  | 60 => .pointer (some ⟨T, 9, none⟩)
  | _ => undef

structure I10m (t : TkA) (ds : List T4) (d0 d1 d2 d3 : Int) (p o k b : Nat) (x : Int) (w w3 : World) (j : Nat) (outs : Nat → Value) (W : World) : Prop where
  bl : Below w.heap.size w W
  bb : j ≤ 4 → Below w3.heap.size w3 W
  X : Ob W (w.heap.size + 1) 3 #[.int .i64 x]
  S : Ob W (w.heap.size + 1 + 1 + 1) 28 #[.int .i64 0, .int .i64 0]
  a0 : j = 1 → ∃ q, outs 0 = .slice (some ⟨q, 0, none⟩) 1 1 ∧ Ob W q 39 #[.int .i64 d0, .int .i64 d1, .int .i64 d2, .int .i64 d3]
  a1 : j = 2 → ∃ g, outs 1 = .slice (some ⟨g, 0, none⟩) b b ∧ Ob W g 39 (sameD (d0, d1, d2, d3) b).toArray
  a2 : j = 3 → ∃ q g, outs 2 = .slice (some ⟨q, 0, none⟩) 2 2 ∧ Ob W q 26 #[.slice (some ⟨p, o, none⟩) k t.dc, .slice (some ⟨g, 0, none⟩) b b] ∧ Ob W g 39 (sameD (d0, d1, d2, d3) b).toArray
  a3 : j = 4 → ∃ va vc, outs 3 = .slice va t.dn vc ∧ W.ownsRow w3.heap.size 39 4 (.slice va t.dn vc) t.dn (flat4 (movedL ds k t.dn (d0, d1, d2, d3)))
  e : j = 5 → ∃ va vc, Ob W w.heap.size 31 #[(.slice t.r.ha t.r.hn t.r.hc), (.slice t.r.wa t.r.wn t.r.wc), (.int .i64 t.r.own), (.int .i64 t.r.feed), (.int .i64 t.r.g0), (.int .i64 t.r.g1), (.int .i64 t.r.g2), (.int .i64 t.r.lost), (.int .i64 t.first), (.slice va t.dn vc), (.int .i64 t.lo), (.int .i64 t.hi), (.slice t.ta t.tn t.tc)] ∧ W.ownsRow w3.heap.size 39 4 (.slice va t.dn vc) t.dn (flat4 (movedL ds k t.dn (d0, d1, d2, d3)))

set_option maxRecDepth 100000 in
set_option maxHeartbeats 16000000 in
theorem moved_any (t : TkA) (hs ws : List T2) (ds : List T4) (ts : List T3) (x : Int) (k : Nat) (d0 d1 d2 d3 : Int) (w : World) (hR : TkR w t hs ws ds ts) (hcap : t.dn ≤ t.dc) (he : (taskS t hs ws ds ts).2.2 = 0) (hk : k < t.dn) (hx : x = t.first + (k : Int)) (hd : dayE (d0, d1, d2, d3) = 0) :
    Calls Try.prog 34 #[.agg #[(.slice t.r.ha t.r.hn t.r.hc), (.slice t.r.wa t.r.wn t.r.wc), (.int .i64 t.r.own), (.int .i64 t.r.feed), (.int .i64 t.r.g0), (.int .i64 t.r.g1), (.int .i64 t.r.g2), (.int .i64 t.r.lost), (.int .i64 t.first), (.slice t.da t.dn t.dc), (.int .i64 t.lo), (.int .i64 t.hi), (.slice t.ta t.tn t.tc)], .int .i64 x, .agg #[.int .i64 d0, .int .i64 d1, .int .i64 d2, .int .i64 d3]] w fun e w' => e = .returned (.tuple #[.agg #[.int .i64 (movV t hs ws ds ts k (d0, d1, d2, d3) x).1, .int .i64 (movV t hs ws ds ts k (d0, d1, d2, d3) x).2], .int .i64 0]) ∧ Below w.heap.size w w' := by
  obtain ⟨⟨l, m⟩, hLP⟩ : ∃ LP, movV t hs ws ds ts k (d0, d1, d2, d3) x = LP := ⟨_, rfl⟩
  rw [hLP]
  have HLP := Lib.hid hLP
  have ok : TaskOK t hs ws ds ts := TaskOK.of he
  have hO : RuOK t.r hs ws := RuOK.of ok.r
  have hdl : ds.length = t.dn := hR.d.len
  have hdn : t.dn ≤ 400 := ok.dn
  have hf1 : 0 ≤ t.first := ok.first.1
  have hf2 : t.first ≤ 80000 - (t.dn : Int) := ok.first.2
  obtain ⟨w0, hw0⟩ : ∃ w0, (((w.alloc (.cells #[(.slice t.r.ha t.r.hn t.r.hc), (.slice t.r.wa t.r.wn t.r.wc), (.int .i64 t.r.own), (.int .i64 t.r.feed), (.int .i64 t.r.g0), (.int .i64 t.r.g1), (.int .i64 t.r.g2), (.int .i64 t.r.lost), (.int .i64 t.first), (.slice t.da t.dn t.dc), (.int .i64 t.lo), (.int .i64 t.hi), (.slice t.ta t.tn t.tc)] 31)).alloc (.cells #[.int .i64 x] 3)).alloc (.cells #[.int .i64 d0, .int .i64 d1, .int .i64 d2, .int .i64 d3] 39)).alloc (.cells #[.int .i64 0, .int .i64 0] 28) = w0 := ⟨_, rfl⟩
  have hb0 : Below w.heap.size w w0 := by rw [← hw0]; exact B_alloc (B_alloc (B_alloc (B_alloc (Below.refl _ _) _) _) _) _
  have oT : Ob w0 w.heap.size 31 #[(.slice t.r.ha t.r.hn t.r.hc), (.slice t.r.wa t.r.wn t.r.wc), (.int .i64 t.r.own), (.int .i64 t.r.feed), (.int .i64 t.r.g0), (.int .i64 t.r.g1), (.int .i64 t.r.g2), (.int .i64 t.r.lost), (.int .i64 t.first), (.slice t.da t.dn t.dc), (.int .i64 t.lo), (.int .i64 t.hi), (.slice t.ta t.tn t.tc)] := by rw [← hw0]; exact (((Ob.new _ _ _).alloc _).alloc _).alloc _
  have oX : Ob w0 (w.heap.size + 1) 3 #[.int .i64 x] := by
    rw [← hw0]
    have h := ((Ob.new (w.alloc (.cells #[(.slice t.r.ha t.r.hn t.r.hc), (.slice t.r.wa t.r.wn t.r.wc), (.int .i64 t.r.own), (.int .i64 t.r.feed), (.int .i64 t.r.g0), (.int .i64 t.r.g1), (.int .i64 t.r.g2), (.int .i64 t.r.lost), (.int .i64 t.first), (.slice t.da t.dn t.dc), (.int .i64 t.lo), (.int .i64 t.hi), (.slice t.ta t.tn t.tc)] 31)) #[.int .i64 x] 3).alloc (.cells #[.int .i64 d0, .int .i64 d1, .int .i64 d2, .int .i64 d3] 39)).alloc (.cells #[.int .i64 0, .int .i64 0] 28)
    simpa using h
  have oD : Ob w0 (w.heap.size + 1 + 1) 39 #[.int .i64 d0, .int .i64 d1, .int .i64 d2, .int .i64 d3] := by
    rw [← hw0]
    have h := (Ob.new ((w.alloc (.cells #[(.slice t.r.ha t.r.hn t.r.hc), (.slice t.r.wa t.r.wn t.r.wc), (.int .i64 t.r.own), (.int .i64 t.r.feed), (.int .i64 t.r.g0), (.int .i64 t.r.g1), (.int .i64 t.r.g2), (.int .i64 t.r.lost), (.int .i64 t.first), (.slice t.da t.dn t.dc), (.int .i64 t.lo), (.int .i64 t.hi), (.slice t.ta t.tn t.tc)] 31)).alloc (.cells #[.int .i64 x] 3)) #[.int .i64 d0, .int .i64 d1, .int .i64 d2, .int .i64 d3] 39).alloc (.cells #[.int .i64 0, .int .i64 0] 28)
    simpa using h
  have oS : Ob w0 (w.heap.size + 1 + 1 + 1) 28 #[.int .i64 0, .int .i64 0] := by
    rw [← hw0]
    have h := Ob.new (((w.alloc (.cells #[(.slice t.r.ha t.r.hn t.r.hc), (.slice t.r.wa t.r.wn t.r.wc), (.int .i64 t.r.own), (.int .i64 t.r.feed), (.int .i64 t.r.g0), (.int .i64 t.r.g1), (.int .i64 t.r.g2), (.int .i64 t.r.lost), (.int .i64 t.first), (.slice t.da t.dn t.dc), (.int .i64 t.lo), (.int .i64 t.hi), (.slice t.ta t.tn t.tc)] 31)).alloc (.cells #[.int .i64 x] 3)).alloc (.cells #[.int .i64 d0, .int .i64 d1, .int .i64 d2, .int .i64 d3] 39)) #[.int .i64 0, .int .i64 0] 28
    simpa using h
  have hz : w0.cell? ⟨w.heap.size + 1, 0, none⟩ = some (.int .i64 x) := oX.cell 0
  obtain ⟨p, o, hda, hpl, hdc⟩ := hR.d.at_ (show 0 < t.dn by omega)
  have hda' : t.da = some ⟨p, o, none⟩ := hda
  obtain ⟨b, hbk⟩ : ∃ b, b = t.dn - k := ⟨_, rfl⟩
  have hB : Hid ((ds.take k).length = k ∧ (List.replicate b ((d0, d1, d2, d3) : T4)).length = b ∧ (1 ≤ b ∧ b ≤ 400) ∧ (1 ≤ b ∧ k + b ≤ 400) ∧ k + b = t.dn ∧ ds.take k ++ List.replicate b (d0, d1, d2, d3) = movedL ds k t.dn (d0, d1, d2, d3)) :=
    ⟨by rw [List.length_take]; omega, List.length_replicate, by omega, by omega, by omega, by rw [hbk]; rfl⟩
  have HYA : Hid (∀ W', Below w.heap.size w W' → ∀ i, i < k → W'.cell? ⟨p, o + i * 4, none⟩ = some (.int .i64 ((ds.take k).getD i (0, 0, 0, 0)).1) ∧ W'.cell? ⟨p, o + i * 4 + 1, none⟩ = some (.int .i64 ((ds.take k).getD i (0, 0, 0, 0)).2.1) ∧ W'.cell? ⟨p, o + i * 4 + 2, none⟩ = some (.int .i64 ((ds.take k).getD i (0, 0, 0, 0)).2.2.1) ∧ W'.cell? ⟨p, o + i * 4 + 3, none⟩ = some (.int .i64 ((ds.take k).getD i (0, 0, 0, 0)).2.2.2)) := fun W' h i hi => by
    rw [show (ds.take k).getD i (0, 0, 0, 0) = ds.getD i (0, 0, 0, 0) by simp [List.getD, List.getElem?_take_of_lt hi]]
    obtain ⟨c0, c1, c2, c3⟩ := hdc i (show i < t.dn by omega)
    exact ⟨(h.cell (p := ⟨p, _, none⟩) hpl).trans c0, (h.cell (p := ⟨p, _, none⟩) hpl).trans c1, (h.cell (p := ⟨p, _, none⟩) hpl).trans c2, (h.cell (p := ⟨p, _, none⟩) hpl).trans c3⟩
  have HDA := Lib.hid hda'
  have HP := Lib.hid hpl
  have k1 : (0 : Int) ≤ k := by omega
  have k2 : (k : Int) ≤ t.dc := by omega
  have u0 : IntKind.i64.wrap (x - t.first) = (k : Int) := by rw [show x - t.first = (k : Int) by omega]; exact IntWalk.i64_in _ (by omega)
  have u1 : IntKind.i64.wrap (t.first + (t.dn : Int)) = t.first + (t.dn : Int) := IntWalk.i64_in _ (by omega)
  have u2 : IntKind.i64.wrap (t.first + (t.dn : Int) - 1) = t.first + (t.dn : Int) - 1 := IntWalk.i64_in _ (by omega)
  have u3 : IntKind.i64.wrap ((t.dn : Int) - (k : Int)) = (b : Int) := by rw [show (t.dn : Int) - (k : Int) = (b : Int) by omega]; exact IntWalk.i64_in _ (by omega)
  have hin : inB x t.first (t.first + (t.dn : Int) - 1) = true := inB_iff.2 (by omega)
  have H1 := checkTask_any t hs ws ds ts w0 (hR.below hb0)
  rw [show tri (taskS t hs ws ds ts) = .tuple #[.int .i64 (taskS t hs ws ds ts).1, .int .i64 (taskS t hs ws ds ts).2.1, .int .i64 (taskS t hs ws ds ts).2.2] from rfl, he] at H1
  generalize (taskS t hs ws ds ts).1 = c1 at H1
  generalize (taskS t hs ws ds ts).2.1 = c2 at H1
  have G1 := Lib.hid (show Calls Try.prog 17 #[.agg #[(.slice t.r.ha t.r.hn t.r.hc), (.slice t.r.wa t.r.wn t.r.wc), (.int .i64 t.r.own), (.int .i64 t.r.feed), (.int .i64 t.r.g0), (.int .i64 t.r.g1), (.int .i64 t.r.g2), (.int .i64 t.r.lost), (.int .i64 t.first), (.slice t.da t.dn t.dc), (.int .i64 t.lo), (.int .i64 t.hi), (.slice t.ta t.tn t.tc)]] w0 fun e w' => e = .returned (.tuple #[.int .i64 c1, .int .i64 c2, .int .i64 0]) ∧ Below w0.heap.size w0 w' from H1)
  have G2 := Lib.hid (show ∀ W, Calls Try.prog 49 #[.int .i64 x, .int .i64 t.first, .int .i64 (t.first + (t.dn : Int) - 1)] W fun e w' => e = .returned (.bool true) ∧ W = w' from fun W => by
    have h := within_any x t.first (t.first + (t.dn : Int) - 1) W
    rw [hin] at h
    exact h)
  have G3 := Lib.hid (show ∀ W, Calls Try.prog 55 #[.agg #[.int .i64 d0, .int .i64 d1, .int .i64 d2, .int .i64 d3]] W fun e w' => e = .returned (.int .i64 0) ∧ Below W.heap.size W w' from fun W => by
    have h := climateError_any (d0, d1, d2, d3) W
    rw [hd] at h
    exact h)
  have htn : t.tn ≤ 20 := ok.tn
  have HCl := Lib.hid (fun W (h : Below w.heap.size w W) => clone_any ts t.ta t.tn t.tc W (hR.below h).t (by omega))
  have HOK := Lib.hid (fun da dc ta tc => (ok.movedT hdl hR.t.len (Nat.le_of_lt hk) hd x da dc ta tc).zero)
  have HKL := Lib.hid (Nat.le_trans (kept_len ts x) (by rw [hR.t.len]; exact htn))
  have HO := Lib.hid hO
  have HF := Lib.hid (And.intro hdn (And.intro hf1 hf2))
  obtain ⟨q0, q1, q2, q3, q4, q5, q6, q7, q8, q9, q10, q11, q12⟩ := oT.thirteen
  obtain ⟨y0, y1, y2, y3⟩ := oD.day
  have W0 := Lib.hid hw0
  have B0 := Lib.hid hb0
  have O0 := Lib.hid (And.intro oT (And.intro oD (And.intro oS oX)))
  clear hLP he hw0 hb0 oT oX oD oS ok hO H1 hin hbk hdc hx hd hda' hda hpl hdl hdn hf1 hf2 hk hcap
  go_enter Try.func34, Try.ntmps34
  go_wp2_with fail
  rw [W0.out]
  refine G1.out.mono ?_
  rintro e w1 ⟨rfl, hb1⟩
  have B1 := Lib.hid (B_trans B0.out hb1)
  have O1 := Lib.hid (And.intro (O0.out.1.below hb1) (And.intro (O0.out.2.1.below hb1) (And.intro (O0.out.2.2.1.below hb1) (O0.out.2.2.2.below hb1))))
  clear q0 q1 q2 q3 q4 q5 q6 q7 q8 q9 q10 q11 q12 y0 y1 y2 y3 hz hb1
  obtain ⟨q0, q1, q2, q3, q4, q5, q6, q7, q8, q9, q10, q11, q12⟩ := O1.out.1.thirteen
  obtain ⟨y0, y1, y2, y3⟩ := O1.out.2.1.day
  have hz : w1.cell? ⟨w.heap.size + 1, 0, none⟩ = some (.int .i64 x) := O1.out.2.2.2.cell 0
  go_wp2_with fail
  refine (G2.out _).mono ?_
  rintro e w2 ⟨rfl, rfl⟩
  go_wp2_with fail
  refine (G3.out _).mono ?_
  rintro e w3 ⟨rfl, hb3⟩
  have B3 := Lib.hid (B_trans B1.out hb3)
  have O3 := Lib.hid (And.intro (O1.out.1.below hb3) (And.intro (O1.out.2.1.below hb3) (And.intro (O1.out.2.2.1.below hb3) (O1.out.2.2.2.below hb3))))
  clear q0 q1 q2 q3 q4 q5 q6 q7 q8 q9 q10 q11 q12 y0 y1 y2 y3 hz hb3
  obtain ⟨q0, q1, q2, q3, q4, q5, q6, q7, q8, q9, q10, q11, q12⟩ := O3.out.1.thirteen
  have hz : w3.cell? ⟨w.heap.size + 1, 0, none⟩ = some (.int .i64 x) := O3.out.2.2.2.cell 0
  have gS := O3.out.2.2.1.lt
  have gW : Hid (w.heap.size < w3.heap.size) := O3.out.1.lt
  go_upto_region 10 with fail
  clear q0 q1 q2 q3 q4 q5 q6 q7 q8 q9 q10 q11 q12 hz
  have J0 : Hid (I10m t ds d0 d1 d2 d3 p o k b x w w3 0 (fun _ => undef) w3.drew) := ⟨B3.out.drew, fun _ => (Below.refl _ _).drew, O3.out.2.2.2.drew, O3.out.2.2.1.drew, fun h => by omega, fun h => by omega, fun h => by omega, fun h => by omega, fun h => by omega⟩
  refine wp_region_steps (I := I10m t ds d0 d1 d2 d3 p o k b x w w3) (V := V10m t w.heap.size p o k b d0 d1 d2 d3) (eff := eff10m) (need := need10m) (till := till10m) 5 (by kernel_rfl) (by decide) (by kernel_rfl) rfl (by kernel_rfl) (by kernel_rfl) (by kernel_rfl) (by kernel_rfl) (by kernel_rfl) J0.out ?steps ?hend
  case hend =>
    intro outs w4 hI
    obtain ⟨va, vc, hT4, hrow⟩ := hI.e rfl
    have B4 := Lib.hid hI.bl
    have S4 := Lib.hid (And.intro hI.S (And.intro hT4 hrow))
    have X4 := Lib.hid hI.X
    clear hI J0 hT4 hrow
    simp only [flowAct, List.filterMap_cons, List.filterMap_nil, patch, List.setIfInBounds_toArray, List.set_cons_zero, List.set_cons_succ]
    obtain ⟨q0, q1, q2, q3, q4, q5, q6, q7, q8, q9, q10, q11, q12⟩ := S4.out.2.1.thirteen
    go_wp2_with fail
    refine (HCl.out w4 B4.out).mono ?_
    rintro e w5 ⟨vt, rfl, hvt, hb5⟩
    have B5 := Lib.hid hb5
    have HDel := Lib.hid (show Calls Try.prog 76 #[vt, .func (.func 78) #[] #[.pointer (some ⟨w.heap.size + 1, 0, none⟩)]] w5 fun e w' => ∃ a c, e = .returned (.slice a (keptL ts x).length c) ∧ Sl3 w' a (keptL ts x).length (keptL ts x) ∧ (∀ ad, a = some ad → w4.heap.size ≤ ad.block) ∧ Below w4.heap.size w5 w' from
      deleteFunc_any 78 #[.pointer (some ⟨w.heap.size + 1, 0, none⟩)] (fun a => decide (x < a.1)) ts vt t.tn w4.heap.size w5 (by omega) hvt hb5.size (fun _ _ => rfl)
        (fun y W' hb => movedF_any x y.1 y.2.1 y.2.2 (w.heap.size + 1) W' ((hb.cell (p := ⟨w.heap.size + 1, 0, none⟩) X4.out.lt).trans ((B5.out.cell (p := ⟨w.heap.size + 1, 0, none⟩) X4.out.lt).trans (X4.out.cell 0)))))
    clear q0 q1 q2 q3 q4 q5 q6 q7 q8 q9 q10 q11 q12 hb5 hvt
    go_wp2_with fail
    refine HDel.out.mono ?_
    rintro e w6 ⟨ua, uc, rfl, hU6, hab, hb6⟩
    have hb46 := B5.out.trans hb6
    have hT6 := S4.out.2.1.below hb46
    obtain ⟨w7, hw7⟩ : ∃ w7, w6.setCell ⟨w.heap.size, 12, none⟩ (.slice ua (keptL ts x).length uc) = w7 := ⟨_, rfl⟩
    have B7 : Hid (Below w.heap.size w w7) := by rw [← hw7]; exact (B_trans B4.out hb46).setCell (Nat.le_refl _) _
    have T7 : Hid (Ob w7 w.heap.size 31 #[(.slice t.r.ha t.r.hn t.r.hc), (.slice t.r.wa t.r.wn t.r.wc), (.int .i64 t.r.own), (.int .i64 t.r.feed), (.int .i64 t.r.g0), (.int .i64 t.r.g1), (.int .i64 t.r.g2), (.int .i64 t.r.lost), (.int .i64 t.first), (.slice va t.dn vc), (.int .i64 t.lo), (.int .i64 t.hi), (.slice ua (keptL ts x).length uc)]) := by rw [← hw7]; exact (show Ob (w6.setCell ⟨w.heap.size, 12, none⟩ (.slice ua (keptL ts x).length uc)) w.heap.size 31 #[(.slice t.r.ha t.r.hn t.r.hc), (.slice t.r.wa t.r.wn t.r.wc), (.int .i64 t.r.own), (.int .i64 t.r.feed), (.int .i64 t.r.g0), (.int .i64 t.r.g1), (.int .i64 t.r.g2), (.int .i64 t.r.lost), (.int .i64 t.first), (.slice va t.dn vc), (.int .i64 t.lo), (.int .i64 t.hi), (.slice ua (keptL ts x).length uc)] by simpa using hT6.set 12 (.slice ua (keptL ts x).length uc))
    have S7 : Hid (Ob w7 (w.heap.size + 1 + 1 + 1) 28 #[.int .i64 0, .int .i64 0]) := by rw [← hw7]; exact (S4.out.1.below hb46).other (by simp only; omega) _
    have R7 : Hid (w7.ownsRow w3.heap.size 39 4 (.slice va t.dn vc) t.dn (flat4 (movedL ds k t.dn (d0, d1, d2, d3)))) := by rw [← hw7]; exact row_setb (row_below S4.out.2.2 hb46) gW.out 12 _
    have U7 : Hid (Sl3 w7 ua (keptL ts x).length (keptL ts x)) := by rw [← hw7]; exact hU6.put (fun ad e => by have h := hab ad e; have h2 := S4.out.2.1.lt; simp only; omega) _
    have W7 := Lib.hid hw7
    have qz := hT6.frozen 12
    obtain ⟨q0, q1, q2, q3, q4, q5, q6, q7, q8, q9, q10, q11, q12⟩ := hT6.thirteen
    clear hw7 hT6 hb46 hb6 hU6 hab
    go_upto_region 12 with fail
    rw [W7.out]
    clear q0 q1 q2 q3 q4 q5 q6 q7 q8 q9 q10 q11 q12 qz
    obtain ⟨q0, q1, q2, q3, q4, q5, q6, q7, q8, q9, q10, q11, q12⟩ := T7.out.thirteen
    have hRv := hR.below B7.out
    obtain ⟨va', vc', e10, hT3⟩ := sl4_row R7.out
    injection e10 with e10 e11 e12
    subst e10 e12
    have hRu : TkR w7 (t.movedT_ va vc ua (keptL ts x).length uc) hs ws (movedL ds k t.dn (d0, d1, d2, d3)) (keptL ts x) := ⟨hRv.r, hRv.dn, by have h := HKL.out; show (keptL ts x).length ≤ _; omega, hT3, U7.out⟩
    have H2 := taskOf_any (t.movedT_ va vc ua (keptL ts x).length uc) hs ws (movedL ds k t.dn (d0, d1, d2, d3)) (keptL ts x) w7 hRu HO.out HF.out.1
    have H3 := fun W v (hv : W.ownsRow w7.heap.size 28 2 v t.dn (flat2 ((movedL ds k t.dn (d0, d1, d2, d3)).map (strS hs ws)))) (h : Below w7.heap.size w7 W) => lost_any (t.movedT_ va vc ua (keptL ts x).length uc) v t.dn (levT (t.movedT_ va vc ua (keptL ts x).length uc) hs ws (movedL ds k t.dn (d0, d1, d2, d3)) (keptL ts x)) W (by obtain ⟨a, c, e, -⟩ := sl2_row hv; exact ⟨a, _, c, e⟩) (by have := HF.out.1; omega) (levT_len (HOK.out va vc ua uc) hT3.len) HF.out.2.1 (by have := HF.out.2.2; show t.first ≤ 1000000; omega)
      (fun W' h' => (known_full (t.movedT_ va vc ua (keptL ts x).length uc) hs ws (movedL ds k t.dn (d0, d1, d2, d3)) (keptL ts x) w7 hRu (HOK.out va vc ua uc) W' v (row_below hv h') (B_trans h h')).mono fun _ _ ⟨g, cap, C, sv, h1, h2, h3, h4, _, h6⟩ => ⟨g, cap, C, sv, h1, h2, h3, h4, h6⟩)
    rw [movV_same, HLP.out] at H3
    generalize (movedL ds k t.dn (d0, d1, d2, d3)).map (strS hs ws) = SS at H2 H3
    have K2 := Lib.hid (show Calls Try.prog 68 #[.agg #[(.slice t.r.ha t.r.hn t.r.hc), (.slice t.r.wa t.r.wn t.r.wc), (.int .i64 t.r.own), (.int .i64 t.r.feed), (.int .i64 t.r.g0), (.int .i64 t.r.g1), (.int .i64 t.r.g2), (.int .i64 t.r.lost), (.int .i64 t.first), (.slice va t.dn vc), (.int .i64 t.lo), (.int .i64 t.hi), (.slice ua (keptL ts x).length uc)]] w7 fun e w' => (∃ v, e = .returned (.agg #[(.slice t.r.ha t.r.hn t.r.hc), (.slice t.r.wa t.r.wn t.r.wc), (.int .i64 t.r.own), (.int .i64 t.r.feed), (.int .i64 t.r.g0), (.int .i64 t.r.g1), (.int .i64 t.r.g2), (.int .i64 t.r.lost), (.int .i64 t.first), (v), (.int .i64 t.lo), (.int .i64 t.hi), (.slice ua (keptL ts x).length uc)]) ∧ w'.ownsRow w7.heap.size 28 2 v t.dn (flat2 SS)) ∧ Below w7.heap.size w7 w' from H2)
    have K3 := Lib.hid (show ∀ W v, W.ownsRow w7.heap.size 28 2 v t.dn (flat2 SS) → Below w7.heap.size w7 W → Calls Try.prog 73 #[.agg #[(.slice t.r.ha t.r.hn t.r.hc), (.slice t.r.wa t.r.wn t.r.wc), (.int .i64 t.r.own), (.int .i64 t.r.feed), (.int .i64 t.r.g0), (.int .i64 t.r.g1), (.int .i64 t.r.g2), (.int .i64 t.r.lost), (.int .i64 t.first), (v), (.int .i64 t.lo), (.int .i64 t.hi), (.slice ua (keptL ts x).length uc)]] W fun e W' => e = .returned (.agg #[.int .i64 l, .int .i64 m]) ∧ Below W.heap.size W W' from H3)
    clear hRv hT3 hRu H2 H3 e11
    go_wp2_with fail
    refine K2.out.mono ?_
    rintro e w8 ⟨⟨v, rfl, hrow⟩, hb8⟩
    have K4 := Lib.hid (K3.out w8 v hrow hb8)
    have B8 := Lib.hid hb8
    clear q0 q1 q2 q3 q4 q5 q6 q7 q8 q9 q10 q11 q12 hb8 hrow
    go_wp2_with fail
    refine K4.out.mono ?_
    rintro e w9 ⟨rfl, hb9⟩
    have B9 := Lib.hid (B_trans B8.out hb9)
    have o9 := S7.out.below B9.out
    obtain ⟨z0, z1, z2, z3⟩ := o9.span
    have Z := Lib.hid o9
    clear hb9 o9
    go_wp2
    refine bodyPost_ret (v := .tuple #[.agg #[.int .i64 l, .int .i64 m], .int .i64 0]) (by have q0 := Z.out; have z4 := (q0.set 0 (.int .i64 l)).set 1 (.int .i64 m); simp only [List.setIfInBounds_toArray, List.set_cons_zero, List.set_cons_succ] at z4; have z5 := z4.cell 0; have z6 := z4.cell 1; simp only [List.getElem?_toArray, List.getElem?_cons_zero, List.getElem?_cons_succ] at z5 z6; simp [results, Try.results34, go_sem, z5, z6]) rfl ?_
    exact ⟨rfl, ((B_trans B7.out B9.out).setCell (by simp only; omega) _).setCell (by simp only; omega) _⟩
  case steps =>
    refine ⟨⟨rfl, fun t ht k' outs u _ => by cases ht; rfl, fun k' outs W' ρ hk1 hk2 hI hc hg h_fn hr ho => ?_⟩, ?_⟩
    · have hk2' : k' ≤ 4 := hk2
      have o3 := ho 3 (by kernel_rfl)
      clear hI
      refine step_pure rfl (v := .pointer (some ⟨w.heap.size, 9, none⟩)) (fun t ht => by cases ht; rfl) ?_
      go_simp
    refine ⟨⟨rfl, fun t ht k' outs u _ => by cases ht; rfl, fun k' outs W' ρ hk1 hk2 hI hc hg h_fn hr ho => ?_⟩, ?_⟩
    · have hk2' : k' ≤ 4 := hk2
      have r46 : ρ (.tmp 46) = .pointer (some ⟨w.heap.size, 9, none⟩) := hr 46 (by kernel_rfl)
      obtain ⟨u0, u1, u2', u3', u4, u5, u6, u7, u8, u9, u10, u11, u12⟩ := (O3.out.1.below (hI.bb (by omega))).thirteen
      rw [HDA.out] at u9
      clear hI
      refine step_pure rfl (v := .slice (some ⟨p, o, none⟩) t.dn t.dc) (fun t ht => by cases ht; rfl) ?_
      go_simp
    refine ⟨⟨rfl, fun t ht k' outs u _ => by cases ht; rfl, fun k' outs W' ρ hk1 hk2 hI hc hg h_fn hr ho => ?_⟩, ?_⟩
    · have hk2' : k' ≤ 4 := hk2
      have o12 := ho 12 (by kernel_rfl)
      clear hI
      refine step_pure rfl (v := .int .i64 (k : Nat)) (fun t ht => by cases ht; rfl) ?_
      go_simp
    refine ⟨⟨rfl, fun t ht k' outs u _ => by cases ht; rfl, fun k' outs W' ρ hk1 hk2 hI hc hg h_fn hr ho => ?_⟩, ?_⟩
    · have hk2' : k' ≤ 4 := hk2
      have r47 : ρ (.tmp 47) = .slice (some ⟨p, o, none⟩) t.dn t.dc := hr 47 (by kernel_rfl)
      have r48 : ρ (.tmp 48) = .int .i64 (k : Nat) := hr 48 (by kernel_rfl)
      clear hI
      refine step_pure rfl (v := .slice (some ⟨p, o, none⟩) k t.dc) (fun t ht => by cases ht; rfl) ?_
      go_simp
    refine ⟨⟨rfl, fun t ht k' outs u _ => by cases ht; rfl, fun k' outs W' ρ hk1 hk2 hI hc hg h_fn hr ho => ?_⟩, ?_⟩
    · have hk2' : k' ≤ 4 := hk2
      have o5 := ho 5 (by kernel_rfl)
      obtain ⟨y0, y1, y2, y3⟩ := (O3.out.2.1.below (hI.bb (by omega))).day
      clear hI
      refine step_pure rfl (v := .agg #[.int .i64 d0, .int .i64 d1, .int .i64 d2, .int .i64 d3]) (fun t ht => by cases ht; rfl) ?_
      go_simp
    refine ⟨⟨rfl, fun t ht k' outs u (h : 0 < k') => by cases ht; show upd outs k' u 0 = outs 0; unfold upd; rw [if_neg (by omega)], fun k' outs W' ρ hk1 hk2 hI hc hg h_fn hr ho => ?_⟩, ?_⟩
    · obtain rfl : k' = 0 := by have h1 : 0 ≤ k' := hk1; have h2 : k' ≤ 0 := hk2; omega
      have r50 : ρ (.tmp 50) = .agg #[.int .i64 d0, .int .i64 d1, .int .i64 d2, .int .i64 d3] := hr 50 (by kernel_rfl)
      have hbl := B_alloc (Below.refl W'.heap.size W') (.cells #[.int .i64 d0, .int .i64 d1, .int .i64 d2, .int .i64 d3] 39)
      refine step_new rfl (v := .slice (some ⟨W'.heap.size, 0, none⟩) 1 1) (w' := W'.alloc (.cells #[.int .i64 d0, .int .i64 d1, .int .i64 d2, .int .i64 d3] 39)) ?_ ⟨B_trans hI.bl hbl, fun _ => B_trans (hI.bb (by omega)) hbl, hI.X.below hbl, hI.S.below hbl, fun _ => ⟨_, rfl, Ob.new _ _ _⟩, fun h => by omega, fun h => by omega, fun h => by omega, fun h => by omega⟩ (fun t ht => by cases ht; rfl)
      clear hI hbl; go_simp
    refine ⟨⟨rfl, fun t ht k' outs u _ => by cases ht; rfl, fun k' outs W' ρ hk1 hk2 hI hc hg h_fn hr ho => ?_⟩, ?_⟩
    · have hk2' : k' ≤ 4 := hk2
      have o3 := ho 3 (by kernel_rfl)
      clear hI
      refine step_pure rfl (v := .pointer (some ⟨w.heap.size, 9, none⟩)) (fun t ht => by cases ht; rfl) ?_
      go_simp
    refine ⟨⟨rfl, fun t ht k' outs u _ => by cases ht; rfl, fun k' outs W' ρ hk1 hk2 hI hc hg h_fn hr ho => ?_⟩, ?_⟩
    · have hk2' : k' ≤ 4 := hk2
      have r52 : ρ (.tmp 52) = .pointer (some ⟨w.heap.size, 9, none⟩) := hr 52 (by kernel_rfl)
      obtain ⟨u0, u1, u2', u3', u4, u5, u6, u7, u8, u9, u10, u11, u12⟩ := (O3.out.1.below (hI.bb (by omega))).thirteen
      rw [HDA.out] at u9
      clear hI
      refine step_pure rfl (v := .slice (some ⟨p, o, none⟩) t.dn t.dc) (fun t ht => by cases ht; rfl) ?_
      go_simp
    refine ⟨⟨rfl, fun t ht k' outs u _ => by cases ht; rfl, fun k' outs W' ρ hk1 hk2 hI hc hg h_fn hr ho => ?_⟩, ?_⟩
    · have hk2' : k' ≤ 4 := hk2
      have r53 : ρ (.tmp 53) = .slice (some ⟨p, o, none⟩) t.dn t.dc := hr 53 (by kernel_rfl)
      clear hI
      refine step_pure rfl (v := .int .i64 (t.dn : Nat)) (fun t ht => by cases ht; rfl) ?_
      go_simp
    refine ⟨⟨rfl, fun t ht k' outs u _ => by cases ht; rfl, fun k' outs W' ρ hk1 hk2 hI hc hg h_fn hr ho => ?_⟩, ?_⟩
    · have hk2' : k' ≤ 4 := hk2
      have o12 := ho 12 (by kernel_rfl)
      clear hI
      refine step_pure rfl (v := .int .i64 (k : Nat)) (fun t ht => by cases ht; rfl) ?_
      go_simp
    refine ⟨⟨rfl, fun t ht k' outs u _ => by cases ht; rfl, fun k' outs W' ρ hk1 hk2 hI hc hg h_fn hr ho => ?_⟩, ?_⟩
    · have hk2' : k' ≤ 4 := hk2
      have r54 : ρ (.tmp 54) = .int .i64 (t.dn : Nat) := hr 54 (by kernel_rfl)
      have r55 : ρ (.tmp 55) = .int .i64 (k : Nat) := hr 55 (by kernel_rfl)
      clear hI
      refine step_pure rfl (v := .int .i64 (b : Nat)) (fun t ht => by cases ht; rfl) ?_
      go_simp
    refine ⟨⟨rfl, fun t ht k' outs u (h : 1 < k') => by cases ht; show upd outs k' u 1 = outs 1; unfold upd; rw [if_neg (by omega)], fun k' outs W' ρ hk1 hk2 hI hc hg h_fn hr ho => ?_⟩, ?_⟩
    · obtain rfl : k' = 1 := by have h1 : 1 ≤ k' := hk1; have h2 : k' ≤ 1 := hk2; omega
      have r51 : ρ (.tmp 51) = outs 0 := hr 51 (by kernel_rfl)
      have r56 : ρ (.tmp 56) = .int .i64 (b : Nat) := hr 56 (by kernel_rfl)
      obtain ⟨q, hq1, hq2⟩ := hI.a0 rfl
      replace r51 := r51.trans hq1
      have hfn := h_fn 75
      refine step_call rfl (f := 75) (args := #[.slice (some ⟨q, 0, none⟩) 1 1, .int .i64 (b : Nat)]) (w' := W') ?_ ?_
      · clear hI; go_simp
      · refine (repeat_any (d0, d1, d2, d3) q 0 1 b W' hB.out.2.2.1 hq2.lt hq2.day).mono ?_
        rintro e w2 ⟨g, rfl, hg, hO, hb2⟩
        exact ⟨_, rfl, ⟨B_trans hI.bl hb2, fun _ => B_trans (hI.bb (by omega)) hb2, hI.X.below hb2, hI.S.below hb2, fun h => by omega, fun _ => ⟨g, rfl, hO⟩, fun h => by omega, fun h => by omega, fun h => by omega⟩, fun t ht => by cases ht; rfl⟩
    refine ⟨⟨rfl, fun t ht k' outs u (h : 2 < k') => by cases ht; show upd outs k' u 2 = outs 2; unfold upd; rw [if_neg (by omega)], fun k' outs W' ρ hk1 hk2 hI hc hg h_fn hr ho => ?_⟩, ?_⟩
    · obtain rfl : k' = 2 := by have h1 : 2 ≤ k' := hk1; have h2 : k' ≤ 2 := hk2; omega
      have r49 : ρ (.tmp 49) = .slice (some ⟨p, o, none⟩) k t.dc := hr 49 (by kernel_rfl)
      have r57 : ρ (.tmp 57) = outs 1 := hr 57 (by kernel_rfl)
      obtain ⟨g, hg1, hg2⟩ := hI.a1 rfl
      replace r57 := r57.trans hg1
      have hbl := B_alloc (Below.refl W'.heap.size W') (.cells #[.slice (some ⟨p, o, none⟩) k t.dc, .slice (some ⟨g, 0, none⟩) b b] 26)
      refine step_new rfl (v := .slice (some ⟨W'.heap.size, 0, none⟩) 2 2) (w' := W'.alloc (.cells #[.slice (some ⟨p, o, none⟩) k t.dc, .slice (some ⟨g, 0, none⟩) b b] 26)) ?_ ⟨B_trans hI.bl hbl, fun _ => B_trans (hI.bb (by omega)) hbl, hI.X.below hbl, hI.S.below hbl, fun h => by omega, fun h => by omega, fun _ => ⟨W'.heap.size, g, rfl, Ob.new _ _ _, hg2.below hbl⟩, fun h => by omega, fun h => by omega⟩ (fun t ht => by cases ht; rfl)
      clear hI hbl; go_simp
    refine ⟨⟨rfl, fun t ht k' outs u (h : 3 < k') => by cases ht; show upd outs k' u 3 = outs 3; unfold upd; rw [if_neg (by omega)], fun k' outs W' ρ hk1 hk2 hI hc hg h_fn hr ho => ?_⟩, ?_⟩
    · obtain rfl : k' = 3 := by have h1 : 3 ≤ k' := hk1; have h2 : k' ≤ 3 := hk2; omega
      have r58 : ρ (.tmp 58) = outs 2 := hr 58 (by kernel_rfl)
      obtain ⟨q, g, hq1, hq2, hq3⟩ := hI.a2 rfl
      replace r58 := r58.trans hq1
      have hfn := h_fn 74
      refine step_call rfl (f := 74) (args := #[.slice (some ⟨q, 0, none⟩) 2 2]) (w' := W') ?_ ?_
      · clear hI; go_simp
      · refine (concat_any (ds.take k) (List.replicate b (d0, d1, d2, d3)) p o t.dc g 0 b k b q 0 2 W' hB.out.1 hB.out.2.1 hB.out.2.2.2.1 hq2.lt (Nat.lt_of_lt_of_le HP.out hI.bl.size) hq3.lt (hq2.cell 0) (hq2.cell 1) (HYA.out W' hI.bl) (fun i hi => rep_cells hq3 hi)).mono ?_
        rintro e w2 ⟨v, rfl, hrow, hb2⟩
        rw [hB.out.2.2.2.2.1, hB.out.2.2.2.2.2] at hrow
        obtain ⟨va, vc, rfl, -⟩ := sl4_row hrow
        exact ⟨_, rfl, ⟨B_trans hI.bl hb2, fun _ => B_trans (hI.bb (by omega)) hb2, hI.X.below hb2, hI.S.below hb2, fun h => by omega, fun h => by omega, fun h => by omega, fun _ => ⟨va, vc, rfl, row_base hrow (hI.bb (by omega)).size⟩, fun h => by omega⟩, fun t ht => by cases ht; rfl⟩
    refine ⟨⟨rfl, fun t ht k' outs u _ => by cases ht; rfl, fun k' outs W' ρ hk1 hk2 hI hc hg h_fn hr ho => ?_⟩, ?_⟩
    · have hk2' : k' ≤ 4 := hk2
      have hk1' : 4 ≤ k' := hk1
      have o3 := ho 3 (by kernel_rfl)
      clear hI
      refine step_pure rfl (v := .pointer (some ⟨w.heap.size, 9, none⟩)) (fun t ht => by cases ht; rfl) ?_
      go_simp
    refine ⟨⟨rfl, (fun t ht => by cases ht), fun k' outs W' ρ hk1 hk2 hI hc hg h_fn hr ho => ?_⟩, trivial⟩
    · obtain rfl : k' = 4 := by have h1 : 4 ≤ k' := hk1; have h2 : k' ≤ 4 := hk2; omega
      have r59 : ρ (.tmp 59) = outs 3 := hr 59 (by kernel_rfl)
      have r60 : ρ (.tmp 60) = .pointer (some ⟨w.heap.size, 9, none⟩) := hr 60 (by kernel_rfl)
      obtain ⟨va, vc, hv1, hrow⟩ := hI.a3 rfl
      replace r59 := r59.trans hv1
      have hT := O3.out.1.below (hI.bb (by omega))
      obtain ⟨u0, u1, u2', u3', u4, u5, u6, u7, u8, u9, u10, u11, u12⟩ := hT.thirteen
      have e9 := hT.frozen 9
      have hb := hI.bl.setCell (p := ⟨w.heap.size, 9, none⟩) (Nat.le_refl _) (.slice va t.dn vc)
      have hTs := hT.set 9 (.slice va t.dn vc)
      have hX := hI.X.other (p := ⟨w.heap.size, 9, none⟩) (by simp only; omega) (.slice va t.dn vc)
      have hS := hI.S.other (p := ⟨w.heap.size, 9, none⟩) (by simp only; omega) (.slice va t.dn vc)
      have hRs := row_setb hrow gW.out 9 (.slice va t.dn vc)
      refine step_store rfl rfl (w' := W'.setCell ⟨w.heap.size, 9, none⟩ (.slice va t.dn vc)) ?_ ⟨hb, fun h => by omega, hX, hS, fun h => by omega, fun h => by omega, fun h => by omega, fun h => by omega, fun _ => ⟨va, vc, by simpa using hTs, hRs⟩⟩
      clear hI hrow hT hb hTs hS hX hRs; go_simp
end Go.Proofs.Ytanjkhclhcnnaaa

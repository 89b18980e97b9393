/- cut of the law. -/
import Derived.Test.YtanjkhclhcnnaaaGL
import Derived.Test.YtanjkhclhcnnaaaFA
namespace Go.Proofs.Ytanjkhclhcnnaaa
open Go.RowKit Go.Shelf

theorem row3_form {W : World} {B : Nat} {t : TypeId} {v : Value} {xs : List Value} {n : Nat} (h : W.ownsRow B t 3 v n xs) (hn : 0 < n) : ∃ q cap, v = .slice (some ⟨q, 0, none⟩) n cap := by
  rcases h.2 with ⟨-, h2⟩ | ⟨q, cap, cur, h1, -⟩
  · omega
  · exact ⟨q, cap, h1⟩
theorem infoTst : (Try.prog.info? 64).map (fun i => (i.zero, i.size, i.bytes)) = some (some (.agg #[.int .i64 0, .int .i64 0, .int .i64 0]), 3, 24) := by kernel_rfl
theorem joinedT {W : World} {base n : Nat} {v : Value} {xs : List Value} {g : Nat} {a b c : Int} (hv : W.ownsRow base 64 3 v n xs) (hg : Ob W g 64 #[.int .i64 a, .int .i64 b, .int .i64 c]) (hn : n ≤ 100000) (hb : base ≤ W.heap.size) :
    ∃ v' w', (Builtin.append_ #[29, 29] 29 #[v, .slice (some ⟨g, 0, none⟩) 1 1]).run Try.prog W = .ok v' w' ∧ w'.ownsRow base 64 3 v' (n + 1) (xs ++ [.int .i64 a, .int .i64 b, .int .i64 c]) ∧ W.grownBy w' v.ownBlock := by
  obtain ⟨i0, hi, hz0, hs0, hy0⟩ := info_parts infoTst
  obtain ⟨v', w', h1, h2, h3, -⟩ := run_append_own (P := Try.prog) (w := W) base 29 29 64 i0 _ 3 24 Try.underlying29 hi hz0 hs0 hy0 rfl (by decide) v n xs hv ⟨g, 0, none⟩ 1 1 [.int .i64 a, .int .i64 b, .int .i64 c] rfl
    (fun j u h => by
      rw [show (⟨g, 0, none⟩ : Addr).add j = ⟨g, j, none⟩ by simp [Addr.add, eq_comm]]
      rw [hg.cell]; simpa using h) (by intro u hu; simp at hu; rcases hu with rfl | rfl | rfl <;> rfl) (by unfold maxLen; omega) (by omega) hb
  exact ⟨v', w', h1, h2, h3⟩
/-- The memory while a task is cut. -/
structure QM (t : TkA) (w : World) (k : Nat) (vd vr : Value) (L : List T3) (W : World) : Prop where
  T : Ob W w.heap.size 31 t.cs
  Z : Ob W (w.heap.size + 1) 31 #[(.slice none 0 0), (.slice none 0 0), (.int .i64 0), (.int .i64 0), (.int .i64 0), (.int .i64 0), (.int .i64 0), (.int .i64 0), (.int .i64 0), (.slice none 0 0), (.int .i64 0), (.int .i64 0), (.slice none 0 0)]
  U : Ob W (w.heap.size + 1 + 1) 31 #[(.slice t.r.ha t.r.hn t.r.hc), (.slice t.r.wa t.r.wn t.r.wc), (.int .i64 t.r.own), (.int .i64 t.r.feed), (.int .i64 t.r.g0), (.int .i64 t.r.g1), (.int .i64 t.r.g2), (.int .i64 t.r.lost), (.int .i64 t.first), (.slice t.da k t.dc), (.int .i64 t.lo), (.int .i64 t.hi), vd]
  R : W.ownsRow (w.heap.size + 1 + 1 + 1) 64 3 vr L.length (flat3 L)
  b : Below w.heap.size w W
variable {t : TkA} {w : World} {k : Nat} {vd vr v : Value} {L : List T3} {W : World}
theorem QM.below (h : QM t w k vd vr L W) {W1 : World} (hb : Below W.heap.size W W1) : QM t w k vd vr L W1 := ⟨h.T.below hb, h.Z.below hb, h.U.below hb, row_below h.R hb, B_trans h.b hb⟩
theorem QM.add (h : QM t w k vd vd L W) {W1 : World} {x : T3} {v : Value} (hg : W.grownBy W1 vd.ownBlock) (ho : W1.ownsRow (w.heap.size + 1 + 1 + 1) 64 3 v (L.length + 1) (flat3 L ++ [.int .i64 x.1, .int .i64 x.2.1, .int .i64 x.2.2])) : QM t w k vd v (L ++ [x]) W1 :=
  ⟨ob_grow h.T h.R hg (by omega), ob_grow h.Z h.R hg (by omega), ob_grow h.U h.R hg (by omega), by rw [flat3_snoc, List.length_append]; exact ho, below_grow h.b h.R hg (by omega) h.b.size⟩
theorem QM.set (h : QM t w k vd v L W) : QM t w k v v L (W.setCell ⟨w.heap.size + 1 + 1, 12, none⟩ v) :=
  ⟨h.T.other (by simp only; omega) _, h.Z.other (by simp only; omega) _, by simpa using h.U.set 12 v, row_setb h.R (by omega) _ _, h.b.setCell (by simp only; omega) _⟩
theorem QM.sz (h : QM t w k vd vr L W) : w.heap.size + 1 + 1 + 1 ≤ W.heap.size := h.U.lt

def need47x : Nat → Nat := fun i => [0, 0, 0, 0, 0, 0, 0, 0, 1, 2, 2].getD i 0
def till47x : Nat → Nat := fun i => [2, 1, 2, 2, 2, 2, 0, 0, 1, 2, 2].getD i 0
def eff47x : Nat → Bool := fun i => [false, false, false, false, false, false, false, true, true, false, true].getD i false
def V47x (t : TkA) (U T p o i : Nat) (vd : Value) (yd yg ye : Int) (outs : Nat → Value) : Nat → Value
  | 32 => .pointer (some ⟨U, 12, none⟩)
  | 33 => vd
  | 34 => .pointer (some ⟨T, 12, none⟩)
  | 35 => .slice (some ⟨p, o, none⟩) t.tn t.tc
  | 36 => .int .i64 (i : Nat)
  | 37 => .pointer (some ⟨p, o + i * 3, none⟩)
  | 38 => .agg #[.int .i64 yd, .int .i64 yg, .int .i64 ye]
  | 39 => outs 0
  | 40 => outs 1
  | 41 => .pointer (some ⟨U, 12, none⟩)
  | _ => undef

structure I47x (t : TkA) (w : World) (kk : Nat) (vd : Value) (L : List T3) (yd yg ye : Int) (k : Nat) (outs : Nat → Value) (W : World) : Prop where
  T0 : Ob W w.heap.size 31 t.cs
  b : Below w.heap.size w W
  M : k ≤ 1 → QM t w kk vd vd L W
  q : k = 1 → ∃ q, outs 0 = .slice (some ⟨q, 0, none⟩) 1 1 ∧ Ob W q 64 #[.int .i64 yd, .int .i64 yg, .int .i64 ye]
  a : k = 2 → QM t w kk vd (outs 1) (L ++ [(yd, yg, ye)]) W
  e : k = 3 → QM t w kk (outs 1) (outs 1) (L ++ [(yd, yg, ye)]) W

set_option maxRecDepth 100000 in
set_option maxHeartbeats 8000000 in
theorem cut_any (t : TkA) (hs ws : List T2) (ds : List T4) (ts : List T3) (k : Nat) (w : World) (hR : TkR w t hs ws ds ts) (hk : k ≤ t.dn) (hcap : t.dn ≤ t.dc) (hdn : t.dn ≤ 400) (htn : t.tn ≤ 20) (hf : 0 ≤ t.first ∧ t.first ≤ 80000) :
    Calls Try.prog 47 #[.agg t.cs, .int .i64 (k : Int)] w fun e w' => ∃ v, e = .returned (.agg #[(.slice t.r.ha t.r.hn t.r.hc), (.slice t.r.wa t.r.wn t.r.wc), (.int .i64 t.r.own), (.int .i64 t.r.feed), (.int .i64 t.r.g0), (.int .i64 t.r.g1), (.int .i64 t.r.g2), (.int .i64 t.r.lost), (.int .i64 t.first), (.slice t.da k t.dc), (.int .i64 t.lo), (.int .i64 t.hi), v]) ∧ w'.ownsRow w.heap.size 64 3 v (keptL t ts k t.tn).length (flat3 (cutL t ts k t.tn)) ∧ Below w.heap.size w w' := by
  obtain ⟨w0, hw0⟩ : ∃ w0, (w.alloc (.cells t.cs 31)).alloc (.cells #[(.slice none 0 0), (.slice none 0 0), (.int .i64 0), (.int .i64 0), (.int .i64 0), (.int .i64 0), (.int .i64 0), (.int .i64 0), (.int .i64 0), (.slice none 0 0), (.int .i64 0), (.int .i64 0), (.slice none 0 0)] 31) = w0 := ⟨_, rfl⟩
  have hb0 : Below w.heap.size w w0 := by rw [← hw0]; exact B_alloc (B_alloc (Below.refl _ _) _) _
  have o0 : Ob w0 w.heap.size 31 t.cs := by rw [← hw0]; exact (Ob.new _ _ _).alloc _
  have oZ : Ob w0 (w.heap.size + 1) 31 #[(.slice none 0 0), (.slice none 0 0), (.int .i64 0), (.int .i64 0), (.int .i64 0), (.int .i64 0), (.int .i64 0), (.int .i64 0), (.int .i64 0), (.slice none 0 0), (.int .i64 0), (.int .i64 0), (.slice none 0 0)] := by
    rw [← hw0]
    have h := Ob.new (w.alloc (.cells t.cs 31)) #[(.slice none 0 0), (.slice none 0 0), (.int .i64 0), (.int .i64 0), (.int .i64 0), (.int .i64 0), (.int .i64 0), (.int .i64 0), (.int .i64 0), (.slice none 0 0), (.int .i64 0), (.int .i64 0), (.slice none 0 0)] 31
    simpa using h
  have hz0 : w0.heap.size = w.heap.size + 1 + 1 := by rw [← hw0]; simp
  obtain ⟨w1, hw1⟩ : ∃ w1, w0.alloc (.cells #[(.slice t.r.ha t.r.hn t.r.hc), (.slice t.r.wa t.r.wn t.r.wc), (.int .i64 t.r.own), (.int .i64 t.r.feed), (.int .i64 t.r.g0), (.int .i64 t.r.g1), (.int .i64 t.r.g2), (.int .i64 t.r.lost), (.int .i64 t.first), (.slice t.da k t.dc), (.int .i64 t.lo), (.int .i64 t.hi), (.slice none 0 0)] 31) = w1 := ⟨_, rfl⟩
  have hM0 : QM t w k (.slice none 0 0) (.slice none 0 0) [] w1 := by
    rw [← hw1]
    exact ⟨o0.alloc _, oZ.alloc _, by have h := Ob.new w0 #[(.slice t.r.ha t.r.hn t.r.hc), (.slice t.r.wa t.r.wn t.r.wc), (.int .i64 t.r.own), (.int .i64 t.r.feed), (.int .i64 t.r.g0), (.int .i64 t.r.g1), (.int .i64 t.r.g2), (.int .i64 t.r.lost), (.int .i64 t.first), (.slice t.da k t.dc), (.int .i64 t.lo), (.int .i64 t.hi), (.slice none 0 0)] 31; rwa [hz0] at h, ⟨rfl, Or.inl ⟨rfl, rfl⟩⟩, B_alloc hb0 _⟩
  obtain ⟨q0, q1, q2, q3, q4, q5, q6, q7, q8, q9, q10, q11, q12⟩ := o0.task
  have W0 := Lib.hid hw0
  have W1 := Lib.hid hw1
  have M0 := Lib.hid hM0
  have k0 : (0 : Int) ≤ k := by omega
  have k1 : (k : Int) ≤ t.dc := by omega
  have u1 : IntKind.i64.wrap (t.first + (k : Int)) = t.first + (k : Int) := IntWalk.i64_in _ (by omega)
  clear hw0 hb0 o0 oZ hw1 hM0
  go_enter Try.func47, Try.ntmps47
  go_upto_region 1 with fail
  rw [W0.out]
  go_upto_region 3 with fail
  rw [W1.out]
  clear q0 q1 q2 q3 q4 q5 q6 q7 q8 q9 q10 q11 q12
  obtain ⟨q0, q1, q2, q3, q4, q5, q6, q7, q8, q9, q10, q11, q12⟩ := M0.out.T.task
  go_wp2_with fail
  go_loopg [6] t.tn (fun gk iv wr => ∃ (i : Nat) (vd : Value), gk = t.tn - i ∧ iv = .int .i64 (i : Int) ∧ i ≤ t.tn ∧ QM t w k vd vd (cutL t ts k i) wr)
  case atStart => exact ⟨0, _, rfl, rfl, Nat.zero_le _, M0.out⟩
  case round =>
    obtain ⟨i, vd, rfl, rfl, hi, hM⟩ := hrel
    clear M0 q0 q1 q2 q3 q4 q5 q6 q7 q8 q9 q10 q11 q12
    obtain ⟨q0, q1, q2, q3, q4, q5, q6, q7, q8, q9, q10, q11, q12⟩ := hM.T.task
    by_cases hlt : i < t.tn
    · obtain ⟨p, o, hta, hpl, htc⟩ := hR.t.at_ (by omega)
      obtain ⟨y0', y1', y2'⟩ := htc i hlt
      have hsn := cut_snoc t ts k i
      have hup : upB t ts k i = decide ((ts.getD i (0, 0, 0)).1 ≤ t.first + (k : Int)) := rfl
      rw [hup] at hsn
      have hll := cut_len t ts k i
      generalize ts.getD i (0, 0, 0) = y at y0' y1' y2' hsn
      obtain ⟨yd, yg, ye⟩ := y
      simp only at y0' y1' y2' hsn
      have y0 := (hM.b.cell (p := ⟨p, _, none⟩) hpl).trans y0'
      have y1 := (hM.b.cell (p := ⟨p, _, none⟩) hpl).trans y1'
      have y2 := (hM.b.cell (p := ⟨p, _, none⟩) hpl).trans y2'
      obtain ⟨L, hL⟩ : ∃ L, cutL t ts k i = L := ⟨_, rfl⟩
      rw [hL] at hM hsn hll
      have Y0 := Lib.hid (And.intro y0' (And.intro y1' y2'))
      have hpw : p < wr.heap.size := Nat.lt_of_lt_of_le hpl hM.b.size
      have gT := hM.T.lt
      have gU := hM.U.lt
      rw [hta] at q12
      have HTA := Lib.hid hta
      have a1 : (0 : Int) ≤ i := by omega
      have a2 : (i : Int) < t.tn := by omega
      have SN := Lib.hid hsn
      have MM := Lib.hid hM
      clear hM hsn hta htc hL hup y0' y1' y2'
      by_cases hc : yd ≤ t.first + (k : Int)
      · go_wp2_with fail
        go_quiet (fail)
        clear q0 q1 q2 q3 q4 q5 q6 q7 q8 q9 q10 q11 q12 y0 y1 y2
        go_upto_region 7 with fail
        obtain ⟨wn, hwn⟩ : ∃ wn, wr.drewN nq = wn := ⟨_, rfl⟩
        have MN : Hid (QM t w k vd vd L wn) := by rw [← hwn]; exact MM.out.below (below_drewN (Below.refl _ _) _)
        rw [hwn]
        clear hwn MM
        have J0 : Hid (I47x t w k vd L yd yg ye 0 (fun _ => undef) wn.drew) :=
          ⟨MN.out.T.drew, MN.out.b.drew, fun _ => MN.out.below (Below.refl _ _).drew, fun h => by omega, fun h => by omega, fun h => by omega⟩
        clear MN
        refine wp_region_steps (I := I47x t w k vd L yd yg ye) (V := V47x t (w.heap.size + 1 + 1) w.heap.size p o i vd yd yg ye) (eff := eff47x) (need := need47x) (till := till47x) 3 (by kernel_rfl) (by decide) (by kernel_rfl) rfl (by kernel_rfl) (by kernel_rfl) (by kernel_rfl) (by kernel_rfl) (by kernel_rfl) J0.out ?steps ?hend
        case hend =>
          intro outs w' hI
          have hE := Lib.hid (hI.e rfl)
          clear hI J0
          simp only [flowAct, List.filterMap_cons, List.filterMap_nil, patch, List.setIfInBounds_toArray, List.set_cons_zero, List.set_cons_succ]
          go_wp2_with fail
          go_roundg (t.tn - (i + 1))
          case measure => omega
          case rel => exact ⟨i + 1, _, rfl, by push_cast; rfl, by omega, by rw [SN.out, if_pos (decide_eq_true hc)]; exact hE.out⟩
        case steps =>
          refine ⟨⟨rfl, fun t ht k' outs u _ => by cases ht; rfl, fun k' outs W' ρ hk1 hk2 hI hc hg h_fn hr ho => ?_⟩, ?_⟩
          · have hk2' : k' ≤ 2 := hk2
            have o5 := ho 5 (by kernel_rfl)
            clear hI
            refine step_pure rfl (v := .pointer (some ⟨w.heap.size + 1 + 1, 12, none⟩)) (fun t ht => by cases ht; rfl) ?_
            go_simp
          refine ⟨⟨rfl, fun t ht k' outs u _ => by cases ht; rfl, fun k' outs W' ρ hk1 hk2 hI hc hg h_fn hr ho => ?_⟩, ?_⟩
          · have hk2' : k' ≤ 1 := hk2
            have r32 : ρ (.tmp 32) = .pointer (some ⟨w.heap.size + 1 + 1, 12, none⟩) := hr 32 (by kernel_rfl)
            obtain ⟨u0, u1, u2, u3, u4, u5, u6, u7, u8, u9, u10, u11, u12⟩ := (hI.M (by omega)).U.thirteen
            clear hI
            refine step_pure rfl (v := vd) (fun t ht => by cases ht; rfl) ?_
            go_simp
          refine ⟨⟨rfl, fun t ht k' outs u _ => by cases ht; rfl, fun k' outs W' ρ hk1 hk2 hI hc hg h_fn hr ho => ?_⟩, ?_⟩
          · have hk2' : k' ≤ 2 := hk2
            have o2 := ho 2 (by kernel_rfl)
            clear hI
            refine step_pure rfl (v := .pointer (some ⟨w.heap.size, 12, none⟩)) (fun t ht => by cases ht; rfl) ?_
            go_simp
          refine ⟨⟨rfl, fun t ht k' outs u _ => by cases ht; rfl, fun k' outs W' ρ hk1 hk2 hI hc hg h_fn hr ho => ?_⟩, ?_⟩
          · have hk2' : k' ≤ 2 := hk2
            have r34 : ρ (.tmp 34) = .pointer (some ⟨w.heap.size, 12, none⟩) := hr 34 (by kernel_rfl)
            have q12 := hI.T0.task.2.2.2.2.2.2.2.2.2.2.2.2
            rw [HTA.out] at q12
            clear hI
            refine step_pure rfl (v := .slice (some ⟨p, o, none⟩) t.tn t.tc) (fun t ht => by cases ht; rfl) ?_
            go_simp
          refine ⟨⟨rfl, fun t ht k' outs u _ => by cases ht; rfl, fun k' outs W' ρ hk1 hk2 hI hc hg h_fn hr ho => ?_⟩, ?_⟩
          · have hk2' : k' ≤ 2 := hk2
            have o6 := ho 6 (by kernel_rfl)
            clear hI
            refine step_pure rfl (v := .int .i64 (i : Nat)) (fun t ht => by cases ht; rfl) ?_
            go_simp
          refine ⟨⟨rfl, fun t ht k' outs u _ => by cases ht; rfl, fun k' outs W' ρ hk1 hk2 hI hc hg h_fn hr ho => ?_⟩, ?_⟩
          · have hk2' : k' ≤ 2 := hk2
            have r35 : ρ (.tmp 35) = .slice (some ⟨p, o, none⟩) t.tn t.tc := hr 35 (by kernel_rfl)
            have r36 : ρ (.tmp 36) = .int .i64 (i : Nat) := hr 36 (by kernel_rfl)
            clear hI
            refine step_pure rfl (v := .pointer (some ⟨p, o + i * 3, none⟩)) (fun t ht => by cases ht; rfl) ?_
            go_simp
          refine ⟨⟨rfl, fun t ht k' outs u _ => by cases ht; rfl, fun k' outs W' ρ hk1 hk2 hI hc hg h_fn hr ho => ?_⟩, ?_⟩
          · have hk2' : k' ≤ 0 := hk2
            have r37 : ρ (.tmp 37) = .pointer (some ⟨p, o + i * 3, none⟩) := hr 37 (by kernel_rfl)
            have y0 := (hI.b.cell (p := ⟨p, _, none⟩) hpl).trans Y0.out.1
            have y1 := (hI.b.cell (p := ⟨p, _, none⟩) hpl).trans Y0.out.2.1
            have y2 := (hI.b.cell (p := ⟨p, _, none⟩) hpl).trans Y0.out.2.2
            clear hI
            refine step_pure rfl (v := .agg #[.int .i64 yd, .int .i64 yg, .int .i64 ye]) (fun t ht => by cases ht; rfl) ?_
            go_simp
          refine ⟨⟨rfl, fun t ht k' outs u (h : 0 < k') => by cases ht; show upd outs k' u 0 = outs 0; unfold upd; rw [if_neg (by omega)], fun k' outs W' ρ hk1 hk2 hI hc hg h_fn hr ho => ?_⟩, ?_⟩
          · obtain rfl : k' = 0 := by have h1 : 0 ≤ k' := hk1; have h2 : k' ≤ 0 := hk2; omega
            have r38 : ρ (.tmp 38) = .agg #[.int .i64 yd, .int .i64 yg, .int .i64 ye] := hr 38 (by kernel_rfl)
            have hbl := B_alloc (Below.refl W'.heap.size W') (.cells #[.int .i64 yd, .int .i64 yg, .int .i64 ye] 64)
            refine step_new rfl (v := .slice (some ⟨W'.heap.size, 0, none⟩) 1 1) (w' := W'.alloc (.cells #[.int .i64 yd, .int .i64 yg, .int .i64 ye] 64)) ?_ ⟨hI.T0.below hbl, B_trans hI.b hbl, fun _ => (hI.M (by omega)).below hbl, fun _ => ⟨_, rfl, Ob.new _ _ _⟩, fun h => by omega, fun h => by omega⟩ (fun t ht => by cases ht; rfl)
            clear hI hbl; go_simp
          refine ⟨⟨rfl, fun t ht k' outs u (h : 1 < k') => by cases ht; show upd outs k' u 1 = outs 1; unfold upd; rw [if_neg (by omega)], fun k' outs W' ρ hk1 hk2 hI hc hg h_fn hr ho => ?_⟩, ?_⟩
          · obtain rfl : k' = 1 := by have h1 : 1 ≤ k' := hk1; have h2 : k' ≤ 1 := hk2; omega
            have r33 : ρ (.tmp 33) = vd := hr 33 (by kernel_rfl)
            have r39 : ρ (.tmp 39) = outs 0 := hr 39 (by kernel_rfl)
            obtain ⟨qn, hq1, hq2⟩ := hI.q rfl
            replace r39 := r39.trans hq1
            have hM3 := hI.M (by omega)
            obtain ⟨v', w2, hrun, hown, hgr⟩ := joinedT hM3.R hq2 (by omega) hM3.sz
            have hM4 := hM3.add (x := (yd, yg, ye)) hgr hown
            exact step_new rfl (run_append_op rfl r33 r39 hrun) ⟨hM4.T, hM4.b, fun h => by omega, fun h => by omega, fun _ => hM4, fun h => by omega⟩ (fun t ht => by cases ht; rfl)
          refine ⟨⟨rfl, fun t ht k' outs u _ => by cases ht; rfl, fun k' outs W' ρ hk1 hk2 hI hc hg h_fn hr ho => ?_⟩, ?_⟩
          · have hk2' : k' ≤ 2 := hk2
            have hk1' : 2 ≤ k' := hk1
            have o5 := ho 5 (by kernel_rfl)
            clear hI
            refine step_pure rfl (v := .pointer (some ⟨w.heap.size + 1 + 1, 12, none⟩)) (fun t ht => by cases ht; rfl) ?_
            go_simp
          refine ⟨⟨rfl, (fun t ht => by cases ht), fun k' outs W' ρ hk1 hk2 hI hc hg h_fn hr ho => ?_⟩, trivial⟩
          · obtain rfl : k' = 2 := by have h1 : 2 ≤ k' := hk1; have h2 : k' ≤ 2 := hk2; omega
            have r40 : ρ (.tmp 40) = outs 1 := hr 40 (by kernel_rfl)
            have r41 : ρ (.tmp 41) = .pointer (some ⟨w.heap.size + 1 + 1, 12, none⟩) := hr 41 (by kernel_rfl)
            have hM3 := hI.a rfl
            obtain ⟨qn, qc, hv⟩ := row3_form hM3.R (by simp)
            replace r40 := r40.trans hv
            obtain ⟨u0, u1, u2, u3, u4, u5, u6, u7, u8, u9, u10, u11, u12⟩ := hM3.U.thirteen
            have e9 := hM3.U.frozen 12
            have hM4 := hM3.set
            rw [hv] at hM4
            refine step_store rfl rfl (w' := W'.setCell ⟨w.heap.size + 1 + 1, 12, none⟩ (.slice (some ⟨qn, 0, none⟩) (L ++ [(yd, yg, ye)]).length qc)) ?_ ⟨hM4.T, hM4.b, fun h => by omega, fun h => by omega, fun h => by omega, fun _ => ?_⟩
            · clear hI hM3 hM4; go_simp
            · show QM t w k (outs 1) (outs 1) (L ++ [(yd, yg, ye)]) _
              rw [hv]; exact hM4
      · go_wp2_with fail
        go_quiet (fail)
        clear q0 q1 q2 q3 q4 q5 q6 q7 q8 q9 q10 q11 q12 y0 y1 y2
        go_wp2_with fail
        go_roundg (t.tn - (i + 1))
        case measure => omega
        case rel => exact ⟨i + 1, _, rfl, by push_cast; rfl, by omega, by rw [SN.out, if_neg (by simpa using hc)]; exact MM.out.below (below_drewN (Below.refl _ _) _)⟩
    · obtain rfl : i = t.tn := by omega
      have h3 : ¬ (t.tn : Int) < t.tn := by omega
      obtain ⟨va, vc, rfl, -, hvn⟩ := sl3_row hM.R
      obtain ⟨s0, s1, s2, s3, s4, s5, s6, s7, s8, s9, s10, s11, s12⟩ := hM.U.thirteen
      obtain ⟨v0, v1, v2, v3, v4, v5, v6, v7, v8, v9, v10, v11, v12⟩ := hM.Z.thirteen
      have e0 := hM.Z.frozen 0
      have e1 := hM.Z.frozen 1
      have e2 := hM.Z.frozen 2
      have e3 := hM.Z.frozen 3
      have e4 := hM.Z.frozen 4
      have e5 := hM.Z.frozen 5
      have e6 := hM.Z.frozen 6
      have e7 := hM.Z.frozen 7
      have e8 := hM.Z.frozen 8
      have e9 := hM.Z.frozen 9
      have e10 := hM.Z.frozen 10
      have e11 := hM.Z.frozen 11
      have e12 := hM.Z.frozen 12
      obtain ⟨w9, hw9⟩ : ∃ w9, (((((((((((((wr).setCell ⟨w.heap.size + 1, 0, none⟩ (.slice t.r.ha t.r.hn t.r.hc)).setCell ⟨w.heap.size + 1, 1, none⟩ (.slice t.r.wa t.r.wn t.r.wc)).setCell ⟨w.heap.size + 1, 2, none⟩ (.int .i64 t.r.own)).setCell ⟨w.heap.size + 1, 3, none⟩ (.int .i64 t.r.feed)).setCell ⟨w.heap.size + 1, 4, none⟩ (.int .i64 t.r.g0)).setCell ⟨w.heap.size + 1, 5, none⟩ (.int .i64 t.r.g1)).setCell ⟨w.heap.size + 1, 6, none⟩ (.int .i64 t.r.g2)).setCell ⟨w.heap.size + 1, 7, none⟩ (.int .i64 t.r.lost)).setCell ⟨w.heap.size + 1, 8, none⟩ (.int .i64 t.first)).setCell ⟨w.heap.size + 1, 9, none⟩ (.slice t.da k t.dc)).setCell ⟨w.heap.size + 1, 10, none⟩ (.int .i64 t.lo)).setCell ⟨w.heap.size + 1, 11, none⟩ (.int .i64 t.hi)).setCell ⟨w.heap.size + 1, 12, none⟩ (.slice va (cutL t ts k t.tn).length vc) = w9 := ⟨_, rfl⟩
      have oZ9 : Ob w9 (w.heap.size + 1) 31 #[(.slice t.r.ha t.r.hn t.r.hc), (.slice t.r.wa t.r.wn t.r.wc), (.int .i64 t.r.own), (.int .i64 t.r.feed), (.int .i64 t.r.g0), (.int .i64 t.r.g1), (.int .i64 t.r.g2), (.int .i64 t.r.lost), (.int .i64 t.first), (.slice t.da k t.dc), (.int .i64 t.lo), (.int .i64 t.hi), (.slice va (cutL t ts k t.tn).length vc)] := by rw [← hw9]; simpa using (((((((((((((hM.Z).set 0 _).set 1 _).set 2 _).set 3 _).set 4 _).set 5 _).set 6 _).set 7 _).set 8 _).set 9 _).set 10 _).set 11 _).set 12 _
      have r9 : w9.ownsRow (w.heap.size + 1 + 1 + 1) 64 3 (.slice va (cutL t ts k t.tn).length vc) (cutL t ts k t.tn).length (flat3 (cutL t ts k t.tn)) := by rw [← hw9]; exact row_setb (row_setb (row_setb (row_setb (row_setb (row_setb (row_setb (row_setb (row_setb (row_setb (row_setb (row_setb (row_setb (hM.R) (by omega) _ _) (by omega) _ _) (by omega) _ _) (by omega) _ _) (by omega) _ _) (by omega) _ _) (by omega) _ _) (by omega) _ _) (by omega) _ _) (by omega) _ _) (by omega) _ _) (by omega) _ _) (by omega) _ _
      have b9 : Below w.heap.size w w9 := by rw [← hw9]; exact (((((((((((((hM.b).setCell (by simp only; omega) _).setCell (by simp only; omega) _).setCell (by simp only; omega) _).setCell (by simp only; omega) _).setCell (by simp only; omega) _).setCell (by simp only; omega) _).setCell (by simp only; omega) _).setCell (by simp only; omega) _).setCell (by simp only; omega) _).setCell (by simp only; omega) _).setCell (by simp only; omega) _).setCell (by simp only; omega) _).setCell (by simp only; omega) _
      have W9 := Lib.hid hw9
      have E9 := Lib.hid (And.intro oZ9 (And.intro r9 b9))
      clear hM hw9 oZ9 r9 b9
      go_upto_region 8 with fail
      go_cut [] (fun wx => wx = w9)
      case first =>
        go_wp2_with fail
        go_meet
        exact W9.out
      case rest =>
        obtain rfl := hcut
        clear s0 s1 s2 s3 s4 s5 s6 s7 s8 s9 s10 s11 s12 v0 v1 v2 v3 v4 v5 v6 v7 v8 v9 v10 v11 v12 e0 e1 e2 e3 e4 e5 e6 e7 e8 e9 e10 e11 e12 W9
        obtain ⟨v0, v1, v2, v3, v4, v5, v6, v7, v8, v9, v10, v11, v12⟩ := E9.out.1.thirteen
        have hlen : (keptL t ts k t.tn).length = (cutL t ts k t.tn).length := by unfold cutL; rw [List.length_map]
        go_wp2
        refine bodyPost_ret (v := .agg #[(.slice t.r.ha t.r.hn t.r.hc), (.slice t.r.wa t.r.wn t.r.wc), (.int .i64 t.r.own), (.int .i64 t.r.feed), (.int .i64 t.r.g0), (.int .i64 t.r.g1), (.int .i64 t.r.g2), (.int .i64 t.r.lost), (.int .i64 t.first), (.slice t.da k t.dc), (.int .i64 t.lo), (.int .i64 t.hi), (.slice va (cutL t ts k t.tn).length vc)]) (by simp [results, Try.results47, go_sem, v0, v1, v2, v3, v4, v5, v6, v7, v8, v9, v10, v11, v12]) rfl ⟨_, rfl, ?_, E9.out.2.2⟩
        first | exact row_base E9.out.2.1 (by omega) | (rw [hlen]; exact row_base E9.out.2.1 (by omega))
end Go.Proofs.Ytanjkhclhcnnaaa

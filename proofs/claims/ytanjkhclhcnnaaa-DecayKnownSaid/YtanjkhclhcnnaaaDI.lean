/- The reference's both, on. -/
import Derived.Test.YtanjkhclhcnnaaaDH
namespace Go.Proofs.Ytanjkhclhcnnaaa
open Go.RowKit Go.Shelf

theorem ret_sp {x x' y y' : Int} (h1 : x = x') (h2 : y = y') : Ending.returned (.agg #[.int .i64 x, .int .i64 y]) = .returned (.agg #[.int .i64 x', .int .i64 y']) := by subst h1 h2; rfl
set_option maxRecDepth 100000 in
set_option maxHeartbeats 4000000 in
theorem refBoth_any (a0 a1 b0 b1 : Int) (w : World) :
    Calls Try.prog 93 #[.agg #[.int .i64 a0, .int .i64 a1], .agg #[.int .i64 b0, .int .i64 b1]] w fun e' w' => e' = .returned (.agg #[.int .i64 (max a0 b0), .int .i64 (min a1 b1)]) ∧ Below w.heap.size w w' := by
  go_enter Try.func93, Try.ntmps93
  go_wp2
  all_goals refine bodyPost_ret (v := .agg #[.int .i64 _, .int .i64 _]) (by simp [results, Try.results93, go_sem]; first | (exact ⟨rfl, rfl⟩) | rfl) rfl ⟨ret_sp (by omega) (by omega), ?_⟩
  all_goals exact B_alloc (B_alloc (B_alloc (Below.refl _ _) _) _) _

structure I92 (t : TkA) (s n : T2) (B g : Nat) (u v : Int) (w : World) (k : Nat) (outs : Nat → Value) (W : World) : Prop where
  T : Ob W B 31 t.cs
  S : Ob W g 28 #[.int .i64 s.1, .int .i64 s.2]
  N : k < 3 → Ob W (B + 1) 28 #[.int .i64 n.1, .int .i64 n.2]
  e : k = 3 → Ob W (B + 1) 28 #[.int .i64 u, .int .i64 v]
  z : Ob W (B + 1 + 1) 28 #[.int .i64 0, .int .i64 0]
  b : Below w.heap.size w W
  o0 : 1 ≤ k → outs 0 = .int .i64 u
  o1 : 2 ≤ k → outs 1 = .int .i64 v
def V92 (t : TkA) (B : Nat) (s n : T2) (u v : Int) (outs : Nat → Value) : Nat → Value
  | 25 => .pointer (some ⟨B, 0, none⟩)
  | 26 => .agg t.r.cs
  | 27 => .agg #[.int .i64 s.1, .int .i64 s.2]
  | 28 => .pointer (some ⟨B + 1, 0, none⟩)
  | 29 => .int .i64 n.1
  | 30 => outs 0
  | 31 => .pointer (some ⟨B, 0, none⟩)
  | 32 => .agg t.r.cs
  | 33 => .agg #[.int .i64 s.1, .int .i64 s.2]
  | 34 => .pointer (some ⟨B + 1, 1, none⟩)
  | 35 => .int .i64 n.2
  | 36 => outs 1
  | 37 => .agg #[.int .i64 u, .int .i64 v]
  | _ => undef
def need92 : Nat → Nat := fun i => [0, 0, 0, 0, 0, 0, 0, 0, 0, 0, 0, 1, 2, 2].getD i 0
def till92 : Nat → Nat := fun i => [2, 2, 2, 2, 2, 0, 2, 2, 2, 2, 2, 1, 2, 2].getD i 0
def eff92 : Nat → Bool := fun i => [false, false, false, false, false, true, false, false, false, false, false, true, false, true].getD i false

set_option maxRecDepth 100000 in
set_option maxHeartbeats 8000000 in
theorem refOn_any (t : TkA) (hs ws : List T2) (ds : List T4) (ts : List T3) (n : T2) (a b : Nat) (w : World) (hR : TkR w t hs ws ds ts) (hO : RuOK t.r hs ws) (hst : ∀ s ∈ ds.map (strS hs ws), StrOK s) (hn : InSp n) (hb : b ≤ t.dn) (hdn : t.dn ≤ 400) :
    Calls Try.prog 92 #[.agg t.cs, .agg #[.int .i64 n.1, .int .i64 n.2], .int .i64 a, .int .i64 b] w fun e w' => e = .returned (.agg #[.int .i64 (nextFold t.r (ds.map (strS hs ws)) n (List.range' a (b - a))).1, .int .i64 (nextFold t.r (ds.map (strS hs ws)) n (List.range' a (b - a))).2]) ∧ Below w.heap.size w w' := by
  obtain ⟨w0, hw0⟩ : ∃ w0, (((w).alloc (.cells t.cs 31)).alloc (.cells #[.int .i64 n.1, .int .i64 n.2] 28)).alloc (.cells #[.int .i64 0, .int .i64 0] 28) = w0 := ⟨_, rfl⟩
  have hb0 : Below w.heap.size w w0 := by rw [← hw0]; exact B_alloc (B_alloc (B_alloc (Below.refl _ _) _) _) _
  have o0 : Ob w0 (w.heap.size) 31 t.cs := by
    rw [← hw0]
    have h := Ob.new (w) t.cs 31
    replace h := h.alloc (.cells #[.int .i64 n.1, .int .i64 n.2] 28)
    replace h := h.alloc (.cells #[.int .i64 0, .int .i64 0] 28)
    exact h
  have o1 : Ob w0 (w.heap.size + 1) 28 #[.int .i64 n.1, .int .i64 n.2] := by
    rw [← hw0]
    have h := Ob.new ((w).alloc (.cells t.cs 31)) #[.int .i64 n.1, .int .i64 n.2] 28
    replace h := h.alloc (.cells #[.int .i64 0, .int .i64 0] 28)
    simp only [World.size_alloc] at h
    exact h
  have o2 : Ob w0 (w.heap.size + 1 + 1) 28 #[.int .i64 0, .int .i64 0] := by
    rw [← hw0]
    have h := Ob.new (((w).alloc (.cells t.cs 31)).alloc (.cells #[.int .i64 n.1, .int .i64 n.2] 28)) #[.int .i64 0, .int .i64 0] 28
    simp only [World.size_alloc] at h
    exact h
  have hdl := hR.d.len
  replace o0 := Lib.hid o0
  replace o1 := Lib.hid o1
  replace o2 := Lib.hid o2
  replace hb0 := Lib.hid hb0
  replace hw0 := Lib.hid hw0
  go_enter Try.func92, Try.ntmps92
  go_wp2_with fail
  rw [hw0.out]
  go_loopg [9] (b - a) (fun gk i wr => ∃ k : Nat, gk = b - k ∧ i = .int .i64 k ∧ a ≤ k ∧ (k ≤ b ∨ k = a) ∧ InSp (nextFold t.r (ds.map (strS hs ws)) n (List.range' a (k - a))) ∧ Ob wr w.heap.size 31 t.cs ∧ Ob wr (w.heap.size + 1) 28 #[.int .i64 (nextFold t.r (ds.map (strS hs ws)) n (List.range' a (k - a))).1, .int .i64 (nextFold t.r (ds.map (strS hs ws)) n (List.range' a (k - a))).2] ∧ Ob wr (w.heap.size + 1 + 1) 28 #[.int .i64 0, .int .i64 0] ∧ Below w.heap.size w wr)
  case atStart => exact ⟨a, rfl, rfl, Nat.le_refl _, Or.inr rfl, by rw [Nat.sub_self]; exact hn, o0.out, by rw [Nat.sub_self]; exact o1.out, o2.out, hb0.out⟩
  case round =>
    obtain ⟨k, rfl, rfl, hak, hk, hin, oT, oN, oZ, hbw⟩ := hrel
    clear o0 o1 o2 hb0 hw0
    rcases Nat.lt_or_ge k b with hlt | hge
    · have hlt2 : k < t.dn := by omega
      obtain ⟨db, dO, hda, hdb, hdd⟩ := hR.d.at_ (by omega)
      obtain ⟨x0, x1, x2, x3⟩ := hdd k hlt2
      have hsk : (ds.map (strS hs ws)).getD k (0, 0) = strS hs ws (ds.getD k (0, 0, 0, 0)) := by simp [List.getD, hdl, hlt2]
      have HSt := Lib.hid (fun (W' : World) (hh : Below wr.heap.size wr W') => refStrength_any t.r hs ws (ds.getD k (0, 0, 0, 0)).1 (ds.getD k (0, 0, 0, 0)).2.1 (ds.getD k (0, 0, 0, 0)).2.2.1 (ds.getD k (0, 0, 0, 0)).2.2.2 W' (hR.r.below (B_trans hbw hh)) hO)
      have es := hst _ (getD_lt (L := ds.map (strS hs ws)) (i := k) (by rw [List.length_map, hdl]; exact hlt2))
      have hstep : nextFold t.r (ds.map (strS hs ws)) n (List.range' a (k + 1 - a)) = nextS t.r ((ds.map (strS hs ws)).getD k (0, 0)) (nextFold t.r (ds.map (strS hs ws)) n (List.range' a (k - a))) := by
        rw [show k + 1 - a = (k - a) + 1 by omega, List.range'_concat, Nat.one_mul, show a + (k - a) = k by omega]
        unfold nextFold
        rw [List.foldl_append]
        rfl
      rw [hsk] at es hstep
      generalize ds.getD k (0, 0, 0, 0) = d at x0 x1 x2 x3 HSt es hsk hstep
      obtain ⟨s, hs'⟩ : ∃ s, strS hs ws d = s := ⟨_, rfl⟩
      have hx1 : strengthS hs ws d.1 d.2.2.1 = s.1 := congrArg Prod.fst hs'
      have hx2 : strengthS hs ws d.2.1 d.2.2.2 = s.2 := congrArg Prod.snd hs'
      rw [hx1, hx2] at HSt
      rw [hs'] at es hstep
      clear hs' hx1 hx2 hsk hdd
      obtain ⟨d0, d1, d2, d3⟩ := d
      simp only at x0 x1 x2 x3 HSt
      generalize nextFold t.r (ds.map (strS hs ws)) n (List.range' a (k - a)) = p at hin oN hstep
      have hnx := next_in hO es hin
      have H1 := Lib.hid (fun W' => refLeast_any t.r hs ws p.1 s.1 s.2 W' hO hin.a.1 hin.a.2 es.lo (by have := es.le; have := es.hi; omega))
      have H2 := Lib.hid (fun W' => refMost_any t.r hs ws p.2 s.2 s.1 W' hO hin.b.1 hin.b.2 (by have := es.le; have := es.lo; omega) es.hi)
      obtain ⟨u, hu⟩ : ∃ u, (nextS t.r s p).1 = u := ⟨_, rfl⟩
      obtain ⟨v, hv⟩ : ∃ v, (nextS t.r s p).2 = v := ⟨_, rfl⟩
      rw [show leastS t.r s.1 p.1 = u from hu] at H1
      rw [show mostS t.r s.2 p.2 = v from hv] at H2
      have HS := Lib.hid (fun (W' : World) (hh : Below wr.heap.size wr W') => (show (W'.cell? ⟨w.heap.size, 0, none⟩ = some (.slice t.r.ha t.r.hn t.r.hc) ∧ W'.cell? ⟨w.heap.size, 1, none⟩ = some (.slice t.r.wa t.r.wn t.r.wc) ∧ W'.cell? ⟨w.heap.size, 2, none⟩ = some (.int .i64 t.r.own) ∧ W'.cell? ⟨w.heap.size, 3, none⟩ = some (.int .i64 t.r.feed) ∧ W'.cell? ⟨w.heap.size, 4, none⟩ = some (.int .i64 t.r.g0) ∧ W'.cell? ⟨w.heap.size, 5, none⟩ = some (.int .i64 t.r.g1) ∧ W'.cell? ⟨w.heap.size, 6, none⟩ = some (.int .i64 t.r.g2) ∧ W'.cell? ⟨w.heap.size, 7, none⟩ = some (.int .i64 t.r.lost) ∧ W'.cell? ⟨w.heap.size, 8, none⟩ = some (.int .i64 t.first) ∧ W'.cell? ⟨w.heap.size, 9, none⟩ = some (.slice (some ⟨db, dO, none⟩) t.dn t.dc) ∧ W'.cell? ⟨w.heap.size, 10, none⟩ = some (.int .i64 t.lo) ∧ W'.cell? ⟨w.heap.size, 11, none⟩ = some (.int .i64 t.hi) ∧ W'.cell? ⟨w.heap.size, 12, none⟩ = some (.slice t.ta t.tn t.tc)) ∧ W'.cell? ⟨db, dO + k * 4, none⟩ = some (.int .i64 d0) ∧ W'.cell? ⟨db, dO + k * 4 + 1, none⟩ = some (.int .i64 d1) ∧ W'.cell? ⟨db, dO + k * 4 + 2, none⟩ = some (.int .i64 d2) ∧ W'.cell? ⟨db, dO + k * 4 + 3, none⟩ = some (.int .i64 d3) from ⟨by have h := (oT.below hh).task; rwa [hda] at h, ((B_trans hbw hh).cell (p := ⟨db, _, none⟩) hdb).trans x0, ((B_trans hbw hh).cell (p := ⟨db, _, none⟩) hdb).trans x1, ((B_trans hbw hh).cell (p := ⟨db, _, none⟩) hdb).trans x2, ((B_trans hbw hh).cell (p := ⟨db, _, none⟩) hdb).trans x3⟩))
      have a1 : (0 : Int) ≤ k := by omega
      have a2 : (k : Int) < t.dn := by omega
      have a3 : (k : Int) < b := by omega
      have u2 : IntKind.i64.wrap ((k : Int) + 1) = (k : Int) + 1 := IntWalk.i64_in _ (by omega)
      have gT := oT.lt
      have gZ := oZ.lt
      have PP := Lib.hid (And.intro hstep (And.intro hnx (And.intro hu hv)))
      replace oT := Lib.hid oT
      replace oN := Lib.hid oN
      replace oZ := Lib.hid oZ
      replace hbw := Lib.hid hbw
      clear hin hstep hnx hu hv es x0 x1 x2 x3 hda hst
      go_upto_region 4 with fail
      go_cut [10] (fun a wx => ∃ g : Nat, a = .pointer (some ⟨g, 0, none⟩) ∧ wr.heap.size ≤ g ∧ Ob wx g 28 #[.int .i64 s.1, .int .i64 s.2] ∧ Below wr.heap.size wr wx)
      case first =>
        refine wp_region_held' (S := fun W' => Below wr.heap.size wr W') (by kernel_rfl) ((Below.refl _ wr).drew) (fun hHeld => ?_)
        refine wpAnyH_take2 (i := 0) (t := 17) (v := ?_) rfl rfl (by kernel_rfl) (by kernel_rfl) (by kernel_rfl) (fun _ _ _ h => Only.not_panic h) (Or.inl ⟨by kernel_rfl, fun W hW => ?_⟩) (by assumption) ?_
        rotate_left
        · have hW2 := hW
          obtain ⟨⟨f0, f1, f2, f3, f4, f5, f6, f7, f8, f9, f10, f11, f12⟩, y0, y1, y2, y3⟩ := HS.out W hW2
          clear hW hW2
          go_simp
          try with_reducible rfl
        try simp only [Act.put, List.setIfInBounds_toArray, List.set_cons_zero, List.set_cons_succ]
        refine wpAnyH_take2 (i := 1) (t := 18) (v := ?_) rfl rfl (by kernel_rfl) (by kernel_rfl) (by kernel_rfl) (fun _ _ _ h => Only.not_panic h) (Or.inl ⟨by kernel_rfl, fun W hW => ?_⟩) (by assumption) ?_
        rotate_left
        · have hW2 := hW
          obtain ⟨⟨f0, f1, f2, f3, f4, f5, f6, f7, f8, f9, f10, f11, f12⟩, y0, y1, y2, y3⟩ := HS.out W hW2
          clear hW hW2
          go_simp
          try with_reducible rfl
        try simp only [Act.put, List.setIfInBounds_toArray, List.set_cons_zero, List.set_cons_succ]
        refine wpAnyH_take2 (i := 2) (t := 19) (v := ?_) rfl rfl (by kernel_rfl) (by kernel_rfl) (by kernel_rfl) (fun _ _ _ h => Only.not_panic h) (Or.inl ⟨by kernel_rfl, fun W hW => ?_⟩) (by assumption) ?_
        rotate_left
        · have hW2 := hW
          obtain ⟨⟨f0, f1, f2, f3, f4, f5, f6, f7, f8, f9, f10, f11, f12⟩, y0, y1, y2, y3⟩ := HS.out W hW2
          clear hW hW2
          go_simp
          try with_reducible rfl
        try simp only [Act.put, List.setIfInBounds_toArray, List.set_cons_zero, List.set_cons_succ]
        refine wpAnyH_take2 (i := 3) (t := 20) (v := ?_) rfl rfl (by kernel_rfl) (by kernel_rfl) (by kernel_rfl) (fun _ _ _ h => Only.not_panic h) (Or.inl ⟨by kernel_rfl, fun W hW => ?_⟩) (by assumption) ?_
        rotate_left
        · have hW2 := hW
          obtain ⟨⟨f0, f1, f2, f3, f4, f5, f6, f7, f8, f9, f10, f11, f12⟩, y0, y1, y2, y3⟩ := HS.out W hW2
          clear hW hW2
          go_simp
          try with_reducible rfl
        try simp only [Act.put, List.setIfInBounds_toArray, List.set_cons_zero, List.set_cons_succ]
        refine wpAnyH_take2 (i := 4) (t := 21) (v := ?_) rfl rfl (by kernel_rfl) (by kernel_rfl) (by kernel_rfl) (fun _ _ _ h => Only.not_panic h) (Or.inl ⟨by kernel_rfl, fun W hW => ?_⟩) (by assumption) ?_
        rotate_left
        · have hW2 := hW
          obtain ⟨⟨f0, f1, f2, f3, f4, f5, f6, f7, f8, f9, f10, f11, f12⟩, y0, y1, y2, y3⟩ := HS.out W hW2
          clear hW hW2
          go_simp
          try with_reducible rfl
        try simp only [Act.put, List.setIfInBounds_toArray, List.set_cons_zero, List.set_cons_succ]
        refine wpAnyH_take2 (i := 5) (t := 22) (v := ?_) rfl rfl (by kernel_rfl) (by kernel_rfl) (by kernel_rfl) (fun _ _ _ h => Only.not_panic h) (Or.inl ⟨by kernel_rfl, fun W hW => ?_⟩) (by assumption) ?_
        rotate_left
        · have hW2 := hW
          obtain ⟨⟨f0, f1, f2, f3, f4, f5, f6, f7, f8, f9, f10, f11, f12⟩, y0, y1, y2, y3⟩ := HS.out W hW2
          clear hW hW2
          go_simp
          try with_reducible rfl
        try simp only [Act.put, List.setIfInBounds_toArray, List.set_cons_zero, List.set_cons_succ]
        refine wpAnyH_take2 (i := 6) (t := 23) (v := ?_) rfl rfl (by kernel_rfl) (by kernel_rfl) (by kernel_rfl) (fun _ _ _ h => Only.not_panic h) (Or.inl ⟨by kernel_rfl, fun W hW => ?_⟩) (by assumption) ?_
        rotate_left
        · have hW2 := hW
          obtain ⟨⟨f0, f1, f2, f3, f4, f5, f6, f7, f8, f9, f10, f11, f12⟩, y0, y1, y2, y3⟩ := HS.out W hW2
          clear hW hW2
          go_simp
          try with_reducible rfl
        try simp only [Act.put, List.setIfInBounds_toArray, List.set_cons_zero, List.set_cons_succ]
        refine wpAnyH_ready (rs := [7, 8]) (by kernel_rfl) (by simp) ?_
        refine AllReadyH.cons rfl (fun K hK => ?_) ?_
        · go_simp
          refine (HSt.out _ hHeld).mono ?_
          rintro e w7 ⟨rfl, hb7⟩
          try simp only []
          refine hK.out _ _ ?_ (fun hHeld => ?_)
          · exact B_trans hHeld hb7
          clear hK K
          try simp only [Act.put, List.setIfInBounds_toArray, List.set_cons_zero, List.set_cons_succ]
          refine wpAnyH_ready (rs := [8]) (by kernel_rfl) (by simp) ?_
          refine AllReadyH.cons rfl (fun K hK => ?_) ?_
          · go_simp
            have hpre := hHeld
            have o9 := Lib.hid (Ob.new (w7) #[.int .i64 0, .int .i64 0] 28)
            have hb9 := hHeld.size
            refine hK.out _ _ ?_ (fun hHeld => ?_)
            · exact B_alloc hHeld _
            clear hK K
            try simp only [Act.put, List.setIfInBounds_toArray, List.set_cons_zero, List.set_cons_succ]
            refine wpAnyH_ready (rs := [9]) (by kernel_rfl) (by simp) ?_
            refine AllReadyH.cons rfl (fun K hK => ?_) ?_
            · have v0 := o9.out.cell 0
              have v1 := o9.out.cell 1
              have g0 := o9.out.frozen 0
              have g1 := o9.out.frozen 1
              simp only [List.getElem?_toArray, List.getElem?_cons_zero, List.getElem?_cons_succ] at v0 v1
              go_simp
              refine hK.out _ _ ?_ (fun hHeld => ?_)
              · first | exact B_alloc hpre _ | exact (hHeld.setCell (by first | omega | (simp only; omega) | (simp; omega)) _).setCell (by first | omega | (simp only; omega) | (simp; omega)) _
              clear hK K
              try simp only [Act.put, List.setIfInBounds_toArray, List.set_cons_zero, List.set_cons_succ]
              refine wpAnyH_done (by kernel_rfl) (Only.mk ?_) _
              go_wp2_with fail
              go_meet
              first | exact ⟨_, rfl, by first | omega | exact Nat.le_refl _, Ob.new _ _ _, hHeld⟩ | exact ⟨_, rfl, by first | omega | exact Nat.le_refl _, (o9.out.set 0 _).set 1 _, hHeld⟩
            exact AllReadyH.nil
          exact AllReadyH.nil
        refine AllReadyH.cons rfl (fun K hK => ?_) ?_
        · go_simp
          have o9 := Lib.hid (show Ob (wr.drew.alloc (.cells #[.int .i64 0, .int .i64 0] 28)) wr.heap.size 28 #[.int .i64 0, .int .i64 0] from Ob.new _ _ _)
          have hpre := hHeld
          refine hK.out _ _ ?_ (fun hHeld => ?_)
          · exact B_alloc hHeld _
          clear hK K
          try simp only [Act.put, List.setIfInBounds_toArray, List.set_cons_zero, List.set_cons_succ]
          refine wpAnyH_ready (rs := [7]) (by kernel_rfl) (by simp) ?_
          refine AllReadyH.cons rfl (fun K hK => ?_) ?_
          · go_simp
            refine (HSt.out _ hHeld).mono ?_
            rintro e w7 ⟨rfl, hb7⟩
            try simp only []
            replace o9 := Lib.hid (o9.out.below hb7)
            refine hK.out _ _ ?_ (fun hHeld => ?_)
            · exact B_trans hHeld hb7
            clear hK K
            try simp only [Act.put, List.setIfInBounds_toArray, List.set_cons_zero, List.set_cons_succ]
            refine wpAnyH_ready (rs := [9]) (by kernel_rfl) (by simp) ?_
            refine AllReadyH.cons rfl (fun K hK => ?_) ?_
            · have v0 := o9.out.cell 0
              have v1 := o9.out.cell 1
              have g0 := o9.out.frozen 0
              have g1 := o9.out.frozen 1
              simp only [List.getElem?_toArray, List.getElem?_cons_zero, List.getElem?_cons_succ] at v0 v1
              go_simp
              refine hK.out _ _ ?_ (fun hHeld => ?_)
              · first | exact B_alloc hpre _ | exact (hHeld.setCell (by first | omega | (simp only; omega) | (simp; omega)) _).setCell (by first | omega | (simp only; omega) | (simp; omega)) _
              clear hK K
              try simp only [Act.put, List.setIfInBounds_toArray, List.set_cons_zero, List.set_cons_succ]
              refine wpAnyH_done (by kernel_rfl) (Only.mk ?_) _
              go_wp2_with fail
              go_meet
              first | exact ⟨_, rfl, by first | omega | exact Nat.le_refl _, Ob.new _ _ _, hHeld⟩ | exact ⟨_, rfl, by first | omega | exact Nat.le_refl _, (o9.out.set 0 _).set 1 _, hHeld⟩
            exact AllReadyH.nil
          exact AllReadyH.nil
        exact AllReadyH.nil
      case rest =>
        clear HS HSt
        obtain ⟨g, rfl, hgw, oS, hbx⟩ := hcut
        have I0 : Hid (I92 t s p w.heap.size g u v w 0 (fun _ => undef) wc.drew) := ⟨(oT.out.below hbx).drew, oS.drew, fun _ => (oN.out.below hbx).drew, fun h => by omega, (oZ.out.below hbx).drew, (B_trans hbw.out hbx).drew, fun h => by omega, fun h => by omega⟩
        have hgB : g ≠ w.heap.size + 1 := by omega
        clear oS hbx oT oN oZ hbw
        go_upto_region 5 with fail
        obtain ⟨B, hB⟩ : ∃ B, w.heap.size = B := ⟨_, rfl⟩
        have hwB : w.heap.size ≤ B := by omega
        rw [hB] at I0 hgB
        try rw [hB]
        refine wp_region_steps (I := I92 t s p B g u v w) (V := V92 t B s p u v) (eff := eff92) (need := need92) (till := till92) 3 (by kernel_rfl) (by decide) (by kernel_rfl) rfl (by kernel_rfl) (by kernel_rfl) (by kernel_rfl) (by kernel_rfl) (by kernel_rfl) I0.out ?steps ?hend
        case hend =>
          intro outs w' hI
          have hT := Lib.hid hI.T
          have hE := Lib.hid (hI.e rfl)
          have hZ := Lib.hid hI.z
          have hb' := Lib.hid hI.b
          clear hI I0
          simp only [flowAct, List.filterMap_cons, List.filterMap_nil, patch, List.setIfInBounds_toArray, List.set_cons_zero, List.set_cons_succ]
          go_wp2_with fail
          try rw [← hB]
          go_roundg (b - (k + 1))
          case measure => omega
          case rel =>
            subst hB
            obtain ⟨h1, h2, h3, h4⟩ := PP.out
            refine ⟨k + 1, rfl, by push_cast; rfl, by omega, Or.inl hlt, ?_, hT.out, ?_, hZ.out, hb'.out⟩
            · rw [h1]; exact h2
            · rw [h1, h3, h4]; exact hE.out
        case steps =>
          refine ⟨⟨rfl, fun t ht k' outs u _ => by cases ht; rfl, fun k' outs W' ρ hk1 hk2 hI hc hg h_fn hr ho => ?_⟩, ?_⟩
          · have hk2' : k' ≤ 2 := hk2
            have o4 := ho 4 (by kernel_rfl)
            clear hI
            refine step_pure rfl (v := .pointer (some ⟨B, 0, none⟩)) (fun t ht => by cases ht; rfl) ?_
            go_simp
          refine ⟨⟨rfl, fun t ht k' outs u _ => by cases ht; rfl, fun k' outs W' ρ hk1 hk2 hI hc hg h_fn hr ho => ?_⟩, ?_⟩
          · have hk2' : k' ≤ 2 := hk2
            have r25 : ρ (.tmp 25) = .pointer (some ⟨B, 0, none⟩) := hr 25 (by kernel_rfl)
            obtain ⟨f0, f1, f2, f3, f4, f5, f6, f7, f8, f9, f10, f11, f12⟩ := hI.T.task
            clear hI
            refine step_pure rfl (v := .agg t.r.cs) (fun t ht => by cases ht; rfl) ?_
            go_simp
          refine ⟨⟨rfl, fun t ht k' outs u _ => by cases ht; rfl, fun k' outs W' ρ hk1 hk2 hI hc hg h_fn hr ho => ?_⟩, ?_⟩
          · have hk2' : k' ≤ 2 := hk2
            have o10 := ho 10 (by kernel_rfl)
            obtain ⟨s0, s1, -, -⟩ := hI.S.span
            clear hI
            refine step_pure rfl (v := .agg #[.int .i64 s.1, .int .i64 s.2]) (fun t ht => by cases ht; rfl) ?_
            go_simp
          refine ⟨⟨rfl, fun t ht k' outs u _ => by cases ht; rfl, fun k' outs W' ρ hk1 hk2 hI hc hg h_fn hr ho => ?_⟩, ?_⟩
          · have hk2' : k' ≤ 2 := hk2
            have o5 := ho 5 (by kernel_rfl)
            clear hI
            refine step_pure rfl (v := .pointer (some ⟨B + 1, 0, none⟩)) (fun t ht => by cases ht; rfl) ?_
            go_simp
          refine ⟨⟨rfl, fun t ht k' outs u _ => by cases ht; rfl, fun k' outs W' ρ hk1 hk2 hI hc hg h_fn hr ho => ?_⟩, ?_⟩
          · have hk2' : k' ≤ 2 := hk2
            have r28 : ρ (.tmp 28) = .pointer (some ⟨B + 1, 0, none⟩) := hr 28 (by kernel_rfl)
            obtain ⟨n0, n1, -, -⟩ := (hI.N (by omega)).span
            clear hI
            refine step_pure rfl (v := .int .i64 p.1) (fun t ht => by cases ht; rfl) ?_
            go_simp
          refine ⟨⟨rfl, fun t ht k' outs u (h : 0 < k') => by cases ht; show upd outs k' u 0 = outs 0; unfold upd; rw [if_neg (by omega)], fun k' outs W' ρ hk1 hk2 hI hc hg h_fn hr ho => ?_⟩, ?_⟩
          · obtain rfl : k' = 0 := by have h1 : 0 ≤ k' := hk1; have h2 : k' ≤ 0 := hk2; omega
            have r26 : ρ (.tmp 26) = .agg t.r.cs := hr 26 (by kernel_rfl)
            have r27 : ρ (.tmp 27) = .agg #[.int .i64 s.1, .int .i64 s.2] := hr 27 (by kernel_rfl)
            have r29 : ρ (.tmp 29) = .int .i64 p.1 := hr 29 (by kernel_rfl)
            have hfn := h_fn 64
            refine step_call rfl (f := 64) (args := #[.agg t.r.cs, .agg #[.int .i64 s.1, .int .i64 s.2], .int .i64 p.1]) (w' := W') ?_ ?_
            · clear hI; go_simp
            · refine (H1.out W').mono ?_
              rintro e w2 ⟨rfl, hb2⟩
              exact ⟨_, rfl, ⟨hI.T.below hb2, hI.S.below hb2, fun _ => (hI.N (by omega)).below hb2, fun h => by omega, hI.z.below hb2, B_trans hI.b hb2, fun h => rfl, fun h => by omega⟩, fun t ht => by cases ht; rfl⟩
          refine ⟨⟨rfl, fun t ht k' outs u _ => by cases ht; rfl, fun k' outs W' ρ hk1 hk2 hI hc hg h_fn hr ho => ?_⟩, ?_⟩
          · have hk2' : k' ≤ 2 := hk2
            have o4 := ho 4 (by kernel_rfl)
            clear hI
            refine step_pure rfl (v := .pointer (some ⟨B, 0, none⟩)) (fun t ht => by cases ht; rfl) ?_
            go_simp
          refine ⟨⟨rfl, fun t ht k' outs u _ => by cases ht; rfl, fun k' outs W' ρ hk1 hk2 hI hc hg h_fn hr ho => ?_⟩, ?_⟩
          · have hk2' : k' ≤ 2 := hk2
            have r31 : ρ (.tmp 31) = .pointer (some ⟨B, 0, none⟩) := hr 31 (by kernel_rfl)
            obtain ⟨f0, f1, f2, f3, f4, f5, f6, f7, f8, f9, f10, f11, f12⟩ := hI.T.task
            clear hI
            refine step_pure rfl (v := .agg t.r.cs) (fun t ht => by cases ht; rfl) ?_
            go_simp
          refine ⟨⟨rfl, fun t ht k' outs u _ => by cases ht; rfl, fun k' outs W' ρ hk1 hk2 hI hc hg h_fn hr ho => ?_⟩, ?_⟩
          · have hk2' : k' ≤ 2 := hk2
            have o10 := ho 10 (by kernel_rfl)
            obtain ⟨s0, s1, -, -⟩ := hI.S.span
            clear hI
            refine step_pure rfl (v := .agg #[.int .i64 s.1, .int .i64 s.2]) (fun t ht => by cases ht; rfl) ?_
            go_simp
          refine ⟨⟨rfl, fun t ht k' outs u _ => by cases ht; rfl, fun k' outs W' ρ hk1 hk2 hI hc hg h_fn hr ho => ?_⟩, ?_⟩
          · have hk2' : k' ≤ 2 := hk2
            have o5 := ho 5 (by kernel_rfl)
            clear hI
            refine step_pure rfl (v := .pointer (some ⟨B + 1, 1, none⟩)) (fun t ht => by cases ht; rfl) ?_
            go_simp
          refine ⟨⟨rfl, fun t ht k' outs u _ => by cases ht; rfl, fun k' outs W' ρ hk1 hk2 hI hc hg h_fn hr ho => ?_⟩, ?_⟩
          · have hk2' : k' ≤ 2 := hk2
            have r34 : ρ (.tmp 34) = .pointer (some ⟨B + 1, 1, none⟩) := hr 34 (by kernel_rfl)
            obtain ⟨n0, n1, -, -⟩ := (hI.N (by omega)).span
            clear hI
            refine step_pure rfl (v := .int .i64 p.2) (fun t ht => by cases ht; rfl) ?_
            go_simp
          refine ⟨⟨rfl, fun t ht k' outs u (h : 1 < k') => by cases ht; show upd outs k' u 1 = outs 1; unfold upd; rw [if_neg (by omega)], fun k' outs W' ρ hk1 hk2 hI hc hg h_fn hr ho => ?_⟩, ?_⟩
          · obtain rfl : k' = 1 := by have h1 : 1 ≤ k' := hk1; have h2 : k' ≤ 1 := hk2; omega
            have r32 : ρ (.tmp 32) = .agg t.r.cs := hr 32 (by kernel_rfl)
            have r33 : ρ (.tmp 33) = .agg #[.int .i64 s.1, .int .i64 s.2] := hr 33 (by kernel_rfl)
            have r35 : ρ (.tmp 35) = .int .i64 p.2 := hr 35 (by kernel_rfl)
            have hfn := h_fn 65
            refine step_call rfl (f := 65) (args := #[.agg t.r.cs, .agg #[.int .i64 s.1, .int .i64 s.2], .int .i64 p.2]) (w' := W') ?_ ?_
            · clear hI; go_simp
            · refine (H2.out W').mono ?_
              rintro e w2 ⟨rfl, hb2⟩
              exact ⟨_, rfl, ⟨hI.T.below hb2, hI.S.below hb2, fun _ => (hI.N (by omega)).below hb2, fun h => by omega, hI.z.below hb2, B_trans hI.b hb2, fun h => hI.o0 (by omega), fun h => rfl⟩, fun t ht => by cases ht; rfl⟩
          refine ⟨⟨rfl, fun t ht k' outs u _ => by cases ht; rfl, fun k' outs W' ρ hk1 hk2 hI hc hg h_fn hr ho => ?_⟩, ?_⟩
          · have hk2' : k' ≤ 2 := hk2
            have hk1' : 2 ≤ k' := hk1
            have r30 : ρ (.tmp 30) = .int .i64 u := (hr 30 (by kernel_rfl)).trans (hI.o0 (by omega))
            have r36 : ρ (.tmp 36) = .int .i64 v := (hr 36 (by kernel_rfl)).trans (hI.o1 (by omega))
            clear hI
            refine step_pure rfl (v := .agg #[.int .i64 u, .int .i64 v]) (fun t ht => by cases ht; rfl) ?_
            go_simp
          refine ⟨⟨rfl, (fun t ht => by cases ht), fun k' outs W' ρ hk1 hk2 hI hc hg h_fn hr ho => ?_⟩, trivial⟩
          · obtain rfl : k' = 2 := by have h1 : 2 ≤ k' := hk1; have h2 : k' ≤ 2 := hk2; omega
            have o5 := ho 5 (by kernel_rfl)
            have r37 : ρ (.tmp 37) = .agg #[.int .i64 u, .int .i64 v] := hr 37 (by kernel_rfl)
            have o4' := hI.N (by omega)
            obtain ⟨v0, v1, g0, g1⟩ := o4'.span
            refine step_store rfl rfl (w' := (W'.setCell ⟨B + 1, 0, none⟩ (.int .i64 u)).setCell ⟨B + 1, 1, none⟩ (.int .i64 v)) ?_ ⟨(hI.T.other (by simp only; omega) _).other (by simp only; omega) _, (hI.S.other (by simp only; omega) _).other (by simp only; omega) _, fun h => by omega, fun _ => (o4'.set 0 _).set 1 _, (hI.z.other (by simp only; omega) _).other (by simp only; omega) _, (hI.b.setCell (by simp only; omega) _).setCell (by simp only; omega) _, fun h => hI.o0 (by omega), fun h => hI.o1 (by omega)⟩
            clear hI o4'; go_simp
    · have hfin : nextFold t.r (ds.map (strS hs ws)) n (List.range' a (k - a)) = nextFold t.r (ds.map (strS hs ws)) n (List.range' a (b - a)) := by
        rw [show k - a = b - a by omega]
      rw [hfin] at oN
      have hPP := Lib.hid hbw
      obtain ⟨p, hp'⟩ : ∃ p, nextFold t.r (ds.map (strS hs ws)) n (List.range' a (b - a)) = p := ⟨_, rfl⟩
      rw [hp'] at oN
      have hp := Lib.hid hp'
      clear hp' hfin
      obtain ⟨n0, n1, -, -⟩ := oN.span
      obtain ⟨z0, z1, y0, y1⟩ := oZ.span
      have hge' : ¬ (k : Int) < b := by omega
      clear hR hst hin oT oN oZ hbw
      go_wp2
      refine bodyPost_ret (v := .agg #[.int .i64 p.1, .int .i64 p.2]) (by simp [results, Try.results92, go_sem, z0, z1]) rfl ⟨by rw [hp.out], ?_⟩
      exact (hPP.out.setCell (by simp only; omega) _).setCell (by simp only; omega) _
end Go.Proofs.Ytanjkhclhcnnaaa

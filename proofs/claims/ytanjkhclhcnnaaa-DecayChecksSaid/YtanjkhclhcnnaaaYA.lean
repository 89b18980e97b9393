/- The task of a task without an error: its strengths are made day by day. -/
import Derived.Test.YtanjkhclhcnnaaaWY
import Derived.Test.YtanjkhclhcnnaaaWX
import Derived.Test.YtanjkhclhcnnaaaWT
import Derived.Deep.DeepCutAuto
namespace Go.Proofs.Ytanjkhclhcnnaaa
open Go.RowKit Go.Shelf

theorem infoSpan : (Try.prog.info? 28).map (fun i => (i.zero, i.size, i.bytes)) = some (some (.agg #[.int .i64 0, .int .i64 0]), 2, 16) := by kernel_rfl
/-- The cells of a task of the code's own, with strengths v. -/
abbrev TkA.xc (t : TkA) (v : Value) : Array Value := #[.slice t.r.ha t.r.hn t.r.hc, .slice t.r.wa t.r.wn t.r.wc, .int .i64 t.r.own, .int .i64 t.r.feed, .int .i64 t.r.g0, .int .i64 t.r.g1, .int .i64 t.r.g2, .int .i64 t.r.lost, .int .i64 t.first, v, .int .i64 t.lo, .int .i64 t.hi, .slice t.ta t.tn t.tc]
abbrev zc : Array Value := #[.slice none 0 0, .slice none 0 0, .int .i64 0, .int .i64 0, .int .i64 0, .int .i64 0, .int .i64 0, .int .i64 0, .int .i64 0, .slice none 0 0, .int .i64 0, .int .i64 0, .slice none 0 0]

theorem row_form {W : World} {base n s : Nat} {e : TypeId} {v : Value} {xs : List Value} (h : W.ownsRow base e s v n xs) (hn : 0 < n) : ∃ g cap, v = .slice (some ⟨g, 0, none⟩) n cap := by
  rcases h.2 with ⟨-, h2⟩ | ⟨g, cap, _, h1, -⟩
  · omega
  · exact ⟨g, cap, h1⟩
/-- A row of spans to which one is joined. -/
theorem joined {W : World} {base n : Nat} {v : Value} {xs : List Value} {g : Nat} {p q : Int} (hv : W.ownsRow base 28 2 v n xs) (hg : Ob W g 28 #[.int .i64 p, .int .i64 q]) (hn : n ≤ 100000) (hb : base ≤ W.heap.size) :
    ∃ v' w', (Builtin.append_ #[49, 49] 49 #[v, .slice (some ⟨g, 0, none⟩) 1 1]).run Try.prog W = .ok v' w' ∧ w'.ownsRow base 28 2 v' (n + 1) (xs ++ [.int .i64 p, .int .i64 q]) ∧ W.grownBy w' v.ownBlock := by
  obtain ⟨i0, hi, hz0, hs0, hy0⟩ := info_parts infoSpan
  obtain ⟨v', w', h1, h2, h3, -⟩ := run_append_own (P := Try.prog) (w := W) base 49 49 28 i0 _ 2 16 Try.underlying49 hi hz0 hs0 hy0 rfl (by decide) v n xs hv ⟨g, 0, none⟩ 1 1 [.int .i64 p, .int .i64 q] rfl
    (fun j u h => by
      rw [show (⟨g, 0, none⟩ : Addr).add j = ⟨g, j, none⟩ by simp [Addr.add, eq_comm]]
      rw [hg.cell]; simpa using h) (by intro u hu; simp at hu; rcases hu with rfl | rfl <;> rfl) (by unfold maxLen; omega) (by omega) hb
  exact ⟨v', w', h1, h2, h3⟩
theorem run_append_op {P : Program} {ρ : Operand → Value} {o : Oper} {sl x : Operand} {t : TypeId} {v u v' : Value} {w w' : World} (ho : o.op = .call { callee := .builtin .append, args := #[sl, x], argTypes := #[t, t] }) (hs : ρ sl = v) (hx : ρ x = u)
    (hr : (Builtin.append_ #[t, t] o.type #[v, u]).run P w = .ok v' w') : (execOp ρ o).run P w = .ok (.value v') w' := by
  unfold execOp
  simp only [ho, resolve, invoke, builtin, Sem.run_bind, Sem.run_pure, Result.andThen_ok, List.map_toArray, List.map_cons, List.map_nil, hs, hx, hr]

theorem B_grown' {w W W1 : World} {e : TypeId} {s n : Nat} {v : Value} {xs : List Value} (h : Below w.heap.size w W) (ho : W.ownsRow w.heap.size e s v n xs) (hg : W.grownBy W1 v.ownBlock) : Below w.heap.size w W1 :=
  h.grown hg h.size fun k hk => (ho.lt k hk).1

/-- What holds while one day's strength is joined, step by step. -/
def TI (t : TkA) (w : World) (X D R : Nat) (dc : Array Value) (v : Value) (n : Nat) (xs : List Value) (p q : Int) (k : Nat) (outs : Nat → Value) (W : World) : Prop :=
  Below w.heap.size w W ∧ Ob W D 39 dc ∧ Ob W R 104 zc ∧ (k < 4 → Ob W X 104 (t.xc v)) ∧ (k = 4 → Ob W X 104 (t.xc (outs 2))) ∧
  (k < 3 → W.ownsRow w.heap.size 28 2 v n xs) ∧ (3 ≤ k → W.ownsRow w.heap.size 28 2 (outs 2) (n + 1) (xs ++ [.int .i64 p, .int .i64 q])) ∧
  (1 ≤ k → outs 0 = .agg #[.int .i64 p, .int .i64 q]) ∧ (k = 2 → ∃ g, outs 1 = .slice (some ⟨g, 0, none⟩) 1 1 ∧ Ob W g 28 #[.int .i64 p, .int .i64 q])
def tneed : Nat → Nat := fun i => [0, 0, 0, 0, 0, 0, 1, 2, 3, 3].getD i 0
def ttill : Nat → Nat := fun i => [4, 2, 4, 0, 0, 0, 1, 2, 3, 3].getD i 0
def teff : Nat → Bool := fun i => [false, false, false, false, false, true, true, true, false, true].getD i false
def TV (t : TkA) (X : Nat) (dc : Array Value) (v : Value) (outs : Nat → Value) : Nat → Value
  | 23 => .pointer (some ⟨X, 9, none⟩)
  | 24 => v
  | 25 => .pointer (some ⟨X, 0, none⟩)
  | 26 => .agg t.r.cs
  | 27 => .agg dc
  | 28 => outs 0
  | 29 => outs 1
  | 30 => outs 2
  | 31 => .pointer (some ⟨X, 9, none⟩)
  | _ => undef

set_option maxRecDepth 100000 in
set_option maxHeartbeats 8000000 in
theorem taskOf_any (t : TkA) (hs ws : List T2) (ds : List T4) (ts : List T3) (w : World) (hR : TkR w t hs ws ds ts) (hO : RuOK t.r hs ws) (hdn : t.dn ≤ 400) :
    Calls Try.prog 68 #[.agg t.cs] w fun e w' => (∃ v, e = .returned (.agg (t.xc v)) ∧ w'.ownsRow w.heap.size 28 2 v t.dn (flat2 (ds.map (strS hs ws)))) ∧ Below w.heap.size w w' := by
  have HRR := Lib.hid hR
  have hsz := hR.d.len
  clear hR
  obtain ⟨W3, hW3⟩ : ∃ W3, ((w.alloc (.cells t.cs 31)).alloc (.cells zc 104)).alloc (.cells (t.xc (.slice none 0 0)) 104) = W3 := ⟨_, rfl⟩
  have hb3 : Hid (Below w.heap.size w W3) := by rw [Hid, ← hW3]; exact B_alloc (B_alloc (B_alloc (Below.refl _ _) _) _) _
  have hX3 : Hid (Ob W3 (w.heap.size + 1 + 1) 104 (t.xc (.slice none 0 0))) := by
    rw [Hid, ← hW3]
    have := Ob.new ((w.alloc (.cells t.cs 31)).alloc (.cells zc 104)) (t.xc (.slice none 0 0)) 104
    simpa using this
  have hR3 : Hid (Ob W3 (w.heap.size + 1) 104 zc) := by
    rw [Hid, ← hW3]
    have := (Ob.new (w.alloc (.cells t.cs 31)) zc 104).alloc (.cells (t.xc (.slice none 0 0)) 104)
    simpa using this
  replace hW3 := Lib.hid hW3
  go_enter Try.func68, Try.ntmps68
  go_wp2
  rw [hW3.out]
  clear hW3
  generalize hX : w.heap.size + 1 + 1 = X at hX3 ⊢
  generalize hRb : w.heap.size + 1 = R at hR3 ⊢
  have hXR : X ≠ R := by omega
  have hXw : w.heap.size ≤ X := by omega
  have hRw : w.heap.size ≤ R := by omega
  clear hX hRb
  go_loopg [19] t.dn (fun gk i wr => ∃ (k : Nat) (v : Value), gk = t.dn - k ∧ k ≤ t.dn ∧ i = .int .i64 (k : Int) ∧ Ob wr X 104 (t.xc v) ∧ Ob wr R 104 zc ∧ wr.ownsRow w.heap.size 28 2 v k (flat2 ((ds.take k).map (strS hs ws))) ∧ Below w.heap.size w wr)
  case atStart => exact ⟨0, .slice none 0 0, rfl, Nat.zero_le _, rfl, hX3.out, hR3.out, World.ownsRow_nil _ _ _ _, hb3.out⟩
  case round =>
    obtain ⟨k, v, rfl, hk, rfl, hX, hRb, hrow, hb⟩ := hrel
    by_cases hlt : k < t.dn
    · obtain ⟨b, o, hda, hbs, hc⟩ := (HRR.out.d.below hb).at_ (by omega)
      obtain ⟨c0, c1, c2, c3⟩ := hc k hlt
      have htake : Hid (flat2 ((ds.take (k + 1)).map (strS hs ws)) = flat2 ((ds.take k).map (strS hs ws)) ++ [.int .i64 (strengthS hs ws (ds.getD k (0, 0, 0, 0)).1 (ds.getD k (0, 0, 0, 0)).2.2.1), .int .i64 (strengthS hs ws (ds.getD k (0, 0, 0, 0)).2.1 (ds.getD k (0, 0, 0, 0)).2.2.2)]) := by
        have hkl : k < ds.length := by omega
        have e : ds.getD k (0, 0, 0, 0) = ds[k] := by simp [List.getD, hkl]
        rw [Hid, List.take_succ_eq_append_getElem hkl, List.map_append, List.map_cons, List.map_nil, flat2_snoc, e]
        rfl
      generalize ds.getD k (0, 0, 0, 0) = d at c0 c1 c2 c3 htake
      obtain ⟨d0, d1, d2, d3⟩ := d
      simp only at c0 c1 c2 c3 htake
      have HC := Lib.hid (fun W (h : Below w.heap.size w W) => strength_any t.r hs ws d0 d1 d2 d3 W (HRR.out.r.below h) hO)
      have hst1 := hO.str_bd d0 d2
      generalize strengthS hs ws d0 d2 = p at HC htake
      generalize strengthS hs ws d1 d3 = q at HC htake
      have hkl : (k : Int) < t.dn := by omega
      have hk0 : (0 : Int) ≤ k := by omega
      have hX' := Lib.hid hX
      have hRb' := Lib.hid hRb
      have hrow' := Lib.hid hrow
      have hb' := Lib.hid hb
      clear hX hRb hrow hb hc hst1
      generalize flat2 ((ds.take k).map (strS hs ws)) = xs at hrow' htake
      have HOX : Hid (∀ W : (Nat → Value) × World, TI t w X wr.heap.size R #[.int .i64 d0, .int .i64 d1, .int .i64 d2, .int .i64 d3] v k xs p q 4 W.1 W.2 → (∃ v', Ob W.2 X 104 (t.xc v') ∧ Ob W.2 R 104 zc ∧ W.2.ownsRow w.heap.size 28 2 v' (k + 1) (xs ++ [.int .i64 p, .int .i64 q]) ∧ Below w.heap.size w W.2)) :=
        fun W h => ⟨_, h.2.2.2.2.1 rfl, h.2.2.1, h.2.2.2.2.2.2.1 (by omega), h.1⟩
      have hXD : X ≠ wr.heap.size := fun e => by have := hX'.out.lt; omega
      have hS0 : Hid (TI t w X wr.heap.size R #[.int .i64 d0, .int .i64 d1, .int .i64 d2, .int .i64 d3] v k xs p q 0 (fun _ => undef) (wr.alloc (.cells #[.int .i64 d0, .int .i64 d1, .int .i64 d2, .int .i64 d3] 39)).drew) :=
        ⟨(B_alloc hb'.out _).drew, Ob.new _ _ _, hRb'.out.alloc _, fun _ => hX'.out.alloc _, fun h => by omega, fun _ => row_below hrow'.out ((B_alloc (Below.refl _ _) _).drew), fun h => by omega, fun h => by omega, fun h => by omega⟩
      go_upto_region 5 with fail
      refine wp_region_steps (I := TI t w X wr.heap.size R #[.int .i64 d0, .int .i64 d1, .int .i64 d2, .int .i64 d3] v k xs p q) (V := TV t X #[.int .i64 d0, .int .i64 d1, .int .i64 d2, .int .i64 d3] v) (eff := teff) (need := tneed) (till := ttill) 4 (by kernel_rfl) (by decide) (by kernel_rfl) rfl (by kernel_rfl) (by kernel_rfl) (by kernel_rfl) (by kernel_rfl) (by kernel_rfl) hS0.out ?steps ?hend
      case hend =>
          intro outs w' hI
          obtain ⟨v', h1, h2, h3, h4⟩ := HOX.out (outs, w') hI
          replace h1 := Lib.hid h1
          replace h2 := Lib.hid h2
          replace h3 := Lib.hid h3
          replace h4 := Lib.hid h4
          clear hI HOX hS0
          simp only [flowAct, List.filterMap_cons, List.filterMap_nil, patch, List.setIfInBounds_toArray, List.set_cons_zero, List.set_cons_succ]
          go_wp2
          rw [← hda]
          clear hda
          go_roundg (t.dn - (k + 1))
          case measure => omega
          case rel => exact ⟨k + 1, v', rfl, by omega, by go_num, h1.out, h2.out, by rw [htake.out]; exact h3.out, h4.out⟩
      case steps =>
          refine ⟨⟨rfl, fun t ht k' outs u _ => by cases ht; rfl, fun k' outs W ρ hk1 hk2 hI hc hg h_fn hr ho => ?_⟩, ?_⟩
          · have o3 := ho 3 (by kernel_rfl)
            refine step_pure rfl (v := .pointer (some ⟨X, 9, none⟩)) (fun t ht => by cases ht; rfl) ?_
            go_simp
          refine ⟨⟨rfl, fun t ht k' outs u _ => by cases ht; rfl, fun k' outs W ρ hk1 hk2 hI hc hg h_fn hr ho => ?_⟩, ?_⟩
          · have r23 : ρ (.tmp 23) = .pointer (some ⟨X, 9, none⟩) := hr 23 (by kernel_rfl)
            have hk2' : k' ≤ 2 := hk2
            have hc9 : W.cell? ⟨X, 9, none⟩ = some v := (hI.2.2.2.1 (by omega)).cell 9
            clear hI
            refine step_pure rfl (v := v) (fun t ht => by cases ht; rfl) ?_
            go_simp
          refine ⟨⟨rfl, fun t ht k' outs u _ => by cases ht; rfl, fun k' outs W ρ hk1 hk2 hI hc hg h_fn hr ho => ?_⟩, ?_⟩
          · have o3 := ho 3 (by kernel_rfl)
            refine step_pure rfl (v := .pointer (some ⟨X, 0, none⟩)) (fun t ht => by cases ht; rfl) ?_
            go_simp
          refine ⟨⟨rfl, fun t ht k' outs u _ => by cases ht; rfl, fun k' outs W ρ hk1 hk2 hI hc hg h_fn hr ho => ?_⟩, ?_⟩
          · have r25 : ρ (.tmp 25) = .pointer (some ⟨X, 0, none⟩) := hr 25 (by kernel_rfl)
            have hk2' : k' ≤ 0 := hk2
            have hO1 := hI.2.2.2.1 (by omega)
            have hc0 := hO1.cell 0
            have hc1 := hO1.cell 1
            have hc2 := hO1.cell 2
            have hc3 := hO1.cell 3
            have hc4 := hO1.cell 4
            have hc5 := hO1.cell 5
            have hc6 := hO1.cell 6
            have hc7 := hO1.cell 7
            simp only [List.getElem?_toArray, List.getElem?_cons_zero, List.getElem?_cons_succ] at hc0 hc1 hc2 hc3 hc4 hc5 hc6 hc7
            clear hI hO1
            refine step_pure rfl (v := .agg t.r.cs) (fun t ht => by cases ht; rfl) ?_
            go_simp
          refine ⟨⟨rfl, fun t ht k' outs u _ => by cases ht; rfl, fun k' outs W ρ hk1 hk2 hI hc hg h_fn hr ho => ?_⟩, ?_⟩
          · have o5 := ho 5 (by kernel_rfl)
            have hO1 := hI.2.1
            have hc0 := hO1.cell 0
            have hc1 := hO1.cell 1
            have hc2 := hO1.cell 2
            have hc3 := hO1.cell 3
            simp only [List.getElem?_toArray, List.getElem?_cons_zero, List.getElem?_cons_succ] at hc0 hc1 hc2 hc3
            clear hI hO1
            refine step_pure rfl (v := .agg #[.int .i64 d0, .int .i64 d1, .int .i64 d2, .int .i64 d3]) (fun t ht => by cases ht; rfl) ?_
            go_simp
          refine ⟨⟨rfl, fun t ht k' outs u (h : 0 < k') => by cases ht; show upd outs k' u 0 = outs 0; unfold upd; rw [if_neg (by omega)], fun k' outs W ρ hk1 hk2 hI hc hg h_fn hr ho => ?_⟩, ?_⟩
          · have r26 : ρ (.tmp 26) = .agg t.r.cs := hr 26 (by kernel_rfl)
            have r27 : ρ (.tmp 27) = .agg #[.int .i64 d0, .int .i64 d1, .int .i64 d2, .int .i64 d3] := hr 27 (by kernel_rfl)
            have hf60 := h_fn 61
            obtain rfl : k' = 0 := Nat.le_zero.1 hk2
            refine step_call rfl (f := 61) (args := #[.agg t.r.cs, .agg #[.int .i64 d0, .int .i64 d1, .int .i64 d2, .int .i64 d3]]) (w' := W) ?_ ?_
            · clear hI; go_simp
            · refine (HC.out W hI.1).mono ?_
              rintro e w2 ⟨rfl, hb2⟩
              exact ⟨_, rfl, ⟨B_trans hI.1 hb2, hI.2.1.below hb2, hI.2.2.1.below hb2, fun _ => (hI.2.2.2.1 (by omega)).below hb2, fun h => by omega, fun _ => row_below (hI.2.2.2.2.2.1 (by omega)) hb2, fun h => by omega, fun _ => rfl, fun h => by omega⟩, fun t ht => by cases ht; rfl⟩
          refine ⟨⟨rfl, fun t ht k' outs u (h : 1 < k') => by cases ht; show upd outs k' u 1 = outs 1; unfold upd; rw [if_neg (by omega)], fun k' outs W ρ hk1 hk2 hI hc hg h_fn hr ho => ?_⟩, ?_⟩
          · obtain rfl : k' = 1 := by have h1 : 1 ≤ k' := hk1; have h2 : k' ≤ 1 := hk2; omega
            have r28 : ρ (.tmp 28) = .agg #[.int .i64 p, .int .i64 q] := (hr 28 (by kernel_rfl)).trans (hI.2.2.2.2.2.2.2.1 (by omega))
            have hbl := B_alloc (Below.refl W.heap.size W) (.cells #[.int .i64 p, .int .i64 q] 28)
            refine step_new rfl (v := .slice (some ⟨W.heap.size, 0, none⟩) 1 1) (w' := W.alloc (.cells #[.int .i64 p, .int .i64 q] 28)) ?_ ⟨B_trans hI.1 hbl, hI.2.1.below hbl, hI.2.2.1.below hbl, fun _ => (hI.2.2.2.1 (by omega)).below hbl, fun h => by omega, fun _ => row_below (hI.2.2.2.2.2.1 (by omega)) hbl, fun h => by omega, fun _ => hI.2.2.2.2.2.2.2.1 (by omega), fun _ => ⟨_, rfl, Ob.new _ _ _⟩⟩ (fun t ht => by cases ht; rfl)
            clear hI hbl; go_simp
          refine ⟨⟨rfl, fun t ht k' outs u (h : 2 < k') => by cases ht; show upd outs k' u 2 = outs 2; unfold upd; rw [if_neg (by omega)], fun k' outs W ρ hk1 hk2 hI hc hg h_fn hr ho => ?_⟩, ?_⟩
          · obtain rfl : k' = 2 := by have h1 : 2 ≤ k' := hk1; have h2 : k' ≤ 2 := hk2; omega
            obtain ⟨g, hg1, hg2⟩ := hI.2.2.2.2.2.2.2.2 rfl
            have r24 : ρ (.tmp 24) = v := hr 24 (by kernel_rfl)
            have r29 : ρ (.tmp 29) = .slice (some ⟨g, 0, none⟩) 1 1 := (hr 29 (by kernel_rfl)).trans hg1
            have hrw := hI.2.2.2.2.2.1 (by omega)
            obtain ⟨v', w2, hrun, hown, hgr⟩ := joined hrw hg2 (by omega) hI.1.size
            have hX2 := hI.2.2.2.1 (by omega)
            exact step_new rfl (run_append_op rfl r24 r29 hrun) ⟨B_grown' hI.1 hrw hgr, hI.2.1.grown hgr (hI.2.1.row hrw (by decide)), hI.2.2.1.grown hgr (hI.2.2.1.row hrw (by decide)), fun _ => hX2.grown hgr (hX2.row hrw (by decide)), fun h => by omega, fun h => by omega, fun _ => hown, fun _ => hI.2.2.2.2.2.2.2.1 (by omega), fun h => by omega⟩ (fun t ht => by cases ht; rfl)
          refine ⟨⟨rfl, fun t ht k' outs u _ => by cases ht; rfl, fun k' outs W ρ hk1 hk2 hI hc hg h_fn hr ho => ?_⟩, ?_⟩
          · have o3 := ho 3 (by kernel_rfl)
            refine step_pure rfl (v := .pointer (some ⟨X, 9, none⟩)) (fun t ht => by cases ht; rfl) ?_
            go_simp
          refine ⟨⟨rfl, (fun t ht => by cases ht), fun k' outs W ρ hk1 hk2 hI hc hg h_fn hr ho => ?_⟩, trivial⟩
          · obtain rfl : k' = 3 := by have h1 : 3 ≤ k' := hk1; have h2 : k' ≤ 3 := hk2; omega
            have r31 : ρ (.tmp 31) = .pointer (some ⟨X, 9, none⟩) := hr 31 (by kernel_rfl)
            have hown := hI.2.2.2.2.2.2.1 (by omega)
            have hX2 := hI.2.2.2.1 (by omega)
            obtain ⟨g, cap, hv⟩ := row_form hown (Nat.succ_pos _)
            have r30 : ρ (.tmp 30) = .slice (some ⟨g, 0, none⟩) (k + 1) cap := (hr 30 (by kernel_rfl)).trans hv
            have hc9 : W.cell? ⟨X, 9, none⟩ = some v := hX2.cell 9
            have hf9 : W.frozen? ⟨X, 9, none⟩ = false := hX2.frozen 9
            have hset := hX2.set 9 (.slice (some ⟨g, 0, none⟩) (k + 1) cap)
            refine step_store rfl rfl (w' := W.setCell ⟨X, 9, none⟩ (.slice (some ⟨g, 0, none⟩) (k + 1) cap)) ?_ ⟨hI.1.setCell hXw _, hI.2.1.other hXD _, hI.2.2.1.other hXR _, fun h => by omega, fun _ => ?_, fun h => by omega, fun _ => row_set hown (hX2.row hown (by decide)) _, fun _ => hI.2.2.2.2.2.2.2.1 (by omega), fun h => by omega⟩
            · clear hI hown hX2 hset; go_simp
            · show Ob _ X _ (t.xc (outs 2)); rw [hv]; exact hset
    · obtain rfl : k = t.dn := by omega
      rw [List.take_of_length_le (by omega)] at hrow
      have x0 := hX.cell 0
      have r0 := hRb.cell 0
      have f0 := hRb.frozen 0
      have x1 := hX.cell 1
      have r1 := hRb.cell 1
      have f1 := hRb.frozen 1
      have x2 := hX.cell 2
      have r2 := hRb.cell 2
      have f2 := hRb.frozen 2
      have x3 := hX.cell 3
      have r3 := hRb.cell 3
      have f3 := hRb.frozen 3
      have x4 := hX.cell 4
      have r4 := hRb.cell 4
      have f4 := hRb.frozen 4
      have x5 := hX.cell 5
      have r5 := hRb.cell 5
      have f5 := hRb.frozen 5
      have x6 := hX.cell 6
      have r6 := hRb.cell 6
      have f6 := hRb.frozen 6
      have x7 := hX.cell 7
      have r7 := hRb.cell 7
      have f7 := hRb.frozen 7
      have x8 := hX.cell 8
      have r8 := hRb.cell 8
      have f8 := hRb.frozen 8
      have x9 := hX.cell 9
      have r9 := hRb.cell 9
      have f9 := hRb.frozen 9
      have x10 := hX.cell 10
      have r10 := hRb.cell 10
      have f10 := hRb.frozen 10
      have x11 := hX.cell 11
      have r11 := hRb.cell 11
      have f11 := hRb.frozen 11
      have x12 := hX.cell 12
      have r12 := hRb.cell 12
      have f12 := hRb.frozen 12
      obtain ⟨av, cv, hv, -⟩ := sl2_row hrow
      subst hv
      simp only [List.getElem?_toArray, List.getElem?_cons_zero, List.getElem?_cons_succ] at x0 x1 x2 x3 x4 x5 x6 x7 x8 x9 x10 x11 x12 r0 r1 r2 r3 r4 r5 r6 r7 r8 r9 r10 r11 r12
      have hxr := hRb.row hrow (by decide)
      have HF : Hid (∀ W', (∃ p0 p1 p2 p3 p4 p5 p6 p7 p8 p9 p10 p11 p12, W' = ((((((((((((wr.setCell ⟨R, 0, none⟩ p0).setCell ⟨R, 1, none⟩ p1).setCell ⟨R, 2, none⟩ p2).setCell ⟨R, 3, none⟩ p3).setCell ⟨R, 4, none⟩ p4).setCell ⟨R, 5, none⟩ p5).setCell ⟨R, 6, none⟩ p6).setCell ⟨R, 7, none⟩ p7).setCell ⟨R, 8, none⟩ p8).setCell ⟨R, 9, none⟩ p9).setCell ⟨R, 10, none⟩ p10).setCell ⟨R, 11, none⟩ p11).setCell ⟨R, 12, none⟩ p12) → W'.ownsRow w.heap.size 28 2 (.slice av t.dn cv) t.dn (flat2 (ds.map (strS hs ws))) ∧ Below w.heap.size w W') := by
        rintro W' ⟨p0, p1, p2, p3, p4, p5, p6, p7, p8, p9, p10, p11, p12, rfl⟩
        refine ⟨?_, ?_⟩
        · repeat (refine row_set ?_ hxr _)
          exact hrow
        · repeat (refine Below.setCell ?_ hRw _)
          exact hb
      clear hX hRb hrow hb hxr
      go_wp2
      refine bodyPost_ret (v := .agg (t.xc (.slice av t.dn cv))) ?h1 rfl ⟨⟨_, rfl, ?h2⟩, ?h3⟩
      case h2 => exact (HF.out _ ⟨_, _, _, _, _, _, _, _, _, _, _, _, _, rfl⟩).1
      case h3 => exact (HF.out _ ⟨_, _, _, _, _, _, _, _, _, _, _, _, _, rfl⟩).2
      clear HF
      simp [results, Try.results68, go_sem, r0, r1, r2, r3, r4, r5, r6, r7, r8, r9, r10, r11, r12]
end Go.Proofs.Ytanjkhclhcnnaaa

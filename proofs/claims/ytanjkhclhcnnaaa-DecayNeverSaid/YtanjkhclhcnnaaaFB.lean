/- The law DecayNever. -/
import Derived.Test.YtanjkhclhcnnaaaEH
import Derived.Test.YtanjkhclhcnnaaaFA
namespace Go.Proofs.Ytanjkhclhcnnaaa
open Go.RowKit Go.Shelf

/-- A task's cells, with other tests. -/
abbrev TkA.ucs (t : TkA) (v : Value) : Array Value := #[.slice t.r.ha t.r.hn t.r.hc, .slice t.r.wa t.r.wn t.r.wc, .int .i64 t.r.own, .int .i64 t.r.feed, .int .i64 t.r.g0, .int .i64 t.r.g1, .int .i64 t.r.g2, .int .i64 t.r.lost, .int .i64 t.first, .slice t.da t.dn t.dc, .int .i64 t.lo, .int .i64 t.hi, v]
theorem Ob.ucells {W : World} {X : Nat} {T : TypeId} {t : TkA} {v : Value} (h : Ob W X T (t.ucs v)) : W.cell? ⟨X, 0, none⟩ = some (.slice t.r.ha t.r.hn t.r.hc) ∧ W.cell? ⟨X, 1, none⟩ = some (.slice t.r.wa t.r.wn t.r.wc) ∧ W.cell? ⟨X, 2, none⟩ = some (.int .i64 t.r.own) ∧ W.cell? ⟨X, 3, none⟩ = some (.int .i64 t.r.feed) ∧ W.cell? ⟨X, 4, none⟩ = some (.int .i64 t.r.g0) ∧ W.cell? ⟨X, 5, none⟩ = some (.int .i64 t.r.g1) ∧ W.cell? ⟨X, 6, none⟩ = some (.int .i64 t.r.g2) ∧ W.cell? ⟨X, 7, none⟩ = some (.int .i64 t.r.lost) ∧ W.cell? ⟨X, 8, none⟩ = some (.int .i64 t.first) ∧ W.cell? ⟨X, 9, none⟩ = some (.slice t.da t.dn t.dc) ∧ W.cell? ⟨X, 10, none⟩ = some (.int .i64 t.lo) ∧ W.cell? ⟨X, 11, none⟩ = some (.int .i64 t.hi) ∧ W.cell? ⟨X, 12, none⟩ = some v :=
  ⟨h.cell 0, h.cell 1, h.cell 2, h.cell 3, h.cell 4, h.cell 5, h.cell 6, h.cell 7, h.cell 8, h.cell 9, h.cell 10, h.cell 11, h.cell 12⟩
/-- The memory while tests are made true. -/
structure NM (t : TkA) (w w1 : World) (vt : Value) (L : List T3) (W : World) : Prop where
  sz : w.heap.size < w1.heap.size
  T : Ob W w.heap.size 31 t.cs
  U : Ob W w1.heap.size 31 (t.ucs vt)
  R : W.ownsRow (w1.heap.size + 1) 64 3 vt L.length (flat3 L)
  b : Below w1.heap.size w1 W
variable {t : TkA} {w w1 : World} {vt : Value} {L : List T3} {W : World}
theorem NM.below (h : NM t w w1 vt L W) {W1 : World} (hb : Below W.heap.size W W1) : NM t w w1 vt L W1 := ⟨h.sz, h.T.below hb, h.U.below hb, row_below h.R hb, B_trans h.b hb⟩
theorem NM.add (h : NM t w w1 vt L W) {W1 : World} {x : T3} {v : Value} (hg : W.grownBy W1 vt.ownBlock) (ho : W1.ownsRow (w1.heap.size + 1) 64 3 v (L.length + 1) (flat3 L ++ [.int .i64 x.1, .int .i64 x.2.1, .int .i64 x.2.2])) : NM t w w1 v (L ++ [x]) (W1.setCell ⟨w1.heap.size, 12, none⟩ v) :=
  have hz := h.sz
  have hU := ob_grow h.U h.R hg (by omega)
  have hR : W1.ownsRow (w1.heap.size + 1) 64 3 v (L ++ [x]).length (flat3 (L ++ [x])) := by rw [flat3_snoc, List.length_append]; exact ho
  ⟨h.sz, (ob_grow h.T h.R hg (by omega)).other (by simp only; omega) _, by simpa using hU.set 12 v, row_setb hR (by omega) _ _, (below_grow h.b h.R hg (by omega) h.b.size).setCell (by simp only; omega) _⟩
theorem infoTest : (Try.prog.info? 64).map (fun i => (i.zero, i.size, i.bytes)) = some (some (.agg #[.int .i64 0, .int .i64 0, .int .i64 0]), 3, 24) := by kernel_rfl

set_option maxRecDepth 100000 in
set_option maxHeartbeats 4000000 in
theorem neverLaw_bad (t : TkA) (hs ws : List T2) (ds : List T4) (ts : List T3) (x0 : Int) (xv : Value) (w : World) (hR : TkR w t hs ws ds ts) (he : (taskS t hs ws ds ts).2.2 ≠ 0) :
    Calls Try.prog 11 #[.agg t.cs, .agg #[.int .u8 x0, xv]] w fun e w' => e = .returned (.bool true) ∧ Below w.heap.size w w' := by
  obtain ⟨w0, hw0⟩ : ∃ w0, ((w).alloc (.cells t.cs 31)).alloc (.cells #[.int .u8 x0, xv] 68) = w0 := ⟨_, rfl⟩
  have hb0 : Below w.heap.size w w0 := by rw [← hw0]; exact B_alloc (B_alloc (Below.refl _ _) _) _
  have o0 : Ob w0 (w.heap.size) 31 t.cs := by
    rw [← hw0]
    have h := Ob.new (w) t.cs 31
    replace h := h.alloc (.cells #[.int .u8 x0, xv] 68)
    exact h
  have o1 : Ob w0 (w.heap.size + 1) 68 #[.int .u8 x0, xv] := by
    rw [← hw0]
    have h := Ob.new ((w).alloc (.cells t.cs 31)) #[.int .u8 x0, xv] 68
    simp only [World.size_alloc] at h
    exact h
  have H1 := Lib.hid (fun W (h : Below w.heap.size w W) => walked_bad t hs ws ds ts x0 xv W (hR.below h) he)
  have HA := Lib.hid awake_any
  obtain ⟨q0, q1, q2, q3, q4, q5, q6, q7, q8, q9, q10, q11, q12⟩ := o0.task
  obtain ⟨z0, z1⟩ : w0.cell? ⟨w.heap.size + 1, 0, none⟩ = some (.int .u8 x0) ∧ w0.cell? ⟨w.heap.size + 1, 1, none⟩ = some xv := ⟨o1.cell 0, o1.cell 1⟩
  replace hb0 := Lib.hid hb0
  replace hw0 := Lib.hid hw0
  clear hR he o1 o0
  go_enter Try.func11, Try.ntmps11
  go_wp2_with fail
  rw [hw0.out]
  refine (H1.out w0 hb0.out).mono ?_
  rintro e w1 ⟨rfl, hb1⟩
  have hw1 := Lib.hid (B_trans hb0.out hb1)
  clear q0 q1 q2 q3 q4 q5 q6 q7 q8 q9 q10 q11 q12 z0 z1 hb1
  go_wp2_with fail
  refine (HA.out _).mono ?_
  rintro e w4 ⟨rfl, hb4⟩
  have hw4 := Lib.hid (B_trans hw1.out hb4)
  clear hb4
  go_wp2
  refine bodyPost_ret (v := .bool true) (by simp [results, Try.results11, go_sem]) rfl ⟨rfl, hw4.out⟩

set_option maxRecDepth 100000 in
set_option maxHeartbeats 16000000 in
theorem neverLaw_any (t : TkA) (hs ws : List T2) (ds : List T4) (ts : List T3) (x0 : Int) (xa : Option Addr) (xn xc : Nat) (bs : List Int) (w : World) (hR : TkR w t hs ws ds ts) (he : (taskS t hs ws ds ts).2.2 = 0) (hx : 0 ≤ x0 ∧ x0 ≤ 255) (hX : Nums w .u8 0 255 xa xn bs) :
    Calls Try.prog 11 #[.agg t.cs, .agg #[.int .u8 x0, .slice xa xn xc]] w fun e w' => e = .returned (.bool true) ∧ Below w.heap.size w w' := by
  obtain ⟨w0, hw0⟩ : ∃ w0, ((w).alloc (.cells t.cs 31)).alloc (.cells #[.int .u8 x0, .slice xa xn xc] 68) = w0 := ⟨_, rfl⟩
  have hb0 : Below w.heap.size w w0 := by rw [← hw0]; exact B_alloc (B_alloc (Below.refl _ _) _) _
  have o0 : Ob w0 (w.heap.size) 31 t.cs := by
    rw [← hw0]
    have h := Ob.new (w) t.cs 31
    replace h := h.alloc (.cells #[.int .u8 x0, .slice xa xn xc] 68)
    exact h
  have o1 : Ob w0 (w.heap.size + 1) 68 #[.int .u8 x0, .slice xa xn xc] := by
    rw [← hw0]
    have h := Ob.new ((w).alloc (.cells t.cs 31)) #[.int .u8 x0, .slice xa xn xc] 68
    simp only [World.size_alloc] at h
    exact h
  have ok := TaskOK.of he
  have hO := RuOK.of ok.r
  have hdl := hR.d.len
  have hst := days_str hO hdl ok.days
  have hss : (ds.map (strS hs ws)).length = t.dn := by rw [List.length_map, hdl]
  have hp := lv_ok ok.start
  have hdn := ok.dn
  have htn := ok.tn
  have hts := tests_ok ok.tests
  have hfirst := ok.first
  obtain ⟨c, hc⟩ : ∃ c, courseN t.r (ds.map (strS hs ws)) (t.lo, t.hi) x0 bs = c := ⟨_, rfl⟩
  have hcin := course_in hO hss hst hp hx (fun i => nums_step hX i)
  have hlen := courseL_len t.r (ds.map (strS hs ws)) (t.lo, t.hi) x0 bs t.dn
  have hat := fun i (hi : i ≤ t.dn) => courseL_at t.r (ds.map (strS hs ws)) (t.lo, t.hi) x0 bs hi
  have hcrs : Crs t.r (ds.map (strS hs ws)) t.dn (t.lo, t.hi) (courseN t.r (ds.map (strS hs ws)) (t.lo, t.hi) x0 bs) :=
    ⟨part_in hp hx, fun k hk => part_in ((one_can (hcin k (by omega))).next hO (hst _ (getD_lt (by omega)))) (nums_step hX k)⟩
  rw [hc] at hcin hat hcrs
  have H1 := fun W (h : Below w.heap.size w W) => walked_any t hs ws ds ts x0 xa xn xc bs W (hR.below h) he hx (hX.below h)
  generalize courseL t.r (ds.map (strS hs ws)) (t.lo, t.hi) x0 bs t.dn = cs at H1 hlen hat
  have HU := fun ua uc => true_task (hs := hs) (ws := ws) (ds := ds) he c ua uc
  have HN := fun ua uc => none_struck (c := c) (HU ua uc) hdl hcrs (true_keeps (hs := hs) (ws := ws) (ds := ds) he hcin ua uc)
  have HA := Lib.hid awake_any
  replace H1 := Lib.hid H1
  replace HU := Lib.hid HU
  replace HN := Lib.hid HN
  replace hat := Lib.hid hat
  replace hcin := Lib.hid hcin
  replace hts := Lib.hid hts
  replace hlen := Lib.hid hlen
  have hokr := Lib.hid ok.r
  obtain ⟨i3, hi3, hz3, hs3, hy3⟩ := info_parts infoTest
  have I3 := Lib.hid (And.intro hi3 (And.intro hz3 (And.intro hs3 hy3)))
  obtain ⟨q0, q1, q2, q3, q4, q5, q6, q7, q8, q9, q10, q11, q12⟩ := o0.task
  obtain ⟨z0, z1⟩ : w0.cell? ⟨w.heap.size + 1, 0, none⟩ = some (.int .u8 x0) ∧ w0.cell? ⟨w.heap.size + 1, 1, none⟩ = some (.slice xa xn xc) := ⟨o1.cell 0, o1.cell 1⟩
  replace o0 := Lib.hid o0
  replace hb0 := Lib.hid hb0
  replace hw0 := Lib.hid hw0
  clear he o1 ok hO hdl hst hss hp hcrs hc hX hx hi3 hz3 hs3 hy3
  go_enter Try.func11, Try.ntmps11
  go_wp2_with fail
  rw [hw0.out]
  refine (H1.out w0 hb0.out).mono ?_
  rintro e w1 ⟨v, rfl, hrow, hb1⟩
  have hw1 := Lib.hid (B_trans hb0.out hb1)
  rw [← hlen.out] at hrow
  obtain ⟨ca, cc, rfl, hC⟩ := rowz_sl1 hrow
  rw [hlen.out] at hC
  rw [hlen.out]
  have O1 := Lib.hid (And.intro (o0.out.below hb1) hC)
  have hsz1 : w.heap.size < w1.heap.size := (o0.out.below hb1).lt
  clear q0 q1 q2 q3 q4 q5 q6 q7 q8 q9 q10 q11 q12 z0 z1 hrow hC
  obtain ⟨q0, q1, q2, q3, q4, q5, q6, q7, q8, q9, q10, q11, q12⟩ := (o0.out.below hb1).task
  clear hb1
  go_upto_region 6 with fail
  have hM0 : NM t w w1 (.slice none 0 0) (trueT t ts c 0) (w1.alloc (.cells (t.ucs (.slice none 0 0)) 31)) := ⟨hsz1, O1.out.1.alloc _, Ob.new _ _ _, ⟨rfl, Or.inl ⟨rfl, rfl⟩⟩, B_alloc (Below.refl _ _) _⟩
  replace hM0 := Lib.hid hM0
  replace hsz1 := Lib.hid hsz1
  clear q0 q1 q2 q3 q4 q5 q6 q7 q8 q9 q10 q11 q12
  go_wp2_with fail
  go_loopg [8] t.tn (fun gk iv wr => ∃ (i : Nat) (vt : Value), gk = t.tn - i ∧ iv = .int .i64 (i : Int) ∧ i ≤ t.tn ∧ NM t w w1 vt (trueT t ts c i) wr)
  case atStart => exact ⟨0, _, rfl, rfl, Nat.zero_le _, hM0.out⟩
  case round =>
    obtain ⟨i, vt, rfl, rfl, hi, hM⟩ := hrel
    clear hM0
    have hBw : Below w.heap.size w wr := B_trans hw1.out (hM.b.mono (Nat.le_refl _))
    obtain ⟨q0, q1, q2, q3, q4, q5, q6, q7, q8, q9, q10, q11, q12⟩ := hM.T.task
    by_cases hlt : i < t.tn
    · have hRr := hR.below hBw
      obtain ⟨p, o, hta, hpl, htc⟩ := hRr.t.at_ (by omega)
      obtain ⟨y0, y1, y2⟩ := htc i hlt
      obtain ⟨⟨b1, b2⟩, ⟨b3, b4⟩, b5, b6⟩ := hts.out i hlt
      have hsn := trueT_snoc t ts c i
      have hmor2 : morT t ts i = ((ts.getD i (0, 0, 0)).1 - t.first).toNat := rfl
      rw [hmor2] at hsn
      generalize ts.getD i (0, 0, 0) = y at y0 y1 y2 b1 b2 b3 b4 b5 b6 hsn
      obtain ⟨yd, yg, ye⟩ := y
      simp only at y0 y1 y2 b1 b2 b3 b4 b5 b6 hsn
      obtain ⟨l, rfl⟩ : ∃ l : Nat, yd = t.first + l := ⟨(yd - t.first).toNat, by omega⟩
      rw [show (t.first + (l : Int) - t.first).toNat = l by omega] at hsn
      have hcl := hcin.out l (by omega)
      have hok2 := hokr.out
      have HG' : ∀ W', Below wr.heap.size wr W' → Calls Try.prog 25 #[.agg t.r.cs, .int .i64 (c l)] W' fun e w' => e = .returned (.tuple #[.int .i64 ((gradeL t.r (c l) : Nat) : Int), .int .i64 0]) ∧ Below W'.heap.size W' w' := fun W' hh => by
        have h := refGrade_any t.r hs ws (c l) W' (hRr.r.below hh)
        have e1 : gradeS t.r hs ws (c l) = (((gradeL t.r (c l) : Nat) : Int), (0 : Int)) := by
          unfold gradeS
          rw [if_neg (by simpa using hok2), if_pos (by rw [inB_iff]; exact hcl)]
        rw [e1] at h
        exact h
      have hgb := gradeL_bd t.r (c l)
      obtain ⟨cb, co, rfl, hcb, hcc⟩ := (O1.out.2.below (hM.b)).at_ (by omega)
      have y9 := hcc l (by omega)
      rw [hat.out l (by omega)] at y9
      generalize c l = n at y9 HG' hcl hsn hgb
      generalize hgl : ((gradeL t.r n : Nat) : Int) = gl at HG' hsn hgb
      have HTA := Lib.hid hta
      have a1 : (0 : Int) ≤ i := by omega
      have a2 : (i : Int) < t.tn := by omega
      have gT := hM.T.lt
      have gU := hM.U.lt
      rw [hta] at q12
      clear hgl hmor2 hta hok2
      have MM := Lib.hid hM
      have SN := Lib.hid hsn
      have BW := Lib.hid hBw
      have HGG := Lib.hid HG'
      clear hM hsn hBw HG' hRr htc hcc
      go_upto_region 10 with fail
      obtain ⟨wx, hwx⟩ : ∃ wx, wr.alloc (.cells #[.int .i64 (t.first + (l : Int)), .int .i64 yg, .int .i64 ye] 64) = wx := ⟨_, rfl⟩
      have hbx : Below wr.heap.size wr wx := by rw [← hwx]; exact B_alloc (Below.refl _ _) _
      have oX : Ob wx wr.heap.size 64 #[.int .i64 (t.first + (l : Int)), .int .i64 yg, .int .i64 ye] := by rw [← hwx]; exact Ob.new _ _ _
      try rw [hwx]
      clear hwx q0 q1 q2 q3 q4 q5 q6 q7 q8 q9 q10 q11 q12 y0 y1 y2
      have u1 : IntKind.i64.wrap (t.first + (l : Int) - t.first) = l := by rw [show t.first + (l : Int) - t.first = l by omega]; exact IntWalk.i64_in _ (by omega)
      have a3 : (0 : Int) ≤ l := by omega
      have a4 : (l : Int) < ((t.dn + 1 : Nat) : Int) := by omega
      have a5 : (l : Int) < (t.dn : Int) + 1 := by omega
      have HG := Lib.hid (fun (W' : World) (hh : Below wx.heap.size wx W') => HGG.out W' (B_trans hbx hh))
      have hcbr : cb < wr.heap.size := Nat.lt_of_lt_of_le hcb (Nat.le_refl _)
      have HS := Lib.hid (fun (W' : World) (hh : Below wx.heap.size wx W') => (show (W'.cell? ⟨w.heap.size, 0, none⟩ = some (.slice t.r.ha t.r.hn t.r.hc) ∧ W'.cell? ⟨w.heap.size, 1, none⟩ = some (.slice t.r.wa t.r.wn t.r.wc) ∧ W'.cell? ⟨w.heap.size, 2, none⟩ = some (.int .i64 t.r.own) ∧ W'.cell? ⟨w.heap.size, 3, none⟩ = some (.int .i64 t.r.feed) ∧ W'.cell? ⟨w.heap.size, 4, none⟩ = some (.int .i64 t.r.g0) ∧ W'.cell? ⟨w.heap.size, 5, none⟩ = some (.int .i64 t.r.g1) ∧ W'.cell? ⟨w.heap.size, 6, none⟩ = some (.int .i64 t.r.g2) ∧ W'.cell? ⟨w.heap.size, 7, none⟩ = some (.int .i64 t.r.lost) ∧ W'.cell? ⟨w.heap.size, 8, none⟩ = some (.int .i64 t.first) ∧ W'.cell? ⟨w.heap.size, 9, none⟩ = some (.slice t.da t.dn t.dc) ∧ W'.cell? ⟨w.heap.size, 10, none⟩ = some (.int .i64 t.lo) ∧ W'.cell? ⟨w.heap.size, 11, none⟩ = some (.int .i64 t.hi) ∧ W'.cell? ⟨w.heap.size, 12, none⟩ = some (.slice t.ta t.tn t.tc)) ∧ W'.cell? ⟨cb, co + l, none⟩ = some (.int .i64 n) ∧ W'.cell? ⟨wr.heap.size, 0, none⟩ = some (.int .i64 (t.first + (l : Int))) from ⟨((MM.out.below hbx).below hh).T.task, ((B_trans hbx hh).cell (p := ⟨cb, _, none⟩) hcbr).trans y9, (oX.below hh).cell 0⟩))
      have gX := oX.lt
      have BX := Lib.hid hbx
      have OX := Lib.hid oX
      clear HGG y9 hbx oX
      go_cut [10, 11] (fun a b wy => a = .int .i64 gl ∧ b = .int .i64 0 ∧ Below wx.heap.size wx wy)
      case first =>
          refine wp_region_held' (S := fun W' => Below wx.heap.size wx W') (by kernel_rfl) ((Below.refl _ wx).drew) (fun hHeld => ?_)
          refine wpAnyH_take2 (i := 0) (t := 40) (v := ?_) rfl rfl (by kernel_rfl) (by kernel_rfl) (by kernel_rfl) (fun _ _ _ h => Only.not_panic h) (Or.inl ⟨by kernel_rfl, fun W hW => ?_⟩) (by assumption) ?_
          rotate_left
          · have hW2 := hW
            obtain ⟨⟨f0, f1, f2, f3, f4, f5, f6, f7, f8, f9, f10, f11, f12⟩, y0, y1⟩ := HS.out W hW2
            clear hW hW2
            go_simp
            try with_reducible rfl
          try simp only [Act.put, List.setIfInBounds_toArray, List.set_cons_zero, List.set_cons_succ]
          refine wpAnyH_take2 (i := 1) (t := 41) (v := ?_) rfl rfl (by kernel_rfl) (by kernel_rfl) (by kernel_rfl) (fun _ _ _ h => Only.not_panic h) (Or.inl ⟨by kernel_rfl, fun W hW => ?_⟩) (by assumption) ?_
          rotate_left
          · have hW2 := hW
            obtain ⟨⟨f0, f1, f2, f3, f4, f5, f6, f7, f8, f9, f10, f11, f12⟩, y0, y1⟩ := HS.out W hW2
            clear hW hW2
            go_simp
            try with_reducible rfl
          try simp only [Act.put, List.setIfInBounds_toArray, List.set_cons_zero, List.set_cons_succ]
          refine wpAnyH_take2 (i := 2) (t := 42) (v := ?_) rfl rfl (by kernel_rfl) (by kernel_rfl) (by kernel_rfl) (fun _ _ _ h => Only.not_panic h) (Or.inl ⟨by kernel_rfl, fun W hW => ?_⟩) (by assumption) ?_
          rotate_left
          · have hW2 := hW
            obtain ⟨⟨f0, f1, f2, f3, f4, f5, f6, f7, f8, f9, f10, f11, f12⟩, y0, y1⟩ := HS.out W hW2
            clear hW hW2
            go_simp
            try with_reducible rfl
          try simp only [Act.put, List.setIfInBounds_toArray, List.set_cons_zero, List.set_cons_succ]
          refine wpAnyH_take2 (i := 3) (t := 43) (v := ?_) rfl rfl (by kernel_rfl) (by kernel_rfl) (by kernel_rfl) (fun _ _ _ h => Only.not_panic h) (Or.inl ⟨by kernel_rfl, fun W hW => ?_⟩) (by assumption) ?_
          rotate_left
          · have hW2 := hW
            obtain ⟨⟨f0, f1, f2, f3, f4, f5, f6, f7, f8, f9, f10, f11, f12⟩, y0, y1⟩ := HS.out W hW2
            clear hW hW2
            go_simp
            try with_reducible rfl
          try simp only [Act.put, List.setIfInBounds_toArray, List.set_cons_zero, List.set_cons_succ]
          refine wpAnyH_take2 (i := 4) (t := 44) (v := ?_) rfl rfl (by kernel_rfl) (by kernel_rfl) (by kernel_rfl) (fun _ _ _ h => Only.not_panic h) (Or.inl ⟨by kernel_rfl, fun W hW => ?_⟩) (by assumption) ?_
          rotate_left
          · have hW2 := hW
            obtain ⟨⟨f0, f1, f2, f3, f4, f5, f6, f7, f8, f9, f10, f11, f12⟩, y0, y1⟩ := HS.out W hW2
            clear hW hW2
            go_simp
            try with_reducible rfl
          try simp only [Act.put, List.setIfInBounds_toArray, List.set_cons_zero, List.set_cons_succ]
          refine wpAnyH_take2 (i := 5) (t := 45) (v := ?_) rfl rfl (by kernel_rfl) (by kernel_rfl) (by kernel_rfl) (fun _ _ _ h => Only.not_panic h) (Or.inl ⟨by kernel_rfl, fun W hW => ?_⟩) (by assumption) ?_
          rotate_left
          · have hW2 := hW
            obtain ⟨⟨f0, f1, f2, f3, f4, f5, f6, f7, f8, f9, f10, f11, f12⟩, y0, y1⟩ := HS.out W hW2
            clear hW hW2
            go_simp
            try with_reducible rfl
          try simp only [Act.put, List.setIfInBounds_toArray, List.set_cons_zero, List.set_cons_succ]
          refine wpAnyH_take2 (i := 6) (t := 46) (v := ?_) rfl rfl (by kernel_rfl) (by kernel_rfl) (by kernel_rfl) (fun _ _ _ h => Only.not_panic h) (Or.inl ⟨by kernel_rfl, fun W hW => ?_⟩) (by assumption) ?_
          rotate_left
          · have hW2 := hW
            obtain ⟨⟨f0, f1, f2, f3, f4, f5, f6, f7, f8, f9, f10, f11, f12⟩, y0, y1⟩ := HS.out W hW2
            clear hW hW2
            go_simp
            try with_reducible rfl
          try simp only [Act.put, List.setIfInBounds_toArray, List.set_cons_zero, List.set_cons_succ]
          refine wpAnyH_take2 (i := 7) (t := 47) (v := ?_) rfl rfl (by kernel_rfl) (by kernel_rfl) (by kernel_rfl) (fun _ _ _ h => Only.not_panic h) (Or.inl ⟨by kernel_rfl, fun W hW => ?_⟩) (by assumption) ?_
          rotate_left
          · have hW2 := hW
            obtain ⟨⟨f0, f1, f2, f3, f4, f5, f6, f7, f8, f9, f10, f11, f12⟩, y0, y1⟩ := HS.out W hW2
            clear hW hW2
            go_simp
            try with_reducible rfl
          try simp only [Act.put, List.setIfInBounds_toArray, List.set_cons_zero, List.set_cons_succ]
          refine wpAnyH_take2 (i := 8) (t := 48) (v := ?_) rfl rfl (by kernel_rfl) (by kernel_rfl) (by kernel_rfl) (fun _ _ _ h => Only.not_panic h) (Or.inl ⟨by kernel_rfl, fun W hW => ?_⟩) (by assumption) ?_
          rotate_left
          · have hW2 := hW
            obtain ⟨⟨f0, f1, f2, f3, f4, f5, f6, f7, f8, f9, f10, f11, f12⟩, y0, y1⟩ := HS.out W hW2
            clear hW hW2
            go_simp
            try with_reducible rfl
          try simp only [Act.put, List.setIfInBounds_toArray, List.set_cons_zero, List.set_cons_succ]
          refine wpAnyH_take2 (i := 9) (t := 49) (v := ?_) rfl rfl (by kernel_rfl) (by kernel_rfl) (by kernel_rfl) (fun _ _ _ h => Only.not_panic h) (Or.inl ⟨by kernel_rfl, fun W hW => ?_⟩) (by assumption) ?_
          rotate_left
          · have hW2 := hW
            obtain ⟨⟨f0, f1, f2, f3, f4, f5, f6, f7, f8, f9, f10, f11, f12⟩, y0, y1⟩ := HS.out W hW2
            clear hW hW2
            go_simp
            try with_reducible rfl
          try simp only [Act.put, List.setIfInBounds_toArray, List.set_cons_zero, List.set_cons_succ]
          refine wpAnyH_ready (rs := [10]) (by kernel_rfl) (by simp) ?_
          refine AllReadyH.cons rfl (fun K hK => ?_) ?_
          · go_simp
            with_reducible refine (HG.out _ hHeld).mono ?_
            rintro ev w10 ⟨rfl, hb10⟩
            try simp only []
            refine hK.out _ _ ?_ (fun hHeld => ?_)
            · exact B_trans hHeld hb10
            clear hK K
            try simp only [Act.put, List.setIfInBounds_toArray, List.set_cons_zero, List.set_cons_succ]
            refine wpAnyH_take2 (i := 11) (t := 39) (v := ?_) rfl rfl (by kernel_rfl) (by kernel_rfl) (by kernel_rfl) (fun _ _ _ h => Only.not_panic h) (Or.inl ⟨by kernel_rfl, fun W hW => ?_⟩) (by assumption) ?_
            rotate_left
            · have hW2 := hW
              obtain ⟨⟨f0, f1, f2, f3, f4, f5, f6, f7, f8, f9, f10, f11, f12⟩, y0, y1⟩ := HS.out W hW2
              clear hW hW2
              go_simp
              try with_reducible rfl
            try simp only [Act.put, List.setIfInBounds_toArray, List.set_cons_zero, List.set_cons_succ]
            refine wpAnyH_take2 (i := 12) (t := 51) (v := ?_) rfl rfl (by kernel_rfl) (by kernel_rfl) (by kernel_rfl) (fun _ _ _ h => Only.not_panic h) (Or.inl ⟨by kernel_rfl, fun W hW => ?_⟩) (by assumption) ?_
            rotate_left
            · have hW2 := hW
              obtain ⟨⟨f0, f1, f2, f3, f4, f5, f6, f7, f8, f9, f10, f11, f12⟩, y0, y1⟩ := HS.out W hW2
              clear hW hW2
              go_simp
              try with_reducible rfl
            try simp only [Act.put, List.setIfInBounds_toArray, List.set_cons_zero, List.set_cons_succ]
            refine wpAnyH_take2 (i := 13) (t := 52) (v := ?_) rfl rfl (by kernel_rfl) (by kernel_rfl) (by kernel_rfl) (fun _ _ _ h => Only.not_panic h) (Or.inl ⟨by kernel_rfl, fun W hW => ?_⟩) (by assumption) ?_
            rotate_left
            · have hW2 := hW
              obtain ⟨⟨f0, f1, f2, f3, f4, f5, f6, f7, f8, f9, f10, f11, f12⟩, y0, y1⟩ := HS.out W hW2
              clear hW hW2
              go_simp
              try with_reducible rfl
            try simp only [Act.put, List.setIfInBounds_toArray, List.set_cons_zero, List.set_cons_succ]
            refine wpAnyH_take2 (i := 14) (t := 10) (v := ?_) rfl rfl (by kernel_rfl) (by kernel_rfl) (by kernel_rfl) (fun _ _ _ h => Only.not_panic h) (Or.inl ⟨by kernel_rfl, fun W hW => ?_⟩) (by assumption) ?_
            rotate_left
            · have hW2 := hW
              obtain ⟨⟨f0, f1, f2, f3, f4, f5, f6, f7, f8, f9, f10, f11, f12⟩, y0, y1⟩ := HS.out W hW2
              clear hW hW2
              go_simp
              try with_reducible rfl
            try simp only [Act.put, List.setIfInBounds_toArray, List.set_cons_zero, List.set_cons_succ]
            refine wpAnyH_take2 (i := 15) (t := 11) (v := ?_) rfl rfl (by kernel_rfl) (by kernel_rfl) (by kernel_rfl) (fun _ _ _ h => Only.not_panic h) (Or.inl ⟨by kernel_rfl, fun W hW => ?_⟩) (by assumption) ?_
            rotate_left
            · have hW2 := hW
              obtain ⟨⟨f0, f1, f2, f3, f4, f5, f6, f7, f8, f9, f10, f11, f12⟩, y0, y1⟩ := HS.out W hW2
              clear hW hW2
              go_simp
              try with_reducible rfl
            try simp only [Act.put, List.setIfInBounds_toArray, List.set_cons_zero, List.set_cons_succ]
            refine wpAnyH_done (by kernel_rfl) (Only.mk ?_) _
            go_wp2_with fail
            go_meet
            exact ⟨rfl, rfl, hHeld⟩
          exact AllReadyH.nil
      case rest =>
        clear HS HG
        obtain ⟨rfl, rfl, hby⟩ := hcut
        have BY := Lib.hid (B_trans BX.out hby)
        have oXc := OX.out.below hby
        obtain ⟨z0, z1, z2⟩ : wc.cell? ⟨wr.heap.size, 0, none⟩ = some (.int .i64 (t.first + (l : Int))) ∧ wc.cell? ⟨wr.heap.size, 1, none⟩ = some (.int .i64 yg) ∧ wc.cell? ⟨wr.heap.size, 2, none⟩ = some (.int .i64 ye) := ⟨oXc.cell 0, oXc.cell 1, oXc.cell 2⟩
        have z3 : wc.frozen? ⟨wr.heap.size, 1, none⟩ = false := oXc.frozen 1
        have OC := Lib.hid oXc
        clear oXc hby
        obtain ⟨gN, hgN⟩ : ∃ gN, gradeN gl ye i = gN := ⟨_, rfl⟩
        have SN2 := SN.out
        rw [hgN] at SN2
        replace SN := Lib.hid SN2
        have hgN2 : gN = min 3 (max 0 (gl + ye * (((i % 3 : Nat) : Int) - 1))) := hgN.symm
        rw [show ((i % 3 : Nat) : Int) = (i : Int) % 3 by omega] at hgN2
        have GN := Lib.hid hgN2
        clear SN2 hgN hgN2
        obtain ⟨wo, rfl⟩ : ∃ wo, wo = wc := ⟨wc, rfl⟩
        go_upto_region 13 with fail
        go_cut [] (fun wz => Ob wz wr.heap.size 64 #[.int .i64 (t.first + (l : Int)), .int .i64 gN, .int .i64 ye] ∧ Below wr.heap.size wr wz)
        case first =>
          have p2 : (0 : Int) ≤ (i : Int) % 3 := by omega
          have p3 : (i : Int) % 3 ≤ 2 := by omega
          have p4 : -3 ≤ ye * ((i : Int) % 3 - 1) ∧ ye * ((i : Int) % 3 - 1) ≤ 3 := by
            have h3 : (i : Int) % 3 = 0 ∨ (i : Int) % 3 = 1 ∨ (i : Int) % 3 = 2 := by omega
            rcases h3 with h3 | h3 | h3 <;> rw [h3] <;> omega
          obtain ⟨p5, p6⟩ := p4
          obtain ⟨g1, g2⟩ := hgb
          go_wp2_with fail
          all_goals go_meet
          all_goals first
            | (have e : gN = gl + ye * ((i : Int) % 3 - 1) := (by rw [GN.out]; omega); exact ⟨by rw [e]; exact OC.out.set 1 _, BY.out.setCell (by simp) _⟩)
            | (have e : gN = 0 := (by rw [GN.out]; omega); exact ⟨by rw [e]; exact OC.out.set 1 _, BY.out.setCell (by simp) _⟩)
            | (have e : gN = 3 := (by rw [GN.out]; omega); exact ⟨by rw [e]; exact OC.out.set 1 _, BY.out.setCell (by simp) _⟩)
        case rest =>
          clear z0 z1 z2 z3
          obtain ⟨oZ, hbz⟩ := hcut
          have hMz := MM.out.below hbz
          obtain ⟨z0, z1, z2⟩ : wc.cell? ⟨wr.heap.size, 0, none⟩ = some (.int .i64 (t.first + (l : Int))) ∧ wc.cell? ⟨wr.heap.size, 1, none⟩ = some (.int .i64 gN) ∧ wc.cell? ⟨wr.heap.size, 2, none⟩ = some (.int .i64 ye) := ⟨oZ.cell 0, oZ.cell 1, oZ.cell 2⟩
          have v12 : wc.cell? ⟨w1.heap.size, 12, none⟩ = some vt := hMz.U.cell 12
          have LE := trueT_len t ts c i
          have MZ := Lib.hid hMz
          have LEE := Lib.hid LE
          clear hMz oZ hbz LE
          generalize trueT t ts c i = L at MZ LEE SN MM
          go_wp2_with ((at_builtin; refine wpList_append_own _ rfl _ _ 29 rfl (w1.heap.size + 1) 64 i3 (.agg #[.int .i64 0, .int .i64 0, .int .i64 0]) 3 24 Try.underlying29 I3.out.1 I3.out.2.1 I3.out.2.2.1 I3.out.2.2.2 rfl (by decide) _ _ _ rfl ((MZ.out.below (B_alloc (Below.refl _ _) _)).R) ⟨wc.heap.size, 0, none⟩ 1 1 [.int .i64 (t.first + (l : Int)), .int .i64 gN, .int .i64 ye] rfl rfl ?c1 ?c2 ?c3 ?c4 ?c5 ?_))
          case c1 =>
            intro j u h
            rw [show (⟨wc.heap.size, 0, none⟩ : Addr).add j = ⟨wc.heap.size, j, none⟩ by simp [Addr.add, eq_comm]]
            rw [(Ob.new wc #[.int .i64 (t.first + (l : Int)), .int .i64 gN, .int .i64 ye] 64).cell]
            simpa using h
          case c2 => intro u hu; simp at hu; rcases hu with rfl | rfl | rfl <;> rfl
          case c3 => have := LEE.out; unfold maxLen; omega
          case c4 => have := LEE.out; omega
          case c5 => have := MZ.out.U.lt; simp; omega
          intro v' w6 hown' hgrow _
          obtain ⟨gv, capv, rfl⟩ := row_form hown' (by omega)
          have hMa := MZ.out.below (B_alloc (Below.refl wc.heap.size wc) (.cells #[.int .i64 (t.first + (l : Int)), .int .i64 gN, .int .i64 ye] 64))
          have hU6 := ob_grow hMa.U hMa.R hgrow (by omega)
          have c12 : w6.cell? ⟨w1.heap.size, 12, none⟩ = some vt := hU6.cell 12
          have z12 : w6.frozen? ⟨w1.heap.size, 12, none⟩ = false := hU6.frozen 12
          have hM6 := Lib.hid (hMa.add (x := (t.first + (l : Int), gN, ye)) hgrow hown')
          clear hown' hgrow hMa hU6 z0 z1 z2 v12
          go_wp2_with fail
          go_roundg (t.tn - (i + 1))
          case measure => omega
          case rel =>
            refine ⟨i + 1, .slice (some ⟨gv, 0, none⟩) (L.length + 1) capv, rfl, by push_cast; rfl, by omega, ?_⟩
            rw [SN.out]
            exact hM6.out
    · obtain rfl : i = t.tn := by omega
      have h1 : ¬ (t.tn : Int) < t.tn := by omega
      have hRw := hM.R
      rw [trueT_len] at hRw
      obtain ⟨ua, uc, rfl, hS3, -⟩ := sl3_row hRw
      have hRr := hR.below hBw
      have H2' : Calls Try.prog 28 #[.agg (t.ucs (.slice ua t.tn uc))] wr fun e w' => ∃ la lc sa sc, e = .returned (.tuple #[.slice la (t.dn + 1) lc, .slice sa (reachT (t.with_ ua t.tn uc) hs ws ds (trueT t ts c t.tn)).struck.length sc, .int .i64 0]) ∧ Sl2 w' la (t.dn + 1) (levT (t.with_ ua t.tn uc) hs ws ds (trueT t ts c t.tn)) ∧ Sl2 w' sa (reachT (t.with_ ua t.tn uc) hs ws ds (trueT t ts c t.tn)).struck.length (reachT (t.with_ ua t.tn uc) hs ws ds (trueT t ts c t.tn)).struck ∧ Below wr.heap.size wr w' :=
        levels3_any (t.with_ ua t.tn uc) hs ws ds (trueT t ts c t.tn) wr ⟨hRr.r, hRr.dn, hRr.tn, hRr.d, hS3⟩ (HU.out ua uc)
      obtain ⟨n1, n2⟩ := HN.out ua uc
      rw [n1] at H2'
      generalize levT (t.with_ ua t.tn uc) hs ws ds (trueT t ts c t.tn) = LV at H2' n2
      simp only [List.length_nil] at H2'
      have H2 := Lib.hid H2'
      have N2 := Lib.hid n2
      obtain ⟨r0, r1, r2, r3, r4, r5, r6, r7, r8, r9, r10, r11, r12⟩ := hM.U.ucells
      have BW := Lib.hid hBw
      have OC := Lib.hid (O1.out.2.below hM.b)
      clear hM hRw hS3 hRr H2' n1 n2 hBw
      obtain ⟨wo, rfl⟩ : ∃ wo, wo = wr := ⟨wr, rfl⟩
      go_wp2_with fail
      refine (H2.out).mono ?_
      rintro e w7 ⟨la, lc, sa, sc, rfl, hLs, -, hb7⟩
      have B7 := Lib.hid (B_trans BW.out hb7)
      have O7 := Lib.hid (And.intro (OC.out.below hb7) hLs)
      clear q0 q1 q2 q3 q4 q5 q6 q7 q8 q9 q10 q11 q12 r0 r1 r2 r3 r4 r5 r6 r7 r8 r9 r10 r11 r12 hb7 hLs
      go_wp2_with fail
      go_loopg [15] (t.dn + 1) (fun gk iv wr => ∃ i : Nat, gk = t.dn + 1 - i ∧ iv = .int .i64 (i : Int) ∧ i ≤ t.dn + 1 ∧ Below w7.heap.size w7 wr)
      case atStart => exact ⟨0, rfl, rfl, Nat.zero_le _, Below.refl _ _⟩
      case round =>
        obtain ⟨i, rfl, rfl, hi, hbr⟩ := hrel
        by_cases hlt : i < t.dn + 1
        · obtain ⟨cb, co, rfl, hcb, hcc⟩ := (O7.out.1.below hbr).at_ (by omega)
          obtain ⟨lb, lo, rfl, hlb, hll⟩ := (O7.out.2.below hbr).at_ (by omega)
          have y0 := hcc i hlt
          rw [hat.out i (by omega)] at y0
          obtain ⟨y1, y2⟩ := hll i hlt
          have hin := N2.out i (show i ≤ t.dn by omega)
          have HH' := fun W' => has_any (LV.getD i (0, 0)) (c i) W'
          rw [show inB (c i) (LV.getD i (0, 0)).1 (LV.getD i (0, 0)).2 = true from inB_iff.2 hin] at HH'
          generalize LV.getD i (0, 0) = lv at y1 y2 HH'
          generalize c i = n at y0 HH'
          have HH := Lib.hid HH'
          have HS := Lib.hid (fun (W' : World) (hh : Below wr.heap.size wr W') => (show W'.cell? ⟨cb, co + i, none⟩ = some (.int .i64 n) ∧ W'.cell? ⟨lb, lo + i * 2, none⟩ = some (.int .i64 lv.1) ∧ W'.cell? ⟨lb, lo + i * 2 + 1, none⟩ = some (.int .i64 lv.2) from ⟨(hh.cell (p := ⟨cb, _, none⟩) hcb).trans y0, (hh.cell (p := ⟨lb, _, none⟩) hlb).trans y1, (hh.cell (p := ⟨lb, _, none⟩) hlb).trans y2⟩))
          have a1 : (0 : Int) ≤ i := by omega
          have a2 : (i : Int) < ((t.dn + 1 : Nat) : Int) := by omega
          have a3 : (i : Int) < (t.dn : Int) + 1 := by omega
          have BS := Lib.hid hbr
          clear hbr hcc hll y0 y1 y2 HH' hin
          go_upto_region 21 with fail
          go_cut [107] (fun a wx => a = .bool false ∧ Below wr.heap.size wr wx)
          case first =>
            refine wp_region_held' (S := fun W' => Below wr.heap.size wr W') (by kernel_rfl) ((Below.refl _ wr).drew) (fun hHeld => ?_)
            refine wpAnyH_take2 (i := 0) (t := 98) (v := ?_) rfl rfl (by kernel_rfl) (by kernel_rfl) (by kernel_rfl) (fun _ _ _ h => Only.not_panic h) (Or.inl ⟨by kernel_rfl, fun W hW => ?_⟩) (by assumption) ?_
            rotate_left
            · have hW2 := hW
              obtain ⟨y0, y1, y2⟩ := HS.out W hW2
              clear hW hW2
              go_simp
              try with_reducible rfl
            try simp only [Act.put, List.setIfInBounds_toArray, List.set_cons_zero, List.set_cons_succ]
            refine wpAnyH_take2 (i := 1) (t := 99) (v := ?_) rfl rfl (by kernel_rfl) (by kernel_rfl) (by kernel_rfl) (fun _ _ _ h => Only.not_panic h) (Or.inl ⟨by kernel_rfl, fun W hW => ?_⟩) (by assumption) ?_
            rotate_left
            · have hW2 := hW
              obtain ⟨y0, y1, y2⟩ := HS.out W hW2
              clear hW hW2
              go_simp
              try with_reducible rfl
            try simp only [Act.put, List.setIfInBounds_toArray, List.set_cons_zero, List.set_cons_succ]
            refine wpAnyH_take2 (i := 2) (t := 100) (v := ?_) rfl rfl (by kernel_rfl) (by kernel_rfl) (by kernel_rfl) (fun _ _ _ h => Only.not_panic h) (Or.inl ⟨by kernel_rfl, fun W hW => ?_⟩) (by assumption) ?_
            rotate_left
            · have hW2 := hW
              obtain ⟨y0, y1, y2⟩ := HS.out W hW2
              clear hW hW2
              go_simp
              try with_reducible rfl
            try simp only [Act.put, List.setIfInBounds_toArray, List.set_cons_zero, List.set_cons_succ]
            refine wpAnyH_take2 (i := 3) (t := 101) (v := ?_) rfl rfl (by kernel_rfl) (by kernel_rfl) (by kernel_rfl) (fun _ _ _ h => Only.not_panic h) (Or.inl ⟨by kernel_rfl, fun W hW => ?_⟩) (by assumption) ?_
            rotate_left
            · have hW2 := hW
              obtain ⟨y0, y1, y2⟩ := HS.out W hW2
              clear hW hW2
              go_simp
              try with_reducible rfl
            try simp only [Act.put, List.setIfInBounds_toArray, List.set_cons_zero, List.set_cons_succ]
            refine wpAnyH_take2 (i := 4) (t := 102) (v := ?_) rfl rfl (by kernel_rfl) (by kernel_rfl) (by kernel_rfl) (fun _ _ _ h => Only.not_panic h) (Or.inl ⟨by kernel_rfl, fun W hW => ?_⟩) (by assumption) ?_
            rotate_left
            · have hW2 := hW
              obtain ⟨y0, y1, y2⟩ := HS.out W hW2
              clear hW hW2
              go_simp
              try with_reducible rfl
            try simp only [Act.put, List.setIfInBounds_toArray, List.set_cons_zero, List.set_cons_succ]
            refine wpAnyH_take2 (i := 5) (t := 103) (v := ?_) rfl rfl (by kernel_rfl) (by kernel_rfl) (by kernel_rfl) (fun _ _ _ h => Only.not_panic h) (Or.inl ⟨by kernel_rfl, fun W hW => ?_⟩) (by assumption) ?_
            rotate_left
            · have hW2 := hW
              obtain ⟨y0, y1, y2⟩ := HS.out W hW2
              clear hW hW2
              go_simp
              try with_reducible rfl
            try simp only [Act.put, List.setIfInBounds_toArray, List.set_cons_zero, List.set_cons_succ]
            refine wpAnyH_take2 (i := 6) (t := 104) (v := ?_) rfl rfl (by kernel_rfl) (by kernel_rfl) (by kernel_rfl) (fun _ _ _ h => Only.not_panic h) (Or.inl ⟨by kernel_rfl, fun W hW => ?_⟩) (by assumption) ?_
            rotate_left
            · have hW2 := hW
              obtain ⟨y0, y1, y2⟩ := HS.out W hW2
              clear hW hW2
              go_simp
              try with_reducible rfl
            try simp only [Act.put, List.setIfInBounds_toArray, List.set_cons_zero, List.set_cons_succ]
            refine wpAnyH_take2 (i := 7) (t := 105) (v := ?_) rfl rfl (by kernel_rfl) (by kernel_rfl) (by kernel_rfl) (fun _ _ _ h => Only.not_panic h) (Or.inl ⟨by kernel_rfl, fun W hW => ?_⟩) (by assumption) ?_
            rotate_left
            · have hW2 := hW
              obtain ⟨y0, y1, y2⟩ := HS.out W hW2
              clear hW hW2
              go_simp
              try with_reducible rfl
            try simp only [Act.put, List.setIfInBounds_toArray, List.set_cons_zero, List.set_cons_succ]
            refine wpAnyH_ready (rs := [8]) (by kernel_rfl) (by simp) ?_
            refine AllReadyH.cons rfl (fun K hK => ?_) ?_
            · go_simp
              with_reducible refine (HH.out _).mono ?_
              rintro ev w8 ⟨rfl, hb8⟩
              try simp only []
              refine hK.out _ _ ?_ (fun hHeld => ?_)
              · exact B_trans hHeld hb8
              clear hK K
              try simp only [Act.put, List.setIfInBounds_toArray, List.set_cons_zero, List.set_cons_succ]
              refine wpAnyH_take2 (i := 9) (t := 107) (v := ?_) rfl rfl (by kernel_rfl) (by kernel_rfl) (by kernel_rfl) (fun _ _ _ h => Only.not_panic h) (Or.inl ⟨by kernel_rfl, fun W hW => ?_⟩) (by assumption) ?_
              rotate_left
              · have hW2 := hW
                obtain ⟨y0, y1, y2⟩ := HS.out W hW2
                clear hW hW2
                go_simp
                try with_reducible rfl
              try simp only [Act.put, List.setIfInBounds_toArray, List.set_cons_zero, List.set_cons_succ]
              refine wpAnyH_done (by kernel_rfl) (Only.mk ?_) _
              go_wp2_with fail
              go_meet
              exact ⟨rfl, hHeld⟩
            exact AllReadyH.nil
          case rest =>
            clear HS HH
            obtain ⟨rfl, hbx⟩ := hcut
            have BX := Lib.hid hbx
            clear hbx
            go_wp2_with fail
            go_roundg (t.dn + 1 - (i + 1))
            case measure => omega
            case rel => exact ⟨i + 1, rfl, by push_cast; rfl, by omega, B_trans BS.out BX.out⟩
        · obtain rfl : i = t.dn + 1 := by omega
          have h2 : ¬ ((t.dn + 1 : Nat) : Int) < ((t.dn + 1 : Nat) : Int) := by omega
          have B6 := Lib.hid (B_trans B7.out hbr)
          clear hbr
          go_wp2_with fail
          refine (HA.out _).mono ?_
          rintro e w8 ⟨rfl, hb8⟩
          have B8 := Lib.hid (B_trans B6.out hb8)
          clear hb8
          go_wp2
          refine bodyPost_ret (v := .bool true) (by simp [results, Try.results11, go_sem]) rfl ⟨rfl, B8.out⟩
theorem neverLaw_all (t : TkA) (hs ws : List T2) (ds : List T4) (ts : List T3) (x0 : Int) (xa : Option Addr) (xn xc : Nat) (bs : List Int) (w : World) (hR : TkR w t hs ws ds ts) (hx : 0 ≤ x0 ∧ x0 ≤ 255) (hX : Nums w .u8 0 255 xa xn bs) :
    Calls Try.prog 11 #[.agg t.cs, .agg #[.int .u8 x0, .slice xa xn xc]] w fun e w' => e = .returned (.bool true) ∧ Below w.heap.size w w' := by
  by_cases he : (taskS t hs ws ds ts).2.2 = 0
  · exact neverLaw_any t hs ws ds ts x0 xa xn xc bs w hR he hx hX
  · exact neverLaw_bad t hs ws ds ts x0 _ w hR he
end Go.Proofs.Ytanjkhclhcnnaaa

/- walked of the law. -/
import Derived.Test.YtanjkhclhcnnaaaEC
import Derived.Test.YtanjkhclhcnnaaaDQ
namespace Go.Proofs.Ytanjkhclhcnnaaa
open Go.RowKit Go.Shelf

theorem lv_zero {n : Int} (h : 0 ≤ n ∧ n ≤ 1000000) : lvE (n, n) = 0 := by
  unfold lvE demandE
  simp [outB, turnB, inB]
  omega
/-- Grow of a task without an error, from one level. -/
theorem grow_one {t : TkA} {hs ws : List T2} {ds : List T4} {ts : List T3} (ok : TaskOK t hs ws ds ts) (hdl : ds.length = t.dn) {k : Nat} (hk : k < t.dn) {n : Int} (hn : 0 ≤ n ∧ n ≤ 1000000) : growF t.r hs ws (ds.getD k (0, 0, 0, 0)) (n, n) = (nextS t.r ((ds.map (strS hs ws)).getD k (0, 0)) (n, n), 0) := by
  have h1 : dayE (ds.getD k (0, 0, 0, 0)) = 0 := firstE_all.1 ok.days k hk
  have h2 : (strengthF t.r hs ws (ds.getD k (0, 0, 0, 0))) = (strS hs ws (ds.getD k (0, 0, 0, 0)), 0) := by
    unfold strengthF
    rw [if_neg (by simpa using ok.r), if_neg (by simpa using h1)]
  have h3 : lvE (n, n) = 0 := lv_zero hn
  have h4 : (ds.map (strS hs ws)).getD k (0, 0) = strS hs ws (ds.getD k (0, 0, 0, 0)) := by simp [List.getD, hdl, hk]
  unfold growF
  rw [h2, h4]
  simp only
  rw [if_neg (by simp), if_neg (by simpa using h3)]

set_option maxRecDepth 100000 in
set_option maxHeartbeats 4000000 in
theorem walked_bad (t : TkA) (hs ws : List T2) (ds : List T4) (ts : List T3) (x0 : Int) (xv : Value) (w : World) (hR : TkR w t hs ws ds ts) (he : (taskS t hs ws ds ts).2.2 ≠ 0) :
    Calls Try.prog 40 #[.agg t.cs, .agg #[.int .u8 x0, xv]] w fun e w' => e = .returned (.tuple #[.slice none 0 0, .bool false]) ∧ Below w.heap.size w w' := by
  obtain ⟨w0, hw0⟩ : ∃ w0, ((w).alloc (.cells t.cs 31)).alloc (.cells #[.int .u8 x0, xv] 68) = w0 := ⟨_, rfl⟩
  have hb0 : Below w.heap.size w w0 := by rw [← hw0]; exact B_alloc (B_alloc (Below.refl _ _) _) _
  have o0 : Ob w0 (w.heap.size) 31 t.cs := by
    rw [← hw0]
    have h := Ob.new (w) t.cs 31
    replace h := h.alloc (.cells #[.int .u8 x0, xv] 68)
    exact h
  have H1 := refCheckTask_any t hs ws ds ts w0 (hR.below hb0)
  generalize taskS t hs ws ds ts = c at H1 he
  obtain ⟨c1, c2, c3⟩ := c
  simp only [tri] at H1 he
  replace H1 := Lib.hid H1
  obtain ⟨q0, q1, q2, q3, q4, q5, q6, q7, q8, q9, q10, q11, q12⟩ := o0.task
  have hq : (c3 != 0) = true := by simpa using he
  replace hb0 := Lib.hid hb0
  replace hw0 := Lib.hid hw0
  clear o0 hR he
  go_enter Try.func40, Try.ntmps40
  go_wp2_with fail
  rw [hw0.out]
  refine H1.out.mono ?_
  rintro e w1 ⟨rfl, hb1⟩
  clear q0 q1 q2 q3 q4 q5 q6 q7 q8 q9 q10 q11 q12
  go_wp2
  refine bodyPost_ret (v := .tuple #[.slice none 0 0, .bool false]) (by simp [results, Try.results40, go_sem]) rfl ⟨rfl, B_trans hb0.out hb1⟩

set_option maxRecDepth 100000 in
set_option maxHeartbeats 8000000 in
theorem walked_any (t : TkA) (hs ws : List T2) (ds : List T4) (ts : List T3) (x0 : Int) (xa : Option Addr) (xn xc : Nat) (bs : List Int) (w : World) (hR : TkR w t hs ws ds ts) (he : (taskS t hs ws ds ts).2.2 = 0) (hx : 0 ≤ x0 ∧ x0 ≤ 255) (hX : Nums w .u8 0 255 xa xn bs) :
    Calls Try.prog 40 #[.agg t.cs, .agg #[.int .u8 x0, .slice xa xn xc]] w fun e w' => ∃ v, e = .returned (.tuple #[v, .bool true]) ∧ w'.ownsRow w.heap.size 3 1 v (t.dn + 1) (intsZ (courseL t.r (ds.map (strS hs ws)) (t.lo, t.hi) x0 bs t.dn)) ∧ Below w.heap.size w w' := by
  obtain ⟨w0, hw0⟩ : ∃ w0, ((w).alloc (.cells t.cs 31)).alloc (.cells #[.int .u8 x0, .slice xa xn xc] 68) = w0 := ⟨_, rfl⟩
  have hb0 : Below w.heap.size w w0 := by rw [← hw0]; exact B_alloc (B_alloc (Below.refl _ _) _) _
  have o0 : Ob w0 (w.heap.size) 31 t.cs := by
    rw [← hw0]
    have h := Ob.new (w) t.cs 31
    replace h := h.alloc (.cells #[.int .u8 x0, .slice xa xn xc] 68)
    exact h
  have o1 : Ob w0 (w.heap.size + 1) 68 #[.int .u8 x0, .slice xa xn xc] := by
    rw [← hw0]
    have h := Ob.new ((w).alloc (.cells t.cs 31)) #[.int .u8 x0, .slice xa xn xc] 68
    simp only [World.size_alloc] at h
    exact h
  have ok := TaskOK.of he
  have hO := RuOK.of ok.r
  have hdl := hR.d.len
  have hst := days_str hO hdl ok.days
  have hp := lv_ok ok.start
  have hdn := ok.dn
  have hcin := course_in hO (ss := ds.map (strS hs ws)) (N := t.dn) (by rw [List.length_map, hdl]) hst hp hx (fun i => nums_step hX i)
  have hgr := fun k (hk : k < t.dn) n (hn : 0 ≤ n ∧ n ≤ 1000000) => grow_one (k := k) (n := n) ok hdl hk hn
  have H1 := refCheckTask_any t hs ws ds ts w0 (hR.below hb0)
  rw [show tri (taskS t hs ws ds ts) = .tuple #[.int .i64 (taskS t hs ws ds ts).1, .int .i64 (taskS t hs ws ds ts).2.1, .int .i64 (taskS t hs ws ds ts).2.2] from rfl, he] at H1
  generalize (taskS t hs ws ds ts).1 = c1 at H1
  generalize (taskS t hs ws ds ts).2.1 = c2 at H1
  replace H1 := Lib.hid H1
  have HP0 := Lib.hid (fun W' => part_any (t.lo, t.hi) x0 W' hp hx)
  have HC0 : Hid (partS (t.lo, t.hi) x0 = courseN t.r (ds.map (strS hs ws)) (t.lo, t.hi) x0 bs 0) := rfl
  obtain ⟨q0, q1, q2, q3, q4, q5, q6, q7, q8, q9, q10, q11, q12⟩ := o0.task
  replace o0 := Lib.hid o0
  replace o1 := Lib.hid o1
  replace hb0 := Lib.hid hb0
  replace hw0 := Lib.hid hw0
  replace hcin := Lib.hid hcin
  replace hgr := Lib.hid hgr
  obtain ⟨i3, hi3, hz3, hs3, hy3⟩ := info_parts infoInt
  have I3 := Lib.hid (And.intro hi3 (And.intro hz3 (And.intro hs3 hy3)))
  clear hi3 hz3 hs3 hy3 he ok
  go_enter Try.func40, Try.ntmps40
  go_wp2_with fail
  rw [hw0.out]
  refine H1.out.mono ?_
  rintro e w1 ⟨rfl, hb1⟩
  clear q0 q1 q2 q3 q4 q5 q6 q7 q8 q9 q10 q11 q12
  have o0' := o0.out.below hb1
  have o1' := o1.out.below hb1
  have B1 := Lib.hid (B_trans hb0.out hb1)
  obtain ⟨q0, q1, q2, q3, q4, q5, q6, q7, q8, q9, q10, q11, q12⟩ := o0'.task
  obtain ⟨z0, z1⟩ : w1.cell? ⟨w.heap.size + 1, 0, none⟩ = some (.int .u8 x0) ∧ w1.cell? ⟨w.heap.size + 1, 1, none⟩ = some (.slice xa xn xc) := ⟨o1'.cell 0, o1'.cell 1⟩
  have O1 := Lib.hid (And.intro o0' o1')
  clear o0' o1' hb1
  go_wp2_with (go_at_call 44; ((with_reducible refine (HP0.out _).mono ?_); rintro e w2 ⟨rfl, hb2'⟩; have hb2 := Lib.hid hb2'; clear hb2'))
  obtain ⟨n0, hn0⟩ : ∃ n0, partS (t.lo, t.hi) x0 = n0 := ⟨_, rfl⟩
  have HN0 := Lib.hid hn0
  rw [hn0]
  clear hn0 q0 q1 q2 q3 q4 q5 q6 q7 q8 q9 q10 q11 q12 z0 z1
  have hM0 : CM t w x0 (.slice xa xn xc) (.slice (some ⟨w2.heap.size, 0, none⟩) 1 1) (courseL t.r (ds.map (strS hs ws)) (t.lo, t.hi) x0 bs 0) (w2.alloc (.cells #[.int .i64 n0] 3)) := by
    have e : courseL t.r (ds.map (strS hs ws)) (t.lo, t.hi) x0 bs 0 = [n0] := by rw [← HN0.out]; rfl
    rw [e]
    refine ⟨(O1.out.1.below hb2.out).alloc _, (O1.out.2.below hb2.out).alloc _, row_one 3 n0 (by have := (O1.out.2.below hb2.out).lt; omega), B_alloc (B_trans B1.out hb2.out) _⟩
  replace hM0 := Lib.hid hM0
  go_loopg [9, 10] t.dn (fun gk xl i wr => ∃ (k : Nat) (vl : Value), vl = xl ∧ gk = t.dn - k ∧ i = .int .i64 (k : Int) ∧ k ≤ t.dn ∧ CM t w x0 (.slice xa xn xc) vl (courseL t.r (ds.map (strS hs ws)) (t.lo, t.hi) x0 bs k) wr)
  case atStart => exact ⟨0, _, rfl, rfl, rfl, Nat.zero_le _, hM0.out⟩
  case round =>
    obtain ⟨k, vl, rfl, rfl, rfl, hk, hM⟩ := hrel
    clear hM0
    have hlen := courseL_len t.r (ds.map (strS hs ws)) (t.lo, t.hi) x0 bs k
    by_cases hlt : k < t.dn
    · have hsn := courseL_snoc t.r (ds.map (strS hs ws)) (t.lo, t.hi) x0 bs k
      have hcn := courseL_at t.r (ds.map (strS hs ws)) (t.lo, t.hi) x0 bs (k := k) (i := k) (Nat.le_refl _)
      have hci := hcin.out k hk
      have hgk := hgr.out k hlt _ hci
      have hnext : courseN t.r (ds.map (strS hs ws)) (t.lo, t.hi) x0 bs (k + 1) = partS (nextS t.r ((ds.map (strS hs ws)).getD k (0, 0)) (courseN t.r (ds.map (strS hs ws)) (t.lo, t.hi) x0 bs k, courseN t.r (ds.map (strS hs ws)) (t.lo, t.hi) x0 bs k)) (stepB bs k) := rfl
      rw [hnext] at hsn
      have hxc := ((one_can hci).next hO (hst _ (getD_lt (L := ds.map (strS hs ws)) (i := k) (by rw [List.length_map, hdl]; exact hlt))))
      obtain ⟨q, cap, cur, rfl, hq, hOb, -, -, -, htk⟩ := rowz_form hM.R (by omega)
      have hql := hOb.lt
      have y9 := rowz_cell hOb htk rfl (j := k) (by omega)
      rw [hcn] at y9
      generalize courseN t.r (ds.map (strS hs ws)) (t.lo, t.hi) x0 bs k = n at hci hgk hxc y9 hsn
      obtain ⟨db, dO, hda, hdb, hdd⟩ := hR.d.at_ (by omega)
      obtain ⟨x0', x1', x2', x3'⟩ := hdd k hlt
      have hBw := hM.b
      have g0 := (hBw.cell (p := ⟨db, _, none⟩) hdb).trans x0'
      have g1 := (hBw.cell (p := ⟨db, _, none⟩) hdb).trans x1'
      have g2 := (hBw.cell (p := ⟨db, _, none⟩) hdb).trans x2'
      have g3 := (hBw.cell (p := ⟨db, _, none⟩) hdb).trans x3'
      have hdbr : db < wr.heap.size := Nat.lt_of_lt_of_le hdb hBw.size
      obtain ⟨P, hP⟩ : ∃ P, nextS t.r ((ds.map (strS hs ws)).getD k (0, 0)) (n, n) = P := ⟨_, rfl⟩
      rw [hP] at hgk hxc hsn
      have HGr' : ∀ W', Below wr.heap.size wr W' → Calls Try.prog 23 #[.agg t.r.cs, .agg #[.int .i64 (ds.getD k (0, 0, 0, 0)).1, .int .i64 (ds.getD k (0, 0, 0, 0)).2.1, .int .i64 (ds.getD k (0, 0, 0, 0)).2.2.1, .int .i64 (ds.getD k (0, 0, 0, 0)).2.2.2], .agg #[.int .i64 n, .int .i64 n]] W' fun e w' => e = .returned (.tuple #[.agg #[.int .i64 P.1, .int .i64 P.2], .int .i64 0]) ∧ Below W'.heap.size W' w' := fun W' hh => by
        have h := refGrowD_any t.r hs ws (ds.getD k (0, 0, 0, 0)) (n, n) W' (hR.r.below (B_trans hBw hh))
        rw [hgk] at h
        exact h
      have HGr := Lib.hid HGr'
      clear HGr' x0' x1' x2' x3' hdd hgk hP hnext hcn
      generalize ds.getD k (0, 0, 0, 0) = d at g0 g1 g2 g3 HGr
      obtain ⟨d0, d1, d2, d3⟩ := d
      simp only at g0 g1 g2 g3 HGr
      have HSp := Lib.hid (fun W' => lawSpan_any n n W')
      have HS := Lib.hid (fun (W' : World) (hh : Below wr.heap.size wr W') => (show (W'.cell? ⟨w.heap.size, 0, none⟩ = some (.slice t.r.ha t.r.hn t.r.hc) ∧ W'.cell? ⟨w.heap.size, 1, none⟩ = some (.slice t.r.wa t.r.wn t.r.wc) ∧ W'.cell? ⟨w.heap.size, 2, none⟩ = some (.int .i64 t.r.own) ∧ W'.cell? ⟨w.heap.size, 3, none⟩ = some (.int .i64 t.r.feed) ∧ W'.cell? ⟨w.heap.size, 4, none⟩ = some (.int .i64 t.r.g0) ∧ W'.cell? ⟨w.heap.size, 5, none⟩ = some (.int .i64 t.r.g1) ∧ W'.cell? ⟨w.heap.size, 6, none⟩ = some (.int .i64 t.r.g2) ∧ W'.cell? ⟨w.heap.size, 7, none⟩ = some (.int .i64 t.r.lost) ∧ W'.cell? ⟨w.heap.size, 8, none⟩ = some (.int .i64 t.first) ∧ W'.cell? ⟨w.heap.size, 9, none⟩ = some (.slice (some ⟨db, dO, none⟩) t.dn t.dc) ∧ W'.cell? ⟨w.heap.size, 10, none⟩ = some (.int .i64 t.lo) ∧ W'.cell? ⟨w.heap.size, 11, none⟩ = some (.int .i64 t.hi) ∧ W'.cell? ⟨w.heap.size, 12, none⟩ = some (.slice t.ta t.tn t.tc)) ∧ W'.cell? ⟨db, dO + k * 4, none⟩ = some (.int .i64 d0) ∧ W'.cell? ⟨db, dO + k * 4 + 1, none⟩ = some (.int .i64 d1) ∧ W'.cell? ⟨db, dO + k * 4 + 2, none⟩ = some (.int .i64 d2) ∧ W'.cell? ⟨db, dO + k * 4 + 3, none⟩ = some (.int .i64 d3) from ⟨by have h := (hM.T.below hh).task; rwa [hda] at h, (hh.cell (p := ⟨db, _, none⟩) hdbr).trans g0, (hh.cell (p := ⟨db, _, none⟩) hdbr).trans g1, (hh.cell (p := ⟨db, _, none⟩) hdbr).trans g2, (hh.cell (p := ⟨db, _, none⟩) hdbr).trans g3⟩))
      obtain ⟨f0, f1, f2, f3, f4, f5, f6, f7, f8, f9, f10, f11, f12⟩ := hM.T.task
      have a1 : (0 : Int) ≤ k := by omega
      have a2 : (k : Int) < t.dn := by omega
      have a3 : (k : Int) < ((courseL t.r (ds.map (strS hs ws)) (t.lo, t.hi) x0 bs k).length : Nat) := by rw [hlen]; omega
      have hsb := nums_step hX k
      have HP := Lib.hid (fun W' => part_any P (stepB bs k) W' hxc hsb)
      have gT := hM.T.lt
      have MM := Lib.hid hM
      have SN := Lib.hid hsn
      have LE := Lib.hid hlen
      have HD := Lib.hid hda
      clear hM hsn hlen hOb htk hBw hda g0 g1 g2 g3
      generalize courseL t.r (ds.map (strS hs ws)) (t.lo, t.hi) x0 bs k = L at a3 MM SN LE
      go_upto_region 9 with fail
      clear f0 f1 f2 f3 f4 f5 f6 f7 f8 f9 f10 f11 f12
      go_cut [12, 13] (fun a b wx => ∃ g : Nat, a = .pointer (some ⟨g, 0, none⟩) ∧ b = .int .i64 0 ∧ wr.heap.size ≤ g ∧ Ob wx g 28 #[.int .i64 P.1, .int .i64 P.2] ∧ Below wr.heap.size wr wx)
      case first =>
        refine wp_region_held' (S := fun W' => Below wr.heap.size wr W') (by kernel_rfl) ((Below.refl _ wr).drew) (fun hHeld => ?_)
        refine wpAnyH_take2 (i := 0) (t := 41) (v := ?_) rfl rfl (by kernel_rfl) (by kernel_rfl) (by kernel_rfl) (fun _ _ _ h => Only.not_panic h) (Or.inl ⟨by kernel_rfl, fun W hW => ?_⟩) (by assumption) ?_
        rotate_left
        · have hW2 := hW
          obtain ⟨⟨f0, f1, f2, f3, f4, f5, f6, f7, f8, f9, f10, f11, f12⟩, y0, y1, y2, y3⟩ := HS.out W hW2
          clear hW hW2
          go_simp
          try with_reducible rfl
        try simp only [Act.put, List.setIfInBounds_toArray, List.set_cons_zero, List.set_cons_succ]
        refine wpAnyH_take2 (i := 1) (t := 42) (v := ?_) rfl rfl (by kernel_rfl) (by kernel_rfl) (by kernel_rfl) (fun _ _ _ h => Only.not_panic h) (Or.inl ⟨by kernel_rfl, fun W hW => ?_⟩) (by assumption) ?_
        rotate_left
        · have hW2 := hW
          obtain ⟨⟨f0, f1, f2, f3, f4, f5, f6, f7, f8, f9, f10, f11, f12⟩, y0, y1, y2, y3⟩ := HS.out W hW2
          clear hW hW2
          go_simp
          try with_reducible rfl
        try simp only [Act.put, List.setIfInBounds_toArray, List.set_cons_zero, List.set_cons_succ]
        refine wpAnyH_take2 (i := 2) (t := 43) (v := ?_) rfl rfl (by kernel_rfl) (by kernel_rfl) (by kernel_rfl) (fun _ _ _ h => Only.not_panic h) (Or.inl ⟨by kernel_rfl, fun W hW => ?_⟩) (by assumption) ?_
        rotate_left
        · have hW2 := hW
          obtain ⟨⟨f0, f1, f2, f3, f4, f5, f6, f7, f8, f9, f10, f11, f12⟩, y0, y1, y2, y3⟩ := HS.out W hW2
          clear hW hW2
          go_simp
          try with_reducible rfl
        try simp only [Act.put, List.setIfInBounds_toArray, List.set_cons_zero, List.set_cons_succ]
        refine wpAnyH_take2 (i := 3) (t := 44) (v := ?_) rfl rfl (by kernel_rfl) (by kernel_rfl) (by kernel_rfl) (fun _ _ _ h => Only.not_panic h) (Or.inl ⟨by kernel_rfl, fun W hW => ?_⟩) (by assumption) ?_
        rotate_left
        · have hW2 := hW
          obtain ⟨⟨f0, f1, f2, f3, f4, f5, f6, f7, f8, f9, f10, f11, f12⟩, y0, y1, y2, y3⟩ := HS.out W hW2
          clear hW hW2
          go_simp
          try with_reducible rfl
        try simp only [Act.put, List.setIfInBounds_toArray, List.set_cons_zero, List.set_cons_succ]
        refine wpAnyH_take2 (i := 4) (t := 45) (v := ?_) rfl rfl (by kernel_rfl) (by kernel_rfl) (by kernel_rfl) (fun _ _ _ h => Only.not_panic h) (Or.inl ⟨by kernel_rfl, fun W hW => ?_⟩) (by assumption) ?_
        rotate_left
        · have hW2 := hW
          obtain ⟨⟨f0, f1, f2, f3, f4, f5, f6, f7, f8, f9, f10, f11, f12⟩, y0, y1, y2, y3⟩ := HS.out W hW2
          clear hW hW2
          go_simp
          try with_reducible rfl
        try simp only [Act.put, List.setIfInBounds_toArray, List.set_cons_zero, List.set_cons_succ]
        refine wpAnyH_take2 (i := 5) (t := 46) (v := ?_) rfl rfl (by kernel_rfl) (by kernel_rfl) (by kernel_rfl) (fun _ _ _ h => Only.not_panic h) (Or.inl ⟨by kernel_rfl, fun W hW => ?_⟩) (by assumption) ?_
        rotate_left
        · have hW2 := hW
          obtain ⟨⟨f0, f1, f2, f3, f4, f5, f6, f7, f8, f9, f10, f11, f12⟩, y0, y1, y2, y3⟩ := HS.out W hW2
          clear hW hW2
          go_simp
          try with_reducible rfl
        try simp only [Act.put, List.setIfInBounds_toArray, List.set_cons_zero, List.set_cons_succ]
        refine wpAnyH_take2 (i := 6) (t := 47) (v := ?_) rfl rfl (by kernel_rfl) (by kernel_rfl) (by kernel_rfl) (fun _ _ _ h => Only.not_panic h) (Or.inl ⟨by kernel_rfl, fun W hW => ?_⟩) (by assumption) ?_
        rotate_left
        · have hW2 := hW
          obtain ⟨⟨f0, f1, f2, f3, f4, f5, f6, f7, f8, f9, f10, f11, f12⟩, y0, y1, y2, y3⟩ := HS.out W hW2
          clear hW hW2
          go_simp
          try with_reducible rfl
        try simp only [Act.put, List.setIfInBounds_toArray, List.set_cons_zero, List.set_cons_succ]
        refine wpAnyH_take2 (i := 7) (t := 48) (v := ?_) rfl rfl (by kernel_rfl) (by kernel_rfl) (by kernel_rfl) (fun _ _ _ h => Only.not_panic h) (Or.inl ⟨by kernel_rfl, fun W hW => ?_⟩) (by assumption) ?_
        rotate_left
        · have hW2 := hW
          obtain ⟨⟨f0, f1, f2, f3, f4, f5, f6, f7, f8, f9, f10, f11, f12⟩, y0, y1, y2, y3⟩ := HS.out W hW2
          clear hW hW2
          go_simp
          try with_reducible rfl
        try simp only [Act.put, List.setIfInBounds_toArray, List.set_cons_zero, List.set_cons_succ]
        refine wpAnyH_take2 (i := 8) (t := 49) (v := ?_) rfl rfl (by kernel_rfl) (by kernel_rfl) (by kernel_rfl) (fun _ _ _ h => Only.not_panic h) (Or.inl ⟨by kernel_rfl, fun W hW => ?_⟩) (by assumption) ?_
        rotate_left
        · have hW2 := hW
          obtain ⟨⟨f0, f1, f2, f3, f4, f5, f6, f7, f8, f9, f10, f11, f12⟩, y0, y1, y2, y3⟩ := HS.out W hW2
          clear hW hW2
          go_simp
          try with_reducible rfl
        try simp only [Act.put, List.setIfInBounds_toArray, List.set_cons_zero, List.set_cons_succ]
        refine wpAnyH_ready (rs := [9, 14]) (by kernel_rfl) (by simp) ?_
        refine AllReadyH.cons rfl (fun K hK => ?_) ?_
        · go_simp
          with_reducible refine (HSp.out _).mono ?_
          rintro ev w9 ⟨rfl, hb9⟩
          try simp only []
          refine hK.out _ _ ?_ (fun hHeld => ?_)
          · exact B_trans hHeld hb9
          clear hK K
          try simp only [Act.put, List.setIfInBounds_toArray, List.set_cons_zero, List.set_cons_succ]
          refine wpAnyH_ready (rs := [10, 14]) (by kernel_rfl) (by simp) ?_
          refine AllReadyH.cons rfl (fun K hK => ?_) ?_
          · go_simp
            with_reducible refine (HGr.out _ hHeld).mono ?_
            rintro ev w10 ⟨rfl, hb10⟩
            try simp only []
            refine hK.out _ _ ?_ (fun hHeld => ?_)
            · exact B_trans hHeld hb10
            clear hK K
            try simp only [Act.put, List.setIfInBounds_toArray, List.set_cons_zero, List.set_cons_succ]
            refine wpAnyH_take2 (i := 11) (t := 40) (v := ?_) rfl rfl (by kernel_rfl) (by kernel_rfl) (by kernel_rfl) (fun _ _ _ h => Only.not_panic h) (Or.inl ⟨by kernel_rfl, fun W hW => ?_⟩) (by assumption) ?_
            rotate_left
            · have hW2 := hW
              obtain ⟨⟨f0, f1, f2, f3, f4, f5, f6, f7, f8, f9, f10, f11, f12⟩, y0, y1, y2, y3⟩ := HS.out W hW2
              clear hW hW2
              go_simp
              try with_reducible rfl
            try simp only [Act.put, List.setIfInBounds_toArray, List.set_cons_zero, List.set_cons_succ]
            refine wpAnyH_take2 (i := 12) (t := 52) (v := ?_) rfl rfl (by kernel_rfl) (by kernel_rfl) (by kernel_rfl) (fun _ _ _ h => Only.not_panic h) (Or.inl ⟨by kernel_rfl, fun W hW => ?_⟩) (by assumption) ?_
            rotate_left
            · have hW2 := hW
              obtain ⟨⟨f0, f1, f2, f3, f4, f5, f6, f7, f8, f9, f10, f11, f12⟩, y0, y1, y2, y3⟩ := HS.out W hW2
              clear hW hW2
              go_simp
              try with_reducible rfl
            try simp only [Act.put, List.setIfInBounds_toArray, List.set_cons_zero, List.set_cons_succ]
            refine wpAnyH_take2 (i := 13) (t := 53) (v := ?_) rfl rfl (by kernel_rfl) (by kernel_rfl) (by kernel_rfl) (fun _ _ _ h => Only.not_panic h) (Or.inl ⟨by kernel_rfl, fun W hW => ?_⟩) (by assumption) ?_
            rotate_left
            · have hW2 := hW
              obtain ⟨⟨f0, f1, f2, f3, f4, f5, f6, f7, f8, f9, f10, f11, f12⟩, y0, y1, y2, y3⟩ := HS.out W hW2
              clear hW hW2
              go_simp
              try with_reducible rfl
            try simp only [Act.put, List.setIfInBounds_toArray, List.set_cons_zero, List.set_cons_succ]
            refine wpAnyH_ready (rs := [14]) (by kernel_rfl) (by simp) ?_
            refine AllReadyH.cons rfl (fun K hK => ?_) ?_
            · go_simp
              have hpre := hHeld
              have o9 := Lib.hid (Ob.new (w10) #[.int .i64 0, .int .i64 0] 28)
              have hb9 := hHeld.size
              refine hK.out _ _ ?_ (fun hHeld => ?_)
              · exact B_alloc hHeld _
              clear hK K
              try simp only [Act.put, List.setIfInBounds_toArray, List.set_cons_zero, List.set_cons_succ]
              refine wpAnyH_ready (rs := [15]) (by kernel_rfl) (by simp) ?_
              refine AllReadyH.cons rfl (fun K hK => ?_) ?_
              · have v0 := o9.out.cell 0
                have v1 := o9.out.cell 1
                have g0 := o9.out.frozen 0
                have g1 := o9.out.frozen 1
                simp only [List.getElem?_toArray, List.getElem?_cons_zero, List.getElem?_cons_succ] at v0 v1
                go_simp
                refine hK.out _ _ ?_ (fun hHeld => ?_)
                · first | exact B_alloc hpre _ | exact (hHeld.setCell (by first | omega | (simp only; omega) | (simp; omega)) _).setCell (by first | omega | (simp only; omega) | (simp; omega)) _
                clear hK K
                try simp only [Act.put, List.setIfInBounds_toArray, List.set_cons_zero, List.set_cons_succ]
                refine wpAnyH_take2 (i := 16) (t := 13) (v := ?_) rfl rfl (by kernel_rfl) (by kernel_rfl) (by kernel_rfl) (fun _ _ _ h => Only.not_panic h) (Or.inl ⟨by kernel_rfl, fun W hW => ?_⟩) (by assumption) ?_
                rotate_left
                · have hW2 := hW
                  obtain ⟨⟨f0, f1, f2, f3, f4, f5, f6, f7, f8, f9, f10, f11, f12⟩, y0, y1, y2, y3⟩ := HS.out W hW2
                  clear hW hW2
                  go_simp
                  try with_reducible rfl
                try simp only [Act.put, List.setIfInBounds_toArray, List.set_cons_zero, List.set_cons_succ]
                refine wpAnyH_done (by kernel_rfl) (Only.mk ?_) _
                go_wp2_with fail
                go_meet
                first | exact ⟨_, rfl, rfl, by first | omega | exact Nat.le_refl _, Ob.new _ _ _, hHeld⟩ | exact ⟨_, rfl, rfl, by first | omega | exact Nat.le_refl _, (o9.out.set 0 _).set 1 _, hHeld⟩
              exact AllReadyH.nil
            exact AllReadyH.nil
          refine AllReadyH.cons rfl (fun K hK => ?_) ?_
          · go_simp
            have hpre := hHeld
            have o9 := Lib.hid (Ob.new (w9) #[.int .i64 0, .int .i64 0] 28)
            have hb9 := hHeld.size
            refine hK.out _ _ ?_ (fun hHeld => ?_)
            · exact B_alloc hHeld _
            clear hK K
            try simp only [Act.put, List.setIfInBounds_toArray, List.set_cons_zero, List.set_cons_succ]
            refine wpAnyH_ready (rs := [10]) (by kernel_rfl) (by simp) ?_
            refine AllReadyH.cons rfl (fun K hK => ?_) ?_
            · go_simp
              with_reducible refine (HGr.out _ hHeld).mono ?_
              rintro ev w10 ⟨rfl, hb10⟩
              try simp only []
              replace o9 := Lib.hid (o9.out.below hb10)
              refine hK.out _ _ ?_ (fun hHeld => ?_)
              · exact B_trans hHeld hb10
              clear hK K
              try simp only [Act.put, List.setIfInBounds_toArray, List.set_cons_zero, List.set_cons_succ]
              refine wpAnyH_take2 (i := 11) (t := 40) (v := ?_) rfl rfl (by kernel_rfl) (by kernel_rfl) (by kernel_rfl) (fun _ _ _ h => Only.not_panic h) (Or.inl ⟨by kernel_rfl, fun W hW => ?_⟩) (by assumption) ?_
              rotate_left
              · have hW2 := hW
                obtain ⟨⟨f0, f1, f2, f3, f4, f5, f6, f7, f8, f9, f10, f11, f12⟩, y0, y1, y2, y3⟩ := HS.out W hW2
                clear hW hW2
                go_simp
                try with_reducible rfl
              try simp only [Act.put, List.setIfInBounds_toArray, List.set_cons_zero, List.set_cons_succ]
              refine wpAnyH_take2 (i := 12) (t := 52) (v := ?_) rfl rfl (by kernel_rfl) (by kernel_rfl) (by kernel_rfl) (fun _ _ _ h => Only.not_panic h) (Or.inl ⟨by kernel_rfl, fun W hW => ?_⟩) (by assumption) ?_
              rotate_left
              · have hW2 := hW
                obtain ⟨⟨f0, f1, f2, f3, f4, f5, f6, f7, f8, f9, f10, f11, f12⟩, y0, y1, y2, y3⟩ := HS.out W hW2
                clear hW hW2
                go_simp
                try with_reducible rfl
              try simp only [Act.put, List.setIfInBounds_toArray, List.set_cons_zero, List.set_cons_succ]
              refine wpAnyH_take2 (i := 13) (t := 53) (v := ?_) rfl rfl (by kernel_rfl) (by kernel_rfl) (by kernel_rfl) (fun _ _ _ h => Only.not_panic h) (Or.inl ⟨by kernel_rfl, fun W hW => ?_⟩) (by assumption) ?_
              rotate_left
              · have hW2 := hW
                obtain ⟨⟨f0, f1, f2, f3, f4, f5, f6, f7, f8, f9, f10, f11, f12⟩, y0, y1, y2, y3⟩ := HS.out W hW2
                clear hW hW2
                go_simp
                try with_reducible rfl
              try simp only [Act.put, List.setIfInBounds_toArray, List.set_cons_zero, List.set_cons_succ]
              refine wpAnyH_ready (rs := [15]) (by kernel_rfl) (by simp) ?_
              refine AllReadyH.cons rfl (fun K hK => ?_) ?_
              · have v0 := o9.out.cell 0
                have v1 := o9.out.cell 1
                have g0 := o9.out.frozen 0
                have g1 := o9.out.frozen 1
                simp only [List.getElem?_toArray, List.getElem?_cons_zero, List.getElem?_cons_succ] at v0 v1
                go_simp
                refine hK.out _ _ ?_ (fun hHeld => ?_)
                · first | exact B_alloc hpre _ | exact (hHeld.setCell (by first | omega | (simp only; omega) | (simp; omega)) _).setCell (by first | omega | (simp only; omega) | (simp; omega)) _
                clear hK K
                try simp only [Act.put, List.setIfInBounds_toArray, List.set_cons_zero, List.set_cons_succ]
                refine wpAnyH_take2 (i := 16) (t := 13) (v := ?_) rfl rfl (by kernel_rfl) (by kernel_rfl) (by kernel_rfl) (fun _ _ _ h => Only.not_panic h) (Or.inl ⟨by kernel_rfl, fun W hW => ?_⟩) (by assumption) ?_
                rotate_left
                · have hW2 := hW
                  obtain ⟨⟨f0, f1, f2, f3, f4, f5, f6, f7, f8, f9, f10, f11, f12⟩, y0, y1, y2, y3⟩ := HS.out W hW2
                  clear hW hW2
                  go_simp
                  try with_reducible rfl
                try simp only [Act.put, List.setIfInBounds_toArray, List.set_cons_zero, List.set_cons_succ]
                refine wpAnyH_done (by kernel_rfl) (Only.mk ?_) _
                go_wp2_with fail
                go_meet
                first | exact ⟨_, rfl, rfl, by first | omega | exact Nat.le_refl _, Ob.new _ _ _, hHeld⟩ | exact ⟨_, rfl, rfl, by first | omega | exact Nat.le_refl _, (o9.out.set 0 _).set 1 _, hHeld⟩
              exact AllReadyH.nil
            exact AllReadyH.nil
          exact AllReadyH.nil
        refine AllReadyH.cons rfl (fun K hK => ?_) ?_
        · go_simp
          have o9 := Lib.hid (show Ob (wr.drew.alloc (.cells #[.int .i64 0, .int .i64 0] 28)) wr.heap.size 28 #[.int .i64 0, .int .i64 0] from Ob.new _ _ _)
          have hpre := hHeld
          refine hK.out _ _ ?_ (fun hHeld => ?_)
          · exact B_alloc hHeld _
          clear hK K
          try simp only [Act.put, List.setIfInBounds_toArray, List.set_cons_zero, List.set_cons_succ]
          refine wpAnyH_ready (rs := [9]) (by kernel_rfl) (by simp) ?_
          refine AllReadyH.cons rfl (fun K hK => ?_) ?_
          · go_simp
            with_reducible refine (HSp.out _).mono ?_
            rintro ev w9 ⟨rfl, hb9⟩
            try simp only []
            replace o9 := Lib.hid (o9.out.below hb9)
            refine hK.out _ _ ?_ (fun hHeld => ?_)
            · exact B_trans hHeld hb9
            clear hK K
            try simp only [Act.put, List.setIfInBounds_toArray, List.set_cons_zero, List.set_cons_succ]
            refine wpAnyH_ready (rs := [10]) (by kernel_rfl) (by simp) ?_
            refine AllReadyH.cons rfl (fun K hK => ?_) ?_
            · go_simp
              with_reducible refine (HGr.out _ hHeld).mono ?_
              rintro ev w10 ⟨rfl, hb10⟩
              try simp only []
              replace o9 := Lib.hid (o9.out.below hb10)
              refine hK.out _ _ ?_ (fun hHeld => ?_)
              · exact B_trans hHeld hb10
              clear hK K
              try simp only [Act.put, List.setIfInBounds_toArray, List.set_cons_zero, List.set_cons_succ]
              refine wpAnyH_take2 (i := 11) (t := 40) (v := ?_) rfl rfl (by kernel_rfl) (by kernel_rfl) (by kernel_rfl) (fun _ _ _ h => Only.not_panic h) (Or.inl ⟨by kernel_rfl, fun W hW => ?_⟩) (by assumption) ?_
              rotate_left
              · have hW2 := hW
                obtain ⟨⟨f0, f1, f2, f3, f4, f5, f6, f7, f8, f9, f10, f11, f12⟩, y0, y1, y2, y3⟩ := HS.out W hW2
                clear hW hW2
                go_simp
                try with_reducible rfl
              try simp only [Act.put, List.setIfInBounds_toArray, List.set_cons_zero, List.set_cons_succ]
              refine wpAnyH_take2 (i := 12) (t := 52) (v := ?_) rfl rfl (by kernel_rfl) (by kernel_rfl) (by kernel_rfl) (fun _ _ _ h => Only.not_panic h) (Or.inl ⟨by kernel_rfl, fun W hW => ?_⟩) (by assumption) ?_
              rotate_left
              · have hW2 := hW
                obtain ⟨⟨f0, f1, f2, f3, f4, f5, f6, f7, f8, f9, f10, f11, f12⟩, y0, y1, y2, y3⟩ := HS.out W hW2
                clear hW hW2
                go_simp
                try with_reducible rfl
              try simp only [Act.put, List.setIfInBounds_toArray, List.set_cons_zero, List.set_cons_succ]
              refine wpAnyH_take2 (i := 13) (t := 53) (v := ?_) rfl rfl (by kernel_rfl) (by kernel_rfl) (by kernel_rfl) (fun _ _ _ h => Only.not_panic h) (Or.inl ⟨by kernel_rfl, fun W hW => ?_⟩) (by assumption) ?_
              rotate_left
              · have hW2 := hW
                obtain ⟨⟨f0, f1, f2, f3, f4, f5, f6, f7, f8, f9, f10, f11, f12⟩, y0, y1, y2, y3⟩ := HS.out W hW2
                clear hW hW2
                go_simp
                try with_reducible rfl
              try simp only [Act.put, List.setIfInBounds_toArray, List.set_cons_zero, List.set_cons_succ]
              refine wpAnyH_ready (rs := [15]) (by kernel_rfl) (by simp) ?_
              refine AllReadyH.cons rfl (fun K hK => ?_) ?_
              · have v0 := o9.out.cell 0
                have v1 := o9.out.cell 1
                have g0 := o9.out.frozen 0
                have g1 := o9.out.frozen 1
                simp only [List.getElem?_toArray, List.getElem?_cons_zero, List.getElem?_cons_succ] at v0 v1
                go_simp
                refine hK.out _ _ ?_ (fun hHeld => ?_)
                · first | exact B_alloc hpre _ | exact (hHeld.setCell (by first | omega | (simp only; omega) | (simp; omega)) _).setCell (by first | omega | (simp only; omega) | (simp; omega)) _
                clear hK K
                try simp only [Act.put, List.setIfInBounds_toArray, List.set_cons_zero, List.set_cons_succ]
                refine wpAnyH_take2 (i := 16) (t := 13) (v := ?_) rfl rfl (by kernel_rfl) (by kernel_rfl) (by kernel_rfl) (fun _ _ _ h => Only.not_panic h) (Or.inl ⟨by kernel_rfl, fun W hW => ?_⟩) (by assumption) ?_
                rotate_left
                · have hW2 := hW
                  obtain ⟨⟨f0, f1, f2, f3, f4, f5, f6, f7, f8, f9, f10, f11, f12⟩, y0, y1, y2, y3⟩ := HS.out W hW2
                  clear hW hW2
                  go_simp
                  try with_reducible rfl
                try simp only [Act.put, List.setIfInBounds_toArray, List.set_cons_zero, List.set_cons_succ]
                refine wpAnyH_done (by kernel_rfl) (Only.mk ?_) _
                go_wp2_with fail
                go_meet
                first | exact ⟨_, rfl, rfl, by first | omega | exact Nat.le_refl _, Ob.new _ _ _, hHeld⟩ | exact ⟨_, rfl, rfl, by first | omega | exact Nat.le_refl _, (o9.out.set 0 _).set 1 _, hHeld⟩
              exact AllReadyH.nil
            exact AllReadyH.nil
          exact AllReadyH.nil
        exact AllReadyH.nil
      case rest =>
        clear HS HGr HSp
        obtain ⟨g, rfl, rfl, hg, oS, hbx⟩ := hcut
        have hMc := MM.out.below hbx
        have hXc := hX.below (hMc.b)
        obtain ⟨z0, z1⟩ : wc.cell? ⟨w.heap.size + 1, 0, none⟩ = some (.int .u8 x0) ∧ wc.cell? ⟨w.heap.size + 1, 1, none⟩ = some (.slice xa xn xc) := ⟨hMc.X.cell 0, hMc.X.cell 1⟩
        have hxl := hX.len
        have gX := hMc.X.lt
        have MC := Lib.hid hMc
        have OS := Lib.hid oS
        have HXc := Lib.hid hXc
        clear hMc oS hbx MM hXc
        obtain ⟨wo, rfl⟩ : ∃ wo, wo = wc := ⟨wc, rfl⟩
        obtain ⟨sb, hsb'⟩ : ∃ sb, stepB bs k = sb := ⟨_, rfl⟩
        rw [hsb'] at HP hsb
        have SN2 := SN.out
        rw [hsb'] at SN2
        replace SN := Lib.hid SN2
        have SB := Lib.hid hsb'
        clear hsb' SN2
        go_upto_if 59 with fail
        go_cut [14] (fun a wx => a = .int .u8 sb ∧ ∃ nq, wx = wo.drewN nq)
        case first =>
          rcases Nat.eq_zero_or_pos xn with h0 | h0
          · have hs0 : Hid (sb = 0) := by rw [Hid, ← SB.out]; unfold stepB; rw [if_neg (by omega)]
            subst h0
            go_wp2_with fail
            go_meet
            exact ⟨by rw [hs0.out], 0, rfl⟩
          · obtain ⟨xb, xo, rfl, hxb, hxx⟩ := HXc.out.at_ h0
            have hmod : k % xn < xn := Nat.mod_lt _ h0
            have y8 := (hxx (k % xn) hmod).1
            have hs0 : bs.getD (k % xn) 0 = sb := by rw [← SB.out]; unfold stepB; rw [if_pos (by omega), hxl]
            rw [hs0] at y8
            have p1 : (0 : Int) < xn := by omega
            have p2 : (0 : Int) ≤ (k : Int) % (xn : Int) := Int.emod_nonneg _ (by omega)
            have p3 : (k : Int) % (xn : Int) < xn := Int.emod_lt_of_pos _ p1
            have p4 : ((k : Int) % (xn : Int)).toNat = k % xn := by omega
            have p5 : ¬ (xn : Int) = 0 := by omega
            clear hs0 hxx hmod
            go_wp2_with fail
            go_quiet (fail)
            go_wp2_with fail
            go_meet
            exact ⟨rfl, _, rfl⟩
        case rest =>
          obtain ⟨rfl, nq, rfl⟩ := hcut
          obtain ⟨s0, s1, -, -⟩ := OS.out.span
          have hMd := MC.out.drewN nq
          have MD := Lib.hid hMd
          clear hMd z0 z1
          go_wp2_with fail
          refine (HP.out _).mono ?_
          rintro e w5 ⟨rfl, hb5'⟩
          have hb5 := Lib.hid hb5'
          clear hb5' s0 s1
          obtain ⟨m, hm⟩ : ∃ m, partS P sb = m := ⟨_, rfl⟩
          have SN3 := SN.out
          rw [hm] at SN3
          rw [hm]
          replace SN := Lib.hid SN3
          have M5 := Lib.hid (MD.out.below hb5.out)
          clear hm SN3
          go_wp2_with ((at_builtin; refine wpList_append_own _ rfl _ _ 46 rfl (w.heap.size + 2) 3 i3 (.int .i64 0) 1 8 Try.underlying46 I3.out.1 I3.out.2.1 I3.out.2.2.1 I3.out.2.2.2 rfl (by decide) _ _ _ rfl ((M5.out.below (B_alloc (Below.refl _ _) _)).R) ⟨w5.heap.size, 0, none⟩ 1 1 [.int .i64 m] rfl rfl ?c1 ?c2 ?c3 ?c4 ?c5 ?_))
          case c1 =>
            intro j u h
            rw [show (⟨w5.heap.size, 0, none⟩ : Addr).add j = ⟨w5.heap.size, j, none⟩ by simp [Addr.add, eq_comm]]
            rw [(Ob.new w5 #[.int .i64 m] 3).cell]
            simpa using h
          case c2 => intro u hu; simp at hu; rcases hu with rfl; rfl
          case c3 => have := LE.out; unfold maxLen; omega
          case c4 => have := LE.out; omega
          case c5 => have := M5.out.T.lt; have := M5.out.X.lt; simp; omega
          intro v' w6 hown' hgrow _
          have hM6 := Lib.hid ((M5.out.below (B_alloc (Below.refl _ _) (.cells #[.int .i64 m] 3))).add hgrow hown')
          clear hown' hgrow M5
          go_wp2_with fail
          go_roundg (t.dn - (k + 1))
          case measure => omega
          case rel =>
            refine ⟨k + 1, _, rfl, rfl, by push_cast; rfl, by omega, ?_⟩
            rw [SN.out]
            exact hM6.out
    · obtain rfl : k = t.dn := by omega
      have h1 : ¬ (t.dn : Int) < t.dn := by omega
      obtain ⟨f0, f1, f2, f3, f4, f5, f6, f7, f8, f9, f10, f11, f12⟩ := hM.T.task
      have hRw := hM.R
      rw [hlen] at hRw
      have MM := Lib.hid (And.intro hRw hM.b)
      clear hM hRw
      go_wp2_with fail
      refine bodyPost_ret (v := .tuple #[vl, .bool true]) (by simp [results, Try.results40, go_sem]) rfl ⟨vl, rfl, row_base MM.out.1 (by omega), MM.out.2⟩
end Go.Proofs.Ytanjkhclhcnnaaa

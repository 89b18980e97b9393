/- The law DecayJust. -/
import Derived.Test.YtanjkhclhcnnaaaEG
import Derived.Test.YtanjkhclhcnnaaaFC
namespace Go.Proofs.Ytanjkhclhcnnaaa
open Go.RowKit Go.Shelf

/-- The Los of the levels, so far. -/
def losN (LV : List T2) (n : Nat) : List Int := (List.range n).map fun j => (LV.getD j (0, 0)).1
theorem losN_len (LV : List T2) (n : Nat) : (losN LV n).length = n := by simp [losN]
theorem losN_at (LV : List T2) {n j : Nat} (h : j < n) : (losN LV n).getD j 0 = (LV.getD j (0, 0)).1 := by simp [losN, List.getD, h]
theorem losN_snoc (LV : List T2) (n : Nat) : losN LV (n + 1) = losN LV n ++ [(LV.getD n (0, 0)).1] := by
  unfold losN
  rw [List.range_succ, List.map_append]
  rfl
theorem sl1_set {W : World} {q n : Nat} {xs : List Int} {e : TypeId} {cur : Array Value} (hO : Ob W q e cur) (hs : n * 1 ≤ cur.size) (h : Sl1 W (some ⟨q, 0, none⟩) n xs) {j : Nat} (a : Int) (hj : j < n) : Sl1 (W.setCell ⟨q, j, none⟩ (.int .i64 a)) (some ⟨q, 0, none⟩) n (xs.set j a) := by
  obtain ⟨b, o, e1, hb, hc⟩ := h.at_ (by omega)
  cases e1
  have hl := h.len
  have h2 := hO.set j (.int .i64 a)
  refine ⟨by rw [List.length_set]; exact hl, fun _ => ⟨q, 0, rfl, h2.lt, fun i hi => ?_⟩⟩
  rw [h2.cell]
  have h3 := hc i hi
  rw [hO.cell] at h3
  rw [Nat.zero_add] at h3 ⊢
  by_cases e2 : i = j
  · subst e2
    rw [Array.getElem?_setIfInBounds_self_of_lt (by omega)]
    simp [List.getD, hl, hi]
  · rw [Array.getElem?_setIfInBounds_ne (by omega), h3]
    simp [List.getD, List.getElem?_set_ne (show j ≠ i by omega)]
theorem lv_can {n : T2} (h : CanOK n) : lvE n = 0 := by
  have h1 := h.a
  have h2 := h.b
  have h3 := h.le
  unfold lvE demandE
  simp [outB, turnB, inB]
  omega
theorem grow_span {t : TkA} {hs ws : List T2} {ds : List T4} {ts : List T3} (ok : TaskOK t hs ws ds ts) (hdl : ds.length = t.dn) {k : Nat} (hk : k < t.dn) {n : T2} (hn : CanOK n) : growF t.r hs ws (ds.getD k (0, 0, 0, 0)) n = (nextS t.r ((ds.map (strS hs ws)).getD k (0, 0)) n, 0) := by
  have h1 : dayE (ds.getD k (0, 0, 0, 0)) = 0 := firstE_all.1 ok.days k hk
  have h2 : (strengthF t.r hs ws (ds.getD k (0, 0, 0, 0))) = (strS hs ws (ds.getD k (0, 0, 0, 0)), 0) := by
    unfold strengthF
    rw [if_neg (by simpa using ok.r), if_neg (by simpa using h1)]
  have h3 := lv_can hn
  have h4 : (ds.map (strS hs ws)).getD k (0, 0) = strS hs ws (ds.getD k (0, 0, 0, 0)) := by simp [List.getD, hdl, hk]
  unfold growF
  rw [h2, h4]
  simp only
  rw [if_neg (by simp), if_neg (by simpa using h3)]
theorem two_boxes (W : World) (a b : Array Value) (T : TypeId) : Ob ((W.alloc (.cells a T)).alloc (.cells b T)) W.heap.size T a ∧ Ob ((W.alloc (.cells a T)).alloc (.cells b T)) (W.heap.size + 1) T b ∧ Below W.heap.size W ((W.alloc (.cells a T)).alloc (.cells b T)) := by
  refine ⟨(Ob.new _ _ _).alloc _, ?_, B_alloc (B_alloc (Below.refl _ _) _) _⟩
  have h := Ob.new (W.alloc (.cells a T)) b T
  simpa using h
set_option maxRecDepth 100000 in
set_option maxHeartbeats 4000000 in
theorem justLaw_bad (t : TkA) (hs ws : List T2) (ds : List T4) (ts : List T3) (by_ : Int) (w : World) (hR : TkR w t hs ws ds ts) (he : (taskS t hs ws ds ts).2.2 ≠ 0) :
    Calls Try.prog 10 #[.agg t.cs, .int .u8 by_] w fun e w' => e = .returned (.bool true) ∧ Below w.heap.size w w' := by
  obtain ⟨w0, hw0⟩ : ∃ w0, (w).alloc (.cells t.cs 31) = w0 := ⟨_, rfl⟩
  have hb0 : Below w.heap.size w w0 := by rw [← hw0]; exact B_alloc (Below.refl _ _) _
  have o0 : Ob w0 (w.heap.size) 31 t.cs := by rw [← hw0]; exact Ob.new (w) t.cs 31
  have H2 := fun W (h : Below w.heap.size w W) => levels_bad t hs ws ds ts W (hR.below h) he
  have H3 := fun W (h : Below w.heap.size w W) => refCheckTask_any t hs ws ds ts W (hR.below h)
  have HA := Lib.hid awake_any
  generalize taskS t hs ws ds ts = tr at H2 H3 he
  obtain ⟨c1, c2, c3⟩ := tr
  simp only [tri] at H2 H3 he
  replace H2 := Lib.hid H2
  replace H3 := Lib.hid H3
  have hq : (c3 != 0) = true := by simpa using he
  obtain ⟨q0, q1, q2, q3, q4, q5, q6, q7, q8, q9, q10, q11, q12⟩ := o0.task
  replace o0 := Lib.hid o0
  replace hb0 := Lib.hid hb0
  replace hw0 := Lib.hid hw0
  clear hR he
  go_enter Try.func10, Try.ntmps10
  go_wp2_with fail
  rw [hw0.out]
  refine (H2.out w0 hb0.out).mono ?_
  rintro e w1 ⟨rfl, hb1⟩
  have hw1 := Lib.hid (B_trans hb0.out hb1)
  clear q0 q1 q2 q3 q4 q5 q6 q7 q8 q9 q10 q11 q12
  obtain ⟨q0, q1, q2, q3, q4, q5, q6, q7, q8, q9, q10, q11, q12⟩ := (o0.out.below hb1).task
  clear hb1
  go_wp2_with fail
  refine (H3.out w1 hw1.out).mono ?_
  rintro e w2 ⟨rfl, hb2⟩
  have hw2 := Lib.hid (B_trans hw1.out hb2)
  clear q0 q1 q2 q3 q4 q5 q6 q7 q8 q9 q10 q11 q12 hb2
  go_wp2_with fail
  refine (HA.out _).mono ?_
  rintro e w4 ⟨rfl, hb4⟩
  have hw4 := Lib.hid (B_trans hw2.out hb4)
  clear hb4
  go_wp2
  refine bodyPost_ret (v := .bool true) (by simp [results, Try.results10, go_sem]) rfl ⟨rfl, hw4.out⟩

set_option maxRecDepth 100000 in
set_option maxHeartbeats 16000000 in
theorem justLaw_any (t : TkA) (hs ws : List T2) (ds : List T4) (ts : List T3) (by_ : Int) (w : World) (hR : TkR w t hs ws ds ts) (he : (taskS t hs ws ds ts).2.2 = 0) (hby : 0 ≤ by_ ∧ by_ ≤ 255) :
    Calls Try.prog 10 #[.agg t.cs, .int .u8 by_] w fun e w' => e = .returned (.bool true) ∧ Below w.heap.size w w' := by
  obtain ⟨w0, hw0⟩ : ∃ w0, (w).alloc (.cells t.cs 31) = w0 := ⟨_, rfl⟩
  have hb0 : Below w.heap.size w w0 := by rw [← hw0]; exact B_alloc (Below.refl _ _) _
  have o0 : Ob w0 (w.heap.size) 31 t.cs := by rw [← hw0]; exact Ob.new (w) t.cs 31
  have ok := TaskOK.of he
  have hO := RuOK.of ok.r
  have hdl := hR.d.len
  have hdn := ok.dn
  have htn := ok.tn
  have hts := tests_ok ok.tests
  have hfirst := ok.first
  have hsl := struckLen (t := t) (hs := hs) (ws := ws) (ds := ds) (ts := ts) (fun i hi => by have := hts i hi; unfold morT; omega) htn
  obtain ⟨J1, J2, J3, J4⟩ := lev_just (ts := ts) he hdl
  have H2 := fun W (h : Below w.heap.size w W) => levels3_any t hs ws ds ts W (hR.below h) he
  have H3 := fun W (h : Below w.heap.size w W) => refCheckTask_any t hs ws ds ts W (hR.below h)
  rw [show tri (taskS t hs ws ds ts) = .tuple #[.int .i64 (taskS t hs ws ds ts).1, .int .i64 (taskS t hs ws ds ts).2.1, .int .i64 (taskS t hs ws ds ts).2.2] from rfl, he] at H3
  generalize (taskS t hs ws ds ts).1 = c1 at H3
  generalize (taskS t hs ws ds ts).2.1 = c2 at H3
  have hlen := levT_len (t := t) (hs := hs) (ws := ws) (ds := ds) (ts := ts) he hdl
  generalize levT t hs ws ds ts = LV at H2 J1 J2 J3 J4 hlen
  generalize (reachT t hs ws ds ts).struck = S at H2 J4 hsl
  have HA := Lib.hid awake_any
  replace J1 := Lib.hid J1
  replace J2 := Lib.hid J2
  replace J4 := Lib.hid J4
  replace hts := Lib.hid hts
  replace hlen := Lib.hid hlen
  replace H2 := Lib.hid H2
  replace H3 := Lib.hid H3
  have hokr := Lib.hid ok.r
  have hgrow := Lib.hid (fun k (hk : k < t.dn) n (hn : CanOK n) => grow_span (k := k) (n := n) ok hdl hk hn)
  obtain ⟨q0, q1, q2, q3, q4, q5, q6, q7, q8, q9, q10, q11, q12⟩ := o0.task
  replace o0 := Lib.hid o0
  replace hb0 := Lib.hid hb0
  replace hw0 := Lib.hid hw0
  clear he ok
  obtain ⟨i3, hi3, hz3, hs3, hy3⟩ := info_parts infoInt
  have I3 := Lib.hid (And.intro hi3 (And.intro hz3 (And.intro hs3 hy3)))
  clear hi3 hz3 hs3 hy3
  go_enter Try.func10, Try.ntmps10
  go_wp2_with fail
  rw [hw0.out]
  refine (H2.out w0 hb0.out).mono ?_
  rintro e w1 ⟨la, lc, sa, sc, rfl, hLs, hSs, hb1⟩
  have hw1 := Lib.hid (B_trans hb0.out hb1)
  have O1 := Lib.hid (And.intro (o0.out.below hb1) (And.intro hLs hSs))
  clear q0 q1 q2 q3 q4 q5 q6 q7 q8 q9 q10 q11 q12 hLs hSs
  obtain ⟨q0, q1, q2, q3, q4, q5, q6, q7, q8, q9, q10, q11, q12⟩ := (o0.out.below hb1).task
  clear hb1
  go_wp2_with fail
  refine (H3.out w1 hw1.out).mono ?_
  rintro e w2 ⟨rfl, hb2⟩
  have hw2 := Lib.hid (B_trans hw1.out hb2)
  have O2 := Lib.hid (And.intro (O1.out.1.below hb2) (And.intro (O1.out.2.1.below hb2) (O1.out.2.2.below hb2)))
  clear q0 q1 q2 q3 q4 q5 q6 q7 q8 q9 q10 q11 q12 hb2 O1
  obtain ⟨q0, q1, q2, q3, q4, q5, q6, q7, q8, q9, q10, q11, q12⟩ := O2.out.1.task
  obtain ⟨lb, lo, rfl, hlb, hll⟩ := O2.out.2.1.at_ (by omega)
  obtain ⟨y1, y2⟩ := hll 0 (by omega)
  simp only [Nat.zero_mul, Nat.add_zero] at y1 y2
  obtain ⟨j1, j2⟩ := J3
  have k1 : decide ((LV.getD 0 (0, 0)).1 < t.lo) = false := by simpa using j1
  have k2 : decide (t.hi < (LV.getD 0 (0, 0)).2) = false := by simpa using j2
  have hdI : (t.dn : Int) ≤ 400 := by omega
  have hd0 : (0 : Int) ≤ t.dn := by omega
  have u1 : IntKind.i64.wrap ((t.dn : Int) + 1) = (t.dn : Int) + 1 := IntWalk.i64_in _ (by omega)
  have a1 : (0 : Int) < (t.dn : Int) + 1 := by omega
  have a2 : (0 : Int) < ((t.dn + 1 : Nat) : Int) := by omega
  have a3 : ((t.dn + 1 : Nat) : Int) = (t.dn : Int) + 1 := by push_cast; rfl
  generalize LV.getD 0 (0, 0) = lv at y1 y2 j1 j2 k1 k2
  have LL := Lib.hid hll
  clear hll
  go_wp2_with fail
  go_quiet (fail)
  clear q0 q1 q2 q3 q4 q5 q6 q7 q8 q9 q10 q11 q12 y1 y2 k1 k2 a1 a2
  go_wp2_with fail
  go_loopg [11] t.dn (fun gk iv wr => ∃ i : Nat, gk = t.dn - i ∧ iv = .int .i64 (i : Int) ∧ i ≤ t.dn ∧ Below w2.heap.size w2 wr)
  case atStart => exact ⟨0, rfl, rfl, Nat.zero_le _, below_drewN (Below.refl _ _) _⟩
  case round =>
    obtain ⟨i, rfl, rfl, hi, hbr⟩ := hrel
    have oT := O2.out.1.below hbr
    obtain ⟨q0, q1, q2, q3, q4, q5, q6, q7, q8, q9, q10, q11, q12⟩ := oT.task
    by_cases hlt : i < t.dn
    · obtain ⟨x0, x1⟩ := LL.out i (by omega)
      obtain ⟨x2, x3⟩ := LL.out (i + 1) (by omega)
      have y0 := (hbr.cell (p := ⟨lb, _, none⟩) hlb).trans x0
      have y1 := (hbr.cell (p := ⟨lb, _, none⟩) hlb).trans x1
      have y2 := (hbr.cell (p := ⟨lb, _, none⟩) hlb).trans x2
      have y3 := (hbr.cell (p := ⟨lb, _, none⟩) hlb).trans x3
      have hJ := J1.out i hlt
      have hA := J2.out i (by omega)
      have hB := J2.out (i + 1) (by omega)
      have hlbr : lb < wr.heap.size := Nat.lt_of_lt_of_le hlb hbr.size
      generalize LV.getD i (0, 0) = a at x0 x1 y0 y1 hJ hA
      generalize LV.getD (i + 1) (0, 0) = b at x2 x3 y2 y3 hJ hB
      have a1 : (0 : Int) ≤ i := by omega
      have a2 : (i : Int) < t.dn := by omega
      have a3' : (i : Int) < (t.dn : Int) + 1 := by omega
      have a4 : (i : Int) < ((t.dn + 1 : Nat) : Int) := by omega
      have a5 : (i : Int) + 1 < ((t.dn + 1 : Nat) : Int) := by omega
      have a6 : (i : Int) + 1 < (t.dn : Int) + 1 := by omega
      have a7 : ((i : Int) + 1).toNat = i + 1 := by omega
      have a8 : (0 : Int) ≤ (i : Int) + 1 := by omega
      have u5 : IntKind.i64.wrap ((i : Int) + 1) = (i : Int) + 1 := IntWalk.i64_in _ (by omega)
      have JJ := Lib.hid hJ
      have BR := Lib.hid hbr
      have OT := Lib.hid oT
      clear x0 x1 x2 x3 hJ hbr oT
      go_upto_region 10 with fail
      go_cut [12, 13] (fun p q wx => ∃ g1 g2 : Nat, p = .pointer (some ⟨g1, 0, none⟩) ∧ q = .pointer (some ⟨g2, 0, none⟩) ∧ wr.heap.size ≤ g1 ∧ wr.heap.size ≤ g2 ∧ Ob wx g1 28 #[.int .i64 a.1, .int .i64 a.2] ∧ Ob wx g2 28 #[.int .i64 b.1, .int .i64 b.2] ∧ Below wr.heap.size wr wx)
      case first =>
        go_region
        all_goals go_wp2_with fail
        all_goals go_meet
        · exact ⟨wr.heap.size, wr.heap.size + 1, rfl, rfl, Nat.le_refl _, Nat.le_succ _, (two_boxes wr _ _ _).1.drew, (two_boxes wr _ _ _).2.1.drew, (two_boxes wr _ _ _).2.2.drew⟩
        · exact ⟨wr.heap.size + 1, wr.heap.size, rfl, rfl, Nat.le_succ _, Nat.le_refl _, (two_boxes wr _ _ _).2.1.drew, (two_boxes wr _ _ _).1.drew, (two_boxes wr _ _ _).2.2.drew⟩
      case rest =>
        clear q0 q1 q2 q3 q4 q5 q6 q7 q8 q9 q10 q11 q12 y0 y1 y2 y3
        obtain ⟨g1, g2, rfl, rfl, hg1, hg2, oA, oB, hbx⟩ := hcut
        obtain ⟨s0, s1, -, -⟩ := oA.span
        obtain ⟨s2, s3, -, -⟩ := oB.span
        have c1 : ¬ a.2 < a.1 := by omega
        have c2 : ¬ b.2 < b.1 := by omega
        obtain ⟨wo, rfl⟩ : ∃ wo, wo = wc := ⟨wc, rfl⟩
        have hac : CanOK a := ⟨⟨⟨hA.1, by omega⟩, by omega, hA.2.2⟩, hA.2.1⟩
        have HP := Lib.hid (fun W' => part_any a by_ W' hac hby)
        obtain ⟨pv, hpv⟩ : ∃ pv, partS a by_ = pv := ⟨_, rfl⟩
        have HPI := Lib.hid (part_in hac hby)
        rw [hpv] at HP HPI
        have OA := Lib.hid oA
        have OB := Lib.hid oB
        have BX := Lib.hid hbx
        have HS := Lib.hid (fun (W' : World) (hh : Below wo.heap.size wo W') => (show W'.cell? ⟨g1, 0, none⟩ = some (.int .i64 a.1) ∧ W'.cell? ⟨g1, 1, none⟩ = some (.int .i64 a.2) from ⟨(oA.below hh).cell 0, (oA.below hh).cell 1⟩))
        clear hpv oA oB hbx
        go_upto_region 13 with fail
        go_cut [14] (fun v wx => ∃ g3 : Nat, v = .slice (some ⟨g3, 0, none⟩) 3 3 ∧ wo.heap.size ≤ g3 ∧ Ob wx g3 3 #[.int .i64 a.1, .int .i64 a.2, .int .i64 pv] ∧ Below wo.heap.size wo wx)
        case first =>
          refine wp_region_held' (S := fun W' => Below wo.heap.size wo W') (by kernel_rfl) ((Below.refl _ wo).drew) (fun hHeld => ?_)
          refine wpAnyH_take2 (i := 0) (t := 104) (v := ?_) rfl rfl (by kernel_rfl) (by kernel_rfl) (by kernel_rfl) (fun _ _ _ h => Only.not_panic h) (Or.inl ⟨by kernel_rfl, fun W hW => ?_⟩) (by assumption) ?_
          rotate_left
          · have hW2 := hW
            obtain ⟨s0, s1⟩ := HS.out W hW2
            clear hW hW2
            go_simp
            try with_reducible rfl
          try simp only [Act.put, List.setIfInBounds_toArray, List.set_cons_zero, List.set_cons_succ]
          refine wpAnyH_take2 (i := 1) (t := 105) (v := ?_) rfl rfl (by kernel_rfl) (by kernel_rfl) (by kernel_rfl) (fun _ _ _ h => Only.not_panic h) (Or.inl ⟨by kernel_rfl, fun W hW => ?_⟩) (by assumption) ?_
          rotate_left
          · have hW2 := hW
            obtain ⟨s0, s1⟩ := HS.out W hW2
            clear hW hW2
            go_simp
            try with_reducible rfl
          try simp only [Act.put, List.setIfInBounds_toArray, List.set_cons_zero, List.set_cons_succ]
          refine wpAnyH_take2 (i := 2) (t := 106) (v := ?_) rfl rfl (by kernel_rfl) (by kernel_rfl) (by kernel_rfl) (fun _ _ _ h => Only.not_panic h) (Or.inl ⟨by kernel_rfl, fun W hW => ?_⟩) (by assumption) ?_
          rotate_left
          · have hW2 := hW
            obtain ⟨s0, s1⟩ := HS.out W hW2
            clear hW hW2
            go_simp
            try with_reducible rfl
          try simp only [Act.put, List.setIfInBounds_toArray, List.set_cons_zero, List.set_cons_succ]
          refine wpAnyH_take2 (i := 3) (t := 107) (v := ?_) rfl rfl (by kernel_rfl) (by kernel_rfl) (by kernel_rfl) (fun _ _ _ h => Only.not_panic h) (Or.inl ⟨by kernel_rfl, fun W hW => ?_⟩) (by assumption) ?_
          rotate_left
          · have hW2 := hW
            obtain ⟨s0, s1⟩ := HS.out W hW2
            clear hW hW2
            go_simp
            try with_reducible rfl
          try simp only [Act.put, List.setIfInBounds_toArray, List.set_cons_zero, List.set_cons_succ]
          refine wpAnyH_take2 (i := 4) (t := 108) (v := ?_) rfl rfl (by kernel_rfl) (by kernel_rfl) (by kernel_rfl) (fun _ _ _ h => Only.not_panic h) (Or.inl ⟨by kernel_rfl, fun W hW => ?_⟩) (by assumption) ?_
          rotate_left
          · have hW2 := hW
            obtain ⟨s0, s1⟩ := HS.out W hW2
            clear hW hW2
            go_simp
            try with_reducible rfl
          try simp only [Act.put, List.setIfInBounds_toArray, List.set_cons_zero, List.set_cons_succ]
          refine wpAnyH_take2 (i := 5) (t := 109) (v := ?_) rfl rfl (by kernel_rfl) (by kernel_rfl) (by kernel_rfl) (fun _ _ _ h => Only.not_panic h) (Or.inl ⟨by kernel_rfl, fun W hW => ?_⟩) (by assumption) ?_
          rotate_left
          · have hW2 := hW
            obtain ⟨s0, s1⟩ := HS.out W hW2
            clear hW hW2
            go_simp
            try with_reducible rfl
          try simp only [Act.put, List.setIfInBounds_toArray, List.set_cons_zero, List.set_cons_succ]
          refine wpAnyH_ready (rs := [6]) (by kernel_rfl) (by simp) ?_
          refine AllReadyH.cons rfl (fun K hK => ?_) ?_
          · go_simp
            with_reducible refine (HP.out _).mono ?_
            rintro ev w6 ⟨rfl, hb6⟩
            try simp only []
            refine hK.out _ _ ?_ (fun hHeld => ?_)
            · exact B_trans hHeld hb6
            clear hK K
            try simp only [Act.put, List.setIfInBounds_toArray, List.set_cons_zero, List.set_cons_succ]
            refine wpAnyH_ready (rs := [7]) (by kernel_rfl) (by simp) ?_
            refine AllReadyH.cons rfl (fun K hK => ?_) ?_
            · have hpre := hHeld
              go_simp
              refine hK.out _ _ ?_ (fun hHeld => ?_)
              · exact B_alloc hHeld _
              clear hK K
              try simp only [Act.put, List.setIfInBounds_toArray, List.set_cons_zero, List.set_cons_succ]
              refine wpAnyH_take2 (i := 8) (t := 14) (v := ?_) rfl rfl (by kernel_rfl) (by kernel_rfl) (by kernel_rfl) (fun _ _ _ h => Only.not_panic h) (Or.inl ⟨by kernel_rfl, fun W hW => ?_⟩) (by assumption) ?_
              rotate_left
              · have hW2 := hW
                obtain ⟨s0, s1⟩ := HS.out W hW2
                clear hW hW2
                go_simp
                try with_reducible rfl
              try simp only [Act.put, List.setIfInBounds_toArray, List.set_cons_zero, List.set_cons_succ]
              refine wpAnyH_done (by kernel_rfl) (Only.mk ?_) _
              go_wp2_with fail
              go_meet
              exact ⟨_, rfl, hpre.size, Ob.new _ _ _, hHeld⟩
            exact AllReadyH.nil
          exact AllReadyH.nil
        case rest =>
          clear HS HP
          obtain ⟨g3, rfl, hg3, o3, hb3⟩ := hcut
          have B3 := Lib.hid (B_trans BX.out hb3)
          have OA3 := Lib.hid (OA.out.below hb3)
          have OB3 := Lib.hid (OB.out.below hb3)
          have O3 := Lib.hid o3
          clear hb3 o3 s0 s1 s2 s3
          obtain ⟨wq, rfl⟩ : ∃ wq, wq = wc := ⟨wc, rfl⟩
          obtain ⟨wn, rfl⟩ : ∃ wn, wn = wr := ⟨wr, rfl⟩
          obtain ⟨db, dO, hda', hdb, hdd⟩ := hR.d.at_ (by omega)
          obtain ⟨d0', d1', d2', d3'⟩ := hdd i hlt
          have hda := Lib.hid hda'
          have BWQ : Below w.heap.size w wq := B_trans hw2.out (B_trans BR.out B3.out)
          have HG1 := hgrow.out i hlt
          generalize ds.getD i (0, 0, 0, 0) = d at d0' d1' d2' d3' HG1
          generalize (ds.map (strS hs ws)).getD i (0, 0) = s at JJ HG1
          obtain ⟨d0, d1, d2, d3⟩ := d
          simp only at d0' d1' d2' d3'
          have D0 := Lib.hid (And.intro d0' (And.intro d1' (And.intro d2' d3')))
          have G1 := Lib.hid HG1
          have BQ := Lib.hid BWQ
          have hdbq : db < wq.heap.size := Nat.lt_of_lt_of_le hdb BWQ.size
          clear hda' hdd d0' d1' d2' d3' HG1 BWQ
          go_wp2_with fail
          go_loopg [15] 3 (fun gk kv wr => ∃ k : Nat, gk = 3 - k ∧ kv = .int .i64 (k : Int) ∧ k ≤ 3 ∧ Below wq.heap.size wq wr)
          case atStart => exact ⟨0, rfl, rfl, Nat.zero_le _, Below.refl _ _⟩
          case round =>
            obtain ⟨k, rfl, rfl, hk, hbk⟩ := hrel
            by_cases hk3 : k < 3
            · obtain ⟨n, hn1, hn2, hn3⟩ : ∃ n, wr.cell? ⟨g3, k, none⟩ = some (.int .i64 n) ∧ a.1 ≤ n ∧ n ≤ a.2 := by
                have o := O3.out.below hbk
                rcases (show k = 0 ∨ k = 1 ∨ k = 2 by omega) with rfl | rfl | rfl
                · exact ⟨_, o.cell 0, Int.le_refl _, hA.2.1⟩
                · exact ⟨_, o.cell 1, hA.2.1, Int.le_refl _⟩
                · exact ⟨_, o.cell 2, HPI.out.1, HPI.out.2⟩
              have hnb : 0 ≤ n ∧ n ≤ 1000000 := ⟨by omega, by omega⟩
              have hgk := G1.out (n, n) (one_can hnb)
              obtain ⟨P, hP⟩ : ∃ P, nextS t.r s (n, n) = P := ⟨_, rfl⟩
              have hf1 : b.1 ≤ P.2 := by rw [← hP]; exact (JJ.out.fol n hn2 hn3).1
              have hf2 : P.1 ≤ b.2 := by rw [← hP]; exact (JJ.out.fol n hn2 hn3).2
              rw [hP] at hgk
              have BWr := B_trans BQ.out hbk
              have HGr' : ∀ W', Below wr.heap.size wr W' → Calls Try.prog 23 #[.agg t.r.cs, .agg #[.int .i64 d0, .int .i64 d1, .int .i64 d2, .int .i64 d3], .agg #[.int .i64 n, .int .i64 n]] W' fun e w' => e = .returned (.tuple #[.agg #[.int .i64 P.1, .int .i64 P.2], .int .i64 0]) ∧ Below W'.heap.size W' w' := fun W' hh => by
                have h := refGrowD_any t.r hs ws (d0, d1, d2, d3) (n, n) W' (hR.r.below (B_trans BWr hh))
                rw [hgk] at h
                exact h
              have HGr := Lib.hid HGr'
              have HSp := Lib.hid (fun W' => lawSpan_any n n W')
              have oTr := O2.out.1.below (B_trans BR.out (B_trans B3.out hbk))
              have oBr := OB3.out.below hbk
              have g3l : g3 < wr.heap.size := (O3.out.below hbk).lt
              have HS := Lib.hid (fun (W' : World) (hh : Below wr.heap.size wr W') => (show (W'.cell? ⟨w.heap.size, 0, none⟩ = some (.slice t.r.ha t.r.hn t.r.hc) ∧ W'.cell? ⟨w.heap.size, 1, none⟩ = some (.slice t.r.wa t.r.wn t.r.wc) ∧ W'.cell? ⟨w.heap.size, 2, none⟩ = some (.int .i64 t.r.own) ∧ W'.cell? ⟨w.heap.size, 3, none⟩ = some (.int .i64 t.r.feed) ∧ W'.cell? ⟨w.heap.size, 4, none⟩ = some (.int .i64 t.r.g0) ∧ W'.cell? ⟨w.heap.size, 5, none⟩ = some (.int .i64 t.r.g1) ∧ W'.cell? ⟨w.heap.size, 6, none⟩ = some (.int .i64 t.r.g2) ∧ W'.cell? ⟨w.heap.size, 7, none⟩ = some (.int .i64 t.r.lost) ∧ W'.cell? ⟨w.heap.size, 8, none⟩ = some (.int .i64 t.first) ∧ W'.cell? ⟨w.heap.size, 9, none⟩ = some (.slice (some ⟨db, dO, none⟩) t.dn t.dc) ∧ W'.cell? ⟨w.heap.size, 10, none⟩ = some (.int .i64 t.lo) ∧ W'.cell? ⟨w.heap.size, 11, none⟩ = some (.int .i64 t.hi) ∧ W'.cell? ⟨w.heap.size, 12, none⟩ = some (.slice t.ta t.tn t.tc)) ∧ W'.cell? ⟨db, dO + i * 4, none⟩ = some (.int .i64 d0) ∧ W'.cell? ⟨db, dO + i * 4 + 1, none⟩ = some (.int .i64 d1) ∧ W'.cell? ⟨db, dO + i * 4 + 2, none⟩ = some (.int .i64 d2) ∧ W'.cell? ⟨db, dO + i * 4 + 3, none⟩ = some (.int .i64 d3) ∧ W'.cell? ⟨g3, k, none⟩ = some (.int .i64 n) from ⟨by have h := (oTr.below hh).task; rwa [hda.out] at h, ((B_trans BWr hh).cell (p := ⟨db, _, none⟩) hdb).trans D0.out.1, ((B_trans BWr hh).cell (p := ⟨db, _, none⟩) hdb).trans D0.out.2.1, ((B_trans BWr hh).cell (p := ⟨db, _, none⟩) hdb).trans D0.out.2.2.1, ((B_trans BWr hh).cell (p := ⟨db, _, none⟩) hdb).trans D0.out.2.2.2, (hh.cell (p := ⟨g3, _, none⟩) g3l).trans hn1⟩))
              have k1 : (0 : Int) ≤ k := by omega
              have k2 : (k : Int) < 3 := by omega
              have gTr := oTr.lt
              have OBR := Lib.hid oBr
              have BK := Lib.hid hbk
              clear HGr' hgk hP hn1 BWr oTr oBr hbk
              go_upto_region 17 with fail
              go_cut [16, 17] (fun p q wx => ∃ g : Nat, p = .pointer (some ⟨g, 0, none⟩) ∧ q = .int .i64 0 ∧ wr.heap.size ≤ g ∧ Ob wx g 28 #[.int .i64 P.1, .int .i64 P.2] ∧ Below wr.heap.size wr wx)
              case first =>
                refine wp_region_held' (S := fun W' => Below wr.heap.size wr W') (by kernel_rfl) ((Below.refl _ wr).drew) (fun hHeld => ?_)
                refine wpAnyH_take2 (i := 0) (t := 117) (v := ?_) rfl rfl (by kernel_rfl) (by kernel_rfl) (by kernel_rfl) (fun _ _ _ h => Only.not_panic h) (Or.inl ⟨by kernel_rfl, fun W hW => ?_⟩) (by assumption) ?_
                rotate_left
                · have hW2 := hW
                  obtain ⟨⟨f0, f1, f2, f3, f4, f5, f6, f7, f8, f9, f10, f11, f12⟩, y0, y1, y2, y3, y9⟩ := HS.out W hW2
                  clear hW hW2
                  go_simp
                  try with_reducible rfl
                try simp only [Act.put, List.setIfInBounds_toArray, List.set_cons_zero, List.set_cons_succ]
                refine wpAnyH_take2 (i := 1) (t := 118) (v := ?_) rfl rfl (by kernel_rfl) (by kernel_rfl) (by kernel_rfl) (fun _ _ _ h => Only.not_panic h) (Or.inl ⟨by kernel_rfl, fun W hW => ?_⟩) (by assumption) ?_
                rotate_left
                · have hW2 := hW
                  obtain ⟨⟨f0, f1, f2, f3, f4, f5, f6, f7, f8, f9, f10, f11, f12⟩, y0, y1, y2, y3, y9⟩ := HS.out W hW2
                  clear hW hW2
                  go_simp
                  try with_reducible rfl
                try simp only [Act.put, List.setIfInBounds_toArray, List.set_cons_zero, List.set_cons_succ]
                refine wpAnyH_take2 (i := 2) (t := 119) (v := ?_) rfl rfl (by kernel_rfl) (by kernel_rfl) (by kernel_rfl) (fun _ _ _ h => Only.not_panic h) (Or.inl ⟨by kernel_rfl, fun W hW => ?_⟩) (by assumption) ?_
                rotate_left
                · have hW2 := hW
                  obtain ⟨⟨f0, f1, f2, f3, f4, f5, f6, f7, f8, f9, f10, f11, f12⟩, y0, y1, y2, y3, y9⟩ := HS.out W hW2
                  clear hW hW2
                  go_simp
                  try with_reducible rfl
                try simp only [Act.put, List.setIfInBounds_toArray, List.set_cons_zero, List.set_cons_succ]
                refine wpAnyH_take2 (i := 3) (t := 120) (v := ?_) rfl rfl (by kernel_rfl) (by kernel_rfl) (by kernel_rfl) (fun _ _ _ h => Only.not_panic h) (Or.inl ⟨by kernel_rfl, fun W hW => ?_⟩) (by assumption) ?_
                rotate_left
                · have hW2 := hW
                  obtain ⟨⟨f0, f1, f2, f3, f4, f5, f6, f7, f8, f9, f10, f11, f12⟩, y0, y1, y2, y3, y9⟩ := HS.out W hW2
                  clear hW hW2
                  go_simp
                  try with_reducible rfl
                try simp only [Act.put, List.setIfInBounds_toArray, List.set_cons_zero, List.set_cons_succ]
                refine wpAnyH_take2 (i := 4) (t := 121) (v := ?_) rfl rfl (by kernel_rfl) (by kernel_rfl) (by kernel_rfl) (fun _ _ _ h => Only.not_panic h) (Or.inl ⟨by kernel_rfl, fun W hW => ?_⟩) (by assumption) ?_
                rotate_left
                · have hW2 := hW
                  obtain ⟨⟨f0, f1, f2, f3, f4, f5, f6, f7, f8, f9, f10, f11, f12⟩, y0, y1, y2, y3, y9⟩ := HS.out W hW2
                  clear hW hW2
                  go_simp
                  try with_reducible rfl
                try simp only [Act.put, List.setIfInBounds_toArray, List.set_cons_zero, List.set_cons_succ]
                refine wpAnyH_take2 (i := 5) (t := 122) (v := ?_) rfl rfl (by kernel_rfl) (by kernel_rfl) (by kernel_rfl) (fun _ _ _ h => Only.not_panic h) (Or.inl ⟨by kernel_rfl, fun W hW => ?_⟩) (by assumption) ?_
                rotate_left
                · have hW2 := hW
                  obtain ⟨⟨f0, f1, f2, f3, f4, f5, f6, f7, f8, f9, f10, f11, f12⟩, y0, y1, y2, y3, y9⟩ := HS.out W hW2
                  clear hW hW2
                  go_simp
                  try with_reducible rfl
                try simp only [Act.put, List.setIfInBounds_toArray, List.set_cons_zero, List.set_cons_succ]
                refine wpAnyH_take2 (i := 6) (t := 123) (v := ?_) rfl rfl (by kernel_rfl) (by kernel_rfl) (by kernel_rfl) (fun _ _ _ h => Only.not_panic h) (Or.inl ⟨by kernel_rfl, fun W hW => ?_⟩) (by assumption) ?_
                rotate_left
                · have hW2 := hW
                  obtain ⟨⟨f0, f1, f2, f3, f4, f5, f6, f7, f8, f9, f10, f11, f12⟩, y0, y1, y2, y3, y9⟩ := HS.out W hW2
                  clear hW hW2
                  go_simp
                  try with_reducible rfl
                try simp only [Act.put, List.setIfInBounds_toArray, List.set_cons_zero, List.set_cons_succ]
                refine wpAnyH_take2 (i := 7) (t := 124) (v := ?_) rfl rfl (by kernel_rfl) (by kernel_rfl) (by kernel_rfl) (fun _ _ _ h => Only.not_panic h) (Or.inl ⟨by kernel_rfl, fun W hW => ?_⟩) (by assumption) ?_
                rotate_left
                · have hW2 := hW
                  obtain ⟨⟨f0, f1, f2, f3, f4, f5, f6, f7, f8, f9, f10, f11, f12⟩, y0, y1, y2, y3, y9⟩ := HS.out W hW2
                  clear hW hW2
                  go_simp
                  try with_reducible rfl
                try simp only [Act.put, List.setIfInBounds_toArray, List.set_cons_zero, List.set_cons_succ]
                refine wpAnyH_take2 (i := 8) (t := 125) (v := ?_) rfl rfl (by kernel_rfl) (by kernel_rfl) (by kernel_rfl) (fun _ _ _ h => Only.not_panic h) (Or.inl ⟨by kernel_rfl, fun W hW => ?_⟩) (by assumption) ?_
                rotate_left
                · have hW2 := hW
                  obtain ⟨⟨f0, f1, f2, f3, f4, f5, f6, f7, f8, f9, f10, f11, f12⟩, y0, y1, y2, y3, y9⟩ := HS.out W hW2
                  clear hW hW2
                  go_simp
                  try with_reducible rfl
                try simp only [Act.put, List.setIfInBounds_toArray, List.set_cons_zero, List.set_cons_succ]
                refine wpAnyH_take2 (i := 9) (t := 126) (v := ?_) rfl rfl (by kernel_rfl) (by kernel_rfl) (by kernel_rfl) (fun _ _ _ h => Only.not_panic h) (Or.inl ⟨by kernel_rfl, fun W hW => ?_⟩) (by assumption) ?_
                rotate_left
                · have hW2 := hW
                  obtain ⟨⟨f0, f1, f2, f3, f4, f5, f6, f7, f8, f9, f10, f11, f12⟩, y0, y1, y2, y3, y9⟩ := HS.out W hW2
                  clear hW hW2
                  go_simp
                  try with_reducible rfl
                try simp only [Act.put, List.setIfInBounds_toArray, List.set_cons_zero, List.set_cons_succ]
                refine wpAnyH_take2 (i := 10) (t := 127) (v := ?_) rfl rfl (by kernel_rfl) (by kernel_rfl) (by kernel_rfl) (fun _ _ _ h => Only.not_panic h) (Or.inl ⟨by kernel_rfl, fun W hW => ?_⟩) (by assumption) ?_
                rotate_left
                · have hW2 := hW
                  obtain ⟨⟨f0, f1, f2, f3, f4, f5, f6, f7, f8, f9, f10, f11, f12⟩, y0, y1, y2, y3, y9⟩ := HS.out W hW2
                  clear hW hW2
                  go_simp
                  try with_reducible rfl
                try simp only [Act.put, List.setIfInBounds_toArray, List.set_cons_zero, List.set_cons_succ]
                refine wpAnyH_take2 (i := 11) (t := 128) (v := ?_) rfl rfl (by kernel_rfl) (by kernel_rfl) (by kernel_rfl) (fun _ _ _ h => Only.not_panic h) (Or.inl ⟨by kernel_rfl, fun W hW => ?_⟩) (by assumption) ?_
                rotate_left
                · have hW2 := hW
                  obtain ⟨⟨f0, f1, f2, f3, f4, f5, f6, f7, f8, f9, f10, f11, f12⟩, y0, y1, y2, y3, y9⟩ := HS.out W hW2
                  clear hW hW2
                  go_simp
                  try with_reducible rfl
                try simp only [Act.put, List.setIfInBounds_toArray, List.set_cons_zero, List.set_cons_succ]
                refine wpAnyH_take2 (i := 12) (t := 129) (v := ?_) rfl rfl (by kernel_rfl) (by kernel_rfl) (by kernel_rfl) (fun _ _ _ h => Only.not_panic h) (Or.inl ⟨by kernel_rfl, fun W hW => ?_⟩) (by assumption) ?_
                rotate_left
                · have hW2 := hW
                  obtain ⟨⟨f0, f1, f2, f3, f4, f5, f6, f7, f8, f9, f10, f11, f12⟩, y0, y1, y2, y3, y9⟩ := HS.out W hW2
                  clear hW hW2
                  go_simp
                  try with_reducible rfl
                try simp only [Act.put, List.setIfInBounds_toArray, List.set_cons_zero, List.set_cons_succ]
                refine wpAnyH_take2 (i := 13) (t := 130) (v := ?_) rfl rfl (by kernel_rfl) (by kernel_rfl) (by kernel_rfl) (fun _ _ _ h => Only.not_panic h) (Or.inl ⟨by kernel_rfl, fun W hW => ?_⟩) (by assumption) ?_
                rotate_left
                · have hW2 := hW
                  obtain ⟨⟨f0, f1, f2, f3, f4, f5, f6, f7, f8, f9, f10, f11, f12⟩, y0, y1, y2, y3, y9⟩ := HS.out W hW2
                  clear hW hW2
                  go_simp
                  try with_reducible rfl
                try simp only [Act.put, List.setIfInBounds_toArray, List.set_cons_zero, List.set_cons_succ]
                refine wpAnyH_take2 (i := 14) (t := 131) (v := ?_) rfl rfl (by kernel_rfl) (by kernel_rfl) (by kernel_rfl) (fun _ _ _ h => Only.not_panic h) (Or.inl ⟨by kernel_rfl, fun W hW => ?_⟩) (by assumption) ?_
                rotate_left
                · have hW2 := hW
                  obtain ⟨⟨f0, f1, f2, f3, f4, f5, f6, f7, f8, f9, f10, f11, f12⟩, y0, y1, y2, y3, y9⟩ := HS.out W hW2
                  clear hW hW2
                  go_simp
                  try with_reducible rfl
                try simp only [Act.put, List.setIfInBounds_toArray, List.set_cons_zero, List.set_cons_succ]
                refine wpAnyH_ready (rs := [15, 20]) (by kernel_rfl) (by simp) ?_
                refine AllReadyH.cons rfl (fun K hK => ?_) ?_
                · go_simp
                  with_reducible refine (HSp.out _).mono ?_
                  rintro ev w15 ⟨rfl, hb15⟩
                  try simp only []
                  refine hK.out _ _ ?_ (fun hHeld => ?_)
                  · exact B_trans hHeld hb15
                  clear hK K
                  try simp only [Act.put, List.setIfInBounds_toArray, List.set_cons_zero, List.set_cons_succ]
                  refine wpAnyH_ready (rs := [16, 20]) (by kernel_rfl) (by simp) ?_
                  refine AllReadyH.cons rfl (fun K hK => ?_) ?_
                  · go_simp
                    with_reducible refine (HGr.out _ hHeld).mono ?_
                    rintro ev w16 ⟨rfl, hb16⟩
                    try simp only []
                    refine hK.out _ _ ?_ (fun hHeld => ?_)
                    · exact B_trans hHeld hb16
                    clear hK K
                    try simp only [Act.put, List.setIfInBounds_toArray, List.set_cons_zero, List.set_cons_succ]
                    refine wpAnyH_take2 (i := 17) (t := 116) (v := ?_) rfl rfl (by kernel_rfl) (by kernel_rfl) (by kernel_rfl) (fun _ _ _ h => Only.not_panic h) (Or.inl ⟨by kernel_rfl, fun W hW => ?_⟩) (by assumption) ?_
                    rotate_left
                    · have hW2 := hW
                      obtain ⟨⟨f0, f1, f2, f3, f4, f5, f6, f7, f8, f9, f10, f11, f12⟩, y0, y1, y2, y3, y9⟩ := HS.out W hW2
                      clear hW hW2
                      go_simp
                      try with_reducible rfl
                    try simp only [Act.put, List.setIfInBounds_toArray, List.set_cons_zero, List.set_cons_succ]
                    refine wpAnyH_take2 (i := 18) (t := 134) (v := ?_) rfl rfl (by kernel_rfl) (by kernel_rfl) (by kernel_rfl) (fun _ _ _ h => Only.not_panic h) (Or.inl ⟨by kernel_rfl, fun W hW => ?_⟩) (by assumption) ?_
                    rotate_left
                    · have hW2 := hW
                      obtain ⟨⟨f0, f1, f2, f3, f4, f5, f6, f7, f8, f9, f10, f11, f12⟩, y0, y1, y2, y3, y9⟩ := HS.out W hW2
                      clear hW hW2
                      go_simp
                      try with_reducible rfl
                    try simp only [Act.put, List.setIfInBounds_toArray, List.set_cons_zero, List.set_cons_succ]
                    refine wpAnyH_take2 (i := 19) (t := 135) (v := ?_) rfl rfl (by kernel_rfl) (by kernel_rfl) (by kernel_rfl) (fun _ _ _ h => Only.not_panic h) (Or.inl ⟨by kernel_rfl, fun W hW => ?_⟩) (by assumption) ?_
                    rotate_left
                    · have hW2 := hW
                      obtain ⟨⟨f0, f1, f2, f3, f4, f5, f6, f7, f8, f9, f10, f11, f12⟩, y0, y1, y2, y3, y9⟩ := HS.out W hW2
                      clear hW hW2
                      go_simp
                      try with_reducible rfl
                    try simp only [Act.put, List.setIfInBounds_toArray, List.set_cons_zero, List.set_cons_succ]
                    refine wpAnyH_ready (rs := [20]) (by kernel_rfl) (by simp) ?_
                    refine AllReadyH.cons rfl (fun K hK => ?_) ?_
                    · go_simp
                      have hpre := hHeld
                      have o9 := Lib.hid (Ob.new (w16) #[.int .i64 0, .int .i64 0] 28)
                      have hb9 := hHeld.size
                      refine hK.out _ _ ?_ (fun hHeld => ?_)
                      · exact B_alloc hHeld _
                      clear hK K
                      try simp only [Act.put, List.setIfInBounds_toArray, List.set_cons_zero, List.set_cons_succ]
                      refine wpAnyH_ready (rs := [21]) (by kernel_rfl) (by simp) ?_
                      refine AllReadyH.cons rfl (fun K hK => ?_) ?_
                      · have v0 := o9.out.cell 0
                        have v1 := o9.out.cell 1
                        have g0 := o9.out.frozen 0
                        have g1 := o9.out.frozen 1
                        simp only [List.getElem?_toArray, List.getElem?_cons_zero, List.getElem?_cons_succ] at v0 v1
                        go_simp
                        refine hK.out _ _ ?_ (fun hHeld => ?_)
                        · first | exact B_alloc hpre _ | exact (hHeld.setCell (by first | omega | (simp only; omega) | (simp; omega)) _).setCell (by first | omega | (simp only; omega) | (simp; omega)) _
                        clear hK K
                        try simp only [Act.put, List.setIfInBounds_toArray, List.set_cons_zero, List.set_cons_succ]
                        refine wpAnyH_take2 (i := 22) (t := 17) (v := ?_) rfl rfl (by kernel_rfl) (by kernel_rfl) (by kernel_rfl) (fun _ _ _ h => Only.not_panic h) (Or.inl ⟨by kernel_rfl, fun W hW => ?_⟩) (by assumption) ?_
                        rotate_left
                        · have hW2 := hW
                          obtain ⟨⟨f0, f1, f2, f3, f4, f5, f6, f7, f8, f9, f10, f11, f12⟩, y0, y1, y2, y3, y9⟩ := HS.out W hW2
                          clear hW hW2
                          go_simp
                          try with_reducible rfl
                        try simp only [Act.put, List.setIfInBounds_toArray, List.set_cons_zero, List.set_cons_succ]
                        refine wpAnyH_done (by kernel_rfl) (Only.mk ?_) _
                        go_wp2_with fail
                        go_meet
                        first | exact ⟨_, rfl, rfl, by first | omega | exact Nat.le_refl _, Ob.new _ _ _, hHeld⟩ | exact ⟨_, rfl, rfl, by first | omega | exact Nat.le_refl _, (o9.out.set 0 _).set 1 _, hHeld⟩
                      exact AllReadyH.nil
                    exact AllReadyH.nil
                  refine AllReadyH.cons rfl (fun K hK => ?_) ?_
                  · go_simp
                    have hpre := hHeld
                    have o9 := Lib.hid (Ob.new (w15) #[.int .i64 0, .int .i64 0] 28)
                    have hb9 := hHeld.size
                    refine hK.out _ _ ?_ (fun hHeld => ?_)
                    · exact B_alloc hHeld _
                    clear hK K
                    try simp only [Act.put, List.setIfInBounds_toArray, List.set_cons_zero, List.set_cons_succ]
                    refine wpAnyH_ready (rs := [16]) (by kernel_rfl) (by simp) ?_
                    refine AllReadyH.cons rfl (fun K hK => ?_) ?_
                    · go_simp
                      with_reducible refine (HGr.out _ hHeld).mono ?_
                      rintro ev w16 ⟨rfl, hb16⟩
                      try simp only []
                      replace o9 := Lib.hid (o9.out.below hb16)
                      refine hK.out _ _ ?_ (fun hHeld => ?_)
                      · exact B_trans hHeld hb16
                      clear hK K
                      try simp only [Act.put, List.setIfInBounds_toArray, List.set_cons_zero, List.set_cons_succ]
                      refine wpAnyH_take2 (i := 17) (t := 116) (v := ?_) rfl rfl (by kernel_rfl) (by kernel_rfl) (by kernel_rfl) (fun _ _ _ h => Only.not_panic h) (Or.inl ⟨by kernel_rfl, fun W hW => ?_⟩) (by assumption) ?_
                      rotate_left
                      · have hW2 := hW
                        obtain ⟨⟨f0, f1, f2, f3, f4, f5, f6, f7, f8, f9, f10, f11, f12⟩, y0, y1, y2, y3, y9⟩ := HS.out W hW2
                        clear hW hW2
                        go_simp
                        try with_reducible rfl
                      try simp only [Act.put, List.setIfInBounds_toArray, List.set_cons_zero, List.set_cons_succ]
                      refine wpAnyH_take2 (i := 18) (t := 134) (v := ?_) rfl rfl (by kernel_rfl) (by kernel_rfl) (by kernel_rfl) (fun _ _ _ h => Only.not_panic h) (Or.inl ⟨by kernel_rfl, fun W hW => ?_⟩) (by assumption) ?_
                      rotate_left
                      · have hW2 := hW
                        obtain ⟨⟨f0, f1, f2, f3, f4, f5, f6, f7, f8, f9, f10, f11, f12⟩, y0, y1, y2, y3, y9⟩ := HS.out W hW2
                        clear hW hW2
                        go_simp
                        try with_reducible rfl
                      try simp only [Act.put, List.setIfInBounds_toArray, List.set_cons_zero, List.set_cons_succ]
                      refine wpAnyH_take2 (i := 19) (t := 135) (v := ?_) rfl rfl (by kernel_rfl) (by kernel_rfl) (by kernel_rfl) (fun _ _ _ h => Only.not_panic h) (Or.inl ⟨by kernel_rfl, fun W hW => ?_⟩) (by assumption) ?_
                      rotate_left
                      · have hW2 := hW
                        obtain ⟨⟨f0, f1, f2, f3, f4, f5, f6, f7, f8, f9, f10, f11, f12⟩, y0, y1, y2, y3, y9⟩ := HS.out W hW2
                        clear hW hW2
                        go_simp
                        try with_reducible rfl
                      try simp only [Act.put, List.setIfInBounds_toArray, List.set_cons_zero, List.set_cons_succ]
                      refine wpAnyH_ready (rs := [21]) (by kernel_rfl) (by simp) ?_
                      refine AllReadyH.cons rfl (fun K hK => ?_) ?_
                      · have v0 := o9.out.cell 0
                        have v1 := o9.out.cell 1
                        have g0 := o9.out.frozen 0
                        have g1 := o9.out.frozen 1
                        simp only [List.getElem?_toArray, List.getElem?_cons_zero, List.getElem?_cons_succ] at v0 v1
                        go_simp
                        refine hK.out _ _ ?_ (fun hHeld => ?_)
                        · first | exact B_alloc hpre _ | exact (hHeld.setCell (by first | omega | (simp only; omega) | (simp; omega)) _).setCell (by first | omega | (simp only; omega) | (simp; omega)) _
                        clear hK K
                        try simp only [Act.put, List.setIfInBounds_toArray, List.set_cons_zero, List.set_cons_succ]
                        refine wpAnyH_take2 (i := 22) (t := 17) (v := ?_) rfl rfl (by kernel_rfl) (by kernel_rfl) (by kernel_rfl) (fun _ _ _ h => Only.not_panic h) (Or.inl ⟨by kernel_rfl, fun W hW => ?_⟩) (by assumption) ?_
                        rotate_left
                        · have hW2 := hW
                          obtain ⟨⟨f0, f1, f2, f3, f4, f5, f6, f7, f8, f9, f10, f11, f12⟩, y0, y1, y2, y3, y9⟩ := HS.out W hW2
                          clear hW hW2
                          go_simp
                          try with_reducible rfl
                        try simp only [Act.put, List.setIfInBounds_toArray, List.set_cons_zero, List.set_cons_succ]
                        refine wpAnyH_done (by kernel_rfl) (Only.mk ?_) _
                        go_wp2_with fail
                        go_meet
                        first | exact ⟨_, rfl, rfl, by first | omega | exact Nat.le_refl _, Ob.new _ _ _, hHeld⟩ | exact ⟨_, rfl, rfl, by first | omega | exact Nat.le_refl _, (o9.out.set 0 _).set 1 _, hHeld⟩
                      exact AllReadyH.nil
                    exact AllReadyH.nil
                  exact AllReadyH.nil
                refine AllReadyH.cons rfl (fun K hK => ?_) ?_
                · go_simp
                  have o9 := Lib.hid (show Ob (wr.drew.alloc (.cells #[.int .i64 0, .int .i64 0] 28)) wr.heap.size 28 #[.int .i64 0, .int .i64 0] from Ob.new _ _ _)
                  have hpre := hHeld
                  refine hK.out _ _ ?_ (fun hHeld => ?_)
                  · exact B_alloc hHeld _
                  clear hK K
                  try simp only [Act.put, List.setIfInBounds_toArray, List.set_cons_zero, List.set_cons_succ]
                  refine wpAnyH_ready (rs := [15]) (by kernel_rfl) (by simp) ?_
                  refine AllReadyH.cons rfl (fun K hK => ?_) ?_
                  · go_simp
                    with_reducible refine (HSp.out _).mono ?_
                    rintro ev w15 ⟨rfl, hb15⟩
                    try simp only []
                    replace o9 := Lib.hid (o9.out.below hb15)
                    refine hK.out _ _ ?_ (fun hHeld => ?_)
                    · exact B_trans hHeld hb15
                    clear hK K
                    try simp only [Act.put, List.setIfInBounds_toArray, List.set_cons_zero, List.set_cons_succ]
                    refine wpAnyH_ready (rs := [16]) (by kernel_rfl) (by simp) ?_
                    refine AllReadyH.cons rfl (fun K hK => ?_) ?_
                    · go_simp
                      with_reducible refine (HGr.out _ hHeld).mono ?_
                      rintro ev w16 ⟨rfl, hb16⟩
                      try simp only []
                      replace o9 := Lib.hid (o9.out.below hb16)
                      refine hK.out _ _ ?_ (fun hHeld => ?_)
                      · exact B_trans hHeld hb16
                      clear hK K
                      try simp only [Act.put, List.setIfInBounds_toArray, List.set_cons_zero, List.set_cons_succ]
                      refine wpAnyH_take2 (i := 17) (t := 116) (v := ?_) rfl rfl (by kernel_rfl) (by kernel_rfl) (by kernel_rfl) (fun _ _ _ h => Only.not_panic h) (Or.inl ⟨by kernel_rfl, fun W hW => ?_⟩) (by assumption) ?_
                      rotate_left
                      · have hW2 := hW
                        obtain ⟨⟨f0, f1, f2, f3, f4, f5, f6, f7, f8, f9, f10, f11, f12⟩, y0, y1, y2, y3, y9⟩ := HS.out W hW2
                        clear hW hW2
                        go_simp
                        try with_reducible rfl
                      try simp only [Act.put, List.setIfInBounds_toArray, List.set_cons_zero, List.set_cons_succ]
                      refine wpAnyH_take2 (i := 18) (t := 134) (v := ?_) rfl rfl (by kernel_rfl) (by kernel_rfl) (by kernel_rfl) (fun _ _ _ h => Only.not_panic h) (Or.inl ⟨by kernel_rfl, fun W hW => ?_⟩) (by assumption) ?_
                      rotate_left
                      · have hW2 := hW
                        obtain ⟨⟨f0, f1, f2, f3, f4, f5, f6, f7, f8, f9, f10, f11, f12⟩, y0, y1, y2, y3, y9⟩ := HS.out W hW2
                        clear hW hW2
                        go_simp
                        try with_reducible rfl
                      try simp only [Act.put, List.setIfInBounds_toArray, List.set_cons_zero, List.set_cons_succ]
                      refine wpAnyH_take2 (i := 19) (t := 135) (v := ?_) rfl rfl (by kernel_rfl) (by kernel_rfl) (by kernel_rfl) (fun _ _ _ h => Only.not_panic h) (Or.inl ⟨by kernel_rfl, fun W hW => ?_⟩) (by assumption) ?_
                      rotate_left
                      · have hW2 := hW
                        obtain ⟨⟨f0, f1, f2, f3, f4, f5, f6, f7, f8, f9, f10, f11, f12⟩, y0, y1, y2, y3, y9⟩ := HS.out W hW2
                        clear hW hW2
                        go_simp
                        try with_reducible rfl
                      try simp only [Act.put, List.setIfInBounds_toArray, List.set_cons_zero, List.set_cons_succ]
                      refine wpAnyH_ready (rs := [21]) (by kernel_rfl) (by simp) ?_
                      refine AllReadyH.cons rfl (fun K hK => ?_) ?_
                      · have v0 := o9.out.cell 0
                        have v1 := o9.out.cell 1
                        have g0 := o9.out.frozen 0
                        have g1 := o9.out.frozen 1
                        simp only [List.getElem?_toArray, List.getElem?_cons_zero, List.getElem?_cons_succ] at v0 v1
                        go_simp
                        refine hK.out _ _ ?_ (fun hHeld => ?_)
                        · first | exact B_alloc hpre _ | exact (hHeld.setCell (by first | omega | (simp only; omega) | (simp; omega)) _).setCell (by first | omega | (simp only; omega) | (simp; omega)) _
                        clear hK K
                        try simp only [Act.put, List.setIfInBounds_toArray, List.set_cons_zero, List.set_cons_succ]
                        refine wpAnyH_take2 (i := 22) (t := 17) (v := ?_) rfl rfl (by kernel_rfl) (by kernel_rfl) (by kernel_rfl) (fun _ _ _ h => Only.not_panic h) (Or.inl ⟨by kernel_rfl, fun W hW => ?_⟩) (by assumption) ?_
                        rotate_left
                        · have hW2 := hW
                          obtain ⟨⟨f0, f1, f2, f3, f4, f5, f6, f7, f8, f9, f10, f11, f12⟩, y0, y1, y2, y3, y9⟩ := HS.out W hW2
                          clear hW hW2
                          go_simp
                          try with_reducible rfl
                        try simp only [Act.put, List.setIfInBounds_toArray, List.set_cons_zero, List.set_cons_succ]
                        refine wpAnyH_done (by kernel_rfl) (Only.mk ?_) _
                        go_wp2_with fail
                        go_meet
                        first | exact ⟨_, rfl, rfl, by first | omega | exact Nat.le_refl _, Ob.new _ _ _, hHeld⟩ | exact ⟨_, rfl, rfl, by first | omega | exact Nat.le_refl _, (o9.out.set 0 _).set 1 _, hHeld⟩
                      exact AllReadyH.nil
                    exact AllReadyH.nil
                  exact AllReadyH.nil
                exact AllReadyH.nil
              case rest =>
                clear HS HGr HSp
                obtain ⟨g, rfl, rfl, hg, oS, hbx⟩ := hcut
                obtain ⟨s0, s1, -, -⟩ := oS.span
                obtain ⟨s2, s3, -, -⟩ := (OBR.out.below hbx).span
                have e1 : ¬ P.2 < b.1 := by omega
                have e2 : ¬ b.2 < P.1 := by omega
                have BK2 := Lib.hid (B_trans BK.out hbx)
                clear oS hbx
                go_wp2_with fail
                go_roundg (3 - (k + 1))
                case measure => omega
                case rel => exact ⟨k + 1, rfl, by push_cast; rfl, by omega, BK2.out⟩
            · obtain rfl : k = 3 := by omega
              have hgk := G1.out a hac
              obtain ⟨P, hP⟩ : ∃ P, nextS t.r s a = P := ⟨_, rfl⟩
              have hf1 : P.1 ≤ b.1 := by rw [← hP]; exact JJ.out.lo
              have hf2 : b.2 ≤ P.2 := by rw [← hP]; exact JJ.out.hi
              rw [hP] at hgk
              have BWr := B_trans BQ.out hbk
              have HGr' : ∀ W', Below wr.heap.size wr W' → Calls Try.prog 23 #[.agg t.r.cs, .agg #[.int .i64 d0, .int .i64 d1, .int .i64 d2, .int .i64 d3], .agg #[.int .i64 a.1, .int .i64 a.2]] W' fun e w' => e = .returned (.tuple #[.agg #[.int .i64 P.1, .int .i64 P.2], .int .i64 0]) ∧ Below W'.heap.size W' w' := fun W' hh => by
                have h := refGrowD_any t.r hs ws (d0, d1, d2, d3) a W' (hR.r.below (B_trans BWr hh))
                rw [hgk] at h
                exact h
              have HGr := Lib.hid HGr'
              have oTr := O2.out.1.below (B_trans BR.out (B_trans B3.out hbk))
              have oBr := OB3.out.below hbk
              have oAr := OA3.out.below hbk
              have HS := Lib.hid (fun (W' : World) (hh : Below wr.heap.size wr W') => (show (W'.cell? ⟨w.heap.size, 0, none⟩ = some (.slice t.r.ha t.r.hn t.r.hc) ∧ W'.cell? ⟨w.heap.size, 1, none⟩ = some (.slice t.r.wa t.r.wn t.r.wc) ∧ W'.cell? ⟨w.heap.size, 2, none⟩ = some (.int .i64 t.r.own) ∧ W'.cell? ⟨w.heap.size, 3, none⟩ = some (.int .i64 t.r.feed) ∧ W'.cell? ⟨w.heap.size, 4, none⟩ = some (.int .i64 t.r.g0) ∧ W'.cell? ⟨w.heap.size, 5, none⟩ = some (.int .i64 t.r.g1) ∧ W'.cell? ⟨w.heap.size, 6, none⟩ = some (.int .i64 t.r.g2) ∧ W'.cell? ⟨w.heap.size, 7, none⟩ = some (.int .i64 t.r.lost) ∧ W'.cell? ⟨w.heap.size, 8, none⟩ = some (.int .i64 t.first) ∧ W'.cell? ⟨w.heap.size, 9, none⟩ = some (.slice (some ⟨db, dO, none⟩) t.dn t.dc) ∧ W'.cell? ⟨w.heap.size, 10, none⟩ = some (.int .i64 t.lo) ∧ W'.cell? ⟨w.heap.size, 11, none⟩ = some (.int .i64 t.hi) ∧ W'.cell? ⟨w.heap.size, 12, none⟩ = some (.slice t.ta t.tn t.tc)) ∧ W'.cell? ⟨db, dO + i * 4, none⟩ = some (.int .i64 d0) ∧ W'.cell? ⟨db, dO + i * 4 + 1, none⟩ = some (.int .i64 d1) ∧ W'.cell? ⟨db, dO + i * 4 + 2, none⟩ = some (.int .i64 d2) ∧ W'.cell? ⟨db, dO + i * 4 + 3, none⟩ = some (.int .i64 d3) ∧ W'.cell? ⟨g1, 0, none⟩ = some (.int .i64 a.1) ∧ W'.cell? ⟨g1, 1, none⟩ = some (.int .i64 a.2) from ⟨by have h := (oTr.below hh).task; rwa [hda.out] at h, ((B_trans BWr hh).cell (p := ⟨db, _, none⟩) hdb).trans D0.out.1, ((B_trans BWr hh).cell (p := ⟨db, _, none⟩) hdb).trans D0.out.2.1, ((B_trans BWr hh).cell (p := ⟨db, _, none⟩) hdb).trans D0.out.2.2.1, ((B_trans BWr hh).cell (p := ⟨db, _, none⟩) hdb).trans D0.out.2.2.2, (oAr.below hh).cell 0, (oAr.below hh).cell 1⟩))
              have e3 : ¬ (3 : Int) < 3 := by omega
              have gTr := oTr.lt
              have OBR := Lib.hid oBr
              have BK := Lib.hid hbk
              clear HGr' hgk hP BWr oTr oBr oAr hbk
              go_upto_region 20 with fail
              go_cut [18, 19] (fun p q wx => ∃ g : Nat, p = .pointer (some ⟨g, 0, none⟩) ∧ q = .int .i64 0 ∧ wr.heap.size ≤ g ∧ Ob wx g 28 #[.int .i64 P.1, .int .i64 P.2] ∧ Below wr.heap.size wr wx)
              case first =>
                refine wp_region_held' (S := fun W' => Below wr.heap.size wr W') (by kernel_rfl) ((Below.refl _ wr).drew) (fun hHeld => ?_)
                refine wpAnyH_take2 (i := 0) (t := 153) (v := ?_) rfl rfl (by kernel_rfl) (by kernel_rfl) (by kernel_rfl) (fun _ _ _ h => Only.not_panic h) (Or.inl ⟨by kernel_rfl, fun W hW => ?_⟩) (by assumption) ?_
                rotate_left
                · have hW2 := hW
                  obtain ⟨⟨f0, f1, f2, f3, f4, f5, f6, f7, f8, f9, f10, f11, f12⟩, y0, y1, y2, y3, v0, v1⟩ := HS.out W hW2
                  clear hW hW2
                  go_simp
                  try with_reducible rfl
                try simp only [Act.put, List.setIfInBounds_toArray, List.set_cons_zero, List.set_cons_succ]
                refine wpAnyH_take2 (i := 1) (t := 154) (v := ?_) rfl rfl (by kernel_rfl) (by kernel_rfl) (by kernel_rfl) (fun _ _ _ h => Only.not_panic h) (Or.inl ⟨by kernel_rfl, fun W hW => ?_⟩) (by assumption) ?_
                rotate_left
                · have hW2 := hW
                  obtain ⟨⟨f0, f1, f2, f3, f4, f5, f6, f7, f8, f9, f10, f11, f12⟩, y0, y1, y2, y3, v0, v1⟩ := HS.out W hW2
                  clear hW hW2
                  go_simp
                  try with_reducible rfl
                try simp only [Act.put, List.setIfInBounds_toArray, List.set_cons_zero, List.set_cons_succ]
                refine wpAnyH_take2 (i := 2) (t := 155) (v := ?_) rfl rfl (by kernel_rfl) (by kernel_rfl) (by kernel_rfl) (fun _ _ _ h => Only.not_panic h) (Or.inl ⟨by kernel_rfl, fun W hW => ?_⟩) (by assumption) ?_
                rotate_left
                · have hW2 := hW
                  obtain ⟨⟨f0, f1, f2, f3, f4, f5, f6, f7, f8, f9, f10, f11, f12⟩, y0, y1, y2, y3, v0, v1⟩ := HS.out W hW2
                  clear hW hW2
                  go_simp
                  try with_reducible rfl
                try simp only [Act.put, List.setIfInBounds_toArray, List.set_cons_zero, List.set_cons_succ]
                refine wpAnyH_take2 (i := 3) (t := 156) (v := ?_) rfl rfl (by kernel_rfl) (by kernel_rfl) (by kernel_rfl) (fun _ _ _ h => Only.not_panic h) (Or.inl ⟨by kernel_rfl, fun W hW => ?_⟩) (by assumption) ?_
                rotate_left
                · have hW2 := hW
                  obtain ⟨⟨f0, f1, f2, f3, f4, f5, f6, f7, f8, f9, f10, f11, f12⟩, y0, y1, y2, y3, v0, v1⟩ := HS.out W hW2
                  clear hW hW2
                  go_simp
                  try with_reducible rfl
                try simp only [Act.put, List.setIfInBounds_toArray, List.set_cons_zero, List.set_cons_succ]
                refine wpAnyH_take2 (i := 4) (t := 157) (v := ?_) rfl rfl (by kernel_rfl) (by kernel_rfl) (by kernel_rfl) (fun _ _ _ h => Only.not_panic h) (Or.inl ⟨by kernel_rfl, fun W hW => ?_⟩) (by assumption) ?_
                rotate_left
                · have hW2 := hW
                  obtain ⟨⟨f0, f1, f2, f3, f4, f5, f6, f7, f8, f9, f10, f11, f12⟩, y0, y1, y2, y3, v0, v1⟩ := HS.out W hW2
                  clear hW hW2
                  go_simp
                  try with_reducible rfl
                try simp only [Act.put, List.setIfInBounds_toArray, List.set_cons_zero, List.set_cons_succ]
                refine wpAnyH_take2 (i := 5) (t := 158) (v := ?_) rfl rfl (by kernel_rfl) (by kernel_rfl) (by kernel_rfl) (fun _ _ _ h => Only.not_panic h) (Or.inl ⟨by kernel_rfl, fun W hW => ?_⟩) (by assumption) ?_
                rotate_left
                · have hW2 := hW
                  obtain ⟨⟨f0, f1, f2, f3, f4, f5, f6, f7, f8, f9, f10, f11, f12⟩, y0, y1, y2, y3, v0, v1⟩ := HS.out W hW2
                  clear hW hW2
                  go_simp
                  try with_reducible rfl
                try simp only [Act.put, List.setIfInBounds_toArray, List.set_cons_zero, List.set_cons_succ]
                refine wpAnyH_take2 (i := 6) (t := 159) (v := ?_) rfl rfl (by kernel_rfl) (by kernel_rfl) (by kernel_rfl) (fun _ _ _ h => Only.not_panic h) (Or.inl ⟨by kernel_rfl, fun W hW => ?_⟩) (by assumption) ?_
                rotate_left
                · have hW2 := hW
                  obtain ⟨⟨f0, f1, f2, f3, f4, f5, f6, f7, f8, f9, f10, f11, f12⟩, y0, y1, y2, y3, v0, v1⟩ := HS.out W hW2
                  clear hW hW2
                  go_simp
                  try with_reducible rfl
                try simp only [Act.put, List.setIfInBounds_toArray, List.set_cons_zero, List.set_cons_succ]
                refine wpAnyH_take2 (i := 7) (t := 160) (v := ?_) rfl rfl (by kernel_rfl) (by kernel_rfl) (by kernel_rfl) (fun _ _ _ h => Only.not_panic h) (Or.inl ⟨by kernel_rfl, fun W hW => ?_⟩) (by assumption) ?_
                rotate_left
                · have hW2 := hW
                  obtain ⟨⟨f0, f1, f2, f3, f4, f5, f6, f7, f8, f9, f10, f11, f12⟩, y0, y1, y2, y3, v0, v1⟩ := HS.out W hW2
                  clear hW hW2
                  go_simp
                  try with_reducible rfl
                try simp only [Act.put, List.setIfInBounds_toArray, List.set_cons_zero, List.set_cons_succ]
                refine wpAnyH_ready (rs := [8, 12]) (by kernel_rfl) (by simp) ?_
                refine AllReadyH.cons rfl (fun K hK => ?_) ?_
                · go_simp
                  with_reducible refine (HGr.out _ hHeld).mono ?_
                  rintro ev w8 ⟨rfl, hb8⟩
                  try simp only []
                  refine hK.out _ _ ?_ (fun hHeld => ?_)
                  · exact B_trans hHeld hb8
                  clear hK K
                  try simp only [Act.put, List.setIfInBounds_toArray, List.set_cons_zero, List.set_cons_succ]
                  refine wpAnyH_take2 (i := 9) (t := 152) (v := ?_) rfl rfl (by kernel_rfl) (by kernel_rfl) (by kernel_rfl) (fun _ _ _ h => Only.not_panic h) (Or.inl ⟨by kernel_rfl, fun W hW => ?_⟩) (by assumption) ?_
                  rotate_left
                  · have hW2 := hW
                    obtain ⟨⟨f0, f1, f2, f3, f4, f5, f6, f7, f8, f9, f10, f11, f12⟩, y0, y1, y2, y3, v0, v1⟩ := HS.out W hW2
                    clear hW hW2
                    go_simp
                    try with_reducible rfl
                  try simp only [Act.put, List.setIfInBounds_toArray, List.set_cons_zero, List.set_cons_succ]
                  refine wpAnyH_take2 (i := 10) (t := 162) (v := ?_) rfl rfl (by kernel_rfl) (by kernel_rfl) (by kernel_rfl) (fun _ _ _ h => Only.not_panic h) (Or.inl ⟨by kernel_rfl, fun W hW => ?_⟩) (by assumption) ?_
                  rotate_left
                  · have hW2 := hW
                    obtain ⟨⟨f0, f1, f2, f3, f4, f5, f6, f7, f8, f9, f10, f11, f12⟩, y0, y1, y2, y3, v0, v1⟩ := HS.out W hW2
                    clear hW hW2
                    go_simp
                    try with_reducible rfl
                  try simp only [Act.put, List.setIfInBounds_toArray, List.set_cons_zero, List.set_cons_succ]
                  refine wpAnyH_take2 (i := 11) (t := 163) (v := ?_) rfl rfl (by kernel_rfl) (by kernel_rfl) (by kernel_rfl) (fun _ _ _ h => Only.not_panic h) (Or.inl ⟨by kernel_rfl, fun W hW => ?_⟩) (by assumption) ?_
                  rotate_left
                  · have hW2 := hW
                    obtain ⟨⟨f0, f1, f2, f3, f4, f5, f6, f7, f8, f9, f10, f11, f12⟩, y0, y1, y2, y3, v0, v1⟩ := HS.out W hW2
                    clear hW hW2
                    go_simp
                    try with_reducible rfl
                  try simp only [Act.put, List.setIfInBounds_toArray, List.set_cons_zero, List.set_cons_succ]
                  refine wpAnyH_ready (rs := [12]) (by kernel_rfl) (by simp) ?_
                  refine AllReadyH.cons rfl (fun K hK => ?_) ?_
                  · go_simp
                    have hpre := hHeld
                    have o9 := Lib.hid (Ob.new (w8) #[.int .i64 0, .int .i64 0] 28)
                    have hb9 := hHeld.size
                    refine hK.out _ _ ?_ (fun hHeld => ?_)
                    · exact B_alloc hHeld _
                    clear hK K
                    try simp only [Act.put, List.setIfInBounds_toArray, List.set_cons_zero, List.set_cons_succ]
                    refine wpAnyH_ready (rs := [13]) (by kernel_rfl) (by simp) ?_
                    refine AllReadyH.cons rfl (fun K hK => ?_) ?_
                    · have v0 := o9.out.cell 0
                      have v1 := o9.out.cell 1
                      have g0 := o9.out.frozen 0
                      have g1 := o9.out.frozen 1
                      simp only [List.getElem?_toArray, List.getElem?_cons_zero, List.getElem?_cons_succ] at v0 v1
                      go_simp
                      refine hK.out _ _ ?_ (fun hHeld => ?_)
                      · first | exact B_alloc hpre _ | exact (hHeld.setCell (by first | omega | (simp only; omega) | (simp; omega)) _).setCell (by first | omega | (simp only; omega) | (simp; omega)) _
                      clear hK K
                      try simp only [Act.put, List.setIfInBounds_toArray, List.set_cons_zero, List.set_cons_succ]
                      refine wpAnyH_take2 (i := 14) (t := 19) (v := ?_) rfl rfl (by kernel_rfl) (by kernel_rfl) (by kernel_rfl) (fun _ _ _ h => Only.not_panic h) (Or.inl ⟨by kernel_rfl, fun W hW => ?_⟩) (by assumption) ?_
                      rotate_left
                      · have hW2 := hW
                        obtain ⟨⟨f0, f1, f2, f3, f4, f5, f6, f7, f8, f9, f10, f11, f12⟩, y0, y1, y2, y3, v0, v1⟩ := HS.out W hW2
                        clear hW hW2
                        go_simp
                        try with_reducible rfl
                      try simp only [Act.put, List.setIfInBounds_toArray, List.set_cons_zero, List.set_cons_succ]
                      refine wpAnyH_done (by kernel_rfl) (Only.mk ?_) _
                      go_wp2_with fail
                      go_meet
                      first | exact ⟨_, rfl, rfl, by first | omega | exact Nat.le_refl _, Ob.new _ _ _, hHeld⟩ | exact ⟨_, rfl, rfl, by first | omega | exact Nat.le_refl _, (o9.out.set 0 _).set 1 _, hHeld⟩
                    exact AllReadyH.nil
                  exact AllReadyH.nil
                refine AllReadyH.cons rfl (fun K hK => ?_) ?_
                · go_simp
                  have o9 := Lib.hid (show Ob (wr.drew.alloc (.cells #[.int .i64 0, .int .i64 0] 28)) wr.heap.size 28 #[.int .i64 0, .int .i64 0] from Ob.new _ _ _)
                  have hpre := hHeld
                  refine hK.out _ _ ?_ (fun hHeld => ?_)
                  · exact B_alloc hHeld _
                  clear hK K
                  try simp only [Act.put, List.setIfInBounds_toArray, List.set_cons_zero, List.set_cons_succ]
                  refine wpAnyH_ready (rs := [8]) (by kernel_rfl) (by simp) ?_
                  refine AllReadyH.cons rfl (fun K hK => ?_) ?_
                  · go_simp
                    with_reducible refine (HGr.out _ hHeld).mono ?_
                    rintro ev w8 ⟨rfl, hb8⟩
                    try simp only []
                    replace o9 := Lib.hid (o9.out.below hb8)
                    refine hK.out _ _ ?_ (fun hHeld => ?_)
                    · exact B_trans hHeld hb8
                    clear hK K
                    try simp only [Act.put, List.setIfInBounds_toArray, List.set_cons_zero, List.set_cons_succ]
                    refine wpAnyH_take2 (i := 9) (t := 152) (v := ?_) rfl rfl (by kernel_rfl) (by kernel_rfl) (by kernel_rfl) (fun _ _ _ h => Only.not_panic h) (Or.inl ⟨by kernel_rfl, fun W hW => ?_⟩) (by assumption) ?_
                    rotate_left
                    · have hW2 := hW
                      obtain ⟨⟨f0, f1, f2, f3, f4, f5, f6, f7, f8, f9, f10, f11, f12⟩, y0, y1, y2, y3, v0, v1⟩ := HS.out W hW2
                      clear hW hW2
                      go_simp
                      try with_reducible rfl
                    try simp only [Act.put, List.setIfInBounds_toArray, List.set_cons_zero, List.set_cons_succ]
                    refine wpAnyH_take2 (i := 10) (t := 162) (v := ?_) rfl rfl (by kernel_rfl) (by kernel_rfl) (by kernel_rfl) (fun _ _ _ h => Only.not_panic h) (Or.inl ⟨by kernel_rfl, fun W hW => ?_⟩) (by assumption) ?_
                    rotate_left
                    · have hW2 := hW
                      obtain ⟨⟨f0, f1, f2, f3, f4, f5, f6, f7, f8, f9, f10, f11, f12⟩, y0, y1, y2, y3, v0, v1⟩ := HS.out W hW2
                      clear hW hW2
                      go_simp
                      try with_reducible rfl
                    try simp only [Act.put, List.setIfInBounds_toArray, List.set_cons_zero, List.set_cons_succ]
                    refine wpAnyH_take2 (i := 11) (t := 163) (v := ?_) rfl rfl (by kernel_rfl) (by kernel_rfl) (by kernel_rfl) (fun _ _ _ h => Only.not_panic h) (Or.inl ⟨by kernel_rfl, fun W hW => ?_⟩) (by assumption) ?_
                    rotate_left
                    · have hW2 := hW
                      obtain ⟨⟨f0, f1, f2, f3, f4, f5, f6, f7, f8, f9, f10, f11, f12⟩, y0, y1, y2, y3, v0, v1⟩ := HS.out W hW2
                      clear hW hW2
                      go_simp
                      try with_reducible rfl
                    try simp only [Act.put, List.setIfInBounds_toArray, List.set_cons_zero, List.set_cons_succ]
                    refine wpAnyH_ready (rs := [13]) (by kernel_rfl) (by simp) ?_
                    refine AllReadyH.cons rfl (fun K hK => ?_) ?_
                    · have v0 := o9.out.cell 0
                      have v1 := o9.out.cell 1
                      have g0 := o9.out.frozen 0
                      have g1 := o9.out.frozen 1
                      simp only [List.getElem?_toArray, List.getElem?_cons_zero, List.getElem?_cons_succ] at v0 v1
                      go_simp
                      refine hK.out _ _ ?_ (fun hHeld => ?_)
                      · first | exact B_alloc hpre _ | exact (hHeld.setCell (by first | omega | (simp only; omega) | (simp; omega)) _).setCell (by first | omega | (simp only; omega) | (simp; omega)) _
                      clear hK K
                      try simp only [Act.put, List.setIfInBounds_toArray, List.set_cons_zero, List.set_cons_succ]
                      refine wpAnyH_take2 (i := 14) (t := 19) (v := ?_) rfl rfl (by kernel_rfl) (by kernel_rfl) (by kernel_rfl) (fun _ _ _ h => Only.not_panic h) (Or.inl ⟨by kernel_rfl, fun W hW => ?_⟩) (by assumption) ?_
                      rotate_left
                      · have hW2 := hW
                        obtain ⟨⟨f0, f1, f2, f3, f4, f5, f6, f7, f8, f9, f10, f11, f12⟩, y0, y1, y2, y3, v0, v1⟩ := HS.out W hW2
                        clear hW hW2
                        go_simp
                        try with_reducible rfl
                      try simp only [Act.put, List.setIfInBounds_toArray, List.set_cons_zero, List.set_cons_succ]
                      refine wpAnyH_done (by kernel_rfl) (Only.mk ?_) _
                      go_wp2_with fail
                      go_meet
                      first | exact ⟨_, rfl, rfl, by first | omega | exact Nat.le_refl _, Ob.new _ _ _, hHeld⟩ | exact ⟨_, rfl, rfl, by first | omega | exact Nat.le_refl _, (o9.out.set 0 _).set 1 _, hHeld⟩
                    exact AllReadyH.nil
                  exact AllReadyH.nil
                exact AllReadyH.nil
              case rest =>
                clear HS HGr
                obtain ⟨g, rfl, rfl, hg, oS, hbx⟩ := hcut
                obtain ⟨s0, s1, -, -⟩ := oS.span
                obtain ⟨s2, s3, -, -⟩ := (OBR.out.below hbx).span
                have e1 : ¬ b.1 < P.1 := by omega
                have e2 : ¬ P.2 < b.2 := by omega
                have BK2 := Lib.hid (B_trans BR.out (B_trans B3.out (B_trans BK.out hbx)))
                clear oS hbx
                go_wp2_with fail
                go_roundg (t.dn - (i + 1))
                case measure => omega
                case rel => exact ⟨i + 1, rfl, by push_cast; rfl, by omega, BK2.out⟩
    · obtain rfl : i = t.dn := by omega
      have h1 : ¬ (t.dn : Int) < t.dn := by omega
      have BO := Lib.hid hbr
      clear hbr oT
      obtain ⟨wo, rfl⟩ : ∃ wo, wo = wr := ⟨wr, rfl⟩
      go_wp2_with fail
      go_loopg [20] t.tn (fun gk iv wr => ∃ i : Nat, gk = t.tn - i ∧ iv = .int .i64 (i : Int) ∧ i ≤ t.tn ∧ Below w2.heap.size w2 wr)
      case atStart => exact ⟨0, rfl, rfl, Nat.zero_le _, BO.out⟩
      case round =>
        obtain ⟨i, rfl, rfl, hi, hbr⟩ := hrel
        clear q0 q1 q2 q3 q4 q5 q6 q7 q8 q9 q10 q11 q12
        have oT := O2.out.1.below hbr
        obtain ⟨q0, q1, q2, q3, q4, q5, q6, q7, q8, q9, q10, q11, q12⟩ := oT.task
        by_cases hlt : i < t.tn
        · have hRr := hR.below (B_trans hw2.out hbr)
          obtain ⟨p, o, hta, hpl, htc⟩ := hRr.t.at_ (by omega)
          obtain ⟨y0, y1, y2⟩ := htc i hlt
          obtain ⟨⟨b1, b2⟩, ⟨b3, b4⟩, b5, b6⟩ := hts.out i hlt
          have hJ := J4.out i hlt
          have hmor2 : morT t ts i = ((ts.getD i (0, 0, 0)).1 - t.first).toNat := rfl
          have hkt2 : keepT t.r ts i = keepS t.r (ts.getD i (0, 0, 0)).2.1 (ts.getD i (0, 0, 0)).2.2 := rfl
          rw [hmor2, hkt2] at hJ
          clear hmor2 hkt2 htc
          generalize ts.getD i (0, 0, 0) = y at y0 y1 y2 b1 b2 b3 b4 b5 b6 hJ
          obtain ⟨yd, yg, ye⟩ := y
          simp only at y0 y1 y2 b1 b2 b3 b4 b5 b6 hJ
          obtain ⟨l, rfl⟩ : ∃ l : Nat, yd = t.first + l := ⟨(yd - t.first).toNat, by omega⟩
          rw [show (t.first + (l : Int) - t.first).toNat = l by omega] at hJ
          have hld : l ≤ t.dn := by omega
          have hA := J2.out l hld
          have JJ := Lib.hid hJ
          have u5 : IntKind.i64.wrap (t.first + (l : Int) - t.first) = l := by rw [show t.first + (l : Int) - t.first = l by omega]; exact IntWalk.i64_in _ (by omega)
          have a1 : (0 : Int) ≤ i := by omega
          have a2 : (i : Int) < t.tn := by omega
          have a4 : (0 : Int) ≤ l := by omega
          have a5 : (l : Int) < ((t.dn + 1 : Nat) : Int) := by omega
          have a6 : (l : Int) < (t.dn : Int) + 1 := by omega
          rw [hta] at q12
          replace hta := Lib.hid hta
          have gT := oT.lt
          have BR := Lib.hid hbr
          have HRr := Lib.hid hRr
          obtain ⟨wi, rfl⟩ : ∃ wi, wi = wr := ⟨wr, rfl⟩
          clear hJ hbr hRr
          go_wp2_with fail
          go_quiet (fail)
          clear q0 q1 q2 q3 q4 q5 q6 q7 q8 q9 q10 q11 q12
          go_wp2_with fail
          go_loopg [22, 23] (t.dn + 1) (fun gk xl nv wr => ∃ n : Nat, gk = t.dn + 1 - n ∧ nv = .int .i64 (n : Int) ∧ n ≤ t.dn + 1 ∧ wr.ownsRow wi.heap.size 3 1 xl n (intsZ (losN LV n)) ∧ Below wi.heap.size wi wr)
          case atStart => exact ⟨0, rfl, rfl, Nat.zero_le _, ⟨by simp [intsZ, losN], Or.inl ⟨rfl, rfl⟩⟩, below_drewN (Below.refl _ _) _⟩
          case round =>
            obtain ⟨n, rfl, rfl, hn, hRw, hbk⟩ := hrel
            by_cases hlt2 : n < t.dn + 1
            · obtain ⟨x0, x1⟩ := LL.out n hlt2
              have y3 := ((B_trans BR.out hbk).cell (p := ⟨lb, _, none⟩) hlb).trans x0
              have SN := Lib.hid (losN_snoc LV n)
              generalize (LV.getD n (0, 0)).1 = m at y3 SN
              have a7 : (0 : Int) ≤ n := by omega
              have a8 : (n : Int) < ((t.dn + 1 : Nat) : Int) := by omega
              have a9 : (n : Int) < (t.dn : Int) + 1 := by omega
              have hsz := hbk.size
              have S5 := Lib.hid (And.intro hRw hbk)
              clear hRw hbk x0 x1
              go_wp2_with ((at_builtin; refine wpList_append_own _ rfl _ _ 46 rfl wi.heap.size 3 i3 (.int .i64 0) 1 8 Try.underlying46 I3.out.1 I3.out.2.1 I3.out.2.2.1 I3.out.2.2.2 rfl (by decide) _ _ _ rfl (row_below S5.out.1 (B_alloc (Below.refl _ _) _)) ⟨wr.heap.size, 0, none⟩ 1 1 [.int .i64 m] rfl rfl ?c1 ?c2 ?c3 ?c4 ?c5 ?_))
              case c1 =>
                intro j u h
                rw [show (⟨wr.heap.size, 0, none⟩ : Addr).add j = ⟨wr.heap.size, j, none⟩ by simp [Addr.add, eq_comm]]
                rw [(Ob.new wr #[.int .i64 m] 3).cell]
                simpa using h
              case c2 => intro u hu; simp at hu; rcases hu with rfl; rfl
              case c3 => unfold maxLen; omega
              case c4 => omega
              case c5 => simp; omega
              intro v' w7 hown' hgrow _
              have hB1 := B_grown' (B_trans S5.out.2 (B_alloc (Below.refl _ _) (.cells #[.int .i64 m] 3))) (row_below S5.out.1 (B_alloc (Below.refl _ _) _)) hgrow
              rw [← intsZ_snoc, ← SN.out] at hown'
              have S6 := Lib.hid (And.intro hown' hB1)
              clear hown' hgrow hB1
              go_wp2_with fail
              go_roundg (t.dn + 1 - (n + 1))
              case measure => omega
              case rel => exact ⟨n + 1, rfl, by push_cast; rfl, by omega, S6.out.1, S6.out.2⟩
            · obtain rfl : n = t.dn + 1 := by omega
              have h2 : ¬ ((t.dn + 1 : Nat) : Int) < ((t.dn + 1 : Nat) : Int) := by omega
              obtain ⟨q, cap, cur, rfl, hq, hOb, hcap, -, hcs, htk⟩ := rowz_form hRw (by omega)
              have hS1 : Sl1 wr (some ⟨q, 0, none⟩) (t.dn + 1) (losN LV (t.dn + 1)) := ⟨losN_len _ _, fun _ => ⟨q, 0, rfl, hOb.lt, fun j hj => by rw [Nat.zero_add]; exact rowz_cell hOb htk (losN_len _ _) hj⟩⟩
              have hset := fun (W' : World) (hh : Below wr.heap.size wr W') (a : Int) => sl1_set (n := t.dn + 1) (hOb.below hh) (by omega) (hS1.below hh) a (j := l) (by omega)
              have hnow := rowz_cell hOb htk (losN_len LV (t.dn + 1)) (j := l) (by omega)
              have hat := losN_at LV (n := t.dn + 1) (j := l) (by omega)
              have hsel : ((losN LV (t.dn + 1)).set l (LV.getD l (0, 0)).2).getD l 0 = (LV.getD l (0, 0)).2 := by
                have := losN_len LV (t.dn + 1)
                simp [List.getD, show l < (losN LV (t.dn + 1)).length by omega]
              obtain ⟨x0, x1⟩ := LL.out l (by omega)
              have hfr := hOb.frozen l
              have hql := hOb.lt
              generalize losN LV (t.dn + 1) = ls at hS1 hset hnow hat hsel
              generalize LV.getD l (0, 0) = lv at JJ hA x0 x1 hat hsel
              have HSt' : ∀ W', Below wr.heap.size wr W' → Calls Try.prog 41 #[.slice sa S.length sc, .int .i64 (i : Int)] W' fun e w' => e = .returned (.bool (strkB S i)) ∧ Below W'.heap.size W' w' := fun W' hh =>
                (struckIs_any S sa S.length sc (i : Int) W' (O2.out.2.2.below (B_trans BR.out (B_trans hbk hh))) (by omega)).mono fun e w' ⟨h1, h2⟩ => ⟨h1, by rw [h2]; exact Below.refl _ _⟩
              have S5 := Lib.hid (And.intro hS1 (And.intro hset hbk))
              have S6 := Lib.hid (And.intro hOb (And.intro hnow hfr))
              have X1 := Lib.hid x1
              have HAT := Lib.hid (And.intro hat hsel)
              clear hRw hOb hS1 hset hbk hnow hat hsel x0 x1 hfr htk
              cases hsb : strkB S (i : Int) with
              | true =>
                rw [hsb] at HSt'
                have HST := Lib.hid HSt'
                clear HSt' hsb
                go_wp2_with fail
                refine (HST.out _ (Below.refl _ _)).mono ?_
                rintro e w6 ⟨rfl, hb6⟩
                have B6 := Lib.hid (B_trans BR.out (B_trans S5.out.2.2 hb6))
                clear hb6
                go_wp2_with fail
                go_roundg (t.tn - (i + 1))
                case measure => omega
                case rel => exact ⟨i + 1, rfl, by push_cast; rfl, by omega, B6.out⟩
              | false =>
                rw [hsb] at HSt'
                have HST := Lib.hid HSt'
                have JI := Lib.hid (JJ.out hsb)
                clear HSt' hsb
                go_wp2_with fail
                refine (HST.out _ (Below.refl _ _)).mono ?_
                rintro e w6 ⟨rfl, hb6⟩
                have B6 := Lib.hid (B_trans S5.out.2.2 hb6)
                have C6 := Lib.hid hb6
                clear hb6
                have HS := Lib.hid (fun (W' : World) (hh : Below w6.heap.size w6 W') => (show (W'.cell? ⟨w.heap.size, 0, none⟩ = some (.slice t.r.ha t.r.hn t.r.hc) ∧ W'.cell? ⟨w.heap.size, 1, none⟩ = some (.slice t.r.wa t.r.wn t.r.wc) ∧ W'.cell? ⟨w.heap.size, 2, none⟩ = some (.int .i64 t.r.own) ∧ W'.cell? ⟨w.heap.size, 3, none⟩ = some (.int .i64 t.r.feed) ∧ W'.cell? ⟨w.heap.size, 4, none⟩ = some (.int .i64 t.r.g0) ∧ W'.cell? ⟨w.heap.size, 5, none⟩ = some (.int .i64 t.r.g1) ∧ W'.cell? ⟨w.heap.size, 6, none⟩ = some (.int .i64 t.r.g2) ∧ W'.cell? ⟨w.heap.size, 7, none⟩ = some (.int .i64 t.r.lost) ∧ W'.cell? ⟨w.heap.size, 8, none⟩ = some (.int .i64 t.first) ∧ W'.cell? ⟨w.heap.size, 9, none⟩ = some (.slice t.da t.dn t.dc) ∧ W'.cell? ⟨w.heap.size, 10, none⟩ = some (.int .i64 t.lo) ∧ W'.cell? ⟨w.heap.size, 11, none⟩ = some (.int .i64 t.hi) ∧ W'.cell? ⟨w.heap.size, 12, none⟩ = some (.slice (some ⟨p, o, none⟩) t.tn t.tc)) ∧ W'.cell? ⟨p, o + i * 3, none⟩ = some (.int .i64 (t.first + (l : Int))) ∧ W'.cell? ⟨p, o + i * 3 + 1, none⟩ = some (.int .i64 yg) ∧ W'.cell? ⟨p, o + i * 3 + 2, none⟩ = some (.int .i64 ye) from ⟨by have h := (oT.below (B_trans B6.out hh)).task; rwa [hta.out] at h, ((B_trans B6.out hh).cell (p := ⟨p, _, none⟩) hpl).trans y0, ((B_trans B6.out hh).cell (p := ⟨p, _, none⟩) hpl).trans y1, ((B_trans B6.out hh).cell (p := ⟨p, _, none⟩) hpl).trans y2⟩))
                have HK : ∀ W', Below w6.heap.size w6 W' → Calls Try.prog 42 #[.agg #[.slice t.r.ha t.r.hn t.r.hc, .slice t.r.wa t.r.wn t.r.wc, .int .i64 t.r.own, .int .i64 t.r.feed, .int .i64 t.r.g0, .int .i64 t.r.g1, .int .i64 t.r.g2, .int .i64 t.r.lost, .int .i64 t.first, .slice t.da t.dn t.dc, .int .i64 t.lo, .int .i64 t.hi, .slice (some ⟨p, o, none⟩) t.tn t.tc], .slice (some ⟨q, 0, none⟩) (t.dn + 1) cap, .agg #[.int .i64 (t.first + (l : Int)), .int .i64 yg, .int .i64 ye]] W' fun e w' => e = .returned (.bool true) ∧ Below W'.heap.size W' w' := fun W' hh => by
                  have h := keeps_any t hs ws ds ts (some ⟨q, 0, none⟩) (t.dn + 1) cap ls l yg ye W' (HRr.out.below (B_trans B6.out hh)) hokr.out (S5.out.1.below (B_trans C6.out hh)) (by omega) (by omega) (by rw [HAT.out.1]; exact ⟨hA.1, by omega⟩) ⟨b3, b4⟩ ⟨b5, b6⟩
                  rw [HAT.out.1, show inB lv.1 (keepS t.r yg ye).1 (keepS t.r yg ye).2 = true from inB_iff.2 JI.out.1] at h
                  rw [← hta.out]
                  exact h
                have HKE := Lib.hid HK
                clear HK
                go_upto_region 33 with fail
                go_cut [24] (fun v wx => v = .bool true ∧ Below w6.heap.size w6 wx)
                case first =>
                  refine wp_region_held' (S := fun W' => Below w6.heap.size w6 W') (by kernel_rfl) ((Below.refl _ w6).drew) (fun hHeld => ?_)
                  refine wpAnyH_take2 (i := 0) (t := 213) (v := ?_) rfl rfl (by kernel_rfl) (by kernel_rfl) (by kernel_rfl) (fun _ _ _ h => Only.not_panic h) (Or.inl ⟨by kernel_rfl, fun W hW => ?_⟩) (by assumption) ?_
                  rotate_left
                  · have hW2 := hW
                    obtain ⟨⟨f0, f1, f2, f3, f4, f5, f6, f7, f8, f9, f10, f11, f12⟩, y0, y1, y2⟩ := HS.out W hW2
                    clear hW hW2
                    go_simp
                    try with_reducible rfl
                  try simp only [Act.put, List.setIfInBounds_toArray, List.set_cons_zero, List.set_cons_succ]
                  refine wpAnyH_take2 (i := 1) (t := 214) (v := ?_) rfl rfl (by kernel_rfl) (by kernel_rfl) (by kernel_rfl) (fun _ _ _ h => Only.not_panic h) (Or.inl ⟨by kernel_rfl, fun W hW => ?_⟩) (by assumption) ?_
                  rotate_left
                  · have hW2 := hW
                    obtain ⟨⟨f0, f1, f2, f3, f4, f5, f6, f7, f8, f9, f10, f11, f12⟩, y0, y1, y2⟩ := HS.out W hW2
                    clear hW hW2
                    go_simp
                    try with_reducible rfl
                  try simp only [Act.put, List.setIfInBounds_toArray, List.set_cons_zero, List.set_cons_succ]
                  refine wpAnyH_take2 (i := 2) (t := 215) (v := ?_) rfl rfl (by kernel_rfl) (by kernel_rfl) (by kernel_rfl) (fun _ _ _ h => Only.not_panic h) (Or.inl ⟨by kernel_rfl, fun W hW => ?_⟩) (by assumption) ?_
                  rotate_left
                  · have hW2 := hW
                    obtain ⟨⟨f0, f1, f2, f3, f4, f5, f6, f7, f8, f9, f10, f11, f12⟩, y0, y1, y2⟩ := HS.out W hW2
                    clear hW hW2
                    go_simp
                    try with_reducible rfl
                  try simp only [Act.put, List.setIfInBounds_toArray, List.set_cons_zero, List.set_cons_succ]
                  refine wpAnyH_take2 (i := 3) (t := 216) (v := ?_) rfl rfl (by kernel_rfl) (by kernel_rfl) (by kernel_rfl) (fun _ _ _ h => Only.not_panic h) (Or.inl ⟨by kernel_rfl, fun W hW => ?_⟩) (by assumption) ?_
                  rotate_left
                  · have hW2 := hW
                    obtain ⟨⟨f0, f1, f2, f3, f4, f5, f6, f7, f8, f9, f10, f11, f12⟩, y0, y1, y2⟩ := HS.out W hW2
                    clear hW hW2
                    go_simp
                    try with_reducible rfl
                  try simp only [Act.put, List.setIfInBounds_toArray, List.set_cons_zero, List.set_cons_succ]
                  refine wpAnyH_take2 (i := 4) (t := 217) (v := ?_) rfl rfl (by kernel_rfl) (by kernel_rfl) (by kernel_rfl) (fun _ _ _ h => Only.not_panic h) (Or.inl ⟨by kernel_rfl, fun W hW => ?_⟩) (by assumption) ?_
                  rotate_left
                  · have hW2 := hW
                    obtain ⟨⟨f0, f1, f2, f3, f4, f5, f6, f7, f8, f9, f10, f11, f12⟩, y0, y1, y2⟩ := HS.out W hW2
                    clear hW hW2
                    go_simp
                    try with_reducible rfl
                  try simp only [Act.put, List.setIfInBounds_toArray, List.set_cons_zero, List.set_cons_succ]
                  refine wpAnyH_take2 (i := 5) (t := 218) (v := ?_) rfl rfl (by kernel_rfl) (by kernel_rfl) (by kernel_rfl) (fun _ _ _ h => Only.not_panic h) (Or.inl ⟨by kernel_rfl, fun W hW => ?_⟩) (by assumption) ?_
                  rotate_left
                  · have hW2 := hW
                    obtain ⟨⟨f0, f1, f2, f3, f4, f5, f6, f7, f8, f9, f10, f11, f12⟩, y0, y1, y2⟩ := HS.out W hW2
                    clear hW hW2
                    go_simp
                    try with_reducible rfl
                  try simp only [Act.put, List.setIfInBounds_toArray, List.set_cons_zero, List.set_cons_succ]
                  refine wpAnyH_take2 (i := 6) (t := 219) (v := ?_) rfl rfl (by kernel_rfl) (by kernel_rfl) (by kernel_rfl) (fun _ _ _ h => Only.not_panic h) (Or.inl ⟨by kernel_rfl, fun W hW => ?_⟩) (by assumption) ?_
                  rotate_left
                  · have hW2 := hW
                    obtain ⟨⟨f0, f1, f2, f3, f4, f5, f6, f7, f8, f9, f10, f11, f12⟩, y0, y1, y2⟩ := HS.out W hW2
                    clear hW hW2
                    go_simp
                    try with_reducible rfl
                  try simp only [Act.put, List.setIfInBounds_toArray, List.set_cons_zero, List.set_cons_succ]
                  refine wpAnyH_ready (rs := [7]) (by kernel_rfl) (by simp) ?_
                  refine AllReadyH.cons rfl (fun K hK => ?_) ?_
                  · go_simp
                    with_reducible refine (HKE.out _ hHeld).mono ?_
                    rintro ev w7 ⟨rfl, hb7⟩
                    try simp only []
                    refine hK.out _ _ ?_ (fun hHeld => ?_)
                    · exact B_trans hHeld hb7
                    clear hK K
                    try simp only [Act.put, List.setIfInBounds_toArray, List.set_cons_zero, List.set_cons_succ]
                    refine wpAnyH_take2 (i := 8) (t := 24) (v := ?_) rfl rfl (by kernel_rfl) (by kernel_rfl) (by kernel_rfl) (fun _ _ _ h => Only.not_panic h) (Or.inl ⟨by kernel_rfl, fun W hW => ?_⟩) (by assumption) ?_
                    rotate_left
                    · have hW2 := hW
                      obtain ⟨⟨f0, f1, f2, f3, f4, f5, f6, f7, f8, f9, f10, f11, f12⟩, y0, y1, y2⟩ := HS.out W hW2
                      clear hW hW2
                      go_simp
                      try with_reducible rfl
                    try simp only [Act.put, List.setIfInBounds_toArray, List.set_cons_zero, List.set_cons_succ]
                    refine wpAnyH_done (by kernel_rfl) (Only.mk ?_) _
                    go_wp2_with fail
                    go_meet
                    exact ⟨rfl, hHeld⟩
                  exact AllReadyH.nil
                case rest =>
                  clear HS HKE
                  obtain ⟨rfl, hbx⟩ := hcut
                  have C8 := B_trans C6.out hbx
                  have o8 := S6.out.1.below C8
                  have z0 := o8.cell l
                  rw [← S6.out.1.cell, S6.out.2.1] at z0
                  have z1 := o8.frozen l
                  have z2 := (((B_trans BR.out (B_trans S5.out.2.2 C8))).cell (p := ⟨lb, _, none⟩) hlb).trans X1.out
                  obtain ⟨w8, hw8⟩ : ∃ w8, wc.setCell ⟨q, l, none⟩ (.int .i64 lv.2) = w8 := ⟨_, rfl⟩
                  have D8 : Below wi.heap.size wi w8 := by rw [← hw8]; exact (B_trans S5.out.2.2 C8).setCell hq _
                  have S8 : Sl1 w8 (some ⟨q, 0, none⟩) (t.dn + 1) (ls.set l lv.2) := by rw [← hw8]; exact S5.out.2.1 _ C8 lv.2
                  have E8 := Lib.hid D8
                  have F8 := Lib.hid S8
                  have W8 := Lib.hid hw8
                  clear hbx C8 o8 D8 S8 hw8
                  have HS := Lib.hid (fun (W' : World) (hh : Below w8.heap.size w8 W') => (show (W'.cell? ⟨w.heap.size, 0, none⟩ = some (.slice t.r.ha t.r.hn t.r.hc) ∧ W'.cell? ⟨w.heap.size, 1, none⟩ = some (.slice t.r.wa t.r.wn t.r.wc) ∧ W'.cell? ⟨w.heap.size, 2, none⟩ = some (.int .i64 t.r.own) ∧ W'.cell? ⟨w.heap.size, 3, none⟩ = some (.int .i64 t.r.feed) ∧ W'.cell? ⟨w.heap.size, 4, none⟩ = some (.int .i64 t.r.g0) ∧ W'.cell? ⟨w.heap.size, 5, none⟩ = some (.int .i64 t.r.g1) ∧ W'.cell? ⟨w.heap.size, 6, none⟩ = some (.int .i64 t.r.g2) ∧ W'.cell? ⟨w.heap.size, 7, none⟩ = some (.int .i64 t.r.lost) ∧ W'.cell? ⟨w.heap.size, 8, none⟩ = some (.int .i64 t.first) ∧ W'.cell? ⟨w.heap.size, 9, none⟩ = some (.slice t.da t.dn t.dc) ∧ W'.cell? ⟨w.heap.size, 10, none⟩ = some (.int .i64 t.lo) ∧ W'.cell? ⟨w.heap.size, 11, none⟩ = some (.int .i64 t.hi) ∧ W'.cell? ⟨w.heap.size, 12, none⟩ = some (.slice (some ⟨p, o, none⟩) t.tn t.tc)) ∧ W'.cell? ⟨p, o + i * 3, none⟩ = some (.int .i64 (t.first + (l : Int))) ∧ W'.cell? ⟨p, o + i * 3 + 1, none⟩ = some (.int .i64 yg) ∧ W'.cell? ⟨p, o + i * 3 + 2, none⟩ = some (.int .i64 ye) from ⟨by have h := (oT.below (B_trans E8.out hh)).task; rwa [hta.out] at h, ((B_trans E8.out hh).cell (p := ⟨p, _, none⟩) hpl).trans y0, ((B_trans E8.out hh).cell (p := ⟨p, _, none⟩) hpl).trans y1, ((B_trans E8.out hh).cell (p := ⟨p, _, none⟩) hpl).trans y2⟩))
                  have HK : ∀ W', Below w8.heap.size w8 W' → Calls Try.prog 42 #[.agg #[.slice t.r.ha t.r.hn t.r.hc, .slice t.r.wa t.r.wn t.r.wc, .int .i64 t.r.own, .int .i64 t.r.feed, .int .i64 t.r.g0, .int .i64 t.r.g1, .int .i64 t.r.g2, .int .i64 t.r.lost, .int .i64 t.first, .slice t.da t.dn t.dc, .int .i64 t.lo, .int .i64 t.hi, .slice (some ⟨p, o, none⟩) t.tn t.tc], .slice (some ⟨q, 0, none⟩) (t.dn + 1) cap, .agg #[.int .i64 (t.first + (l : Int)), .int .i64 yg, .int .i64 ye]] W' fun e w' => e = .returned (.bool true) ∧ Below W'.heap.size W' w' := fun W' hh => by
                    have h := keeps_any t hs ws ds ts (some ⟨q, 0, none⟩) (t.dn + 1) cap (ls.set l lv.2) l yg ye W' (HRr.out.below (B_trans E8.out hh)) hokr.out (F8.out.below hh) (by omega) (by omega) (by rw [HAT.out.2]; exact ⟨by omega, hA.2.2⟩) ⟨b3, b4⟩ ⟨b5, b6⟩
                    rw [HAT.out.2, show inB lv.2 (keepS t.r yg ye).1 (keepS t.r yg ye).2 = true from inB_iff.2 JI.out.2] at h
                    rw [← hta.out]
                    exact h
                  have HKE := Lib.hid HK
                  clear HK
                  go_upto_region 35 with fail
                  rw [W8.out]
                  clear z0 z1 z2
                  go_cut [241] (fun v wx => v = .bool false ∧ Below w8.heap.size w8 wx)
                  case first =>
                    refine wp_region_held' (S := fun W' => Below w8.heap.size w8 W') (by kernel_rfl) ((Below.refl _ w8).drew) (fun hHeld => ?_)
                    refine wpAnyH_take2 (i := 0) (t := 229) (v := ?_) rfl rfl (by kernel_rfl) (by kernel_rfl) (by kernel_rfl) (fun _ _ _ h => Only.not_panic h) (Or.inl ⟨by kernel_rfl, fun W hW => ?_⟩) (by assumption) ?_
                    rotate_left
                    · have hW2 := hW
                      obtain ⟨⟨f0, f1, f2, f3, f4, f5, f6, f7, f8, f9, f10, f11, f12⟩, y0, y1, y2⟩ := HS.out W hW2
                      clear hW hW2
                      go_simp
                      try with_reducible rfl
                    try simp only [Act.put, List.setIfInBounds_toArray, List.set_cons_zero, List.set_cons_succ]
                    refine wpAnyH_take2 (i := 1) (t := 230) (v := ?_) rfl rfl (by kernel_rfl) (by kernel_rfl) (by kernel_rfl) (fun _ _ _ h => Only.not_panic h) (Or.inl ⟨by kernel_rfl, fun W hW => ?_⟩) (by assumption) ?_
                    rotate_left
                    · have hW2 := hW
                      obtain ⟨⟨f0, f1, f2, f3, f4, f5, f6, f7, f8, f9, f10, f11, f12⟩, y0, y1, y2⟩ := HS.out W hW2
                      clear hW hW2
                      go_simp
                      try with_reducible rfl
                    try simp only [Act.put, List.setIfInBounds_toArray, List.set_cons_zero, List.set_cons_succ]
                    refine wpAnyH_take2 (i := 2) (t := 231) (v := ?_) rfl rfl (by kernel_rfl) (by kernel_rfl) (by kernel_rfl) (fun _ _ _ h => Only.not_panic h) (Or.inl ⟨by kernel_rfl, fun W hW => ?_⟩) (by assumption) ?_
                    rotate_left
                    · have hW2 := hW
                      obtain ⟨⟨f0, f1, f2, f3, f4, f5, f6, f7, f8, f9, f10, f11, f12⟩, y0, y1, y2⟩ := HS.out W hW2
                      clear hW hW2
                      go_simp
                      try with_reducible rfl
                    try simp only [Act.put, List.setIfInBounds_toArray, List.set_cons_zero, List.set_cons_succ]
                    refine wpAnyH_take2 (i := 3) (t := 232) (v := ?_) rfl rfl (by kernel_rfl) (by kernel_rfl) (by kernel_rfl) (fun _ _ _ h => Only.not_panic h) (Or.inl ⟨by kernel_rfl, fun W hW => ?_⟩) (by assumption) ?_
                    rotate_left
                    · have hW2 := hW
                      obtain ⟨⟨f0, f1, f2, f3, f4, f5, f6, f7, f8, f9, f10, f11, f12⟩, y0, y1, y2⟩ := HS.out W hW2
                      clear hW hW2
                      go_simp
                      try with_reducible rfl
                    try simp only [Act.put, List.setIfInBounds_toArray, List.set_cons_zero, List.set_cons_succ]
                    refine wpAnyH_take2 (i := 4) (t := 233) (v := ?_) rfl rfl (by kernel_rfl) (by kernel_rfl) (by kernel_rfl) (fun _ _ _ h => Only.not_panic h) (Or.inl ⟨by kernel_rfl, fun W hW => ?_⟩) (by assumption) ?_
                    rotate_left
                    · have hW2 := hW
                      obtain ⟨⟨f0, f1, f2, f3, f4, f5, f6, f7, f8, f9, f10, f11, f12⟩, y0, y1, y2⟩ := HS.out W hW2
                      clear hW hW2
                      go_simp
                      try with_reducible rfl
                    try simp only [Act.put, List.setIfInBounds_toArray, List.set_cons_zero, List.set_cons_succ]
                    refine wpAnyH_take2 (i := 5) (t := 234) (v := ?_) rfl rfl (by kernel_rfl) (by kernel_rfl) (by kernel_rfl) (fun _ _ _ h => Only.not_panic h) (Or.inl ⟨by kernel_rfl, fun W hW => ?_⟩) (by assumption) ?_
                    rotate_left
                    · have hW2 := hW
                      obtain ⟨⟨f0, f1, f2, f3, f4, f5, f6, f7, f8, f9, f10, f11, f12⟩, y0, y1, y2⟩ := HS.out W hW2
                      clear hW hW2
                      go_simp
                      try with_reducible rfl
                    try simp only [Act.put, List.setIfInBounds_toArray, List.set_cons_zero, List.set_cons_succ]
                    refine wpAnyH_take2 (i := 6) (t := 235) (v := ?_) rfl rfl (by kernel_rfl) (by kernel_rfl) (by kernel_rfl) (fun _ _ _ h => Only.not_panic h) (Or.inl ⟨by kernel_rfl, fun W hW => ?_⟩) (by assumption) ?_
                    rotate_left
                    · have hW2 := hW
                      obtain ⟨⟨f0, f1, f2, f3, f4, f5, f6, f7, f8, f9, f10, f11, f12⟩, y0, y1, y2⟩ := HS.out W hW2
                      clear hW hW2
                      go_simp
                      try with_reducible rfl
                    try simp only [Act.put, List.setIfInBounds_toArray, List.set_cons_zero, List.set_cons_succ]
                    refine wpAnyH_take2 (i := 7) (t := 236) (v := ?_) rfl rfl (by kernel_rfl) (by kernel_rfl) (by kernel_rfl) (fun _ _ _ h => Only.not_panic h) (Or.inl ⟨by kernel_rfl, fun W hW => ?_⟩) (by assumption) ?_
                    rotate_left
                    · have hW2 := hW
                      obtain ⟨⟨f0, f1, f2, f3, f4, f5, f6, f7, f8, f9, f10, f11, f12⟩, y0, y1, y2⟩ := HS.out W hW2
                      clear hW hW2
                      go_simp
                      try with_reducible rfl
                    try simp only [Act.put, List.setIfInBounds_toArray, List.set_cons_zero, List.set_cons_succ]
                    refine wpAnyH_take2 (i := 8) (t := 237) (v := ?_) rfl rfl (by kernel_rfl) (by kernel_rfl) (by kernel_rfl) (fun _ _ _ h => Only.not_panic h) (Or.inl ⟨by kernel_rfl, fun W hW => ?_⟩) (by assumption) ?_
                    rotate_left
                    · have hW2 := hW
                      obtain ⟨⟨f0, f1, f2, f3, f4, f5, f6, f7, f8, f9, f10, f11, f12⟩, y0, y1, y2⟩ := HS.out W hW2
                      clear hW hW2
                      go_simp
                      try with_reducible rfl
                    try simp only [Act.put, List.setIfInBounds_toArray, List.set_cons_zero, List.set_cons_succ]
                    refine wpAnyH_take2 (i := 9) (t := 238) (v := ?_) rfl rfl (by kernel_rfl) (by kernel_rfl) (by kernel_rfl) (fun _ _ _ h => Only.not_panic h) (Or.inl ⟨by kernel_rfl, fun W hW => ?_⟩) (by assumption) ?_
                    rotate_left
                    · have hW2 := hW
                      obtain ⟨⟨f0, f1, f2, f3, f4, f5, f6, f7, f8, f9, f10, f11, f12⟩, y0, y1, y2⟩ := HS.out W hW2
                      clear hW hW2
                      go_simp
                      try with_reducible rfl
                    try simp only [Act.put, List.setIfInBounds_toArray, List.set_cons_zero, List.set_cons_succ]
                    refine wpAnyH_ready (rs := [10]) (by kernel_rfl) (by simp) ?_
                    refine AllReadyH.cons_want rfl (by kernel_rfl) (fun K hK => ?_) ?_
                    · go_simp
                      with_reducible refine (HKE.out _ hHeld).mono ?_
                      rintro ev w10 ⟨rfl, hb10⟩
                      try simp only []
                      refine hK.out _ _ ?_ (fun hHeld => ?_)
                      · exact B_trans hHeld hb10
                      clear hK K
                      try simp only [Act.put, List.setIfInBounds_toArray, List.set_cons_zero, List.set_cons_succ]
                      refine wpAnyH_take2 (i := 11) (t := 240) (v := ?_) rfl rfl (by kernel_rfl) (by kernel_rfl) (by kernel_rfl) (fun _ _ _ h => Only.not_panic h) (Or.inl ⟨by kernel_rfl, fun W hW => ?_⟩) (by assumption) ?_
                      rotate_left
                      · have hW2 := hW
                        obtain ⟨⟨f0, f1, f2, f3, f4, f5, f6, f7, f8, f9, f10, f11, f12⟩, y0, y1, y2⟩ := HS.out W hW2
                        clear hW hW2
                        go_simp
                        try with_reducible rfl
                      try simp only [Act.put, List.setIfInBounds_toArray, List.set_cons_zero, List.set_cons_succ]
                      refine wpAnyH_take2 (i := 12) (t := 241) (v := ?_) rfl rfl (by kernel_rfl) (by kernel_rfl) (by kernel_rfl) (fun _ _ _ h => Only.not_panic h) (Or.inl ⟨by kernel_rfl, fun W hW => ?_⟩) (by assumption) ?_
                      rotate_left
                      · have hW2 := hW
                        obtain ⟨⟨f0, f1, f2, f3, f4, f5, f6, f7, f8, f9, f10, f11, f12⟩, y0, y1, y2⟩ := HS.out W hW2
                        clear hW hW2
                        go_simp
                        try with_reducible rfl
                      try simp only [Act.put, List.setIfInBounds_toArray, List.set_cons_zero, List.set_cons_succ]
                      refine wpAnyH_done (by kernel_rfl) (Only.mk ?_) _
                      go_wp2_with fail
                      go_meet
                      exact ⟨rfl, hHeld⟩
                    exact AllReadyH.nil
                  case rest =>
                    clear HS HKE
                    obtain ⟨rfl, hby2⟩ := hcut
                    have B9 := Lib.hid (B_trans BR.out (B_trans E8.out hby2))
                    clear hby2
                    go_wp2_with fail
                    go_roundg (t.tn - (i + 1))
                    case measure => omega
                    case rel => exact ⟨i + 1, rfl, by push_cast; rfl, by omega, B9.out⟩
        · obtain rfl : i = t.tn := by omega
          have h2 : ¬ (t.tn : Int) < t.tn := by omega
          have B8 := Lib.hid (B_trans hw2.out hbr)
          clear hbr oT
          go_wp2_with fail
          refine (HA.out _).mono ?_
          rintro e w9 ⟨rfl, hb9⟩
          have B9 := Lib.hid (B_trans B8.out hb9)
          clear hb9
          go_wp2
          refine bodyPost_ret (v := .bool true) (by simp [results, Try.results10, go_sem]) rfl ⟨rfl, B9.out⟩
end Go.Proofs.Ytanjkhclhcnnaaa

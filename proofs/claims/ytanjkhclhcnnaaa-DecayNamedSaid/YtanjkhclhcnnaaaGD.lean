/- The law DecayNamed. -/
import Derived.Test.YtanjkhclhcnnaaaGC
namespace Go.Proofs.Ytanjkhclhcnnaaa
open Go.RowKit Go.Shelf

set_option maxRecDepth 100000 in
set_option maxHeartbeats 4000000 in
theorem namedLaw_bad (t : TkA) (hs ws : List T2) (ds : List T4) (ts : List T3) (x0 : Int) (xv : Value) (w : World) (hR : TkR w t hs ws ds ts) (he : (taskS t hs ws ds ts).2.2 ≠ 0) :
    Calls Try.prog 12 #[.agg t.cs, .agg #[.int .u8 x0, xv]] w fun e w' => e = .returned (.bool true) ∧ Below w.heap.size w w' := by
  obtain ⟨w0, hw0⟩ : ∃ w0, ((w).alloc (.cells t.cs 31)).alloc (.cells #[.int .u8 x0, xv] 68) = w0 := ⟨_, rfl⟩
  have hb0 : Below w.heap.size w w0 := by rw [← hw0]; exact B_alloc (B_alloc (Below.refl _ _) _) _
  have o0 : Ob w0 (w.heap.size) 31 t.cs := by
    rw [← hw0]
    have h := Ob.new (w) t.cs 31
    replace h := h.alloc (.cells #[.int .u8 x0, xv] 68)
    exact h
  have H2 := fun W (h : Below w.heap.size w W) => levels_bad t hs ws ds ts W (hR.below h) he
  have H3 := fun W (h : Below w.heap.size w W) => refCheckTask_any t hs ws ds ts W (hR.below h)
  have HA := Lib.hid awake_any
  generalize taskS t hs ws ds ts = tr at H2 H3 he
  obtain ⟨c1, c2, c3⟩ := tr
  simp only [tri] at H2 H3 he
  replace H2 := Lib.hid H2
  replace H3 := Lib.hid H3
  have hq : (c3 != 0) = true := by simpa using he
  obtain ⟨q0, q1, q2, q3, q4, q5, q6, q7, q8, q9, q10, q11, q12⟩ := o0.task
  replace o0 := Lib.hid o0
  replace hb0 := Lib.hid hb0
  replace hw0 := Lib.hid hw0
  clear hR he
  go_enter Try.func12, Try.ntmps12
  go_wp2_with fail
  rw [hw0.out]
  refine (H2.out w0 hb0.out).mono ?_
  rintro e w1 ⟨rfl, hb1⟩
  have hw1 := Lib.hid (B_trans hb0.out hb1)
  clear q0 q1 q2 q3 q4 q5 q6 q7 q8 q9 q10 q11 q12
  obtain ⟨q0, q1, q2, q3, q4, q5, q6, q7, q8, q9, q10, q11, q12⟩ := (o0.out.below hb1).task
  clear hb1
  go_wp2_with fail
  refine (H3.out w1 hw1.out).mono ?_
  rintro e w2 ⟨rfl, hb2⟩
  have hw2 := Lib.hid (B_trans hw1.out hb2)
  clear q0 q1 q2 q3 q4 q5 q6 q7 q8 q9 q10 q11 q12 hb2
  go_wp2_with fail
  refine (HA.out _).mono ?_
  rintro e w4 ⟨rfl, hb4⟩
  have hw4 := Lib.hid (B_trans hw2.out hb4)
  clear hb4
  go_wp2
  refine bodyPost_ret (v := .bool true) (by simp [results, Try.results12, go_sem]) rfl ⟨rfl, hw4.out⟩

set_option maxRecDepth 100000 in
set_option maxHeartbeats 16000000 in
theorem namedLaw_any (t : TkA) (hs ws : List T2) (ds : List T4) (ts : List T3) (x0 : Int) (xa : Option Addr) (xn xc : Nat) (bs : List Int) (w : World) (hR : TkR w t hs ws ds ts) (hcap : t.dn ≤ t.dc) (he : (taskS t hs ws ds ts).2.2 = 0) (hx : 0 ≤ x0 ∧ x0 ≤ 255) (hX : Nums w .u8 0 255 xa xn bs) :
    Calls Try.prog 12 #[.agg t.cs, .agg #[.int .u8 x0, .slice xa xn xc]] w fun e w' => e = .returned (.bool true) ∧ Below w.heap.size w w' := by
  obtain ⟨w0, hw0⟩ : ∃ w0, ((w).alloc (.cells t.cs 31)).alloc (.cells #[.int .u8 x0, .slice xa xn xc] 68) = w0 := ⟨_, rfl⟩
  have hb0 : Below w.heap.size w w0 := by rw [← hw0]; exact B_alloc (B_alloc (Below.refl _ _) _) _
  have o0 : Ob w0 (w.heap.size) 31 t.cs := by
    rw [← hw0]
    have h := Ob.new (w) t.cs 31
    replace h := h.alloc (.cells #[.int .u8 x0, .slice xa xn xc] 68)
    exact h
  have o1 : Ob w0 (w.heap.size + 1) 68 #[.int .u8 x0, .slice xa xn xc] := by
    rw [← hw0]
    have h := Ob.new ((w).alloc (.cells t.cs 31)) #[.int .u8 x0, .slice xa xn xc] 68
    simp only [World.size_alloc] at h
    exact h
  have ok := TaskOK.of he
  have hdl := hR.d.len
  have hdn := ok.dn
  have htn := ok.tn
  have hts := tests_ok ok.tests
  have hfirst := ok.first
  have hmor : ∀ i, i < t.tn → morT t ts i ≤ t.dn := fun i hi => by have := hts i hi; unfold morT; omega
  have hsl := struckLen (t := t) (hs := hs) (ws := ws) (ds := ds) (ts := ts) hmor htn
  obtain ⟨hNo, hNm⟩ := named_all (ts := ts) he hdl
  have HTk := taken_ok (t := t) (hs := hs) (ws := ws) (ds := ds) (ts := ts) hmor
  have H2 := fun W (h : Below w.heap.size w W) => levels3_any t hs ws ds ts W (hR.below h) he
  have H3 := fun W (h : Below w.heap.size w W) => refCheckTask_any t hs ws ds ts W (hR.below h)
  rw [show tri (taskS t hs ws ds ts) = .tuple #[.int .i64 (taskS t hs ws ds ts).1, .int .i64 (taskS t hs ws ds ts).2.1, .int .i64 (taskS t hs ws ds ts).2.2] from rfl, he] at H3
  generalize (taskS t hs ws ds ts).1 = c1 at H3
  generalize (taskS t hs ws ds ts).2.1 = c2 at H3
  generalize levT t hs ws ds ts = LV at H2
  generalize (reachT t hs ws ds ts).taken = tk at hNm HTk
  generalize (reachT t hs ws ds ts).struck = S at H2 hNo hNm HTk hsl
  have HA := Lib.hid awake_any
  replace H2 := Lib.hid H2
  replace H3 := Lib.hid H3
  replace hts := Lib.hid hts
  replace hmor := Lib.hid hmor
  replace hNo := Lib.hid hNo
  replace hNm := Lib.hid hNm
  replace HTk := Lib.hid HTk
  have OK := Lib.hid ok
  have HX := Lib.hid hX
  obtain ⟨q0, q1, q2, q3, q4, q5, q6, q7, q8, q9, q10, q11, q12⟩ := o0.task
  replace o0 := Lib.hid (And.intro o0 o1)
  replace hb0 := Lib.hid hb0
  replace hw0 := Lib.hid hw0
  clear he ok o1 hX
  go_enter Try.func12, Try.ntmps12
  go_wp2_with fail
  rw [hw0.out]
  refine (H2.out w0 hb0.out).mono ?_
  rintro e w1 ⟨la, lc, sa, sc, rfl, -, hSs, hb1⟩
  have hw1 := Lib.hid (B_trans hb0.out hb1)
  have O1 := Lib.hid (And.intro (o0.out.1.below hb1) (And.intro (o0.out.2.below hb1) hSs))
  clear q0 q1 q2 q3 q4 q5 q6 q7 q8 q9 q10 q11 q12 hSs
  obtain ⟨q0, q1, q2, q3, q4, q5, q6, q7, q8, q9, q10, q11, q12⟩ := (o0.out.1.below hb1).task
  clear hb1
  go_wp2_with fail
  refine (H3.out w1 hw1.out).mono ?_
  rintro e w2 ⟨rfl, hb2⟩
  have hw2 := Lib.hid (B_trans hw1.out hb2)
  have O2 := Lib.hid (And.intro (O1.out.1.below hb2) (And.intro (O1.out.2.1.below hb2) (O1.out.2.2.below hb2)))
  clear q0 q1 q2 q3 q4 q5 q6 q7 q8 q9 q10 q11 q12 hb2 O1
  go_wp2_with fail
  go_loopg [11] S.length (fun gk iv wr => ∃ i : Nat, gk = S.length - i ∧ iv = .int .i64 (i : Int) ∧ i ≤ S.length ∧ Below w2.heap.size w2 wr)
  case atStart => exact ⟨0, rfl, rfl, Nat.zero_le _, Below.refl _ _⟩
  case round =>
    obtain ⟨i, rfl, rfl, hi, hbr⟩ := hrel
    by_cases hlt : i < S.length
    · obtain ⟨sb, so, rfl, hsb, hss⟩ := O2.out.2.2.at_ (by omega)
      obtain ⟨y3, y4⟩ := hss i hlt
      replace y3 := (hbr.cell (p := ⟨sb, _, none⟩) hsb).trans y3
      replace y4 := (hbr.cell (p := ⟨sb, _, none⟩) hsb).trans y4
      have hN := hNm.out i hlt
      generalize S.getD i (0, 0) = s at y3 y4 hN
      obtain ⟨sn, sy⟩ := s
      obtain ⟨n, hn, e1, hN⟩ := hN
      simp only at e1 y3 y4 hN
      subst e1
      have hmn := hmor.out n hn
      have hRr := hR.below (B_trans hw2.out hbr)
      obtain ⟨p, o, hta, hpl, htc⟩ := hRr.t.at_ (by omega)
      have oT := O2.out.1.below hbr
      obtain ⟨q0, q1, q2, q3, q4, q5, q6, q7, q8, q9, q10, q11, q12⟩ := oT.task
      rw [hta] at q12
      have a1 : (0 : Int) ≤ i := by omega
      have a2 : (i : Int) < S.length := by omega
      have n1 : ¬ (n : Int) < 0 := by omega
      have n2 : ¬ (t.tn : Int) ≤ n := by omega
      have n3 : (0 : Int) ≤ n := by omega
      have n4 : (n : Int) < t.tn := by omega
      obtain ⟨g0, g1, g2⟩ := htc n hn
      obtain ⟨⟨b1, b2⟩, ⟨b3, b4⟩, b5, b6⟩ := hts.out n hn
      rcases hN with ⟨rfl, hJ⟩ | ⟨b, hbk, hb, rfl, hd1, hd2, hJ⟩
      · obtain ⟨cs, c, hcrs, HW', HK'⟩ : ∃ (cs : List Int) (c : Nat → Int), Crs t.r (ds.map (strS hs ws)) t.dn (t.lo, t.hi) c ∧
            (∀ W, Below w.heap.size w W → Calls Try.prog 40 #[.agg #[(.slice t.r.ha t.r.hn t.r.hc), (.slice t.r.wa t.r.wn t.r.wc), (.int .i64 t.r.own), (.int .i64 t.r.feed), (.int .i64 t.r.g0), (.int .i64 t.r.g1), (.int .i64 t.r.g2), (.int .i64 t.r.lost), (.int .i64 t.first), (.slice t.da t.dn t.dc), (.int .i64 t.lo), (.int .i64 t.hi), (.slice none 0 0)], .agg #[.int .u8 x0, .slice xa xn xc]] W fun e w' => ∃ ca cc, e = .returned (.tuple #[.slice ca (t.dn + 1) cc, .bool true]) ∧ Sl1 w' ca (t.dn + 1) cs ∧ Below W.heap.size W w') ∧
            (∀ W ca cc m g e, Below w.heap.size w W → Sl1 W ca (t.dn + 1) cs → m ≤ t.dn → 0 ≤ g ∧ g ≤ 3 → 0 ≤ e ∧ e ≤ 3 → Calls Try.prog 42 #[.agg #[(.slice t.r.ha t.r.hn t.r.hc), (.slice t.r.wa t.r.wn t.r.wc), (.int .i64 t.r.own), (.int .i64 t.r.feed), (.int .i64 t.r.g0), (.int .i64 t.r.g1), (.int .i64 t.r.g2), (.int .i64 t.r.lost), (.int .i64 t.first), (.slice t.da t.dn t.dc), (.int .i64 t.lo), (.int .i64 t.hi), (.slice none 0 0)], .slice ca (t.dn + 1) cc, .agg #[.int .i64 (t.first + (m : Int)), .int .i64 g, .int .i64 e]] W fun x w' => x = .returned (.bool (inB (c m) (keepS t.r g e).1 (keepS t.r g e).2)) ∧ Below W.heap.size W w') :=
          task_course t.bare_ hs ws ds x0 xa xn xc bs w hR.bare OK.out.bare hx HX.out
        have hno := nm_bare OK.out hdl hmn hJ hcrs
        have hmor2 : morT t ts n = ((ts.getD n (0, 0, 0)).1 - t.first).toNat := rfl
        have hkt2 : keepT t.r ts n = keepS t.r (ts.getD n (0, 0, 0)).2.1 (ts.getD n (0, 0, 0)).2.2 := rfl
        rw [hmor2, hkt2] at hno
        clear hcrs hJ htc hmor2 hkt2 hmn hss hRr
        generalize ts.getD n (0, 0, 0) = z at g0 g1 g2 b1 b2 b3 b4 b5 b6 hno
        obtain ⟨zd, zg, ze⟩ := z
        simp only at g0 g1 g2 b1 b2 b3 b4 b5 b6 hno
        obtain ⟨m, rfl⟩ : ∃ m : Nat, zd = t.first + m := ⟨(zd - t.first).toNat, by omega⟩
        rw [show (t.first + (m : Int) - t.first).toNat = m by omega] at hno
        have n5 : ¬ (t.tn : Int) ≤ -1 := by omega
        have HST := Lib.hid (show ∀ W', Below wr.heap.size wr W' → Calls Try.prog 41 #[.slice (some ⟨sb, so, none⟩) S.length sc, .int .i64 (-1)] W' fun e w' => e = .returned (.bool false) ∧ Below W'.heap.size W' w' from fun W' hh => by
          have h := struckIs_any S (some ⟨sb, so, none⟩) S.length sc (-1) W' (O2.out.2.2.below (B_trans hbr hh)) (by omega)
          rw [hNo.out] at h
          exact h.mono fun e w' ⟨h1, h2⟩ => ⟨h1, by rw [h2]; exact Below.refl _ _⟩)
        have HW := Lib.hid HW'
        have HK := Lib.hid HK'
        have NO := Lib.hid hno
        have BR := Lib.hid hbr
        have OT := Lib.hid (And.intro oT (O2.out.2.1.below hbr))
        have HTA := Lib.hid hta
        have gT := oT.lt
        clear HW' HK' hno hbr oT hta
        go_wp2_with fail
        go_quiet (fail)
        clear y3 y4
        go_wp2_with fail
        refine (HST.out _ (below_drewN (Below.refl _ _) _)).mono ?_
        rintro e w6 ⟨rfl, hb6'⟩
        have hb6 : Below wr.heap.size wr w6 := B_trans (below_drewN (Below.refl _ _) _) hb6'
        have gT6 : w.heap.size < w6.heap.size := Nat.lt_of_lt_of_le gT hb6.size
        have gX6 : w.heap.size + 1 < w6.heap.size := (OT.out.2.below hb6).lt
        clear q0 q1 q2 q3 q4 q5 q6 q7 q8 q9 q10 q11 q12
        obtain ⟨q0, q1, q2, q3, q4, q5, q6, q7, q8, q9, q10, q11, q12⟩ := (OT.out.1.below hb6).task
        rw [HTA.out] at q12
        obtain ⟨w7, hw7⟩ : ∃ w7, w6.alloc (.cells #[(.slice t.r.ha t.r.hn t.r.hc), (.slice t.r.wa t.r.wn t.r.wc), (.int .i64 t.r.own), (.int .i64 t.r.feed), (.int .i64 t.r.g0), (.int .i64 t.r.g1), (.int .i64 t.r.g2), (.int .i64 t.r.lost), (.int .i64 t.first), (.slice t.da t.dn t.dc), (.int .i64 t.lo), (.int .i64 t.hi), (.slice none 0 0)] 31) = w7 := ⟨_, rfl⟩
        have hb67 : Below w6.heap.size w6 w7 := by rw [← hw7]; exact B_alloc (Below.refl _ _) _
        have oU : Ob w7 w6.heap.size 31 #[(.slice t.r.ha t.r.hn t.r.hc), (.slice t.r.wa t.r.wn t.r.wc), (.int .i64 t.r.own), (.int .i64 t.r.feed), (.int .i64 t.r.g0), (.int .i64 t.r.g1), (.int .i64 t.r.g2), (.int .i64 t.r.lost), (.int .i64 t.first), (.slice t.da t.dn t.dc), (.int .i64 t.lo), (.int .i64 t.hi), (.slice none 0 0)] := by rw [← hw7]; exact Ob.new _ _ _
        have B7 := Lib.hid (B_trans hw2.out (B_trans BR.out (B_trans hb6 hb67)))
        have O7 := Lib.hid (And.intro (OT.out.1.below (B_trans hb6 hb67)) (And.intro (OT.out.2.below (B_trans hb6 hb67)) oU))
        have C7 := Lib.hid (B_trans hb6 hb67)
        have W7 := Lib.hid hw7
        clear hb6' hb6 hb67 oU hw7
        go_upto_region 18 with fail
        rw [W7.out]
        clear q0 q1 q2 q3 q4 q5 q6 q7 q8 q9 q10 q11 q12
        obtain ⟨f0, f1, f2, f3, f4, f5, f6, f7, f8, f9, f10, f11, f12⟩ := O7.out.2.2.thirteen
        obtain ⟨z0, z1⟩ : w7.cell? ⟨w.heap.size + 1, 0, none⟩ = some (.int .u8 x0) ∧ w7.cell? ⟨w.heap.size + 1, 1, none⟩ = some (.slice xa xn xc) := ⟨O7.out.2.1.cell 0, O7.out.2.1.cell 1⟩
        go_wp2_with fail
        refine (HW.out _ B7.out).mono ?_
        rintro e w8 ⟨ca, cc, rfl, hC, hb8⟩
        have C8 := Lib.hid (B_trans C7.out hb8)
        have HKN := Lib.hid (show ∀ W', Below w8.heap.size w8 W' → Calls Try.prog 42 #[.agg #[(.slice t.r.ha t.r.hn t.r.hc), (.slice t.r.wa t.r.wn t.r.wc), (.int .i64 t.r.own), (.int .i64 t.r.feed), (.int .i64 t.r.g0), (.int .i64 t.r.g1), (.int .i64 t.r.g2), (.int .i64 t.r.lost), (.int .i64 t.first), (.slice t.da t.dn t.dc), (.int .i64 t.lo), (.int .i64 t.hi), (.slice none 0 0)], .slice ca (t.dn + 1) cc, .agg #[.int .i64 (t.first + (m : Int)), .int .i64 zg, .int .i64 ze]] W' fun x w' => x = .returned (.bool false) ∧ Below W'.heap.size W' w' from fun W' hh => by
          have h := HK.out W' ca cc m zg ze (B_trans (B_trans B7.out hb8) hh) (hC.below hh) (by omega) ⟨b3, b4⟩ ⟨b5, b6⟩
          rw [show inB (c m) (keepS t.r zg ze).1 (keepS t.r zg ze).2 = false from by
            cases hq : inB (c m) (keepS t.r zg ze).1 (keepS t.r zg ze).2 with
            | false => rfl
            | true => exact absurd (inB_iff.1 hq) NO.out] at h
          exact h)
        have HS := Lib.hid (fun (W' : World) (hh : Below w8.heap.size w8 W') => (show (W'.cell? ⟨w6.heap.size, 0, none⟩ = some (.slice t.r.ha t.r.hn t.r.hc) ∧ W'.cell? ⟨w6.heap.size, 1, none⟩ = some (.slice t.r.wa t.r.wn t.r.wc) ∧ W'.cell? ⟨w6.heap.size, 2, none⟩ = some (.int .i64 t.r.own) ∧ W'.cell? ⟨w6.heap.size, 3, none⟩ = some (.int .i64 t.r.feed) ∧ W'.cell? ⟨w6.heap.size, 4, none⟩ = some (.int .i64 t.r.g0) ∧ W'.cell? ⟨w6.heap.size, 5, none⟩ = some (.int .i64 t.r.g1) ∧ W'.cell? ⟨w6.heap.size, 6, none⟩ = some (.int .i64 t.r.g2) ∧ W'.cell? ⟨w6.heap.size, 7, none⟩ = some (.int .i64 t.r.lost) ∧ W'.cell? ⟨w6.heap.size, 8, none⟩ = some (.int .i64 t.first) ∧ W'.cell? ⟨w6.heap.size, 9, none⟩ = some (.slice t.da t.dn t.dc) ∧ W'.cell? ⟨w6.heap.size, 10, none⟩ = some (.int .i64 t.lo) ∧ W'.cell? ⟨w6.heap.size, 11, none⟩ = some (.int .i64 t.hi) ∧ W'.cell? ⟨w6.heap.size, 12, none⟩ = some (.slice none 0 0)) ∧ W'.cell? ⟨w.heap.size, 12, none⟩ = some (.slice (some ⟨p, o, none⟩) t.tn t.tc) ∧ W'.cell? ⟨p, o + n * 3, none⟩ = some (.int .i64 (t.first + (m : Int))) ∧ W'.cell? ⟨p, o + n * 3 + 1, none⟩ = some (.int .i64 zg) ∧ W'.cell? ⟨p, o + n * 3 + 2, none⟩ = some (.int .i64 ze) from ⟨((O7.out.2.2.below hb8).below hh).thirteen, by have h := ((O7.out.1.below hb8).below hh).task.2.2.2.2.2.2.2.2.2.2.2.2; rwa [HTA.out] at h, ((B_trans C8.out hh).cell (p := ⟨p, _, none⟩) hpl).trans g0, ((B_trans C8.out hh).cell (p := ⟨p, _, none⟩) hpl).trans g1, ((B_trans C8.out hh).cell (p := ⟨p, _, none⟩) hpl).trans g2⟩))
        clear f0 f1 f2 f3 f4 f5 f6 f7 f8 f9 f10 f11 f12 z0 z1 hC hb8
        go_upto_region 21 with fail
        go_cut [158] (fun a wx => a = .bool false ∧ Below w8.heap.size w8 wx)
        case first =>
            refine wp_region_held' (S := fun W' => Below w8.heap.size w8 W') (by kernel_rfl) ((Below.refl _ w8).drew) (fun hHeld => ?_)
            refine wpAnyH_take2 (i := 0) (t := 137) (v := ?_) rfl rfl (by kernel_rfl) (by kernel_rfl) (by kernel_rfl) (fun _ _ _ h => Only.not_panic h) (Or.inl ⟨by kernel_rfl, fun W hW => ?_⟩) (by assumption) ?_
            rotate_left
            · have hW2 := hW
              obtain ⟨⟨f0, f1, f2, f3, f4, f5, f6, f7, f8, f9, f10, f11, f12⟩, r12, y0, y1, y2⟩ := HS.out W hW2
              clear hW hW2
              go_simp
              try with_reducible rfl
            try simp only [Act.put, List.setIfInBounds_toArray, List.set_cons_zero, List.set_cons_succ]
            refine wpAnyH_take2 (i := 1) (t := 138) (v := ?_) rfl rfl (by kernel_rfl) (by kernel_rfl) (by kernel_rfl) (fun _ _ _ h => Only.not_panic h) (Or.inl ⟨by kernel_rfl, fun W hW => ?_⟩) (by assumption) ?_
            rotate_left
            · have hW2 := hW
              obtain ⟨⟨f0, f1, f2, f3, f4, f5, f6, f7, f8, f9, f10, f11, f12⟩, r12, y0, y1, y2⟩ := HS.out W hW2
              clear hW hW2
              go_simp
              try with_reducible rfl
            try simp only [Act.put, List.setIfInBounds_toArray, List.set_cons_zero, List.set_cons_succ]
            refine wpAnyH_take2 (i := 2) (t := 139) (v := ?_) rfl rfl (by kernel_rfl) (by kernel_rfl) (by kernel_rfl) (fun _ _ _ h => Only.not_panic h) (Or.inl ⟨by kernel_rfl, fun W hW => ?_⟩) (by assumption) ?_
            rotate_left
            · have hW2 := hW
              obtain ⟨⟨f0, f1, f2, f3, f4, f5, f6, f7, f8, f9, f10, f11, f12⟩, r12, y0, y1, y2⟩ := HS.out W hW2
              clear hW hW2
              go_simp
              try with_reducible rfl
            try simp only [Act.put, List.setIfInBounds_toArray, List.set_cons_zero, List.set_cons_succ]
            refine wpAnyH_skip (i := 3) (t := 140) rfl rfl (by kernel_rfl) (by kernel_rfl) (by kernel_rfl) (fun _ _ _ h => Only.not_panic h) (by kernel_rfl) (by assumption) ?_
            try simp only [Act.put, List.setIfInBounds_toArray, List.set_cons_zero, List.set_cons_succ]
            refine wpAnyH_skip (i := 4) (t := 141) rfl rfl (by kernel_rfl) (by kernel_rfl) (by kernel_rfl) (fun _ _ _ h => Only.not_panic h) (by kernel_rfl) (by assumption) ?_
            try simp only [Act.put, List.setIfInBounds_toArray, List.set_cons_zero, List.set_cons_succ]
            refine wpAnyH_skip (i := 5) (t := 142) rfl rfl (by kernel_rfl) (by kernel_rfl) (by kernel_rfl) (fun _ _ _ h => Only.not_panic h) (by kernel_rfl) (by assumption) ?_
            try simp only [Act.put, List.setIfInBounds_toArray, List.set_cons_zero, List.set_cons_succ]
            refine wpAnyH_skip (i := 6) (t := 143) rfl rfl (by kernel_rfl) (by kernel_rfl) (by kernel_rfl) (fun _ _ _ h => Only.not_panic h) (by kernel_rfl) (by assumption) ?_
            try simp only [Act.put, List.setIfInBounds_toArray, List.set_cons_zero, List.set_cons_succ]
            refine wpAnyH_skip (i := 7) (t := 144) rfl rfl (by kernel_rfl) (by kernel_rfl) (by kernel_rfl) (fun _ _ _ h => Only.not_panic h) (by kernel_rfl) (by assumption) ?_
            try simp only [Act.put, List.setIfInBounds_toArray, List.set_cons_zero, List.set_cons_succ]
            refine wpAnyH_skip (i := 8) (t := 145) rfl rfl (by kernel_rfl) (by kernel_rfl) (by kernel_rfl) (fun _ _ _ h => Only.not_panic h) (by kernel_rfl) (by assumption) ?_
            try simp only [Act.put, List.setIfInBounds_toArray, List.set_cons_zero, List.set_cons_succ]
            refine wpAnyH_skip (i := 9) (t := 146) rfl rfl (by kernel_rfl) (by kernel_rfl) (by kernel_rfl) (fun _ _ _ h => Only.not_panic h) (by kernel_rfl) (by assumption) ?_
            try simp only [Act.put, List.setIfInBounds_toArray, List.set_cons_zero, List.set_cons_succ]
            refine wpAnyH_skip (i := 10) (t := 147) rfl rfl (by kernel_rfl) (by kernel_rfl) (by kernel_rfl) (fun _ _ _ h => Only.not_panic h) (by kernel_rfl) (by assumption) ?_
            try simp only [Act.put, List.setIfInBounds_toArray, List.set_cons_zero, List.set_cons_succ]
            refine wpAnyH_take2 (i := 11) (t := 148) (v := ?_) rfl rfl (by kernel_rfl) (by kernel_rfl) (by kernel_rfl) (fun _ _ _ h => Only.not_panic h) (Or.inl ⟨by kernel_rfl, fun W hW => ?_⟩) (by assumption) ?_
            rotate_left
            · have hW2 := hW
              obtain ⟨⟨f0, f1, f2, f3, f4, f5, f6, f7, f8, f9, f10, f11, f12⟩, r12, y0, y1, y2⟩ := HS.out W hW2
              clear hW hW2
              go_simp
              try with_reducible rfl
            try simp only [Act.put, List.setIfInBounds_toArray, List.set_cons_zero, List.set_cons_succ]
            refine wpAnyH_take2 (i := 12) (t := 149) (v := ?_) rfl rfl (by kernel_rfl) (by kernel_rfl) (by kernel_rfl) (fun _ _ _ h => Only.not_panic h) (Or.inl ⟨by kernel_rfl, fun W hW => ?_⟩) (by assumption) ?_
            rotate_left
            · have hW2 := hW
              obtain ⟨⟨f0, f1, f2, f3, f4, f5, f6, f7, f8, f9, f10, f11, f12⟩, r12, y0, y1, y2⟩ := HS.out W hW2
              clear hW hW2
              go_simp
              try with_reducible rfl
            try simp only [Act.put, List.setIfInBounds_toArray, List.set_cons_zero, List.set_cons_succ]
            refine wpAnyH_take2 (i := 13) (t := 150) (v := ?_) rfl rfl (by kernel_rfl) (by kernel_rfl) (by kernel_rfl) (fun _ _ _ h => Only.not_panic h) (Or.inl ⟨by kernel_rfl, fun W hW => ?_⟩) (by assumption) ?_
            rotate_left
            · have hW2 := hW
              obtain ⟨⟨f0, f1, f2, f3, f4, f5, f6, f7, f8, f9, f10, f11, f12⟩, r12, y0, y1, y2⟩ := HS.out W hW2
              clear hW hW2
              go_simp
              try with_reducible rfl
            try simp only [Act.put, List.setIfInBounds_toArray, List.set_cons_zero, List.set_cons_succ]
            refine wpAnyH_take2 (i := 14) (t := 151) (v := ?_) rfl rfl (by kernel_rfl) (by kernel_rfl) (by kernel_rfl) (fun _ _ _ h => Only.not_panic h) (Or.inl ⟨by kernel_rfl, fun W hW => ?_⟩) (by assumption) ?_
            rotate_left
            · have hW2 := hW
              obtain ⟨⟨f0, f1, f2, f3, f4, f5, f6, f7, f8, f9, f10, f11, f12⟩, r12, y0, y1, y2⟩ := HS.out W hW2
              clear hW hW2
              go_simp
              try with_reducible rfl
            try simp only [Act.put, List.setIfInBounds_toArray, List.set_cons_zero, List.set_cons_succ]
            refine wpAnyH_take2 (i := 15) (t := 152) (v := ?_) rfl rfl (by kernel_rfl) (by kernel_rfl) (by kernel_rfl) (fun _ _ _ h => Only.not_panic h) (Or.inl ⟨by kernel_rfl, fun W hW => ?_⟩) (by assumption) ?_
            rotate_left
            · have hW2 := hW
              obtain ⟨⟨f0, f1, f2, f3, f4, f5, f6, f7, f8, f9, f10, f11, f12⟩, r12, y0, y1, y2⟩ := HS.out W hW2
              clear hW hW2
              go_simp
              try with_reducible rfl
            try simp only [Act.put, List.setIfInBounds_toArray, List.set_cons_zero, List.set_cons_succ]
            refine wpAnyH_take2 (i := 16) (t := 153) (v := ?_) rfl rfl (by kernel_rfl) (by kernel_rfl) (by kernel_rfl) (fun _ _ _ h => Only.not_panic h) (Or.inl ⟨by kernel_rfl, fun W hW => ?_⟩) (by assumption) ?_
            rotate_left
            · have hW2 := hW
              obtain ⟨⟨f0, f1, f2, f3, f4, f5, f6, f7, f8, f9, f10, f11, f12⟩, r12, y0, y1, y2⟩ := HS.out W hW2
              clear hW hW2
              go_simp
              try with_reducible rfl
            try simp only [Act.put, List.setIfInBounds_toArray, List.set_cons_zero, List.set_cons_succ]
            refine wpAnyH_take2 (i := 17) (t := 154) (v := ?_) rfl rfl (by kernel_rfl) (by kernel_rfl) (by kernel_rfl) (fun _ _ _ h => Only.not_panic h) (Or.inl ⟨by kernel_rfl, fun W hW => ?_⟩) (by assumption) ?_
            rotate_left
            · have hW2 := hW
              obtain ⟨⟨f0, f1, f2, f3, f4, f5, f6, f7, f8, f9, f10, f11, f12⟩, r12, y0, y1, y2⟩ := HS.out W hW2
              clear hW hW2
              go_simp
              try with_reducible rfl
            try simp only [Act.put, List.setIfInBounds_toArray, List.set_cons_zero, List.set_cons_succ]
            refine wpAnyH_take2 (i := 18) (t := 155) (v := ?_) rfl rfl (by kernel_rfl) (by kernel_rfl) (by kernel_rfl) (fun _ _ _ h => Only.not_panic h) (Or.inl ⟨by kernel_rfl, fun W hW => ?_⟩) (by assumption) ?_
            rotate_left
            · have hW2 := hW
              obtain ⟨⟨f0, f1, f2, f3, f4, f5, f6, f7, f8, f9, f10, f11, f12⟩, r12, y0, y1, y2⟩ := HS.out W hW2
              clear hW hW2
              go_simp
              try with_reducible rfl
            try simp only [Act.put, List.setIfInBounds_toArray, List.set_cons_zero, List.set_cons_succ]
            refine wpAnyH_take2 (i := 19) (t := 156) (v := ?_) rfl rfl (by kernel_rfl) (by kernel_rfl) (by kernel_rfl) (fun _ _ _ h => Only.not_panic h) (Or.inl ⟨by kernel_rfl, fun W hW => ?_⟩) (by assumption) ?_
            rotate_left
            · have hW2 := hW
              obtain ⟨⟨f0, f1, f2, f3, f4, f5, f6, f7, f8, f9, f10, f11, f12⟩, r12, y0, y1, y2⟩ := HS.out W hW2
              clear hW hW2
              go_simp
              try with_reducible rfl
            try simp only [Act.put, List.setIfInBounds_toArray, List.set_cons_zero, List.set_cons_succ]
            refine wpAnyH_ready (rs := [20]) (by kernel_rfl) (by simp) ?_
            refine AllReadyH.cons_want rfl (by kernel_rfl) (fun K hK => ?_) ?_
            · go_simp
              with_reducible refine (HKN.out _ hHeld).mono ?_
              rintro ev w20 ⟨rfl, hb20⟩
              try simp only []
              refine hK.out _ _ ?_ (fun hHeld => ?_)
              · exact B_trans hHeld hb20
              clear hK K
              try simp only [Act.put, List.setIfInBounds_toArray, List.set_cons_zero, List.set_cons_succ]
              refine wpAnyH_take2 (i := 21) (t := 158) (v := ?_) rfl rfl (by kernel_rfl) (by kernel_rfl) (by kernel_rfl) (fun _ _ _ h => Only.not_panic h) (Or.inl ⟨by kernel_rfl, fun W hW => ?_⟩) (by assumption) ?_
              rotate_left
              · have hW2 := hW
                obtain ⟨⟨f0, f1, f2, f3, f4, f5, f6, f7, f8, f9, f10, f11, f12⟩, r12, y0, y1, y2⟩ := HS.out W hW2
                clear hW hW2
                go_simp
                try with_reducible rfl
              try simp only [Act.put, List.setIfInBounds_toArray, List.set_cons_zero, List.set_cons_succ]
              refine wpAnyH_done (by kernel_rfl) (Only.mk ?_) _
              go_wp2_with fail
              go_meet
              exact ⟨rfl, hHeld⟩
            exact AllReadyH.nil
        case rest =>
          clear HS HKN
          obtain ⟨rfl, hbx⟩ := hcut
          have B9 := Lib.hid (B_trans BR.out (B_trans C8.out hbx))
          clear hbx
          go_wp2_with fail
          go_roundg (S.length - (i + 1))
          case measure => omega
          case rel => exact ⟨i + 1, rfl, by push_cast; rfl, by omega, B9.out⟩
      · have hbl := (HTk.out b hbk).2
        have hmor1 : morT t ts b = ((ts.getD b (0, 0, 0)).1 - t.first).toNat := rfl
        have hmor2 : morT t ts n = ((ts.getD n (0, 0, 0)).1 - t.first).toNat := rfl
        have hkt1 : keepT t.r ts b = keepS t.r (ts.getD b (0, 0, 0)).2.1 (ts.getD b (0, 0, 0)).2.2 := rfl
        have hkt2 : keepT t.r ts n = keepS t.r (ts.getD n (0, 0, 0)).2.1 (ts.getD n (0, 0, 0)).2.2 := rfl
        have hdy1 : dayOf ts b = (ts.getD b (0, 0, 0)).1 := rfl
        have hdy2 : dayOf ts n = (ts.getD n (0, 0, 0)).1 := rfl
        have hmb := hmor.out b hb
        have hmm : morT t ts b ≤ morT t ts n := by rw [hmor1, hmor2]; omega
        obtain ⟨k, hk⟩ : ∃ k, morT t ts b = k := ⟨_, rfl⟩
        have hno := fun c (hc : Crs t.r ((ds.drop (morT t ts b)).map (strS hs ws)) (t.dn - morT t ts b) (0, 1000000) c) => nm_from OK.out hdl hmn hmm hJ hc
        rw [hk] at hno hmb hmm
        obtain ⟨cs, c, hcrs, HW', HK'⟩ : ∃ (cs : List Int) (c : Nat → Int), Crs t.r ((ds.drop k).map (strS hs ws)) (t.dn - k) (0, 1000000) c ∧
            (∀ W, Below w.heap.size w W → Calls Try.prog 40 #[.agg #[(.slice t.r.ha t.r.hn t.r.hc), (.slice t.r.wa t.r.wn t.r.wc), (.int .i64 t.r.own), (.int .i64 t.r.feed), (.int .i64 t.r.g0), (.int .i64 t.r.g1), (.int .i64 t.r.g2), (.int .i64 t.r.lost), (.int .i64 (t.first + (k : Int))), (.slice (t.lateA k) (t.dn - k) (t.dc - k)), (.int .i64 0), (.int .i64 1000000), (.slice none 0 0)], .agg #[.int .u8 x0, .slice xa xn xc]] W fun e w' => ∃ ca cc, e = .returned (.tuple #[.slice ca (t.dn - k + 1) cc, .bool true]) ∧ Sl1 w' ca (t.dn - k + 1) cs ∧ Below W.heap.size W w') ∧
            (∀ W ca cc m g e, Below w.heap.size w W → Sl1 W ca (t.dn - k + 1) cs → m ≤ t.dn - k → 0 ≤ g ∧ g ≤ 3 → 0 ≤ e ∧ e ≤ 3 → Calls Try.prog 42 #[.agg #[(.slice t.r.ha t.r.hn t.r.hc), (.slice t.r.wa t.r.wn t.r.wc), (.int .i64 t.r.own), (.int .i64 t.r.feed), (.int .i64 t.r.g0), (.int .i64 t.r.g1), (.int .i64 t.r.g2), (.int .i64 t.r.lost), (.int .i64 (t.first + (k : Int))), (.slice (t.lateA k) (t.dn - k) (t.dc - k)), (.int .i64 0), (.int .i64 1000000), (.slice none 0 0)], .slice ca (t.dn - k + 1) cc, .agg #[.int .i64 (t.first + (k : Int) + (m : Int)), .int .i64 g, .int .i64 e]] W fun x w' => x = .returned (.bool (inB (c m) (keepS t.r g e).1 (keepS t.r g e).2)) ∧ Below W.heap.size W w') :=
          task_course (t.from_ k) hs ws (ds.drop k) x0 xa xn xc bs w (hR.late hcap k) (OK.out.late hmb) hx HX.out
        replace hno := hno c hcrs
        rw [hmor1] at hk
        rw [hmor2, hkt1, hkt2] at hno
        rw [hmor2] at hmm
        rw [hdy1, hdy2] at hd1 hd2
        obtain ⟨g3, g4, g5⟩ := htc b hb
        obtain ⟨⟨b11, b12⟩, ⟨b13, b14⟩, b15, b16⟩ := hts.out b hb
        clear hcrs hJ htc hmor1 hmor2 hkt1 hkt2 hmn hss hRr hdy1 hdy2 hbk
        by_cases hnb : n = b
        · subst hnb; have := hd2 rfl; omega
        generalize ts.getD n (0, 0, 0) = z at g0 g1 g2 b1 b2 b3 b4 b5 b6 hno hmm hd1 hd2
        generalize ts.getD b (0, 0, 0) = y at g3 g4 g5 b11 b12 b13 b14 b15 b16 hno hk hd1 hd2
        obtain ⟨zd, zg, ze⟩ := z
        obtain ⟨yd, yg, ye⟩ := y
        simp only at g0 g1 g2 b1 b2 b3 b4 b5 b6 hno hmm hd1 hd2 g3 g4 g5 b11 b12 b13 b14 b15 b16 hk
        obtain rfl : yd = t.first + k := by omega
        obtain ⟨m, hzd⟩ : ∃ m : Nat, zd = t.first + (k : Int) + (m : Int) := ⟨(zd - t.first - k).toNat, by omega⟩
        rw [show (zd - t.first).toNat - k = m by omega] at hno
        have d1 : ¬ zd < t.first + (k : Int) := by omega
        have d2 : t.first + (k : Int) = zd → ¬ (n : Int) ≤ b := fun h => by have := hd2 h; omega
        have hmd : m ≤ t.dn - k := by omega
        have HZD := Lib.hid hzd
        have n5 : ¬ (b : Int) < -1 := by omega
        have n6 : ¬ (t.tn : Int) ≤ b := by omega
        have n7 : (0 : Int) ≤ b := by omega
        have n8 : ¬ (b : Int) < 0 := by omega
        have n9 : (b : Int) < t.tn := by omega
        have HST := Lib.hid (show ∀ W', Below wr.heap.size wr W' → Calls Try.prog 41 #[.slice (some ⟨sb, so, none⟩) S.length sc, .int .i64 (b : Int)] W' fun e w' => e = .returned (.bool false) ∧ Below W'.heap.size W' w' from fun W' hh => by
          have h := struckIs_any S (some ⟨sb, so, none⟩) S.length sc (b : Int) W' (O2.out.2.2.below (B_trans hbr hh)) (by omega)
          rw [hbl] at h
          exact h.mono fun e w' ⟨h1, h2⟩ => ⟨h1, by rw [h2]; exact Below.refl _ _⟩)
        have HW := Lib.hid HW'
        have HK := Lib.hid HK'
        have NO := Lib.hid hno
        have BR := Lib.hid hbr
        have OT := Lib.hid (And.intro oT (O2.out.2.1.below hbr))
        have HTA := Lib.hid hta
        have gT := oT.lt
        clear HW' HK' hno hbr oT hta hbl hk hd1 hd2 hzd hmm b1 b2 b11 b12
        go_wp2_with fail
        go_quiet (fail)
        clear y3 y4
        go_wp2_with fail
        refine (HST.out _ (below_drewN (Below.refl _ _) _)).mono ?_
        rintro e w6 ⟨rfl, hb6'⟩
        have hb6 : Below wr.heap.size wr w6 := B_trans (below_drewN (Below.refl _ _) _) hb6'
        have gT6 : w.heap.size < w6.heap.size := Nat.lt_of_lt_of_le gT hb6.size
        have gX6 : w.heap.size + 1 < w6.heap.size := (OT.out.2.below hb6).lt
        clear q0 q1 q2 q3 q4 q5 q6 q7 q8 q9 q10 q11 q12
        obtain ⟨q0, q1, q2, q3, q4, q5, q6, q7, q8, q9, q10, q11, q12⟩ := (OT.out.1.below hb6).task
        rw [HTA.out] at q12
        obtain ⟨w7, hw7⟩ : ∃ w7, w6.alloc (.cells #[(.slice t.r.ha t.r.hn t.r.hc), (.slice t.r.wa t.r.wn t.r.wc), (.int .i64 t.r.own), (.int .i64 t.r.feed), (.int .i64 t.r.g0), (.int .i64 t.r.g1), (.int .i64 t.r.g2), (.int .i64 t.r.lost), (.int .i64 t.first), (.slice t.da t.dn t.dc), (.int .i64 t.lo), (.int .i64 t.hi), (.slice none 0 0)] 31) = w7 := ⟨_, rfl⟩
        have hb67 : Below w6.heap.size w6 w7 := by rw [← hw7]; exact B_alloc (Below.refl _ _) _
        have oU : Ob w7 w6.heap.size 31 #[(.slice t.r.ha t.r.hn t.r.hc), (.slice t.r.wa t.r.wn t.r.wc), (.int .i64 t.r.own), (.int .i64 t.r.feed), (.int .i64 t.r.g0), (.int .i64 t.r.g1), (.int .i64 t.r.g2), (.int .i64 t.r.lost), (.int .i64 t.first), (.slice t.da t.dn t.dc), (.int .i64 t.lo), (.int .i64 t.hi), (.slice none 0 0)] := by rw [← hw7]; exact Ob.new _ _ _
        have O7 := Lib.hid (And.intro (OT.out.1.below (B_trans hb6 hb67)) (And.intro (OT.out.2.below (B_trans hb6 hb67)) oU))
        have B7 := Lib.hid hb67
        have C6 := Lib.hid hb6
        have W7 := Lib.hid hw7
        have gU := oU.lt
        clear hb6' hb6 hb67 oU hw7
        go_upto_region 14 with fail
        rw [W7.out]
        clear q0 q1 q2 q3 q4 q5 q6 q7 q8 q9 q10 q11 q12
        obtain ⟨q0, q1, q2, q3, q4, q5, q6, q7, q8, q9, q10, q11, q12⟩ := O7.out.1.task
        rw [HTA.out] at q12
        have g0' := ((B_trans C6.out B7.out).cell (p := ⟨p, _, none⟩) hpl).trans g0
        have g1' := ((B_trans C6.out B7.out).cell (p := ⟨p, _, none⟩) hpl).trans g1
        have g2' := ((B_trans C6.out B7.out).cell (p := ⟨p, _, none⟩) hpl).trans g2
        have g3' := ((B_trans C6.out B7.out).cell (p := ⟨p, _, none⟩) hpl).trans g3
        have g4' := ((B_trans C6.out B7.out).cell (p := ⟨p, _, none⟩) hpl).trans g4
        have g5' := ((B_trans C6.out B7.out).cell (p := ⟨p, _, none⟩) hpl).trans g5
        have hpl7 : p < w7.heap.size := Nat.lt_of_lt_of_le hpl (B_trans C6.out B7.out).size
        have gT7 : w.heap.size < w7.heap.size := O7.out.1.lt
        go_cut [15, 16] (fun p q wx => ∃ v1 v2 : Nat, p = .pointer (some ⟨v1, 0, none⟩) ∧ q = .pointer (some ⟨v2, 0, none⟩) ∧ w7.heap.size ≤ v1 ∧ w7.heap.size ≤ v2 ∧ Ob wx v1 64 #[.int .i64 (t.first + (k : Int)), .int .i64 yg, .int .i64 ye] ∧ Ob wx v2 64 #[.int .i64 (zd), .int .i64 zg, .int .i64 ze] ∧ Below w7.heap.size w7 wx)
        case first =>
          go_region
          all_goals go_wp2_with fail
          all_goals go_meet
          · exact ⟨w7.heap.size, w7.heap.size + 1, rfl, rfl, Nat.le_refl _, Nat.le_succ _, (box_pair w7 _ _ _).1.drew, (box_pair w7 _ _ _).2.1.drew, (box_pair w7 _ _ _).2.2.drew⟩
          · exact ⟨w7.heap.size + 1, w7.heap.size, rfl, rfl, Nat.le_succ _, Nat.le_refl _, (box_pair w7 _ _ _).2.1.drew, (box_pair w7 _ _ _).1.drew, (box_pair w7 _ _ _).2.2.drew⟩
        case rest =>
          clear q0 q1 q2 q3 q4 q5 q6 q7 q8 q9 q10 q11 q12 g0' g1' g2' g3' g4' g5'
          obtain ⟨g1_, g2_, rfl, rfl, hg1, hg2, oA, oZ, hbx⟩ := hcut
          obtain ⟨w9, rfl⟩ : ∃ w9, w9 = wc := ⟨wc, rfl⟩
          obtain ⟨s0, s1, s2⟩ := oA.three
          obtain ⟨s3, s4, s5⟩ := oZ.three
          have OA := Lib.hid oA
          have B9 := Lib.hid hbx
          have gA := oA.lt
          clear oA oZ hbx
          go_upto_region 15 with fail
          go_cut [114] (fun a wx => a = .bool false ∧ wx = w9)
          case first =>
            by_cases hdd : t.first + (k : Int) = zd
            · have d3 := d2 hdd
              have d4 : ¬ t.first + (k : Int) < t.first + (k : Int) := by omega
              rw [← hdd] at s3
              clear d1 d2 hdd
              go_wp2_with fail
              go_meet
              exact ⟨by first | rfl | rw [decide_eq_false (by omega)], rfl⟩
            · clear d2
              go_wp2_with fail
              go_meet
              exact ⟨by first | rfl | rw [decide_eq_false (by omega)], rfl⟩
          case rest =>
            obtain ⟨rfl, rfl⟩ := hcut
            clear s3 s4 s5 s0 s1 s2
            have o9 := Lib.hid (O7.out.2.2.below B9.out).drew
            have HT := Lib.hid (fun (W' : World) (hh : Below w6.heap.size w6 W') => (show (W'.cell? ⟨w.heap.size, 0, none⟩ = some (.slice t.r.ha t.r.hn t.r.hc) ∧ W'.cell? ⟨w.heap.size, 1, none⟩ = some (.slice t.r.wa t.r.wn t.r.wc) ∧ W'.cell? ⟨w.heap.size, 2, none⟩ = some (.int .i64 t.r.own) ∧ W'.cell? ⟨w.heap.size, 3, none⟩ = some (.int .i64 t.r.feed) ∧ W'.cell? ⟨w.heap.size, 4, none⟩ = some (.int .i64 t.r.g0) ∧ W'.cell? ⟨w.heap.size, 5, none⟩ = some (.int .i64 t.r.g1) ∧ W'.cell? ⟨w.heap.size, 6, none⟩ = some (.int .i64 t.r.g2) ∧ W'.cell? ⟨w.heap.size, 7, none⟩ = some (.int .i64 t.r.lost) ∧ W'.cell? ⟨w.heap.size, 8, none⟩ = some (.int .i64 t.first) ∧ W'.cell? ⟨w.heap.size, 9, none⟩ = some (.slice t.da t.dn t.dc) ∧ W'.cell? ⟨w.heap.size, 10, none⟩ = some (.int .i64 t.lo) ∧ W'.cell? ⟨w.heap.size, 11, none⟩ = some (.int .i64 t.hi) ∧ W'.cell? ⟨w.heap.size, 12, none⟩ = some (.slice t.ta t.tn t.tc)) from (OT.out.1.below (B_trans C6.out hh)).task))
            have HSp := Lib.hid (fun W' => lawSpan_any 0 1000000 W')
            have u7 : IntKind.i64.wrap (t.first + (k : Int) - t.first) = k := by rw [show t.first + (k : Int) - t.first = k by omega]; exact IntWalk.i64_in _ (by omega)
            have hk0 : (0 : Int) ≤ k := by omega
            have hkd : (k : Int) ≤ t.dn := by omega
            go_upto_region 17 with fail
            go_cut [] (fun wx => Ob wx w6.heap.size 31 #[(.slice t.r.ha t.r.hn t.r.hc), (.slice t.r.wa t.r.wn t.r.wc), (.int .i64 t.r.own), (.int .i64 t.r.feed), (.int .i64 t.r.g0), (.int .i64 t.r.g1), (.int .i64 t.r.g2), (.int .i64 t.r.lost), (.int .i64 (t.first + (k : Int))), (.slice (t.lateA k) (t.dn - k) (t.dc - k)), (.int .i64 0), (.int .i64 1000000), (.slice none 0 0)] ∧ Below w6.heap.size w6 wx)
            case first =>
              refine wp_region_held' (S := fun W' => Below w6.heap.size w6 W' ∧ Ob W' g1_ 64 #[.int .i64 (t.first + (k : Int)), .int .i64 yg, .int .i64 ye]) (by kernel_rfl) (⟨(B_trans B7.out B9.out).drew, (OA.out).drew⟩) (fun hHeld => ?_)
              refine wpAnyH_take2 (i := 0) (t := 115) (v := ?_) rfl rfl (by kernel_rfl) (by kernel_rfl) (by kernel_rfl) (fun _ _ _ h => Only.not_panic h) (Or.inl ⟨by kernel_rfl, fun W hW => ?_⟩) (by assumption) ?_
              rotate_left
              · have hW2 := hW
                obtain ⟨f0, f1, f2, f3, f4, f5, f6, f7, f8, f9, f10, f11, f12⟩ := HT.out W hW2.1
                obtain ⟨y0, y1, y2⟩ := hW2.2.three
                have gW := hW2.2.lt
                clear hW hW2
                go_simp
                try with_reducible rfl
              try simp only [Act.put, List.setIfInBounds_toArray, List.set_cons_zero, List.set_cons_succ]
              refine wpAnyH_take2 (i := 1) (t := 116) (v := ?_) rfl rfl (by kernel_rfl) (by kernel_rfl) (by kernel_rfl) (fun _ _ _ h => Only.not_panic h) (Or.inl ⟨by kernel_rfl, fun W hW => ?_⟩) (by assumption) ?_
              rotate_left
              · have hW2 := hW
                obtain ⟨f0, f1, f2, f3, f4, f5, f6, f7, f8, f9, f10, f11, f12⟩ := HT.out W hW2.1
                obtain ⟨y0, y1, y2⟩ := hW2.2.three
                have gW := hW2.2.lt
                clear hW hW2
                go_simp
                try with_reducible rfl
              try simp only [Act.put, List.setIfInBounds_toArray, List.set_cons_zero, List.set_cons_succ]
              refine wpAnyH_take2 (i := 2) (t := 117) (v := ?_) rfl rfl (by kernel_rfl) (by kernel_rfl) (by kernel_rfl) (fun _ _ _ h => Only.not_panic h) (Or.inl ⟨by kernel_rfl, fun W hW => ?_⟩) (by assumption) ?_
              rotate_left
              · have hW2 := hW
                obtain ⟨f0, f1, f2, f3, f4, f5, f6, f7, f8, f9, f10, f11, f12⟩ := HT.out W hW2.1
                obtain ⟨y0, y1, y2⟩ := hW2.2.three
                have gW := hW2.2.lt
                clear hW hW2
                go_simp
                try with_reducible rfl
              try simp only [Act.put, List.setIfInBounds_toArray, List.set_cons_zero, List.set_cons_succ]
              refine wpAnyH_take2 (i := 3) (t := 118) (v := ?_) rfl rfl (by kernel_rfl) (by kernel_rfl) (by kernel_rfl) (fun _ _ _ h => Only.not_panic h) (Or.inl ⟨by kernel_rfl, fun W hW => ?_⟩) (by assumption) ?_
              rotate_left
              · have hW2 := hW
                obtain ⟨f0, f1, f2, f3, f4, f5, f6, f7, f8, f9, f10, f11, f12⟩ := HT.out W hW2.1
                obtain ⟨y0, y1, y2⟩ := hW2.2.three
                have gW := hW2.2.lt
                clear hW hW2
                go_simp
                try with_reducible rfl
              try simp only [Act.put, List.setIfInBounds_toArray, List.set_cons_zero, List.set_cons_succ]
              refine wpAnyH_take2 (i := 4) (t := 119) (v := ?_) rfl rfl (by kernel_rfl) (by kernel_rfl) (by kernel_rfl) (fun _ _ _ h => Only.not_panic h) (Or.inl ⟨by kernel_rfl, fun W hW => ?_⟩) (by assumption) ?_
              rotate_left
              · have hW2 := hW
                obtain ⟨f0, f1, f2, f3, f4, f5, f6, f7, f8, f9, f10, f11, f12⟩ := HT.out W hW2.1
                obtain ⟨y0, y1, y2⟩ := hW2.2.three
                have gW := hW2.2.lt
                clear hW hW2
                go_simp
                try with_reducible rfl
              try simp only [Act.put, List.setIfInBounds_toArray, List.set_cons_zero, List.set_cons_succ]
              refine wpAnyH_take2 (i := 5) (t := 120) (v := ?_) rfl rfl (by kernel_rfl) (by kernel_rfl) (by kernel_rfl) (fun _ _ _ h => Only.not_panic h) (Or.inl ⟨by kernel_rfl, fun W hW => ?_⟩) (by assumption) ?_
              rotate_left
              · have hW2 := hW
                obtain ⟨f0, f1, f2, f3, f4, f5, f6, f7, f8, f9, f10, f11, f12⟩ := HT.out W hW2.1
                obtain ⟨y0, y1, y2⟩ := hW2.2.three
                have gW := hW2.2.lt
                clear hW hW2
                go_simp
                try with_reducible rfl
              try simp only [Act.put, List.setIfInBounds_toArray, List.set_cons_zero, List.set_cons_succ]
              refine wpAnyH_take2 (i := 6) (t := 121) (v := ?_) rfl rfl (by kernel_rfl) (by kernel_rfl) (by kernel_rfl) (fun _ _ _ h => Only.not_panic h) (Or.inl ⟨by kernel_rfl, fun W hW => ?_⟩) (by assumption) ?_
              rotate_left
              · have hW2 := hW
                obtain ⟨f0, f1, f2, f3, f4, f5, f6, f7, f8, f9, f10, f11, f12⟩ := HT.out W hW2.1
                obtain ⟨y0, y1, y2⟩ := hW2.2.three
                have gW := hW2.2.lt
                clear hW hW2
                go_simp
                try with_reducible rfl
              try simp only [Act.put, List.setIfInBounds_toArray, List.set_cons_zero, List.set_cons_succ]
              refine wpAnyH_take2 (i := 7) (t := 122) (v := ?_) rfl rfl (by kernel_rfl) (by kernel_rfl) (by kernel_rfl) (fun _ _ _ h => Only.not_panic h) (Or.inl ⟨by kernel_rfl, fun W hW => ?_⟩) (by assumption) ?_
              rotate_left
              · have hW2 := hW
                obtain ⟨f0, f1, f2, f3, f4, f5, f6, f7, f8, f9, f10, f11, f12⟩ := HT.out W hW2.1
                obtain ⟨y0, y1, y2⟩ := hW2.2.three
                have gW := hW2.2.lt
                clear hW hW2
                go_simp
                try with_reducible rfl
              try simp only [Act.put, List.setIfInBounds_toArray, List.set_cons_zero, List.set_cons_succ]
              refine wpAnyH_take2 (i := 8) (t := 123) (v := ?_) rfl rfl (by kernel_rfl) (by kernel_rfl) (by kernel_rfl) (fun _ _ _ h => Only.not_panic h) (Or.inl ⟨by kernel_rfl, fun W hW => ?_⟩) (by assumption) ?_
              rotate_left
              · have hW2 := hW
                obtain ⟨f0, f1, f2, f3, f4, f5, f6, f7, f8, f9, f10, f11, f12⟩ := HT.out W hW2.1
                obtain ⟨y0, y1, y2⟩ := hW2.2.three
                have gW := hW2.2.lt
                clear hW hW2
                go_simp
                try with_reducible rfl
              try simp only [Act.put, List.setIfInBounds_toArray, List.set_cons_zero, List.set_cons_succ]
              refine wpAnyH_take2 (i := 9) (t := 124) (v := .slice (t.lateA k) (t.dn - k) (t.dc - k)) rfl rfl (by kernel_rfl) (by kernel_rfl) (by kernel_rfl) (fun _ _ _ h => Only.not_panic h) (Or.inl ⟨by kernel_rfl, fun W hW => ?_⟩) (by assumption) ?_
              · have hW2 := hW
                obtain ⟨f0, f1, f2, f3, f4, f5, f6, f7, f8, f9, f10, f11, f12⟩ := HT.out W hW2.1
                obtain ⟨y0, y1, y2⟩ := hW2.2.three
                have gW := hW2.2.lt
                clear hW hW2
                go_simp
                rfl
              try simp only [Act.put, List.setIfInBounds_toArray, List.set_cons_zero, List.set_cons_succ]
              refine wpAnyH_take2 (i := 11) (t := 126) (v := ?_) rfl rfl (by kernel_rfl) (by kernel_rfl) (by kernel_rfl) (fun _ _ _ h => Only.not_panic h) (Or.inl ⟨by kernel_rfl, fun W hW => ?_⟩) (by assumption) ?_
              rotate_left
              · have hW2 := hW
                obtain ⟨f0, f1, f2, f3, f4, f5, f6, f7, f8, f9, f10, f11, f12⟩ := HT.out W hW2.1
                obtain ⟨y0, y1, y2⟩ := hW2.2.three
                have gW := hW2.2.lt
                clear hW hW2
                go_simp
                try with_reducible rfl
              try simp only [Act.put, List.setIfInBounds_toArray, List.set_cons_zero, List.set_cons_succ]
              refine wpAnyH_ready (rs := [10]) (by kernel_rfl) (by simp) ?_
              refine AllReadyH.cons rfl (fun K hK => ?_) ?_
              · go_simp
                with_reducible refine (HSp.out _).mono ?_
                rintro ev w10 ⟨rfl, hb10⟩
                try simp only []
                replace o9 := Lib.hid (o9.out.below hb10)
                refine hK.out _ _ ?_ (fun hHeld => ?_)
                · exact ⟨B_trans hHeld.1 hb10, hHeld.2.below hb10⟩
                clear hK K
                try simp only [Act.put, List.setIfInBounds_toArray, List.set_cons_zero, List.set_cons_succ]
                refine wpAnyH_ready (rs := [12]) (by kernel_rfl) (by simp) ?_
                refine AllReadyH.cons rfl (fun K hK => ?_) ?_
                · have v8 := o9.out.cell 8
                  have g8 := o9.out.frozen 8
                  simp only [List.getElem?_toArray, List.getElem?_cons_zero, List.getElem?_cons_succ] at v8
                  have o9' := Lib.hid (show Ob ((w10).setCell ⟨w6.heap.size, 8, none⟩ (.int .i64 (t.first + (k : Int)))) w6.heap.size 31 #[(.slice t.r.ha t.r.hn t.r.hc), (.slice t.r.wa t.r.wn t.r.wc), (.int .i64 t.r.own), (.int .i64 t.r.feed), (.int .i64 t.r.g0), (.int .i64 t.r.g1), (.int .i64 t.r.g2), (.int .i64 t.r.lost), (.int .i64 (t.first + (k : Int))), (.slice t.da t.dn t.dc), (.int .i64 t.lo), (.int .i64 t.hi), (.slice none 0 0)] from (o9.out).set 8 _)
                  go_simp
                  replace o9 := o9'
                  clear o9' v8 g8
                  refine hK.out _ _ ?_ (fun hHeld => ?_)
                  · exact ⟨(hHeld.1).setCell (by first | omega | (simp only; omega)) _, (hHeld.2).other (by first | omega | (simp only; omega)) _⟩
                  clear hK K
                  try simp only [Act.put, List.setIfInBounds_toArray, List.set_cons_zero, List.set_cons_succ]
                  refine wpAnyH_take2 (i := 13) (t := 127) (v := ?_) rfl rfl (by kernel_rfl) (by kernel_rfl) (by kernel_rfl) (fun _ _ _ h => Only.not_panic h) (Or.inl ⟨by kernel_rfl, fun W hW => ?_⟩) (by assumption) ?_
                  rotate_left
                  · have hW2 := hW
                    obtain ⟨f0, f1, f2, f3, f4, f5, f6, f7, f8, f9, f10, f11, f12⟩ := HT.out W hW2.1
                    obtain ⟨y0, y1, y2⟩ := hW2.2.three
                    have gW := hW2.2.lt
                    clear hW hW2
                    go_simp
                    try with_reducible rfl
                  try simp only [Act.put, List.setIfInBounds_toArray, List.set_cons_zero, List.set_cons_succ]
                  refine wpAnyH_ready (rs := [14]) (by kernel_rfl) (by simp) ?_
                  refine AllReadyH.cons rfl (fun K hK => ?_) ?_
                  · have v9 := o9.out.cell 9
                    have g9 := o9.out.frozen 9
                    simp only [List.getElem?_toArray, List.getElem?_cons_zero, List.getElem?_cons_succ] at v9
                    have o9' := Lib.hid (show Ob (((w10).setCell ⟨w6.heap.size, 8, none⟩ (.int .i64 (t.first + (k : Int)))).setCell ⟨w6.heap.size, 9, none⟩ (.slice (t.lateA k) (t.dn - k) (t.dc - k))) w6.heap.size 31 #[(.slice t.r.ha t.r.hn t.r.hc), (.slice t.r.wa t.r.wn t.r.wc), (.int .i64 t.r.own), (.int .i64 t.r.feed), (.int .i64 t.r.g0), (.int .i64 t.r.g1), (.int .i64 t.r.g2), (.int .i64 t.r.lost), (.int .i64 (t.first + (k : Int))), (.slice (t.lateA k) (t.dn - k) (t.dc - k)), (.int .i64 t.lo), (.int .i64 t.hi), (.slice none 0 0)] from (o9.out).set 9 _)
                    go_simp
                    replace o9 := o9'
                    clear o9' v9 g9
                    refine hK.out _ _ ?_ (fun hHeld => ?_)
                    · exact ⟨(hHeld.1).setCell (by first | omega | (simp only; omega)) _, (hHeld.2).other (by first | omega | (simp only; omega)) _⟩
                    clear hK K
                    try simp only [Act.put, List.setIfInBounds_toArray, List.set_cons_zero, List.set_cons_succ]
                    refine wpAnyH_take2 (i := 15) (t := 128) (v := ?_) rfl rfl (by kernel_rfl) (by kernel_rfl) (by kernel_rfl) (fun _ _ _ h => Only.not_panic h) (Or.inl ⟨by kernel_rfl, fun W hW => ?_⟩) (by assumption) ?_
                    rotate_left
                    · have hW2 := hW
                      obtain ⟨f0, f1, f2, f3, f4, f5, f6, f7, f8, f9, f10, f11, f12⟩ := HT.out W hW2.1
                      obtain ⟨y0, y1, y2⟩ := hW2.2.three
                      have gW := hW2.2.lt
                      clear hW hW2
                      go_simp
                      try with_reducible rfl
                    try simp only [Act.put, List.setIfInBounds_toArray, List.set_cons_zero, List.set_cons_succ]
                    refine wpAnyH_ready (rs := [16]) (by kernel_rfl) (by simp) ?_
                    refine AllReadyH.cons rfl (fun K hK => ?_) ?_
                    · have v10 := o9.out.cell 10
                      have g10 := o9.out.frozen 10
                      have v11 := o9.out.cell 11
                      have g11 := o9.out.frozen 11
                      simp only [List.getElem?_toArray, List.getElem?_cons_zero, List.getElem?_cons_succ] at v10 v11
                      have o9' := Lib.hid (show Ob (((((w10).setCell ⟨w6.heap.size, 8, none⟩ (.int .i64 (t.first + (k : Int)))).setCell ⟨w6.heap.size, 9, none⟩ (.slice (t.lateA k) (t.dn - k) (t.dc - k))).setCell ⟨w6.heap.size, 10, none⟩ (.int .i64 0)).setCell ⟨w6.heap.size, 11, none⟩ (.int .i64 1000000)) w6.heap.size 31 #[(.slice t.r.ha t.r.hn t.r.hc), (.slice t.r.wa t.r.wn t.r.wc), (.int .i64 t.r.own), (.int .i64 t.r.feed), (.int .i64 t.r.g0), (.int .i64 t.r.g1), (.int .i64 t.r.g2), (.int .i64 t.r.lost), (.int .i64 (t.first + (k : Int))), (.slice (t.lateA k) (t.dn - k) (t.dc - k)), (.int .i64 0), (.int .i64 1000000), (.slice none 0 0)] from ((o9.out).set 10 _).set 11 _)
                      go_simp
                      replace o9 := o9'
                      clear o9' v10 g10 v11 g11
                      refine hK.out _ _ ?_ (fun hHeld => ?_)
                      · exact ⟨((hHeld.1).setCell (by first | omega | (simp only; omega)) _).setCell (by first | omega | (simp only; omega)) _, ((hHeld.2).other (by first | omega | (simp only; omega)) _).other (by first | omega | (simp only; omega)) _⟩
                      clear hK K
                      try simp only [Act.put, List.setIfInBounds_toArray, List.set_cons_zero, List.set_cons_succ]
                      refine wpAnyH_done (by kernel_rfl) (Only.mk ?_) _
                      go_wp2_with fail
                      go_meet
                      exact ⟨o9.out, hHeld.1⟩
                    exact AllReadyH.nil
                  exact AllReadyH.nil
                exact AllReadyH.nil
              exact AllReadyH.nil
            case rest =>
              clear HT HSp o9
              obtain ⟨oU, hbu⟩ := hcut
              obtain ⟨wv, rfl⟩ : ∃ wv, wv = wc := ⟨wc, rfl⟩
              obtain ⟨f0, f1, f2, f3, f4, f5, f6, f7, f8, f9, f10, f11, f12⟩ := oU.thirteen
              obtain ⟨z0, z1⟩ : wv.cell? ⟨w.heap.size + 1, 0, none⟩ = some (.int .u8 x0) ∧ wv.cell? ⟨w.heap.size + 1, 1, none⟩ = some (.slice xa xn xc) := ⟨(OT.out.2.below (B_trans C6.out hbu)).cell 0, (OT.out.2.below (B_trans C6.out hbu)).cell 1⟩
              have BV := Lib.hid (B_trans hw2.out (B_trans BR.out (B_trans C6.out hbu)))
              have CV := Lib.hid (B_trans C6.out hbu)
              have OU := Lib.hid oU
              clear oU hbu
              go_wp2_with fail
              refine (HW.out _ BV.out).mono ?_
              rintro e w8 ⟨ca, cc, rfl, hC, hb8⟩
              have C8 := Lib.hid (B_trans CV.out hb8)
              have HB := Lib.hid (show ∀ W', Below w8.heap.size w8 W' → Calls Try.prog 42 #[.agg #[(.slice t.r.ha t.r.hn t.r.hc), (.slice t.r.wa t.r.wn t.r.wc), (.int .i64 t.r.own), (.int .i64 t.r.feed), (.int .i64 t.r.g0), (.int .i64 t.r.g1), (.int .i64 t.r.g2), (.int .i64 t.r.lost), (.int .i64 (t.first + (k : Int))), (.slice (t.lateA k) (t.dn - k) (t.dc - k)), (.int .i64 0), (.int .i64 1000000), (.slice none 0 0)], .slice ca (t.dn - k + 1) cc, .agg #[.int .i64 (t.first + (k : Int)), .int .i64 yg, .int .i64 ye]] W' fun x w' => x = .returned (.bool (inB (c 0) (keepS t.r yg ye).1 (keepS t.r yg ye).2)) ∧ Below W'.heap.size W' w' from fun W' hh => by
                have h := HK.out W' ca cc 0 yg ye (B_trans (B_trans BV.out hb8) hh) (hC.below hh) (Nat.zero_le _) ⟨b13, b14⟩ ⟨b15, b16⟩
                rw [show t.first + (k : Int) + ((0 : Nat) : Int) = t.first + (k : Int) by omega] at h
                exact h)
              have HN := Lib.hid (show ∀ W', Below w8.heap.size w8 W' → Calls Try.prog 42 #[.agg #[(.slice t.r.ha t.r.hn t.r.hc), (.slice t.r.wa t.r.wn t.r.wc), (.int .i64 t.r.own), (.int .i64 t.r.feed), (.int .i64 t.r.g0), (.int .i64 t.r.g1), (.int .i64 t.r.g2), (.int .i64 t.r.lost), (.int .i64 (t.first + (k : Int))), (.slice (t.lateA k) (t.dn - k) (t.dc - k)), (.int .i64 0), (.int .i64 1000000), (.slice none 0 0)], .slice ca (t.dn - k + 1) cc, .agg #[.int .i64 zd, .int .i64 zg, .int .i64 ze]] W' fun x w' => x = .returned (.bool (inB (c m) (keepS t.r zg ze).1 (keepS t.r zg ze).2)) ∧ Below W'.heap.size W' w' from fun W' hh => by
                have h := HK.out W' ca cc m zg ze (B_trans (B_trans BV.out hb8) hh) (hC.below hh) hmd ⟨b3, b4⟩ ⟨b5, b6⟩
                rw [← HZD.out] at h
                exact h)
              have HS := Lib.hid (fun (W' : World) (hh : Below w8.heap.size w8 W') => (show (W'.cell? ⟨w6.heap.size, 0, none⟩ = some (.slice t.r.ha t.r.hn t.r.hc) ∧ W'.cell? ⟨w6.heap.size, 1, none⟩ = some (.slice t.r.wa t.r.wn t.r.wc) ∧ W'.cell? ⟨w6.heap.size, 2, none⟩ = some (.int .i64 t.r.own) ∧ W'.cell? ⟨w6.heap.size, 3, none⟩ = some (.int .i64 t.r.feed) ∧ W'.cell? ⟨w6.heap.size, 4, none⟩ = some (.int .i64 t.r.g0) ∧ W'.cell? ⟨w6.heap.size, 5, none⟩ = some (.int .i64 t.r.g1) ∧ W'.cell? ⟨w6.heap.size, 6, none⟩ = some (.int .i64 t.r.g2) ∧ W'.cell? ⟨w6.heap.size, 7, none⟩ = some (.int .i64 t.r.lost) ∧ W'.cell? ⟨w6.heap.size, 8, none⟩ = some (.int .i64 (t.first + (k : Int))) ∧ W'.cell? ⟨w6.heap.size, 9, none⟩ = some (.slice (t.lateA k) (t.dn - k) (t.dc - k)) ∧ W'.cell? ⟨w6.heap.size, 10, none⟩ = some (.int .i64 0) ∧ W'.cell? ⟨w6.heap.size, 11, none⟩ = some (.int .i64 1000000) ∧ W'.cell? ⟨w6.heap.size, 12, none⟩ = some (.slice none 0 0)) ∧ W'.cell? ⟨w.heap.size, 12, none⟩ = some (.slice (some ⟨p, o, none⟩) t.tn t.tc) ∧ W'.cell? ⟨p, o + n * 3, none⟩ = some (.int .i64 zd) ∧ W'.cell? ⟨p, o + n * 3 + 1, none⟩ = some (.int .i64 zg) ∧ W'.cell? ⟨p, o + n * 3 + 2, none⟩ = some (.int .i64 ze) ∧ W'.cell? ⟨p, o + b * 3, none⟩ = some (.int .i64 (t.first + (k : Int))) ∧ W'.cell? ⟨p, o + b * 3 + 1, none⟩ = some (.int .i64 yg) ∧ W'.cell? ⟨p, o + b * 3 + 2, none⟩ = some (.int .i64 ye) from ⟨((OU.out.below hb8).below hh).thirteen, by have h := (OT.out.1.below (B_trans C8.out hh)).task.2.2.2.2.2.2.2.2.2.2.2.2; rwa [HTA.out] at h, ((B_trans C8.out hh).cell (p := ⟨p, _, none⟩) hpl).trans g0, ((B_trans C8.out hh).cell (p := ⟨p, _, none⟩) hpl).trans g1, ((B_trans C8.out hh).cell (p := ⟨p, _, none⟩) hpl).trans g2, ((B_trans C8.out hh).cell (p := ⟨p, _, none⟩) hpl).trans g3, ((B_trans C8.out hh).cell (p := ⟨p, _, none⟩) hpl).trans g4, ((B_trans C8.out hh).cell (p := ⟨p, _, none⟩) hpl).trans g5⟩))
              clear f0 f1 f2 f3 f4 f5 f6 f7 f8 f9 f10 f11 f12 z0 z1 hC hb8
              go_upto_region 21 with fail
              go_cut [158] (fun a wx => a = .bool false ∧ Below w8.heap.size w8 wx)
              case first =>
                cases hq : inB (c 0) (keepS t.r yg ye).1 (keepS t.r yg ye).2 with
                | true =>
                  have hn0 : inB (c m) (keepS t.r zg ze).1 (keepS t.r zg ze).2 = false := by
                    cases hr : inB (c m) (keepS t.r zg ze).1 (keepS t.r zg ze).2 with
                    | false => rfl
                    | true => exact absurd (inB_iff.1 hr) (NO.out (inB_iff.1 hq))
                  have HKB' := HB.out
                  have HKN' := HN.out
                  rw [hq] at HKB'
                  rw [hn0] at HKN'
                  have HKB := Lib.hid HKB'
                  have HKN := Lib.hid HKN'
                  clear HKB' HKN' hn0 hq
                  refine wp_region_held' (S := fun W' => Below w8.heap.size w8 W') (by kernel_rfl) ((Below.refl _ w8).drew) (fun hHeld => ?_)
                  refine wpAnyH_take2 (i := 0) (t := 137) (v := ?_) rfl rfl (by kernel_rfl) (by kernel_rfl) (by kernel_rfl) (fun _ _ _ h => Only.not_panic h) (Or.inl ⟨by kernel_rfl, fun W hW => ?_⟩) (by assumption) ?_
                  rotate_left
                  · have hW2 := hW
                    obtain ⟨⟨f0, f1, f2, f3, f4, f5, f6, f7, f8, f9, f10, f11, f12⟩, r12, y0, y1, y2, y3, y4, y5⟩ := HS.out W hW2
                    clear hW hW2
                    go_simp
                    try with_reducible rfl
                  try simp only [Act.put, List.setIfInBounds_toArray, List.set_cons_zero, List.set_cons_succ]
                  refine wpAnyH_take2 (i := 1) (t := 138) (v := ?_) rfl rfl (by kernel_rfl) (by kernel_rfl) (by kernel_rfl) (fun _ _ _ h => Only.not_panic h) (Or.inl ⟨by kernel_rfl, fun W hW => ?_⟩) (by assumption) ?_
                  rotate_left
                  · have hW2 := hW
                    obtain ⟨⟨f0, f1, f2, f3, f4, f5, f6, f7, f8, f9, f10, f11, f12⟩, r12, y0, y1, y2, y3, y4, y5⟩ := HS.out W hW2
                    clear hW hW2
                    go_simp
                    try with_reducible rfl
                  try simp only [Act.put, List.setIfInBounds_toArray, List.set_cons_zero, List.set_cons_succ]
                  refine wpAnyH_take2 (i := 2) (t := 139) (v := ?_) rfl rfl (by kernel_rfl) (by kernel_rfl) (by kernel_rfl) (fun _ _ _ h => Only.not_panic h) (Or.inl ⟨by kernel_rfl, fun W hW => ?_⟩) (by assumption) ?_
                  rotate_left
                  · have hW2 := hW
                    obtain ⟨⟨f0, f1, f2, f3, f4, f5, f6, f7, f8, f9, f10, f11, f12⟩, r12, y0, y1, y2, y3, y4, y5⟩ := HS.out W hW2
                    clear hW hW2
                    go_simp
                    try with_reducible rfl
                  try simp only [Act.put, List.setIfInBounds_toArray, List.set_cons_zero, List.set_cons_succ]
                  refine wpAnyH_take2 (i := 3) (t := 140) (v := ?_) rfl rfl (by kernel_rfl) (by kernel_rfl) (by kernel_rfl) (fun _ _ _ h => Only.not_panic h) (Or.inl ⟨by kernel_rfl, fun W hW => ?_⟩) (by assumption) ?_
                  rotate_left
                  · have hW2 := hW
                    obtain ⟨⟨f0, f1, f2, f3, f4, f5, f6, f7, f8, f9, f10, f11, f12⟩, r12, y0, y1, y2, y3, y4, y5⟩ := HS.out W hW2
                    clear hW hW2
                    go_simp
                    try with_reducible rfl
                  try simp only [Act.put, List.setIfInBounds_toArray, List.set_cons_zero, List.set_cons_succ]
                  refine wpAnyH_take2 (i := 4) (t := 141) (v := ?_) rfl rfl (by kernel_rfl) (by kernel_rfl) (by kernel_rfl) (fun _ _ _ h => Only.not_panic h) (Or.inl ⟨by kernel_rfl, fun W hW => ?_⟩) (by assumption) ?_
                  rotate_left
                  · have hW2 := hW
                    obtain ⟨⟨f0, f1, f2, f3, f4, f5, f6, f7, f8, f9, f10, f11, f12⟩, r12, y0, y1, y2, y3, y4, y5⟩ := HS.out W hW2
                    clear hW hW2
                    go_simp
                    try with_reducible rfl
                  try simp only [Act.put, List.setIfInBounds_toArray, List.set_cons_zero, List.set_cons_succ]
                  refine wpAnyH_take2 (i := 5) (t := 142) (v := ?_) rfl rfl (by kernel_rfl) (by kernel_rfl) (by kernel_rfl) (fun _ _ _ h => Only.not_panic h) (Or.inl ⟨by kernel_rfl, fun W hW => ?_⟩) (by assumption) ?_
                  rotate_left
                  · have hW2 := hW
                    obtain ⟨⟨f0, f1, f2, f3, f4, f5, f6, f7, f8, f9, f10, f11, f12⟩, r12, y0, y1, y2, y3, y4, y5⟩ := HS.out W hW2
                    clear hW hW2
                    go_simp
                    try with_reducible rfl
                  try simp only [Act.put, List.setIfInBounds_toArray, List.set_cons_zero, List.set_cons_succ]
                  refine wpAnyH_take2 (i := 6) (t := 143) (v := ?_) rfl rfl (by kernel_rfl) (by kernel_rfl) (by kernel_rfl) (fun _ _ _ h => Only.not_panic h) (Or.inl ⟨by kernel_rfl, fun W hW => ?_⟩) (by assumption) ?_
                  rotate_left
                  · have hW2 := hW
                    obtain ⟨⟨f0, f1, f2, f3, f4, f5, f6, f7, f8, f9, f10, f11, f12⟩, r12, y0, y1, y2, y3, y4, y5⟩ := HS.out W hW2
                    clear hW hW2
                    go_simp
                    try with_reducible rfl
                  try simp only [Act.put, List.setIfInBounds_toArray, List.set_cons_zero, List.set_cons_succ]
                  refine wpAnyH_take2 (i := 7) (t := 144) (v := ?_) rfl rfl (by kernel_rfl) (by kernel_rfl) (by kernel_rfl) (fun _ _ _ h => Only.not_panic h) (Or.inl ⟨by kernel_rfl, fun W hW => ?_⟩) (by assumption) ?_
                  rotate_left
                  · have hW2 := hW
                    obtain ⟨⟨f0, f1, f2, f3, f4, f5, f6, f7, f8, f9, f10, f11, f12⟩, r12, y0, y1, y2, y3, y4, y5⟩ := HS.out W hW2
                    clear hW hW2
                    go_simp
                    try with_reducible rfl
                  try simp only [Act.put, List.setIfInBounds_toArray, List.set_cons_zero, List.set_cons_succ]
                  refine wpAnyH_take2 (i := 8) (t := 145) (v := ?_) rfl rfl (by kernel_rfl) (by kernel_rfl) (by kernel_rfl) (fun _ _ _ h => Only.not_panic h) (Or.inl ⟨by kernel_rfl, fun W hW => ?_⟩) (by assumption) ?_
                  rotate_left
                  · have hW2 := hW
                    obtain ⟨⟨f0, f1, f2, f3, f4, f5, f6, f7, f8, f9, f10, f11, f12⟩, r12, y0, y1, y2, y3, y4, y5⟩ := HS.out W hW2
                    clear hW hW2
                    go_simp
                    try with_reducible rfl
                  try simp only [Act.put, List.setIfInBounds_toArray, List.set_cons_zero, List.set_cons_succ]
                  refine wpAnyH_take2 (i := 9) (t := 146) (v := ?_) rfl rfl (by kernel_rfl) (by kernel_rfl) (by kernel_rfl) (fun _ _ _ h => Only.not_panic h) (Or.inl ⟨by kernel_rfl, fun W hW => ?_⟩) (by assumption) ?_
                  rotate_left
                  · have hW2 := hW
                    obtain ⟨⟨f0, f1, f2, f3, f4, f5, f6, f7, f8, f9, f10, f11, f12⟩, r12, y0, y1, y2, y3, y4, y5⟩ := HS.out W hW2
                    clear hW hW2
                    go_simp
                    try with_reducible rfl
                  try simp only [Act.put, List.setIfInBounds_toArray, List.set_cons_zero, List.set_cons_succ]
                  refine wpAnyH_ready (rs := [10]) (by kernel_rfl) (by simp) ?_
                  refine AllReadyH.cons_want rfl (by kernel_rfl) (fun K hK => ?_) ?_
                  · go_simp
                    with_reducible refine (HKB.out _ hHeld).mono ?_
                    rintro ev w10 ⟨rfl, hb10⟩
                    try simp only []
                    refine hK.out _ _ ?_ (fun hHeld => ?_)
                    · exact B_trans hHeld hb10
                    clear hK K
                    try simp only [Act.put, List.setIfInBounds_toArray, List.set_cons_zero, List.set_cons_succ]
                    refine wpAnyH_take2 (i := 11) (t := 148) (v := ?_) rfl rfl (by kernel_rfl) (by kernel_rfl) (by kernel_rfl) (fun _ _ _ h => Only.not_panic h) (Or.inl ⟨by kernel_rfl, fun W hW => ?_⟩) (by assumption) ?_
                    rotate_left
                    · have hW2 := hW
                      obtain ⟨⟨f0, f1, f2, f3, f4, f5, f6, f7, f8, f9, f10, f11, f12⟩, r12, y0, y1, y2, y3, y4, y5⟩ := HS.out W hW2
                      clear hW hW2
                      go_simp
                      try with_reducible rfl
                    try simp only [Act.put, List.setIfInBounds_toArray, List.set_cons_zero, List.set_cons_succ]
                    refine wpAnyH_take2 (i := 12) (t := 149) (v := ?_) rfl rfl (by kernel_rfl) (by kernel_rfl) (by kernel_rfl) (fun _ _ _ h => Only.not_panic h) (Or.inl ⟨by kernel_rfl, fun W hW => ?_⟩) (by assumption) ?_
                    rotate_left
                    · have hW2 := hW
                      obtain ⟨⟨f0, f1, f2, f3, f4, f5, f6, f7, f8, f9, f10, f11, f12⟩, r12, y0, y1, y2, y3, y4, y5⟩ := HS.out W hW2
                      clear hW hW2
                      go_simp
                      try with_reducible rfl
                    try simp only [Act.put, List.setIfInBounds_toArray, List.set_cons_zero, List.set_cons_succ]
                    refine wpAnyH_take2 (i := 13) (t := 150) (v := ?_) rfl rfl (by kernel_rfl) (by kernel_rfl) (by kernel_rfl) (fun _ _ _ h => Only.not_panic h) (Or.inl ⟨by kernel_rfl, fun W hW => ?_⟩) (by assumption) ?_
                    rotate_left
                    · have hW2 := hW
                      obtain ⟨⟨f0, f1, f2, f3, f4, f5, f6, f7, f8, f9, f10, f11, f12⟩, r12, y0, y1, y2, y3, y4, y5⟩ := HS.out W hW2
                      clear hW hW2
                      go_simp
                      try with_reducible rfl
                    try simp only [Act.put, List.setIfInBounds_toArray, List.set_cons_zero, List.set_cons_succ]
                    refine wpAnyH_take2 (i := 14) (t := 151) (v := ?_) rfl rfl (by kernel_rfl) (by kernel_rfl) (by kernel_rfl) (fun _ _ _ h => Only.not_panic h) (Or.inl ⟨by kernel_rfl, fun W hW => ?_⟩) (by assumption) ?_
                    rotate_left
                    · have hW2 := hW
                      obtain ⟨⟨f0, f1, f2, f3, f4, f5, f6, f7, f8, f9, f10, f11, f12⟩, r12, y0, y1, y2, y3, y4, y5⟩ := HS.out W hW2
                      clear hW hW2
                      go_simp
                      try with_reducible rfl
                    try simp only [Act.put, List.setIfInBounds_toArray, List.set_cons_zero, List.set_cons_succ]
                    refine wpAnyH_take2 (i := 15) (t := 152) (v := ?_) rfl rfl (by kernel_rfl) (by kernel_rfl) (by kernel_rfl) (fun _ _ _ h => Only.not_panic h) (Or.inl ⟨by kernel_rfl, fun W hW => ?_⟩) (by assumption) ?_
                    rotate_left
                    · have hW2 := hW
                      obtain ⟨⟨f0, f1, f2, f3, f4, f5, f6, f7, f8, f9, f10, f11, f12⟩, r12, y0, y1, y2, y3, y4, y5⟩ := HS.out W hW2
                      clear hW hW2
                      go_simp
                      try with_reducible rfl
                    try simp only [Act.put, List.setIfInBounds_toArray, List.set_cons_zero, List.set_cons_succ]
                    refine wpAnyH_take2 (i := 16) (t := 153) (v := ?_) rfl rfl (by kernel_rfl) (by kernel_rfl) (by kernel_rfl) (fun _ _ _ h => Only.not_panic h) (Or.inl ⟨by kernel_rfl, fun W hW => ?_⟩) (by assumption) ?_
                    rotate_left
                    · have hW2 := hW
                      obtain ⟨⟨f0, f1, f2, f3, f4, f5, f6, f7, f8, f9, f10, f11, f12⟩, r12, y0, y1, y2, y3, y4, y5⟩ := HS.out W hW2
                      clear hW hW2
                      go_simp
                      try with_reducible rfl
                    try simp only [Act.put, List.setIfInBounds_toArray, List.set_cons_zero, List.set_cons_succ]
                    refine wpAnyH_take2 (i := 17) (t := 154) (v := ?_) rfl rfl (by kernel_rfl) (by kernel_rfl) (by kernel_rfl) (fun _ _ _ h => Only.not_panic h) (Or.inl ⟨by kernel_rfl, fun W hW => ?_⟩) (by assumption) ?_
                    rotate_left
                    · have hW2 := hW
                      obtain ⟨⟨f0, f1, f2, f3, f4, f5, f6, f7, f8, f9, f10, f11, f12⟩, r12, y0, y1, y2, y3, y4, y5⟩ := HS.out W hW2
                      clear hW hW2
                      go_simp
                      try with_reducible rfl
                    try simp only [Act.put, List.setIfInBounds_toArray, List.set_cons_zero, List.set_cons_succ]
                    refine wpAnyH_take2 (i := 18) (t := 155) (v := ?_) rfl rfl (by kernel_rfl) (by kernel_rfl) (by kernel_rfl) (fun _ _ _ h => Only.not_panic h) (Or.inl ⟨by kernel_rfl, fun W hW => ?_⟩) (by assumption) ?_
                    rotate_left
                    · have hW2 := hW
                      obtain ⟨⟨f0, f1, f2, f3, f4, f5, f6, f7, f8, f9, f10, f11, f12⟩, r12, y0, y1, y2, y3, y4, y5⟩ := HS.out W hW2
                      clear hW hW2
                      go_simp
                      try with_reducible rfl
                    try simp only [Act.put, List.setIfInBounds_toArray, List.set_cons_zero, List.set_cons_succ]
                    refine wpAnyH_take2 (i := 19) (t := 156) (v := ?_) rfl rfl (by kernel_rfl) (by kernel_rfl) (by kernel_rfl) (fun _ _ _ h => Only.not_panic h) (Or.inl ⟨by kernel_rfl, fun W hW => ?_⟩) (by assumption) ?_
                    rotate_left
                    · have hW2 := hW
                      obtain ⟨⟨f0, f1, f2, f3, f4, f5, f6, f7, f8, f9, f10, f11, f12⟩, r12, y0, y1, y2, y3, y4, y5⟩ := HS.out W hW2
                      clear hW hW2
                      go_simp
                      try with_reducible rfl
                    try simp only [Act.put, List.setIfInBounds_toArray, List.set_cons_zero, List.set_cons_succ]
                    refine wpAnyH_ready (rs := [20]) (by kernel_rfl) (by simp) ?_
                    refine AllReadyH.cons_want rfl (by kernel_rfl) (fun K hK => ?_) ?_
                    · go_simp
                      with_reducible refine (HKN.out _ hHeld).mono ?_
                      rintro ev w20 ⟨rfl, hb20⟩
                      try simp only []
                      refine hK.out _ _ ?_ (fun hHeld => ?_)
                      · exact B_trans hHeld hb20
                      clear hK K
                      try simp only [Act.put, List.setIfInBounds_toArray, List.set_cons_zero, List.set_cons_succ]
                      refine wpAnyH_take2 (i := 21) (t := 158) (v := ?_) rfl rfl (by kernel_rfl) (by kernel_rfl) (by kernel_rfl) (fun _ _ _ h => Only.not_panic h) (Or.inl ⟨by kernel_rfl, fun W hW => ?_⟩) (by assumption) ?_
                      rotate_left
                      · have hW2 := hW
                        obtain ⟨⟨f0, f1, f2, f3, f4, f5, f6, f7, f8, f9, f10, f11, f12⟩, r12, y0, y1, y2, y3, y4, y5⟩ := HS.out W hW2
                        clear hW hW2
                        go_simp
                        try with_reducible rfl
                      try simp only [Act.put, List.setIfInBounds_toArray, List.set_cons_zero, List.set_cons_succ]
                      refine wpAnyH_done (by kernel_rfl) (Only.mk ?_) _
                      go_wp2_with fail
                      go_meet
                      exact ⟨rfl, hHeld⟩
                    exact AllReadyH.nil
                  exact AllReadyH.nil
                | false =>
                  have HKB' := HB.out
                  rw [hq] at HKB'
                  have HKB := Lib.hid HKB'
                  clear HKB' hq
                  refine wp_region_held' (S := fun W' => Below w8.heap.size w8 W') (by kernel_rfl) ((Below.refl _ w8).drew) (fun hHeld => ?_)
                  refine wpAnyH_take2 (i := 0) (t := 137) (v := ?_) rfl rfl (by kernel_rfl) (by kernel_rfl) (by kernel_rfl) (fun _ _ _ h => Only.not_panic h) (Or.inl ⟨by kernel_rfl, fun W hW => ?_⟩) (by assumption) ?_
                  rotate_left
                  · have hW2 := hW
                    obtain ⟨⟨f0, f1, f2, f3, f4, f5, f6, f7, f8, f9, f10, f11, f12⟩, r12, y0, y1, y2, y3, y4, y5⟩ := HS.out W hW2
                    clear hW hW2
                    go_simp
                    try with_reducible rfl
                  try simp only [Act.put, List.setIfInBounds_toArray, List.set_cons_zero, List.set_cons_succ]
                  refine wpAnyH_take2 (i := 1) (t := 138) (v := ?_) rfl rfl (by kernel_rfl) (by kernel_rfl) (by kernel_rfl) (fun _ _ _ h => Only.not_panic h) (Or.inl ⟨by kernel_rfl, fun W hW => ?_⟩) (by assumption) ?_
                  rotate_left
                  · have hW2 := hW
                    obtain ⟨⟨f0, f1, f2, f3, f4, f5, f6, f7, f8, f9, f10, f11, f12⟩, r12, y0, y1, y2, y3, y4, y5⟩ := HS.out W hW2
                    clear hW hW2
                    go_simp
                    try with_reducible rfl
                  try simp only [Act.put, List.setIfInBounds_toArray, List.set_cons_zero, List.set_cons_succ]
                  refine wpAnyH_take2 (i := 2) (t := 139) (v := ?_) rfl rfl (by kernel_rfl) (by kernel_rfl) (by kernel_rfl) (fun _ _ _ h => Only.not_panic h) (Or.inl ⟨by kernel_rfl, fun W hW => ?_⟩) (by assumption) ?_
                  rotate_left
                  · have hW2 := hW
                    obtain ⟨⟨f0, f1, f2, f3, f4, f5, f6, f7, f8, f9, f10, f11, f12⟩, r12, y0, y1, y2, y3, y4, y5⟩ := HS.out W hW2
                    clear hW hW2
                    go_simp
                    try with_reducible rfl
                  try simp only [Act.put, List.setIfInBounds_toArray, List.set_cons_zero, List.set_cons_succ]
                  refine wpAnyH_take2 (i := 3) (t := 140) (v := ?_) rfl rfl (by kernel_rfl) (by kernel_rfl) (by kernel_rfl) (fun _ _ _ h => Only.not_panic h) (Or.inl ⟨by kernel_rfl, fun W hW => ?_⟩) (by assumption) ?_
                  rotate_left
                  · have hW2 := hW
                    obtain ⟨⟨f0, f1, f2, f3, f4, f5, f6, f7, f8, f9, f10, f11, f12⟩, r12, y0, y1, y2, y3, y4, y5⟩ := HS.out W hW2
                    clear hW hW2
                    go_simp
                    try with_reducible rfl
                  try simp only [Act.put, List.setIfInBounds_toArray, List.set_cons_zero, List.set_cons_succ]
                  refine wpAnyH_take2 (i := 4) (t := 141) (v := ?_) rfl rfl (by kernel_rfl) (by kernel_rfl) (by kernel_rfl) (fun _ _ _ h => Only.not_panic h) (Or.inl ⟨by kernel_rfl, fun W hW => ?_⟩) (by assumption) ?_
                  rotate_left
                  · have hW2 := hW
                    obtain ⟨⟨f0, f1, f2, f3, f4, f5, f6, f7, f8, f9, f10, f11, f12⟩, r12, y0, y1, y2, y3, y4, y5⟩ := HS.out W hW2
                    clear hW hW2
                    go_simp
                    try with_reducible rfl
                  try simp only [Act.put, List.setIfInBounds_toArray, List.set_cons_zero, List.set_cons_succ]
                  refine wpAnyH_take2 (i := 5) (t := 142) (v := ?_) rfl rfl (by kernel_rfl) (by kernel_rfl) (by kernel_rfl) (fun _ _ _ h => Only.not_panic h) (Or.inl ⟨by kernel_rfl, fun W hW => ?_⟩) (by assumption) ?_
                  rotate_left
                  · have hW2 := hW
                    obtain ⟨⟨f0, f1, f2, f3, f4, f5, f6, f7, f8, f9, f10, f11, f12⟩, r12, y0, y1, y2, y3, y4, y5⟩ := HS.out W hW2
                    clear hW hW2
                    go_simp
                    try with_reducible rfl
                  try simp only [Act.put, List.setIfInBounds_toArray, List.set_cons_zero, List.set_cons_succ]
                  refine wpAnyH_take2 (i := 6) (t := 143) (v := ?_) rfl rfl (by kernel_rfl) (by kernel_rfl) (by kernel_rfl) (fun _ _ _ h => Only.not_panic h) (Or.inl ⟨by kernel_rfl, fun W hW => ?_⟩) (by assumption) ?_
                  rotate_left
                  · have hW2 := hW
                    obtain ⟨⟨f0, f1, f2, f3, f4, f5, f6, f7, f8, f9, f10, f11, f12⟩, r12, y0, y1, y2, y3, y4, y5⟩ := HS.out W hW2
                    clear hW hW2
                    go_simp
                    try with_reducible rfl
                  try simp only [Act.put, List.setIfInBounds_toArray, List.set_cons_zero, List.set_cons_succ]
                  refine wpAnyH_take2 (i := 7) (t := 144) (v := ?_) rfl rfl (by kernel_rfl) (by kernel_rfl) (by kernel_rfl) (fun _ _ _ h => Only.not_panic h) (Or.inl ⟨by kernel_rfl, fun W hW => ?_⟩) (by assumption) ?_
                  rotate_left
                  · have hW2 := hW
                    obtain ⟨⟨f0, f1, f2, f3, f4, f5, f6, f7, f8, f9, f10, f11, f12⟩, r12, y0, y1, y2, y3, y4, y5⟩ := HS.out W hW2
                    clear hW hW2
                    go_simp
                    try with_reducible rfl
                  try simp only [Act.put, List.setIfInBounds_toArray, List.set_cons_zero, List.set_cons_succ]
                  refine wpAnyH_take2 (i := 8) (t := 145) (v := ?_) rfl rfl (by kernel_rfl) (by kernel_rfl) (by kernel_rfl) (fun _ _ _ h => Only.not_panic h) (Or.inl ⟨by kernel_rfl, fun W hW => ?_⟩) (by assumption) ?_
                  rotate_left
                  · have hW2 := hW
                    obtain ⟨⟨f0, f1, f2, f3, f4, f5, f6, f7, f8, f9, f10, f11, f12⟩, r12, y0, y1, y2, y3, y4, y5⟩ := HS.out W hW2
                    clear hW hW2
                    go_simp
                    try with_reducible rfl
                  try simp only [Act.put, List.setIfInBounds_toArray, List.set_cons_zero, List.set_cons_succ]
                  refine wpAnyH_take2 (i := 9) (t := 146) (v := ?_) rfl rfl (by kernel_rfl) (by kernel_rfl) (by kernel_rfl) (fun _ _ _ h => Only.not_panic h) (Or.inl ⟨by kernel_rfl, fun W hW => ?_⟩) (by assumption) ?_
                  rotate_left
                  · have hW2 := hW
                    obtain ⟨⟨f0, f1, f2, f3, f4, f5, f6, f7, f8, f9, f10, f11, f12⟩, r12, y0, y1, y2, y3, y4, y5⟩ := HS.out W hW2
                    clear hW hW2
                    go_simp
                    try with_reducible rfl
                  try simp only [Act.put, List.setIfInBounds_toArray, List.set_cons_zero, List.set_cons_succ]
                  refine wpAnyH_ready (rs := [10]) (by kernel_rfl) (by simp) ?_
                  refine AllReadyH.cons_want rfl (by kernel_rfl) (fun K hK => ?_) ?_
                  · go_simp
                    with_reducible refine (HKB.out _ hHeld).mono ?_
                    rintro ev w10 ⟨rfl, hb10⟩
                    try simp only []
                    refine hK.out _ _ ?_ (fun hHeld => ?_)
                    · exact B_trans hHeld hb10
                    clear hK K
                    try simp only [Act.put, List.setIfInBounds_toArray, List.set_cons_zero, List.set_cons_succ]
                    refine wpAnyH_take2 (i := 11) (t := 148) (v := ?_) rfl rfl (by kernel_rfl) (by kernel_rfl) (by kernel_rfl) (fun _ _ _ h => Only.not_panic h) (Or.inl ⟨by kernel_rfl, fun W hW => ?_⟩) (by assumption) ?_
                    rotate_left
                    · have hW2 := hW
                      obtain ⟨⟨f0, f1, f2, f3, f4, f5, f6, f7, f8, f9, f10, f11, f12⟩, r12, y0, y1, y2, y3, y4, y5⟩ := HS.out W hW2
                      clear hW hW2
                      go_simp
                      try with_reducible rfl
                    try simp only [Act.put, List.setIfInBounds_toArray, List.set_cons_zero, List.set_cons_succ]
                    refine wpAnyH_take2 (i := 12) (t := 149) (v := ?_) rfl rfl (by kernel_rfl) (by kernel_rfl) (by kernel_rfl) (fun _ _ _ h => Only.not_panic h) (Or.inl ⟨by kernel_rfl, fun W hW => ?_⟩) (by assumption) ?_
                    rotate_left
                    · have hW2 := hW
                      obtain ⟨⟨f0, f1, f2, f3, f4, f5, f6, f7, f8, f9, f10, f11, f12⟩, r12, y0, y1, y2, y3, y4, y5⟩ := HS.out W hW2
                      clear hW hW2
                      go_simp
                      try with_reducible rfl
                    try simp only [Act.put, List.setIfInBounds_toArray, List.set_cons_zero, List.set_cons_succ]
                    refine wpAnyH_skip (i := 13) (t := 150) rfl rfl (by kernel_rfl) (by kernel_rfl) (by kernel_rfl) (fun _ _ _ h => Only.not_panic h) (by kernel_rfl) (by assumption) ?_
                    try simp only [Act.put, List.setIfInBounds_toArray, List.set_cons_zero, List.set_cons_succ]
                    refine wpAnyH_skip (i := 14) (t := 151) rfl rfl (by kernel_rfl) (by kernel_rfl) (by kernel_rfl) (fun _ _ _ h => Only.not_panic h) (by kernel_rfl) (by assumption) ?_
                    try simp only [Act.put, List.setIfInBounds_toArray, List.set_cons_zero, List.set_cons_succ]
                    refine wpAnyH_skip (i := 15) (t := 152) rfl rfl (by kernel_rfl) (by kernel_rfl) (by kernel_rfl) (fun _ _ _ h => Only.not_panic h) (by kernel_rfl) (by assumption) ?_
                    try simp only [Act.put, List.setIfInBounds_toArray, List.set_cons_zero, List.set_cons_succ]
                    refine wpAnyH_skip (i := 16) (t := 153) rfl rfl (by kernel_rfl) (by kernel_rfl) (by kernel_rfl) (fun _ _ _ h => Only.not_panic h) (by kernel_rfl) (by assumption) ?_
                    try simp only [Act.put, List.setIfInBounds_toArray, List.set_cons_zero, List.set_cons_succ]
                    refine wpAnyH_skip (i := 17) (t := 154) rfl rfl (by kernel_rfl) (by kernel_rfl) (by kernel_rfl) (fun _ _ _ h => Only.not_panic h) (by kernel_rfl) (by assumption) ?_
                    try simp only [Act.put, List.setIfInBounds_toArray, List.set_cons_zero, List.set_cons_succ]
                    refine wpAnyH_skip (i := 18) (t := 155) rfl rfl (by kernel_rfl) (by kernel_rfl) (by kernel_rfl) (fun _ _ _ h => Only.not_panic h) (by kernel_rfl) (by assumption) ?_
                    try simp only [Act.put, List.setIfInBounds_toArray, List.set_cons_zero, List.set_cons_succ]
                    refine wpAnyH_skip (i := 19) (t := 156) rfl rfl (by kernel_rfl) (by kernel_rfl) (by kernel_rfl) (fun _ _ _ h => Only.not_panic h) (by kernel_rfl) (by assumption) ?_
                    try simp only [Act.put, List.setIfInBounds_toArray, List.set_cons_zero, List.set_cons_succ]
                    refine wpAnyH_skip (i := 20) (t := 157) rfl rfl (by kernel_rfl) (by kernel_rfl) (by kernel_rfl) (fun _ _ _ h => Only.not_panic h) (by kernel_rfl) (by assumption) ?_
                    try simp only [Act.put, List.setIfInBounds_toArray, List.set_cons_zero, List.set_cons_succ]
                    refine wpAnyH_take2 (i := 21) (t := 158) (v := ?_) rfl rfl (by kernel_rfl) (by kernel_rfl) (by kernel_rfl) (fun _ _ _ h => Only.not_panic h) (Or.inl ⟨by kernel_rfl, fun W hW => ?_⟩) (by assumption) ?_
                    rotate_left
                    · have hW2 := hW
                      obtain ⟨⟨f0, f1, f2, f3, f4, f5, f6, f7, f8, f9, f10, f11, f12⟩, r12, y0, y1, y2, y3, y4, y5⟩ := HS.out W hW2
                      clear hW hW2
                      go_simp
                      try with_reducible rfl
                    try simp only [Act.put, List.setIfInBounds_toArray, List.set_cons_zero, List.set_cons_succ]
                    refine wpAnyH_done (by kernel_rfl) (Only.mk ?_) _
                    go_wp2_with fail
                    go_meet
                    exact ⟨rfl, hHeld⟩
                  exact AllReadyH.nil
              case rest =>
                clear HS HB HN
                obtain ⟨rfl, hbx⟩ := hcut
                have B9' := Lib.hid (B_trans BR.out (B_trans C8.out hbx))
                clear hbx
                go_wp2_with fail
                go_roundg (S.length - (i + 1))
                case measure => omega
                case rel => exact ⟨i + 1, rfl, by push_cast; rfl, by omega, B9'.out⟩
    · obtain rfl : i = S.length := by omega
      have h2 : ¬ (S.length : Int) < S.length := by omega
      have B8 := Lib.hid (B_trans hw2.out hbr)
      clear hbr
      go_wp2_with fail
      refine (HA.out _).mono ?_
      rintro e w9 ⟨rfl, hb9⟩
      have B9 := Lib.hid (B_trans B8.out hb9)
      clear hb9
      go_wp2
      refine bodyPost_ret (v := .bool true) (by simp [results, Try.results12, go_sem]) rfl ⟨rfl, B9.out⟩
theorem namedLaw_all (t : TkA) (hs ws : List T2) (ds : List T4) (ts : List T3) (x0 : Int) (xa : Option Addr) (xn xc : Nat) (bs : List Int) (w : World) (hR : TkR w t hs ws ds ts) (hcap : t.dn ≤ t.dc) (hx : 0 ≤ x0 ∧ x0 ≤ 255) (hX : Nums w .u8 0 255 xa xn bs) :
    Calls Try.prog 12 #[.agg t.cs, .agg #[.int .u8 x0, .slice xa xn xc]] w fun e w' => e = .returned (.bool true) ∧ Below w.heap.size w w' := by
  by_cases he : (taskS t hs ws ds ts).2.2 = 0
  · exact namedLaw_any t hs ws ds ts x0 xa xn xc bs w hR hcap he hx hX
  · exact namedLaw_bad t hs ws ds ts x0 _ w hR he
end Go.Proofs.Ytanjkhclhcnnaaa

/- The law DecayTrue. -/
import Derived.Test.YtanjkhclhcnnaaaEF
import Derived.Test.YtanjkhclhcnnaaaEB
namespace Go.Proofs.Ytanjkhclhcnnaaa
open Go.RowKit Go.Shelf

theorem levels3_any (t : TkA) (hs ws : List T2) (ds : List T4) (ts : List T3) (w : World) (hR : TkR w t hs ws ds ts) (he : (taskS t hs ws ds ts).2.2 = 0) : Calls Try.prog 28 #[.agg t.cs] w fun e w' => ∃ la lc sa sc, e = .returned (.tuple #[.slice la (t.dn + 1) lc, .slice sa (reachT t hs ws ds ts).struck.length sc, .int .i64 0]) ∧ Sl2 w' la (t.dn + 1) (levT t hs ws ds ts) ∧ Sl2 w' sa (reachT t hs ws ds ts).struck.length (reachT t hs ws ds ts).struck ∧ Below w.heap.size w w' := by
  refine (levels_full t hs ws ds ts w hR he).mono ?_
  rintro e w' ⟨g, cap, C, sv, rfl, -, hC, hS, hr, hb⟩
  obtain ⟨a, c, rfl, hA, -, -⟩ := sl2_row hr
  have h := spc_sl2 hC hS
  rw [levT_len he hR.d.len] at h
  exact ⟨_, cap, a, c, rfl, h, hA, hb⟩
/-- Is a test struck, or kept to? -/
def fineB (t : TkA) (ts : List T3) (S : List T2) (c : Nat → Int) (i : Nat) : Prop := strkB S i = true ∨ InP (c (morT t ts i)) (keepT t.r ts i)
theorem struckLen {t : TkA} {hs ws : List T2} {ds : List T4} {ts : List T3} (hmor : ∀ i, i < t.tn → morT t ts i ≤ t.dn) (htn : t.tn ≤ 20) : (reachT t hs ws ds ts).struck.length ≤ 20 := by
  obtain ⟨-, h2⟩ := reach_all t.r (ds.map (strS hs ws)) ts (morT t ts) (orderL ts t.tn) (t.lo, t.hi) (order_pair t ts) (k := t.dn + 1) (fun i hi => by have := hmor i (orderL_lt ts t.tn i hi); omega)
  have h2' : (reachT t hs ws ds ts).struck = (takeF t hs ws ds ts t.tn).struck := by rw [takeF_whole]; exact h2
  rw [h2']
  have key : ∀ c, c ≤ t.tn → (takeF t hs ws ds ts c).struck.length ≤ c := by
    intro c
    induction c with
    | zero => intro _; exact Nat.le_refl _
    | succ c ih =>
      intro hc
      have h1 := ih (by omega)
      rw [takeF_step t hs ws ds ts (by omega)]
      unfold takeS
      split
      · simp only; omega
      · simp; omega
  have := key t.tn (Nat.le_refl _)
  omega

set_option maxRecDepth 100000 in
set_option maxHeartbeats 4000000 in
theorem trueLaw_bad (t : TkA) (hs ws : List T2) (ds : List T4) (ts : List T3) (x0 : Int) (xv : Value) (w : World) (hR : TkR w t hs ws ds ts) (he : (taskS t hs ws ds ts).2.2 ≠ 0) :
    Calls Try.prog 9 #[.agg t.cs, .agg #[.int .u8 x0, xv]] w fun e w' => e = .returned (.bool true) ∧ Below w.heap.size w w' := by
  obtain ⟨w0, hw0⟩ : ∃ w0, ((w).alloc (.cells t.cs 31)).alloc (.cells #[.int .u8 x0, xv] 68) = w0 := ⟨_, rfl⟩
  have hb0 : Below w.heap.size w w0 := by rw [← hw0]; exact B_alloc (B_alloc (Below.refl _ _) _) _
  have o0 : Ob w0 (w.heap.size) 31 t.cs := by
    rw [← hw0]
    have h := Ob.new (w) t.cs 31
    replace h := h.alloc (.cells #[.int .u8 x0, xv] 68)
    exact h
  have o1 : Ob w0 (w.heap.size + 1) 68 #[.int .u8 x0, xv] := by
    rw [← hw0]
    have h := Ob.new ((w).alloc (.cells t.cs 31)) #[.int .u8 x0, xv] 68
    simp only [World.size_alloc] at h
    exact h
  have H1 := Lib.hid (fun W (h : Below w.heap.size w W) => walked_bad t hs ws ds ts x0 xv W (hR.below h) he)
  have H2 := fun W (h : Below w.heap.size w W) => levels_bad t hs ws ds ts W (hR.below h) he
  have H3 := fun W (h : Below w.heap.size w W) => lostD_bad t hs ws ds ts W (hR.below h) he
  have HA := Lib.hid awake_any
  generalize (taskS t hs ws ds ts).2.2 = c3 at H2 H3 he
  replace H2 := Lib.hid H2
  replace H3 := Lib.hid H3
  have hq : (c3 != 0) = true := by simpa using he
  obtain ⟨q0, q1, q2, q3, q4, q5, q6, q7, q8, q9, q10, q11, q12⟩ := o0.task
  obtain ⟨z0, z1⟩ : w0.cell? ⟨w.heap.size + 1, 0, none⟩ = some (.int .u8 x0) ∧ w0.cell? ⟨w.heap.size + 1, 1, none⟩ = some xv := ⟨o1.cell 0, o1.cell 1⟩
  replace o0 := Lib.hid o0
  replace hb0 := Lib.hid hb0
  replace hw0 := Lib.hid hw0
  clear hR he o1
  go_enter Try.func9, Try.ntmps9
  go_wp2_with fail
  rw [hw0.out]
  refine (H1.out w0 hb0.out).mono ?_
  rintro e w1 ⟨rfl, hb1⟩
  have hw1 := Lib.hid (B_trans hb0.out hb1)
  clear q0 q1 q2 q3 q4 q5 q6 q7 q8 q9 q10 q11 q12 z0 z1
  obtain ⟨q0, q1, q2, q3, q4, q5, q6, q7, q8, q9, q10, q11, q12⟩ := (o0.out.below hb1).task
  have O1 := Lib.hid (o0.out.below hb1)
  clear hb1
  go_wp2_with fail
  refine (H2.out w1 hw1.out).mono ?_
  rintro e w2 ⟨rfl, hb2⟩
  have hw2 := Lib.hid (B_trans hw1.out hb2)
  clear q0 q1 q2 q3 q4 q5 q6 q7 q8 q9 q10 q11 q12
  obtain ⟨q0, q1, q2, q3, q4, q5, q6, q7, q8, q9, q10, q11, q12⟩ := (O1.out.below hb2).task
  clear hb2
  go_wp2_with fail
  refine (H3.out w2 hw2.out).mono ?_
  rintro e w3 ⟨rfl, hb3⟩
  have hw3 := Lib.hid (B_trans hw2.out hb3)
  clear q0 q1 q2 q3 q4 q5 q6 q7 q8 q9 q10 q11 q12 hb3
  go_wp2_with fail
  refine (HA.out _).mono ?_
  rintro e w4 ⟨rfl, hb4⟩
  have hw4 := Lib.hid (B_trans (B_alloc hw3.out _) hb4)
  clear hb4
  go_wp2
  refine bodyPost_ret (v := .bool true) (by simp [results, Try.results9, go_sem]) rfl ⟨rfl, hw4.out⟩

set_option maxRecDepth 100000 in
set_option maxHeartbeats 16000000 in
theorem trueLaw_any (t : TkA) (hs ws : List T2) (ds : List T4) (ts : List T3) (x0 : Int) (xa : Option Addr) (xn xc : Nat) (bs : List Int) (w : World) (hR : TkR w t hs ws ds ts) (he : (taskS t hs ws ds ts).2.2 = 0) (hx : 0 ≤ x0 ∧ x0 ≤ 255) (hX : Nums w .u8 0 255 xa xn bs) :
    Calls Try.prog 9 #[.agg t.cs, .agg #[.int .u8 x0, .slice xa xn xc]] w fun e w' => e = .returned (.bool true) ∧ Below w.heap.size w w' := by
  obtain ⟨w0, hw0⟩ : ∃ w0, ((w).alloc (.cells t.cs 31)).alloc (.cells #[.int .u8 x0, .slice xa xn xc] 68) = w0 := ⟨_, rfl⟩
  have hb0 : Below w.heap.size w w0 := by rw [← hw0]; exact B_alloc (B_alloc (Below.refl _ _) _) _
  have o0 : Ob w0 (w.heap.size) 31 t.cs := by
    rw [← hw0]
    have h := Ob.new (w) t.cs 31
    replace h := h.alloc (.cells #[.int .u8 x0, .slice xa xn xc] 68)
    exact h
  have o1 : Ob w0 (w.heap.size + 1) 68 #[.int .u8 x0, .slice xa xn xc] := by
    rw [← hw0]
    have h := Ob.new ((w).alloc (.cells t.cs 31)) #[.int .u8 x0, .slice xa xn xc] 68
    simp only [World.size_alloc] at h
    exact h
  have ok := TaskOK.of he
  have hO := RuOK.of ok.r
  have hdl := hR.d.len
  have hst := days_str hO hdl ok.days
  have hss : (ds.map (strS hs ws)).length = t.dn := by rw [List.length_map, hdl]
  have hp := lv_ok ok.start
  have hdn := ok.dn
  have htn := ok.tn
  have hts := tests_ok ok.tests
  have hfirst := ok.first
  have hmor : ∀ i, i < t.tn → morT t ts i ≤ t.dn := fun i hi => by have := hts i hi; unfold morT; omega
  have hsl := struckLen (t := t) (hs := hs) (ws := ws) (ds := ds) (ts := ts) hmor htn
  obtain ⟨c, hc⟩ : ∃ c, courseN t.r (ds.map (strS hs ws)) (t.lo, t.hi) x0 bs = c := ⟨_, rfl⟩
  have hcin := course_in hO hss hst hp hx (fun i => nums_step hX i)
  have hlen := courseL_len t.r (ds.map (strS hs ws)) (t.lo, t.hi) x0 bs t.dn
  have hat := fun i (hi : i ≤ t.dn) => courseL_at t.r (ds.map (strS hs ws)) (t.lo, t.hi) x0 bs hi
  have hcrs : Crs t.r (ds.map (strS hs ws)) t.dn (t.lo, t.hi) (courseN t.r (ds.map (strS hs ws)) (t.lo, t.hi) x0 bs) :=
    ⟨part_in hp hx, fun k hk => part_in ((one_can (hcin k (by omega))).next hO (hst _ (getD_lt (by omega)))) (nums_step hX k)⟩
  rw [hc] at hcin hat hcrs
  have H1 := fun W (h : Below w.heap.size w W) => walked_any t hs ws ds ts x0 xa xn xc bs W (hR.below h) he hx (hX.below h)
  have H2 := fun W (h : Below w.heap.size w W) => levels3_any t hs ws ds ts W (hR.below h) he
  have H3 := fun W (h : Below w.heap.size w W) => lost_full t hs ws ds ts W (hR.below h) he
  generalize courseL t.r (ds.map (strS hs ws)) (t.lo, t.hi) x0 bs t.dn = cs at H1 hlen hat
  have hown : ownF t hs ws ds ts cs = (-1, 0) := by
    unfold ownF
    rw [if_neg (by simpa using he), if_neg (by simpa using hlen), List.range_eq_range', own_course hat hcrs (t.dn + 1) 0 _ (by omega) (fun _ => hcrs.at0)]
  have HOw := fun W (h : Below w.heap.size w W) a cc (hC : Sl1 W a (t.dn + 1) cs) => ownD_any t hs ws ds ts a (t.dn + 1) cc cs W (hR.below h) hC (by omega)
  rw [hown] at HOw
  have HTk := taken_ok (t := t) (hs := hs) (ws := ws) (ds := ds) (ts := ts) hmor
  have HLv := lev_in (t := t) (hs := hs) (ws := ws) (ds := ds) (ts := ts) (c := c) he hdl hcrs
  have hLl := levT_len (t := t) (hs := hs) (ws := ws) (ds := ds) (ts := ts) he hdl
  have HUp := crs_up hO hss hst hcrs hcin
  have HA := Lib.hid awake_any
  generalize (reachT t hs ws ds ts).taken = tk at HTk HLv
  generalize (reachT t hs ws ds ts).struck = S at H2 HTk hsl
  generalize levT t hs ws ds ts = LV at H2 H3 HLv hLl
  replace H1 := Lib.hid H1
  replace H2 := Lib.hid H2
  replace H3 := Lib.hid H3
  replace HOw := Lib.hid HOw
  replace HTk := Lib.hid HTk
  replace HLv := Lib.hid HLv
  replace HUp := Lib.hid HUp
  replace hat := Lib.hid hat
  replace hcin := Lib.hid hcin
  replace hts := Lib.hid hts
  replace hlen := Lib.hid hlen
  replace hLl := Lib.hid hLl
  have hokr := Lib.hid ok.r
  obtain ⟨q0, q1, q2, q3, q4, q5, q6, q7, q8, q9, q10, q11, q12⟩ := o0.task
  obtain ⟨z0, z1⟩ : w0.cell? ⟨w.heap.size + 1, 0, none⟩ = some (.int .u8 x0) ∧ w0.cell? ⟨w.heap.size + 1, 1, none⟩ = some (.slice xa xn xc) := ⟨o1.cell 0, o1.cell 1⟩
  replace o0 := Lib.hid o0
  replace hb0 := Lib.hid hb0
  replace hw0 := Lib.hid hw0
  clear he o1 ok hO hdl hst hss hp hmor hown hcrs hc hX hx
  go_enter Try.func9, Try.ntmps9
  go_wp2_with fail
  rw [hw0.out]
  refine (H1.out w0 hb0.out).mono ?_
  rintro e w1 ⟨v, rfl, hrow, hb1⟩
  have hw1 := Lib.hid (B_trans hb0.out hb1)
  rw [← hlen.out] at hrow
  obtain ⟨ca, cc, rfl, hC⟩ := rowz_sl1 hrow
  rw [hlen.out] at hC
  rw [hlen.out]
  have O1 := Lib.hid (And.intro (o0.out.below hb1) hC)
  clear q0 q1 q2 q3 q4 q5 q6 q7 q8 q9 q10 q11 q12 z0 z1 hrow hC
  obtain ⟨q0, q1, q2, q3, q4, q5, q6, q7, q8, q9, q10, q11, q12⟩ := (o0.out.below hb1).task
  clear hb1
  go_wp2_with fail
  refine (H2.out w1 hw1.out).mono ?_
  rintro e w2 ⟨la, lc, sa, sc, rfl, hLs, hSs, hb2⟩
  have hw2 := Lib.hid (B_trans hw1.out hb2)
  have O2 := Lib.hid (And.intro (O1.out.1.below hb2) (And.intro (O1.out.2.below hb2) (And.intro hLs hSs)))
  clear q0 q1 q2 q3 q4 q5 q6 q7 q8 q9 q10 q11 q12 hLs hSs hb2
  obtain ⟨q0, q1, q2, q3, q4, q5, q6, q7, q8, q9, q10, q11, q12⟩ := O2.out.1.task
  go_wp2_with fail
  refine (H3.out w2 hw2.out).mono ?_
  rintro e w3 ⟨rfl, hb3⟩
  obtain ⟨lp, hlp⟩ : ∃ lp, lostP t LV = lp := ⟨_, rfl⟩
  rw [hlp]
  have LP := Lib.hid hlp
  obtain ⟨w4, hw4⟩ : ∃ w4, w3.alloc (.cells #[.int .i64 lp.1, .int .i64 lp.2] 28) = w4 := ⟨_, rfl⟩
  have hb34 : Below w3.heap.size w3 w4 := by rw [← hw4]; exact B_alloc (Below.refl _ _) _
  have hB4 : Below w.heap.size w w4 := B_trans hw2.out (B_trans hb3 hb34)
  have o4 : Ob w4 w3.heap.size 28 #[.int .i64 lp.1, .int .i64 lp.2] := by rw [← hw4]; exact Ob.new _ _ _
  have hb24 := B_trans hb3 hb34
  have O4 := Lib.hid (And.intro (O2.out.1.below hb24) (And.intro (O2.out.2.1.below hb24) (And.intro (O2.out.2.2.1.below hb24) (And.intro (O2.out.2.2.2.below hb24) o4))))
  have HO4 := Lib.hid (HOw.out w4 hB4 ca cc O4.out.2.1)
  have W4 := Lib.hid hw4
  have B4 := Lib.hid hB4
  clear q0 q1 q2 q3 q4 q5 q6 q7 q8 q9 q10 q11 q12 O1
  have hw3s : w.heap.size < w3.heap.size := Nat.lt_of_lt_of_le O2.out.1.lt hb3.size
  obtain ⟨q0, q1, q2, q3, q4, q5, q6, q7, q8, q9, q10, q11, q12⟩ := (O2.out.1.below hb3).task
  clear hb3 hb34 hb24 o4 hB4 hlp O2 hw4
  go_wp2_with fail
  rw [W4.out]
  refine (HO4.out).mono ?_
  rintro e w5 ⟨rfl, hb5⟩
  have B5 := Lib.hid (B_trans B4.out hb5)
  have O5 := Lib.hid (And.intro (O4.out.1.below hb5) (And.intro (O4.out.2.1.below hb5) (And.intro (O4.out.2.2.1.below hb5) (And.intro (O4.out.2.2.2.1.below hb5) (O4.out.2.2.2.2.below hb5)))))
  clear q0 q1 q2 q3 q4 q5 q6 q7 q8 q9 q10 q11 q12 hb5 O4
  go_wp2_with fail
  go_loopg [14] t.tn (fun gk iv wr => ∃ i : Nat, gk = t.tn - i ∧ iv = .int .i64 (i : Int) ∧ i ≤ t.tn ∧ (∀ j, j < i → fineB t ts S c j) ∧ Below w5.heap.size w5 wr)
  case atStart => exact ⟨0, rfl, rfl, Nat.zero_le _, fun j hj => absurd hj (Nat.not_lt_zero _), Below.refl _ _⟩
  case round =>
    obtain ⟨i, rfl, rfl, hi, hfine, hbr⟩ := hrel
    have oT := O5.out.1.below hbr
    obtain ⟨q0, q1, q2, q3, q4, q5, q6, q7, q8, q9, q10, q11, q12⟩ := oT.task
    by_cases hlt : i < t.tn
    · have hRr := hR.below (B_trans B5.out hbr)
      obtain ⟨p, o, hta, hpl, htc⟩ := hRr.t.at_ (by omega)
      obtain ⟨y0, y1, y2⟩ := htc i hlt
      obtain ⟨⟨b1, b2⟩, ⟨b3, b4⟩, b5, b6⟩ := hts.out i hlt
      have hmor2 : morT t ts i = ((ts.getD i (0, 0, 0)).1 - t.first).toNat := rfl
      have hkt2 : keepT t.r ts i = keepS t.r (ts.getD i (0, 0, 0)).2.1 (ts.getD i (0, 0, 0)).2.2 := rfl
      have hfi : fineB t ts S c i ↔ (strkB S i = true ∨ InP (c (morT t ts i)) (keepT t.r ts i)) := Iff.rfl
      rw [hmor2, hkt2] at hfi
      generalize ts.getD i (0, 0, 0) = y at y0 y1 y2 b1 b2 b3 b4 b5 b6 hfi
      obtain ⟨yd, yg, ye⟩ := y
      simp only at y0 y1 y2 b1 b2 b3 b4 b5 b6 hfi
      obtain ⟨l, rfl⟩ : ∃ l : Nat, yd = t.first + l := ⟨(yd - t.first).toNat, by omega⟩
      rw [show (t.first + (l : Int) - t.first).toNat = l by omega] at hfi
      have HSt' : ∀ W', Below wr.heap.size wr W' → Calls Try.prog 41 #[.slice sa S.length sc, .int .i64 (i : Int)] W' fun e w' => e = .returned (.bool (strkB S i)) ∧ Below W'.heap.size W' w' := fun W' hh =>
        (struckIs_any S sa S.length sc (i : Int) W' ((O5.out.2.2.2.1.below hbr).below hh) (by omega)).mono fun e w' ⟨h1, h2⟩ => ⟨h1, by rw [h2]; exact Below.refl _ _⟩
      have HKe' : ∀ W', Below wr.heap.size wr W' → Calls Try.prog 42 #[.agg #[.slice t.r.ha t.r.hn t.r.hc, .slice t.r.wa t.r.wn t.r.wc, .int .i64 t.r.own, .int .i64 t.r.feed, .int .i64 t.r.g0, .int .i64 t.r.g1, .int .i64 t.r.g2, .int .i64 t.r.lost, .int .i64 t.first, .slice t.da t.dn t.dc, .int .i64 t.lo, .int .i64 t.hi, .slice (some ⟨p, o, none⟩) t.tn t.tc], .slice ca (t.dn + 1) cc, .agg #[.int .i64 (t.first + (l : Int)), .int .i64 yg, .int .i64 ye]] W' fun e w' => e = .returned (.bool (inB (c l) (keepS t.r yg ye).1 (keepS t.r yg ye).2)) ∧ Below W'.heap.size W' w' := fun W' hh => by
        have h := keeps_any t hs ws ds ts ca (t.dn + 1) cc cs l yg ye W' (hRr.below hh) hokr.out ((O5.out.2.1.below hbr).below hh) (by omega) (by omega) (by rw [hat.out l (by omega)]; exact hcin.out l (by omega)) ⟨b3, b4⟩ ⟨b5, b6⟩
        rw [hat.out l (by omega)] at h
        rw [← hta]
        exact h
      have HS := Lib.hid (fun (W' : World) (hh : Below wr.heap.size wr W') => (show (W'.cell? ⟨w.heap.size, 0, none⟩ = some (.slice t.r.ha t.r.hn t.r.hc) ∧ W'.cell? ⟨w.heap.size, 1, none⟩ = some (.slice t.r.wa t.r.wn t.r.wc) ∧ W'.cell? ⟨w.heap.size, 2, none⟩ = some (.int .i64 t.r.own) ∧ W'.cell? ⟨w.heap.size, 3, none⟩ = some (.int .i64 t.r.feed) ∧ W'.cell? ⟨w.heap.size, 4, none⟩ = some (.int .i64 t.r.g0) ∧ W'.cell? ⟨w.heap.size, 5, none⟩ = some (.int .i64 t.r.g1) ∧ W'.cell? ⟨w.heap.size, 6, none⟩ = some (.int .i64 t.r.g2) ∧ W'.cell? ⟨w.heap.size, 7, none⟩ = some (.int .i64 t.r.lost) ∧ W'.cell? ⟨w.heap.size, 8, none⟩ = some (.int .i64 t.first) ∧ W'.cell? ⟨w.heap.size, 9, none⟩ = some (.slice t.da t.dn t.dc) ∧ W'.cell? ⟨w.heap.size, 10, none⟩ = some (.int .i64 t.lo) ∧ W'.cell? ⟨w.heap.size, 11, none⟩ = some (.int .i64 t.hi) ∧ W'.cell? ⟨w.heap.size, 12, none⟩ = some (.slice t.ta t.tn t.tc)) ∧ W'.cell? ⟨p, o + i * 3, none⟩ = some (.int .i64 (t.first + (l : Int))) ∧ W'.cell? ⟨p, o + i * 3 + 1, none⟩ = some (.int .i64 yg) ∧ W'.cell? ⟨p, o + i * 3 + 2, none⟩ = some (.int .i64 ye) from ⟨(oT.below hh).task, (hh.cell (p := ⟨p, _, none⟩) hpl).trans y0, (hh.cell (p := ⟨p, _, none⟩) hpl).trans y1, (hh.cell (p := ⟨p, _, none⟩) hpl).trans y2⟩))
      have HSF := Lib.hid (fun (W' : World) (hh : Below wr.heap.size wr W') => (show (W'.cell? ⟨w.heap.size, 0, none⟩ = some (.slice t.r.ha t.r.hn t.r.hc) ∧ W'.cell? ⟨w.heap.size, 1, none⟩ = some (.slice t.r.wa t.r.wn t.r.wc) ∧ W'.cell? ⟨w.heap.size, 2, none⟩ = some (.int .i64 t.r.own) ∧ W'.cell? ⟨w.heap.size, 3, none⟩ = some (.int .i64 t.r.feed) ∧ W'.cell? ⟨w.heap.size, 4, none⟩ = some (.int .i64 t.r.g0) ∧ W'.cell? ⟨w.heap.size, 5, none⟩ = some (.int .i64 t.r.g1) ∧ W'.cell? ⟨w.heap.size, 6, none⟩ = some (.int .i64 t.r.g2) ∧ W'.cell? ⟨w.heap.size, 7, none⟩ = some (.int .i64 t.r.lost) ∧ W'.cell? ⟨w.heap.size, 8, none⟩ = some (.int .i64 t.first) ∧ W'.cell? ⟨w.heap.size, 9, none⟩ = some (.slice t.da t.dn t.dc) ∧ W'.cell? ⟨w.heap.size, 10, none⟩ = some (.int .i64 t.lo) ∧ W'.cell? ⟨w.heap.size, 11, none⟩ = some (.int .i64 t.hi) ∧ W'.cell? ⟨w.heap.size, 12, none⟩ = some (.slice (some ⟨p, o, none⟩) t.tn t.tc)) ∧ W'.cell? ⟨p, o + i * 3, none⟩ = some (.int .i64 (t.first + (l : Int))) ∧ W'.cell? ⟨p, o + i * 3 + 1, none⟩ = some (.int .i64 yg) ∧ W'.cell? ⟨p, o + i * 3 + 2, none⟩ = some (.int .i64 ye) from ⟨by have h := (oT.below hh).task; rwa [hta] at h, (hh.cell (p := ⟨p, _, none⟩) hpl).trans y0, (hh.cell (p := ⟨p, _, none⟩) hpl).trans y1, (hh.cell (p := ⟨p, _, none⟩) hpl).trans y2⟩))
      replace hta := Lib.hid hta
      have HF := Lib.hid hfine
      have FI := Lib.hid hfi
      have BR := Lib.hid hbr
      have a1 : (0 : Int) ≤ i := by omega
      have a2 : (i : Int) < t.tn := by omega
      have gT := oT.lt
      clear hfine hfi hbr oT hRr htc hmor2 hkt2 y0 y1 y2
      cases hsb : strkB S (i : Int) with
      | true =>
        rw [hsb] at HSt'
        have HST := Lib.hid HSt'
        have SB := Lib.hid hsb
        clear HSt' HKe' hsb
        go_upto_region 12 with fail
        go_cut [94] (fun a wx => a = .bool false ∧ Below wr.heap.size wr wx)
        case first =>
          refine wp_region_held' (S := fun W' => Below wr.heap.size wr W') (by kernel_rfl) ((Below.refl _ wr).drew) (fun hHeld => ?_)
          refine wpAnyH_take2 (i := 0) (t := 80) (v := ?_) rfl rfl (by kernel_rfl) (by kernel_rfl) (by kernel_rfl) (fun _ _ _ h => Only.not_panic h) (Or.inl ⟨by kernel_rfl, fun W hW => ?_⟩) (by assumption) ?_
          rotate_left
          · have hW2 := hW
            obtain ⟨⟨f0, f1, f2, f3, f4, f5, f6, f7, f8, f9, f10, f11, f12⟩, y0, y1, y2⟩ := HS.out W hW2
            clear hW hW2
            go_simp
            try with_reducible rfl
          try simp only [Act.put, List.setIfInBounds_toArray, List.set_cons_zero, List.set_cons_succ]
          refine wpAnyH_take2 (i := 1) (t := 81) (v := ?_) rfl rfl (by kernel_rfl) (by kernel_rfl) (by kernel_rfl) (fun _ _ _ h => Only.not_panic h) (Or.inl ⟨by kernel_rfl, fun W hW => ?_⟩) (by assumption) ?_
          rotate_left
          · have hW2 := hW
            obtain ⟨⟨f0, f1, f2, f3, f4, f5, f6, f7, f8, f9, f10, f11, f12⟩, y0, y1, y2⟩ := HS.out W hW2
            clear hW hW2
            go_simp
            try with_reducible rfl
          try simp only [Act.put, List.setIfInBounds_toArray, List.set_cons_zero, List.set_cons_succ]
          refine wpAnyH_ready (rs := [2]) (by kernel_rfl) (by simp) ?_
          refine AllReadyH.cons rfl (fun K hK => ?_) ?_
          · go_simp
            with_reducible refine (HST.out _ hHeld).mono ?_
            rintro ev w2 ⟨rfl, hb2⟩
            try simp only []
            refine hK.out _ _ ?_ (fun hHeld => ?_)
            · exact B_trans hHeld hb2
            clear hK K
            try simp only [Act.put, List.setIfInBounds_toArray, List.set_cons_zero, List.set_cons_succ]
            refine wpAnyH_take2 (i := 3) (t := 83) (v := ?_) rfl rfl (by kernel_rfl) (by kernel_rfl) (by kernel_rfl) (fun _ _ _ h => Only.not_panic h) (Or.inl ⟨by kernel_rfl, fun W hW => ?_⟩) (by assumption) ?_
            rotate_left
            · have hW2 := hW
              obtain ⟨⟨f0, f1, f2, f3, f4, f5, f6, f7, f8, f9, f10, f11, f12⟩, y0, y1, y2⟩ := HS.out W hW2
              clear hW hW2
              go_simp
              try with_reducible rfl
            try simp only [Act.put, List.setIfInBounds_toArray, List.set_cons_zero, List.set_cons_succ]
            refine wpAnyH_take2 (i := 4) (t := 84) (v := ?_) rfl rfl (by kernel_rfl) (by kernel_rfl) (by kernel_rfl) (fun _ _ _ h => Only.not_panic h) (Or.inl ⟨by kernel_rfl, fun W hW => ?_⟩) (by assumption) ?_
            rotate_left
            · have hW2 := hW
              obtain ⟨⟨f0, f1, f2, f3, f4, f5, f6, f7, f8, f9, f10, f11, f12⟩, y0, y1, y2⟩ := HS.out W hW2
              clear hW hW2
              go_simp
              try with_reducible rfl
            try simp only [Act.put, List.setIfInBounds_toArray, List.set_cons_zero, List.set_cons_succ]
            refine wpAnyH_skip (i := 5) (t := 85) rfl rfl (by kernel_rfl) (by kernel_rfl) (by kernel_rfl) (fun _ _ _ h => Only.not_panic h) (by kernel_rfl) (by assumption) ?_
            try simp only [Act.put, List.setIfInBounds_toArray, List.set_cons_zero, List.set_cons_succ]
            refine wpAnyH_skip (i := 6) (t := 86) rfl rfl (by kernel_rfl) (by kernel_rfl) (by kernel_rfl) (fun _ _ _ h => Only.not_panic h) (by kernel_rfl) (by assumption) ?_
            try simp only [Act.put, List.setIfInBounds_toArray, List.set_cons_zero, List.set_cons_succ]
            refine wpAnyH_skip (i := 7) (t := 87) rfl rfl (by kernel_rfl) (by kernel_rfl) (by kernel_rfl) (fun _ _ _ h => Only.not_panic h) (by kernel_rfl) (by assumption) ?_
            try simp only [Act.put, List.setIfInBounds_toArray, List.set_cons_zero, List.set_cons_succ]
            refine wpAnyH_skip (i := 8) (t := 88) rfl rfl (by kernel_rfl) (by kernel_rfl) (by kernel_rfl) (fun _ _ _ h => Only.not_panic h) (by kernel_rfl) (by assumption) ?_
            try simp only [Act.put, List.setIfInBounds_toArray, List.set_cons_zero, List.set_cons_succ]
            refine wpAnyH_skip (i := 9) (t := 89) rfl rfl (by kernel_rfl) (by kernel_rfl) (by kernel_rfl) (fun _ _ _ h => Only.not_panic h) (by kernel_rfl) (by assumption) ?_
            try simp only [Act.put, List.setIfInBounds_toArray, List.set_cons_zero, List.set_cons_succ]
            refine wpAnyH_skip (i := 10) (t := 90) rfl rfl (by kernel_rfl) (by kernel_rfl) (by kernel_rfl) (fun _ _ _ h => Only.not_panic h) (by kernel_rfl) (by assumption) ?_
            try simp only [Act.put, List.setIfInBounds_toArray, List.set_cons_zero, List.set_cons_succ]
            refine wpAnyH_skip (i := 11) (t := 91) rfl rfl (by kernel_rfl) (by kernel_rfl) (by kernel_rfl) (fun _ _ _ h => Only.not_panic h) (by kernel_rfl) (by assumption) ?_
            try simp only [Act.put, List.setIfInBounds_toArray, List.set_cons_zero, List.set_cons_succ]
            refine wpAnyH_skip (i := 12) (t := 92) rfl rfl (by kernel_rfl) (by kernel_rfl) (by kernel_rfl) (fun _ _ _ h => Only.not_panic h) (by kernel_rfl) (by assumption) ?_
            try simp only [Act.put, List.setIfInBounds_toArray, List.set_cons_zero, List.set_cons_succ]
            refine wpAnyH_skip (i := 13) (t := 93) rfl rfl (by kernel_rfl) (by kernel_rfl) (by kernel_rfl) (fun _ _ _ h => Only.not_panic h) (by kernel_rfl) (by assumption) ?_
            try simp only [Act.put, List.setIfInBounds_toArray, List.set_cons_zero, List.set_cons_succ]
            refine wpAnyH_take2 (i := 14) (t := 94) (v := ?_) rfl rfl (by kernel_rfl) (by kernel_rfl) (by kernel_rfl) (fun _ _ _ h => Only.not_panic h) (Or.inl ⟨by kernel_rfl, fun W hW => ?_⟩) (by assumption) ?_
            rotate_left
            · have hW2 := hW
              obtain ⟨⟨f0, f1, f2, f3, f4, f5, f6, f7, f8, f9, f10, f11, f12⟩, y0, y1, y2⟩ := HS.out W hW2
              clear hW hW2
              go_simp
              try with_reducible rfl
            try simp only [Act.put, List.setIfInBounds_toArray, List.set_cons_zero, List.set_cons_succ]
            refine wpAnyH_done (by kernel_rfl) (Only.mk ?_) _
            go_wp2_with fail
            go_meet
            exact ⟨rfl, hHeld⟩
          exact AllReadyH.nil
        case rest =>
          clear HS HSF HST q0 q1 q2 q3 q4 q5 q6 q7 q8 q9 q10 q11 q12
          obtain ⟨rfl, hbx⟩ := hcut
          have BX := Lib.hid hbx
          clear hbx
          go_wp2_with fail
          go_roundg (t.tn - (i + 1))
          case measure => omega
          case rel =>
            refine ⟨i + 1, rfl, by push_cast; rfl, by omega, fun j hj => ?_, B_trans BR.out BX.out⟩
            by_cases e : j = i
            · subst e; exact FI.out.2 (.inl SB.out)
            · exact HF.out j (by omega)
      | false =>
        rw [hsb] at HSt'
        have HST := Lib.hid HSt'
        obtain ⟨bb, hbb⟩ : ∃ bb, inB (c l) (keepS t.r yg ye).1 (keepS t.r yg ye).2 = bb := ⟨_, rfl⟩
        rw [hbb] at HKe'
        have HKE := Lib.hid HKe'
        have BQ := Lib.hid hbb
        clear HSt' HKe' hsb hbb
        go_upto_region 12 with fail
        go_cut [94] (fun a wx => a = .bool (!bb) ∧ Below wr.heap.size wr wx)
        case first =>
          clear HS
          have HS := HSF
          clear HSF
          refine wp_region_held' (S := fun W' => Below wr.heap.size wr W') (by kernel_rfl) ((Below.refl _ wr).drew) (fun hHeld => ?_)
          refine wpAnyH_take2 (i := 0) (t := 80) (v := ?_) rfl rfl (by kernel_rfl) (by kernel_rfl) (by kernel_rfl) (fun _ _ _ h => Only.not_panic h) (Or.inl ⟨by kernel_rfl, fun W hW => ?_⟩) (by assumption) ?_
          rotate_left
          · have hW2 := hW
            obtain ⟨⟨f0, f1, f2, f3, f4, f5, f6, f7, f8, f9, f10, f11, f12⟩, y0, y1, y2⟩ := HS.out W hW2
            clear hW hW2
            go_simp
            try with_reducible rfl
          try simp only [Act.put, List.setIfInBounds_toArray, List.set_cons_zero, List.set_cons_succ]
          refine wpAnyH_take2 (i := 1) (t := 81) (v := ?_) rfl rfl (by kernel_rfl) (by kernel_rfl) (by kernel_rfl) (fun _ _ _ h => Only.not_panic h) (Or.inl ⟨by kernel_rfl, fun W hW => ?_⟩) (by assumption) ?_
          rotate_left
          · have hW2 := hW
            obtain ⟨⟨f0, f1, f2, f3, f4, f5, f6, f7, f8, f9, f10, f11, f12⟩, y0, y1, y2⟩ := HS.out W hW2
            clear hW hW2
            go_simp
            try with_reducible rfl
          try simp only [Act.put, List.setIfInBounds_toArray, List.set_cons_zero, List.set_cons_succ]
          refine wpAnyH_ready (rs := [2]) (by kernel_rfl) (by simp) ?_
          refine AllReadyH.cons rfl (fun K hK => ?_) ?_
          · go_simp
            with_reducible refine (HST.out _ hHeld).mono ?_
            rintro ev w2 ⟨rfl, hb2⟩
            try simp only []
            refine hK.out _ _ ?_ (fun hHeld => ?_)
            · exact B_trans hHeld hb2
            clear hK K
            try simp only [Act.put, List.setIfInBounds_toArray, List.set_cons_zero, List.set_cons_succ]
            refine wpAnyH_take2 (i := 3) (t := 83) (v := ?_) rfl rfl (by kernel_rfl) (by kernel_rfl) (by kernel_rfl) (fun _ _ _ h => Only.not_panic h) (Or.inl ⟨by kernel_rfl, fun W hW => ?_⟩) (by assumption) ?_
            rotate_left
            · have hW2 := hW
              obtain ⟨⟨f0, f1, f2, f3, f4, f5, f6, f7, f8, f9, f10, f11, f12⟩, y0, y1, y2⟩ := HS.out W hW2
              clear hW hW2
              go_simp
              try with_reducible rfl
            try simp only [Act.put, List.setIfInBounds_toArray, List.set_cons_zero, List.set_cons_succ]
            refine wpAnyH_take2 (i := 4) (t := 84) (v := ?_) rfl rfl (by kernel_rfl) (by kernel_rfl) (by kernel_rfl) (fun _ _ _ h => Only.not_panic h) (Or.inl ⟨by kernel_rfl, fun W hW => ?_⟩) (by assumption) ?_
            rotate_left
            · have hW2 := hW
              obtain ⟨⟨f0, f1, f2, f3, f4, f5, f6, f7, f8, f9, f10, f11, f12⟩, y0, y1, y2⟩ := HS.out W hW2
              clear hW hW2
              go_simp
              try with_reducible rfl
            try simp only [Act.put, List.setIfInBounds_toArray, List.set_cons_zero, List.set_cons_succ]
            refine wpAnyH_take2 (i := 5) (t := 85) (v := ?_) rfl rfl (by kernel_rfl) (by kernel_rfl) (by kernel_rfl) (fun _ _ _ h => Only.not_panic h) (Or.inl ⟨by kernel_rfl, fun W hW => ?_⟩) (by assumption) ?_
            rotate_left
            · have hW2 := hW
              obtain ⟨⟨f0, f1, f2, f3, f4, f5, f6, f7, f8, f9, f10, f11, f12⟩, y0, y1, y2⟩ := HS.out W hW2
              clear hW hW2
              go_simp
              try with_reducible rfl
            try simp only [Act.put, List.setIfInBounds_toArray, List.set_cons_zero, List.set_cons_succ]
            refine wpAnyH_take2 (i := 6) (t := 86) (v := ?_) rfl rfl (by kernel_rfl) (by kernel_rfl) (by kernel_rfl) (fun _ _ _ h => Only.not_panic h) (Or.inl ⟨by kernel_rfl, fun W hW => ?_⟩) (by assumption) ?_
            rotate_left
            · have hW2 := hW
              obtain ⟨⟨f0, f1, f2, f3, f4, f5, f6, f7, f8, f9, f10, f11, f12⟩, y0, y1, y2⟩ := HS.out W hW2
              clear hW hW2
              go_simp
              try with_reducible rfl
            try simp only [Act.put, List.setIfInBounds_toArray, List.set_cons_zero, List.set_cons_succ]
            refine wpAnyH_take2 (i := 7) (t := 87) (v := ?_) rfl rfl (by kernel_rfl) (by kernel_rfl) (by kernel_rfl) (fun _ _ _ h => Only.not_panic h) (Or.inl ⟨by kernel_rfl, fun W hW => ?_⟩) (by assumption) ?_
            rotate_left
            · have hW2 := hW
              obtain ⟨⟨f0, f1, f2, f3, f4, f5, f6, f7, f8, f9, f10, f11, f12⟩, y0, y1, y2⟩ := HS.out W hW2
              clear hW hW2
              go_simp
              try with_reducible rfl
            try simp only [Act.put, List.setIfInBounds_toArray, List.set_cons_zero, List.set_cons_succ]
            refine wpAnyH_take2 (i := 8) (t := 88) (v := ?_) rfl rfl (by kernel_rfl) (by kernel_rfl) (by kernel_rfl) (fun _ _ _ h => Only.not_panic h) (Or.inl ⟨by kernel_rfl, fun W hW => ?_⟩) (by assumption) ?_
            rotate_left
            · have hW2 := hW
              obtain ⟨⟨f0, f1, f2, f3, f4, f5, f6, f7, f8, f9, f10, f11, f12⟩, y0, y1, y2⟩ := HS.out W hW2
              clear hW hW2
              go_simp
              try with_reducible rfl
            try simp only [Act.put, List.setIfInBounds_toArray, List.set_cons_zero, List.set_cons_succ]
            refine wpAnyH_take2 (i := 9) (t := 89) (v := ?_) rfl rfl (by kernel_rfl) (by kernel_rfl) (by kernel_rfl) (fun _ _ _ h => Only.not_panic h) (Or.inl ⟨by kernel_rfl, fun W hW => ?_⟩) (by assumption) ?_
            rotate_left
            · have hW2 := hW
              obtain ⟨⟨f0, f1, f2, f3, f4, f5, f6, f7, f8, f9, f10, f11, f12⟩, y0, y1, y2⟩ := HS.out W hW2
              clear hW hW2
              go_simp
              try with_reducible rfl
            try simp only [Act.put, List.setIfInBounds_toArray, List.set_cons_zero, List.set_cons_succ]
            refine wpAnyH_take2 (i := 10) (t := 90) (v := ?_) rfl rfl (by kernel_rfl) (by kernel_rfl) (by kernel_rfl) (fun _ _ _ h => Only.not_panic h) (Or.inl ⟨by kernel_rfl, fun W hW => ?_⟩) (by assumption) ?_
            rotate_left
            · have hW2 := hW
              obtain ⟨⟨f0, f1, f2, f3, f4, f5, f6, f7, f8, f9, f10, f11, f12⟩, y0, y1, y2⟩ := HS.out W hW2
              clear hW hW2
              go_simp
              try with_reducible rfl
            try simp only [Act.put, List.setIfInBounds_toArray, List.set_cons_zero, List.set_cons_succ]
            refine wpAnyH_take2 (i := 11) (t := 91) (v := ?_) rfl rfl (by kernel_rfl) (by kernel_rfl) (by kernel_rfl) (fun _ _ _ h => Only.not_panic h) (Or.inl ⟨by kernel_rfl, fun W hW => ?_⟩) (by assumption) ?_
            rotate_left
            · have hW2 := hW
              obtain ⟨⟨f0, f1, f2, f3, f4, f5, f6, f7, f8, f9, f10, f11, f12⟩, y0, y1, y2⟩ := HS.out W hW2
              clear hW hW2
              go_simp
              try with_reducible rfl
            try simp only [Act.put, List.setIfInBounds_toArray, List.set_cons_zero, List.set_cons_succ]
            refine wpAnyH_ready (rs := [12]) (by kernel_rfl) (by simp) ?_
            refine AllReadyH.cons_want rfl (by kernel_rfl) (fun K hK => ?_) ?_
            · go_simp
              with_reducible refine (HKE.out _ hHeld).mono ?_
              rintro ev w12 ⟨rfl, hb12⟩
              try simp only []
              refine hK.out _ _ ?_ (fun hHeld => ?_)
              · exact B_trans hHeld hb12
              clear hK K
              try simp only [Act.put, List.setIfInBounds_toArray, List.set_cons_zero, List.set_cons_succ]
              refine wpAnyH_take2 (i := 13) (t := 93) (v := ?_) rfl rfl (by kernel_rfl) (by kernel_rfl) (by kernel_rfl) (fun _ _ _ h => Only.not_panic h) (Or.inl ⟨by kernel_rfl, fun W hW => ?_⟩) (by assumption) ?_
              rotate_left
              · have hW2 := hW
                obtain ⟨⟨f0, f1, f2, f3, f4, f5, f6, f7, f8, f9, f10, f11, f12⟩, y0, y1, y2⟩ := HS.out W hW2
                clear hW hW2
                go_simp
                try with_reducible rfl
              try simp only [Act.put, List.setIfInBounds_toArray, List.set_cons_zero, List.set_cons_succ]
              refine wpAnyH_take2 (i := 14) (t := 94) (v := ?_) rfl rfl (by kernel_rfl) (by kernel_rfl) (by kernel_rfl) (fun _ _ _ h => Only.not_panic h) (Or.inl ⟨by kernel_rfl, fun W hW => ?_⟩) (by assumption) ?_
              rotate_left
              · have hW2 := hW
                obtain ⟨⟨f0, f1, f2, f3, f4, f5, f6, f7, f8, f9, f10, f11, f12⟩, y0, y1, y2⟩ := HS.out W hW2
                clear hW hW2
                go_simp
                try with_reducible rfl
              try simp only [Act.put, List.setIfInBounds_toArray, List.set_cons_zero, List.set_cons_succ]
              refine wpAnyH_done (by kernel_rfl) (Only.mk ?_) _
              go_wp2_with fail
              go_meet
              exact ⟨rfl, hHeld⟩
            exact AllReadyH.nil
          exact AllReadyH.nil
        case rest =>
          clear HS HSF HST HKE q0 q1 q2 q3 q4 q5 q6 q7 q8 q9 q10 q11 q12
          obtain ⟨rfl, hbx⟩ := hcut
          have BX := Lib.hid hbx
          clear hbx
          cases bb with
          | true =>
            simp only [Bool.not_true]
            go_wp2_with fail
            go_roundg (t.tn - (i + 1))
            case measure => omega
            case rel =>
              refine ⟨i + 1, rfl, by push_cast; rfl, by omega, fun j hj => ?_, B_trans BR.out BX.out⟩
              by_cases e : j = i
              · subst e; exact FI.out.2 (.inr (inB_iff.1 BQ.out))
              · exact HF.out j (by omega)
          | false =>
            simp only [Bool.not_false]
            go_wp2_with fail
            refine (HA.out _).mono ?_
            rintro e w6 ⟨rfl, hb6⟩
            have B6 := Lib.hid (B_trans B5.out (B_trans BR.out (B_trans BX.out hb6)))
            clear hb6
            go_wp2
            refine bodyPost_ret (v := .bool true) (by simp [results, Try.results9, go_sem]) rfl ⟨rfl, B6.out⟩
    · obtain rfl : i = t.tn := by omega
      have hall := HLv.out fun i hi => by
        obtain ⟨h1, h2⟩ := HTk.out i hi
        rcases hfine i h1 with h3 | h3
        · rw [h2] at h3; cases h3
        · exact h3
      have h1 : ¬ (t.tn : Int) < t.tn := by omega
      have ALL := Lib.hid hall
      have BR := Lib.hid hbr
      clear hfine hall hbr oT
      obtain ⟨wo, rfl⟩ : ∃ wo, wo = wr := ⟨wr, rfl⟩
      go_wp2_with fail
      go_loopg [15] (t.dn + 1) (fun gk iv wr => ∃ i : Nat, gk = t.dn + 1 - i ∧ iv = .int .i64 (i : Int) ∧ i ≤ t.dn + 1 ∧ Below w5.heap.size w5 wr)
      case atStart => exact ⟨0, rfl, rfl, Nat.zero_le _, BR.out⟩
      case round =>
        obtain ⟨i, rfl, rfl, hi, hbr⟩ := hrel
        clear q0 q1 q2 q3 q4 q5 q6 q7 q8 q9 q10 q11 q12
        have oT := O5.out.1.below hbr
        by_cases hlt : i < t.dn + 1
        · obtain ⟨cb, co, rfl, hcb, hcc⟩ := (O5.out.2.1.below hbr).at_ (by omega)
          obtain ⟨lb, lo, rfl, hlb, hll⟩ := (O5.out.2.2.1.below hbr).at_ (by omega)
          have y0 := hcc i hlt
          rw [hat.out i (by omega)] at y0
          obtain ⟨y1, y2⟩ := hll i hlt
          have hin := ALL.out i (by omega)
          have hci := hcin.out i (by omega)
          have oL := O5.out.2.2.2.2.below hbr
          have v0 := oL.cell 0
          have v1 := oL.cell 1
          simp only [List.getElem?_toArray, List.getElem?_cons_zero, List.getElem?_cons_succ] at v0 v1
          have hlo : t.r.lost ≤ c i → 0 ≤ lp.1 ∧ lp.1 ≤ t.first + (i : Int) := fun h => by
            rw [← LP.out]
            exact lost_lo (by rw [hLl.out]; exact hlt) hfirst.1 hin h
          have hhi : 0 ≤ lp.2 → lp.2 ≤ t.first + (i : Int) → t.r.lost ≤ c i := fun h1 h2 => by
            rw [← LP.out] at h1 h2
            obtain ⟨j, hj1, hj2, hj3⟩ := lost_hi (L := LV) (first := t.first) (lost := t.r.lost) h1
            have h3 : lostS (fun x => decide (t.r.lost ≤ x.1)) t.first LV ≤ t.first + (i : Int) := h2
            rw [hj2] at h3
            have h4 := (ALL.out j (by have := hLl.out; omega)).1
            have h5 := HUp.out (i - j) j (by omega)
            rw [show j + (i - j) = i by omega] at h5
            omega
          have HH' := fun W' => has_any (LV.getD i (0, 0)) (c i) W'
          rw [show inB (c i) (LV.getD i (0, 0)).1 (LV.getD i (0, 0)).2 = true from inB_iff.2 hin] at HH'
          generalize LV.getD i (0, 0) = lv at y1 y2 HH' hin
          generalize c i = n at y0 hin hci hlo hhi HH'
          have HH := Lib.hid HH'
          have HS := Lib.hid (fun (W' : World) (hh : Below wr.heap.size wr W') => (show (W'.cell? ⟨w.heap.size, 0, none⟩ = some (.slice t.r.ha t.r.hn t.r.hc) ∧ W'.cell? ⟨w.heap.size, 1, none⟩ = some (.slice t.r.wa t.r.wn t.r.wc) ∧ W'.cell? ⟨w.heap.size, 2, none⟩ = some (.int .i64 t.r.own) ∧ W'.cell? ⟨w.heap.size, 3, none⟩ = some (.int .i64 t.r.feed) ∧ W'.cell? ⟨w.heap.size, 4, none⟩ = some (.int .i64 t.r.g0) ∧ W'.cell? ⟨w.heap.size, 5, none⟩ = some (.int .i64 t.r.g1) ∧ W'.cell? ⟨w.heap.size, 6, none⟩ = some (.int .i64 t.r.g2) ∧ W'.cell? ⟨w.heap.size, 7, none⟩ = some (.int .i64 t.r.lost) ∧ W'.cell? ⟨w.heap.size, 8, none⟩ = some (.int .i64 t.first) ∧ W'.cell? ⟨w.heap.size, 9, none⟩ = some (.slice t.da t.dn t.dc) ∧ W'.cell? ⟨w.heap.size, 10, none⟩ = some (.int .i64 t.lo) ∧ W'.cell? ⟨w.heap.size, 11, none⟩ = some (.int .i64 t.hi) ∧ W'.cell? ⟨w.heap.size, 12, none⟩ = some (.slice t.ta t.tn t.tc)) ∧ W'.cell? ⟨cb, co + i, none⟩ = some (.int .i64 n) ∧ W'.cell? ⟨lb, lo + i * 2, none⟩ = some (.int .i64 lv.1) ∧ W'.cell? ⟨lb, lo + i * 2 + 1, none⟩ = some (.int .i64 lv.2) ∧ W'.cell? ⟨w3.heap.size, 0, none⟩ = some (.int .i64 lp.1) ∧ W'.cell? ⟨w3.heap.size, 1, none⟩ = some (.int .i64 lp.2) from ⟨(oT.below hh).task, (hh.cell (p := ⟨cb, _, none⟩) hcb).trans y0, (hh.cell (p := ⟨lb, _, none⟩) hlb).trans y1, (hh.cell (p := ⟨lb, _, none⟩) hlb).trans y2, (hh.cell (p := ⟨w3.heap.size, _, none⟩) oL.lt).trans v0, (hh.cell (p := ⟨w3.heap.size, _, none⟩) oL.lt).trans v1⟩))
          obtain ⟨q0, q1, q2, q3, q4, q5, q6, q7, q8, q9, q10, q11, q12⟩ := oT.task
          have a1 : (0 : Int) ≤ i := by omega
          have a2 : (i : Int) < ((t.dn + 1 : Nat) : Int) := by omega
          have a3 : (i : Int) < (t.dn : Int) + 1 := by omega
          obtain ⟨r1, r2⟩ := hfirst
          obtain ⟨n1, n2⟩ := hci
          have gT := oT.lt
          have gL := oL.lt
          have BS := Lib.hid hbr
          clear oT oL hbr hcc hll y0 y1 y2 v0 v1 HH' hin
          go_upto_region 18 with fail
          go_cut [157] (fun a wx => a = .bool false ∧ Below wr.heap.size wr wx)
          case first =>
            clear q0 q1 q2 q3 q4 q5 q6 q7 q8 q9 q10 q11 q12
            by_cases hA : t.r.lost ≤ n
            · obtain ⟨b1, b2⟩ := hlo hA
              have b3 : ¬ lp.1 < 0 := by omega
              have b4 : ¬ t.first + (i : Int) < lp.1 := by omega
              have b5 : ¬ n < t.r.lost := by omega
              clear hlo hhi
              refine wp_region_held' (S := fun W' => Below wr.heap.size wr W') (by kernel_rfl) ((Below.refl _ wr).drew) (fun hHeld => ?_)
              refine wpAnyH_take2 (i := 0) (t := 106) (v := ?_) rfl rfl (by kernel_rfl) (by kernel_rfl) (by kernel_rfl) (fun _ _ _ h => Only.not_panic h) (Or.inl ⟨by kernel_rfl, fun W hW => ?_⟩) (by assumption) ?_
              rotate_left
              · have hW2 := hW
                obtain ⟨⟨f0, f1, f2, f3, f4, f5, f6, f7, f8, f9, f10, f11, f12⟩, y0, y1, y2, v0, v1⟩ := HS.out W hW2
                clear hW hW2
                go_simp
                try with_reducible rfl
              try simp only [Act.put, List.setIfInBounds_toArray, List.set_cons_zero, List.set_cons_succ]
              refine wpAnyH_take2 (i := 1) (t := 107) (v := ?_) rfl rfl (by kernel_rfl) (by kernel_rfl) (by kernel_rfl) (fun _ _ _ h => Only.not_panic h) (Or.inl ⟨by kernel_rfl, fun W hW => ?_⟩) (by assumption) ?_
              rotate_left
              · have hW2 := hW
                obtain ⟨⟨f0, f1, f2, f3, f4, f5, f6, f7, f8, f9, f10, f11, f12⟩, y0, y1, y2, v0, v1⟩ := HS.out W hW2
                clear hW hW2
                go_simp
                try with_reducible rfl
              try simp only [Act.put, List.setIfInBounds_toArray, List.set_cons_zero, List.set_cons_succ]
              refine wpAnyH_take2 (i := 2) (t := 108) (v := ?_) rfl rfl (by kernel_rfl) (by kernel_rfl) (by kernel_rfl) (fun _ _ _ h => Only.not_panic h) (Or.inl ⟨by kernel_rfl, fun W hW => ?_⟩) (by assumption) ?_
              rotate_left
              · have hW2 := hW
                obtain ⟨⟨f0, f1, f2, f3, f4, f5, f6, f7, f8, f9, f10, f11, f12⟩, y0, y1, y2, v0, v1⟩ := HS.out W hW2
                clear hW hW2
                go_simp
                try with_reducible rfl
              try simp only [Act.put, List.setIfInBounds_toArray, List.set_cons_zero, List.set_cons_succ]
              refine wpAnyH_take2 (i := 3) (t := 109) (v := ?_) rfl rfl (by kernel_rfl) (by kernel_rfl) (by kernel_rfl) (fun _ _ _ h => Only.not_panic h) (Or.inl ⟨by kernel_rfl, fun W hW => ?_⟩) (by assumption) ?_
              rotate_left
              · have hW2 := hW
                obtain ⟨⟨f0, f1, f2, f3, f4, f5, f6, f7, f8, f9, f10, f11, f12⟩, y0, y1, y2, v0, v1⟩ := HS.out W hW2
                clear hW hW2
                go_simp
                try with_reducible rfl
              try simp only [Act.put, List.setIfInBounds_toArray, List.set_cons_zero, List.set_cons_succ]
              refine wpAnyH_take2 (i := 4) (t := 110) (v := ?_) rfl rfl (by kernel_rfl) (by kernel_rfl) (by kernel_rfl) (fun _ _ _ h => Only.not_panic h) (Or.inl ⟨by kernel_rfl, fun W hW => ?_⟩) (by assumption) ?_
              rotate_left
              · have hW2 := hW
                obtain ⟨⟨f0, f1, f2, f3, f4, f5, f6, f7, f8, f9, f10, f11, f12⟩, y0, y1, y2, v0, v1⟩ := HS.out W hW2
                clear hW hW2
                go_simp
                try with_reducible rfl
              try simp only [Act.put, List.setIfInBounds_toArray, List.set_cons_zero, List.set_cons_succ]
              refine wpAnyH_take2 (i := 5) (t := 111) (v := ?_) rfl rfl (by kernel_rfl) (by kernel_rfl) (by kernel_rfl) (fun _ _ _ h => Only.not_panic h) (Or.inl ⟨by kernel_rfl, fun W hW => ?_⟩) (by assumption) ?_
              rotate_left
              · have hW2 := hW
                obtain ⟨⟨f0, f1, f2, f3, f4, f5, f6, f7, f8, f9, f10, f11, f12⟩, y0, y1, y2, v0, v1⟩ := HS.out W hW2
                clear hW hW2
                go_simp
                try with_reducible rfl
              try simp only [Act.put, List.setIfInBounds_toArray, List.set_cons_zero, List.set_cons_succ]
              refine wpAnyH_take2 (i := 6) (t := 112) (v := ?_) rfl rfl (by kernel_rfl) (by kernel_rfl) (by kernel_rfl) (fun _ _ _ h => Only.not_panic h) (Or.inl ⟨by kernel_rfl, fun W hW => ?_⟩) (by assumption) ?_
              rotate_left
              · have hW2 := hW
                obtain ⟨⟨f0, f1, f2, f3, f4, f5, f6, f7, f8, f9, f10, f11, f12⟩, y0, y1, y2, v0, v1⟩ := HS.out W hW2
                clear hW hW2
                go_simp
                try with_reducible rfl
              try simp only [Act.put, List.setIfInBounds_toArray, List.set_cons_zero, List.set_cons_succ]
              refine wpAnyH_take2 (i := 7) (t := 113) (v := ?_) rfl rfl (by kernel_rfl) (by kernel_rfl) (by kernel_rfl) (fun _ _ _ h => Only.not_panic h) (Or.inl ⟨by kernel_rfl, fun W hW => ?_⟩) (by assumption) ?_
              rotate_left
              · have hW2 := hW
                obtain ⟨⟨f0, f1, f2, f3, f4, f5, f6, f7, f8, f9, f10, f11, f12⟩, y0, y1, y2, v0, v1⟩ := HS.out W hW2
                clear hW hW2
                go_simp
                try with_reducible rfl
              try simp only [Act.put, List.setIfInBounds_toArray, List.set_cons_zero, List.set_cons_succ]
              refine wpAnyH_ready (rs := [8]) (by kernel_rfl) (by simp) ?_
              refine AllReadyH.cons rfl (fun K hK => ?_) ?_
              · go_simp
                with_reducible refine (HH.out _).mono ?_
                rintro ev w8 ⟨rfl, hb8⟩
                try simp only []
                refine hK.out _ _ ?_ (fun hHeld => ?_)
                · exact B_trans hHeld hb8
                clear hK K
                try simp only [Act.put, List.setIfInBounds_toArray, List.set_cons_zero, List.set_cons_succ]
                refine wpAnyH_take2 (i := 9) (t := 115) (v := ?_) rfl rfl (by kernel_rfl) (by kernel_rfl) (by kernel_rfl) (fun _ _ _ h => Only.not_panic h) (Or.inl ⟨by kernel_rfl, fun W hW => ?_⟩) (by assumption) ?_
                rotate_left
                · have hW2 := hW
                  obtain ⟨⟨f0, f1, f2, f3, f4, f5, f6, f7, f8, f9, f10, f11, f12⟩, y0, y1, y2, v0, v1⟩ := HS.out W hW2
                  clear hW hW2
                  go_simp
                  try with_reducible rfl
                try simp only [Act.put, List.setIfInBounds_toArray, List.set_cons_zero, List.set_cons_succ]
                refine wpAnyH_take2 (i := 10) (t := 116) (v := ?_) rfl rfl (by kernel_rfl) (by kernel_rfl) (by kernel_rfl) (fun _ _ _ h => Only.not_panic h) (Or.inl ⟨by kernel_rfl, fun W hW => ?_⟩) (by assumption) ?_
                rotate_left
                · have hW2 := hW
                  obtain ⟨⟨f0, f1, f2, f3, f4, f5, f6, f7, f8, f9, f10, f11, f12⟩, y0, y1, y2, v0, v1⟩ := HS.out W hW2
                  clear hW hW2
                  go_simp
                  try with_reducible rfl
                try simp only [Act.put, List.setIfInBounds_toArray, List.set_cons_zero, List.set_cons_succ]
                refine wpAnyH_take2 (i := 11) (t := 117) (v := ?_) rfl rfl (by kernel_rfl) (by kernel_rfl) (by kernel_rfl) (fun _ _ _ h => Only.not_panic h) (Or.inl ⟨by kernel_rfl, fun W hW => ?_⟩) (by assumption) ?_
                rotate_left
                · have hW2 := hW
                  obtain ⟨⟨f0, f1, f2, f3, f4, f5, f6, f7, f8, f9, f10, f11, f12⟩, y0, y1, y2, v0, v1⟩ := HS.out W hW2
                  clear hW hW2
                  go_simp
                  try with_reducible rfl
                try simp only [Act.put, List.setIfInBounds_toArray, List.set_cons_zero, List.set_cons_succ]
                refine wpAnyH_take2 (i := 12) (t := 118) (v := ?_) rfl rfl (by kernel_rfl) (by kernel_rfl) (by kernel_rfl) (fun _ _ _ h => Only.not_panic h) (Or.inl ⟨by kernel_rfl, fun W hW => ?_⟩) (by assumption) ?_
                rotate_left
                · have hW2 := hW
                  obtain ⟨⟨f0, f1, f2, f3, f4, f5, f6, f7, f8, f9, f10, f11, f12⟩, y0, y1, y2, v0, v1⟩ := HS.out W hW2
                  clear hW hW2
                  go_simp
                  try with_reducible rfl
                try simp only [Act.put, List.setIfInBounds_toArray, List.set_cons_zero, List.set_cons_succ]
                refine wpAnyH_take2 (i := 13) (t := 119) (v := ?_) rfl rfl (by kernel_rfl) (by kernel_rfl) (by kernel_rfl) (fun _ _ _ h => Only.not_panic h) (Or.inl ⟨by kernel_rfl, fun W hW => ?_⟩) (by assumption) ?_
                rotate_left
                · have hW2 := hW
                  obtain ⟨⟨f0, f1, f2, f3, f4, f5, f6, f7, f8, f9, f10, f11, f12⟩, y0, y1, y2, v0, v1⟩ := HS.out W hW2
                  clear hW hW2
                  go_simp
                  try with_reducible rfl
                try simp only [Act.put, List.setIfInBounds_toArray, List.set_cons_zero, List.set_cons_succ]
                refine wpAnyH_take2 (i := 14) (t := 120) (v := ?_) rfl rfl (by kernel_rfl) (by kernel_rfl) (by kernel_rfl) (fun _ _ _ h => Only.not_panic h) (Or.inl ⟨by kernel_rfl, fun W hW => ?_⟩) (by assumption) ?_
                rotate_left
                · have hW2 := hW
                  obtain ⟨⟨f0, f1, f2, f3, f4, f5, f6, f7, f8, f9, f10, f11, f12⟩, y0, y1, y2, v0, v1⟩ := HS.out W hW2
                  clear hW hW2
                  go_simp
                  try with_reducible rfl
                try simp only [Act.put, List.setIfInBounds_toArray, List.set_cons_zero, List.set_cons_succ]
                refine wpAnyH_take2 (i := 15) (t := 121) (v := ?_) rfl rfl (by kernel_rfl) (by kernel_rfl) (by kernel_rfl) (fun _ _ _ h => Only.not_panic h) (Or.inl ⟨by kernel_rfl, fun W hW => ?_⟩) (by assumption) ?_
                rotate_left
                · have hW2 := hW
                  obtain ⟨⟨f0, f1, f2, f3, f4, f5, f6, f7, f8, f9, f10, f11, f12⟩, y0, y1, y2, v0, v1⟩ := HS.out W hW2
                  clear hW hW2
                  go_simp
                  try with_reducible rfl
                try simp only [Act.put, List.setIfInBounds_toArray, List.set_cons_zero, List.set_cons_succ]
                refine wpAnyH_take2 (i := 16) (t := 122) (v := ?_) rfl rfl (by kernel_rfl) (by kernel_rfl) (by kernel_rfl) (fun _ _ _ h => Only.not_panic h) (Or.inl ⟨by kernel_rfl, fun W hW => ?_⟩) (by assumption) ?_
                rotate_left
                · have hW2 := hW
                  obtain ⟨⟨f0, f1, f2, f3, f4, f5, f6, f7, f8, f9, f10, f11, f12⟩, y0, y1, y2, v0, v1⟩ := HS.out W hW2
                  clear hW hW2
                  go_simp
                  try with_reducible rfl
                try simp only [Act.put, List.setIfInBounds_toArray, List.set_cons_zero, List.set_cons_succ]
                refine wpAnyH_take2 (i := 17) (t := 123) (v := ?_) rfl rfl (by kernel_rfl) (by kernel_rfl) (by kernel_rfl) (fun _ _ _ h => Only.not_panic h) (Or.inl ⟨by kernel_rfl, fun W hW => ?_⟩) (by assumption) ?_
                rotate_left
                · have hW2 := hW
                  obtain ⟨⟨f0, f1, f2, f3, f4, f5, f6, f7, f8, f9, f10, f11, f12⟩, y0, y1, y2, v0, v1⟩ := HS.out W hW2
                  clear hW hW2
                  go_simp
                  try with_reducible rfl
                try simp only [Act.put, List.setIfInBounds_toArray, List.set_cons_zero, List.set_cons_succ]
                refine wpAnyH_take2 (i := 18) (t := 124) (v := ?_) rfl rfl (by kernel_rfl) (by kernel_rfl) (by kernel_rfl) (fun _ _ _ h => Only.not_panic h) (Or.inl ⟨by kernel_rfl, fun W hW => ?_⟩) (by assumption) ?_
                rotate_left
                · have hW2 := hW
                  obtain ⟨⟨f0, f1, f2, f3, f4, f5, f6, f7, f8, f9, f10, f11, f12⟩, y0, y1, y2, v0, v1⟩ := HS.out W hW2
                  clear hW hW2
                  go_simp
                  try with_reducible rfl
                try simp only [Act.put, List.setIfInBounds_toArray, List.set_cons_zero, List.set_cons_succ]
                refine wpAnyH_take2 (i := 19) (t := 125) (v := ?_) rfl rfl (by kernel_rfl) (by kernel_rfl) (by kernel_rfl) (fun _ _ _ h => Only.not_panic h) (Or.inl ⟨by kernel_rfl, fun W hW => ?_⟩) (by assumption) ?_
                rotate_left
                · have hW2 := hW
                  obtain ⟨⟨f0, f1, f2, f3, f4, f5, f6, f7, f8, f9, f10, f11, f12⟩, y0, y1, y2, v0, v1⟩ := HS.out W hW2
                  clear hW hW2
                  go_simp
                  try with_reducible rfl
                try simp only [Act.put, List.setIfInBounds_toArray, List.set_cons_zero, List.set_cons_succ]
                refine wpAnyH_take2 (i := 20) (t := 126) (v := ?_) rfl rfl (by kernel_rfl) (by kernel_rfl) (by kernel_rfl) (fun _ _ _ h => Only.not_panic h) (Or.inl ⟨by kernel_rfl, fun W hW => ?_⟩) (by assumption) ?_
                rotate_left
                · have hW2 := hW
                  obtain ⟨⟨f0, f1, f2, f3, f4, f5, f6, f7, f8, f9, f10, f11, f12⟩, y0, y1, y2, v0, v1⟩ := HS.out W hW2
                  clear hW hW2
                  go_simp
                  try with_reducible rfl
                try simp only [Act.put, List.setIfInBounds_toArray, List.set_cons_zero, List.set_cons_succ]
                refine wpAnyH_take2 (i := 21) (t := 127) (v := ?_) rfl rfl (by kernel_rfl) (by kernel_rfl) (by kernel_rfl) (fun _ _ _ h => Only.not_panic h) (Or.inl ⟨by kernel_rfl, fun W hW => ?_⟩) (by assumption) ?_
                rotate_left
                · have hW2 := hW
                  obtain ⟨⟨f0, f1, f2, f3, f4, f5, f6, f7, f8, f9, f10, f11, f12⟩, y0, y1, y2, v0, v1⟩ := HS.out W hW2
                  clear hW hW2
                  go_simp
                  try with_reducible rfl
                try simp only [Act.put, List.setIfInBounds_toArray, List.set_cons_zero, List.set_cons_succ]
                refine wpAnyH_take2 (i := 22) (t := 128) (v := ?_) rfl rfl (by kernel_rfl) (by kernel_rfl) (by kernel_rfl) (fun _ _ _ h => Only.not_panic h) (Or.inl ⟨by kernel_rfl, fun W hW => ?_⟩) (by assumption) ?_
                rotate_left
                · have hW2 := hW
                  obtain ⟨⟨f0, f1, f2, f3, f4, f5, f6, f7, f8, f9, f10, f11, f12⟩, y0, y1, y2, v0, v1⟩ := HS.out W hW2
                  clear hW hW2
                  go_simp
                  try with_reducible rfl
                try simp only [Act.put, List.setIfInBounds_toArray, List.set_cons_zero, List.set_cons_succ]
                refine wpAnyH_take2 (i := 23) (t := 129) (v := ?_) rfl rfl (by kernel_rfl) (by kernel_rfl) (by kernel_rfl) (fun _ _ _ h => Only.not_panic h) (Or.inl ⟨by kernel_rfl, fun W hW => ?_⟩) (by assumption) ?_
                rotate_left
                · have hW2 := hW
                  obtain ⟨⟨f0, f1, f2, f3, f4, f5, f6, f7, f8, f9, f10, f11, f12⟩, y0, y1, y2, v0, v1⟩ := HS.out W hW2
                  clear hW hW2
                  go_simp
                  try with_reducible rfl
                try simp only [Act.put, List.setIfInBounds_toArray, List.set_cons_zero, List.set_cons_succ]
                refine wpAnyH_take2 (i := 24) (t := 130) (v := ?_) rfl rfl (by kernel_rfl) (by kernel_rfl) (by kernel_rfl) (fun _ _ _ h => Only.not_panic h) (Or.inl ⟨by kernel_rfl, fun W hW => ?_⟩) (by assumption) ?_
                rotate_left
                · have hW2 := hW
                  obtain ⟨⟨f0, f1, f2, f3, f4, f5, f6, f7, f8, f9, f10, f11, f12⟩, y0, y1, y2, v0, v1⟩ := HS.out W hW2
                  clear hW hW2
                  go_simp
                  try with_reducible rfl
                try simp only [Act.put, List.setIfInBounds_toArray, List.set_cons_zero, List.set_cons_succ]
                refine wpAnyH_take2 (i := 25) (t := 131) (v := ?_) rfl rfl (by kernel_rfl) (by kernel_rfl) (by kernel_rfl) (fun _ _ _ h => Only.not_panic h) (Or.inl ⟨by kernel_rfl, fun W hW => ?_⟩) (by assumption) ?_
                rotate_left
                · have hW2 := hW
                  obtain ⟨⟨f0, f1, f2, f3, f4, f5, f6, f7, f8, f9, f10, f11, f12⟩, y0, y1, y2, v0, v1⟩ := HS.out W hW2
                  clear hW hW2
                  go_simp
                  try with_reducible rfl
                try simp only [Act.put, List.setIfInBounds_toArray, List.set_cons_zero, List.set_cons_succ]
                refine wpAnyH_take2 (i := 26) (t := 132) (v := ?_) rfl rfl (by kernel_rfl) (by kernel_rfl) (by kernel_rfl) (fun _ _ _ h => Only.not_panic h) (Or.inl ⟨by kernel_rfl, fun W hW => ?_⟩) (by assumption) ?_
                rotate_left
                · have hW2 := hW
                  obtain ⟨⟨f0, f1, f2, f3, f4, f5, f6, f7, f8, f9, f10, f11, f12⟩, y0, y1, y2, v0, v1⟩ := HS.out W hW2
                  clear hW hW2
                  go_simp
                  try with_reducible rfl
                try simp only [Act.put, List.setIfInBounds_toArray, List.set_cons_zero, List.set_cons_succ]
                refine wpAnyH_take2 (i := 27) (t := 133) (v := ?_) rfl rfl (by kernel_rfl) (by kernel_rfl) (by kernel_rfl) (fun _ _ _ h => Only.not_panic h) (Or.inl ⟨by kernel_rfl, fun W hW => ?_⟩) (by assumption) ?_
                rotate_left
                · have hW2 := hW
                  obtain ⟨⟨f0, f1, f2, f3, f4, f5, f6, f7, f8, f9, f10, f11, f12⟩, y0, y1, y2, v0, v1⟩ := HS.out W hW2
                  clear hW hW2
                  go_simp
                  try with_reducible rfl
                try simp only [Act.put, List.setIfInBounds_toArray, List.set_cons_zero, List.set_cons_succ]
                refine wpAnyH_take2 (i := 28) (t := 134) (v := ?_) rfl rfl (by kernel_rfl) (by kernel_rfl) (by kernel_rfl) (fun _ _ _ h => Only.not_panic h) (Or.inl ⟨by kernel_rfl, fun W hW => ?_⟩) (by assumption) ?_
                rotate_left
                · have hW2 := hW
                  obtain ⟨⟨f0, f1, f2, f3, f4, f5, f6, f7, f8, f9, f10, f11, f12⟩, y0, y1, y2, v0, v1⟩ := HS.out W hW2
                  clear hW hW2
                  go_simp
                  try with_reducible rfl
                try simp only [Act.put, List.setIfInBounds_toArray, List.set_cons_zero, List.set_cons_succ]
                refine wpAnyH_take2 (i := 29) (t := 135) (v := ?_) rfl rfl (by kernel_rfl) (by kernel_rfl) (by kernel_rfl) (fun _ _ _ h => Only.not_panic h) (Or.inl ⟨by kernel_rfl, fun W hW => ?_⟩) (by assumption) ?_
                rotate_left
                · have hW2 := hW
                  obtain ⟨⟨f0, f1, f2, f3, f4, f5, f6, f7, f8, f9, f10, f11, f12⟩, y0, y1, y2, v0, v1⟩ := HS.out W hW2
                  clear hW hW2
                  go_simp
                  try with_reducible rfl
                try simp only [Act.put, List.setIfInBounds_toArray, List.set_cons_zero, List.set_cons_succ]
                refine wpAnyH_take2 (i := 30) (t := 136) (v := ?_) rfl rfl (by kernel_rfl) (by kernel_rfl) (by kernel_rfl) (fun _ _ _ h => Only.not_panic h) (Or.inl ⟨by kernel_rfl, fun W hW => ?_⟩) (by assumption) ?_
                rotate_left
                · have hW2 := hW
                  obtain ⟨⟨f0, f1, f2, f3, f4, f5, f6, f7, f8, f9, f10, f11, f12⟩, y0, y1, y2, v0, v1⟩ := HS.out W hW2
                  clear hW hW2
                  go_simp
                  try with_reducible rfl
                try simp only [Act.put, List.setIfInBounds_toArray, List.set_cons_zero, List.set_cons_succ]
                refine wpAnyH_take2 (i := 31) (t := 137) (v := ?_) rfl rfl (by kernel_rfl) (by kernel_rfl) (by kernel_rfl) (fun _ _ _ h => Only.not_panic h) (Or.inl ⟨by kernel_rfl, fun W hW => ?_⟩) (by assumption) ?_
                rotate_left
                · have hW2 := hW
                  obtain ⟨⟨f0, f1, f2, f3, f4, f5, f6, f7, f8, f9, f10, f11, f12⟩, y0, y1, y2, v0, v1⟩ := HS.out W hW2
                  clear hW hW2
                  go_simp
                  try with_reducible rfl
                try simp only [Act.put, List.setIfInBounds_toArray, List.set_cons_zero, List.set_cons_succ]
                refine wpAnyH_take2 (i := 32) (t := 138) (v := ?_) rfl rfl (by kernel_rfl) (by kernel_rfl) (by kernel_rfl) (fun _ _ _ h => Only.not_panic h) (Or.inl ⟨by kernel_rfl, fun W hW => ?_⟩) (by assumption) ?_
                rotate_left
                · have hW2 := hW
                  obtain ⟨⟨f0, f1, f2, f3, f4, f5, f6, f7, f8, f9, f10, f11, f12⟩, y0, y1, y2, v0, v1⟩ := HS.out W hW2
                  clear hW hW2
                  go_simp
                  try with_reducible rfl
                try simp only [Act.put, List.setIfInBounds_toArray, List.set_cons_zero, List.set_cons_succ]
                refine wpAnyH_take2 (i := 33) (t := 139) (v := ?_) rfl rfl (by kernel_rfl) (by kernel_rfl) (by kernel_rfl) (fun _ _ _ h => Only.not_panic h) (Or.inl ⟨by kernel_rfl, fun W hW => ?_⟩) (by assumption) ?_
                rotate_left
                · have hW2 := hW
                  obtain ⟨⟨f0, f1, f2, f3, f4, f5, f6, f7, f8, f9, f10, f11, f12⟩, y0, y1, y2, v0, v1⟩ := HS.out W hW2
                  clear hW hW2
                  go_simp
                  try with_reducible rfl
                try simp only [Act.put, List.setIfInBounds_toArray, List.set_cons_zero, List.set_cons_succ]
                refine wpAnyH_take2 (i := 34) (t := 140) (v := ?_) rfl rfl (by kernel_rfl) (by kernel_rfl) (by kernel_rfl) (fun _ _ _ h => Only.not_panic h) (Or.inl ⟨by kernel_rfl, fun W hW => ?_⟩) (by assumption) ?_
                rotate_left
                · have hW2 := hW
                  obtain ⟨⟨f0, f1, f2, f3, f4, f5, f6, f7, f8, f9, f10, f11, f12⟩, y0, y1, y2, v0, v1⟩ := HS.out W hW2
                  clear hW hW2
                  go_simp
                  try with_reducible rfl
                try simp only [Act.put, List.setIfInBounds_toArray, List.set_cons_zero, List.set_cons_succ]
                refine wpAnyH_take2 (i := 35) (t := 141) (v := ?_) rfl rfl (by kernel_rfl) (by kernel_rfl) (by kernel_rfl) (fun _ _ _ h => Only.not_panic h) (Or.inl ⟨by kernel_rfl, fun W hW => ?_⟩) (by assumption) ?_
                rotate_left
                · have hW2 := hW
                  obtain ⟨⟨f0, f1, f2, f3, f4, f5, f6, f7, f8, f9, f10, f11, f12⟩, y0, y1, y2, v0, v1⟩ := HS.out W hW2
                  clear hW hW2
                  go_simp
                  try with_reducible rfl
                try simp only [Act.put, List.setIfInBounds_toArray, List.set_cons_zero, List.set_cons_succ]
                refine wpAnyH_take2 (i := 36) (t := 142) (v := ?_) rfl rfl (by kernel_rfl) (by kernel_rfl) (by kernel_rfl) (fun _ _ _ h => Only.not_panic h) (Or.inl ⟨by kernel_rfl, fun W hW => ?_⟩) (by assumption) ?_
                rotate_left
                · have hW2 := hW
                  obtain ⟨⟨f0, f1, f2, f3, f4, f5, f6, f7, f8, f9, f10, f11, f12⟩, y0, y1, y2, v0, v1⟩ := HS.out W hW2
                  clear hW hW2
                  go_simp
                  try with_reducible rfl
                try simp only [Act.put, List.setIfInBounds_toArray, List.set_cons_zero, List.set_cons_succ]
                refine wpAnyH_take2 (i := 37) (t := 143) (v := ?_) rfl rfl (by kernel_rfl) (by kernel_rfl) (by kernel_rfl) (fun _ _ _ h => Only.not_panic h) (Or.inl ⟨by kernel_rfl, fun W hW => ?_⟩) (by assumption) ?_
                rotate_left
                · have hW2 := hW
                  obtain ⟨⟨f0, f1, f2, f3, f4, f5, f6, f7, f8, f9, f10, f11, f12⟩, y0, y1, y2, v0, v1⟩ := HS.out W hW2
                  clear hW hW2
                  go_simp
                  try with_reducible rfl
                try simp only [Act.put, List.setIfInBounds_toArray, List.set_cons_zero, List.set_cons_succ]
                refine wpAnyH_take2 (i := 38) (t := 144) (v := ?_) rfl rfl (by kernel_rfl) (by kernel_rfl) (by kernel_rfl) (fun _ _ _ h => Only.not_panic h) (Or.inl ⟨by kernel_rfl, fun W hW => ?_⟩) (by assumption) ?_
                rotate_left
                · have hW2 := hW
                  obtain ⟨⟨f0, f1, f2, f3, f4, f5, f6, f7, f8, f9, f10, f11, f12⟩, y0, y1, y2, v0, v1⟩ := HS.out W hW2
                  clear hW hW2
                  go_simp
                  try with_reducible rfl
                try simp only [Act.put, List.setIfInBounds_toArray, List.set_cons_zero, List.set_cons_succ]
                refine wpAnyH_take2 (i := 39) (t := 145) (v := ?_) rfl rfl (by kernel_rfl) (by kernel_rfl) (by kernel_rfl) (fun _ _ _ h => Only.not_panic h) (Or.inl ⟨by kernel_rfl, fun W hW => ?_⟩) (by assumption) ?_
                rotate_left
                · have hW2 := hW
                  obtain ⟨⟨f0, f1, f2, f3, f4, f5, f6, f7, f8, f9, f10, f11, f12⟩, y0, y1, y2, v0, v1⟩ := HS.out W hW2
                  clear hW hW2
                  go_simp
                  try with_reducible rfl
                try simp only [Act.put, List.setIfInBounds_toArray, List.set_cons_zero, List.set_cons_succ]
                refine wpAnyH_take2 (i := 40) (t := 146) (v := ?_) rfl rfl (by kernel_rfl) (by kernel_rfl) (by kernel_rfl) (fun _ _ _ h => Only.not_panic h) (Or.inl ⟨by kernel_rfl, fun W hW => ?_⟩) (by assumption) ?_
                rotate_left
                · have hW2 := hW
                  obtain ⟨⟨f0, f1, f2, f3, f4, f5, f6, f7, f8, f9, f10, f11, f12⟩, y0, y1, y2, v0, v1⟩ := HS.out W hW2
                  clear hW hW2
                  go_simp
                  try with_reducible rfl
                try simp only [Act.put, List.setIfInBounds_toArray, List.set_cons_zero, List.set_cons_succ]
                refine wpAnyH_skip (i := 41) (t := 147) rfl rfl (by kernel_rfl) (by kernel_rfl) (by kernel_rfl) (fun _ _ _ h => Only.not_panic h) (by kernel_rfl) (by assumption) ?_
                try simp only [Act.put, List.setIfInBounds_toArray, List.set_cons_zero, List.set_cons_succ]
                refine wpAnyH_skip (i := 42) (t := 148) rfl rfl (by kernel_rfl) (by kernel_rfl) (by kernel_rfl) (fun _ _ _ h => Only.not_panic h) (by kernel_rfl) (by assumption) ?_
                try simp only [Act.put, List.setIfInBounds_toArray, List.set_cons_zero, List.set_cons_succ]
                refine wpAnyH_skip (i := 43) (t := 149) rfl rfl (by kernel_rfl) (by kernel_rfl) (by kernel_rfl) (fun _ _ _ h => Only.not_panic h) (by kernel_rfl) (by assumption) ?_
                try simp only [Act.put, List.setIfInBounds_toArray, List.set_cons_zero, List.set_cons_succ]
                refine wpAnyH_take2 (i := 44) (t := 150) (v := ?_) rfl rfl (by kernel_rfl) (by kernel_rfl) (by kernel_rfl) (fun _ _ _ h => Only.not_panic h) (Or.inl ⟨by kernel_rfl, fun W hW => ?_⟩) (by assumption) ?_
                rotate_left
                · have hW2 := hW
                  obtain ⟨⟨f0, f1, f2, f3, f4, f5, f6, f7, f8, f9, f10, f11, f12⟩, y0, y1, y2, v0, v1⟩ := HS.out W hW2
                  clear hW hW2
                  go_simp
                  try with_reducible rfl
                try simp only [Act.put, List.setIfInBounds_toArray, List.set_cons_zero, List.set_cons_succ]
                refine wpAnyH_take2 (i := 45) (t := 151) (v := ?_) rfl rfl (by kernel_rfl) (by kernel_rfl) (by kernel_rfl) (fun _ _ _ h => Only.not_panic h) (Or.inl ⟨by kernel_rfl, fun W hW => ?_⟩) (by assumption) ?_
                rotate_left
                · have hW2 := hW
                  obtain ⟨⟨f0, f1, f2, f3, f4, f5, f6, f7, f8, f9, f10, f11, f12⟩, y0, y1, y2, v0, v1⟩ := HS.out W hW2
                  clear hW hW2
                  go_simp
                  try with_reducible rfl
                try simp only [Act.put, List.setIfInBounds_toArray, List.set_cons_zero, List.set_cons_succ]
                refine wpAnyH_skip (i := 46) (t := 152) rfl rfl (by kernel_rfl) (by kernel_rfl) (by kernel_rfl) (fun _ _ _ h => Only.not_panic h) (by kernel_rfl) (by assumption) ?_
                try simp only [Act.put, List.setIfInBounds_toArray, List.set_cons_zero, List.set_cons_succ]
                refine wpAnyH_skip (i := 47) (t := 153) rfl rfl (by kernel_rfl) (by kernel_rfl) (by kernel_rfl) (fun _ _ _ h => Only.not_panic h) (by kernel_rfl) (by assumption) ?_
                try simp only [Act.put, List.setIfInBounds_toArray, List.set_cons_zero, List.set_cons_succ]
                refine wpAnyH_skip (i := 48) (t := 154) rfl rfl (by kernel_rfl) (by kernel_rfl) (by kernel_rfl) (fun _ _ _ h => Only.not_panic h) (by kernel_rfl) (by assumption) ?_
                try simp only [Act.put, List.setIfInBounds_toArray, List.set_cons_zero, List.set_cons_succ]
                refine wpAnyH_skip (i := 49) (t := 155) rfl rfl (by kernel_rfl) (by kernel_rfl) (by kernel_rfl) (fun _ _ _ h => Only.not_panic h) (by kernel_rfl) (by assumption) ?_
                try simp only [Act.put, List.setIfInBounds_toArray, List.set_cons_zero, List.set_cons_succ]
                refine wpAnyH_take2 (i := 50) (t := 156) (v := ?_) rfl rfl (by kernel_rfl) (by kernel_rfl) (by kernel_rfl) (fun _ _ _ h => Only.not_panic h) (Or.inl ⟨by kernel_rfl, fun W hW => ?_⟩) (by assumption) ?_
                rotate_left
                · have hW2 := hW
                  obtain ⟨⟨f0, f1, f2, f3, f4, f5, f6, f7, f8, f9, f10, f11, f12⟩, y0, y1, y2, v0, v1⟩ := HS.out W hW2
                  clear hW hW2
                  go_simp
                  try with_reducible rfl
                try simp only [Act.put, List.setIfInBounds_toArray, List.set_cons_zero, List.set_cons_succ]
                refine wpAnyH_take2 (i := 51) (t := 157) (v := ?_) rfl rfl (by kernel_rfl) (by kernel_rfl) (by kernel_rfl) (fun _ _ _ h => Only.not_panic h) (Or.inl ⟨by kernel_rfl, fun W hW => ?_⟩) (by assumption) ?_
                rotate_left
                · have hW2 := hW
                  obtain ⟨⟨f0, f1, f2, f3, f4, f5, f6, f7, f8, f9, f10, f11, f12⟩, y0, y1, y2, v0, v1⟩ := HS.out W hW2
                  clear hW hW2
                  go_simp
                  try with_reducible rfl
                try simp only [Act.put, List.setIfInBounds_toArray, List.set_cons_zero, List.set_cons_succ]
                refine wpAnyH_done (by kernel_rfl) (Only.mk ?_) _
                go_wp2_with fail
                go_meet
                exact ⟨rfl, hHeld⟩
              exact AllReadyH.nil
            · have b5 : n < t.r.lost := by omega
              by_cases hB : 0 ≤ lp.2
              · have b6 : ¬ lp.2 ≤ t.first + (i : Int) := fun h => hA (hhi hB h)
                clear hlo hhi
                refine wp_region_held' (S := fun W' => Below wr.heap.size wr W') (by kernel_rfl) ((Below.refl _ wr).drew) (fun hHeld => ?_)
                refine wpAnyH_take2 (i := 0) (t := 106) (v := ?_) rfl rfl (by kernel_rfl) (by kernel_rfl) (by kernel_rfl) (fun _ _ _ h => Only.not_panic h) (Or.inl ⟨by kernel_rfl, fun W hW => ?_⟩) (by assumption) ?_
                rotate_left
                · have hW2 := hW
                  obtain ⟨⟨f0, f1, f2, f3, f4, f5, f6, f7, f8, f9, f10, f11, f12⟩, y0, y1, y2, v0, v1⟩ := HS.out W hW2
                  clear hW hW2
                  go_simp
                  try with_reducible rfl
                try simp only [Act.put, List.setIfInBounds_toArray, List.set_cons_zero, List.set_cons_succ]
                refine wpAnyH_take2 (i := 1) (t := 107) (v := ?_) rfl rfl (by kernel_rfl) (by kernel_rfl) (by kernel_rfl) (fun _ _ _ h => Only.not_panic h) (Or.inl ⟨by kernel_rfl, fun W hW => ?_⟩) (by assumption) ?_
                rotate_left
                · have hW2 := hW
                  obtain ⟨⟨f0, f1, f2, f3, f4, f5, f6, f7, f8, f9, f10, f11, f12⟩, y0, y1, y2, v0, v1⟩ := HS.out W hW2
                  clear hW hW2
                  go_simp
                  try with_reducible rfl
                try simp only [Act.put, List.setIfInBounds_toArray, List.set_cons_zero, List.set_cons_succ]
                refine wpAnyH_take2 (i := 2) (t := 108) (v := ?_) rfl rfl (by kernel_rfl) (by kernel_rfl) (by kernel_rfl) (fun _ _ _ h => Only.not_panic h) (Or.inl ⟨by kernel_rfl, fun W hW => ?_⟩) (by assumption) ?_
                rotate_left
                · have hW2 := hW
                  obtain ⟨⟨f0, f1, f2, f3, f4, f5, f6, f7, f8, f9, f10, f11, f12⟩, y0, y1, y2, v0, v1⟩ := HS.out W hW2
                  clear hW hW2
                  go_simp
                  try with_reducible rfl
                try simp only [Act.put, List.setIfInBounds_toArray, List.set_cons_zero, List.set_cons_succ]
                refine wpAnyH_take2 (i := 3) (t := 109) (v := ?_) rfl rfl (by kernel_rfl) (by kernel_rfl) (by kernel_rfl) (fun _ _ _ h => Only.not_panic h) (Or.inl ⟨by kernel_rfl, fun W hW => ?_⟩) (by assumption) ?_
                rotate_left
                · have hW2 := hW
                  obtain ⟨⟨f0, f1, f2, f3, f4, f5, f6, f7, f8, f9, f10, f11, f12⟩, y0, y1, y2, v0, v1⟩ := HS.out W hW2
                  clear hW hW2
                  go_simp
                  try with_reducible rfl
                try simp only [Act.put, List.setIfInBounds_toArray, List.set_cons_zero, List.set_cons_succ]
                refine wpAnyH_take2 (i := 4) (t := 110) (v := ?_) rfl rfl (by kernel_rfl) (by kernel_rfl) (by kernel_rfl) (fun _ _ _ h => Only.not_panic h) (Or.inl ⟨by kernel_rfl, fun W hW => ?_⟩) (by assumption) ?_
                rotate_left
                · have hW2 := hW
                  obtain ⟨⟨f0, f1, f2, f3, f4, f5, f6, f7, f8, f9, f10, f11, f12⟩, y0, y1, y2, v0, v1⟩ := HS.out W hW2
                  clear hW hW2
                  go_simp
                  try with_reducible rfl
                try simp only [Act.put, List.setIfInBounds_toArray, List.set_cons_zero, List.set_cons_succ]
                refine wpAnyH_take2 (i := 5) (t := 111) (v := ?_) rfl rfl (by kernel_rfl) (by kernel_rfl) (by kernel_rfl) (fun _ _ _ h => Only.not_panic h) (Or.inl ⟨by kernel_rfl, fun W hW => ?_⟩) (by assumption) ?_
                rotate_left
                · have hW2 := hW
                  obtain ⟨⟨f0, f1, f2, f3, f4, f5, f6, f7, f8, f9, f10, f11, f12⟩, y0, y1, y2, v0, v1⟩ := HS.out W hW2
                  clear hW hW2
                  go_simp
                  try with_reducible rfl
                try simp only [Act.put, List.setIfInBounds_toArray, List.set_cons_zero, List.set_cons_succ]
                refine wpAnyH_take2 (i := 6) (t := 112) (v := ?_) rfl rfl (by kernel_rfl) (by kernel_rfl) (by kernel_rfl) (fun _ _ _ h => Only.not_panic h) (Or.inl ⟨by kernel_rfl, fun W hW => ?_⟩) (by assumption) ?_
                rotate_left
                · have hW2 := hW
                  obtain ⟨⟨f0, f1, f2, f3, f4, f5, f6, f7, f8, f9, f10, f11, f12⟩, y0, y1, y2, v0, v1⟩ := HS.out W hW2
                  clear hW hW2
                  go_simp
                  try with_reducible rfl
                try simp only [Act.put, List.setIfInBounds_toArray, List.set_cons_zero, List.set_cons_succ]
                refine wpAnyH_take2 (i := 7) (t := 113) (v := ?_) rfl rfl (by kernel_rfl) (by kernel_rfl) (by kernel_rfl) (fun _ _ _ h => Only.not_panic h) (Or.inl ⟨by kernel_rfl, fun W hW => ?_⟩) (by assumption) ?_
                rotate_left
                · have hW2 := hW
                  obtain ⟨⟨f0, f1, f2, f3, f4, f5, f6, f7, f8, f9, f10, f11, f12⟩, y0, y1, y2, v0, v1⟩ := HS.out W hW2
                  clear hW hW2
                  go_simp
                  try with_reducible rfl
                try simp only [Act.put, List.setIfInBounds_toArray, List.set_cons_zero, List.set_cons_succ]
                refine wpAnyH_ready (rs := [8]) (by kernel_rfl) (by simp) ?_
                refine AllReadyH.cons rfl (fun K hK => ?_) ?_
                · go_simp
                  with_reducible refine (HH.out _).mono ?_
                  rintro ev w8 ⟨rfl, hb8⟩
                  try simp only []
                  refine hK.out _ _ ?_ (fun hHeld => ?_)
                  · exact B_trans hHeld hb8
                  clear hK K
                  try simp only [Act.put, List.setIfInBounds_toArray, List.set_cons_zero, List.set_cons_succ]
                  refine wpAnyH_take2 (i := 9) (t := 115) (v := ?_) rfl rfl (by kernel_rfl) (by kernel_rfl) (by kernel_rfl) (fun _ _ _ h => Only.not_panic h) (Or.inl ⟨by kernel_rfl, fun W hW => ?_⟩) (by assumption) ?_
                  rotate_left
                  · have hW2 := hW
                    obtain ⟨⟨f0, f1, f2, f3, f4, f5, f6, f7, f8, f9, f10, f11, f12⟩, y0, y1, y2, v0, v1⟩ := HS.out W hW2
                    clear hW hW2
                    go_simp
                    try with_reducible rfl
                  try simp only [Act.put, List.setIfInBounds_toArray, List.set_cons_zero, List.set_cons_succ]
                  refine wpAnyH_take2 (i := 10) (t := 116) (v := ?_) rfl rfl (by kernel_rfl) (by kernel_rfl) (by kernel_rfl) (fun _ _ _ h => Only.not_panic h) (Or.inl ⟨by kernel_rfl, fun W hW => ?_⟩) (by assumption) ?_
                  rotate_left
                  · have hW2 := hW
                    obtain ⟨⟨f0, f1, f2, f3, f4, f5, f6, f7, f8, f9, f10, f11, f12⟩, y0, y1, y2, v0, v1⟩ := HS.out W hW2
                    clear hW hW2
                    go_simp
                    try with_reducible rfl
                  try simp only [Act.put, List.setIfInBounds_toArray, List.set_cons_zero, List.set_cons_succ]
                  refine wpAnyH_take2 (i := 11) (t := 117) (v := ?_) rfl rfl (by kernel_rfl) (by kernel_rfl) (by kernel_rfl) (fun _ _ _ h => Only.not_panic h) (Or.inl ⟨by kernel_rfl, fun W hW => ?_⟩) (by assumption) ?_
                  rotate_left
                  · have hW2 := hW
                    obtain ⟨⟨f0, f1, f2, f3, f4, f5, f6, f7, f8, f9, f10, f11, f12⟩, y0, y1, y2, v0, v1⟩ := HS.out W hW2
                    clear hW hW2
                    go_simp
                    try with_reducible rfl
                  try simp only [Act.put, List.setIfInBounds_toArray, List.set_cons_zero, List.set_cons_succ]
                  refine wpAnyH_take2 (i := 12) (t := 118) (v := ?_) rfl rfl (by kernel_rfl) (by kernel_rfl) (by kernel_rfl) (fun _ _ _ h => Only.not_panic h) (Or.inl ⟨by kernel_rfl, fun W hW => ?_⟩) (by assumption) ?_
                  rotate_left
                  · have hW2 := hW
                    obtain ⟨⟨f0, f1, f2, f3, f4, f5, f6, f7, f8, f9, f10, f11, f12⟩, y0, y1, y2, v0, v1⟩ := HS.out W hW2
                    clear hW hW2
                    go_simp
                    try with_reducible rfl
                  try simp only [Act.put, List.setIfInBounds_toArray, List.set_cons_zero, List.set_cons_succ]
                  refine wpAnyH_take2 (i := 13) (t := 119) (v := ?_) rfl rfl (by kernel_rfl) (by kernel_rfl) (by kernel_rfl) (fun _ _ _ h => Only.not_panic h) (Or.inl ⟨by kernel_rfl, fun W hW => ?_⟩) (by assumption) ?_
                  rotate_left
                  · have hW2 := hW
                    obtain ⟨⟨f0, f1, f2, f3, f4, f5, f6, f7, f8, f9, f10, f11, f12⟩, y0, y1, y2, v0, v1⟩ := HS.out W hW2
                    clear hW hW2
                    go_simp
                    try with_reducible rfl
                  try simp only [Act.put, List.setIfInBounds_toArray, List.set_cons_zero, List.set_cons_succ]
                  refine wpAnyH_take2 (i := 14) (t := 120) (v := ?_) rfl rfl (by kernel_rfl) (by kernel_rfl) (by kernel_rfl) (fun _ _ _ h => Only.not_panic h) (Or.inl ⟨by kernel_rfl, fun W hW => ?_⟩) (by assumption) ?_
                  rotate_left
                  · have hW2 := hW
                    obtain ⟨⟨f0, f1, f2, f3, f4, f5, f6, f7, f8, f9, f10, f11, f12⟩, y0, y1, y2, v0, v1⟩ := HS.out W hW2
                    clear hW hW2
                    go_simp
                    try with_reducible rfl
                  try simp only [Act.put, List.setIfInBounds_toArray, List.set_cons_zero, List.set_cons_succ]
                  refine wpAnyH_take2 (i := 15) (t := 121) (v := ?_) rfl rfl (by kernel_rfl) (by kernel_rfl) (by kernel_rfl) (fun _ _ _ h => Only.not_panic h) (Or.inl ⟨by kernel_rfl, fun W hW => ?_⟩) (by assumption) ?_
                  rotate_left
                  · have hW2 := hW
                    obtain ⟨⟨f0, f1, f2, f3, f4, f5, f6, f7, f8, f9, f10, f11, f12⟩, y0, y1, y2, v0, v1⟩ := HS.out W hW2
                    clear hW hW2
                    go_simp
                    try with_reducible rfl
                  try simp only [Act.put, List.setIfInBounds_toArray, List.set_cons_zero, List.set_cons_succ]
                  refine wpAnyH_take2 (i := 16) (t := 122) (v := ?_) rfl rfl (by kernel_rfl) (by kernel_rfl) (by kernel_rfl) (fun _ _ _ h => Only.not_panic h) (Or.inl ⟨by kernel_rfl, fun W hW => ?_⟩) (by assumption) ?_
                  rotate_left
                  · have hW2 := hW
                    obtain ⟨⟨f0, f1, f2, f3, f4, f5, f6, f7, f8, f9, f10, f11, f12⟩, y0, y1, y2, v0, v1⟩ := HS.out W hW2
                    clear hW hW2
                    go_simp
                    try with_reducible rfl
                  try simp only [Act.put, List.setIfInBounds_toArray, List.set_cons_zero, List.set_cons_succ]
                  refine wpAnyH_take2 (i := 17) (t := 123) (v := ?_) rfl rfl (by kernel_rfl) (by kernel_rfl) (by kernel_rfl) (fun _ _ _ h => Only.not_panic h) (Or.inl ⟨by kernel_rfl, fun W hW => ?_⟩) (by assumption) ?_
                  rotate_left
                  · have hW2 := hW
                    obtain ⟨⟨f0, f1, f2, f3, f4, f5, f6, f7, f8, f9, f10, f11, f12⟩, y0, y1, y2, v0, v1⟩ := HS.out W hW2
                    clear hW hW2
                    go_simp
                    try with_reducible rfl
                  try simp only [Act.put, List.setIfInBounds_toArray, List.set_cons_zero, List.set_cons_succ]
                  refine wpAnyH_take2 (i := 18) (t := 124) (v := ?_) rfl rfl (by kernel_rfl) (by kernel_rfl) (by kernel_rfl) (fun _ _ _ h => Only.not_panic h) (Or.inl ⟨by kernel_rfl, fun W hW => ?_⟩) (by assumption) ?_
                  rotate_left
                  · have hW2 := hW
                    obtain ⟨⟨f0, f1, f2, f3, f4, f5, f6, f7, f8, f9, f10, f11, f12⟩, y0, y1, y2, v0, v1⟩ := HS.out W hW2
                    clear hW hW2
                    go_simp
                    try with_reducible rfl
                  try simp only [Act.put, List.setIfInBounds_toArray, List.set_cons_zero, List.set_cons_succ]
                  refine wpAnyH_take2 (i := 19) (t := 125) (v := ?_) rfl rfl (by kernel_rfl) (by kernel_rfl) (by kernel_rfl) (fun _ _ _ h => Only.not_panic h) (Or.inl ⟨by kernel_rfl, fun W hW => ?_⟩) (by assumption) ?_
                  rotate_left
                  · have hW2 := hW
                    obtain ⟨⟨f0, f1, f2, f3, f4, f5, f6, f7, f8, f9, f10, f11, f12⟩, y0, y1, y2, v0, v1⟩ := HS.out W hW2
                    clear hW hW2
                    go_simp
                    try with_reducible rfl
                  try simp only [Act.put, List.setIfInBounds_toArray, List.set_cons_zero, List.set_cons_succ]
                  refine wpAnyH_skip (i := 20) (t := 126) rfl rfl (by kernel_rfl) (by kernel_rfl) (by kernel_rfl) (fun _ _ _ h => Only.not_panic h) (by kernel_rfl) (by assumption) ?_
                  try simp only [Act.put, List.setIfInBounds_toArray, List.set_cons_zero, List.set_cons_succ]
                  refine wpAnyH_skip (i := 21) (t := 127) rfl rfl (by kernel_rfl) (by kernel_rfl) (by kernel_rfl) (fun _ _ _ h => Only.not_panic h) (by kernel_rfl) (by assumption) ?_
                  try simp only [Act.put, List.setIfInBounds_toArray, List.set_cons_zero, List.set_cons_succ]
                  refine wpAnyH_skip (i := 22) (t := 128) rfl rfl (by kernel_rfl) (by kernel_rfl) (by kernel_rfl) (fun _ _ _ h => Only.not_panic h) (by kernel_rfl) (by assumption) ?_
                  try simp only [Act.put, List.setIfInBounds_toArray, List.set_cons_zero, List.set_cons_succ]
                  refine wpAnyH_skip (i := 23) (t := 129) rfl rfl (by kernel_rfl) (by kernel_rfl) (by kernel_rfl) (fun _ _ _ h => Only.not_panic h) (by kernel_rfl) (by assumption) ?_
                  try simp only [Act.put, List.setIfInBounds_toArray, List.set_cons_zero, List.set_cons_succ]
                  refine wpAnyH_skip (i := 24) (t := 130) rfl rfl (by kernel_rfl) (by kernel_rfl) (by kernel_rfl) (fun _ _ _ h => Only.not_panic h) (by kernel_rfl) (by assumption) ?_
                  try simp only [Act.put, List.setIfInBounds_toArray, List.set_cons_zero, List.set_cons_succ]
                  refine wpAnyH_skip (i := 25) (t := 131) rfl rfl (by kernel_rfl) (by kernel_rfl) (by kernel_rfl) (fun _ _ _ h => Only.not_panic h) (by kernel_rfl) (by assumption) ?_
                  try simp only [Act.put, List.setIfInBounds_toArray, List.set_cons_zero, List.set_cons_succ]
                  refine wpAnyH_skip (i := 26) (t := 132) rfl rfl (by kernel_rfl) (by kernel_rfl) (by kernel_rfl) (fun _ _ _ h => Only.not_panic h) (by kernel_rfl) (by assumption) ?_
                  try simp only [Act.put, List.setIfInBounds_toArray, List.set_cons_zero, List.set_cons_succ]
                  refine wpAnyH_skip (i := 27) (t := 133) rfl rfl (by kernel_rfl) (by kernel_rfl) (by kernel_rfl) (fun _ _ _ h => Only.not_panic h) (by kernel_rfl) (by assumption) ?_
                  try simp only [Act.put, List.setIfInBounds_toArray, List.set_cons_zero, List.set_cons_succ]
                  refine wpAnyH_skip (i := 28) (t := 134) rfl rfl (by kernel_rfl) (by kernel_rfl) (by kernel_rfl) (fun _ _ _ h => Only.not_panic h) (by kernel_rfl) (by assumption) ?_
                  try simp only [Act.put, List.setIfInBounds_toArray, List.set_cons_zero, List.set_cons_succ]
                  refine wpAnyH_take2 (i := 29) (t := 135) (v := ?_) rfl rfl (by kernel_rfl) (by kernel_rfl) (by kernel_rfl) (fun _ _ _ h => Only.not_panic h) (Or.inl ⟨by kernel_rfl, fun W hW => ?_⟩) (by assumption) ?_
                  rotate_left
                  · have hW2 := hW
                    obtain ⟨⟨f0, f1, f2, f3, f4, f5, f6, f7, f8, f9, f10, f11, f12⟩, y0, y1, y2, v0, v1⟩ := HS.out W hW2
                    clear hW hW2
                    go_simp
                    try with_reducible rfl
                  try simp only [Act.put, List.setIfInBounds_toArray, List.set_cons_zero, List.set_cons_succ]
                  refine wpAnyH_take2 (i := 30) (t := 136) (v := ?_) rfl rfl (by kernel_rfl) (by kernel_rfl) (by kernel_rfl) (fun _ _ _ h => Only.not_panic h) (Or.inl ⟨by kernel_rfl, fun W hW => ?_⟩) (by assumption) ?_
                  rotate_left
                  · have hW2 := hW
                    obtain ⟨⟨f0, f1, f2, f3, f4, f5, f6, f7, f8, f9, f10, f11, f12⟩, y0, y1, y2, v0, v1⟩ := HS.out W hW2
                    clear hW hW2
                    go_simp
                    try with_reducible rfl
                  try simp only [Act.put, List.setIfInBounds_toArray, List.set_cons_zero, List.set_cons_succ]
                  refine wpAnyH_take2 (i := 31) (t := 137) (v := ?_) rfl rfl (by kernel_rfl) (by kernel_rfl) (by kernel_rfl) (fun _ _ _ h => Only.not_panic h) (Or.inl ⟨by kernel_rfl, fun W hW => ?_⟩) (by assumption) ?_
                  rotate_left
                  · have hW2 := hW
                    obtain ⟨⟨f0, f1, f2, f3, f4, f5, f6, f7, f8, f9, f10, f11, f12⟩, y0, y1, y2, v0, v1⟩ := HS.out W hW2
                    clear hW hW2
                    go_simp
                    try with_reducible rfl
                  try simp only [Act.put, List.setIfInBounds_toArray, List.set_cons_zero, List.set_cons_succ]
                  refine wpAnyH_take2 (i := 32) (t := 138) (v := ?_) rfl rfl (by kernel_rfl) (by kernel_rfl) (by kernel_rfl) (fun _ _ _ h => Only.not_panic h) (Or.inl ⟨by kernel_rfl, fun W hW => ?_⟩) (by assumption) ?_
                  rotate_left
                  · have hW2 := hW
                    obtain ⟨⟨f0, f1, f2, f3, f4, f5, f6, f7, f8, f9, f10, f11, f12⟩, y0, y1, y2, v0, v1⟩ := HS.out W hW2
                    clear hW hW2
                    go_simp
                    try with_reducible rfl
                  try simp only [Act.put, List.setIfInBounds_toArray, List.set_cons_zero, List.set_cons_succ]
                  refine wpAnyH_take2 (i := 33) (t := 139) (v := ?_) rfl rfl (by kernel_rfl) (by kernel_rfl) (by kernel_rfl) (fun _ _ _ h => Only.not_panic h) (Or.inl ⟨by kernel_rfl, fun W hW => ?_⟩) (by assumption) ?_
                  rotate_left
                  · have hW2 := hW
                    obtain ⟨⟨f0, f1, f2, f3, f4, f5, f6, f7, f8, f9, f10, f11, f12⟩, y0, y1, y2, v0, v1⟩ := HS.out W hW2
                    clear hW hW2
                    go_simp
                    try with_reducible rfl
                  try simp only [Act.put, List.setIfInBounds_toArray, List.set_cons_zero, List.set_cons_succ]
                  refine wpAnyH_take2 (i := 34) (t := 140) (v := ?_) rfl rfl (by kernel_rfl) (by kernel_rfl) (by kernel_rfl) (fun _ _ _ h => Only.not_panic h) (Or.inl ⟨by kernel_rfl, fun W hW => ?_⟩) (by assumption) ?_
                  rotate_left
                  · have hW2 := hW
                    obtain ⟨⟨f0, f1, f2, f3, f4, f5, f6, f7, f8, f9, f10, f11, f12⟩, y0, y1, y2, v0, v1⟩ := HS.out W hW2
                    clear hW hW2
                    go_simp
                    try with_reducible rfl
                  try simp only [Act.put, List.setIfInBounds_toArray, List.set_cons_zero, List.set_cons_succ]
                  refine wpAnyH_take2 (i := 35) (t := 141) (v := ?_) rfl rfl (by kernel_rfl) (by kernel_rfl) (by kernel_rfl) (fun _ _ _ h => Only.not_panic h) (Or.inl ⟨by kernel_rfl, fun W hW => ?_⟩) (by assumption) ?_
                  rotate_left
                  · have hW2 := hW
                    obtain ⟨⟨f0, f1, f2, f3, f4, f5, f6, f7, f8, f9, f10, f11, f12⟩, y0, y1, y2, v0, v1⟩ := HS.out W hW2
                    clear hW hW2
                    go_simp
                    try with_reducible rfl
                  try simp only [Act.put, List.setIfInBounds_toArray, List.set_cons_zero, List.set_cons_succ]
                  refine wpAnyH_take2 (i := 36) (t := 142) (v := ?_) rfl rfl (by kernel_rfl) (by kernel_rfl) (by kernel_rfl) (fun _ _ _ h => Only.not_panic h) (Or.inl ⟨by kernel_rfl, fun W hW => ?_⟩) (by assumption) ?_
                  rotate_left
                  · have hW2 := hW
                    obtain ⟨⟨f0, f1, f2, f3, f4, f5, f6, f7, f8, f9, f10, f11, f12⟩, y0, y1, y2, v0, v1⟩ := HS.out W hW2
                    clear hW hW2
                    go_simp
                    try with_reducible rfl
                  try simp only [Act.put, List.setIfInBounds_toArray, List.set_cons_zero, List.set_cons_succ]
                  refine wpAnyH_take2 (i := 37) (t := 143) (v := ?_) rfl rfl (by kernel_rfl) (by kernel_rfl) (by kernel_rfl) (fun _ _ _ h => Only.not_panic h) (Or.inl ⟨by kernel_rfl, fun W hW => ?_⟩) (by assumption) ?_
                  rotate_left
                  · have hW2 := hW
                    obtain ⟨⟨f0, f1, f2, f3, f4, f5, f6, f7, f8, f9, f10, f11, f12⟩, y0, y1, y2, v0, v1⟩ := HS.out W hW2
                    clear hW hW2
                    go_simp
                    try with_reducible rfl
                  try simp only [Act.put, List.setIfInBounds_toArray, List.set_cons_zero, List.set_cons_succ]
                  refine wpAnyH_take2 (i := 38) (t := 144) (v := ?_) rfl rfl (by kernel_rfl) (by kernel_rfl) (by kernel_rfl) (fun _ _ _ h => Only.not_panic h) (Or.inl ⟨by kernel_rfl, fun W hW => ?_⟩) (by assumption) ?_
                  rotate_left
                  · have hW2 := hW
                    obtain ⟨⟨f0, f1, f2, f3, f4, f5, f6, f7, f8, f9, f10, f11, f12⟩, y0, y1, y2, v0, v1⟩ := HS.out W hW2
                    clear hW hW2
                    go_simp
                    try with_reducible rfl
                  try simp only [Act.put, List.setIfInBounds_toArray, List.set_cons_zero, List.set_cons_succ]
                  refine wpAnyH_take2 (i := 39) (t := 145) (v := ?_) rfl rfl (by kernel_rfl) (by kernel_rfl) (by kernel_rfl) (fun _ _ _ h => Only.not_panic h) (Or.inl ⟨by kernel_rfl, fun W hW => ?_⟩) (by assumption) ?_
                  rotate_left
                  · have hW2 := hW
                    obtain ⟨⟨f0, f1, f2, f3, f4, f5, f6, f7, f8, f9, f10, f11, f12⟩, y0, y1, y2, v0, v1⟩ := HS.out W hW2
                    clear hW hW2
                    go_simp
                    try with_reducible rfl
                  try simp only [Act.put, List.setIfInBounds_toArray, List.set_cons_zero, List.set_cons_succ]
                  refine wpAnyH_take2 (i := 40) (t := 146) (v := ?_) rfl rfl (by kernel_rfl) (by kernel_rfl) (by kernel_rfl) (fun _ _ _ h => Only.not_panic h) (Or.inl ⟨by kernel_rfl, fun W hW => ?_⟩) (by assumption) ?_
                  rotate_left
                  · have hW2 := hW
                    obtain ⟨⟨f0, f1, f2, f3, f4, f5, f6, f7, f8, f9, f10, f11, f12⟩, y0, y1, y2, v0, v1⟩ := HS.out W hW2
                    clear hW hW2
                    go_simp
                    try with_reducible rfl
                  try simp only [Act.put, List.setIfInBounds_toArray, List.set_cons_zero, List.set_cons_succ]
                  refine wpAnyH_take2 (i := 41) (t := 147) (v := ?_) rfl rfl (by kernel_rfl) (by kernel_rfl) (by kernel_rfl) (fun _ _ _ h => Only.not_panic h) (Or.inl ⟨by kernel_rfl, fun W hW => ?_⟩) (by assumption) ?_
                  rotate_left
                  · have hW2 := hW
                    obtain ⟨⟨f0, f1, f2, f3, f4, f5, f6, f7, f8, f9, f10, f11, f12⟩, y0, y1, y2, v0, v1⟩ := HS.out W hW2
                    clear hW hW2
                    go_simp
                    try with_reducible rfl
                  try simp only [Act.put, List.setIfInBounds_toArray, List.set_cons_zero, List.set_cons_succ]
                  refine wpAnyH_take2 (i := 42) (t := 148) (v := ?_) rfl rfl (by kernel_rfl) (by kernel_rfl) (by kernel_rfl) (fun _ _ _ h => Only.not_panic h) (Or.inl ⟨by kernel_rfl, fun W hW => ?_⟩) (by assumption) ?_
                  rotate_left
                  · have hW2 := hW
                    obtain ⟨⟨f0, f1, f2, f3, f4, f5, f6, f7, f8, f9, f10, f11, f12⟩, y0, y1, y2, v0, v1⟩ := HS.out W hW2
                    clear hW hW2
                    go_simp
                    try with_reducible rfl
                  try simp only [Act.put, List.setIfInBounds_toArray, List.set_cons_zero, List.set_cons_succ]
                  refine wpAnyH_take2 (i := 43) (t := 149) (v := ?_) rfl rfl (by kernel_rfl) (by kernel_rfl) (by kernel_rfl) (fun _ _ _ h => Only.not_panic h) (Or.inl ⟨by kernel_rfl, fun W hW => ?_⟩) (by assumption) ?_
                  rotate_left
                  · have hW2 := hW
                    obtain ⟨⟨f0, f1, f2, f3, f4, f5, f6, f7, f8, f9, f10, f11, f12⟩, y0, y1, y2, v0, v1⟩ := HS.out W hW2
                    clear hW hW2
                    go_simp
                    try with_reducible rfl
                  try simp only [Act.put, List.setIfInBounds_toArray, List.set_cons_zero, List.set_cons_succ]
                  refine wpAnyH_take2 (i := 44) (t := 150) (v := ?_) rfl rfl (by kernel_rfl) (by kernel_rfl) (by kernel_rfl) (fun _ _ _ h => Only.not_panic h) (Or.inl ⟨by kernel_rfl, fun W hW => ?_⟩) (by assumption) ?_
                  rotate_left
                  · have hW2 := hW
                    obtain ⟨⟨f0, f1, f2, f3, f4, f5, f6, f7, f8, f9, f10, f11, f12⟩, y0, y1, y2, v0, v1⟩ := HS.out W hW2
                    clear hW hW2
                    go_simp
                    try with_reducible rfl
                  try simp only [Act.put, List.setIfInBounds_toArray, List.set_cons_zero, List.set_cons_succ]
                  refine wpAnyH_take2 (i := 45) (t := 151) (v := ?_) rfl rfl (by kernel_rfl) (by kernel_rfl) (by kernel_rfl) (fun _ _ _ h => Only.not_panic h) (Or.inl ⟨by kernel_rfl, fun W hW => ?_⟩) (by assumption) ?_
                  rotate_left
                  · have hW2 := hW
                    obtain ⟨⟨f0, f1, f2, f3, f4, f5, f6, f7, f8, f9, f10, f11, f12⟩, y0, y1, y2, v0, v1⟩ := HS.out W hW2
                    clear hW hW2
                    go_simp
                    try with_reducible rfl
                  try simp only [Act.put, List.setIfInBounds_toArray, List.set_cons_zero, List.set_cons_succ]
                  refine wpAnyH_take2 (i := 46) (t := 152) (v := ?_) rfl rfl (by kernel_rfl) (by kernel_rfl) (by kernel_rfl) (fun _ _ _ h => Only.not_panic h) (Or.inl ⟨by kernel_rfl, fun W hW => ?_⟩) (by assumption) ?_
                  rotate_left
                  · have hW2 := hW
                    obtain ⟨⟨f0, f1, f2, f3, f4, f5, f6, f7, f8, f9, f10, f11, f12⟩, y0, y1, y2, v0, v1⟩ := HS.out W hW2
                    clear hW hW2
                    go_simp
                    try with_reducible rfl
                  try simp only [Act.put, List.setIfInBounds_toArray, List.set_cons_zero, List.set_cons_succ]
                  refine wpAnyH_take2 (i := 47) (t := 153) (v := ?_) rfl rfl (by kernel_rfl) (by kernel_rfl) (by kernel_rfl) (fun _ _ _ h => Only.not_panic h) (Or.inl ⟨by kernel_rfl, fun W hW => ?_⟩) (by assumption) ?_
                  rotate_left
                  · have hW2 := hW
                    obtain ⟨⟨f0, f1, f2, f3, f4, f5, f6, f7, f8, f9, f10, f11, f12⟩, y0, y1, y2, v0, v1⟩ := HS.out W hW2
                    clear hW hW2
                    go_simp
                    try with_reducible rfl
                  try simp only [Act.put, List.setIfInBounds_toArray, List.set_cons_zero, List.set_cons_succ]
                  refine wpAnyH_take2 (i := 48) (t := 154) (v := ?_) rfl rfl (by kernel_rfl) (by kernel_rfl) (by kernel_rfl) (fun _ _ _ h => Only.not_panic h) (Or.inl ⟨by kernel_rfl, fun W hW => ?_⟩) (by assumption) ?_
                  rotate_left
                  · have hW2 := hW
                    obtain ⟨⟨f0, f1, f2, f3, f4, f5, f6, f7, f8, f9, f10, f11, f12⟩, y0, y1, y2, v0, v1⟩ := HS.out W hW2
                    clear hW hW2
                    go_simp
                    try with_reducible rfl
                  try simp only [Act.put, List.setIfInBounds_toArray, List.set_cons_zero, List.set_cons_succ]
                  refine wpAnyH_take2 (i := 49) (t := 155) (v := ?_) rfl rfl (by kernel_rfl) (by kernel_rfl) (by kernel_rfl) (fun _ _ _ h => Only.not_panic h) (Or.inl ⟨by kernel_rfl, fun W hW => ?_⟩) (by assumption) ?_
                  rotate_left
                  · have hW2 := hW
                    obtain ⟨⟨f0, f1, f2, f3, f4, f5, f6, f7, f8, f9, f10, f11, f12⟩, y0, y1, y2, v0, v1⟩ := HS.out W hW2
                    clear hW hW2
                    go_simp
                    try with_reducible rfl
                  try simp only [Act.put, List.setIfInBounds_toArray, List.set_cons_zero, List.set_cons_succ]
                  refine wpAnyH_take2 (i := 50) (t := 156) (v := ?_) rfl rfl (by kernel_rfl) (by kernel_rfl) (by kernel_rfl) (fun _ _ _ h => Only.not_panic h) (Or.inl ⟨by kernel_rfl, fun W hW => ?_⟩) (by assumption) ?_
                  rotate_left
                  · have hW2 := hW
                    obtain ⟨⟨f0, f1, f2, f3, f4, f5, f6, f7, f8, f9, f10, f11, f12⟩, y0, y1, y2, v0, v1⟩ := HS.out W hW2
                    clear hW hW2
                    go_simp
                    try with_reducible rfl
                  try simp only [Act.put, List.setIfInBounds_toArray, List.set_cons_zero, List.set_cons_succ]
                  refine wpAnyH_take2 (i := 51) (t := 157) (v := ?_) rfl rfl (by kernel_rfl) (by kernel_rfl) (by kernel_rfl) (fun _ _ _ h => Only.not_panic h) (Or.inl ⟨by kernel_rfl, fun W hW => ?_⟩) (by assumption) ?_
                  rotate_left
                  · have hW2 := hW
                    obtain ⟨⟨f0, f1, f2, f3, f4, f5, f6, f7, f8, f9, f10, f11, f12⟩, y0, y1, y2, v0, v1⟩ := HS.out W hW2
                    clear hW hW2
                    go_simp
                    try with_reducible rfl
                  try simp only [Act.put, List.setIfInBounds_toArray, List.set_cons_zero, List.set_cons_succ]
                  refine wpAnyH_done (by kernel_rfl) (Only.mk ?_) _
                  go_wp2_with fail
                  go_meet
                  exact ⟨rfl, hHeld⟩
                exact AllReadyH.nil
              · clear hlo hhi
                refine wp_region_held' (S := fun W' => Below wr.heap.size wr W') (by kernel_rfl) ((Below.refl _ wr).drew) (fun hHeld => ?_)
                refine wpAnyH_take2 (i := 0) (t := 106) (v := ?_) rfl rfl (by kernel_rfl) (by kernel_rfl) (by kernel_rfl) (fun _ _ _ h => Only.not_panic h) (Or.inl ⟨by kernel_rfl, fun W hW => ?_⟩) (by assumption) ?_
                rotate_left
                · have hW2 := hW
                  obtain ⟨⟨f0, f1, f2, f3, f4, f5, f6, f7, f8, f9, f10, f11, f12⟩, y0, y1, y2, v0, v1⟩ := HS.out W hW2
                  clear hW hW2
                  go_simp
                  try with_reducible rfl
                try simp only [Act.put, List.setIfInBounds_toArray, List.set_cons_zero, List.set_cons_succ]
                refine wpAnyH_take2 (i := 1) (t := 107) (v := ?_) rfl rfl (by kernel_rfl) (by kernel_rfl) (by kernel_rfl) (fun _ _ _ h => Only.not_panic h) (Or.inl ⟨by kernel_rfl, fun W hW => ?_⟩) (by assumption) ?_
                rotate_left
                · have hW2 := hW
                  obtain ⟨⟨f0, f1, f2, f3, f4, f5, f6, f7, f8, f9, f10, f11, f12⟩, y0, y1, y2, v0, v1⟩ := HS.out W hW2
                  clear hW hW2
                  go_simp
                  try with_reducible rfl
                try simp only [Act.put, List.setIfInBounds_toArray, List.set_cons_zero, List.set_cons_succ]
                refine wpAnyH_take2 (i := 2) (t := 108) (v := ?_) rfl rfl (by kernel_rfl) (by kernel_rfl) (by kernel_rfl) (fun _ _ _ h => Only.not_panic h) (Or.inl ⟨by kernel_rfl, fun W hW => ?_⟩) (by assumption) ?_
                rotate_left
                · have hW2 := hW
                  obtain ⟨⟨f0, f1, f2, f3, f4, f5, f6, f7, f8, f9, f10, f11, f12⟩, y0, y1, y2, v0, v1⟩ := HS.out W hW2
                  clear hW hW2
                  go_simp
                  try with_reducible rfl
                try simp only [Act.put, List.setIfInBounds_toArray, List.set_cons_zero, List.set_cons_succ]
                refine wpAnyH_take2 (i := 3) (t := 109) (v := ?_) rfl rfl (by kernel_rfl) (by kernel_rfl) (by kernel_rfl) (fun _ _ _ h => Only.not_panic h) (Or.inl ⟨by kernel_rfl, fun W hW => ?_⟩) (by assumption) ?_
                rotate_left
                · have hW2 := hW
                  obtain ⟨⟨f0, f1, f2, f3, f4, f5, f6, f7, f8, f9, f10, f11, f12⟩, y0, y1, y2, v0, v1⟩ := HS.out W hW2
                  clear hW hW2
                  go_simp
                  try with_reducible rfl
                try simp only [Act.put, List.setIfInBounds_toArray, List.set_cons_zero, List.set_cons_succ]
                refine wpAnyH_take2 (i := 4) (t := 110) (v := ?_) rfl rfl (by kernel_rfl) (by kernel_rfl) (by kernel_rfl) (fun _ _ _ h => Only.not_panic h) (Or.inl ⟨by kernel_rfl, fun W hW => ?_⟩) (by assumption) ?_
                rotate_left
                · have hW2 := hW
                  obtain ⟨⟨f0, f1, f2, f3, f4, f5, f6, f7, f8, f9, f10, f11, f12⟩, y0, y1, y2, v0, v1⟩ := HS.out W hW2
                  clear hW hW2
                  go_simp
                  try with_reducible rfl
                try simp only [Act.put, List.setIfInBounds_toArray, List.set_cons_zero, List.set_cons_succ]
                refine wpAnyH_take2 (i := 5) (t := 111) (v := ?_) rfl rfl (by kernel_rfl) (by kernel_rfl) (by kernel_rfl) (fun _ _ _ h => Only.not_panic h) (Or.inl ⟨by kernel_rfl, fun W hW => ?_⟩) (by assumption) ?_
                rotate_left
                · have hW2 := hW
                  obtain ⟨⟨f0, f1, f2, f3, f4, f5, f6, f7, f8, f9, f10, f11, f12⟩, y0, y1, y2, v0, v1⟩ := HS.out W hW2
                  clear hW hW2
                  go_simp
                  try with_reducible rfl
                try simp only [Act.put, List.setIfInBounds_toArray, List.set_cons_zero, List.set_cons_succ]
                refine wpAnyH_take2 (i := 6) (t := 112) (v := ?_) rfl rfl (by kernel_rfl) (by kernel_rfl) (by kernel_rfl) (fun _ _ _ h => Only.not_panic h) (Or.inl ⟨by kernel_rfl, fun W hW => ?_⟩) (by assumption) ?_
                rotate_left
                · have hW2 := hW
                  obtain ⟨⟨f0, f1, f2, f3, f4, f5, f6, f7, f8, f9, f10, f11, f12⟩, y0, y1, y2, v0, v1⟩ := HS.out W hW2
                  clear hW hW2
                  go_simp
                  try with_reducible rfl
                try simp only [Act.put, List.setIfInBounds_toArray, List.set_cons_zero, List.set_cons_succ]
                refine wpAnyH_take2 (i := 7) (t := 113) (v := ?_) rfl rfl (by kernel_rfl) (by kernel_rfl) (by kernel_rfl) (fun _ _ _ h => Only.not_panic h) (Or.inl ⟨by kernel_rfl, fun W hW => ?_⟩) (by assumption) ?_
                rotate_left
                · have hW2 := hW
                  obtain ⟨⟨f0, f1, f2, f3, f4, f5, f6, f7, f8, f9, f10, f11, f12⟩, y0, y1, y2, v0, v1⟩ := HS.out W hW2
                  clear hW hW2
                  go_simp
                  try with_reducible rfl
                try simp only [Act.put, List.setIfInBounds_toArray, List.set_cons_zero, List.set_cons_succ]
                refine wpAnyH_ready (rs := [8]) (by kernel_rfl) (by simp) ?_
                refine AllReadyH.cons rfl (fun K hK => ?_) ?_
                · go_simp
                  with_reducible refine (HH.out _).mono ?_
                  rintro ev w8 ⟨rfl, hb8⟩
                  try simp only []
                  refine hK.out _ _ ?_ (fun hHeld => ?_)
                  · exact B_trans hHeld hb8
                  clear hK K
                  try simp only [Act.put, List.setIfInBounds_toArray, List.set_cons_zero, List.set_cons_succ]
                  refine wpAnyH_take2 (i := 9) (t := 115) (v := ?_) rfl rfl (by kernel_rfl) (by kernel_rfl) (by kernel_rfl) (fun _ _ _ h => Only.not_panic h) (Or.inl ⟨by kernel_rfl, fun W hW => ?_⟩) (by assumption) ?_
                  rotate_left
                  · have hW2 := hW
                    obtain ⟨⟨f0, f1, f2, f3, f4, f5, f6, f7, f8, f9, f10, f11, f12⟩, y0, y1, y2, v0, v1⟩ := HS.out W hW2
                    clear hW hW2
                    go_simp
                    try with_reducible rfl
                  try simp only [Act.put, List.setIfInBounds_toArray, List.set_cons_zero, List.set_cons_succ]
                  refine wpAnyH_take2 (i := 10) (t := 116) (v := ?_) rfl rfl (by kernel_rfl) (by kernel_rfl) (by kernel_rfl) (fun _ _ _ h => Only.not_panic h) (Or.inl ⟨by kernel_rfl, fun W hW => ?_⟩) (by assumption) ?_
                  rotate_left
                  · have hW2 := hW
                    obtain ⟨⟨f0, f1, f2, f3, f4, f5, f6, f7, f8, f9, f10, f11, f12⟩, y0, y1, y2, v0, v1⟩ := HS.out W hW2
                    clear hW hW2
                    go_simp
                    try with_reducible rfl
                  try simp only [Act.put, List.setIfInBounds_toArray, List.set_cons_zero, List.set_cons_succ]
                  refine wpAnyH_take2 (i := 11) (t := 117) (v := ?_) rfl rfl (by kernel_rfl) (by kernel_rfl) (by kernel_rfl) (fun _ _ _ h => Only.not_panic h) (Or.inl ⟨by kernel_rfl, fun W hW => ?_⟩) (by assumption) ?_
                  rotate_left
                  · have hW2 := hW
                    obtain ⟨⟨f0, f1, f2, f3, f4, f5, f6, f7, f8, f9, f10, f11, f12⟩, y0, y1, y2, v0, v1⟩ := HS.out W hW2
                    clear hW hW2
                    go_simp
                    try with_reducible rfl
                  try simp only [Act.put, List.setIfInBounds_toArray, List.set_cons_zero, List.set_cons_succ]
                  refine wpAnyH_take2 (i := 12) (t := 118) (v := ?_) rfl rfl (by kernel_rfl) (by kernel_rfl) (by kernel_rfl) (fun _ _ _ h => Only.not_panic h) (Or.inl ⟨by kernel_rfl, fun W hW => ?_⟩) (by assumption) ?_
                  rotate_left
                  · have hW2 := hW
                    obtain ⟨⟨f0, f1, f2, f3, f4, f5, f6, f7, f8, f9, f10, f11, f12⟩, y0, y1, y2, v0, v1⟩ := HS.out W hW2
                    clear hW hW2
                    go_simp
                    try with_reducible rfl
                  try simp only [Act.put, List.setIfInBounds_toArray, List.set_cons_zero, List.set_cons_succ]
                  refine wpAnyH_take2 (i := 13) (t := 119) (v := ?_) rfl rfl (by kernel_rfl) (by kernel_rfl) (by kernel_rfl) (fun _ _ _ h => Only.not_panic h) (Or.inl ⟨by kernel_rfl, fun W hW => ?_⟩) (by assumption) ?_
                  rotate_left
                  · have hW2 := hW
                    obtain ⟨⟨f0, f1, f2, f3, f4, f5, f6, f7, f8, f9, f10, f11, f12⟩, y0, y1, y2, v0, v1⟩ := HS.out W hW2
                    clear hW hW2
                    go_simp
                    try with_reducible rfl
                  try simp only [Act.put, List.setIfInBounds_toArray, List.set_cons_zero, List.set_cons_succ]
                  refine wpAnyH_take2 (i := 14) (t := 120) (v := ?_) rfl rfl (by kernel_rfl) (by kernel_rfl) (by kernel_rfl) (fun _ _ _ h => Only.not_panic h) (Or.inl ⟨by kernel_rfl, fun W hW => ?_⟩) (by assumption) ?_
                  rotate_left
                  · have hW2 := hW
                    obtain ⟨⟨f0, f1, f2, f3, f4, f5, f6, f7, f8, f9, f10, f11, f12⟩, y0, y1, y2, v0, v1⟩ := HS.out W hW2
                    clear hW hW2
                    go_simp
                    try with_reducible rfl
                  try simp only [Act.put, List.setIfInBounds_toArray, List.set_cons_zero, List.set_cons_succ]
                  refine wpAnyH_take2 (i := 15) (t := 121) (v := ?_) rfl rfl (by kernel_rfl) (by kernel_rfl) (by kernel_rfl) (fun _ _ _ h => Only.not_panic h) (Or.inl ⟨by kernel_rfl, fun W hW => ?_⟩) (by assumption) ?_
                  rotate_left
                  · have hW2 := hW
                    obtain ⟨⟨f0, f1, f2, f3, f4, f5, f6, f7, f8, f9, f10, f11, f12⟩, y0, y1, y2, v0, v1⟩ := HS.out W hW2
                    clear hW hW2
                    go_simp
                    try with_reducible rfl
                  try simp only [Act.put, List.setIfInBounds_toArray, List.set_cons_zero, List.set_cons_succ]
                  refine wpAnyH_take2 (i := 16) (t := 122) (v := ?_) rfl rfl (by kernel_rfl) (by kernel_rfl) (by kernel_rfl) (fun _ _ _ h => Only.not_panic h) (Or.inl ⟨by kernel_rfl, fun W hW => ?_⟩) (by assumption) ?_
                  rotate_left
                  · have hW2 := hW
                    obtain ⟨⟨f0, f1, f2, f3, f4, f5, f6, f7, f8, f9, f10, f11, f12⟩, y0, y1, y2, v0, v1⟩ := HS.out W hW2
                    clear hW hW2
                    go_simp
                    try with_reducible rfl
                  try simp only [Act.put, List.setIfInBounds_toArray, List.set_cons_zero, List.set_cons_succ]
                  refine wpAnyH_take2 (i := 17) (t := 123) (v := ?_) rfl rfl (by kernel_rfl) (by kernel_rfl) (by kernel_rfl) (fun _ _ _ h => Only.not_panic h) (Or.inl ⟨by kernel_rfl, fun W hW => ?_⟩) (by assumption) ?_
                  rotate_left
                  · have hW2 := hW
                    obtain ⟨⟨f0, f1, f2, f3, f4, f5, f6, f7, f8, f9, f10, f11, f12⟩, y0, y1, y2, v0, v1⟩ := HS.out W hW2
                    clear hW hW2
                    go_simp
                    try with_reducible rfl
                  try simp only [Act.put, List.setIfInBounds_toArray, List.set_cons_zero, List.set_cons_succ]
                  refine wpAnyH_take2 (i := 18) (t := 124) (v := ?_) rfl rfl (by kernel_rfl) (by kernel_rfl) (by kernel_rfl) (fun _ _ _ h => Only.not_panic h) (Or.inl ⟨by kernel_rfl, fun W hW => ?_⟩) (by assumption) ?_
                  rotate_left
                  · have hW2 := hW
                    obtain ⟨⟨f0, f1, f2, f3, f4, f5, f6, f7, f8, f9, f10, f11, f12⟩, y0, y1, y2, v0, v1⟩ := HS.out W hW2
                    clear hW hW2
                    go_simp
                    try with_reducible rfl
                  try simp only [Act.put, List.setIfInBounds_toArray, List.set_cons_zero, List.set_cons_succ]
                  refine wpAnyH_take2 (i := 19) (t := 125) (v := ?_) rfl rfl (by kernel_rfl) (by kernel_rfl) (by kernel_rfl) (fun _ _ _ h => Only.not_panic h) (Or.inl ⟨by kernel_rfl, fun W hW => ?_⟩) (by assumption) ?_
                  rotate_left
                  · have hW2 := hW
                    obtain ⟨⟨f0, f1, f2, f3, f4, f5, f6, f7, f8, f9, f10, f11, f12⟩, y0, y1, y2, v0, v1⟩ := HS.out W hW2
                    clear hW hW2
                    go_simp
                    try with_reducible rfl
                  try simp only [Act.put, List.setIfInBounds_toArray, List.set_cons_zero, List.set_cons_succ]
                  refine wpAnyH_skip (i := 20) (t := 126) rfl rfl (by kernel_rfl) (by kernel_rfl) (by kernel_rfl) (fun _ _ _ h => Only.not_panic h) (by kernel_rfl) (by assumption) ?_
                  try simp only [Act.put, List.setIfInBounds_toArray, List.set_cons_zero, List.set_cons_succ]
                  refine wpAnyH_skip (i := 21) (t := 127) rfl rfl (by kernel_rfl) (by kernel_rfl) (by kernel_rfl) (fun _ _ _ h => Only.not_panic h) (by kernel_rfl) (by assumption) ?_
                  try simp only [Act.put, List.setIfInBounds_toArray, List.set_cons_zero, List.set_cons_succ]
                  refine wpAnyH_skip (i := 22) (t := 128) rfl rfl (by kernel_rfl) (by kernel_rfl) (by kernel_rfl) (fun _ _ _ h => Only.not_panic h) (by kernel_rfl) (by assumption) ?_
                  try simp only [Act.put, List.setIfInBounds_toArray, List.set_cons_zero, List.set_cons_succ]
                  refine wpAnyH_skip (i := 23) (t := 129) rfl rfl (by kernel_rfl) (by kernel_rfl) (by kernel_rfl) (fun _ _ _ h => Only.not_panic h) (by kernel_rfl) (by assumption) ?_
                  try simp only [Act.put, List.setIfInBounds_toArray, List.set_cons_zero, List.set_cons_succ]
                  refine wpAnyH_skip (i := 24) (t := 130) rfl rfl (by kernel_rfl) (by kernel_rfl) (by kernel_rfl) (fun _ _ _ h => Only.not_panic h) (by kernel_rfl) (by assumption) ?_
                  try simp only [Act.put, List.setIfInBounds_toArray, List.set_cons_zero, List.set_cons_succ]
                  refine wpAnyH_skip (i := 25) (t := 131) rfl rfl (by kernel_rfl) (by kernel_rfl) (by kernel_rfl) (fun _ _ _ h => Only.not_panic h) (by kernel_rfl) (by assumption) ?_
                  try simp only [Act.put, List.setIfInBounds_toArray, List.set_cons_zero, List.set_cons_succ]
                  refine wpAnyH_skip (i := 26) (t := 132) rfl rfl (by kernel_rfl) (by kernel_rfl) (by kernel_rfl) (fun _ _ _ h => Only.not_panic h) (by kernel_rfl) (by assumption) ?_
                  try simp only [Act.put, List.setIfInBounds_toArray, List.set_cons_zero, List.set_cons_succ]
                  refine wpAnyH_skip (i := 27) (t := 133) rfl rfl (by kernel_rfl) (by kernel_rfl) (by kernel_rfl) (fun _ _ _ h => Only.not_panic h) (by kernel_rfl) (by assumption) ?_
                  try simp only [Act.put, List.setIfInBounds_toArray, List.set_cons_zero, List.set_cons_succ]
                  refine wpAnyH_skip (i := 28) (t := 134) rfl rfl (by kernel_rfl) (by kernel_rfl) (by kernel_rfl) (fun _ _ _ h => Only.not_panic h) (by kernel_rfl) (by assumption) ?_
                  try simp only [Act.put, List.setIfInBounds_toArray, List.set_cons_zero, List.set_cons_succ]
                  refine wpAnyH_take2 (i := 29) (t := 135) (v := ?_) rfl rfl (by kernel_rfl) (by kernel_rfl) (by kernel_rfl) (fun _ _ _ h => Only.not_panic h) (Or.inl ⟨by kernel_rfl, fun W hW => ?_⟩) (by assumption) ?_
                  rotate_left
                  · have hW2 := hW
                    obtain ⟨⟨f0, f1, f2, f3, f4, f5, f6, f7, f8, f9, f10, f11, f12⟩, y0, y1, y2, v0, v1⟩ := HS.out W hW2
                    clear hW hW2
                    go_simp
                    try with_reducible rfl
                  try simp only [Act.put, List.setIfInBounds_toArray, List.set_cons_zero, List.set_cons_succ]
                  refine wpAnyH_take2 (i := 30) (t := 136) (v := ?_) rfl rfl (by kernel_rfl) (by kernel_rfl) (by kernel_rfl) (fun _ _ _ h => Only.not_panic h) (Or.inl ⟨by kernel_rfl, fun W hW => ?_⟩) (by assumption) ?_
                  rotate_left
                  · have hW2 := hW
                    obtain ⟨⟨f0, f1, f2, f3, f4, f5, f6, f7, f8, f9, f10, f11, f12⟩, y0, y1, y2, v0, v1⟩ := HS.out W hW2
                    clear hW hW2
                    go_simp
                    try with_reducible rfl
                  try simp only [Act.put, List.setIfInBounds_toArray, List.set_cons_zero, List.set_cons_succ]
                  refine wpAnyH_take2 (i := 31) (t := 137) (v := ?_) rfl rfl (by kernel_rfl) (by kernel_rfl) (by kernel_rfl) (fun _ _ _ h => Only.not_panic h) (Or.inl ⟨by kernel_rfl, fun W hW => ?_⟩) (by assumption) ?_
                  rotate_left
                  · have hW2 := hW
                    obtain ⟨⟨f0, f1, f2, f3, f4, f5, f6, f7, f8, f9, f10, f11, f12⟩, y0, y1, y2, v0, v1⟩ := HS.out W hW2
                    clear hW hW2
                    go_simp
                    try with_reducible rfl
                  try simp only [Act.put, List.setIfInBounds_toArray, List.set_cons_zero, List.set_cons_succ]
                  refine wpAnyH_take2 (i := 32) (t := 138) (v := ?_) rfl rfl (by kernel_rfl) (by kernel_rfl) (by kernel_rfl) (fun _ _ _ h => Only.not_panic h) (Or.inl ⟨by kernel_rfl, fun W hW => ?_⟩) (by assumption) ?_
                  rotate_left
                  · have hW2 := hW
                    obtain ⟨⟨f0, f1, f2, f3, f4, f5, f6, f7, f8, f9, f10, f11, f12⟩, y0, y1, y2, v0, v1⟩ := HS.out W hW2
                    clear hW hW2
                    go_simp
                    try with_reducible rfl
                  try simp only [Act.put, List.setIfInBounds_toArray, List.set_cons_zero, List.set_cons_succ]
                  refine wpAnyH_take2 (i := 33) (t := 139) (v := ?_) rfl rfl (by kernel_rfl) (by kernel_rfl) (by kernel_rfl) (fun _ _ _ h => Only.not_panic h) (Or.inl ⟨by kernel_rfl, fun W hW => ?_⟩) (by assumption) ?_
                  rotate_left
                  · have hW2 := hW
                    obtain ⟨⟨f0, f1, f2, f3, f4, f5, f6, f7, f8, f9, f10, f11, f12⟩, y0, y1, y2, v0, v1⟩ := HS.out W hW2
                    clear hW hW2
                    go_simp
                    try with_reducible rfl
                  try simp only [Act.put, List.setIfInBounds_toArray, List.set_cons_zero, List.set_cons_succ]
                  refine wpAnyH_take2 (i := 34) (t := 140) (v := ?_) rfl rfl (by kernel_rfl) (by kernel_rfl) (by kernel_rfl) (fun _ _ _ h => Only.not_panic h) (Or.inl ⟨by kernel_rfl, fun W hW => ?_⟩) (by assumption) ?_
                  rotate_left
                  · have hW2 := hW
                    obtain ⟨⟨f0, f1, f2, f3, f4, f5, f6, f7, f8, f9, f10, f11, f12⟩, y0, y1, y2, v0, v1⟩ := HS.out W hW2
                    clear hW hW2
                    go_simp
                    try with_reducible rfl
                  try simp only [Act.put, List.setIfInBounds_toArray, List.set_cons_zero, List.set_cons_succ]
                  refine wpAnyH_take2 (i := 35) (t := 141) (v := ?_) rfl rfl (by kernel_rfl) (by kernel_rfl) (by kernel_rfl) (fun _ _ _ h => Only.not_panic h) (Or.inl ⟨by kernel_rfl, fun W hW => ?_⟩) (by assumption) ?_
                  rotate_left
                  · have hW2 := hW
                    obtain ⟨⟨f0, f1, f2, f3, f4, f5, f6, f7, f8, f9, f10, f11, f12⟩, y0, y1, y2, v0, v1⟩ := HS.out W hW2
                    clear hW hW2
                    go_simp
                    try with_reducible rfl
                  try simp only [Act.put, List.setIfInBounds_toArray, List.set_cons_zero, List.set_cons_succ]
                  refine wpAnyH_take2 (i := 36) (t := 142) (v := ?_) rfl rfl (by kernel_rfl) (by kernel_rfl) (by kernel_rfl) (fun _ _ _ h => Only.not_panic h) (Or.inl ⟨by kernel_rfl, fun W hW => ?_⟩) (by assumption) ?_
                  rotate_left
                  · have hW2 := hW
                    obtain ⟨⟨f0, f1, f2, f3, f4, f5, f6, f7, f8, f9, f10, f11, f12⟩, y0, y1, y2, v0, v1⟩ := HS.out W hW2
                    clear hW hW2
                    go_simp
                    try with_reducible rfl
                  try simp only [Act.put, List.setIfInBounds_toArray, List.set_cons_zero, List.set_cons_succ]
                  refine wpAnyH_take2 (i := 37) (t := 143) (v := ?_) rfl rfl (by kernel_rfl) (by kernel_rfl) (by kernel_rfl) (fun _ _ _ h => Only.not_panic h) (Or.inl ⟨by kernel_rfl, fun W hW => ?_⟩) (by assumption) ?_
                  rotate_left
                  · have hW2 := hW
                    obtain ⟨⟨f0, f1, f2, f3, f4, f5, f6, f7, f8, f9, f10, f11, f12⟩, y0, y1, y2, v0, v1⟩ := HS.out W hW2
                    clear hW hW2
                    go_simp
                    try with_reducible rfl
                  try simp only [Act.put, List.setIfInBounds_toArray, List.set_cons_zero, List.set_cons_succ]
                  refine wpAnyH_take2 (i := 38) (t := 144) (v := ?_) rfl rfl (by kernel_rfl) (by kernel_rfl) (by kernel_rfl) (fun _ _ _ h => Only.not_panic h) (Or.inl ⟨by kernel_rfl, fun W hW => ?_⟩) (by assumption) ?_
                  rotate_left
                  · have hW2 := hW
                    obtain ⟨⟨f0, f1, f2, f3, f4, f5, f6, f7, f8, f9, f10, f11, f12⟩, y0, y1, y2, v0, v1⟩ := HS.out W hW2
                    clear hW hW2
                    go_simp
                    try with_reducible rfl
                  try simp only [Act.put, List.setIfInBounds_toArray, List.set_cons_zero, List.set_cons_succ]
                  refine wpAnyH_take2 (i := 39) (t := 145) (v := ?_) rfl rfl (by kernel_rfl) (by kernel_rfl) (by kernel_rfl) (fun _ _ _ h => Only.not_panic h) (Or.inl ⟨by kernel_rfl, fun W hW => ?_⟩) (by assumption) ?_
                  rotate_left
                  · have hW2 := hW
                    obtain ⟨⟨f0, f1, f2, f3, f4, f5, f6, f7, f8, f9, f10, f11, f12⟩, y0, y1, y2, v0, v1⟩ := HS.out W hW2
                    clear hW hW2
                    go_simp
                    try with_reducible rfl
                  try simp only [Act.put, List.setIfInBounds_toArray, List.set_cons_zero, List.set_cons_succ]
                  refine wpAnyH_take2 (i := 40) (t := 146) (v := ?_) rfl rfl (by kernel_rfl) (by kernel_rfl) (by kernel_rfl) (fun _ _ _ h => Only.not_panic h) (Or.inl ⟨by kernel_rfl, fun W hW => ?_⟩) (by assumption) ?_
                  rotate_left
                  · have hW2 := hW
                    obtain ⟨⟨f0, f1, f2, f3, f4, f5, f6, f7, f8, f9, f10, f11, f12⟩, y0, y1, y2, v0, v1⟩ := HS.out W hW2
                    clear hW hW2
                    go_simp
                    try with_reducible rfl
                  try simp only [Act.put, List.setIfInBounds_toArray, List.set_cons_zero, List.set_cons_succ]
                  refine wpAnyH_take2 (i := 41) (t := 147) (v := ?_) rfl rfl (by kernel_rfl) (by kernel_rfl) (by kernel_rfl) (fun _ _ _ h => Only.not_panic h) (Or.inl ⟨by kernel_rfl, fun W hW => ?_⟩) (by assumption) ?_
                  rotate_left
                  · have hW2 := hW
                    obtain ⟨⟨f0, f1, f2, f3, f4, f5, f6, f7, f8, f9, f10, f11, f12⟩, y0, y1, y2, v0, v1⟩ := HS.out W hW2
                    clear hW hW2
                    go_simp
                    try with_reducible rfl
                  try simp only [Act.put, List.setIfInBounds_toArray, List.set_cons_zero, List.set_cons_succ]
                  refine wpAnyH_take2 (i := 42) (t := 148) (v := ?_) rfl rfl (by kernel_rfl) (by kernel_rfl) (by kernel_rfl) (fun _ _ _ h => Only.not_panic h) (Or.inl ⟨by kernel_rfl, fun W hW => ?_⟩) (by assumption) ?_
                  rotate_left
                  · have hW2 := hW
                    obtain ⟨⟨f0, f1, f2, f3, f4, f5, f6, f7, f8, f9, f10, f11, f12⟩, y0, y1, y2, v0, v1⟩ := HS.out W hW2
                    clear hW hW2
                    go_simp
                    try with_reducible rfl
                  try simp only [Act.put, List.setIfInBounds_toArray, List.set_cons_zero, List.set_cons_succ]
                  refine wpAnyH_take2 (i := 43) (t := 149) (v := ?_) rfl rfl (by kernel_rfl) (by kernel_rfl) (by kernel_rfl) (fun _ _ _ h => Only.not_panic h) (Or.inl ⟨by kernel_rfl, fun W hW => ?_⟩) (by assumption) ?_
                  rotate_left
                  · have hW2 := hW
                    obtain ⟨⟨f0, f1, f2, f3, f4, f5, f6, f7, f8, f9, f10, f11, f12⟩, y0, y1, y2, v0, v1⟩ := HS.out W hW2
                    clear hW hW2
                    go_simp
                    try with_reducible rfl
                  try simp only [Act.put, List.setIfInBounds_toArray, List.set_cons_zero, List.set_cons_succ]
                  refine wpAnyH_take2 (i := 44) (t := 150) (v := ?_) rfl rfl (by kernel_rfl) (by kernel_rfl) (by kernel_rfl) (fun _ _ _ h => Only.not_panic h) (Or.inl ⟨by kernel_rfl, fun W hW => ?_⟩) (by assumption) ?_
                  rotate_left
                  · have hW2 := hW
                    obtain ⟨⟨f0, f1, f2, f3, f4, f5, f6, f7, f8, f9, f10, f11, f12⟩, y0, y1, y2, v0, v1⟩ := HS.out W hW2
                    clear hW hW2
                    go_simp
                    try with_reducible rfl
                  try simp only [Act.put, List.setIfInBounds_toArray, List.set_cons_zero, List.set_cons_succ]
                  refine wpAnyH_take2 (i := 45) (t := 151) (v := ?_) rfl rfl (by kernel_rfl) (by kernel_rfl) (by kernel_rfl) (fun _ _ _ h => Only.not_panic h) (Or.inl ⟨by kernel_rfl, fun W hW => ?_⟩) (by assumption) ?_
                  rotate_left
                  · have hW2 := hW
                    obtain ⟨⟨f0, f1, f2, f3, f4, f5, f6, f7, f8, f9, f10, f11, f12⟩, y0, y1, y2, v0, v1⟩ := HS.out W hW2
                    clear hW hW2
                    go_simp
                    try with_reducible rfl
                  try simp only [Act.put, List.setIfInBounds_toArray, List.set_cons_zero, List.set_cons_succ]
                  refine wpAnyH_skip (i := 46) (t := 152) rfl rfl (by kernel_rfl) (by kernel_rfl) (by kernel_rfl) (fun _ _ _ h => Only.not_panic h) (by kernel_rfl) (by assumption) ?_
                  try simp only [Act.put, List.setIfInBounds_toArray, List.set_cons_zero, List.set_cons_succ]
                  refine wpAnyH_skip (i := 47) (t := 153) rfl rfl (by kernel_rfl) (by kernel_rfl) (by kernel_rfl) (fun _ _ _ h => Only.not_panic h) (by kernel_rfl) (by assumption) ?_
                  try simp only [Act.put, List.setIfInBounds_toArray, List.set_cons_zero, List.set_cons_succ]
                  refine wpAnyH_skip (i := 48) (t := 154) rfl rfl (by kernel_rfl) (by kernel_rfl) (by kernel_rfl) (fun _ _ _ h => Only.not_panic h) (by kernel_rfl) (by assumption) ?_
                  try simp only [Act.put, List.setIfInBounds_toArray, List.set_cons_zero, List.set_cons_succ]
                  refine wpAnyH_skip (i := 49) (t := 155) rfl rfl (by kernel_rfl) (by kernel_rfl) (by kernel_rfl) (fun _ _ _ h => Only.not_panic h) (by kernel_rfl) (by assumption) ?_
                  try simp only [Act.put, List.setIfInBounds_toArray, List.set_cons_zero, List.set_cons_succ]
                  refine wpAnyH_take2 (i := 50) (t := 156) (v := ?_) rfl rfl (by kernel_rfl) (by kernel_rfl) (by kernel_rfl) (fun _ _ _ h => Only.not_panic h) (Or.inl ⟨by kernel_rfl, fun W hW => ?_⟩) (by assumption) ?_
                  rotate_left
                  · have hW2 := hW
                    obtain ⟨⟨f0, f1, f2, f3, f4, f5, f6, f7, f8, f9, f10, f11, f12⟩, y0, y1, y2, v0, v1⟩ := HS.out W hW2
                    clear hW hW2
                    go_simp
                    try with_reducible rfl
                  try simp only [Act.put, List.setIfInBounds_toArray, List.set_cons_zero, List.set_cons_succ]
                  refine wpAnyH_take2 (i := 51) (t := 157) (v := ?_) rfl rfl (by kernel_rfl) (by kernel_rfl) (by kernel_rfl) (fun _ _ _ h => Only.not_panic h) (Or.inl ⟨by kernel_rfl, fun W hW => ?_⟩) (by assumption) ?_
                  rotate_left
                  · have hW2 := hW
                    obtain ⟨⟨f0, f1, f2, f3, f4, f5, f6, f7, f8, f9, f10, f11, f12⟩, y0, y1, y2, v0, v1⟩ := HS.out W hW2
                    clear hW hW2
                    go_simp
                    try with_reducible rfl
                  try simp only [Act.put, List.setIfInBounds_toArray, List.set_cons_zero, List.set_cons_succ]
                  refine wpAnyH_done (by kernel_rfl) (Only.mk ?_) _
                  go_wp2_with fail
                  go_meet
                  exact ⟨rfl, hHeld⟩
                exact AllReadyH.nil
          case rest =>
            clear HS HH q0 q1 q2 q3 q4 q5 q6 q7 q8 q9 q10 q11 q12 hlo hhi
            obtain ⟨rfl, hbx⟩ := hcut
            have BX := Lib.hid hbx
            clear hbx
            go_wp2_with fail
            go_roundg (t.dn + 1 - (i + 1))
            case measure => omega
            case rel => exact ⟨i + 1, rfl, by push_cast; rfl, by omega, B_trans BS.out BX.out⟩
        · obtain rfl : i = t.dn + 1 := by omega
          have h2 : ¬ ((t.dn + 1 : Nat) : Int) < ((t.dn + 1 : Nat) : Int) := by omega
          have B6 := Lib.hid (B_trans B5.out hbr)
          clear oT hbr
          go_wp2_with fail
          refine (HA.out _).mono ?_
          rintro e w7 ⟨rfl, hb7⟩
          have B7 := Lib.hid (B_trans B6.out hb7)
          clear hb7
          go_wp2
          refine bodyPost_ret (v := .bool true) (by simp [results, Try.results9, go_sem]) rfl ⟨rfl, B7.out⟩
end Go.Proofs.Ytanjkhclhcnnaaa

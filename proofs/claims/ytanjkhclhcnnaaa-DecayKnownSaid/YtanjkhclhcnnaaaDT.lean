/- Levels of both; the law DecayLevels. -/
import Derived.Test.YtanjkhclhcnnaaaDR
namespace Go.Proofs.Ytanjkhclhcnnaaa
open Go.RowKit Go.Shelf

theorem takeF_struck (t : TkA) (hs ws : List T2) (ds : List T4) (ts : List T3) : ∀ c, c ≤ t.tn → (takeF t hs ws ds ts c).struck.length ≤ c
  | 0, _ => Nat.le_refl _
  | c + 1, h => by
    have h1 := takeF_struck t hs ws ds ts c (by omega)
    rw [takeF_step t hs ws ds ts (by omega)]
    unfold takeS
    split
    · simp only; omega
    · simp; omega
/-- What Levels returns: levels, strikes. -/
def levE (t : TkA) (hs ws : List T2) (ds : List T4) (ts : List T3) : List T2 := if (taskS t hs ws ds ts).2.2 = 0 then levT t hs ws ds ts else []
def strE (t : TkA) (hs ws : List T2) (ds : List T4) (ts : List T3) : List T2 := if (taskS t hs ws ds ts).2.2 = 0 then (reachT t hs ws ds ts).struck else []
theorem levE_len {t : TkA} {hs ws : List T2} {ds : List T4} {ts : List T3} (hl : ds.length = t.dn) : (levE t hs ws ds ts).length ≤ 401 := by
  unfold levE
  split
  · rename_i h
    rw [levT_len h hl]
    have := (TaskOK.of h).dn
    omega
  · simp
theorem strE_len {t : TkA} {hs ws : List T2} {ds : List T4} {ts : List T3} (hl : ds.length = t.dn) : (strE t hs ws ds ts).length ≤ 20 := by
  unfold strE
  split
  · rename_i h
    have ok := TaskOK.of h
    have hO := RuOK.of ok.r
    have hts := tests_ok ok.tests
    obtain ⟨h1, -⟩ := kn_reach (t := t) (ts := ts) hO (days_str hO hl ok.days) hl (lv_ok ok.start) (fun i hi => by have := hts i hi; unfold morT; omega) (order_pair t ts)
    rw [h1, ← takeF_all]
    exact Nat.le_trans (takeF_struck t hs ws ds ts t.tn (Nat.le_refl _)) ok.tn
  · simp
def LevOut (t : TkA) (hs ws : List T2) (ds : List T4) (ts : List T3) (w : World) (e : Ending) (w' : World) : Prop :=
  ∃ la lc sa sc, e = .returned (.tuple #[.slice la (levE t hs ws ds ts).length lc, .slice sa (strE t hs ws ds ts).length sc, .int .i64 (taskS t hs ws ds ts).2.2]) ∧ Sl2 w' la (levE t hs ws ds ts).length (levE t hs ws ds ts) ∧ Sl2 w' sa (strE t hs ws ds ts).length (strE t hs ws ds ts) ∧ Below w.heap.size w w'
theorem sl2_none (w : World) : Sl2 w none 0 [] := ⟨rfl, fun h => absurd h (Nat.lt_irrefl 0)⟩
theorem levOut_bad {t : TkA} {hs ws : List T2} {ds : List T4} {ts : List T3} {w w' : World} {e : Ending} (he : (taskS t hs ws ds ts).2.2 ≠ 0) (h : e = .returned (.tuple #[.slice none 0 0, .slice none 0 0, .int .i64 (taskS t hs ws ds ts).2.2]) ∧ Below w.heap.size w w') : LevOut t hs ws ds ts w e w' := by
  have h1 : levE t hs ws ds ts = [] := if_neg he
  have h2 : strE t hs ws ds ts = [] := if_neg he
  unfold LevOut
  rw [h1, h2]
  exact ⟨none, 0, none, 0, h.1, sl2_none _, sl2_none _, h.2⟩
theorem levOut_ok {t : TkA} {hs ws : List T2} {ds : List T4} {ts : List T3} {w w' : World} {e : Ending} (hl : ds.length = t.dn) (he : (taskS t hs ws ds ts).2.2 = 0) (h : ∃ g cap C sv, e = .returned (.tuple #[.slice (some ⟨g, 0, none⟩) (t.dn + 1) cap, sv, .int .i64 0]) ∧ w.heap.size ≤ g ∧ Ob w' g 28 C ∧ SpC C (levT t hs ws ds ts) ∧ w'.ownsRow w.heap.size 78 2 sv (reachT t hs ws ds ts).struck.length (flat2 (reachT t hs ws ds ts).struck) ∧ Below w.heap.size w w') : LevOut t hs ws ds ts w e w' := by
  have h1 : levE t hs ws ds ts = levT t hs ws ds ts := if_pos he
  have h2 : strE t hs ws ds ts = (reachT t hs ws ds ts).struck := if_pos he
  obtain ⟨g, cap, C, sv, rfl, -, hC, hS, hr, hb⟩ := h
  obtain ⟨a, c, rfl, hA, -, -⟩ := sl2_row hr
  unfold LevOut
  rw [h1, h2, he, ← levT_len he hl]
  exact ⟨_, cap, a, c, rfl, spc_sl2 hC hS, hA, hb⟩
theorem levels2_any (t : TkA) (hs ws : List T2) (ds : List T4) (ts : List T3) (w : World) (hR : TkR w t hs ws ds ts) : Calls Try.prog 28 #[.agg t.cs] w (LevOut t hs ws ds ts w) := by
  by_cases he : (taskS t hs ws ds ts).2.2 = 0
  · exact (levels_full t hs ws ds ts w hR he).mono fun _ _ h => levOut_ok hR.d.len he h
  · exact (levels_bad t hs ws ds ts w hR he).mono fun _ _ h => levOut_bad he h

set_option maxRecDepth 100000 in
set_option maxHeartbeats 4000000 in
theorem refLevels2_any (t : TkA) (hs ws : List T2) (ds : List T4) (ts : List T3) (w : World) (hR : TkR w t hs ws ds ts) : Calls Try.prog 29 #[.agg t.cs] w (LevOut t hs ws ds ts w) := by
  obtain ⟨w0, hw0⟩ : ∃ w0, (w).alloc (.cells t.cs 31) = w0 := ⟨_, rfl⟩
  have hb0 : Below w.heap.size w w0 := by rw [← hw0]; exact B_alloc (Below.refl _ _) _
  have o0 : Ob w0 (w.heap.size) 31 t.cs := by rw [← hw0]; exact Ob.new (w) t.cs 31
  have HV := refValid_any t hs ws ds ts w0 (hR.below hb0)
  have hdl := hR.d.len
  obtain ⟨f0, f1, f2, f3, f4, f5, f6, f7, f8, f9, f10, f11, f12⟩ := o0.task
  replace o0 := Lib.hid o0
  replace hw0 := Lib.hid hw0
  by_cases he : (taskS t hs ws ds ts).2.2 = 0
  · have ok := TaskOK.of he
    have hO := RuOK.of ok.r
    have HK := Lib.hid (fun W (h : Below w.heap.size w W) => refKnown_any t hs ws ds ts W (hR.below h) hO (days_str hO hdl ok.days) (lv_ok ok.start) ok.dn ok.tn (tests_ok ok.tests) ok.first)
    have hfin := fun (e : Ending) (w' : World) => levOut_ok (t := t) (hs := hs) (ws := ws) (ds := ds) (ts := ts) (w := w) (w' := w') (e := e) hdl he
    replace hfin := Lib.hid hfin
    rw [he] at HV
    replace HV := Lib.hid HV
    replace hb0 := Lib.hid hb0
    clear he ok hO hdl hR
    go_enter Try.func29, Try.ntmps29
    go_wp2_with fail
    rw [hw0.out]
    refine (HV.out).mono ?_
    rintro e w1 ⟨rfl, hb1⟩
    have hw1 := Lib.hid (B_trans hb0.out hb1)
    clear f0 f1 f2 f3 f4 f5 f6 f7 f8 f9 f10 f11 f12
    obtain ⟨f0, f1, f2, f3, f4, f5, f6, f7, f8, f9, f10, f11, f12⟩ := (o0.out.below hb1).task
    clear hb1
    go_wp2_with fail
    refine (HK.out w1 hw1.out).mono ?_
    rintro e w2 ⟨g, cap, C, sv, rfl, hg, hC, hS, hr, hb2⟩
    have H := Lib.hid (And.intro hg (And.intro hC (And.intro hS (And.intro hr hb2))))
    clear f0 f1 f2 f3 f4 f5 f6 f7 f8 f9 f10 f11 f12 hg hC hS hr hb2
    go_wp2
    refine bodyPost_ret (v := .tuple #[.slice (some ⟨g, 0, none⟩) (t.dn + 1) cap, sv, .int .i64 0]) (by simp [results, Try.results29, go_sem]) rfl ?_
    obtain ⟨h1, h2, h3, h4, h5⟩ := H.out
    exact hfin.out _ _ ⟨g, cap, C, sv, rfl, Nat.le_trans hw1.out.size h1, h2, h3, row_base h4 hw1.out.size, B_trans hw1.out h5⟩
  · have hfin := fun (e : Ending) (w' : World) => levOut_bad (t := t) (hs := hs) (ws := ws) (ds := ds) (ts := ts) (w := w) (w' := w') (e := e) he
    replace hfin := Lib.hid hfin
    generalize (taskS t hs ws ds ts).2.2 = c3 at HV he hfin
    have hq : (c3 != 0) = true := by simpa using he
    replace HV := Lib.hid HV
    replace hb0 := Lib.hid hb0
    clear he hdl hR
    go_enter Try.func29, Try.ntmps29
    go_wp2_with fail
    rw [hw0.out]
    refine (HV.out).mono ?_
    rintro e w1 ⟨rfl, hb1⟩
    have hw1 := Lib.hid (B_trans hb0.out hb1)
    clear f0 f1 f2 f3 f4 f5 f6 f7 f8 f9 f10 f11 f12 hb1
    go_wp2
    refine bodyPost_ret (v := .tuple #[.slice none 0 0, .slice none 0 0, .int .i64 c3]) (by simp [results, Try.results29, go_sem]) rfl ?_
    exact hfin.out _ _ ⟨rfl, hw1.out⟩

set_option maxRecDepth 100000 in
set_option maxHeartbeats 4000000 in
theorem levelsLaw_any (t : TkA) (hs ws : List T2) (ds : List T4) (ts : List T3) (w : World) (hR : TkR w t hs ws ds ts) :
    Calls Try.prog 6 #[.agg t.cs] w fun e w' => e = .returned (.bool true) ∧ Below w.heap.size w w' := by
  obtain ⟨w0, hw0⟩ : ∃ w0, (w).alloc (.cells t.cs 31) = w0 := ⟨_, rfl⟩
  have hb0 : Below w.heap.size w w0 := by rw [← hw0]; exact B_alloc (Below.refl _ _) _
  have o0 : Ob w0 (w.heap.size) 31 t.cs := by rw [← hw0]; exact Ob.new (w) t.cs 31
  have H1 : Hid (∀ W, Below w.heap.size w W → Calls Try.prog 28 #[.agg t.cs] W fun e w' => ∃ la lc sa sc, e = .returned (.tuple #[.slice la (levE t hs ws ds ts).length lc, .slice sa (strE t hs ws ds ts).length sc, .int .i64 (taskS t hs ws ds ts).2.2]) ∧ Sl2 w' la (levE t hs ws ds ts).length (levE t hs ws ds ts) ∧ Sl2 w' sa (strE t hs ws ds ts).length (strE t hs ws ds ts) ∧ Below W.heap.size W w') := fun W h => levels2_any t hs ws ds ts W (hR.below h)
  have H2 : Hid (∀ W, Below w.heap.size w W → Calls Try.prog 29 #[.agg t.cs] W fun e w' => ∃ la lc sa sc, e = .returned (.tuple #[.slice la (levE t hs ws ds ts).length lc, .slice sa (strE t hs ws ds ts).length sc, .int .i64 (taskS t hs ws ds ts).2.2]) ∧ Sl2 w' la (levE t hs ws ds ts).length (levE t hs ws ds ts) ∧ Sl2 w' sa (strE t hs ws ds ts).length (strE t hs ws ds ts) ∧ Below W.heap.size W w') := fun W h => refLevels2_any t hs ws ds ts W (hR.below h)
  have HA := Lib.hid awake_any
  have hl1 := levE_len (t := t) (hs := hs) (ws := ws) (ts := ts) hR.d.len
  have hl2 := strE_len (t := t) (hs := hs) (ws := ws) (ts := ts) hR.d.len
  generalize levE t hs ws ds ts = L at H1 H2 hl1
  generalize strE t hs ws ds ts = S at H1 H2 hl2
  generalize (taskS t hs ws ds ts).2.2 = c3 at H1 H2
  obtain ⟨q0, q1, q2, q3, q4, q5, q6, q7, q8, q9, q10, q11, q12⟩ := o0.task
  replace o0 := Lib.hid o0
  replace hb0 := Lib.hid hb0
  replace hw0 := Lib.hid hw0
  clear hR
  go_enter Try.func6, Try.ntmps6
  go_wp2_with fail
  rw [hw0.out]
  refine (H1.out w0 hb0.out).mono ?_
  rintro e w1 ⟨la, lc, sa, sc, rfl, hL, hS, hb1⟩
  have hw1 := Lib.hid (B_trans hb0.out hb1)
  have F1 := Lib.hid (And.intro hL hS)
  clear q0 q1 q2 q3 q4 q5 q6 q7 q8 q9 q10 q11 q12
  obtain ⟨q0, q1, q2, q3, q4, q5, q6, q7, q8, q9, q10, q11, q12⟩ := (o0.out.below hb1).task
  clear hb1 hL hS
  go_wp2_with fail
  refine (H2.out w1 hw1.out).mono ?_
  rintro e w2 ⟨la2, lc2, sa2, sc2, rfl, hL2, hS2, hb2⟩
  have hw2 := Lib.hid (B_trans hw1.out hb2)
  have F2 := Lib.hid (And.intro (F1.out.1.below hb2) (And.intro (F1.out.2.below hb2) (And.intro hL2 hS2)))
  clear q0 q1 q2 q3 q4 q5 q6 q7 q8 q9 q10 q11 q12 hb2 hw1 hL2 hS2 F1
  have H3 := spans_any L L la la2 L.length L.length lc lc2 w2 F2.out.1 F2.out.2.2.1 (by omega) (by omega)
  rw [decide_eq_true rfl] at H3
  replace H3 := Lib.hid H3
  go_wp2_with fail
  refine (H3.out).mono ?_
  rintro e w3 ⟨rfl, hb3⟩
  have hw3 := Lib.hid (B_trans hw2.out hb3)
  have H4 := strikes_any S S sa sa2 S.length S.length sc sc2 w3 (F2.out.2.1.below hb3) (F2.out.2.2.2.below hb3) (by omega) (by omega)
  rw [decide_eq_true rfl] at H4
  replace H4 := Lib.hid H4
  clear hb3 hw2 F2 H3
  go_wp2_with fail
  refine (H4.out).mono ?_
  rintro e w4 ⟨rfl, hb4⟩
  have hw4 := Lib.hid (B_trans hw3.out hb4)
  clear hb4 hw3 H4
  go_wp2_with fail
  refine (HA.out w4).mono ?_
  rintro e w5 ⟨rfl, hb5⟩
  have hw5 := Lib.hid (B_trans hw4.out hb5)
  clear hb5 hw4
  go_wp2
  refine bodyPost_ret (v := .bool true) (by simp [results, Try.results6, go_sem]) rfl ⟨rfl, hw5.out⟩
end Go.Proofs.Ytanjkhclhcnnaaa

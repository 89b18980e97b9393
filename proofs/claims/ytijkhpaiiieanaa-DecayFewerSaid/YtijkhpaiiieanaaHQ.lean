/- The law DecayFewer. -/
import Derived.Test.YtijkhpaiiieanaaHP
namespace Go.Proofs.Ytijkhpaiiieanaa
open Go.RowKit Go.Shelf

theorem flat3_app (a b : List T3) : flat3 (a ++ b) = flat3 a ++ flat3 b := by simp [flat3]
def ooF (c k o : Nat) : Nat := if c = k + 1 then o else o + (k + 1) * 3
def need3f : Nat → Nat := fun i => [0, 0, 0, 0, 0, 1, 0, 0, 0, 0, 0, 2, 3, 3].getD i 0
def till3f : Nat → Nat := fun i => [0, 3, 3, 3, 3, 1, 3, 3, 3, 3, 3, 2, 3, 3].getD i 0
def eff3f : Nat → Bool := fun i => [true, false, false, false, false, true, false, false, false, false, false, true, false, true].getD i false
def V3f (t : TkA) (U T p o k : Nat) (outs : Nat → Value) : Nat → Value
  | 41 => outs 0
  | 42 => .pointer (some ⟨T, 12, none⟩)
  | 43 => .slice (some ⟨p, o, none⟩) t.tn t.tc
  | 44 => .int .i64 (k : Nat)
  | 45 => .slice (some ⟨p, o, none⟩) k t.tc
  | 46 => outs 1
  | 47 => .pointer (some ⟨T, 12, none⟩)
  | 48 => .slice (some ⟨p, o, none⟩) t.tn t.tc
  | 49 => .int .i64 (k : Nat)
  | 50 => .int .i64 ((k : Nat) + 1)
  | 51 => .slice (some ⟨p, ooF t.tc k o, none⟩) (t.tn - (k + 1)) (t.tc - (k + 1))
  | 52 => outs 2
  | 53 => .pointer (some ⟨U, 12, none⟩)
  | _ => undef

structure I3f (t : TkA) (w w1 : World) (ts : List T3) (kk : Nat) (k : Nat) (outs : Nat → Value) (W : World) : Prop where
  T0 : Ob W w.heap.size 31 t.cs
  b : Below w1.heap.size w1 W
  U : k ≤ 3 → Ob W w1.heap.size 31 t.cs
  R0 : k = 1 → W.ownsRow (w1.heap.size + 1) 62 3 (outs 0) 0 []
  R1 : k = 2 → W.ownsRow (w1.heap.size + 1) 62 3 (outs 1) kk (flat3 (ts.take kk))
  R2 : k = 3 → W.ownsRow (w1.heap.size + 1) 62 3 (outs 2) (t.tn - 1) (flat3 (fewL ts kk))
  e : k = 4 → ∃ va vc, outs 2 = .slice va (t.tn - 1) vc ∧ Ob W w1.heap.size 31 #[(.slice t.r.ha t.r.hn t.r.hc), (.slice t.r.wa t.r.wn t.r.wc), (.int .i64 t.r.own), (.int .i64 t.r.feed), (.int .i64 t.r.g0), (.int .i64 t.r.g1), (.int .i64 t.r.g2), (.int .i64 t.r.lost), (.int .i64 t.first), (.slice t.da t.dn t.dc), (.int .i64 t.lo), (.int .i64 t.hi), (.slice va (t.tn - 1) vc)] ∧ W.ownsRow (w1.heap.size + 1) 62 3 (.slice va (t.tn - 1) vc) (t.tn - 1) (flat3 (fewL ts kk))

set_option maxRecDepth 100000 in
set_option maxHeartbeats 4000000 in
theorem fewLaw_bad (t : TkA) (hs ws : List T2) (ds : List T4) (ts : List T3) (x : Int) (w : World) (hR : TkR w t hs ws ds ts) (he : (taskS t hs ws ds ts).2.2 ≠ 0) :
    Calls Try.prog 3 #[.agg t.cs, .int .u8 x] w fun e w' => e = .returned (.bool true) ∧ Below w.heap.size w w' := by
  obtain ⟨w0, hw0⟩ : ∃ w0, (w).alloc (.cells t.cs 31) = w0 := ⟨_, rfl⟩
  have hb0 : Below w.heap.size w w0 := by rw [← hw0]; exact B_alloc (Below.refl _ _) _
  have o0 : Ob w0 (w.heap.size) 31 t.cs := by rw [← hw0]; exact Ob.new (w) t.cs 31
  have H2 := fun W (h : Below w.heap.size w W) => levels_bad t hs ws ds ts W (hR.below h) he
  have HA := Lib.hid awake_any
  generalize (taskS t hs ws ds ts).2.2 = c3 at H2 he
  replace H2 := Lib.hid H2
  have hq : (c3 != 0) = true := by simpa using he
  obtain ⟨q0, q1, q2, q3, q4, q5, q6, q7, q8, q9, q10, q11, q12⟩ := o0.thirteen
  replace hb0 := Lib.hid hb0
  replace hw0 := Lib.hid hw0
  clear hR he o0
  go_enter Try.func3, Try.ntmps3
  go_wp2_with fail
  rw [hw0.out]
  refine (H2.out w0 hb0.out).mono ?_
  rintro e w1 ⟨rfl, hb1⟩
  have hw1 := Lib.hid (B_trans hb0.out hb1)
  clear q0 q1 q2 q3 q4 q5 q6 q7 q8 q9 q10 q11 q12 hb1
  go_wp2_with fail
  refine (HA.out _).mono ?_
  rintro e w4 ⟨rfl, hb4⟩
  have hw4 := Lib.hid (B_trans hw1.out hb4)
  clear hb4
  go_wp2
  refine bodyPost_ret (v := .bool true) (by simp [results, Try.results3, go_sem]) rfl ⟨rfl, hw4.out⟩

set_option maxRecDepth 100000 in
set_option maxHeartbeats 16000000 in
theorem fewLaw_any (t : TkA) (hs ws : List T2) (ds : List T4) (ts : List T3) (x : Nat) (w : World) (hR : TkR w t hs ws ds ts) (hcap : t.tn ≤ t.tc) (he : (taskS t hs ws ds ts).2.2 = 0) (hx : x ≤ 255) :
    Calls Try.prog 3 #[.agg t.cs, .int .u8 (x : Int)] w fun e w' => e = .returned (.bool true) ∧ Below w.heap.size w w' := by
  obtain ⟨w0, hw0⟩ : ∃ w0, (w).alloc (.cells t.cs 31) = w0 := ⟨_, rfl⟩
  have hb0 : Below w.heap.size w w0 := by rw [← hw0]; exact B_alloc (Below.refl _ _) _
  have o0 : Ob w0 (w.heap.size) 31 t.cs := by rw [← hw0]; exact Ob.new (w) t.cs 31
  have ok := TaskOK.of he
  have hdl := hR.d.len
  have htl := hR.t.len
  have hdn := ok.dn
  have htn := ok.tn
  have hts := tests_ok ok.tests
  have hmor : ∀ i, i < t.tn → morT t ts i ≤ t.dn := fun i hi => by have := hts i hi; unfold morT; omega
  have hsl := struckLen (t := t) (hs := hs) (ws := ws) (ds := ds) (ts := ts) hmor htn
  have H2 := fun W (h : Below w.heap.size w W) => levels3_any t hs ws ds ts W (hR.below h) he
  have HA := Lib.hid awake_any
  replace H2 := Lib.hid H2
  obtain ⟨q0, q1, q2, q3, q4, q5, q6, q7, q8, q9, q10, q11, q12⟩ := o0.thirteen
  replace o0 := Lib.hid o0
  replace hb0 := Lib.hid hb0
  replace hw0 := Lib.hid hw0
  clear hts hmor
  go_enter Try.func3, Try.ntmps3
  go_wp2_with fail
  rw [hw0.out]
  refine (H2.out w0 hb0.out).mono ?_
  rintro e w1 ⟨la, lc, sa, sc, rfl, hLs, hSs, hb1⟩
  have hw1 := Lib.hid (B_trans hb0.out hb1)
  have O1 := Lib.hid (And.intro (o0.out.below hb1) (And.intro hLs hSs))
  clear q0 q1 q2 q3 q4 q5 q6 q7 q8 q9 q10 q11 q12 hLs hSs hb1
  obtain ⟨q0, q1, q2, q3, q4, q5, q6, q7, q8, q9, q10, q11, q12⟩ := O1.out.1.thirteen
  by_cases h0 : t.tn = 0
  · have e0 : (t.tn : Int) = 0 := by omega
    go_wp2_with fail
    refine (HA.out _).mono ?_
    rintro e w4 ⟨rfl, hb4⟩
    have hw4 := Lib.hid (B_trans hw1.out hb4)
    clear hb4
    go_wp2
    refine bodyPost_ret (v := .bool true) (by simp [results, Try.results3, go_sem]) rfl ⟨rfl, hw4.out⟩
  · obtain ⟨k, hk⟩ : ∃ k, x % t.tn = k := ⟨_, rfl⟩
    have hkt : k < t.tn := by have := Nat.mod_lt x (show 0 < t.tn by omega); omega
    have hmod : (x : Int) % (t.tn : Int) = (k : Int) := by rw [← hk]; push_cast; rfl
    have hmod2 : Int.tmod (x : Int) (t.tn : Int) = (k : Int) := by rw [Int.tmod_eq_emod_of_nonneg (by omega)]; exact hmod
    have e0 : ¬ (t.tn : Int) = 0 := by omega
    have e1 : ¬ 20 < (t.tn : Int) := by omega
    have e2 : ((t.tn : Int) == 0) = false := by simpa using h0
    have e3 : decide (20 < (t.tn : Int)) = false := decide_eq_false e1
    have u2 : IntKind.i64.wrap (x : Int) = (x : Int) := IntWalk.i64_in _ (by omega)
    have FA := fun ua uc => few_all (hs := hs) (ws := ws) ok hdl htl hkt ua uc
    have OKF := fun ua uc => (ok.few htl hkt ua uc).zero
    obtain ⟨p, o, hta, hpl, htc⟩ := (hR.below hw1.out).t.at_ (by omega)
    have HY1 : Hid ((ts.take k).length = k ∧ ∀ i, i < k → w1.cell? ⟨p, o + i * 3, none⟩ = some (.int .i64 ((ts.take k).getD i (0, 0, 0)).1) ∧ w1.cell? ⟨p, o + i * 3 + 1, none⟩ = some (.int .i64 ((ts.take k).getD i (0, 0, 0)).2.1) ∧ w1.cell? ⟨p, o + i * 3 + 2, none⟩ = some (.int .i64 ((ts.take k).getD i (0, 0, 0)).2.2)) :=
      ⟨by rw [List.length_take, htl]; omega, fun i hi => by
        rw [show (ts.take k).getD i (0, 0, 0) = ts.getD i (0, 0, 0) by simp [List.getD, List.getElem?_take_of_lt hi]]
        exact htc i (by omega)⟩
    have HY2 : Hid ((ts.drop (k + 1)).length = t.tn - (k + 1) ∧ ∀ i, i < t.tn - (k + 1) → w1.cell? ⟨p, ooF t.tc k o + i * 3, none⟩ = some (.int .i64 ((ts.drop (k + 1)).getD i (0, 0, 0)).1) ∧ w1.cell? ⟨p, ooF t.tc k o + i * 3 + 1, none⟩ = some (.int .i64 ((ts.drop (k + 1)).getD i (0, 0, 0)).2.1) ∧ w1.cell? ⟨p, ooF t.tc k o + i * 3 + 2, none⟩ = some (.int .i64 ((ts.drop (k + 1)).getD i (0, 0, 0)).2.2)) :=
      ⟨by rw [List.length_drop, htl], fun i hi => by
        rw [show (ts.drop (k + 1)).getD i (0, 0, 0) = ts.getD (k + 1 + i) (0, 0, 0) by simp [List.getD], show ooF t.tc k o + i * 3 = o + (k + 1 + i) * 3 by unfold ooF; rw [if_neg (by omega)]; omega]
        exact htc (k + 1 + i) (by omega)⟩
    have k1 : (0 : Int) ≤ k := by omega
    have k2 : (k : Int) ≤ t.tc := by omega
    have k3 : (0 : Int) ≤ (k : Int) + 1 := by omega
    have k4 : (k : Int) + 1 ≤ t.tn := by omega
    have k5 : ((k : Int) + 1).toNat = k + 1 := by omega
    have u3 : IntKind.i64.wrap ((k : Int) + 1) = (k : Int) + 1 := IntWalk.i64_in _ (by omega)
    have HTA := Lib.hid hta
    have FAA := Lib.hid FA
    have OKFF := Lib.hid OKF
    clear hk FA OKF hta htc ok
    go_upto_region 4 with fail
    go_cut [8] (fun v wx => v = .int .i64 (k : Int) ∧ wx = w1)
    case first =>
      go_wp2_with fail
      go_meet
      exact ⟨by first | rfl | rw [hmod] | rw [hmod2], rfl⟩
    case rest =>
      obtain ⟨rfl, hwc⟩ := hcut
      rw [hwc]
      clear hwc
      obtain ⟨w2, hw2⟩ : ∃ w2, w1.alloc (.cells t.cs 31) = w2 := ⟨_, rfl⟩
      have hb12 : Below w1.heap.size w1 w2 := by rw [← hw2]; exact B_alloc (Below.refl _ _) _
      have oU : Ob w2 w1.heap.size 31 t.cs := by rw [← hw2]; exact Ob.new _ _ _
      have gT := O1.out.1.lt
      have J0 : Hid (I3f t w w1 ts k 0 (fun _ => undef) w2.drew) := ⟨(O1.out.1.below hb12).drew, hb12.drew, fun _ => oU.drew, fun h => by omega, fun h => by omega, fun h => by omega, fun h => by omega⟩
      have W2 := Lib.hid hw2
      clear hw2 hb12 oU
      go_upto_region 6 with fail
      rw [W2.out]
      clear q0 q1 q2 q3 q4 q5 q6 q7 q8 q9 q10 q11 q12
      refine wp_region_steps (I := I3f t w w1 ts k) (V := V3f t w1.heap.size w.heap.size p o k) (eff := eff3f) (need := need3f) (till := till3f) 4 (by kernel_rfl) (by decide) (by kernel_rfl) rfl (by kernel_rfl) (by kernel_rfl) (by kernel_rfl) (by kernel_rfl) (by kernel_rfl) J0.out ?steps ?hend
      case hend =>
        intro outs w3 hI
        obtain ⟨ua, uc, hv, oU, hrow⟩ := hI.e rfl
        have B3 := Lib.hid hI.b
        clear hI J0
        simp only [flowAct, List.filterMap_cons, List.filterMap_nil, patch, List.setIfInBounds_toArray, List.set_cons_zero, List.set_cons_succ]
        have BW := Lib.hid (B_trans hw1.out B3.out)
        obtain ⟨ua', uc', e10, hT3, -⟩ := sl3_row hrow
        injection e10 with e10 e11 e12
        subst e10 e12
        have hRv := hR.below BW.out
        have hRu : TkR w3 (t.few_ ua uc) hs ws ds (fewL ts k) := ⟨hRv.r, hRv.dn, by have := hRv.tn; show t.tn - 1 ≤ _; omega, hRv.d, hT3⟩
        have HLU' := fun W (h : Below w3.heap.size w3 W) => levels3_any (t.few_ ua uc) hs ws ds (fewL ts k) W (hRu.below h) (OKFF.out ua uc)
        have F := FAA.out ua uc
        generalize (reachT (t.few_ ua uc) hs ws ds (fewL ts k)).struck = S2 at HLU' F
        generalize levT (t.few_ ua uc) hs ws ds (fewL ts k) = VB at HLU' F
        generalize (reachT t hs ws ds ts).struck = S at F O1 hsl
        generalize levT t hs ws ds ts = V at F O1
        have HLU := Lib.hid (show ∀ W, Below w3.heap.size w3 W → Calls Try.prog 5 #[.agg #[(.slice t.r.ha t.r.hn t.r.hc), (.slice t.r.wa t.r.wn t.r.wc), (.int .i64 t.r.own), (.int .i64 t.r.feed), (.int .i64 t.r.g0), (.int .i64 t.r.g1), (.int .i64 t.r.g2), (.int .i64 t.r.lost), (.int .i64 t.first), (.slice t.da t.dn t.dc), (.int .i64 t.lo), (.int .i64 t.hi), (.slice ua (t.tn - 1) uc)]] W fun e w' => ∃ la lc sa sc, e = .returned (.tuple #[.slice la (t.dn + 1) lc, .slice sa S2.length sc, .int .i64 0]) ∧ Sl2 w' la (t.dn + 1) VB ∧ Sl2 w' sa S2.length S2 ∧ Below W.heap.size W w' from HLU')
        obtain ⟨F1, F2⟩ := F
        have FF := Lib.hid F1
        have FG := Lib.hid F2
        obtain ⟨s0, s1, s2, s3, s4, s5, s6, s7, s8, s9, s10, s11, s12⟩ := oU.thirteen
        clear hv hrow hT3 hRv hRu HLU' F1 F2 oU
        go_wp2_with fail
        refine (HLU.out w3 (Below.refl _ _)).mono ?_
        rintro e w4 ⟨lb, lbc, sb, sbc, rfl, hL2, -, hb4⟩
        have B4 := Lib.hid (B_trans BW.out hb4)
        have C4 := Lib.hid (B_trans B3.out hb4)
        have L4 := Lib.hid hL2
        have HST' : ∀ W', Below w4.heap.size w4 W' → Calls Try.prog 7 #[.slice sa S.length sc, .int .i64 (k : Int)] W' fun e w' => e = .returned (.bool (strkB S k)) ∧ Below W'.heap.size W' w' := fun W' hh =>
          (struckIs_any S sa S.length sc (k : Int) W' (O1.out.2.2.below (B_trans C4.out hh)) (by omega)).mono fun e w' ⟨h1, h2⟩ => ⟨h1, by rw [h2]; exact Below.refl _ _⟩
        clear s0 s1 s2 s3 s4 s5 s6 s7 s8 s9 s10 s11 s12 hb4 hL2
        cases hsb : strkB S (k : Int) with
        | true =>
          obtain ⟨g1, g2⟩ := FF.out hsb
          rw [hsb] at HST'
          have HST := Lib.hid HST'
          have f1 : IntKind.i64.wrap ((S.length : Int) - 1) = (S2.length : Int) := by rw [show (S.length : Int) - 1 = (S2.length : Int) by omega]; exact IntWalk.i64_in _ (by omega)
          have HSP := Lib.hid (show ∀ W', Below w4.heap.size w4 W' → Calls Try.prog 8 #[.slice lb (t.dn + 1) lbc, .slice la (t.dn + 1) lc] W' fun e w' => e = .returned (.bool true) ∧ Below W'.heap.size W' w' from fun W' hh => by
            have h := spans_any VB V lb la (t.dn + 1) (t.dn + 1) lbc lc W' (L4.out.below hh) (O1.out.2.1.below (B_trans C4.out hh)) (by omega) (by omega)
            rw [decide_eq_true g1] at h
            exact h)
          clear HST' hsb g1 g2
          go_wp2_with fail
          refine (HST.out w4 (Below.refl _ _)).mono ?_
          rintro e w5 ⟨rfl, hb5⟩
          have B5 := Lib.hid hb5
          clear hb5
          go_wp2_with fail
          refine (HSP.out w5 B5.out).mono ?_
          rintro e w6 ⟨rfl, hb6⟩
          have B6 := Lib.hid (B_trans B4.out (B_trans B5.out hb6))
          clear hb6
          go_wp2_with fail
          refine (HA.out _).mono ?_
          rintro e w7 ⟨rfl, hb7⟩
          have B7 := Lib.hid (B_trans B6.out hb7)
          clear hb7
          go_wp2
          refine bodyPost_ret (v := .bool true) (by simp [results, Try.results3, go_sem]) rfl ⟨rfl, B7.out⟩
        | false =>
          rw [hsb] at HST'
          have HST := Lib.hid HST'
          clear HST' hsb
          by_cases hS0 : S.length = 0
          · obtain ⟨g1, g2⟩ := FG.out (List.length_eq_zero_iff.1 hS0)
            have GS := Lib.hid g2
            have f1 : ((S.length : Int) == 0) = true := by simp; exact List.length_eq_zero_iff.1 hS0
            have f2 : ((S2.length : Int) != 0) = false := by rw [g1]; rfl
            clear g1 g2 hS0
            go_wp2_with fail
            refine (HST.out w4 (Below.refl _ _)).mono ?_
            rintro e w5 ⟨rfl, hb5⟩
            have B5 := Lib.hid hb5
            clear hb5
            go_wp2_with fail
            go_loopg [12] (t.dn + 1) (fun gk iv wr => ∃ j : Nat, gk = t.dn + 1 - j ∧ iv = .int .i64 (j : Int) ∧ j ≤ t.dn + 1 ∧ Below w4.heap.size w4 wr)
            case atStart => exact ⟨0, rfl, rfl, Nat.zero_le _, B5.out⟩
            case round =>
              obtain ⟨j, rfl, rfl, hj, hbr⟩ := hrel
              by_cases hlt : j < t.dn + 1
              · obtain ⟨ab, ao, rfl, hab, hac⟩ := (O1.out.2.1.below (B_trans C4.out hbr)).at_ (by omega)
                obtain ⟨rb, ro, rfl, hrb, hrc⟩ := (L4.out.below hbr).at_ (by omega)
                obtain ⟨z0, z1⟩ := hac j hlt
                obtain ⟨z2, z3⟩ := hrc j hlt
                obtain ⟨l1, l2⟩ := GS.out j (by omega)
                generalize V.getD j (0, 0) = p at z0 z1 l1 l2
                generalize VB.getD j (0, 0) = q at z2 z3 l1 l2
                have l3 : ¬ p.1 < q.1 := by omega
                have l4 : ¬ q.2 < p.2 := by omega
                have j1 : (0 : Int) ≤ j := by omega
                have j2 : (j : Int) < ((t.dn + 1 : Nat) : Int) := by omega
                have j3 : (j : Int) < (t.dn : Int) + 1 := by omega
                have BR := Lib.hid hbr
                clear hac hrc hbr l1 l2
                go_wp2_with fail
                go_quiet (fail)
                go_wp2_with fail
                go_roundg (t.dn + 1 - (j + 1))
                case measure => omega
                case rel => exact ⟨j + 1, rfl, by push_cast; rfl, by omega, below_drewN BR.out _⟩
              · obtain rfl : j = t.dn + 1 := by omega
                have h4 : ¬ ((t.dn + 1 : Nat) : Int) < ((t.dn + 1 : Nat) : Int) := by omega
                have BR := Lib.hid (B_trans B4.out hbr)
                clear hbr
                go_wp2_with fail
                refine (HA.out _).mono ?_
                rintro e w7 ⟨rfl, hb7⟩
                have B7 := Lib.hid (B_trans BR.out hb7)
                clear hb7
                go_wp2
                refine bodyPost_ret (v := .bool true) (by simp [results, Try.results3, go_sem]) rfl ⟨rfl, B7.out⟩
          · have f1 : ¬ (S.length : Int) = 0 := by omega
            have f3 : (0 : Int) < ((t.dn + 1 : Nat) : Int) := by omega
            have f4 : (0 : Int) < (t.dn : Int) + 1 := by omega
            go_wp2_with fail
            refine (HST.out w4 (Below.refl _ _)).mono ?_
            rintro e w5 ⟨rfl, hb5⟩
            have B5 := Lib.hid hb5
            clear hb5
            go_wp2_with fail
            go_loopg [12] 1 (fun gk iv wr => gk = 1 ∧ iv = .int .i64 0 ∧ Below w4.heap.size w4 wr)
            case atStart => exact ⟨rfl, rfl, B5.out⟩
            case round =>
              obtain ⟨rfl, rfl, hbr⟩ := hrel
              have BR := Lib.hid (B_trans B4.out hbr)
              clear hbr
              go_wp2_with fail
              refine (HA.out _).mono ?_
              rintro e w7 ⟨rfl, hb7⟩
              have B7 := Lib.hid (B_trans BR.out hb7)
              clear hb7
              go_wp2
              refine bodyPost_ret (v := .bool true) (by simp [results, Try.results3, go_sem]) rfl ⟨rfl, B7.out⟩
      case steps =>
          refine ⟨⟨rfl, fun t ht k' outs u (h : 0 < k') => by cases ht; show upd outs k' u 0 = outs 0; unfold upd; rw [if_neg (by omega)], fun k' outs W' ρ hk1 hk2 hI hc hg h_fn hr ho => ?_⟩, ?_⟩
          · obtain rfl : k' = 0 := by have h1 : 0 ≤ k' := hk1; have h2 : k' ≤ 0 := hk2; omega
            have hbl := B_alloc (Below.refl W'.heap.size W') (.cells #[] 62)
            refine step_new rfl (v := .slice (some ⟨W'.heap.size, 0, none⟩) 0 0) (w' := W'.alloc (.cells #[] 62)) ?_ ⟨hI.T0.below hbl, B_trans hI.b hbl, fun _ => (hI.U (by omega)).below hbl, fun _ => ⟨rfl, Or.inr ⟨W'.heap.size, 0, #[], rfl, (hI.U (by omega)).lt, Ob.new _ _ _, Nat.le_refl _, by unfold maxLen; omega, rfl, rfl⟩⟩, fun h => by omega, fun h => by omega, fun h => by omega⟩ (fun t ht => by cases ht; rfl)
            clear hI hbl; go_simp
          refine ⟨⟨rfl, fun t ht k' outs u _ => by cases ht; rfl, fun k' outs W' ρ hk1 hk2 hI hc hg h_fn hr ho => ?_⟩, ?_⟩
          · have hk2' : k' ≤ 3 := hk2
            have o2 := ho 2 (by kernel_rfl)
            clear hI
            refine step_pure rfl (v := .pointer (some ⟨w.heap.size, 12, none⟩)) (fun t ht => by cases ht; rfl) ?_
            go_simp
          refine ⟨⟨rfl, fun t ht k' outs u _ => by cases ht; rfl, fun k' outs W' ρ hk1 hk2 hI hc hg h_fn hr ho => ?_⟩, ?_⟩
          · have hk2' : k' ≤ 3 := hk2
            have r42 : ρ (.tmp 42) = .pointer (some ⟨w.heap.size, 12, none⟩) := hr 42 (by kernel_rfl)
            have q12 := hI.T0.thirteen.2.2.2.2.2.2.2.2.2.2.2.2
            rw [HTA.out] at q12
            clear hI
            refine step_pure rfl (v := .slice (some ⟨p, o, none⟩) t.tn t.tc) (fun t ht => by cases ht; rfl) ?_
            go_simp
          refine ⟨⟨rfl, fun t ht k' outs u _ => by cases ht; rfl, fun k' outs W' ρ hk1 hk2 hI hc hg h_fn hr ho => ?_⟩, ?_⟩
          · have hk2' : k' ≤ 3 := hk2
            have o8 := ho 8 (by kernel_rfl)
            clear hI
            refine step_pure rfl (v := .int .i64 (k : Nat)) (fun t ht => by cases ht; rfl) ?_
            go_simp
          refine ⟨⟨rfl, fun t ht k' outs u _ => by cases ht; rfl, fun k' outs W' ρ hk1 hk2 hI hc hg h_fn hr ho => ?_⟩, ?_⟩
          · have hk2' : k' ≤ 3 := hk2
            have r43 : ρ (.tmp 43) = .slice (some ⟨p, o, none⟩) t.tn t.tc := hr 43 (by kernel_rfl)
            have r44 : ρ (.tmp 44) = .int .i64 (k : Nat) := hr 44 (by kernel_rfl)
            clear hI
            refine step_pure rfl (v := .slice (some ⟨p, o, none⟩) k t.tc) (fun t ht => by cases ht; rfl) ?_
            go_simp
          refine ⟨⟨rfl, fun t ht k' outs u (h : 1 < k') => by cases ht; show upd outs k' u 1 = outs 1; unfold upd; rw [if_neg (by omega)], fun k' outs W' ρ hk1 hk2 hI hc hg h_fn hr ho => ?_⟩, ?_⟩
          · obtain rfl : k' = 1 := by have h1 : 1 ≤ k' := hk1; have h2 : k' ≤ 1 := hk2; omega
            have r41 : ρ (.tmp 41) = outs 0 := hr 41 (by kernel_rfl)
            have r45 : ρ (.tmp 45) = .slice (some ⟨p, o, none⟩) k t.tc := hr 45 (by kernel_rfl)
            have hR0 := hI.R0 rfl
            obtain ⟨v', w2', hrun, hown, hgr⟩ := joinedM (c := t.tc) hR0 (HY1.out.1) (fun i hi => by obtain ⟨c0, c1, c2⟩ := HY1.out.2 i hi; exact ⟨(hI.b.cell (p := ⟨p, _, none⟩) hpl).trans c0, (hI.b.cell (p := ⟨p, _, none⟩) hpl).trans c1, (hI.b.cell (p := ⟨p, _, none⟩) hpl).trans c2⟩) (by omega) (by omega) (hI.U (by omega)).lt
            rw [Nat.zero_add, List.nil_append] at hown
            exact step_new rfl (run_append_op rfl r41 r45 hrun) ⟨ob_grow hI.T0 hR0 hgr (by omega), below_grow hI.b hR0 hgr (by omega) hI.b.size, fun _ => ob_grow (hI.U (by omega)) hR0 hgr (by omega), fun h => by omega, fun _ => hown, fun h => by omega, fun h => by omega⟩ (fun t ht => by cases ht; rfl)
          refine ⟨⟨rfl, fun t ht k' outs u _ => by cases ht; rfl, fun k' outs W' ρ hk1 hk2 hI hc hg h_fn hr ho => ?_⟩, ?_⟩
          · have hk2' : k' ≤ 3 := hk2
            have o2 := ho 2 (by kernel_rfl)
            clear hI
            refine step_pure rfl (v := .pointer (some ⟨w.heap.size, 12, none⟩)) (fun t ht => by cases ht; rfl) ?_
            go_simp
          refine ⟨⟨rfl, fun t ht k' outs u _ => by cases ht; rfl, fun k' outs W' ρ hk1 hk2 hI hc hg h_fn hr ho => ?_⟩, ?_⟩
          · have hk2' : k' ≤ 3 := hk2
            have r47 : ρ (.tmp 47) = .pointer (some ⟨w.heap.size, 12, none⟩) := hr 47 (by kernel_rfl)
            have q12 := hI.T0.thirteen.2.2.2.2.2.2.2.2.2.2.2.2
            rw [HTA.out] at q12
            clear hI
            refine step_pure rfl (v := .slice (some ⟨p, o, none⟩) t.tn t.tc) (fun t ht => by cases ht; rfl) ?_
            go_simp
          refine ⟨⟨rfl, fun t ht k' outs u _ => by cases ht; rfl, fun k' outs W' ρ hk1 hk2 hI hc hg h_fn hr ho => ?_⟩, ?_⟩
          · have hk2' : k' ≤ 3 := hk2
            have o8 := ho 8 (by kernel_rfl)
            clear hI
            refine step_pure rfl (v := .int .i64 (k : Nat)) (fun t ht => by cases ht; rfl) ?_
            go_simp
          refine ⟨⟨rfl, fun t ht k' outs u _ => by cases ht; rfl, fun k' outs W' ρ hk1 hk2 hI hc hg h_fn hr ho => ?_⟩, ?_⟩
          · have hk2' : k' ≤ 3 := hk2
            have r49 : ρ (.tmp 49) = .int .i64 (k : Nat) := hr 49 (by kernel_rfl)
            clear hI
            refine step_pure rfl (v := .int .i64 ((k : Nat) + 1)) (fun t ht => by cases ht; rfl) ?_
            go_simp
          refine ⟨⟨rfl, fun t ht k' outs u _ => by cases ht; rfl, fun k' outs W' ρ hk1 hk2 hI hc hg h_fn hr ho => ?_⟩, ?_⟩
          · have hk2' : k' ≤ 3 := hk2
            have r48 : ρ (.tmp 48) = .slice (some ⟨p, o, none⟩) t.tn t.tc := hr 48 (by kernel_rfl)
            have r50 : ρ (.tmp 50) = .int .i64 ((k : Nat) + 1) := hr 50 (by kernel_rfl)
            clear hI
            refine step_pure rfl (v := .slice (some ⟨p, ooF t.tc k o, none⟩) (t.tn - (k + 1)) (t.tc - (k + 1))) (fun t ht => by cases ht; rfl) ?_
            (go_simp; first | done | rfl | (unfold ooF; split <;> simp_all))
          refine ⟨⟨rfl, fun t ht k' outs u (h : 2 < k') => by cases ht; show upd outs k' u 2 = outs 2; unfold upd; rw [if_neg (by omega)], fun k' outs W' ρ hk1 hk2 hI hc hg h_fn hr ho => ?_⟩, ?_⟩
          · obtain rfl : k' = 2 := by have h1 : 2 ≤ k' := hk1; have h2 : k' ≤ 2 := hk2; omega
            have r46 : ρ (.tmp 46) = outs 1 := hr 46 (by kernel_rfl)
            have r51 : ρ (.tmp 51) = .slice (some ⟨p, ooF t.tc k o, none⟩) (t.tn - (k + 1)) (t.tc - (k + 1)) := hr 51 (by kernel_rfl)
            have hR1 := hI.R1 rfl
            obtain ⟨v', w2', hrun, hown, hgr⟩ := joinedM (c := t.tc - (k + 1)) hR1 (HY2.out.1) (fun i hi => by obtain ⟨c0, c1, c2⟩ := HY2.out.2 i hi; exact ⟨(hI.b.cell (p := ⟨p, _, none⟩) hpl).trans c0, (hI.b.cell (p := ⟨p, _, none⟩) hpl).trans c1, (hI.b.cell (p := ⟨p, _, none⟩) hpl).trans c2⟩) (by omega) (by omega) (hI.U (by omega)).lt
            rw [← flat3_app, show k + (t.tn - (k + 1)) = t.tn - 1 by omega] at hown
            exact step_new rfl (run_append_op rfl r46 r51 hrun) ⟨ob_grow hI.T0 hR1 hgr (by omega), below_grow hI.b hR1 hgr (by omega) hI.b.size, fun _ => ob_grow (hI.U (by omega)) hR1 hgr (by omega), fun h => by omega, fun h => by omega, fun _ => hown, fun h => by omega⟩ (fun t ht => by cases ht; rfl)
          refine ⟨⟨rfl, fun t ht k' outs u _ => by cases ht; rfl, fun k' outs W' ρ hk1 hk2 hI hc hg h_fn hr ho => ?_⟩, ?_⟩
          · have hk2' : k' ≤ 3 := hk2
            have hk1' : 3 ≤ k' := hk1
            have o9 := ho 9 (by kernel_rfl)
            clear hI
            refine step_pure rfl (v := .pointer (some ⟨w1.heap.size, 12, none⟩)) (fun t ht => by cases ht; rfl) ?_
            go_simp
          refine ⟨⟨rfl, (fun t ht => by cases ht), fun k' outs W' ρ hk1 hk2 hI hc hg h_fn hr ho => ?_⟩, trivial⟩
          · obtain rfl : k' = 3 := by have h1 : 3 ≤ k' := hk1; have h2 : k' ≤ 3 := hk2; omega
            have r52 : ρ (.tmp 52) = outs 2 := hr 52 (by kernel_rfl)
            have r53 : ρ (.tmp 53) = .pointer (some ⟨w1.heap.size, 12, none⟩) := hr 53 (by kernel_rfl)
            have hR2 := hI.R2 rfl
            have hU := hI.U (by omega)
            obtain ⟨va, vc, hv, -, -⟩ := sl3_row hR2
            replace r52 := r52.trans hv
            obtain ⟨u0, u1, u2, u3, u4, u5, u6, u7, u8, u9, u10, u11, u12⟩ := hU.thirteen
            have e9 := hU.frozen 12
            have hT := hI.T0.other (p := ⟨w1.heap.size, 12, none⟩) (by simp only; omega) (.slice va (t.tn - 1) vc)
            have hb := hI.b.setCell (p := ⟨w1.heap.size, 12, none⟩) (Nat.le_refl _) (.slice va (t.tn - 1) vc)
            have hUs := hU.set 12 (.slice va (t.tn - 1) vc)
            have hRs := row_setb hR2 (q := w1.heap.size) (by omega) 12 (.slice va (t.tn - 1) vc)
            refine step_store rfl rfl (w' := W'.setCell ⟨w1.heap.size, 12, none⟩ (.slice va (t.tn - 1) vc)) ?_ ⟨hT, hb, fun h => by omega, fun h => by omega, fun h => by omega, fun h => by omega, fun _ => ⟨va, vc, hv, by simpa using hUs, by rw [← hv]; rw [← hv] at hRs; exact hRs⟩⟩
            clear hI hR2 hU hT hb hUs hRs; go_simp
theorem fewLaw_all (t : TkA) (hs ws : List T2) (ds : List T4) (ts : List T3) (x : Int) (w : World) (hR : TkR w t hs ws ds ts) (hcap : t.tn ≤ t.tc) (hx : 0 ≤ x ∧ x ≤ 255) :
    Calls Try.prog 3 #[.agg t.cs, .int .u8 x] w fun e w' => e = .returned (.bool true) ∧ Below w.heap.size w w' := by
  obtain ⟨n, rfl⟩ : ∃ n : Nat, x = (n : Int) := ⟨x.toNat, by omega⟩
  by_cases he : (taskS t hs ws ds ts).2.2 = 0
  · exact fewLaw_any t hs ws ds ts n w hR hcap he (by omega)
  · exact fewLaw_bad t hs ws ds ts _ w hR he
end Go.Proofs.Ytijkhpaiiieanaa

/- The law DecayPrefix. -/
import Derived.Test.YtanjkhclhcnnaaaGN
namespace Go.Proofs.Ytanjkhclhcnnaaa
open Go.RowKit Go.Shelf

theorem sl2_drop {W : World} {b n : Nat} {L : List T2} (h : Sl2 W (some ⟨b, 0, none⟩) n L) (k : Nat) : Sl2 W (some ⟨b, k * 2, none⟩) (n - k) (L.drop k) := by
  refine ⟨by rw [List.length_drop, h.len], fun hp => ?_⟩
  obtain ⟨b', o, e, hb, hc⟩ := h.at_ (by omega)
  cases e
  refine ⟨b, k * 2, rfl, hb, fun i hi => ?_⟩
  obtain ⟨c0, c1⟩ := hc (k + i) (by omega)
  rw [show (L.drop k).getD i (0, 0) = L.getD (k + i) (0, 0) by simp [List.getD], show k * 2 + i * 2 = 0 + (k + i) * 2 by omega]
  exact ⟨c0, c1⟩
theorem sl2_take {W : World} {b n : Nat} {L : List T2} (h : Sl2 W (some ⟨b, 0, none⟩) n L) {k : Nat} (hk : k ≤ n) : Sl2 W (some ⟨b, 0, none⟩) k (L.take k) := by
  refine ⟨by rw [List.length_take, h.len]; omega, fun hp => ?_⟩
  obtain ⟨b', o, e, hb, hc⟩ := h.at_ (by omega)
  cases e
  refine ⟨b, 0, rfl, hb, fun i hi => ?_⟩
  rw [show (L.take k).getD i (0, 0) = L.getD i (0, 0) by simp [List.getD, List.getElem?_take_of_lt hi]]
  exact hc i (by omega)
theorem sl4_take {W : World} {a : Option Addr} {n : Nat} {L : List T4} (h : Sl4 W a n L) {k : Nat} (hk : k ≤ n) : Sl4 W a k (L.take k) := by
  refine ⟨by rw [List.length_take, h.len]; omega, fun hp => ?_⟩
  obtain ⟨b, o, e, hb, hc⟩ := h.at_ (by omega)
  refine ⟨b, o, e, hb, fun i hi => ?_⟩
  rw [show (L.take k).getD i (0, 0, 0, 0) = L.getD i (0, 0, 0, 0) by simp [List.getD, List.getElem?_take_of_lt hi]]
  exact hc i (by omega)

set_option maxRecDepth 100000 in
set_option maxHeartbeats 4000000 in
theorem prefLaw_bad (t : TkA) (hs ws : List T2) (ds : List T4) (ts : List T3) (x : Int) (w : World) (hR : TkR w t hs ws ds ts) (he : (taskS t hs ws ds ts).2.2 ≠ 0) :
    Calls Try.prog 14 #[.agg t.cs, .int .u16 x] w fun e w' => e = .returned (.bool true) ∧ Below w.heap.size w w' := by
  obtain ⟨w0, hw0⟩ : ∃ w0, (w).alloc (.cells t.cs 31) = w0 := ⟨_, rfl⟩
  have hb0 : Below w.heap.size w w0 := by rw [← hw0]; exact B_alloc (Below.refl _ _) _
  have o0 : Ob w0 (w.heap.size) 31 t.cs := by rw [← hw0]; exact Ob.new (w) t.cs 31
  have H2 := fun W (h : Below w.heap.size w W) => levels_bad t hs ws ds ts W (hR.below h) he
  have H3 := fun W (h : Below w.heap.size w W) => refCheckTask_any t hs ws ds ts W (hR.below h)
  have HA := Lib.hid awake_any
  generalize taskS t hs ws ds ts = tr at H2 H3 he
  obtain ⟨c1, c2, c3⟩ := tr
  simp only [tri] at H2 H3 he
  replace H2 := Lib.hid H2
  replace H3 := Lib.hid H3
  have hq : (c3 != 0) = true := by simpa using he
  obtain ⟨q0, q1, q2, q3, q4, q5, q6, q7, q8, q9, q10, q11, q12⟩ := o0.task
  replace o0 := Lib.hid o0
  replace hb0 := Lib.hid hb0
  replace hw0 := Lib.hid hw0
  clear hR he
  go_enter Try.func14, Try.ntmps14
  go_wp2_with fail
  rw [hw0.out]
  refine (H2.out w0 hb0.out).mono ?_
  rintro e w1 ⟨rfl, hb1⟩
  have hw1 := Lib.hid (B_trans hb0.out hb1)
  clear q0 q1 q2 q3 q4 q5 q6 q7 q8 q9 q10 q11 q12
  obtain ⟨q0, q1, q2, q3, q4, q5, q6, q7, q8, q9, q10, q11, q12⟩ := (o0.out.below hb1).task
  clear hb1
  go_wp2_with fail
  refine (H3.out w1 hw1.out).mono ?_
  rintro e w2 ⟨rfl, hb2⟩
  have hw2 := Lib.hid (B_trans hw1.out hb2)
  clear q0 q1 q2 q3 q4 q5 q6 q7 q8 q9 q10 q11 q12 hb2
  go_wp2_with fail
  refine (HA.out _).mono ?_
  rintro e w4 ⟨rfl, hb4⟩
  have hw4 := Lib.hid (B_trans hw2.out hb4)
  clear hb4
  go_wp2
  refine bodyPost_ret (v := .bool true) (by simp [results, Try.results14, go_sem]) rfl ⟨rfl, hw4.out⟩

set_option maxRecDepth 100000 in
set_option maxHeartbeats 16000000 in
theorem prefLaw_any (t : TkA) (hs ws : List T2) (ds : List T4) (ts : List T3) (x : Nat) (w : World) (hR : TkR w t hs ws ds ts) (hcap : t.dn ≤ t.dc) (he : (taskS t hs ws ds ts).2.2 = 0) (hx : x ≤ 65535) :
    Calls Try.prog 14 #[.agg t.cs, .int .u16 (x : Int)] w fun e w' => e = .returned (.bool true) ∧ Below w.heap.size w w' := by
  obtain ⟨w0, hw0⟩ : ∃ w0, (w).alloc (.cells t.cs 31) = w0 := ⟨_, rfl⟩
  have hb0 : Below w.heap.size w w0 := by rw [← hw0]; exact B_alloc (Below.refl _ _) _
  have o0 : Ob w0 (w.heap.size) 31 t.cs := by rw [← hw0]; exact Ob.new (w) t.cs 31
  have ok := TaskOK.of he
  have hdl := hR.d.len
  have hdn := ok.dn
  have htn := ok.tn
  have hfirst := ok.first
  obtain ⟨k, hk⟩ : ∃ k, x % (t.dn + 1) = k := ⟨_, rfl⟩
  have hkd : k ≤ t.dn := by have := Nat.mod_lt x (show 0 < t.dn + 1 by omega); omega
  have hmod : (x : Int) % ((t.dn : Int) + 1) = (k : Int) := by rw [← hk]; push_cast; rfl
  have hmod2 : Int.tmod (x : Int) ((t.dn : Int) + 1) = (k : Int) := by rw [Int.tmod_eq_emod_of_nonneg (by omega)]; exact hmod
  have PA := fun ua uc => pref_all (ts := ts) ok hdl hkd ua uc
  have OKC := fun ua uc => (ok.cut (ts := ts) hkd ua uc).zero
  have HCUT := fun W (h : Below w.heap.size w W) => cut_any t hs ws ds ts k W (hR.below h) hkd hcap hdn htn ⟨hfirst.1, by omega⟩
  have hNle := cut_len t ts k t.tn
  have hNe : (cutL t ts k t.tn).length = (keptL t ts k t.tn).length := by unfold cutL; rw [List.length_map]
  rw [hNe] at hNle
  have H2 := fun W (h : Below w.heap.size w W) => levels4_any t hs ws ds ts W (hR.below h) he
  have H3 := fun W (h : Below w.heap.size w W) => refCheckTask_any t hs ws ds ts W (hR.below h)
  rw [show tri (taskS t hs ws ds ts) = .tuple #[.int .i64 (taskS t hs ws ds ts).1, .int .i64 (taskS t hs ws ds ts).2.1, .int .i64 (taskS t hs ws ds ts).2.2] from rfl, he] at H3
  generalize (taskS t hs ws ds ts).1 = c1 at H3
  generalize (taskS t hs ws ds ts).2.1 = c2 at H3
  have hVl := levT_len (t := t) (hs := hs) (ws := ws) (ds := ds) (ts := ts) he hdl
  generalize levT t hs ws ds ts = V at H2 PA hVl
  generalize (reachT t hs ws ds ts).struck = S at H2
  obtain ⟨N, hN⟩ : ∃ N, (keptL t ts k t.tn).length = N := ⟨_, rfl⟩
  obtain ⟨C, hC⟩ : ∃ C, cutL t ts k t.tn = C := ⟨_, rfl⟩
  rw [hN] at PA OKC HCUT hNle
  rw [hC] at PA OKC HCUT
  have HA := Lib.hid awake_any
  have PAA := Lib.hid PA
  have OKCC := Lib.hid OKC
  have OK := Lib.hid ok
  replace H2 := Lib.hid H2
  replace H3 := Lib.hid H3
  replace HCUT := Lib.hid HCUT
  obtain ⟨q0, q1, q2, q3, q4, q5, q6, q7, q8, q9, q10, q11, q12⟩ := o0.task
  replace o0 := Lib.hid o0
  replace hb0 := Lib.hid hb0
  replace hw0 := Lib.hid hw0
  have u1 : IntKind.i64.wrap ((t.dn : Int) + 1) = (t.dn : Int) + 1 := IntWalk.i64_in _ (by omega)
  have u2 : IntKind.i64.wrap (x : Int) = (x : Int) := IntWalk.i64_in _ (by omega)
  have u3 : IntKind.i64.wrap ((k : Int) + 1) = (k : Int) + 1 := IntWalk.i64_in _ (by omega)
  have u4 : IntKind.i64.wrap (t.first + (k : Int)) = t.first + (k : Int) := IntWalk.i64_in _ (by omega)
  have u5 : IntKind.i64.wrap (k : Int) = (k : Int) := IntWalk.i64_in _ (by omega)
  have a3 : ((t.dn + 1 : Nat) : Int) = (t.dn : Int) + 1 := by push_cast; rfl
  have a4 : ((k + 1 : Nat) : Int) = (k : Int) + 1 := by push_cast; rfl
  have a5 : ¬ (t.dn : Int) + 1 = 0 := by omega
  clear he ok PA OKC hk hNe hN hC
  go_enter Try.func14, Try.ntmps14
  go_wp2_with fail
  rw [hw0.out]
  refine (H2.out w0 hb0.out).mono ?_
  rintro e w1 ⟨lb, lc, sa, sc, rfl, hlc, hLs, hb1⟩
  have hw1 := Lib.hid (B_trans hb0.out hb1)
  have O1 := Lib.hid (And.intro (o0.out.below hb1) hLs)
  clear q0 q1 q2 q3 q4 q5 q6 q7 q8 q9 q10 q11 q12 hLs
  obtain ⟨q0, q1, q2, q3, q4, q5, q6, q7, q8, q9, q10, q11, q12⟩ := (o0.out.below hb1).task
  clear hb1
  go_wp2_with fail
  refine (H3.out w1 hw1.out).mono ?_
  rintro e w2 ⟨rfl, hb2⟩
  have hw2 := Lib.hid (B_trans hw1.out hb2)
  have O2 := Lib.hid (And.intro (O1.out.1.below hb2) (O1.out.2.below hb2))
  clear q0 q1 q2 q3 q4 q5 q6 q7 q8 q9 q10 q11 q12 hb2 O1
  obtain ⟨q0, q1, q2, q3, q4, q5, q6, q7, q8, q9, q10, q11, q12⟩ := O2.out.1.task
  go_upto_region 5 with fail
  go_cut [11] (fun v wx => v = .int .i64 (k : Int) ∧ wx = w2)
  case first =>
    go_wp2_with fail
    go_meet
    exact ⟨by first | rfl | rw [hmod] | rw [hmod2], rfl⟩
  case rest =>
    obtain ⟨rfl, hwc⟩ := hcut
    rw [hwc]
    clear hwc
    go_wp2_with fail
    refine (HCUT.out w2 hw2.out).mono ?_
    rintro e w3 ⟨v, rfl, hrow, hb3⟩
    obtain ⟨ua, uc, rfl, hUt, hun⟩ := sl3_row hrow
    obtain ⟨w4, hw4⟩ : ∃ w4, w3.alloc (.cells #[(.slice t.r.ha t.r.hn t.r.hc), (.slice t.r.wa t.r.wn t.r.wc), (.int .i64 t.r.own), (.int .i64 t.r.feed), (.int .i64 t.r.g0), (.int .i64 t.r.g1), (.int .i64 t.r.g2), (.int .i64 t.r.lost), (.int .i64 t.first), (.slice t.da k t.dc), (.int .i64 t.lo), (.int .i64 t.hi), (.slice ua N uc)] 31) = w4 := ⟨_, rfl⟩
    have hb34 : Below w3.heap.size w3 w4 := by rw [← hw4]; exact B_alloc (Below.refl _ _) _
    have oU : Ob w4 w3.heap.size 31 #[(.slice t.r.ha t.r.hn t.r.hc), (.slice t.r.wa t.r.wn t.r.wc), (.int .i64 t.r.own), (.int .i64 t.r.feed), (.int .i64 t.r.g0), (.int .i64 t.r.g1), (.int .i64 t.r.g2), (.int .i64 t.r.lost), (.int .i64 t.first), (.slice t.da k t.dc), (.int .i64 t.lo), (.int .i64 t.hi), (.slice ua N uc)] := by rw [← hw4]; exact Ob.new _ _ _
    have hb24 : Below w2.heap.size w2 w4 := B_trans hb3 hb34
    have hR4 := hR.below (B_trans hw2.out hb24)
    have P1 := PAA.out ua uc
    have hRu : TkR w4 (t.cut_ k ua N uc) hs ws (ds.take k) C := ⟨hR4.r, by have := hR4.dn; show k ≤ _; omega, by show N ≤ _; omega, sl4_take hR4.d hkd, hUt.below hb34⟩
    have HLU' := fun W (h : Below w4.heap.size w4 W) => levels4_any (t.cut_ k ua N uc) hs ws (ds.take k) C W (hRu.below h) (OKCC.out ua uc)
    generalize (reachT (t.cut_ k ua N uc) hs ws (ds.take k) C).struck = S2 at HLU'
    generalize levT (t.cut_ k ua N uc) hs ws (ds.take k) C = VB at HLU' P1
    obtain ⟨p1, p2, p3⟩ := P1
    have HLU := Lib.hid (show ∀ W, Below w4.heap.size w4 W → Calls Try.prog 28 #[.agg #[(.slice t.r.ha t.r.hn t.r.hc), (.slice t.r.wa t.r.wn t.r.wc), (.int .i64 t.r.own), (.int .i64 t.r.feed), (.int .i64 t.r.g0), (.int .i64 t.r.g1), (.int .i64 t.r.g2), (.int .i64 t.r.lost), (.int .i64 t.first), (.slice t.da k t.dc), (.int .i64 t.lo), (.int .i64 t.hi), (.slice ua N uc)]] W fun e w' => ∃ lb lc sa sc, e = .returned (.tuple #[.slice (some ⟨lb, 0, none⟩) (k + 1) lc, .slice sa S2.length sc, .int .i64 0]) ∧ k + 1 ≤ lc ∧ Sl2 w' (some ⟨lb, 0, none⟩) (k + 1) VB ∧ Below W.heap.size W w' from HLU')
    have PS := Lib.hid p1
    have PC := Lib.hid p2
    have PE := Lib.hid p3
    have B4 := Lib.hid (B_trans hw2.out hb24)
    have O4 := Lib.hid (And.intro (O2.out.1.below hb24) (And.intro (O2.out.2.below hb24) oU))
    have W4 := Lib.hid hw4
    clear q0 q1 q2 q3 q4 q5 q6 q7 q8 q9 q10 q11 q12 hrow hUt hun hw4 hb34 oU hb24 hR4 hRu HLU' p1 p2 p3 hb3
    go_upto_region 7 with fail
    rw [W4.out]
    obtain ⟨s0, s1, s2, s3, s4, s5, s6, s7, s8, s9, s10, s11, s12⟩ := O4.out.2.2.thirteen
    go_wp2_with fail
    refine (HLU.out w4 (Below.refl _ _)).mono ?_
    rintro e w5 ⟨rb, rc, sb, sd, rfl, hrc, hL2, hb5⟩
    have B5 := Lib.hid (B_trans B4.out hb5)
    have O5 := Lib.hid (And.intro (O4.out.1.below hb5) (And.intro (O4.out.2.1.below hb5) (And.intro (O4.out.2.2.below hb5) hL2)))
    clear s0 s1 s2 s3 s4 s5 s6 s7 s8 s9 s10 s11 s12 hb5 hL2
    go_wp2_with fail
    go_loopg [15] (k + 1) (fun gk iv wr => ∃ j : Nat, gk = k + 1 - j ∧ iv = .int .i64 (j : Int) ∧ j ≤ k + 1 ∧ Below w5.heap.size w5 wr)
    case atStart => exact ⟨0, rfl, rfl, Nat.zero_le _, Below.refl _ _⟩
    case round =>
      obtain ⟨j, rfl, rfl, hj, hbr⟩ := hrel
      by_cases hlt : j < k + 1
      · obtain ⟨ab, ao, ea, hab, hac⟩ := (O5.out.2.1.below hbr).at_ (by omega)
        cases ea
        obtain ⟨bb, bo, eb, hbb, hbc⟩ := (O5.out.2.2.2.below hbr).at_ (by omega)
        cases eb
        obtain ⟨z0, z1⟩ := hac j (by omega)
        obtain ⟨z2, z3⟩ := hbc j hlt
        obtain ⟨l1, l2⟩ := PS.out j (by omega)
        generalize V.getD j (0, 0) = p at z0 z1 l1 l2
        generalize VB.getD j (0, 0) = q at z2 z3 l1 l2
        have l3 : ¬ p.1 < q.1 := by omega
        have l4 : ¬ q.2 < p.2 := by omega
        have j1 : (0 : Int) ≤ j := by omega
        have j2 : (j : Int) < ((t.dn + 1 : Nat) : Int) := by omega
        have j3 : (j : Int) < (t.dn : Int) + 1 := by omega
        have j4 : (j : Int) < ((k + 1 : Nat) : Int) := by omega
        have j5 : (j : Int) < (k : Int) + 1 := by omega
        have j6 : (j : Int) ≤ k := by omega
        simp only [Nat.zero_add] at z0 z1 z2 z3
        have BR := Lib.hid hbr
        clear hac hbc hbr l1 l2
        go_wp2_with fail
        go_quiet (fail)
        go_wp2_with fail
        go_roundg (k + 1 - (j + 1))
        case measure => omega
        case rel => exact ⟨j + 1, rfl, by push_cast; rfl, by omega, below_drewN BR.out _⟩
      · obtain rfl : j = k + 1 := by omega
        have h4 : ¬ ((k + 1 : Nat) : Int) ≤ (k : Int) := by omega
        have h5 : ¬ (k : Int) + 1 ≤ (k : Int) := by omega
        obtain ⟨q0, q1, q2, q3, q4, q5, q6, q7, q8, q9, q10, q11, q12⟩ := (O5.out.1.below hbr).task
        obtain ⟨s0, s1, s2, s3, s4, s5, s6, s7, s8, s9, s10, s11, s12⟩ := (O5.out.2.2.1.below hbr).thirteen
        have BR := Lib.hid (B_trans B5.out hbr)
        by_cases hNt : N = t.tn
        · have h6 : (N : Int) = (t.tn : Int) := by omega
          obtain ⟨e7, e8⟩ := PE.out hNt
          have hp := PC.out
          obtain ⟨p, hpv⟩ : ∃ p, VB.getD k (0, 0) = p := ⟨_, rfl⟩
          rw [hpv] at e8 hp
          have okr := OK.out.rest hkd hp
          obtain ⟨w6, rfl⟩ : ∃ w6, w6 = wr := ⟨wr, rfl⟩
          obtain ⟨w7, hw7⟩ : ∃ w7, w6.alloc (.cells #[(.slice t.r.ha t.r.hn t.r.hc), (.slice t.r.wa t.r.wn t.r.wc), (.int .i64 t.r.own), (.int .i64 t.r.feed), (.int .i64 t.r.g0), (.int .i64 t.r.g1), (.int .i64 t.r.g2), (.int .i64 t.r.lost), (.int .i64 t.first), (.slice t.da t.dn t.dc), (.int .i64 t.lo), (.int .i64 t.hi), (.slice t.ta t.tn t.tc)] 31) = w7 := ⟨_, rfl⟩
          have b7 : Below w6.heap.size w6 w7 := by rw [← hw7]; exact B_alloc (Below.refl _ _) _
          have o7 : Ob w7 w6.heap.size 31 #[(.slice t.r.ha t.r.hn t.r.hc), (.slice t.r.wa t.r.wn t.r.wc), (.int .i64 t.r.own), (.int .i64 t.r.feed), (.int .i64 t.r.g0), (.int .i64 t.r.g1), (.int .i64 t.r.g2), (.int .i64 t.r.lost), (.int .i64 t.first), (.slice t.da t.dn t.dc), (.int .i64 t.lo), (.int .i64 t.hi), (.slice t.ta t.tn t.tc)] := by rw [← hw7]; exact Ob.new _ _ _
          have OL := Lib.hid (And.intro (O5.out.2.1.below hbr) (O5.out.2.2.2.below hbr))
          obtain ⟨bb, bo, eb, hbb, hbc⟩ := OL.out.2.at_ (by omega)
          cases eb
          obtain ⟨z0, z1⟩ := hbc k (by omega)
          rw [hpv] at z0 z1
          simp only [Nat.zero_add] at z0 z1
          have OT := O5.out.1.below hbr
          have HT := Lib.hid (fun (W' : World) (hh : Below w6.heap.size w6 W') => (show (W'.cell? ⟨w.heap.size, 0, none⟩ = some (.slice t.r.ha t.r.hn t.r.hc) ∧ W'.cell? ⟨w.heap.size, 1, none⟩ = some (.slice t.r.wa t.r.wn t.r.wc) ∧ W'.cell? ⟨w.heap.size, 2, none⟩ = some (.int .i64 t.r.own) ∧ W'.cell? ⟨w.heap.size, 3, none⟩ = some (.int .i64 t.r.feed) ∧ W'.cell? ⟨w.heap.size, 4, none⟩ = some (.int .i64 t.r.g0) ∧ W'.cell? ⟨w.heap.size, 5, none⟩ = some (.int .i64 t.r.g1) ∧ W'.cell? ⟨w.heap.size, 6, none⟩ = some (.int .i64 t.r.g2) ∧ W'.cell? ⟨w.heap.size, 7, none⟩ = some (.int .i64 t.r.lost) ∧ W'.cell? ⟨w.heap.size, 8, none⟩ = some (.int .i64 t.first) ∧ W'.cell? ⟨w.heap.size, 9, none⟩ = some (.slice t.da t.dn t.dc) ∧ W'.cell? ⟨w.heap.size, 10, none⟩ = some (.int .i64 t.lo) ∧ W'.cell? ⟨w.heap.size, 11, none⟩ = some (.int .i64 t.hi) ∧ W'.cell? ⟨w.heap.size, 12, none⟩ = some (.slice t.ta t.tn t.tc)) ∧ W'.cell? ⟨rb, k * 2, none⟩ = some (.int .i64 p.1) ∧ W'.cell? ⟨rb, k * 2 + 1, none⟩ = some (.int .i64 p.2) from ⟨(OT.below hh).task, (hh.cell (p := ⟨rb, _, none⟩) hbb).trans z0, (hh.cell (p := ⟨rb, _, none⟩) hbb).trans z1⟩))
          have gT := OT.lt
          have W7 := Lib.hid hw7
          have B7 := Lib.hid b7
          have O7 := Lib.hid o7
          have E7 := Lib.hid e7
          have E8 := Lib.hid e8
          have OKR := Lib.hid okr
          have k1 : (0 : Int) ≤ k := by omega
          have k2 : (k : Int) ≤ t.dn := by omega
          have k3 : (k : Int) < ((k + 1 : Nat) : Int) := by omega
          have k4 : (k : Int) < (k : Int) + 1 := by omega
          have k5 : (k : Int) ≤ ((t.dn + 1 : Nat) : Int) := by omega
          have k6 : (k : Int) ≤ (t.dn : Int) + 1 := by omega
          have k7 : (0 : Int) ≤ (k : Int) + 1 := by omega
          have k8 : (k : Int) + 1 ≤ lc := by omega
          have k9 : ((k : Int) + 1).toNat = k + 1 := by omega
          have hlk : ¬ lc = k := by omega
          clear hbr hw7 b7 o7 OT e7 e8 okr hp hpv hbc z0 z1
          go_upto_region 18 with fail
          rw [W7.out]
          clear q0 q1 q2 q3 q4 q5 q6 q7 q8 q9 q10 q11 q12 s0 s1 s2 s3 s4 s5 s6 s7 s8 s9 s10 s11 s12
          have o9 := Lib.hid (O7.out.drew)
          go_cut [] (fun wx => Ob wx w6.heap.size 31 #[(.slice t.r.ha t.r.hn t.r.hc), (.slice t.r.wa t.r.wn t.r.wc), (.int .i64 t.r.own), (.int .i64 t.r.feed), (.int .i64 t.r.g0), (.int .i64 t.r.g1), (.int .i64 t.r.g2), (.int .i64 t.r.lost), (.int .i64 (t.first + (k : Int))), (.slice (t.lateA k) (t.dn - k) (t.dc - k)), (.int .i64 p.1), (.int .i64 p.2), (.slice none 0 0)] ∧ Below w6.heap.size w6 wx)
          case first =>
            refine wp_region_held' (S := fun W' => Below w6.heap.size w6 W') (by kernel_rfl) ((B7.out).drew) (fun hHeld => ?_)
            generalize w7.drew = wd at o9 hHeld ⊢
            refine wpAnyH_take2 (i := 0) (t := 119) (v := ?_) rfl rfl (by kernel_rfl) (by kernel_rfl) (by kernel_rfl) (fun _ _ _ h => Only.not_panic h) (Or.inl ⟨by kernel_rfl, fun W hW => ?_⟩) (by assumption) ?_
            rotate_left
            · have hW2 := hW
              obtain ⟨⟨f0, f1, f2, f3, f4, f5, f6, f7, f8, f9, f10, f11, f12⟩, y0, y1⟩ := HT.out W hW2
              clear hW hW2
              go_simp
              try with_reducible rfl
            try simp only [Act.put, List.setIfInBounds_toArray, List.set_cons_zero, List.set_cons_succ]
            refine wpAnyH_take2 (i := 1) (t := 120) (v := ?_) rfl rfl (by kernel_rfl) (by kernel_rfl) (by kernel_rfl) (fun _ _ _ h => Only.not_panic h) (Or.inl ⟨by kernel_rfl, fun W hW => ?_⟩) (by assumption) ?_
            rotate_left
            · have hW2 := hW
              obtain ⟨⟨f0, f1, f2, f3, f4, f5, f6, f7, f8, f9, f10, f11, f12⟩, y0, y1⟩ := HT.out W hW2
              clear hW hW2
              go_simp
              try with_reducible rfl
            try simp only [Act.put, List.setIfInBounds_toArray, List.set_cons_zero, List.set_cons_succ]
            refine wpAnyH_take2 (i := 2) (t := 121) (v := ?_) rfl rfl (by kernel_rfl) (by kernel_rfl) (by kernel_rfl) (fun _ _ _ h => Only.not_panic h) (Or.inl ⟨by kernel_rfl, fun W hW => ?_⟩) (by assumption) ?_
            rotate_left
            · have hW2 := hW
              obtain ⟨⟨f0, f1, f2, f3, f4, f5, f6, f7, f8, f9, f10, f11, f12⟩, y0, y1⟩ := HT.out W hW2
              clear hW hW2
              go_simp
              try with_reducible rfl
            try simp only [Act.put, List.setIfInBounds_toArray, List.set_cons_zero, List.set_cons_succ]
            refine wpAnyH_take2 (i := 3) (t := 122) (v := .int .i64 (t.first + (k : Int))) rfl rfl (by kernel_rfl) (by kernel_rfl) (by kernel_rfl) (fun _ _ _ h => Only.not_panic h) (Or.inl ⟨by kernel_rfl, fun W hW => ?_⟩) (by assumption) ?_
            · have hW2 := hW
              obtain ⟨⟨f0, f1, f2, f3, f4, f5, f6, f7, f8, f9, f10, f11, f12⟩, y0, y1⟩ := HT.out W hW2
              clear hW hW2
              go_simp
              try with_reducible rfl
            try simp only [Act.put, List.setIfInBounds_toArray, List.set_cons_zero, List.set_cons_succ]
            refine wpAnyH_take2 (i := 4) (t := 123) (v := ?_) rfl rfl (by kernel_rfl) (by kernel_rfl) (by kernel_rfl) (fun _ _ _ h => Only.not_panic h) (Or.inl ⟨by kernel_rfl, fun W hW => ?_⟩) (by assumption) ?_
            rotate_left
            · have hW2 := hW
              obtain ⟨⟨f0, f1, f2, f3, f4, f5, f6, f7, f8, f9, f10, f11, f12⟩, y0, y1⟩ := HT.out W hW2
              clear hW hW2
              go_simp
              try with_reducible rfl
            try simp only [Act.put, List.setIfInBounds_toArray, List.set_cons_zero, List.set_cons_succ]
            refine wpAnyH_take2 (i := 5) (t := 124) (v := ?_) rfl rfl (by kernel_rfl) (by kernel_rfl) (by kernel_rfl) (fun _ _ _ h => Only.not_panic h) (Or.inl ⟨by kernel_rfl, fun W hW => ?_⟩) (by assumption) ?_
            rotate_left
            · have hW2 := hW
              obtain ⟨⟨f0, f1, f2, f3, f4, f5, f6, f7, f8, f9, f10, f11, f12⟩, y0, y1⟩ := HT.out W hW2
              clear hW hW2
              go_simp
              try with_reducible rfl
            try simp only [Act.put, List.setIfInBounds_toArray, List.set_cons_zero, List.set_cons_succ]
            refine wpAnyH_take2 (i := 6) (t := 125) (v := ?_) rfl rfl (by kernel_rfl) (by kernel_rfl) (by kernel_rfl) (fun _ _ _ h => Only.not_panic h) (Or.inl ⟨by kernel_rfl, fun W hW => ?_⟩) (by assumption) ?_
            rotate_left
            · have hW2 := hW
              obtain ⟨⟨f0, f1, f2, f3, f4, f5, f6, f7, f8, f9, f10, f11, f12⟩, y0, y1⟩ := HT.out W hW2
              clear hW hW2
              go_simp
              try with_reducible rfl
            try simp only [Act.put, List.setIfInBounds_toArray, List.set_cons_zero, List.set_cons_succ]
            refine wpAnyH_take2 (i := 7) (t := 126) (v := .slice (t.lateA k) (t.dn - k) (t.dc - k)) rfl rfl (by kernel_rfl) (by kernel_rfl) (by kernel_rfl) (fun _ _ _ h => Only.not_panic h) (Or.inl ⟨by kernel_rfl, fun W hW => ?_⟩) (by assumption) ?_
            · have hW2 := hW
              obtain ⟨⟨f0, f1, f2, f3, f4, f5, f6, f7, f8, f9, f10, f11, f12⟩, y0, y1⟩ := HT.out W hW2
              clear hW hW2
              go_simp
              rfl
            try simp only [Act.put, List.setIfInBounds_toArray, List.set_cons_zero, List.set_cons_succ]
            refine wpAnyH_take2 (i := 8) (t := 127) (v := ?_) rfl rfl (by kernel_rfl) (by kernel_rfl) (by kernel_rfl) (fun _ _ _ h => Only.not_panic h) (Or.inl ⟨by kernel_rfl, fun W hW => ?_⟩) (by assumption) ?_
            rotate_left
            · have hW2 := hW
              obtain ⟨⟨f0, f1, f2, f3, f4, f5, f6, f7, f8, f9, f10, f11, f12⟩, y0, y1⟩ := HT.out W hW2
              clear hW hW2
              go_simp
              try with_reducible rfl
            try simp only [Act.put, List.setIfInBounds_toArray, List.set_cons_zero, List.set_cons_succ]
            refine wpAnyH_take2 (i := 9) (t := 128) (v := ?_) rfl rfl (by kernel_rfl) (by kernel_rfl) (by kernel_rfl) (fun _ _ _ h => Only.not_panic h) (Or.inl ⟨by kernel_rfl, fun W hW => ?_⟩) (by assumption) ?_
            rotate_left
            · have hW2 := hW
              obtain ⟨⟨f0, f1, f2, f3, f4, f5, f6, f7, f8, f9, f10, f11, f12⟩, y0, y1⟩ := HT.out W hW2
              clear hW hW2
              go_simp
              try with_reducible rfl
            try simp only [Act.put, List.setIfInBounds_toArray, List.set_cons_zero, List.set_cons_succ]
            refine wpAnyH_take2 (i := 10) (t := 129) (v := ?_) rfl rfl (by kernel_rfl) (by kernel_rfl) (by kernel_rfl) (fun _ _ _ h => Only.not_panic h) (Or.inl ⟨by kernel_rfl, fun W hW => ?_⟩) (by assumption) ?_
            rotate_left
            · have hW2 := hW
              obtain ⟨⟨f0, f1, f2, f3, f4, f5, f6, f7, f8, f9, f10, f11, f12⟩, y0, y1⟩ := HT.out W hW2
              clear hW hW2
              go_simp
              try with_reducible rfl
            try simp only [Act.put, List.setIfInBounds_toArray, List.set_cons_zero, List.set_cons_succ]
            refine wpAnyH_take2 (i := 11) (t := 130) (v := ?_) rfl rfl (by kernel_rfl) (by kernel_rfl) (by kernel_rfl) (fun _ _ _ h => Only.not_panic h) (Or.inl ⟨by kernel_rfl, fun W hW => ?_⟩) (by assumption) ?_
            rotate_left
            · have hW2 := hW
              obtain ⟨⟨f0, f1, f2, f3, f4, f5, f6, f7, f8, f9, f10, f11, f12⟩, y0, y1⟩ := HT.out W hW2
              clear hW hW2
              go_simp
              try with_reducible rfl
            try simp only [Act.put, List.setIfInBounds_toArray, List.set_cons_zero, List.set_cons_succ]
            refine wpAnyH_take2 (i := 12) (t := 131) (v := ?_) rfl rfl (by kernel_rfl) (by kernel_rfl) (by kernel_rfl) (fun _ _ _ h => Only.not_panic h) (Or.inl ⟨by kernel_rfl, fun W hW => ?_⟩) (by assumption) ?_
            rotate_left
            · have hW2 := hW
              obtain ⟨⟨f0, f1, f2, f3, f4, f5, f6, f7, f8, f9, f10, f11, f12⟩, y0, y1⟩ := HT.out W hW2
              clear hW hW2
              go_simp
              try with_reducible rfl
            try simp only [Act.put, List.setIfInBounds_toArray, List.set_cons_zero, List.set_cons_succ]
            refine wpAnyH_ready (rs := [13]) (by kernel_rfl) (by simp) ?_
            refine AllReadyH.cons rfl (fun K hK => ?_) ?_
            · have v8 := o9.out.cell 8
              have g8 := o9.out.frozen 8
              simp only [List.getElem?_toArray, List.getElem?_cons_zero, List.getElem?_cons_succ] at v8
              have o9' := Lib.hid (show Ob ((wd).setCell ⟨w6.heap.size, 8, none⟩ (.int .i64 (t.first + (k : Int)))) w6.heap.size 31 #[(.slice t.r.ha t.r.hn t.r.hc), (.slice t.r.wa t.r.wn t.r.wc), (.int .i64 t.r.own), (.int .i64 t.r.feed), (.int .i64 t.r.g0), (.int .i64 t.r.g1), (.int .i64 t.r.g2), (.int .i64 t.r.lost), (.int .i64 (t.first + (k : Int))), (.slice t.da t.dn t.dc), (.int .i64 t.lo), (.int .i64 t.hi), (.slice t.ta t.tn t.tc)] from (o9.out).set 8 _)
              go_simp
              replace o9 := o9'
              clear o9' v8 g8
              refine hK.out _ _ ?_ (fun hHeld => ?_)
              · exact (hHeld).setCell (by first | omega | (simp only; omega) | exact Nat.le_refl _) _
              clear hK K
              try simp only [Act.put, List.setIfInBounds_toArray, List.set_cons_zero, List.set_cons_succ]
              refine wpAnyH_take2 (i := 14) (t := 132) (v := ?_) rfl rfl (by kernel_rfl) (by kernel_rfl) (by kernel_rfl) (fun _ _ _ h => Only.not_panic h) (Or.inl ⟨by kernel_rfl, fun W hW => ?_⟩) (by assumption) ?_
              rotate_left
              · have hW2 := hW
                obtain ⟨⟨f0, f1, f2, f3, f4, f5, f6, f7, f8, f9, f10, f11, f12⟩, y0, y1⟩ := HT.out W hW2
                clear hW hW2
                go_simp
                try with_reducible rfl
              try simp only [Act.put, List.setIfInBounds_toArray, List.set_cons_zero, List.set_cons_succ]
              refine wpAnyH_ready (rs := [15]) (by kernel_rfl) (by simp) ?_
              refine AllReadyH.cons rfl (fun K hK => ?_) ?_
              · have v9 := o9.out.cell 9
                have g9 := o9.out.frozen 9
                simp only [List.getElem?_toArray, List.getElem?_cons_zero, List.getElem?_cons_succ] at v9
                have o9' := Lib.hid (show Ob (((wd).setCell ⟨w6.heap.size, 8, none⟩ (.int .i64 (t.first + (k : Int)))).setCell ⟨w6.heap.size, 9, none⟩ (.slice (t.lateA k) (t.dn - k) (t.dc - k))) w6.heap.size 31 #[(.slice t.r.ha t.r.hn t.r.hc), (.slice t.r.wa t.r.wn t.r.wc), (.int .i64 t.r.own), (.int .i64 t.r.feed), (.int .i64 t.r.g0), (.int .i64 t.r.g1), (.int .i64 t.r.g2), (.int .i64 t.r.lost), (.int .i64 (t.first + (k : Int))), (.slice (t.lateA k) (t.dn - k) (t.dc - k)), (.int .i64 t.lo), (.int .i64 t.hi), (.slice t.ta t.tn t.tc)] from (o9.out).set 9 _)
                go_simp
                replace o9 := o9'
                clear o9' v9 g9
                refine hK.out _ _ ?_ (fun hHeld => ?_)
                · exact (hHeld).setCell (by first | omega | (simp only; omega) | exact Nat.le_refl _) _
                clear hK K
                try simp only [Act.put, List.setIfInBounds_toArray, List.set_cons_zero, List.set_cons_succ]
                refine wpAnyH_take2 (i := 16) (t := 133) (v := ?_) rfl rfl (by kernel_rfl) (by kernel_rfl) (by kernel_rfl) (fun _ _ _ h => Only.not_panic h) (Or.inl ⟨by kernel_rfl, fun W hW => ?_⟩) (by assumption) ?_
                rotate_left
                · have hW2 := hW
                  obtain ⟨⟨f0, f1, f2, f3, f4, f5, f6, f7, f8, f9, f10, f11, f12⟩, y0, y1⟩ := HT.out W hW2
                  clear hW hW2
                  go_simp
                  try with_reducible rfl
                try simp only [Act.put, List.setIfInBounds_toArray, List.set_cons_zero, List.set_cons_succ]
                refine wpAnyH_ready (rs := [17]) (by kernel_rfl) (by simp) ?_
                refine AllReadyH.cons rfl (fun K hK => ?_) ?_
                · have v10 := o9.out.cell 10
                  have g10 := o9.out.frozen 10
                  have v11 := o9.out.cell 11
                  have g11 := o9.out.frozen 11
                  simp only [List.getElem?_toArray, List.getElem?_cons_zero, List.getElem?_cons_succ] at v10 v11
                  have o9' := Lib.hid (show Ob (((((wd).setCell ⟨w6.heap.size, 8, none⟩ (.int .i64 (t.first + (k : Int)))).setCell ⟨w6.heap.size, 9, none⟩ (.slice (t.lateA k) (t.dn - k) (t.dc - k))).setCell ⟨w6.heap.size, 10, none⟩ (.int .i64 p.1)).setCell ⟨w6.heap.size, 11, none⟩ (.int .i64 p.2)) w6.heap.size 31 #[(.slice t.r.ha t.r.hn t.r.hc), (.slice t.r.wa t.r.wn t.r.wc), (.int .i64 t.r.own), (.int .i64 t.r.feed), (.int .i64 t.r.g0), (.int .i64 t.r.g1), (.int .i64 t.r.g2), (.int .i64 t.r.lost), (.int .i64 (t.first + (k : Int))), (.slice (t.lateA k) (t.dn - k) (t.dc - k)), (.int .i64 p.1), (.int .i64 p.2), (.slice t.ta t.tn t.tc)] from ((o9.out).set 10 _).set 11 _)
                  go_simp
                  replace o9 := o9'
                  clear o9' v10 g10 v11 g11
                  refine hK.out _ _ ?_ (fun hHeld => ?_)
                  · exact ((hHeld).setCell (by first | omega | (simp only; omega) | exact Nat.le_refl _) _).setCell (by first | omega | (simp only; omega) | exact Nat.le_refl _) _
                  clear hK K
                  try simp only [Act.put, List.setIfInBounds_toArray, List.set_cons_zero, List.set_cons_succ]
                  refine wpAnyH_take2 (i := 18) (t := 134) (v := ?_) rfl rfl (by kernel_rfl) (by kernel_rfl) (by kernel_rfl) (fun _ _ _ h => Only.not_panic h) (Or.inl ⟨by kernel_rfl, fun W hW => ?_⟩) (by assumption) ?_
                  rotate_left
                  · have hW2 := hW
                    obtain ⟨⟨f0, f1, f2, f3, f4, f5, f6, f7, f8, f9, f10, f11, f12⟩, y0, y1⟩ := HT.out W hW2
                    clear hW hW2
                    go_simp
                    try with_reducible rfl
                  try simp only [Act.put, List.setIfInBounds_toArray, List.set_cons_zero, List.set_cons_succ]
                  refine wpAnyH_ready (rs := [19]) (by kernel_rfl) (by simp) ?_
                  refine AllReadyH.cons rfl (fun K hK => ?_) ?_
                  · have v12 := o9.out.cell 12
                    have g12 := o9.out.frozen 12
                    simp only [List.getElem?_toArray, List.getElem?_cons_zero, List.getElem?_cons_succ] at v12
                    have o9' := Lib.hid (show Ob ((((((wd).setCell ⟨w6.heap.size, 8, none⟩ (.int .i64 (t.first + (k : Int)))).setCell ⟨w6.heap.size, 9, none⟩ (.slice (t.lateA k) (t.dn - k) (t.dc - k))).setCell ⟨w6.heap.size, 10, none⟩ (.int .i64 p.1)).setCell ⟨w6.heap.size, 11, none⟩ (.int .i64 p.2)).setCell ⟨w6.heap.size, 12, none⟩ (.slice none 0 0)) w6.heap.size 31 #[(.slice t.r.ha t.r.hn t.r.hc), (.slice t.r.wa t.r.wn t.r.wc), (.int .i64 t.r.own), (.int .i64 t.r.feed), (.int .i64 t.r.g0), (.int .i64 t.r.g1), (.int .i64 t.r.g2), (.int .i64 t.r.lost), (.int .i64 (t.first + (k : Int))), (.slice (t.lateA k) (t.dn - k) (t.dc - k)), (.int .i64 p.1), (.int .i64 p.2), (.slice none 0 0)] from (o9.out).set 12 _)
                    go_simp
                    replace o9 := o9'
                    clear o9' v12 g12
                    refine hK.out _ _ ?_ (fun hHeld => ?_)
                    · exact (hHeld).setCell (by first | omega | (simp only; omega) | exact Nat.le_refl _) _
                    clear hK K
                    try simp only [Act.put, List.setIfInBounds_toArray, List.set_cons_zero, List.set_cons_succ]
                    refine wpAnyH_done (by kernel_rfl) (Only.mk ?_) _
                    go_wp2_with fail
                    go_meet
                    exact ⟨o9.out, hHeld⟩
                  exact AllReadyH.nil
                exact AllReadyH.nil
              exact AllReadyH.nil
            exact AllReadyH.nil
          case rest =>
            clear HT o9
            obtain ⟨oR, hbR⟩ := hcut
            obtain ⟨wv, rfl⟩ : ∃ wv, wv = wc := ⟨wc, rfl⟩
            have BV := Lib.hid (B_trans BR.out hbR)
            obtain ⟨f0, f1, f2, f3, f4, f5, f6, f7, f8, f9, f10, f11, f12⟩ := oR.thirteen
            have hRv := hR.below BV.out
            have hRr : TkR wv (t.rest_ k p.1 p.2) hs ws (ds.drop k) [] := ⟨hRv.r, by have := hRv.dn; show t.dn - k ≤ _; omega, Nat.zero_le _, sl4_drop hRv.d hcap, ⟨rfl, fun h => absurd h (Nat.lt_irrefl 0)⟩⟩
            have HLR' := fun W (h : Below wv.heap.size wv W) => levels4_any (t.rest_ k p.1 p.2) hs ws (ds.drop k) [] W (hRr.below h) OKR.out.zero
            rw [E8.out] at HLR'
            generalize (reachT (t.rest_ k p.1 p.2) hs ws (ds.drop k) []).struck = S3 at HLR'
            have HLR := Lib.hid (show ∀ W, Below wv.heap.size wv W → Calls Try.prog 28 #[.agg #[(.slice t.r.ha t.r.hn t.r.hc), (.slice t.r.wa t.r.wn t.r.wc), (.int .i64 t.r.own), (.int .i64 t.r.feed), (.int .i64 t.r.g0), (.int .i64 t.r.g1), (.int .i64 t.r.g2), (.int .i64 t.r.lost), (.int .i64 (t.first + (k : Int))), (.slice (t.lateA k) (t.dn - k) (t.dc - k)), (.int .i64 p.1), (.int .i64 p.2), (.slice none 0 0)]] W fun e w' => ∃ lb lc sa sc, e = .returned (.tuple #[.slice (some ⟨lb, 0, none⟩) (t.dn - k + 1) lc, .slice sa S3.length sc, .int .i64 0]) ∧ t.dn - k + 1 ≤ lc ∧ Sl2 w' (some ⟨lb, 0, none⟩) (t.dn - k + 1) (V.drop k) ∧ Below W.heap.size W w' from HLR')
            have CV := Lib.hid hbR
            clear oR hbR hRv hRr HLR'
            go_wp2_with fail
            refine (HLR.out wv (Below.refl _ _)).mono ?_
            rintro e wa ⟨mb, mc, xa, xc, rfl, -, hLM, hba⟩
            have BA := Lib.hid (B_trans BV.out hba)
            have hl := OL.out.1.below (B_trans CV.out hba)
            have hr := OL.out.2.below (B_trans CV.out hba)
            rw [E7.out] at hr
            have HS1 := Lib.hid (show ∀ W, Below wa.heap.size wa W → Calls Try.prog 30 #[.slice (some ⟨mb, 0, none⟩) (t.dn - k + 1) mc, .slice (some ⟨lb, k * 2, none⟩) (t.dn + 1 - k) (lc - k)] W fun e w' => e = .returned (.bool true) ∧ Below W.heap.size W w' from fun W hh => by
              have h := spans_any (V.drop k) (V.drop k) (some ⟨mb, 0, none⟩) (some ⟨lb, k * 2, none⟩) (t.dn - k + 1) (t.dn + 1 - k) mc (lc - k) W (hLM.below hh) ((sl2_drop hl k).below hh) (by omega) (by omega)
              rw [decide_eq_true rfl] at h
              exact h)
            have HS2 := Lib.hid (show ∀ W, Below wa.heap.size wa W → Calls Try.prog 30 #[.slice (some ⟨rb, 0, none⟩) (k + 1) rc, .slice (some ⟨lb, 0, none⟩) (k + 1) lc] W fun e w' => e = .returned (.bool true) ∧ Below W.heap.size W w' from fun W hh => by
              have h := spans_any (V.take (k + 1)) (V.take (k + 1)) (some ⟨rb, 0, none⟩) (some ⟨lb, 0, none⟩) (k + 1) (k + 1) rc lc W (hr.below hh) ((sl2_take hl (by omega)).below hh) (by omega) (by omega)
              rw [decide_eq_true rfl] at h
              exact h)
            clear f0 f1 f2 f3 f4 f5 f6 f7 f8 f9 f10 f11 f12 hba hl hr hLM
            go_wp2_with fail
            refine (HS1.out wa (Below.refl _ _)).mono ?_
            rintro e wb ⟨rfl, hbb2⟩
            have BB := Lib.hid (B_trans BA.out hbb2)
            have HS2' := Lib.hid (HS2.out wb hbb2)
            clear hbb2
            go_wp2_with fail
            refine HS2'.out.mono ?_
            rintro e wd ⟨rfl, hbd⟩
            have BD := Lib.hid (B_trans BB.out hbd)
            clear hbd
            go_wp2_with fail
            refine (HA.out _).mono ?_
            rintro e wg ⟨rfl, hbg⟩
            have BG := Lib.hid (B_trans BD.out hbg)
            clear hbg
            go_wp2
            refine bodyPost_ret (v := .bool true) (by simp [results, Try.results14, go_sem]) rfl ⟨rfl, BG.out⟩
        · have h6 : ¬ (N : Int) = (t.tn : Int) := by omega
          clear hbr
          go_wp2_with fail
          refine (HA.out _).mono ?_
          rintro e wg ⟨rfl, hbg⟩
          have BG := Lib.hid (B_trans BR.out hbg)
          clear hbg
          go_wp2
          refine bodyPost_ret (v := .bool true) (by simp [results, Try.results14, go_sem]) rfl ⟨rfl, BG.out⟩
theorem prefLaw_all (t : TkA) (hs ws : List T2) (ds : List T4) (ts : List T3) (x : Int) (w : World) (hR : TkR w t hs ws ds ts) (hcap : t.dn ≤ t.dc) (hx : 0 ≤ x ∧ x ≤ 65535) :
    Calls Try.prog 14 #[.agg t.cs, .int .u16 x] w fun e w' => e = .returned (.bool true) ∧ Below w.heap.size w w' := by
  obtain ⟨n, rfl⟩ : ∃ n : Nat, x = (n : Int) := ⟨x.toNat, by omega⟩
  by_cases he : (taskS t hs ws ds ts).2.2 = 0
  · exact prefLaw_any t hs ws ds ts n w hR hcap he (by omega)
  · exact prefLaw_bad t hs ws ds ts _ w hR he
end Go.Proofs.Ytanjkhclhcnnaaa

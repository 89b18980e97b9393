/- The reference's known. -/
import Derived.Test.YtanjkhclhcnnaaaDP
import Derived.Test.YtanjkhclhcnnaaaDQ
namespace Go.Proofs.Ytanjkhclhcnnaaa
open Go.RowKit Go.Shelf

theorem takeF_all (t : TkA) (hs ws : List T2) (ds : List T4) (ts : List T3) : takeF t hs ws ds ts t.tn = (orderL ts t.tn).foldl (takeS t.r (ds.map (strS hs ws)) ts (morT t ts)) ⟨[], [], (t.lo, t.hi), 0⟩ := by
  unfold takeF
  rw [List.take_of_length_le (by rw [orderL_len]; exact Nat.le_refl _)]
theorem takeF_mem (t : TkA) (hs ws : List T2) (ds : List T4) (ts : List T3) : ∀ c, c ≤ t.tn → (∀ i ∈ (takeF t hs ws ds ts c).good, i < t.tn) ∧ (takeF t hs ws ds ts c).good.length ≤ c
  | 0, _ => ⟨fun i hi => by simp [takeF] at hi, Nat.le_refl _⟩
  | c + 1, h => by
    obtain ⟨h1, h2⟩ := takeF_mem t hs ws ds ts c (by omega)
    have hl := orderL_len ts t.tn
    have hi := orderL_lt ts t.tn ((orderL ts t.tn).getD c 0) (by
      rw [List.getD_eq_getElem?_getD, List.getElem?_eq_getElem (by omega)]
      exact List.getElem_mem _)
    rw [takeF_step t hs ws ds ts (by omega)]
    unfold takeS
    split
    · refine ⟨fun k hk => ?_, by simp; omega⟩
      rcases List.mem_append.1 hk with h3 | h3
      · exact h1 k h3
      · rw [List.mem_singleton] at h3; omega
    · exact ⟨h1, by simp only; omega⟩
structure I72 (t : TkA) (w w1 : World) (vo : Value) (out : List T2) (n J kp : T2) (tp tj gq e j : Nat) (d gg ee : Int) (k : Nat) (outs : Nat → Value) (W : World) : Prop where
  K0 : k < 3 → KN t w w1 vo out n W
  K3 : k = 3 → KN t w w1 vo out J W
  G : k < 3 → W.cell? ⟨gq, e, none⟩ = some (.int .i64 j)
  gl : gq < W.heap.size
  Y : k < 3 → W.cell? ⟨tp, tj + j * 3, none⟩ = some (.int .i64 d) ∧ W.cell? ⟨tp, tj + j * 3 + 1, none⟩ = some (.int .i64 gg) ∧ W.cell? ⟨tp, tj + j * 3 + 2, none⟩ = some (.int .i64 ee)
  yl : tp < W.heap.size
  o0 : 1 ≤ k → outs 0 = .agg #[.int .i64 kp.1, .int .i64 kp.2]
  o1 : 2 ≤ k → outs 1 = .agg #[.int .i64 J.1, .int .i64 J.2]
def V72 (t : TkA) (w : World) (gq gn gcap tp tj e j : Nat) (n : T2) (d gg ee : Int) (outs : Nat → Value) : Nat → Value
  | 54 => .agg #[.int .i64 n.1, .int .i64 n.2]
  | 55 => .pointer (some ⟨w.heap.size, 0, none⟩)
  | 56 => .agg t.r.cs
  | 57 => .pointer (some ⟨w.heap.size, 12, none⟩)
  | 58 => .slice (some ⟨tp, tj, none⟩) t.tn t.tc
  | 59 => .slice (some ⟨gq, 0, none⟩) gn gcap
  | 60 => .int .i64 e
  | 61 => .pointer (some ⟨gq, e, none⟩)
  | 62 => .int .i64 j
  | 63 => .pointer (some ⟨tp, tj + j * 3, none⟩)
  | 64 => .agg #[.int .i64 d, .int .i64 gg, .int .i64 ee]
  | 65 => outs 0
  | 66 => outs 1
  | _ => undef
def need72 : Nat → Nat := fun i => [0, 0, 0, 0, 0, 0, 0, 0, 0, 0, 0, 0, 1, 2].getD i 0
def till72 : Nat → Nat := fun i => [2, 2, 2, 2, 2, 2, 2, 2, 2, 2, 2, 0, 1, 2].getD i 0
def eff72 : Nat → Bool := fun i => [false, false, false, false, false, false, false, false, false, false, false, true, true, true].getD i false

set_option maxRecDepth 100000 in
set_option maxHeartbeats 16000000 in
theorem refKnown_any (t : TkA) (hs ws : List T2) (ds : List T4) (ts : List T3) (w : World) (hR : TkR w t hs ws ds ts) (hO : RuOK t.r hs ws) (hst : ∀ s ∈ ds.map (strS hs ws), StrOK s) (hp : CanOK (t.lo, t.hi)) (hdn : t.dn ≤ 400) (htn : t.tn ≤ 20)
    (hts : ∀ i, i < t.tn → (t.first ≤ (ts.getD i (0, 0, 0)).1 ∧ (ts.getD i (0, 0, 0)).1 ≤ t.first + t.dn) ∧ (0 ≤ (ts.getD i (0, 0, 0)).2.1 ∧ (ts.getD i (0, 0, 0)).2.1 ≤ 3) ∧ (0 ≤ (ts.getD i (0, 0, 0)).2.2 ∧ (ts.getD i (0, 0, 0)).2.2 ≤ 3)) (hfirst : 0 ≤ t.first ∧ t.first ≤ 80000 - t.dn) :
    Calls Try.prog 72 #[.agg t.cs] w fun e W' => ∃ g cap C sv, e = .returned (.tuple #[.slice (some ⟨g, 0, none⟩) (t.dn + 1) cap, sv]) ∧ w.heap.size ≤ g ∧ Ob W' g 28 C ∧ SpC C (levT t hs ws ds ts) ∧ W'.ownsRow w.heap.size 78 2 sv (reachT t hs ws ds ts).struck.length (flat2 (reachT t hs ws ds ts).struck) ∧ Below w.heap.size w W' := by
  obtain ⟨w0, hw0⟩ : ∃ w0, (w).alloc (.cells t.cs 31) = w0 := ⟨_, rfl⟩
  have hb0 : Below w.heap.size w w0 := by rw [← hw0]; exact B_alloc (Below.refl _ _) _
  have o0 : Ob w0 (w.heap.size) 31 t.cs := by rw [← hw0]; exact Ob.new (w) t.cs 31
  have hdl := hR.d.len
  obtain ⟨hstr, hkn⟩ := kn_reach (t := t) (ts := ts) hO hst hdl hp (fun i hi => by have := hts i hi; unfold morT; omega) (order_pair t ts)
  have HT := refTaken_any t hs ws ds ts w0 (hR.below hb0) hO hst hp hdn htn hts hfirst
  obtain ⟨hFm, hFl⟩ := takeF_mem t hs ws ds ts t.tn (Nat.le_refl _)
  rw [takeF_all] at HT hFm hFl
  rw [← hstr] at HT
  generalize ((orderL ts t.tn).foldl (takeS t.r (ds.map (strS hs ws)) ts (morT t ts)) ⟨[], [], (t.lo, t.hi), 0⟩).good = F at HT hFm hFl hkn
  replace HT := Lib.hid HT
  replace hkn := Lib.hid hkn
  replace hFm := Lib.hid hFm
  obtain ⟨f0, f1, f2, f3, f4, f5, f6, f7, f8, f9, f10, f11, f12⟩ := o0.task
  replace o0 := Lib.hid o0
  replace hb0 := Lib.hid hb0
  replace hw0 := Lib.hid hw0
  replace hstr := Lib.hid hstr
  obtain ⟨i3, hi3, hz3, hs3, hy3⟩ := info_parts infoSpan
  have I3 := Lib.hid (And.intro hi3 (And.intro hz3 (And.intro hs3 hy3)))
  clear hi3 hz3 hs3 hy3
  go_enter Try.func72, Try.ntmps72
  go_wp2_with fail
  rw [hw0.out]
  go_wp2_with (go_at_call 91; ((with_reducible refine (HT.out).mono ?_); rintro ev w1 ⟨vg, vs, rfl, hG', hS', hb1'⟩; have hG := Lib.hid hG'; have hS := Lib.hid hS'; have hb1 := Lib.hid hb1'; clear hG' hS' hb1' f0 f1 f2 f3 f4 f5 f6 f7 f8 f9 f10 f11 f12; obtain ⟨f0, f1, f2, f3, f4, f5, f6, f7, f8, f9, f10, f11, f12⟩ := (o0.out.below hb1.out).task))
  have hsz1 : w.heap.size < w1.heap.size := by have := hb1.out.size; have := o0.out.lt; omega
  obtain ⟨ga, gcap, rfl⟩ : ∃ a cap, vg = .slice a F.length cap := by
    rcases hG.out.2 with ⟨e1, e2⟩ | ⟨q, cap, cur, e1, -⟩
    · exact ⟨none, 0, by rw [e1, e2]⟩
    · exact ⟨_, _, e1⟩
  go_loopg [6, 8] (t.dn + 1) (fun gk xo i wr => ∃ (c : Nat) (vo : Value), vo = xo ∧ gk = t.dn + 1 - c ∧ i = .int .i64 c ∧ c ≤ t.dn + 1 ∧ KN t w w1 vo (knS t.r (ds.map (strS hs ws)) ts (morT t ts) F (t.lo, t.hi) c).1 (knS t.r (ds.map (strS hs ws)) ts (morT t ts) F (t.lo, t.hi) c).2 wr)
  case atStart => exact ⟨0, _, rfl, rfl, rfl, Nat.zero_le _, hsz1, (o0.out.below hb1.out).alloc _, Ob.new _ _ _, ⟨rfl, Or.inl ⟨rfl, rfl⟩⟩, B_alloc (Below.refl _ _) _⟩
  case round =>
    obtain ⟨c, vo, rfl, rfl, rfl, hc, hK⟩ := hrel
    obtain ⟨hcan, hlen, hall⟩ := hkn.out c hc
    have hstep := kn_step t.r (ds.map (strS hs ws)) ts (morT t ts) F (t.lo, t.hi) c
    by_cases hlt : c ≤ t.dn
    · clear hall
      generalize knS t.r (ds.map (strS hs ws)) ts (morT t ts) F (t.lo, t.hi) c = KS at hK hcan hlen hstep
      obtain ⟨L, pn⟩ := KS
      simp only at hK hcan hlen hstep
      have HST := Lib.hid hstep
      obtain ⟨f0, f1, f2, f3, f4, f5, f6, f7, f8, f9, f10, f11, f12⟩ := hK.T.task
      obtain ⟨z0, z1, z2, z3⟩ := hK.N.span
      have gT := hK.T.lt
      have gN := hK.N.lt
      have h1 : (c : Int) ≤ t.dn := by omega
      have h0 : (0 : Int) ≤ c := by omega
      have KK := Lib.hid hK
      have CC := Lib.hid hcan
      have SZ := Lib.hid hsz1
      have LL := Lib.hid hlen
      clear hK hcan hsz1 hlen hstep
      go_upto_if 27 with fail
      go_cut [] (fun wx => KN t w w1 vo L (canS t.r (ds.map (strS hs ws)) c pn) wx)
      case first =>
        rcases c with _ | c
        · have hr : canS t.r (ds.map (strS hs ws)) 0 pn = pn := rfl
          have HR := Lib.hid hr
          clear hr
          go_wp2_with fail
          go_meet
          rw [HR.out]
          exact KK.out
        · have HO2 := refOn_any t hs ws ds ts pn c (c + 1) wr (hR.below (B_trans hb0.out (B_trans (show Below w0.heap.size w0 w1 from hb1.out) (KK.out.b.mono (by have := hb1.out.size; omega))))) hO hst CC.out.toInSp (by omega) hdn
          have hr : canS t.r (ds.map (strS hs ws)) (c + 1) pn = nextFold t.r (ds.map (strS hs ws)) pn (List.range' c (c + 1 - c)) := by
            rw [show c + 1 - c = 1 by omega]
            simp [canS, nextFold]
          rw [← hr] at HO2
          obtain ⟨cn, hcn⟩ : ∃ cn, canS t.r (ds.map (strS hs ws)) (c + 1) pn = cn := ⟨_, rfl⟩
          rw [hcn] at HO2
          have HO3 := Lib.hid HO2
          have HC := Lib.hid hcn
          have e1 : ((c + 1 : Nat) : Int) = (c : Int) + 1 := by push_cast; rfl
          have u1 : IntKind.i64.wrap ((c : Int) + 1 - 1) = c := by rw [show (c : Int) + 1 - 1 = c by omega]; exact IntWalk.i64_in _ (by omega)
          have E1 := Lib.hid e1
          rw [e1] at h0 h1
          clear HO2 hr hcn e1
          rw [E1.out]
          have HO4 : Hid (Calls Try.prog 92 #[.agg t.cs, .agg #[.int .i64 pn.1, .int .i64 pn.2], .int .i64 c, .int .i64 ((c : Int) + 1)] wr fun e w' => e = .returned (.agg #[.int .i64 cn.1, .int .i64 cn.2]) ∧ Below wr.heap.size wr w') := by
            have h := HO3.out
            rw [E1.out] at h
            exact h
          have u3 : (0 : Int) < (c : Int) + 1 := by omega
          go_wp2_with (go_at_call 92; ((with_reducible refine (HO4.out).mono ?_); rintro ev w2 ⟨rfl, hb2'⟩; have hb2 := Lib.hid hb2'; clear hb2' z0 z1 z2 z3; obtain ⟨z0, z1, z2, z3⟩ := (KK.out.below hb2.out).N.span))
          go_meet
          rw [HC.out]
          exact (KK.out.below hb2.out).setN cn
      case rest =>
        clear f0 f1 f2 f3 f4 f5 f6 f7 f8 f9 f10 f11 f12 z0 z1 z2 z3
        obtain ⟨pc, hpc⟩ : ∃ pc, canS t.r (ds.map (strS hs ws)) c pn = pc := ⟨_, rfl⟩
        have hst2 := HST.out
        rw [hpc] at hcut hst2
        replace HST := Lib.hid hst2
        clear hpc hst2
        have hcut2 := hcut
        clear hcut
        obtain ⟨wo, rfl⟩ : ∃ wo, wo = wr := ⟨wr, rfl⟩
        go_wp2_with fail
        go_loopg [9] F.length (fun gj k wy => ∃ e : Nat, gj = F.length - e ∧ k = .int .i64 (e : Int) ∧ e ≤ F.length ∧ KN t w w1 vo L (mf t.r ts (morT t ts) c pc (F.take e)) wy)
        case atStart => exact ⟨0, rfl, rfl, Nat.zero_le _, hcut2⟩
        case round =>
          obtain ⟨wy, rfl⟩ : ∃ wy, wy = wr := ⟨wr, rfl⟩
          obtain ⟨e, rfl, rfl, he, hKy⟩ := hrel
          clear hcut2
          by_cases hel : e < F.length
          · obtain ⟨gq, gcap', gcur, hge, hgq, hgO, -, -, -, hgk⟩ := row1_form hG.out (by omega)
            cases hge
            have gL0 := row1_cell hgO hgk rfl hel
            have hgl := hgO.lt
            have hji : F.getD e 0 < t.tn := hFm.out _ (getD_mem hel)
            have hmt := mf_take t.r ts (morT t ts) c pc hel
            obtain ⟨tp, tj, hta', hpl, htc⟩ := hR.t.at_ (by omega)
            obtain ⟨x0, x1, x2⟩ := htc _ hji
            obtain ⟨⟨b1, b2⟩, ⟨b3, b4⟩, b5, b6⟩ := hts _ hji
            have hmor2 : morT t ts (F.getD e 0) = ((ts.getD (F.getD e 0) (0, 0, 0)).1 - t.first).toNat := rfl
            have hkt2 : keepT t.r ts (F.getD e 0) = keepS t.r (ts.getD (F.getD e 0) (0, 0, 0)).2.1 (ts.getD (F.getD e 0) (0, 0, 0)).2.2 := rfl
            generalize F.getD e 0 = j at gL0 hji hmt x0 x1 x2 b1 b2 b3 b4 b5 b6 hmor2 hkt2
            generalize ts.getD j (0, 0, 0) = y at x0 x1 x2 b1 b2 b3 b4 b5 b6 hmor2 hkt2
            obtain ⟨yd, yg, ye⟩ := y
            simp only at x0 x1 x2 b1 b2 b3 b4 b5 b6 hmor2 hkt2
            obtain ⟨l, rfl⟩ : ∃ l : Nat, yd = t.first + l := ⟨(yd - t.first).toNat, by omega⟩
            rw [show (t.first + (l : Int) - t.first).toNat = l by omega] at hmor2
            rw [hmor2, hkt2] at hmt
            obtain ⟨kp, hkp⟩ : ∃ kp, keepS t.r yg ye = kp := ⟨_, rfl⟩
            rw [hkp] at hmt
            generalize mf t.r ts (morT t ts) c pc (F.take e) = n at hKy hmt
            have hBwy : Below w.heap.size w wy := B_trans hb0.out (B_trans (show Below w0.heap.size w0 w1 from hb1.out) (hKy.b.mono (by have := hb1.out.size; omega)))
            have g0 := (hBwy.cell (p := ⟨tp, _, none⟩) hpl).trans x0
            have g1 := (hBwy.cell (p := ⟨tp, _, none⟩) hpl).trans x1
            have g2 := (hBwy.cell (p := ⟨tp, _, none⟩) hpl).trans x2
            have htpl : tp < wy.heap.size := Nat.lt_of_lt_of_le hpl hBwy.size
            have gL := (hKy.b.cell (p := ⟨gq, e, none⟩) hgl).trans gL0
            have hgly : gq < wy.heap.size := Nat.lt_of_lt_of_le hgl hKy.b.size
            have hta := Lib.hid hta'
            clear x0 x1 x2 gL0 hgO hgk hta' htc
            have u2 : IntKind.i64.wrap (t.first + (l : Int) - t.first) = l := by rw [show t.first + (l : Int) - t.first = l by omega]; exact IntWalk.i64_in _ (by omega)
            have u3 : IntKind.i64.wrap ((e : Int) + 1) = (e : Int) + 1 := IntWalk.i64_in _ (by omega)
            obtain ⟨f0, f1, f2, f3, f4, f5, f6, f7, f8, f9, f10, f11, f12⟩ := hKy.T.task
            rw [hta.out] at f12
            have c1 : (0 : Int) ≤ e := by omega
            have c2 : (e : Int) < F.length := by omega
            have c3 : (0 : Int) ≤ j := by omega
            have c4 : (j : Int) < t.tn := by omega
            have KY := Lib.hid hKy
            have MT := Lib.hid hmt
            have KP := Lib.hid hkp
            clear hKy hmt hkp hBwy hmor2 hkt2
            by_cases hlc : l = c
            · have hlc2 : ((l : Int) == (c : Int)) = true := by rw [hlc]; simp
              have HLC := Lib.hid hlc
              clear hlc
              have HKp : Hid (∀ W', Calls Try.prog 94 #[.agg t.r.cs, .agg #[.int .i64 (t.first + (l : Int)), .int .i64 yg, .int .i64 ye]] W' fun x w' => x = .returned (.agg #[.int .i64 kp.1, .int .i64 kp.2]) ∧ Below W'.heap.size W' w') := by rw [Hid, ← KP.out]; exact fun W' => refKeeping_any t.r hs ws _ yg ye W' hO ⟨b3, b4⟩ ⟨b5, b6⟩
              have HBo' := fun W' => refBoth_any n.1 n.2 kp.1 kp.2 W'
              obtain ⟨J, hJ⟩ : ∃ J, joinS n kp = J := ⟨_, rfl⟩
              rw [show max n.1 kp.1 = J.1 from congrArg Prod.fst hJ, show min n.2 kp.2 = J.2 from congrArg Prod.snd hJ] at HBo'
              have HBo := Lib.hid HBo'
              have HJ := Lib.hid hJ
              clear HBo' hJ
              go_upto_region 12 with fail
              go_quiet (fail)
              go_upto_region 13 with fail
              rename_i nq
              have I0 : Hid (I72 t w w1 vo L n J kp tp tj gq e j (t.first + (l : Int)) yg ye 0 (fun _ => undef) (wy.drewN nq).drew) := ⟨fun _ => (KY.out.drewN nq).drew, fun h => by omega, fun _ => gL, hgly, fun _ => ⟨g0, g1, g2⟩, htpl, fun h => by omega, fun h => by omega⟩
              clear f0 f1 f2 f3 f4 f5 f6 f7 f8 f9 f10 f11 f12 g0 g1 g2 gL
              refine wp_region_steps (I := I72 t w w1 vo L n J kp tp tj gq e j (t.first + (l : Int)) yg ye) (V := V72 t w gq F.length gcap tp tj e j n (t.first + (l : Int)) yg ye) (eff := eff72) (need := need72) (till := till72) 3 (by kernel_rfl) (by decide) (by kernel_rfl) rfl (by kernel_rfl) (by kernel_rfl) (by kernel_rfl) (by kernel_rfl) (by kernel_rfl) I0.out ?steps ?hend
              case hend =>
                intro outs w' hI
                have K3 := Lib.hid (hI.K3 rfl)
                clear hI I0
                simp only [flowAct, List.filterMap_cons, List.filterMap_nil, patch, List.setIfInBounds_toArray, List.set_cons_zero, List.set_cons_succ]
                go_wp2_with fail
                go_roundg (F.length - (e + 1))
                case measure => omega
                case rel =>
                  refine ⟨e + 1, rfl, by push_cast; rfl, by omega, ?_⟩
                  rw [MT.out, if_pos HLC.out, HJ.out]
                  exact K3.out
              case steps =>
                  refine ⟨⟨rfl, fun t ht k' outs u _ => by cases ht; rfl, fun k' outs W' ρ hk1 hk2 hI hc hg h_fn hr ho => ?_⟩, ?_⟩
                  · have hk2' : k' ≤ 2 := hk2
                    have o7 := ho 7 (by kernel_rfl)
                    obtain ⟨n0, n1, -, -⟩ := (hI.K0 (by omega)).N.span
                    clear hI
                    refine step_pure rfl (v := .agg #[.int .i64 n.1, .int .i64 n.2]) (fun t ht => by cases ht; rfl) ?_
                    go_simp
                  refine ⟨⟨rfl, fun t ht k' outs u _ => by cases ht; rfl, fun k' outs W' ρ hk1 hk2 hI hc hg h_fn hr ho => ?_⟩, ?_⟩
                  · have hk2' : k' ≤ 2 := hk2
                    have o1 := ho 1 (by kernel_rfl)
                    clear hI
                    refine step_pure rfl (v := .pointer (some ⟨w.heap.size, 0, none⟩)) (fun t ht => by cases ht; rfl) ?_
                    go_simp
                  refine ⟨⟨rfl, fun t ht k' outs u _ => by cases ht; rfl, fun k' outs W' ρ hk1 hk2 hI hc hg h_fn hr ho => ?_⟩, ?_⟩
                  · have hk2' : k' ≤ 2 := hk2
                    have r55 : ρ (.tmp 55) = .pointer (some ⟨w.heap.size, 0, none⟩) := hr 55 (by kernel_rfl)
                    obtain ⟨f0, f1, f2, f3, f4, f5, f6, f7, f8, f9, f10, f11, f12⟩ := (hI.K0 (by omega)).T.task
                    rw [hta.out] at f12
                    clear hI
                    refine step_pure rfl (v := .agg t.r.cs) (fun t ht => by cases ht; rfl) ?_
                    go_simp
                  refine ⟨⟨rfl, fun t ht k' outs u _ => by cases ht; rfl, fun k' outs W' ρ hk1 hk2 hI hc hg h_fn hr ho => ?_⟩, ?_⟩
                  · have hk2' : k' ≤ 2 := hk2
                    have o1 := ho 1 (by kernel_rfl)
                    clear hI
                    refine step_pure rfl (v := .pointer (some ⟨w.heap.size, 12, none⟩)) (fun t ht => by cases ht; rfl) ?_
                    go_simp
                  refine ⟨⟨rfl, fun t ht k' outs u _ => by cases ht; rfl, fun k' outs W' ρ hk1 hk2 hI hc hg h_fn hr ho => ?_⟩, ?_⟩
                  · have hk2' : k' ≤ 2 := hk2
                    have r57 : ρ (.tmp 57) = .pointer (some ⟨w.heap.size, 12, none⟩) := hr 57 (by kernel_rfl)
                    obtain ⟨f0, f1, f2, f3, f4, f5, f6, f7, f8, f9, f10, f11, f12⟩ := (hI.K0 (by omega)).T.task
                    rw [hta.out] at f12
                    clear hI
                    refine step_pure rfl (v := .slice (some ⟨tp, tj, none⟩) t.tn t.tc) (fun t ht => by cases ht; rfl) ?_
                    go_simp
                  refine ⟨⟨rfl, fun t ht k' outs u _ => by cases ht; rfl, fun k' outs W' ρ hk1 hk2 hI hc hg h_fn hr ho => ?_⟩, ?_⟩
                  · have hk2' : k' ≤ 2 := hk2
                    have o4 := ho 4 (by kernel_rfl)
                    clear hI
                    refine step_pure rfl (v := .slice (some ⟨gq, 0, none⟩) F.length gcap) (fun t ht => by cases ht; rfl) ?_
                    go_simp
                  refine ⟨⟨rfl, fun t ht k' outs u _ => by cases ht; rfl, fun k' outs W' ρ hk1 hk2 hI hc hg h_fn hr ho => ?_⟩, ?_⟩
                  · have hk2' : k' ≤ 2 := hk2
                    have o9 := ho 9 (by kernel_rfl)
                    clear hI
                    refine step_pure rfl (v := .int .i64 e) (fun t ht => by cases ht; rfl) ?_
                    go_simp
                  refine ⟨⟨rfl, fun t ht k' outs u _ => by cases ht; rfl, fun k' outs W' ρ hk1 hk2 hI hc hg h_fn hr ho => ?_⟩, ?_⟩
                  · have hk2' : k' ≤ 2 := hk2
                    have r59 : ρ (.tmp 59) = .slice (some ⟨gq, 0, none⟩) F.length gcap := hr 59 (by kernel_rfl)
                    have r60 : ρ (.tmp 60) = .int .i64 e := hr 60 (by kernel_rfl)
                    clear hI
                    refine step_pure rfl (v := .pointer (some ⟨gq, e, none⟩)) (fun t ht => by cases ht; rfl) ?_
                    go_simp
                  refine ⟨⟨rfl, fun t ht k' outs u _ => by cases ht; rfl, fun k' outs W' ρ hk1 hk2 hI hc hg h_fn hr ho => ?_⟩, ?_⟩
                  · have hk2' : k' ≤ 2 := hk2
                    have r61 : ρ (.tmp 61) = .pointer (some ⟨gq, e, none⟩) := hr 61 (by kernel_rfl)
                    have y9 := hI.G (by omega)
                    clear hI
                    refine step_pure rfl (v := .int .i64 j) (fun t ht => by cases ht; rfl) ?_
                    go_simp
                  refine ⟨⟨rfl, fun t ht k' outs u _ => by cases ht; rfl, fun k' outs W' ρ hk1 hk2 hI hc hg h_fn hr ho => ?_⟩, ?_⟩
                  · have hk2' : k' ≤ 2 := hk2
                    have r58 : ρ (.tmp 58) = .slice (some ⟨tp, tj, none⟩) t.tn t.tc := hr 58 (by kernel_rfl)
                    have r62 : ρ (.tmp 62) = .int .i64 j := hr 62 (by kernel_rfl)
                    clear hI
                    refine step_pure rfl (v := .pointer (some ⟨tp, tj + j * 3, none⟩)) (fun t ht => by cases ht; rfl) ?_
                    go_simp
                  refine ⟨⟨rfl, fun t ht k' outs u _ => by cases ht; rfl, fun k' outs W' ρ hk1 hk2 hI hc hg h_fn hr ho => ?_⟩, ?_⟩
                  · have hk2' : k' ≤ 2 := hk2
                    have r63 : ρ (.tmp 63) = .pointer (some ⟨tp, tj + j * 3, none⟩) := hr 63 (by kernel_rfl)
                    obtain ⟨y0, y1, y2⟩ := hI.Y (by omega)
                    clear hI
                    refine step_pure rfl (v := .agg #[.int .i64 (t.first + (l : Int)), .int .i64 yg, .int .i64 ye]) (fun t ht => by cases ht; rfl) ?_
                    go_simp
                  refine ⟨⟨rfl, fun t ht k' outs u (h : 0 < k') => by cases ht; show upd outs k' u 0 = outs 0; unfold upd; rw [if_neg (by omega)], fun k' outs W' ρ hk1 hk2 hI hc hg h_fn hr ho => ?_⟩, ?_⟩
                  · obtain rfl : k' = 0 := by have h1 : 0 ≤ k' := hk1; have h2 : k' ≤ 0 := hk2; omega
                    have r56 : ρ (.tmp 56) = .agg t.r.cs := hr 56 (by kernel_rfl)
                    have r64 : ρ (.tmp 64) = .agg #[.int .i64 (t.first + (l : Int)), .int .i64 yg, .int .i64 ye] := hr 64 (by kernel_rfl)
                    have hfn := h_fn 94
                    refine step_call rfl (f := 94) (args := #[.agg t.r.cs, .agg #[.int .i64 (t.first + (l : Int)), .int .i64 yg, .int .i64 ye]]) (w' := W') ?_ ?_
                    · clear hI; go_simp
                    · refine (HKp.out W').mono ?_
                      rintro ev w2 ⟨rfl, hb2⟩
                      exact ⟨_, rfl, ⟨fun _ => (hI.K0 (by omega)).below hb2, fun h => by omega, fun _ => (hb2.cell (p := ⟨gq, e, none⟩) hI.gl).trans (hI.G (by omega)), Nat.lt_of_lt_of_le hI.gl hb2.size, fun _ => (let ⟨h1, h2, h3⟩ := hI.Y (by omega); ⟨(hb2.cell (p := ⟨tp, _, none⟩) hI.yl).trans h1, (hb2.cell (p := ⟨tp, _, none⟩) hI.yl).trans h2, (hb2.cell (p := ⟨tp, _, none⟩) hI.yl).trans h3⟩), Nat.lt_of_lt_of_le hI.yl hb2.size, fun h => rfl, fun h => by omega⟩, fun t ht => by cases ht; rfl⟩
                  refine ⟨⟨rfl, fun t ht k' outs u (h : 1 < k') => by cases ht; show upd outs k' u 1 = outs 1; unfold upd; rw [if_neg (by omega)], fun k' outs W' ρ hk1 hk2 hI hc hg h_fn hr ho => ?_⟩, ?_⟩
                  · obtain rfl : k' = 1 := by have h1 : 1 ≤ k' := hk1; have h2 : k' ≤ 1 := hk2; omega
                    have r54 : ρ (.tmp 54) = .agg #[.int .i64 n.1, .int .i64 n.2] := hr 54 (by kernel_rfl)
                    have r65 : ρ (.tmp 65) = .agg #[.int .i64 kp.1, .int .i64 kp.2] := (hr 65 (by kernel_rfl)).trans (hI.o0 (by omega))
                    have hfn := h_fn 93
                    refine step_call rfl (f := 93) (args := #[.agg #[.int .i64 n.1, .int .i64 n.2], .agg #[.int .i64 kp.1, .int .i64 kp.2]]) (w' := W') ?_ ?_
                    · clear hI; go_simp
                    · refine (HBo.out W').mono ?_
                      rintro ev w2 ⟨rfl, hb2⟩
                      exact ⟨_, rfl, ⟨fun _ => (hI.K0 (by omega)).below hb2, fun h => by omega, fun _ => (hb2.cell (p := ⟨gq, e, none⟩) hI.gl).trans (hI.G (by omega)), Nat.lt_of_lt_of_le hI.gl hb2.size, fun _ => (let ⟨h1, h2, h3⟩ := hI.Y (by omega); ⟨(hb2.cell (p := ⟨tp, _, none⟩) hI.yl).trans h1, (hb2.cell (p := ⟨tp, _, none⟩) hI.yl).trans h2, (hb2.cell (p := ⟨tp, _, none⟩) hI.yl).trans h3⟩), Nat.lt_of_lt_of_le hI.yl hb2.size, fun h => hI.o0 (by omega), fun h => rfl⟩, fun t ht => by cases ht; rfl⟩
                  refine ⟨⟨rfl, (fun t ht => by cases ht), fun k' outs W' ρ hk1 hk2 hI hc hg h_fn hr ho => ?_⟩, trivial⟩
                  · obtain rfl : k' = 2 := by have h1 : 2 ≤ k' := hk1; have h2 : k' ≤ 2 := hk2; omega
                    have o7 := ho 7 (by kernel_rfl)
                    have r66 : ρ (.tmp 66) = .agg #[.int .i64 J.1, .int .i64 J.2] := (hr 66 (by kernel_rfl)).trans (hI.o1 (by omega))
                    have K0 := hI.K0 (by omega)
                    obtain ⟨v0, v1, z0, z1⟩ := K0.N.span
                    refine step_store rfl rfl (w' := (W'.setCell ⟨w1.heap.size, 0, none⟩ (.int .i64 J.1)).setCell ⟨w1.heap.size, 1, none⟩ (.int .i64 J.2)) ?_ ⟨fun h => by omega, fun _ => K0.setN J, fun h => by omega, by simpa using hI.gl, fun h => by omega, by simpa using hI.yl, fun h => hI.o0 (by omega), fun h => hI.o1 (by omega)⟩
                    clear hI K0; go_simp
            · have hlc2 : ((l : Int) == (c : Int)) = false := by simp; omega
              go_upto_region 12 with fail
              go_quiet (fail)
              go_wp2_with fail
              go_roundg (F.length - (e + 1))
              case measure => omega
              case rel =>
                refine ⟨e + 1, rfl, by push_cast; rfl, by omega, ?_⟩
                rw [MT.out, if_neg hlc]
                exact KY.out.drewN _
          · obtain rfl : e = F.length := by omega
            have h2 : ¬ (F.length : Int) < F.length := by omega
            generalize mf t.r ts (morT t ts) c pc (F.take F.length) = n at hKy HST
            obtain ⟨z0, z1, z2, z3⟩ := hKy.N.span
            have KY := Lib.hid hKy
            clear hKy
            go_wp2_with ((at_builtin; refine wpList_append_own _ rfl _ _ 49 rfl (w1.heap.size + 1) 28 i3 (.agg #[.int .i64 0, .int .i64 0]) 2 16 Try.underlying49 I3.out.1 I3.out.2.1 I3.out.2.2.1 I3.out.2.2.2 rfl (by decide) _ _ _ rfl ((KY.out.below (B_alloc (Below.refl _ _) _)).O) ⟨wy.heap.size, 0, none⟩ 1 1 [.int .i64 n.1, .int .i64 n.2] rfl rfl ?c1 ?c2 ?c3 ?c4 ?c5 ?_))
            case c2 => exact ⟨rfl, rfl⟩
            case c3 => have := LL.out; unfold maxLen; omega
            case c4 => have := LL.out; omega
            case c5 => have := KY.out.N.lt; simp; omega
            intro v' w5 hown' hgrow _
            have hK7 := Lib.hid ((KY.out.below (B_alloc (Below.refl _ _) (.cells #[.int .i64 n.1, .int .i64 n.2] 28))).addO hgrow hown')
            clear hown' hgrow z0 z1 z2 z3
            go_wp2_with fail
            go_roundg (t.dn + 1 - (c + 1))
            case measure => omega
            case rel =>
              refine ⟨c + 1, _, rfl, rfl, by push_cast; rfl, by omega, ?_⟩
              rw [HST.out]
              exact hK7.out
    · obtain rfl : c = t.dn + 1 := by omega
      have hlev := hall rfl
      have hrow := (reach_row (N := t.dn) hO (by rw [List.length_map, hdl]) hst ts (morT t ts) (orderL ts t.tn) hp (t.dn + 1) (Nat.le_refl _)).1
      have hlok := (reach_ok (N := t.dn) hO (by rw [List.length_map, hdl]) hst ts (morT t ts) (List.range (t.dn + 1)) ⟨orderL ts t.tn, [], (t.lo, t.hi), [], []⟩ (fun m hm => by rw [List.mem_range] at hm; omega) hp (fun p hp => by cases hp)).2.1
      have hlevT : levT t hs ws ds ts = knownFold t.r (ds.map (strS hs ws)) (reachT t hs ws ds ts).lev (backN t.dn t.dn) := by unfold levT; rw [backN_all]
      rw [hlev] at hK hlen
      have hrow2 : Row t.r (ds.map (strS hs ws)) (reachT t hs ws ds ts).lev := hrow
      have hlok2 : ∀ p ∈ (reachT t hs ws ds ts).lev, OkSp p := hlok
      have LT := Lib.hid hlevT
      clear hstep hall hlev hrow hlok hcan hlevT
      generalize (knS t.r (ds.map (strS hs ws)) ts (morT t ts) F (t.lo, t.hi) (t.dn + 1)).2 = pn at hK
      generalize (reachT t hs ws ds ts).lev = L0 at hK hlen hrow2 hlok2 LT
      obtain ⟨q, cap, hvo, hKO⟩ := hK.back (by omega)
      rw [hlen] at hvo
      subst hvo
      have hback := back_in (N := t.dn) hO.feed.1 hst (by rw [List.length_map, hdl]) hrow2 hlen
      obtain ⟨f0, f1, f2, f3, f4, f5, f6, f7, f8, f9, f10, f11, f12⟩ := hKO.T.task
      have hdI : (t.dn : Int) ≤ 400 := by omega
      have hd0 : (0 : Int) ≤ t.dn := by omega
      have u1 : IntKind.i64.wrap ((t.dn : Int) - 1) = (t.dn : Int) - 1 := IntWalk.i64_in _ (by omega)
      have h1 : ¬ ((t.dn : Int) + 1 ≤ t.dn) := by omega
      rw [show ((t.dn + 1 : Nat) : Int) = (t.dn : Int) + 1 by push_cast; rfl]
      have BK := Lib.hid hback
      have RW := Lib.hid (And.intro hrow2 (And.intro hlok2 hlen))
      have SZ := Lib.hid hsz1
      have HQ := Lib.hid hKO.hq
      have KK := Lib.hid hKO
      clear hK hKO hback hrow2 hlok2 hlen hsz1
      go_wp2_with fail
      go_loopg [10] (t.dn + 1) (fun gk iv wr => ∃ (j : Nat) (v : Int), gk = t.dn + 1 - j ∧ iv = .int .i64 v ∧ v = t.dn - 1 - j ∧ j ≤ t.dn ∧ KO t w w1 q (knownFold t.r (ds.map (strS hs ws)) L0 (backN t.dn j)) wr)
      case atStart => exact ⟨0, _, rfl, rfl, by omega, Nat.zero_le _, KK.out⟩
      case round =>
        obtain ⟨j, v, rfl, rfl, hv, hj, hKj⟩ := hrel
        clear KK f0 f1 f2 f3 f4 f5 f6 f7 f8 f9 f10 f11 f12
        obtain ⟨hk1, hk2⟩ := BK.out j hj
        have hKl := known_len t.r (ds.map (strS hs ws)) (backN t.dn j) L0
        rw [RW.out.2.2] at hKl
        by_cases hlt : j < t.dn
        · obtain ⟨i, rfl⟩ : ∃ i : Nat, v = i := ⟨t.dn - 1 - j, by omega⟩
          have hij : t.dn - 1 - j = i := by omega
          have hstep : knownFold t.r (ds.map (strS hs ws)) L0 (backN t.dn (j + 1)) = (knownFold t.r (ds.map (strS hs ws)) L0 (backN t.dn j)).set i (beforeS t.r ((ds.map (strS hs ws)).getD i (0, 0)) ((knownFold t.r (ds.map (strS hs ws)) L0 (backN t.dn j)).getD i (0, 0)) ((knownFold t.r (ds.map (strS hs ws)) L0 (backN t.dn j)).getD (i + 1) (0, 0))) := by
            rw [backN_succ, known_snoc, hij]; rfl
          have e1 := hk1 i (by omega)
          have e2 := hk2 (i + 1) (by omega)
          have hfol := RW.out.1.fol (m := i) (by rw [RW.out.2.2]; omega)
          have hok1 := RW.out.2.1 _ (getD_lt (L := L0) (i := i) (by rw [RW.out.2.2]; omega))
          have hok2 := RW.out.2.1 _ (getD_lt (L := L0) (i := i + 1) (by rw [RW.out.2.2]; omega))
          have hsk : (ds.map (strS hs ws)).getD i (0, 0) = strS hs ws (ds.getD i (0, 0, 0, 0)) := by simp [List.getD, hdl, show i < t.dn by omega]
          have es := hst _ (getD_lt (L := ds.map (strS hs ws)) (i := i) (by rw [List.length_map, hdl]; omega))
          obtain ⟨db, dO, hda, hdb, hdd⟩ := hR.d.at_ (by omega)
          obtain ⟨x0, x1, x2, x3⟩ := hdd i (by omega)
          have hBw : Below w.heap.size w wr := B_trans hb0.out (B_trans (show Below w0.heap.size w0 w1 from hb1.out) (hKj.b.mono (by have := hb1.out.size; omega)))
          rw [e1] at hstep
          generalize knownFold t.r (ds.map (strS hs ws)) L0 (backN t.dn j) = K at hKj hk1 hk2 hKl hstep e1 e2
          generalize L0.getD i (0, 0) = n at e1 hfol hok1 hstep
          generalize L0.getD (i + 1) (0, 0) = o at e2 hfol hok2
          obtain ⟨x, hx⟩ : ∃ x, K.getD (i + 1) (0, 0) = x := ⟨_, rfl⟩
          rw [hx] at e2 hstep
          have HSt := Lib.hid (fun (W' : World) (hh : Below wr.heap.size wr W') => refStrength_any t.r hs ws (ds.getD i (0, 0, 0, 0)).1 (ds.getD i (0, 0, 0, 0)).2.1 (ds.getD i (0, 0, 0, 0)).2.2.1 (ds.getD i (0, 0, 0, 0)).2.2.2 W' (hR.r.below (B_trans hBw hh)) hO)
          rw [hsk] at es hstep hfol
          generalize ds.getD i (0, 0, 0, 0) = d at x0 x1 x2 x3 HSt es hsk hstep hfol
          obtain ⟨s, hs'⟩ : ∃ s, strS hs ws d = s := ⟨_, rfl⟩
          have hx1 : strengthS hs ws d.1 d.2.2.1 = s.1 := congrArg Prod.fst hs'
          have hx2 : strengthS hs ws d.2.1 d.2.2.2 = s.2 := congrArg Prod.snd hs'
          rw [hx1, hx2] at HSt
          rw [hs'] at es hstep hfol
          clear hs' hx1 hx2 hsk hdd
          obtain ⟨d0, d1, d2, d3⟩ := d
          simp only at x0 x1 x2 x3 HSt
          have hlow := low_lt hfol e2
          have hab := above_pos hO.feed.1 es.lo hfol e2
          have habl := above_le t.r s.1 n.1 x.2 (n.2 - n.1 + 1).toNat
          have hlo := fun a (h : a ≤ lowN t.r s.2 n.1 x.1 (n.2 - n.1 + 1).toNat) => low_test (i := a) hlow h
          have hhi := fun a (h : a < (n.2 - n.1 + 1).toNat) => high_test (r := t.r) (s0 := s.1) (n0 := n.1) (x1 := x.2) (i := a) hO.feed.1 es.lo h
          have hbef : beforeS t.r s n x = (n.1 + (lowN t.r s.2 n.1 x.1 (n.2 - n.1 + 1).toNat : Nat), n.1 + (aboveN t.r s.1 n.1 x.2 (n.2 - n.1 + 1).toNat : Nat) - 1) := rfl
          rw [hbef] at hstep
          generalize lowN t.r s.2 n.1 x.1 (n.2 - n.1 + 1).toNat = LN at hlow hlo hstep
          generalize aboveN t.r s.1 n.1 x.2 (n.2 - n.1 + 1).toNat = AN at hab habl hhi hstep
          have hle := hfol.le
          obtain ⟨cnt, hcnt⟩ : ∃ cnt, (n.2 - n.1 + 1).toNat = cnt := ⟨_, rfl⟩
          rw [hcnt] at hlow habl hhi
          have hn2a : n.2 ≤ n.1 + cnt - 1 := by omega
          have hn2b : n.1 + cnt - 1 ≤ n.2 := by omega
          have hcn0 : 0 < cnt := by omega
          have HS := Lib.hid (fun (W' : World) (hh : Below wr.heap.size wr W') => (show (W'.cell? ⟨w.heap.size, 0, none⟩ = some (.slice t.r.ha t.r.hn t.r.hc) ∧ W'.cell? ⟨w.heap.size, 1, none⟩ = some (.slice t.r.wa t.r.wn t.r.wc) ∧ W'.cell? ⟨w.heap.size, 2, none⟩ = some (.int .i64 t.r.own) ∧ W'.cell? ⟨w.heap.size, 3, none⟩ = some (.int .i64 t.r.feed) ∧ W'.cell? ⟨w.heap.size, 4, none⟩ = some (.int .i64 t.r.g0) ∧ W'.cell? ⟨w.heap.size, 5, none⟩ = some (.int .i64 t.r.g1) ∧ W'.cell? ⟨w.heap.size, 6, none⟩ = some (.int .i64 t.r.g2) ∧ W'.cell? ⟨w.heap.size, 7, none⟩ = some (.int .i64 t.r.lost) ∧ W'.cell? ⟨w.heap.size, 8, none⟩ = some (.int .i64 t.first) ∧ W'.cell? ⟨w.heap.size, 9, none⟩ = some (.slice (some ⟨db, dO, none⟩) t.dn t.dc) ∧ W'.cell? ⟨w.heap.size, 10, none⟩ = some (.int .i64 t.lo) ∧ W'.cell? ⟨w.heap.size, 11, none⟩ = some (.int .i64 t.hi) ∧ W'.cell? ⟨w.heap.size, 12, none⟩ = some (.slice t.ta t.tn t.tc)) ∧ W'.cell? ⟨db, dO + i * 4, none⟩ = some (.int .i64 d0) ∧ W'.cell? ⟨db, dO + i * 4 + 1, none⟩ = some (.int .i64 d1) ∧ W'.cell? ⟨db, dO + i * 4 + 2, none⟩ = some (.int .i64 d2) ∧ W'.cell? ⟨db, dO + i * 4 + 3, none⟩ = some (.int .i64 d3) from ⟨by have h := (hKj.below hh).T.task; rwa [hda] at h, ((B_trans hBw hh).cell (p := ⟨db, _, none⟩) hdb).trans x0, ((B_trans hBw hh).cell (p := ⟨db, _, none⟩) hdb).trans x1, ((B_trans hBw hh).cell (p := ⟨db, _, none⟩) hdb).trans x2, ((B_trans hBw hh).cell (p := ⟨db, _, none⟩) hdb).trans x3⟩))
          have a1 : (0 : Int) ≤ i := by omega
          have a2 : (i : Int) < t.dn := by omega
          have a3 : (i : Int) < (t.dn : Int) + 1 := by omega
          have a4 : (i : Int) < ((t.dn + 1 : Nat) : Int) := by omega
          have gT := hKj.T.lt
          have gq := hKj.lt
          have hdbr : db < wr.heap.size := Nat.lt_of_lt_of_le hdb hBw.size
          have h0 := hok1.lo
          have h2 := hok1.hi
          have KJ := Lib.hid hKj
          have ES := Lib.hid es
          have ST := Lib.hid hstep
          have HLo := Lib.hid hlo
          have HHi := Lib.hid hhi
          have EE := Lib.hid (And.intro e1 (And.intro hx hKl))
          have KB := Lib.hid hBw
          have HV := Lib.hid hv
          clear hv hij hKj es hstep hlo hhi e1 hx hKl hBw hk1 hk2 e2 hfol hok1 hok2 hbef hda x0 x1 x2 x3 hcnt
          go_upto_region 18 with fail
          go_cut [11] (fun a wx => ∃ g : Nat, a = .pointer (some ⟨g, 0, none⟩) ∧ wr.heap.size ≤ g ∧ Ob wx g 28 #[.int .i64 s.1, .int .i64 s.2] ∧ Below wr.heap.size wr wx)
          case first =>
            refine wp_region_held' (S := fun W' => Below wr.heap.size wr W') (by kernel_rfl) ((Below.refl _ wr).drew) (fun hHeld => ?_)
            refine wpAnyH_take2 (i := 0) (t := 79) (v := ?_) rfl rfl (by kernel_rfl) (by kernel_rfl) (by kernel_rfl) (fun _ _ _ h => Only.not_panic h) (Or.inl ⟨by kernel_rfl, fun W hW => ?_⟩) (by assumption) ?_
            rotate_left
            · have hW2 := hW
              obtain ⟨⟨f0, f1, f2, f3, f4, f5, f6, f7, f8, f9, f10, f11, f12⟩, y0, y1, y2, y3⟩ := HS.out W hW2
              clear hW hW2
              go_simp
              try with_reducible rfl
            try simp only [Act.put, List.setIfInBounds_toArray, List.set_cons_zero, List.set_cons_succ]
            refine wpAnyH_take2 (i := 1) (t := 80) (v := ?_) rfl rfl (by kernel_rfl) (by kernel_rfl) (by kernel_rfl) (fun _ _ _ h => Only.not_panic h) (Or.inl ⟨by kernel_rfl, fun W hW => ?_⟩) (by assumption) ?_
            rotate_left
            · have hW2 := hW
              obtain ⟨⟨f0, f1, f2, f3, f4, f5, f6, f7, f8, f9, f10, f11, f12⟩, y0, y1, y2, y3⟩ := HS.out W hW2
              clear hW hW2
              go_simp
              try with_reducible rfl
            try simp only [Act.put, List.setIfInBounds_toArray, List.set_cons_zero, List.set_cons_succ]
            refine wpAnyH_take2 (i := 2) (t := 81) (v := ?_) rfl rfl (by kernel_rfl) (by kernel_rfl) (by kernel_rfl) (fun _ _ _ h => Only.not_panic h) (Or.inl ⟨by kernel_rfl, fun W hW => ?_⟩) (by assumption) ?_
            rotate_left
            · have hW2 := hW
              obtain ⟨⟨f0, f1, f2, f3, f4, f5, f6, f7, f8, f9, f10, f11, f12⟩, y0, y1, y2, y3⟩ := HS.out W hW2
              clear hW hW2
              go_simp
              try with_reducible rfl
            try simp only [Act.put, List.setIfInBounds_toArray, List.set_cons_zero, List.set_cons_succ]
            refine wpAnyH_take2 (i := 3) (t := 82) (v := ?_) rfl rfl (by kernel_rfl) (by kernel_rfl) (by kernel_rfl) (fun _ _ _ h => Only.not_panic h) (Or.inl ⟨by kernel_rfl, fun W hW => ?_⟩) (by assumption) ?_
            rotate_left
            · have hW2 := hW
              obtain ⟨⟨f0, f1, f2, f3, f4, f5, f6, f7, f8, f9, f10, f11, f12⟩, y0, y1, y2, y3⟩ := HS.out W hW2
              clear hW hW2
              go_simp
              try with_reducible rfl
            try simp only [Act.put, List.setIfInBounds_toArray, List.set_cons_zero, List.set_cons_succ]
            refine wpAnyH_take2 (i := 4) (t := 83) (v := ?_) rfl rfl (by kernel_rfl) (by kernel_rfl) (by kernel_rfl) (fun _ _ _ h => Only.not_panic h) (Or.inl ⟨by kernel_rfl, fun W hW => ?_⟩) (by assumption) ?_
            rotate_left
            · have hW2 := hW
              obtain ⟨⟨f0, f1, f2, f3, f4, f5, f6, f7, f8, f9, f10, f11, f12⟩, y0, y1, y2, y3⟩ := HS.out W hW2
              clear hW hW2
              go_simp
              try with_reducible rfl
            try simp only [Act.put, List.setIfInBounds_toArray, List.set_cons_zero, List.set_cons_succ]
            refine wpAnyH_take2 (i := 5) (t := 84) (v := ?_) rfl rfl (by kernel_rfl) (by kernel_rfl) (by kernel_rfl) (fun _ _ _ h => Only.not_panic h) (Or.inl ⟨by kernel_rfl, fun W hW => ?_⟩) (by assumption) ?_
            rotate_left
            · have hW2 := hW
              obtain ⟨⟨f0, f1, f2, f3, f4, f5, f6, f7, f8, f9, f10, f11, f12⟩, y0, y1, y2, y3⟩ := HS.out W hW2
              clear hW hW2
              go_simp
              try with_reducible rfl
            try simp only [Act.put, List.setIfInBounds_toArray, List.set_cons_zero, List.set_cons_succ]
            refine wpAnyH_take2 (i := 6) (t := 85) (v := ?_) rfl rfl (by kernel_rfl) (by kernel_rfl) (by kernel_rfl) (fun _ _ _ h => Only.not_panic h) (Or.inl ⟨by kernel_rfl, fun W hW => ?_⟩) (by assumption) ?_
            rotate_left
            · have hW2 := hW
              obtain ⟨⟨f0, f1, f2, f3, f4, f5, f6, f7, f8, f9, f10, f11, f12⟩, y0, y1, y2, y3⟩ := HS.out W hW2
              clear hW hW2
              go_simp
              try with_reducible rfl
            try simp only [Act.put, List.setIfInBounds_toArray, List.set_cons_zero, List.set_cons_succ]
            refine wpAnyH_ready (rs := [7, 8]) (by kernel_rfl) (by simp) ?_
            refine AllReadyH.cons rfl (fun K hK => ?_) ?_
            · go_simp
              with_reducible refine (HSt.out _ hHeld).mono ?_
              rintro ev w7 ⟨rfl, hb7⟩
              try simp only []
              refine hK.out _ _ ?_ (fun hHeld => ?_)
              · exact B_trans hHeld hb7
              clear hK K
              try simp only [Act.put, List.setIfInBounds_toArray, List.set_cons_zero, List.set_cons_succ]
              refine wpAnyH_ready (rs := [8]) (by kernel_rfl) (by simp) ?_
              refine AllReadyH.cons rfl (fun K hK => ?_) ?_
              · go_simp
                have hpre := hHeld
                have o9 := Lib.hid (Ob.new (w7) #[.int .i64 0, .int .i64 0] 28)
                have hb9 := hHeld.size
                refine hK.out _ _ ?_ (fun hHeld => ?_)
                · exact B_alloc hHeld _
                clear hK K
                try simp only [Act.put, List.setIfInBounds_toArray, List.set_cons_zero, List.set_cons_succ]
                refine wpAnyH_ready (rs := [9]) (by kernel_rfl) (by simp) ?_
                refine AllReadyH.cons rfl (fun K hK => ?_) ?_
                · have v0 := o9.out.cell 0
                  have v1 := o9.out.cell 1
                  have g0 := o9.out.frozen 0
                  have g1 := o9.out.frozen 1
                  simp only [List.getElem?_toArray, List.getElem?_cons_zero, List.getElem?_cons_succ] at v0 v1
                  go_simp
                  refine hK.out _ _ ?_ (fun hHeld => ?_)
                  · first | exact B_alloc hpre _ | exact (hHeld.setCell (by first | omega | (simp only; omega) | (simp; omega)) _).setCell (by first | omega | (simp only; omega) | (simp; omega)) _
                  clear hK K
                  try simp only [Act.put, List.setIfInBounds_toArray, List.set_cons_zero, List.set_cons_succ]
                  refine wpAnyH_done (by kernel_rfl) (Only.mk ?_) _
                  go_wp2_with fail
                  go_meet
                  first | exact ⟨_, rfl, by first | omega | exact Nat.le_refl _, Ob.new _ _ _, hHeld⟩ | exact ⟨_, rfl, by first | omega | exact Nat.le_refl _, (o9.out.set 0 _).set 1 _, hHeld⟩
                exact AllReadyH.nil
              exact AllReadyH.nil
            refine AllReadyH.cons rfl (fun K hK => ?_) ?_
            · go_simp
              have o9 := Lib.hid (show Ob (wr.drew.alloc (.cells #[.int .i64 0, .int .i64 0] 28)) wr.heap.size 28 #[.int .i64 0, .int .i64 0] from Ob.new _ _ _)
              have hpre := hHeld
              refine hK.out _ _ ?_ (fun hHeld => ?_)
              · exact B_alloc hHeld _
              clear hK K
              try simp only [Act.put, List.setIfInBounds_toArray, List.set_cons_zero, List.set_cons_succ]
              refine wpAnyH_ready (rs := [7]) (by kernel_rfl) (by simp) ?_
              refine AllReadyH.cons rfl (fun K hK => ?_) ?_
              · go_simp
                with_reducible refine (HSt.out _ hHeld).mono ?_
                rintro ev w7 ⟨rfl, hb7⟩
                try simp only []
                replace o9 := Lib.hid (o9.out.below hb7)
                refine hK.out _ _ ?_ (fun hHeld => ?_)
                · exact B_trans hHeld hb7
                clear hK K
                try simp only [Act.put, List.setIfInBounds_toArray, List.set_cons_zero, List.set_cons_succ]
                refine wpAnyH_ready (rs := [9]) (by kernel_rfl) (by simp) ?_
                refine AllReadyH.cons rfl (fun K hK => ?_) ?_
                · have v0 := o9.out.cell 0
                  have v1 := o9.out.cell 1
                  have g0 := o9.out.frozen 0
                  have g1 := o9.out.frozen 1
                  simp only [List.getElem?_toArray, List.getElem?_cons_zero, List.getElem?_cons_succ] at v0 v1
                  go_simp
                  refine hK.out _ _ ?_ (fun hHeld => ?_)
                  · first | exact B_alloc hpre _ | exact (hHeld.setCell (by first | omega | (simp only; omega) | (simp; omega)) _).setCell (by first | omega | (simp only; omega) | (simp; omega)) _
                  clear hK K
                  try simp only [Act.put, List.setIfInBounds_toArray, List.set_cons_zero, List.set_cons_succ]
                  refine wpAnyH_done (by kernel_rfl) (Only.mk ?_) _
                  go_wp2_with fail
                  go_meet
                  first | exact ⟨_, rfl, by first | omega | exact Nat.le_refl _, Ob.new _ _ _, hHeld⟩ | exact ⟨_, rfl, by first | omega | exact Nat.le_refl _, (o9.out.set 0 _).set 1 _, hHeld⟩
                exact AllReadyH.nil
              exact AllReadyH.nil
            exact AllReadyH.nil
          case rest =>
            clear HS HSt
            obtain ⟨g, rfl, hg, oS, hbx⟩ := hcut
            have hK0 : KO t w w1 q (K.set i (n.1 + ((0 : Nat) : Int), n.2)) wc := by
              have e : K.set i (n.1 + ((0 : Nat) : Int), n.2) = K := by
                rw [show (n.1 + ((0 : Nat) : Int), n.2) = K.getD i (0, 0) by rw [EE.out.1]; simp]
                exact set_getD (by rw [EE.out.2.2]; omega)
              rw [e]
              exact KJ.out.below hbx
            have hgq : g ≠ q := by omega
            clear KJ
            obtain ⟨wo, rfl⟩ : ∃ wo, wo = wr := ⟨wr, rfl⟩
            go_wp2_with fail
            go_loopg [] LN (fun gk wv => ∃ a : Nat, gk = LN - a ∧ a ≤ LN ∧ KO t w w1 q (K.set i (n.1 + (a : Int), n.2)) wv ∧ Ob wv g 28 #[.int .i64 s.1, .int .i64 s.2])
            case atStart => exact ⟨0, rfl, Nat.zero_le _, hK0, oS⟩
            case round =>
              obtain ⟨wv, rfl⟩ : ∃ wv, wv = wr := ⟨wr, rfl⟩
              obtain ⟨a, rfl, ha, hKa, oSa⟩ := hrel
              clear hK0 oS hbx
              obtain ⟨y0, y1, -, -⟩ := hKa.at (m := i) (by rw [List.length_set, EE.out.2.2]; omega)
              obtain ⟨y2, y3, -, -⟩ := hKa.at (m := i + 1) (by rw [List.length_set, EE.out.2.2]; omega)
              rw [getD_set (by rw [EE.out.2.2]; omega), if_pos rfl] at y0 y1
              rw [getD_set (by rw [EE.out.2.2]; omega), if_neg (by omega), EE.out.2.1] at y2 y3
              have HMo' := fun W' => refMost_any t.r hs ws (n.1 + (a : Int)) s.2 s.1 W' hO (by omega) (by omega) (by have := ES.out.lo; have := ES.out.le; omega) ES.out.hi
              have htest := HLo.out a ha
              generalize mostS t.r s.2 (n.1 + (a : Int)) = mm at HMo' htest
              obtain ⟨bb, hbb⟩ : ∃ bb, decide (mm < x.1) = bb := ⟨_, rfl⟩
              have HMo := Lib.hid HMo'
              have HW := Lib.hid (fun (W' : World) (hh : Below wv.heap.size wv W') => (show (W'.cell? ⟨w.heap.size, 0, none⟩ = some (.slice t.r.ha t.r.hn t.r.hc) ∧ W'.cell? ⟨w.heap.size, 1, none⟩ = some (.slice t.r.wa t.r.wn t.r.wc) ∧ W'.cell? ⟨w.heap.size, 2, none⟩ = some (.int .i64 t.r.own) ∧ W'.cell? ⟨w.heap.size, 3, none⟩ = some (.int .i64 t.r.feed) ∧ W'.cell? ⟨w.heap.size, 4, none⟩ = some (.int .i64 t.r.g0) ∧ W'.cell? ⟨w.heap.size, 5, none⟩ = some (.int .i64 t.r.g1) ∧ W'.cell? ⟨w.heap.size, 6, none⟩ = some (.int .i64 t.r.g2) ∧ W'.cell? ⟨w.heap.size, 7, none⟩ = some (.int .i64 t.r.lost) ∧ W'.cell? ⟨w.heap.size, 8, none⟩ = some (.int .i64 t.first) ∧ W'.cell? ⟨w.heap.size, 9, none⟩ = some (.slice t.da t.dn t.dc) ∧ W'.cell? ⟨w.heap.size, 10, none⟩ = some (.int .i64 t.lo) ∧ W'.cell? ⟨w.heap.size, 11, none⟩ = some (.int .i64 t.hi) ∧ W'.cell? ⟨w.heap.size, 12, none⟩ = some (.slice t.ta t.tn t.tc)) ∧ W'.cell? ⟨g, 0, none⟩ = some (.int .i64 s.1) ∧ W'.cell? ⟨g, 1, none⟩ = some (.int .i64 s.2) ∧ W'.cell? ⟨q, i * 2, none⟩ = some (.int .i64 (n.1 + (a : Int))) ∧ W'.cell? ⟨q, i * 2 + 1, none⟩ = some (.int .i64 n.2) ∧ W'.cell? ⟨q, (i + 1) * 2, none⟩ = some (.int .i64 x.1) ∧ W'.cell? ⟨q, (i + 1) * 2 + 1, none⟩ = some (.int .i64 x.2) from ⟨(hKa.below hh).T.task, (oSa.below hh).cell 0, (oSa.below hh).cell 1, (hh.cell (p := ⟨q, _, none⟩) hKa.lt).trans y0, (hh.cell (p := ⟨q, _, none⟩) hKa.lt).trans y1, (hh.cell (p := ⟨q, _, none⟩) hKa.lt).trans y2, (hh.cell (p := ⟨q, _, none⟩) hKa.lt).trans y3⟩))
              have u5 : IntKind.i64.wrap ((i : Int) + 1) = (i : Int) + 1 := IntWalk.i64_in _ (by omega)
              have a5 : (i : Int) + 1 < ((t.dn + 1 : Nat) : Int) := by omega
              have a6 : (i : Int) + 1 < (t.dn : Int) + 1 := by omega
              have a7 : ((i : Int) + 1).toNat = i + 1 := by omega
              have a8 : (0 : Int) ≤ (i : Int) + 1 := by omega
              have b1 : 0 ≤ n.1 + (a : Int) := by omega
              have b2 : n.1 + (a : Int) ≤ 1000000 := by omega
              have gTv := hKa.T.lt
              have gqv := hKa.lt
              have ggv := oSa.lt
              have TT := Lib.hid htest
              have BB := Lib.hid hbb
              have KA := Lib.hid (And.intro hKa oSa)
              clear hKa oSa y0 y1 y2 y3 htest HMo'
              go_upto_region 19 with fail
              go_cut [102] (fun b wx => b = .bool bb ∧ Below wv.heap.size wv wx)
              case first =>
                  refine wp_region_held' (S := fun W' => Below wv.heap.size wv W') (by kernel_rfl) ((Below.refl _ wv).drew) (fun hHeld => ?_)
                  refine wpAnyH_take2 (i := 0) (t := 87) (v := ?_) rfl rfl (by kernel_rfl) (by kernel_rfl) (by kernel_rfl) (fun _ _ _ h => Only.not_panic h) (Or.inl ⟨by kernel_rfl, fun W hW => ?_⟩) (by assumption) ?_
                  rotate_left
                  · have hW2 := hW
                    obtain ⟨⟨f0, f1, f2, f3, f4, f5, f6, f7, f8, f9, f10, f11, f12⟩, s0, s1, y0, y1, y2, y3⟩ := HW.out W hW2
                    clear hW hW2
                    go_simp
                    try with_reducible rfl
                  try simp only [Act.put, List.setIfInBounds_toArray, List.set_cons_zero, List.set_cons_succ]
                  refine wpAnyH_take2 (i := 1) (t := 88) (v := ?_) rfl rfl (by kernel_rfl) (by kernel_rfl) (by kernel_rfl) (fun _ _ _ h => Only.not_panic h) (Or.inl ⟨by kernel_rfl, fun W hW => ?_⟩) (by assumption) ?_
                  rotate_left
                  · have hW2 := hW
                    obtain ⟨⟨f0, f1, f2, f3, f4, f5, f6, f7, f8, f9, f10, f11, f12⟩, s0, s1, y0, y1, y2, y3⟩ := HW.out W hW2
                    clear hW hW2
                    go_simp
                    try with_reducible rfl
                  try simp only [Act.put, List.setIfInBounds_toArray, List.set_cons_zero, List.set_cons_succ]
                  refine wpAnyH_take2 (i := 2) (t := 89) (v := ?_) rfl rfl (by kernel_rfl) (by kernel_rfl) (by kernel_rfl) (fun _ _ _ h => Only.not_panic h) (Or.inl ⟨by kernel_rfl, fun W hW => ?_⟩) (by assumption) ?_
                  rotate_left
                  · have hW2 := hW
                    obtain ⟨⟨f0, f1, f2, f3, f4, f5, f6, f7, f8, f9, f10, f11, f12⟩, s0, s1, y0, y1, y2, y3⟩ := HW.out W hW2
                    clear hW hW2
                    go_simp
                    try with_reducible rfl
                  try simp only [Act.put, List.setIfInBounds_toArray, List.set_cons_zero, List.set_cons_succ]
                  refine wpAnyH_take2 (i := 3) (t := 90) (v := ?_) rfl rfl (by kernel_rfl) (by kernel_rfl) (by kernel_rfl) (fun _ _ _ h => Only.not_panic h) (Or.inl ⟨by kernel_rfl, fun W hW => ?_⟩) (by assumption) ?_
                  rotate_left
                  · have hW2 := hW
                    obtain ⟨⟨f0, f1, f2, f3, f4, f5, f6, f7, f8, f9, f10, f11, f12⟩, s0, s1, y0, y1, y2, y3⟩ := HW.out W hW2
                    clear hW hW2
                    go_simp
                    try with_reducible rfl
                  try simp only [Act.put, List.setIfInBounds_toArray, List.set_cons_zero, List.set_cons_succ]
                  refine wpAnyH_take2 (i := 4) (t := 91) (v := ?_) rfl rfl (by kernel_rfl) (by kernel_rfl) (by kernel_rfl) (fun _ _ _ h => Only.not_panic h) (Or.inl ⟨by kernel_rfl, fun W hW => ?_⟩) (by assumption) ?_
                  rotate_left
                  · have hW2 := hW
                    obtain ⟨⟨f0, f1, f2, f3, f4, f5, f6, f7, f8, f9, f10, f11, f12⟩, s0, s1, y0, y1, y2, y3⟩ := HW.out W hW2
                    clear hW hW2
                    go_simp
                    try with_reducible rfl
                  try simp only [Act.put, List.setIfInBounds_toArray, List.set_cons_zero, List.set_cons_succ]
                  refine wpAnyH_take2 (i := 5) (t := 92) (v := ?_) rfl rfl (by kernel_rfl) (by kernel_rfl) (by kernel_rfl) (fun _ _ _ h => Only.not_panic h) (Or.inl ⟨by kernel_rfl, fun W hW => ?_⟩) (by assumption) ?_
                  rotate_left
                  · have hW2 := hW
                    obtain ⟨⟨f0, f1, f2, f3, f4, f5, f6, f7, f8, f9, f10, f11, f12⟩, s0, s1, y0, y1, y2, y3⟩ := HW.out W hW2
                    clear hW hW2
                    go_simp
                    try with_reducible rfl
                  try simp only [Act.put, List.setIfInBounds_toArray, List.set_cons_zero, List.set_cons_succ]
                  refine wpAnyH_take2 (i := 6) (t := 93) (v := ?_) rfl rfl (by kernel_rfl) (by kernel_rfl) (by kernel_rfl) (fun _ _ _ h => Only.not_panic h) (Or.inl ⟨by kernel_rfl, fun W hW => ?_⟩) (by assumption) ?_
                  rotate_left
                  · have hW2 := hW
                    obtain ⟨⟨f0, f1, f2, f3, f4, f5, f6, f7, f8, f9, f10, f11, f12⟩, s0, s1, y0, y1, y2, y3⟩ := HW.out W hW2
                    clear hW hW2
                    go_simp
                    try with_reducible rfl
                  try simp only [Act.put, List.setIfInBounds_toArray, List.set_cons_zero, List.set_cons_succ]
                  refine wpAnyH_take2 (i := 7) (t := 94) (v := ?_) rfl rfl (by kernel_rfl) (by kernel_rfl) (by kernel_rfl) (fun _ _ _ h => Only.not_panic h) (Or.inl ⟨by kernel_rfl, fun W hW => ?_⟩) (by assumption) ?_
                  rotate_left
                  · have hW2 := hW
                    obtain ⟨⟨f0, f1, f2, f3, f4, f5, f6, f7, f8, f9, f10, f11, f12⟩, s0, s1, y0, y1, y2, y3⟩ := HW.out W hW2
                    clear hW hW2
                    go_simp
                    try with_reducible rfl
                  try simp only [Act.put, List.setIfInBounds_toArray, List.set_cons_zero, List.set_cons_succ]
                  refine wpAnyH_take2 (i := 9) (t := 96) (v := ?_) rfl rfl (by kernel_rfl) (by kernel_rfl) (by kernel_rfl) (fun _ _ _ h => Only.not_panic h) (Or.inl ⟨by kernel_rfl, fun W hW => ?_⟩) (by assumption) ?_
                  rotate_left
                  · have hW2 := hW
                    obtain ⟨⟨f0, f1, f2, f3, f4, f5, f6, f7, f8, f9, f10, f11, f12⟩, s0, s1, y0, y1, y2, y3⟩ := HW.out W hW2
                    clear hW hW2
                    go_simp
                    try with_reducible rfl
                  try simp only [Act.put, List.setIfInBounds_toArray, List.set_cons_zero, List.set_cons_succ]
                  refine wpAnyH_take2 (i := 10) (t := 97) (v := ?_) rfl rfl (by kernel_rfl) (by kernel_rfl) (by kernel_rfl) (fun _ _ _ h => Only.not_panic h) (Or.inl ⟨by kernel_rfl, fun W hW => ?_⟩) (by assumption) ?_
                  rotate_left
                  · have hW2 := hW
                    obtain ⟨⟨f0, f1, f2, f3, f4, f5, f6, f7, f8, f9, f10, f11, f12⟩, s0, s1, y0, y1, y2, y3⟩ := HW.out W hW2
                    clear hW hW2
                    go_simp
                    try with_reducible rfl
                  try simp only [Act.put, List.setIfInBounds_toArray, List.set_cons_zero, List.set_cons_succ]
                  refine wpAnyH_take2 (i := 11) (t := 98) (v := ?_) rfl rfl (by kernel_rfl) (by kernel_rfl) (by kernel_rfl) (fun _ _ _ h => Only.not_panic h) (Or.inl ⟨by kernel_rfl, fun W hW => ?_⟩) (by assumption) ?_
                  rotate_left
                  · have hW2 := hW
                    obtain ⟨⟨f0, f1, f2, f3, f4, f5, f6, f7, f8, f9, f10, f11, f12⟩, s0, s1, y0, y1, y2, y3⟩ := HW.out W hW2
                    clear hW hW2
                    go_simp
                    try with_reducible rfl
                  try simp only [Act.put, List.setIfInBounds_toArray, List.set_cons_zero, List.set_cons_succ]
                  refine wpAnyH_take2 (i := 12) (t := 99) (v := ?_) rfl rfl (by kernel_rfl) (by kernel_rfl) (by kernel_rfl) (fun _ _ _ h => Only.not_panic h) (Or.inl ⟨by kernel_rfl, fun W hW => ?_⟩) (by assumption) ?_
                  rotate_left
                  · have hW2 := hW
                    obtain ⟨⟨f0, f1, f2, f3, f4, f5, f6, f7, f8, f9, f10, f11, f12⟩, s0, s1, y0, y1, y2, y3⟩ := HW.out W hW2
                    clear hW hW2
                    go_simp
                    try with_reducible rfl
                  try simp only [Act.put, List.setIfInBounds_toArray, List.set_cons_zero, List.set_cons_succ]
                  refine wpAnyH_take2 (i := 13) (t := 100) (v := ?_) rfl rfl (by kernel_rfl) (by kernel_rfl) (by kernel_rfl) (fun _ _ _ h => Only.not_panic h) (Or.inl ⟨by kernel_rfl, fun W hW => ?_⟩) (by assumption) ?_
                  rotate_left
                  · have hW2 := hW
                    obtain ⟨⟨f0, f1, f2, f3, f4, f5, f6, f7, f8, f9, f10, f11, f12⟩, s0, s1, y0, y1, y2, y3⟩ := HW.out W hW2
                    clear hW hW2
                    go_simp
                    try with_reducible rfl
                  try simp only [Act.put, List.setIfInBounds_toArray, List.set_cons_zero, List.set_cons_succ]
                  refine wpAnyH_take2 (i := 14) (t := 101) (v := ?_) rfl rfl (by kernel_rfl) (by kernel_rfl) (by kernel_rfl) (fun _ _ _ h => Only.not_panic h) (Or.inl ⟨by kernel_rfl, fun W hW => ?_⟩) (by assumption) ?_
                  rotate_left
                  · have hW2 := hW
                    obtain ⟨⟨f0, f1, f2, f3, f4, f5, f6, f7, f8, f9, f10, f11, f12⟩, s0, s1, y0, y1, y2, y3⟩ := HW.out W hW2
                    clear hW hW2
                    go_simp
                    try with_reducible rfl
                  try simp only [Act.put, List.setIfInBounds_toArray, List.set_cons_zero, List.set_cons_succ]
                  refine wpAnyH_ready (rs := [8]) (by kernel_rfl) (by simp) ?_
                  refine AllReadyH.cons rfl (fun K hK => ?_) ?_
                  · go_simp
                    with_reducible refine (HMo.out _).mono ?_
                    rintro ev w8 ⟨rfl, hb8⟩
                    try simp only []
                    refine hK.out _ _ ?_ (fun hHeld => ?_)
                    · exact B_trans hHeld hb8
                    clear hK K
                    try simp only [Act.put, List.setIfInBounds_toArray, List.set_cons_zero, List.set_cons_succ]
                    refine wpAnyH_take2 (i := 15) (t := 102) (v := ?_) rfl rfl (by kernel_rfl) (by kernel_rfl) (by kernel_rfl) (fun _ _ _ h => Only.not_panic h) (Or.inl ⟨by kernel_rfl, fun W hW => ?_⟩) (by assumption) ?_
                    rotate_left
                    · have hW2 := hW
                      obtain ⟨⟨f0, f1, f2, f3, f4, f5, f6, f7, f8, f9, f10, f11, f12⟩, s0, s1, y0, y1, y2, y3⟩ := HW.out W hW2
                      clear hW hW2
                      go_simp
                      try with_reducible rfl
                    try simp only [Act.put, List.setIfInBounds_toArray, List.set_cons_zero, List.set_cons_succ]
                    refine wpAnyH_done (by kernel_rfl) (Only.mk ?_) _
                    go_wp2_with fail
                    go_meet
                    exact ⟨rfl, hHeld⟩
                  exact AllReadyH.nil
              case rest =>
                clear HW HMo hbb
                obtain ⟨rfl, hbw⟩ := hcut
                have hKc := KA.out.1.below hbw
                have oSc := KA.out.2.below hbw
                clear hbw u5 a5 a6 a7 a8
                cases bb with
                | true =>
                  have hal : a < LN := TT.out.1 (of_decide_eq_true BB.out)
                  obtain ⟨y0, y1, y2, y3⟩ := hKc.at (m := i) (by rw [List.length_set, EE.out.2.2]; omega)
                  rw [getD_set (by rw [EE.out.2.2]; omega), if_pos rfl] at y0 y1
                  have KC := Lib.hid (And.intro hKc oSc)
                  clear hKc oSc
                  go_wp2_with fail
                  go_roundg (LN - (a + 1))
                  case measure => omega
                  case rel =>
                    refine ⟨a + 1, rfl, by omega, ?_, KC.out.2.other (by simp only; omega) _⟩
                    have h := KC.out.1.lo (m := i) (by rw [List.length_set, EE.out.2.2]; omega) (n.1 + (a : Int) + 1)
                    rw [getD_set (by rw [EE.out.2.2]; omega), if_pos rfl, List.set_set] at h
                    rw [show n.1 + ((a + 1 : Nat) : Int) = n.1 + (a : Int) + 1 by push_cast; omega]
                    exact h
                | false =>
                  obtain rfl : a = LN := by
                    have := of_decide_eq_false BB.out
                    have h5 : ¬ a < LN := fun h => this (TT.out.2 h)
                    omega
                  clear TT BB KA
                  have hK1 : KO t w w1 q (K.set i (n.1 + (a : Int), n.2 - ((0 : Nat) : Int))) wc := by
                    rw [show n.2 - ((0 : Nat) : Int) = n.2 by omega]
                    exact hKc
                  go_wp2_with fail
                  go_loopg [] (cnt - AN) (fun gk wz => ∃ b : Nat, gk = cnt - AN - b ∧ b ≤ cnt - AN ∧ KO t w w1 q (K.set i (n.1 + (a : Int), n.2 - (b : Int))) wz ∧ Ob wz g 28 #[.int .i64 s.1, .int .i64 s.2])
                  case atStart => exact ⟨0, rfl, Nat.zero_le _, hK1, oSc⟩
                  case round =>
                    obtain ⟨wv, rfl⟩ : ∃ wv, wv = wr := ⟨wr, rfl⟩
                    obtain ⟨b, rfl, hb, hKa, oSa⟩ := hrel
                    clear hK1 hKc oSc
                    obtain ⟨y0, y1, -, -⟩ := hKa.at (m := i) (by rw [List.length_set, EE.out.2.2]; omega)
                    obtain ⟨y2, y3, -, -⟩ := hKa.at (m := i + 1) (by rw [List.length_set, EE.out.2.2]; omega)
                    rw [getD_set (by rw [EE.out.2.2]; omega), if_pos rfl] at y0 y1
                    rw [getD_set (by rw [EE.out.2.2]; omega), if_neg (by omega), EE.out.2.1] at y2 y3
                    have HLe' := fun W' => refLeast_any t.r hs ws (n.2 - (b : Int)) s.1 s.2 W' hO (by omega) (by omega) ES.out.lo (by have := ES.out.hi; have := ES.out.le; omega)
                    have htest := HHi.out (cnt - 1 - b) (by omega)
                    rw [show n.1 + ((cnt - 1 - b : Nat) : Int) = n.2 - (b : Int) by omega] at htest
                    generalize leastS t.r s.1 (n.2 - (b : Int)) = mm at HLe' htest
                    obtain ⟨bb, hbb⟩ : ∃ bb, decide (x.2 < mm) = bb := ⟨_, rfl⟩
                    have HLe := Lib.hid HLe'
                    have HW := Lib.hid (fun (W' : World) (hh : Below wv.heap.size wv W') => (show (W'.cell? ⟨w.heap.size, 0, none⟩ = some (.slice t.r.ha t.r.hn t.r.hc) ∧ W'.cell? ⟨w.heap.size, 1, none⟩ = some (.slice t.r.wa t.r.wn t.r.wc) ∧ W'.cell? ⟨w.heap.size, 2, none⟩ = some (.int .i64 t.r.own) ∧ W'.cell? ⟨w.heap.size, 3, none⟩ = some (.int .i64 t.r.feed) ∧ W'.cell? ⟨w.heap.size, 4, none⟩ = some (.int .i64 t.r.g0) ∧ W'.cell? ⟨w.heap.size, 5, none⟩ = some (.int .i64 t.r.g1) ∧ W'.cell? ⟨w.heap.size, 6, none⟩ = some (.int .i64 t.r.g2) ∧ W'.cell? ⟨w.heap.size, 7, none⟩ = some (.int .i64 t.r.lost) ∧ W'.cell? ⟨w.heap.size, 8, none⟩ = some (.int .i64 t.first) ∧ W'.cell? ⟨w.heap.size, 9, none⟩ = some (.slice t.da t.dn t.dc) ∧ W'.cell? ⟨w.heap.size, 10, none⟩ = some (.int .i64 t.lo) ∧ W'.cell? ⟨w.heap.size, 11, none⟩ = some (.int .i64 t.hi) ∧ W'.cell? ⟨w.heap.size, 12, none⟩ = some (.slice t.ta t.tn t.tc)) ∧ W'.cell? ⟨g, 0, none⟩ = some (.int .i64 s.1) ∧ W'.cell? ⟨g, 1, none⟩ = some (.int .i64 s.2) ∧ W'.cell? ⟨q, i * 2, none⟩ = some (.int .i64 (n.1 + (a : Int))) ∧ W'.cell? ⟨q, i * 2 + 1, none⟩ = some (.int .i64 (n.2 - (b : Int))) ∧ W'.cell? ⟨q, (i + 1) * 2, none⟩ = some (.int .i64 x.1) ∧ W'.cell? ⟨q, (i + 1) * 2 + 1, none⟩ = some (.int .i64 x.2) from ⟨(hKa.below hh).T.task, (oSa.below hh).cell 0, (oSa.below hh).cell 1, (hh.cell (p := ⟨q, _, none⟩) hKa.lt).trans y0, (hh.cell (p := ⟨q, _, none⟩) hKa.lt).trans y1, (hh.cell (p := ⟨q, _, none⟩) hKa.lt).trans y2, (hh.cell (p := ⟨q, _, none⟩) hKa.lt).trans y3⟩))
                    have u5 : IntKind.i64.wrap ((i : Int) + 1) = (i : Int) + 1 := IntWalk.i64_in _ (by omega)
                    have a5 : (i : Int) + 1 < ((t.dn + 1 : Nat) : Int) := by omega
                    have a6 : (i : Int) + 1 < (t.dn : Int) + 1 := by omega
                    have a7 : ((i : Int) + 1).toNat = i + 1 := by omega
                    have a8 : (0 : Int) ≤ (i : Int) + 1 := by omega
                    have b3 : 0 ≤ n.2 - (b : Int) := by omega
                    have b4 : n.2 - (b : Int) ≤ 1000000 := by omega
                    have gTv := hKa.T.lt
                    have gqv := hKa.lt
                    have ggv := oSa.lt
                    have TT := Lib.hid htest
                    have BB := Lib.hid hbb
                    have KA := Lib.hid (And.intro hKa oSa)
                    clear hKa oSa y0 y1 y2 y3 htest HLe'
                    go_upto_region 21 with fail
                    go_cut [126] (fun b wx => b = .bool bb ∧ Below wv.heap.size wv wx)
                    case first =>
                      refine wp_region_held' (S := fun W' => Below wv.heap.size wv W') (by kernel_rfl) ((Below.refl _ wv).drew) (fun hHeld => ?_)
                      refine wpAnyH_take2 (i := 0) (t := 111) (v := ?_) rfl rfl (by kernel_rfl) (by kernel_rfl) (by kernel_rfl) (fun _ _ _ h => Only.not_panic h) (Or.inl ⟨by kernel_rfl, fun W hW => ?_⟩) (by assumption) ?_
                      rotate_left
                      · have hW2 := hW
                        obtain ⟨⟨f0, f1, f2, f3, f4, f5, f6, f7, f8, f9, f10, f11, f12⟩, s0, s1, y0, y1, y2, y3⟩ := HW.out W hW2
                        clear hW hW2
                        go_simp
                        try with_reducible rfl
                      try simp only [Act.put, List.setIfInBounds_toArray, List.set_cons_zero, List.set_cons_succ]
                      refine wpAnyH_take2 (i := 1) (t := 112) (v := ?_) rfl rfl (by kernel_rfl) (by kernel_rfl) (by kernel_rfl) (fun _ _ _ h => Only.not_panic h) (Or.inl ⟨by kernel_rfl, fun W hW => ?_⟩) (by assumption) ?_
                      rotate_left
                      · have hW2 := hW
                        obtain ⟨⟨f0, f1, f2, f3, f4, f5, f6, f7, f8, f9, f10, f11, f12⟩, s0, s1, y0, y1, y2, y3⟩ := HW.out W hW2
                        clear hW hW2
                        go_simp
                        try with_reducible rfl
                      try simp only [Act.put, List.setIfInBounds_toArray, List.set_cons_zero, List.set_cons_succ]
                      refine wpAnyH_take2 (i := 2) (t := 113) (v := ?_) rfl rfl (by kernel_rfl) (by kernel_rfl) (by kernel_rfl) (fun _ _ _ h => Only.not_panic h) (Or.inl ⟨by kernel_rfl, fun W hW => ?_⟩) (by assumption) ?_
                      rotate_left
                      · have hW2 := hW
                        obtain ⟨⟨f0, f1, f2, f3, f4, f5, f6, f7, f8, f9, f10, f11, f12⟩, s0, s1, y0, y1, y2, y3⟩ := HW.out W hW2
                        clear hW hW2
                        go_simp
                        try with_reducible rfl
                      try simp only [Act.put, List.setIfInBounds_toArray, List.set_cons_zero, List.set_cons_succ]
                      refine wpAnyH_take2 (i := 3) (t := 114) (v := ?_) rfl rfl (by kernel_rfl) (by kernel_rfl) (by kernel_rfl) (fun _ _ _ h => Only.not_panic h) (Or.inl ⟨by kernel_rfl, fun W hW => ?_⟩) (by assumption) ?_
                      rotate_left
                      · have hW2 := hW
                        obtain ⟨⟨f0, f1, f2, f3, f4, f5, f6, f7, f8, f9, f10, f11, f12⟩, s0, s1, y0, y1, y2, y3⟩ := HW.out W hW2
                        clear hW hW2
                        go_simp
                        try with_reducible rfl
                      try simp only [Act.put, List.setIfInBounds_toArray, List.set_cons_zero, List.set_cons_succ]
                      refine wpAnyH_take2 (i := 4) (t := 115) (v := ?_) rfl rfl (by kernel_rfl) (by kernel_rfl) (by kernel_rfl) (fun _ _ _ h => Only.not_panic h) (Or.inl ⟨by kernel_rfl, fun W hW => ?_⟩) (by assumption) ?_
                      rotate_left
                      · have hW2 := hW
                        obtain ⟨⟨f0, f1, f2, f3, f4, f5, f6, f7, f8, f9, f10, f11, f12⟩, s0, s1, y0, y1, y2, y3⟩ := HW.out W hW2
                        clear hW hW2
                        go_simp
                        try with_reducible rfl
                      try simp only [Act.put, List.setIfInBounds_toArray, List.set_cons_zero, List.set_cons_succ]
                      refine wpAnyH_take2 (i := 5) (t := 116) (v := ?_) rfl rfl (by kernel_rfl) (by kernel_rfl) (by kernel_rfl) (fun _ _ _ h => Only.not_panic h) (Or.inl ⟨by kernel_rfl, fun W hW => ?_⟩) (by assumption) ?_
                      rotate_left
                      · have hW2 := hW
                        obtain ⟨⟨f0, f1, f2, f3, f4, f5, f6, f7, f8, f9, f10, f11, f12⟩, s0, s1, y0, y1, y2, y3⟩ := HW.out W hW2
                        clear hW hW2
                        go_simp
                        try with_reducible rfl
                      try simp only [Act.put, List.setIfInBounds_toArray, List.set_cons_zero, List.set_cons_succ]
                      refine wpAnyH_take2 (i := 6) (t := 117) (v := ?_) rfl rfl (by kernel_rfl) (by kernel_rfl) (by kernel_rfl) (fun _ _ _ h => Only.not_panic h) (Or.inl ⟨by kernel_rfl, fun W hW => ?_⟩) (by assumption) ?_
                      rotate_left
                      · have hW2 := hW
                        obtain ⟨⟨f0, f1, f2, f3, f4, f5, f6, f7, f8, f9, f10, f11, f12⟩, s0, s1, y0, y1, y2, y3⟩ := HW.out W hW2
                        clear hW hW2
                        go_simp
                        try with_reducible rfl
                      try simp only [Act.put, List.setIfInBounds_toArray, List.set_cons_zero, List.set_cons_succ]
                      refine wpAnyH_take2 (i := 7) (t := 118) (v := ?_) rfl rfl (by kernel_rfl) (by kernel_rfl) (by kernel_rfl) (fun _ _ _ h => Only.not_panic h) (Or.inl ⟨by kernel_rfl, fun W hW => ?_⟩) (by assumption) ?_
                      rotate_left
                      · have hW2 := hW
                        obtain ⟨⟨f0, f1, f2, f3, f4, f5, f6, f7, f8, f9, f10, f11, f12⟩, s0, s1, y0, y1, y2, y3⟩ := HW.out W hW2
                        clear hW hW2
                        go_simp
                        try with_reducible rfl
                      try simp only [Act.put, List.setIfInBounds_toArray, List.set_cons_zero, List.set_cons_succ]
                      refine wpAnyH_take2 (i := 9) (t := 120) (v := ?_) rfl rfl (by kernel_rfl) (by kernel_rfl) (by kernel_rfl) (fun _ _ _ h => Only.not_panic h) (Or.inl ⟨by kernel_rfl, fun W hW => ?_⟩) (by assumption) ?_
                      rotate_left
                      · have hW2 := hW
                        obtain ⟨⟨f0, f1, f2, f3, f4, f5, f6, f7, f8, f9, f10, f11, f12⟩, s0, s1, y0, y1, y2, y3⟩ := HW.out W hW2
                        clear hW hW2
                        go_simp
                        try with_reducible rfl
                      try simp only [Act.put, List.setIfInBounds_toArray, List.set_cons_zero, List.set_cons_succ]
                      refine wpAnyH_take2 (i := 10) (t := 121) (v := ?_) rfl rfl (by kernel_rfl) (by kernel_rfl) (by kernel_rfl) (fun _ _ _ h => Only.not_panic h) (Or.inl ⟨by kernel_rfl, fun W hW => ?_⟩) (by assumption) ?_
                      rotate_left
                      · have hW2 := hW
                        obtain ⟨⟨f0, f1, f2, f3, f4, f5, f6, f7, f8, f9, f10, f11, f12⟩, s0, s1, y0, y1, y2, y3⟩ := HW.out W hW2
                        clear hW hW2
                        go_simp
                        try with_reducible rfl
                      try simp only [Act.put, List.setIfInBounds_toArray, List.set_cons_zero, List.set_cons_succ]
                      refine wpAnyH_take2 (i := 11) (t := 122) (v := ?_) rfl rfl (by kernel_rfl) (by kernel_rfl) (by kernel_rfl) (fun _ _ _ h => Only.not_panic h) (Or.inl ⟨by kernel_rfl, fun W hW => ?_⟩) (by assumption) ?_
                      rotate_left
                      · have hW2 := hW
                        obtain ⟨⟨f0, f1, f2, f3, f4, f5, f6, f7, f8, f9, f10, f11, f12⟩, s0, s1, y0, y1, y2, y3⟩ := HW.out W hW2
                        clear hW hW2
                        go_simp
                        try with_reducible rfl
                      try simp only [Act.put, List.setIfInBounds_toArray, List.set_cons_zero, List.set_cons_succ]
                      refine wpAnyH_take2 (i := 12) (t := 123) (v := ?_) rfl rfl (by kernel_rfl) (by kernel_rfl) (by kernel_rfl) (fun _ _ _ h => Only.not_panic h) (Or.inl ⟨by kernel_rfl, fun W hW => ?_⟩) (by assumption) ?_
                      rotate_left
                      · have hW2 := hW
                        obtain ⟨⟨f0, f1, f2, f3, f4, f5, f6, f7, f8, f9, f10, f11, f12⟩, s0, s1, y0, y1, y2, y3⟩ := HW.out W hW2
                        clear hW hW2
                        go_simp
                        try with_reducible rfl
                      try simp only [Act.put, List.setIfInBounds_toArray, List.set_cons_zero, List.set_cons_succ]
                      refine wpAnyH_take2 (i := 13) (t := 124) (v := ?_) rfl rfl (by kernel_rfl) (by kernel_rfl) (by kernel_rfl) (fun _ _ _ h => Only.not_panic h) (Or.inl ⟨by kernel_rfl, fun W hW => ?_⟩) (by assumption) ?_
                      rotate_left
                      · have hW2 := hW
                        obtain ⟨⟨f0, f1, f2, f3, f4, f5, f6, f7, f8, f9, f10, f11, f12⟩, s0, s1, y0, y1, y2, y3⟩ := HW.out W hW2
                        clear hW hW2
                        go_simp
                        try with_reducible rfl
                      try simp only [Act.put, List.setIfInBounds_toArray, List.set_cons_zero, List.set_cons_succ]
                      refine wpAnyH_take2 (i := 14) (t := 125) (v := ?_) rfl rfl (by kernel_rfl) (by kernel_rfl) (by kernel_rfl) (fun _ _ _ h => Only.not_panic h) (Or.inl ⟨by kernel_rfl, fun W hW => ?_⟩) (by assumption) ?_
                      rotate_left
                      · have hW2 := hW
                        obtain ⟨⟨f0, f1, f2, f3, f4, f5, f6, f7, f8, f9, f10, f11, f12⟩, s0, s1, y0, y1, y2, y3⟩ := HW.out W hW2
                        clear hW hW2
                        go_simp
                        try with_reducible rfl
                      try simp only [Act.put, List.setIfInBounds_toArray, List.set_cons_zero, List.set_cons_succ]
                      refine wpAnyH_ready (rs := [8]) (by kernel_rfl) (by simp) ?_
                      refine AllReadyH.cons rfl (fun K hK => ?_) ?_
                      · go_simp
                        with_reducible refine (HLe.out _).mono ?_
                        rintro ev w8 ⟨rfl, hb8⟩
                        try simp only []
                        refine hK.out _ _ ?_ (fun hHeld => ?_)
                        · exact B_trans hHeld hb8
                        clear hK K
                        try simp only [Act.put, List.setIfInBounds_toArray, List.set_cons_zero, List.set_cons_succ]
                        refine wpAnyH_take2 (i := 15) (t := 126) (v := ?_) rfl rfl (by kernel_rfl) (by kernel_rfl) (by kernel_rfl) (fun _ _ _ h => Only.not_panic h) (Or.inl ⟨by kernel_rfl, fun W hW => ?_⟩) (by assumption) ?_
                        rotate_left
                        · have hW2 := hW
                          obtain ⟨⟨f0, f1, f2, f3, f4, f5, f6, f7, f8, f9, f10, f11, f12⟩, s0, s1, y0, y1, y2, y3⟩ := HW.out W hW2
                          clear hW hW2
                          go_simp
                          try with_reducible rfl
                        try simp only [Act.put, List.setIfInBounds_toArray, List.set_cons_zero, List.set_cons_succ]
                        refine wpAnyH_done (by kernel_rfl) (Only.mk ?_) _
                        go_wp2_with fail
                        go_meet
                        exact ⟨rfl, hHeld⟩
                      exact AllReadyH.nil
                    case rest =>
                      clear HW HLe hbb
                      obtain ⟨rfl, hbw⟩ := hcut
                      have hKc := KA.out.1.below hbw
                      have oSc := KA.out.2.below hbw
                      clear hbw u5 a5 a6 a7 a8
                      cases bb with
                      | true =>
                        have hbl : AN ≤ cnt - 1 - b := TT.out.1 (of_decide_eq_true BB.out)
                        obtain ⟨y0, y1, y2, y3⟩ := hKc.at (m := i) (by rw [List.length_set, EE.out.2.2]; omega)
                        rw [getD_set (by rw [EE.out.2.2]; omega), if_pos rfl] at y0 y1
                        have KC := Lib.hid (And.intro hKc oSc)
                        clear hKc oSc
                        go_wp2_with fail
                        go_roundg (cnt - AN - (b + 1))
                        case measure => omega
                        case rel =>
                          refine ⟨b + 1, rfl, by omega, ?_, KC.out.2.other (by simp only; omega) _⟩
                          have h := KC.out.1.hi (m := i) (by rw [List.length_set, EE.out.2.2]; omega) (n.2 - (b : Int) - 1)
                          rw [getD_set (by rw [EE.out.2.2]; omega), if_pos rfl, List.set_set] at h
                          rw [show n.2 - ((b + 1 : Nat) : Int) = n.2 - (b : Int) - 1 by push_cast; omega]
                          exact h
                      | false =>
                        have hbe : b = cnt - AN := by
                          have := of_decide_eq_false BB.out
                          have h5 : ¬ AN ≤ cnt - 1 - b := fun h => this (TT.out.2 h)
                          omega
                        have HE := Lib.hid hbe
                        have KC := Lib.hid (And.intro hKc oSc)
                        have u6 : IntKind.i64.wrap ((i : Int) - 1) = (i : Int) - 1 := IntWalk.i64_in _ (by omega)
                        clear TT BB KA hKc oSc hbe
                        go_wp2_with fail
                        go_roundg (t.dn + 1 - (j + 1))
                        case measure => omega
                        case rel =>
                          refine ⟨j + 1, _, rfl, rfl, by have := HV.out; push_cast; omega, by omega, ?_⟩
                          rw [ST.out]
                          have h := KC.out.1
                          rw [show n.2 - (b : Int) = n.1 + (AN : Int) - 1 by have := HE.out; omega] at h
                          exact h
        · obtain rfl : j = t.dn := by omega
          obtain rfl : v = -1 := by omega
          have KE := Lib.hid hKj
          clear hKj hk1 hk2
          go_wp2_with fail
          refine bodyPost_ret (v := .tuple #[.slice (some ⟨q, 0, none⟩) (t.dn + 1) cap, vs]) (by simp [results, Try.results72, go_sem]) rfl ?_
          obtain ⟨C, hC1, hC2⟩ := KE.out.O
          refine ⟨q, cap, C, vs, rfl, by have := SZ.out; have := HQ.out; omega, hC1, by rw [LT.out]; exact hC2, row_base (row_below hS.out KE.out.b) (by have := hb0.out.size; omega), ?_⟩
          exact B_trans hb0.out (B_trans (show Below w0.heap.size w0 w1 from hb1.out) (KE.out.b.mono (by have := hb1.out.size; omega)))
end Go.Proofs.Ytanjkhclhcnnaaa

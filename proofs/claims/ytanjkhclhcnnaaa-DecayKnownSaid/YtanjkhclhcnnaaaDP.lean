/- The reference's taken. -/
import Derived.Test.YtanjkhclhcnnaaaDO
import Derived.Test.YtanjkhclhcnnaaaDJ
namespace Go.Proofs.Ytanjkhclhcnnaaa
open Go.RowKit Go.Shelf

theorem fold_can {r : RuA} {hs ws : List T2} (hO : RuOK r hs ws) {ss : List T2} (hst : ∀ s ∈ ss, StrOK s) : ∀ (ms : List Nat) {p : T2}, (∀ m ∈ ms, m < ss.length) → CanOK p → CanOK (nextFold r ss p ms)
  | [], _, _, h => h
  | m :: ms, p, hm, h => fold_can hO hst ms (p := nextS r (ss.getD m (0, 0)) p) (fun x hx => hm x (by simp [hx])) (h.next hO (hst _ (getD_lt (hm m (by simp)))))
theorem on_can {r : RuA} {hs ws : List T2} (hO : RuOK r hs ws) {ss : List T2} (hst : ∀ s ∈ ss, StrOK s) {p : T2} {a b : Nat} (h : CanOK p) (hb : b ≤ ss.length) : CanOK (onS r ss p a b) :=
  fold_can hO hst _ (fun m hm => by rw [List.mem_range'] at hm; omega) h
theorem below_drewN2 {B : Nat} {a w : World} (h : Below B a w) (n : Nat) : Below B a (w.drewN n) := ⟨h.os, h.tape, h.output, h.size, h.block⟩
set_option maxRecDepth 100000 in
set_option maxHeartbeats 16000000 in
theorem refTaken_any (t : TkA) (hs ws : List T2) (ds : List T4) (ts : List T3) (w : World) (hR : TkR w t hs ws ds ts) (hO : RuOK t.r hs ws) (hst : ∀ s ∈ ds.map (strS hs ws), StrOK s) (hp : CanOK (t.lo, t.hi)) (hdn : t.dn ≤ 400) (htn : t.tn ≤ 20)
    (hts : ∀ i, i < t.tn → (t.first ≤ (ts.getD i (0, 0, 0)).1 ∧ (ts.getD i (0, 0, 0)).1 ≤ t.first + t.dn) ∧ (0 ≤ (ts.getD i (0, 0, 0)).2.1 ∧ (ts.getD i (0, 0, 0)).2.1 ≤ 3) ∧ (0 ≤ (ts.getD i (0, 0, 0)).2.2 ∧ (ts.getD i (0, 0, 0)).2.2 ≤ 3)) (hfirst : 0 ≤ t.first ∧ t.first ≤ 80000 - t.dn) :
    Calls Try.prog 91 #[.agg t.cs] w fun e w' => ∃ vg vs, e = .returned (.tuple #[vg, vs]) ∧ w'.ownsRow w.heap.size 3 1 vg (takeF t hs ws ds ts t.tn).good.length (ints (takeF t hs ws ds ts t.tn).good) ∧ w'.ownsRow w.heap.size 78 2 vs (takeF t hs ws ds ts t.tn).struck.length (flat2 (takeF t hs ws ds ts t.tn).struck) ∧ Below w.heap.size w w' := by
  obtain ⟨w0, hw0⟩ : ∃ w0, (w).alloc (.cells t.cs 31) = w0 := ⟨_, rfl⟩
  have hb0 : Below w.heap.size w w0 := by rw [← hw0]; exact B_alloc (Below.refl _ _) _
  have o0 : Ob w0 (w.heap.size) 31 t.cs := by rw [← hw0]; exact Ob.new (w) t.cs 31
  have HO := Lib.hid (refOrder_any ts t.ta t.tn t.tc w0 (hR.t.below hb0) htn)
  obtain ⟨f0, f1, f2, f3, f4, f5, f6, f7, f8, f9, f10, f11, f12⟩ := o0.task
  have htn' : (t.tn : Int) ≤ 20 := by omega
  replace o0 := Lib.hid o0
  replace hb0 := Lib.hid hb0
  replace hw0 := Lib.hid hw0
  obtain ⟨i3, hi3, hz3, hs3, hy3⟩ := info_parts infoInt
  obtain ⟨i5, hi5, hz5, hs5, hy5⟩ := info_parts infoStrike
  have I3 := Lib.hid (And.intro hi3 (And.intro hz3 (And.intro hs3 hy3)))
  have I5 := Lib.hid (And.intro hi5 (And.intro hz5 (And.intro hs5 hy5)))
  clear hi3 hz3 hs3 hy3 hi5 hz5 hs5 hy5
  go_enter Try.func91, Try.ntmps91
  go_wp2_with fail
  rw [hw0.out]
  go_wp2_with (go_at_call 116; ((with_reducible refine (HO.out).mono ?_); rintro e w1 ⟨v, rfl, hL', hb1'⟩; have hL := Lib.hid hL'; have hb1 := Lib.hid hb1'; clear hL' hb1' f0 f1 f2 f3 f4 f5 f6 f7 f8 f9 f10 f11 f12; obtain ⟨f0, f1, f2, f3, f4, f5, f6, f7, f8, f9, f10, f11, f12⟩ := (o0.out.below hb1.out).task))
  have hsz1 : w.heap.size < w1.heap.size := by have := hb1.out.size; have := o0.out.lt; omega
  go_loopg [4, 5, 8, 9] t.tn (fun gk xg xs dv i wr => ∃ (c : Nat) (vg vs : Value), vg = xg ∧ vs = xs ∧ gk = t.tn - c ∧ i = .int .i64 c ∧ c ≤ t.tn ∧ dv = .int .i64 ((takeF t hs ws ds ts c).day : Int) ∧ KM t w w1 vg vs (takeF t hs ws ds ts c).good (takeF t hs ws ds ts c).struck (takeF t hs ws ds ts c).now wr ∧ CanOK (takeF t hs ws ds ts c).now ∧ (takeF t hs ws ds ts c).day ≤ t.dn ∧ ((∀ i ∈ (takeF t hs ws ds ts c).good, i < t.tn) ∧ (takeF t hs ws ds ts c).good.length ≤ c ∧ (takeF t hs ws ds ts c).struck.length ≤ c))
  case atStart =>
    refine ⟨0, _, _, rfl, rfl, rfl, rfl, Nat.zero_le _, rfl, ⟨hsz1, (o0.out.below hb1.out).alloc _, Ob.new _ _ _, ⟨rfl, Or.inl ⟨rfl, rfl⟩⟩, ⟨rfl, Or.inl ⟨rfl, rfl⟩⟩, B_alloc (Below.refl _ _) _⟩, hp, Nat.zero_le _, fun i hi => by simp [takeF] at hi, Nat.le_refl _, Nat.le_refl _⟩
  case round =>
    obtain ⟨c, vg, vs, rfl, rfl, rfl, rfl, hc, rfl, hM, hcan, hday, hmem⟩ := hrel
    have hB1 : Below w.heap.size w wr := B_trans hb0.out (B_trans (show Below w0.heap.size w0 w1 from hb1.out) (hM.b.mono (by have := hb1.out.size; omega)))
    by_cases hlt : c < t.tn
    · have hstep := takeF_step t hs ws ds ts hlt
      have hi := orderL_lt ts t.tn ((orderL ts t.tn).getD c 0) (by
        have hl := orderL_len ts t.tn
        rw [List.getD_eq_getElem?_getD, List.getElem?_eq_getElem (by omega)]
        exact List.getElem_mem _)
      obtain ⟨q, cap, cur, rfl, hq, hOL, -, -, -, htk⟩ := row1_form hL.out (by omega)
      have hqlt := hOL.lt
      have cL0 := row1_cell hOL htk (orderL_len ts t.tn) hlt
      obtain ⟨p, o, hta, hpl, htc⟩ := hR.t.at_ (by omega)
      have htcs := Lib.hid htc
      obtain ⟨x0, x1, x2⟩ := htc _ hi
      obtain ⟨⟨y1, y2⟩, ⟨y3, y4⟩, y5, y6⟩ := hts _ hi
      have hmor : morT t ts ((orderL ts t.tn).getD c 0) = ((ts.getD ((orderL ts t.tn).getD c 0) (0, 0, 0)).1 - t.first).toNat := rfl
      have hkt : keepT t.r ts ((orderL ts t.tn).getD c 0) = keepS t.r (ts.getD ((orderL ts t.tn).getD c 0) (0, 0, 0)).2.1 (ts.getD ((orderL ts t.tn).getD c 0) (0, 0, 0)).2.2 := rfl
      generalize (orderL ts t.tn).getD c 0 = i at hstep hi cL0 x0 x1 x2 y1 y2 y3 y4 y5 y6 hmor hkt
      generalize ts.getD i (0, 0, 0) = x at x0 x1 x2 y1 y2 y3 y4 y5 y6 hmor hkt
      obtain ⟨xd, xg, xe⟩ := x
      simp only at x0 x1 x2 y1 y2 y3 y4 y5 y6 hmor hkt
      clear htc
      obtain ⟨m, rfl⟩ : ∃ m : Nat, xd = t.first + m := ⟨(xd - t.first).toNat, by omega⟩
      rw [show (t.first + (m : Int) - t.first).toNat = m by omega] at hmor
      have u1 : IntKind.i64.wrap (t.first + (m : Int) - t.first) = m := by rw [show t.first + (m : Int) - t.first = m by omega]; exact IntWalk.i64_in _ (by omega)
      have hmdn : m ≤ t.dn := by omega
      generalize takeF t hs ws ds ts c = S at hstep hM hcan hday hmem
      obtain ⟨good, struck, now, day⟩ := S
      simp only at hM hcan hday hmem
      have ht0 : Below w.heap.size w wr → wr.cell? ⟨p, o + i * 3, none⟩ = some (.int .i64 (t.first + (m : Int))) ∧ wr.cell? ⟨p, o + i * 3 + 1, none⟩ = some (.int .i64 xg) ∧ wr.cell? ⟨p, o + i * 3 + 2, none⟩ = some (.int .i64 xe) := fun h => ⟨(h.cell (p := ⟨p, _, none⟩) hpl).trans x0, (h.cell (p := ⟨p, _, none⟩) hpl).trans x1, (h.cell (p := ⟨p, _, none⟩) hpl).trans x2⟩
      clear x0 x1 x2
      obtain ⟨x0, x1, x2⟩ := ht0 hB1
      have cL := (hM.b.cell (p := ⟨q, c, none⟩) hqlt).trans cL0
      clear ht0
      obtain ⟨f0, f1, f2, f3, f4, f5, f6, f7, f8, f9, f10, f11, f12⟩ := hM.T.task
      rw [hta] at f12
      have a1 : (0 : Int) ≤ c := by omega
      have a2 : (c : Int) < t.tn := by omega
      have a3 : (0 : Int) ≤ i := by omega
      have a4 : (i : Int) < t.tn := by omega
      have gB := hM.T.lt
      have gN := hM.N.lt
      have gq : q < wr.heap.size := Nat.lt_of_lt_of_le hqlt hM.b.size
      have gp : p < wr.heap.size := Nat.lt_of_lt_of_le hpl hB1.size
      have hL1 := Lib.hid (And.intro cL0 hqlt)
      have PP := Lib.hid hM
      have QQ := Lib.hid (And.intro hstep (And.intro hmor hkt))
      have CC := Lib.hid hcan
      have DD := Lib.hid (And.intro hday hmem)
      have BB := Lib.hid hB1
      have SZ := Lib.hid hsz1
      clear hM hstep hcan hday hmem hmor hkt hB1 hOL htk hqlt cL0 hsz1
      go_wp2_with fail
      go_region
      obtain ⟨wx, hwx⟩ : ∃ wx, (wr.alloc (.cells #[.int .i64 (t.first + (m : Int)), .int .i64 xg, .int .i64 xe] 64)).drew = wx := ⟨_, rfl⟩
      have hbx : Below wr.heap.size wr wx := by rw [← hwx]; exact (B_alloc (Below.refl _ _) _).drew
      have oX : Ob wx wr.heap.size 64 #[.int .i64 (t.first + (m : Int)), .int .i64 xg, .int .i64 xe] := by rw [← hwx]; exact (Ob.new _ _ _).drew
      have hMx := PP.out.below hbx
      obtain ⟨n2, hn2⟩ : ∃ n2, onS t.r (ds.map (strS hs ws)) now day m = n2 := ⟨_, rfl⟩
      have HO2 := refOn_any t hs ws ds ts now day m wx (hR.below (B_trans BB.out hbx)) hO hst CC.out.toInSp hmdn hdn
      rw [show nextFold t.r (ds.map (strS hs ws)) now (List.range' day (m - day)) = n2 from hn2] at HO2
      replace HO2 := Lib.hid HO2
      replace hn2 := Lib.hid hn2
      obtain ⟨z0, z1, z2, z3⟩ := hMx.N.span
      obtain ⟨e0, e1, e2⟩ : wx.cell? ⟨wr.heap.size, 0, none⟩ = some (.int .i64 (t.first + (m : Int))) ∧ wx.cell? ⟨wr.heap.size, 1, none⟩ = some (.int .i64 xg) ∧ wx.cell? ⟨wr.heap.size, 2, none⟩ = some (.int .i64 xe) := ⟨oX.cell 0, oX.cell 1, oX.cell 2⟩
      replace hta := Lib.hid hta
      clear x0 x1 x2 f0 f1 f2 f3 f4 f5 f6 f7 f8 f9 f10 f11 f12 cL
      obtain ⟨f0, f1, f2, f3, f4, f5, f6, f7, f8, f9, f10, f11, f12⟩ := hMx.T.task
      have R1 := Lib.hid (And.intro hbx (And.intro oX hMx))
      clear hbx oX hMx
      have hwx' := Lib.hid hwx
      clear hwx
      go_upto_region 9 with fail
      rw [hwx'.out]
      go_wp2_with (go_at_call 92; ((with_reducible refine (HO2.out).mono ?_); rintro e w2 ⟨rfl, hb2'⟩; have hb2 := Lib.hid hb2'; clear hb2' z0 z1 z2 z3; obtain ⟨z0, z1, z2, z3⟩ := (R1.out.2.2.below hb2.out).N.span))
      obtain ⟨w3, hw3⟩ : ∃ w3, (w2.setCell ⟨w1.heap.size, 0, none⟩ (.int .i64 n2.1)).setCell ⟨w1.heap.size, 1, none⟩ (.int .i64 n2.2) = w3 := ⟨_, rfl⟩
      have hM3 : KM t w w1 vg vs good struck n2 w3 := by rw [← hw3]; exact (R1.out.2.2.below hb2.out).setN n2
      have oX3 : Ob w3 wr.heap.size 64 #[.int .i64 (t.first + (m : Int)), .int .i64 xg, .int .i64 xe] := by rw [← hw3]; exact ((R1.out.2.1.below hb2.out).other (by simp only; omega) _).other (by simp only; omega) _
      have hB3 : Below w.heap.size w w3 := B_trans hb0.out (B_trans (show Below w0.heap.size w0 w1 from hb1.out) (hM3.b.mono (by have := hb1.out.size; omega)))
      try rw [hw3]
      clear hw3 z0 z1 z2 z3 e0 e1 e2 f0 f1 f2 f3 f4 f5 f6 f7 f8 f9 f10 f11 f12 R1 hb2 HO2 hwx' PP
      obtain ⟨kp, hkp⟩ : ∃ kp, keepS t.r xg xe = kp := ⟨_, rfl⟩
      have hn2c : CanOK n2 := by rw [← hn2.out]; exact on_can hO hst CC.out (by rw [List.length_map, hR.d.len]; exact hmdn)
      have hkpc : InSp kp := by rw [← hkp]; exact keep_in hO _ _
      have HK : Hid (∀ W', Calls Try.prog 94 #[.agg t.r.cs, .agg #[.int .i64 (t.first + (m : Int)), .int .i64 xg, .int .i64 xe]] W' fun x w' => x = .returned (.agg #[.int .i64 kp.1, .int .i64 kp.2]) ∧ Below W'.heap.size W' w') := by rw [Hid, ← hkp]; exact fun W' => refKeeping_any t.r hs ws _ xg xe W' hO ⟨y3, y4⟩ ⟨y5, y6⟩
      have HB := Lib.hid (fun W' => refBoth_any n2.1 n2.2 kp.1 kp.2 W')
      obtain ⟨J, hJ⟩ : ∃ J, joinS n2 kp = J := ⟨_, rfl⟩
      have hJ1 : max n2.1 kp.1 = J.1 := congrArg Prod.fst hJ
      have hJ2 : min n2.2 kp.2 = J.2 := congrArg Prod.snd hJ
      rw [hJ1, hJ2] at HB
      have hstep : takeF t hs ws ds ts (c + 1) = if J.1 ≤ J.2 then ⟨good ++ [i], struck, J, m⟩ else ⟨good, struck ++ [((i : Int), lastBy t.r (ds.map (strS hs ws)) ts (morT t ts) i good)], n2, m⟩ := by
        obtain ⟨h1, h2, h3⟩ := QQ.out
        rw [h1]
        unfold takeS
        simp only
        rw [h2, h3, hn2.out, hkp, hJ]
      have HS := Lib.hid (fun (W' : World) (hh : Below w3.heap.size w3 W') => (show (W'.cell? ⟨w.heap.size, 0, none⟩ = some (.slice t.r.ha t.r.hn t.r.hc) ∧ W'.cell? ⟨w.heap.size, 1, none⟩ = some (.slice t.r.wa t.r.wn t.r.wc) ∧ W'.cell? ⟨w.heap.size, 2, none⟩ = some (.int .i64 t.r.own) ∧ W'.cell? ⟨w.heap.size, 3, none⟩ = some (.int .i64 t.r.feed) ∧ W'.cell? ⟨w.heap.size, 4, none⟩ = some (.int .i64 t.r.g0) ∧ W'.cell? ⟨w.heap.size, 5, none⟩ = some (.int .i64 t.r.g1) ∧ W'.cell? ⟨w.heap.size, 6, none⟩ = some (.int .i64 t.r.g2) ∧ W'.cell? ⟨w.heap.size, 7, none⟩ = some (.int .i64 t.r.lost) ∧ W'.cell? ⟨w.heap.size, 8, none⟩ = some (.int .i64 t.first) ∧ W'.cell? ⟨w.heap.size, 9, none⟩ = some (.slice t.da t.dn t.dc) ∧ W'.cell? ⟨w.heap.size, 10, none⟩ = some (.int .i64 t.lo) ∧ W'.cell? ⟨w.heap.size, 11, none⟩ = some (.int .i64 t.hi) ∧ W'.cell? ⟨w.heap.size, 12, none⟩ = some (.slice (some ⟨p, o, none⟩) t.tn t.tc)) ∧ W'.cell? ⟨w1.heap.size, 0, none⟩ = some (.int .i64 n2.1) ∧ W'.cell? ⟨w1.heap.size, 1, none⟩ = some (.int .i64 n2.2) ∧ W'.cell? ⟨wr.heap.size, 0, none⟩ = some (.int .i64 (t.first + (m : Int))) ∧ W'.cell? ⟨wr.heap.size, 1, none⟩ = some (.int .i64 xg) ∧ W'.cell? ⟨wr.heap.size, 2, none⟩ = some (.int .i64 xe) from ⟨by have h := (hM3.below hh).T.task; rwa [hta.out] at h, (hM3.below hh).N.cell 0, (hM3.below hh).N.cell 1, (oX3.below hh).cell 0, (oX3.below hh).cell 1, (oX3.below hh).cell 2⟩))
      have gT3 := hM3.T.lt
      have gN3 := hM3.N.lt
      have gX3 := oX3.lt
      have PP := Lib.hid hM3
      have XX := Lib.hid oX3
      have B3 := Lib.hid hB3
      have ST := Lib.hid (And.intro hstep (And.intro hn2c (And.intro hkpc (And.intro hJ1 hJ2))))
      have KK := Lib.hid hkp
      clear hM3 oX3 hB3 hstep hn2c hkpc hJ1 hJ2 hJ hkp
      go_cut [12] (fun a wx => ∃ g : Nat, a = .pointer (some ⟨g, 0, none⟩) ∧ w3.heap.size ≤ g ∧ Ob wx g 28 #[.int .i64 J.1, .int .i64 J.2] ∧ Below w3.heap.size w3 wx)
      case first =>
        refine wp_region_held' (S := fun W' => Below w3.heap.size w3 W') (by kernel_rfl) ((Below.refl _ w3).drew) (fun hHeld => ?_)
        refine wpAnyH_take2 (i := 0) (t := 47) (v := ?_) rfl rfl (by kernel_rfl) (by kernel_rfl) (by kernel_rfl) (fun _ _ _ h => Only.not_panic h) (Or.inl ⟨by kernel_rfl, fun W hW => ?_⟩) (by assumption) ?_
        rotate_left
        · have hW2 := hW
          obtain ⟨⟨f0, f1, f2, f3, f4, f5, f6, f7, f8, f9, f10, f11, f12⟩, n0, n1, x0, x1, x2⟩ := HS.out W hW2
          clear hW hW2
          go_simp
          try with_reducible rfl
        try simp only [Act.put, List.setIfInBounds_toArray, List.set_cons_zero, List.set_cons_succ]
        refine wpAnyH_take2 (i := 1) (t := 48) (v := ?_) rfl rfl (by kernel_rfl) (by kernel_rfl) (by kernel_rfl) (fun _ _ _ h => Only.not_panic h) (Or.inl ⟨by kernel_rfl, fun W hW => ?_⟩) (by assumption) ?_
        rotate_left
        · have hW2 := hW
          obtain ⟨⟨f0, f1, f2, f3, f4, f5, f6, f7, f8, f9, f10, f11, f12⟩, n0, n1, x0, x1, x2⟩ := HS.out W hW2
          clear hW hW2
          go_simp
          try with_reducible rfl
        try simp only [Act.put, List.setIfInBounds_toArray, List.set_cons_zero, List.set_cons_succ]
        refine wpAnyH_take2 (i := 2) (t := 49) (v := ?_) rfl rfl (by kernel_rfl) (by kernel_rfl) (by kernel_rfl) (fun _ _ _ h => Only.not_panic h) (Or.inl ⟨by kernel_rfl, fun W hW => ?_⟩) (by assumption) ?_
        rotate_left
        · have hW2 := hW
          obtain ⟨⟨f0, f1, f2, f3, f4, f5, f6, f7, f8, f9, f10, f11, f12⟩, n0, n1, x0, x1, x2⟩ := HS.out W hW2
          clear hW hW2
          go_simp
          try with_reducible rfl
        try simp only [Act.put, List.setIfInBounds_toArray, List.set_cons_zero, List.set_cons_succ]
        refine wpAnyH_take2 (i := 3) (t := 50) (v := ?_) rfl rfl (by kernel_rfl) (by kernel_rfl) (by kernel_rfl) (fun _ _ _ h => Only.not_panic h) (Or.inl ⟨by kernel_rfl, fun W hW => ?_⟩) (by assumption) ?_
        rotate_left
        · have hW2 := hW
          obtain ⟨⟨f0, f1, f2, f3, f4, f5, f6, f7, f8, f9, f10, f11, f12⟩, n0, n1, x0, x1, x2⟩ := HS.out W hW2
          clear hW hW2
          go_simp
          try with_reducible rfl
        try simp only [Act.put, List.setIfInBounds_toArray, List.set_cons_zero, List.set_cons_succ]
        refine wpAnyH_ready (rs := [4, 6]) (by kernel_rfl) (by simp) ?_
        refine AllReadyH.cons rfl (fun K hK => ?_) ?_
        · go_simp
          with_reducible refine (HK.out _).mono ?_
          rintro e w4 ⟨rfl, hb4⟩
          try simp only []
          refine hK.out _ _ ?_ (fun hHeld => ?_)
          · exact B_trans hHeld hb4
          clear hK K
          try simp only [Act.put, List.setIfInBounds_toArray, List.set_cons_zero, List.set_cons_succ]
          refine wpAnyH_ready (rs := [5, 6]) (by kernel_rfl) (by simp) ?_
          refine AllReadyH.cons rfl (fun K hK => ?_) ?_
          · go_simp
            with_reducible refine (HB.out _).mono ?_
            rintro e w5 ⟨rfl, hb5⟩
            try simp only []
            refine hK.out _ _ ?_ (fun hHeld => ?_)
            · exact B_trans hHeld hb5
            clear hK K
            try simp only [Act.put, List.setIfInBounds_toArray, List.set_cons_zero, List.set_cons_succ]
            refine wpAnyH_ready (rs := [6]) (by kernel_rfl) (by simp) ?_
            refine AllReadyH.cons rfl (fun K hK => ?_) ?_
            · go_simp
              have hpre := hHeld
              have o9 := Lib.hid (Ob.new (w5) #[.int .i64 0, .int .i64 0] 28)
              have hb9 := hHeld.size
              refine hK.out _ _ ?_ (fun hHeld => ?_)
              · exact B_alloc hHeld _
              clear hK K
              try simp only [Act.put, List.setIfInBounds_toArray, List.set_cons_zero, List.set_cons_succ]
              refine wpAnyH_ready (rs := [7]) (by kernel_rfl) (by simp) ?_
              refine AllReadyH.cons rfl (fun K hK => ?_) ?_
              · have v0 := o9.out.cell 0
                have v1 := o9.out.cell 1
                have g0 := o9.out.frozen 0
                have g1 := o9.out.frozen 1
                simp only [List.getElem?_toArray, List.getElem?_cons_zero, List.getElem?_cons_succ] at v0 v1
                go_simp
                refine hK.out _ _ ?_ (fun hHeld => ?_)
                · first | exact B_alloc hpre _ | exact (hHeld.setCell (by first | omega | (simp only; omega) | (simp; omega)) _).setCell (by first | omega | (simp only; omega) | (simp; omega)) _
                clear hK K
                try simp only [Act.put, List.setIfInBounds_toArray, List.set_cons_zero, List.set_cons_succ]
                refine wpAnyH_done (by kernel_rfl) (Only.mk ?_) _
                go_wp2_with fail
                go_meet
                first | exact ⟨_, rfl, by first | omega | exact Nat.le_refl _, Ob.new _ _ _, hHeld⟩ | exact ⟨_, rfl, by first | omega | exact Nat.le_refl _, (o9.out.set 0 _).set 1 _, hHeld⟩
              exact AllReadyH.nil
            exact AllReadyH.nil
          refine AllReadyH.cons rfl (fun K hK => ?_) ?_
          · go_simp
            have hpre := hHeld
            have o9 := Lib.hid (Ob.new (w4) #[.int .i64 0, .int .i64 0] 28)
            have hb9 := hHeld.size
            refine hK.out _ _ ?_ (fun hHeld => ?_)
            · exact B_alloc hHeld _
            clear hK K
            try simp only [Act.put, List.setIfInBounds_toArray, List.set_cons_zero, List.set_cons_succ]
            refine wpAnyH_ready (rs := [5]) (by kernel_rfl) (by simp) ?_
            refine AllReadyH.cons rfl (fun K hK => ?_) ?_
            · go_simp
              with_reducible refine (HB.out _).mono ?_
              rintro e w5 ⟨rfl, hb5⟩
              try simp only []
              replace o9 := Lib.hid (o9.out.below hb5)
              refine hK.out _ _ ?_ (fun hHeld => ?_)
              · exact B_trans hHeld hb5
              clear hK K
              try simp only [Act.put, List.setIfInBounds_toArray, List.set_cons_zero, List.set_cons_succ]
              refine wpAnyH_ready (rs := [7]) (by kernel_rfl) (by simp) ?_
              refine AllReadyH.cons rfl (fun K hK => ?_) ?_
              · have v0 := o9.out.cell 0
                have v1 := o9.out.cell 1
                have g0 := o9.out.frozen 0
                have g1 := o9.out.frozen 1
                simp only [List.getElem?_toArray, List.getElem?_cons_zero, List.getElem?_cons_succ] at v0 v1
                go_simp
                refine hK.out _ _ ?_ (fun hHeld => ?_)
                · first | exact B_alloc hpre _ | exact (hHeld.setCell (by first | omega | (simp only; omega) | (simp; omega)) _).setCell (by first | omega | (simp only; omega) | (simp; omega)) _
                clear hK K
                try simp only [Act.put, List.setIfInBounds_toArray, List.set_cons_zero, List.set_cons_succ]
                refine wpAnyH_done (by kernel_rfl) (Only.mk ?_) _
                go_wp2_with fail
                go_meet
                first | exact ⟨_, rfl, by first | omega | exact Nat.le_refl _, Ob.new _ _ _, hHeld⟩ | exact ⟨_, rfl, by first | omega | exact Nat.le_refl _, (o9.out.set 0 _).set 1 _, hHeld⟩
              exact AllReadyH.nil
            exact AllReadyH.nil
          exact AllReadyH.nil
        refine AllReadyH.cons rfl (fun K hK => ?_) ?_
        · go_simp
          have o9 := Lib.hid (show Ob (w3.drew.alloc (.cells #[.int .i64 0, .int .i64 0] 28)) w3.heap.size 28 #[.int .i64 0, .int .i64 0] from Ob.new _ _ _)
          have hpre := hHeld
          refine hK.out _ _ ?_ (fun hHeld => ?_)
          · exact B_alloc hHeld _
          clear hK K
          try simp only [Act.put, List.setIfInBounds_toArray, List.set_cons_zero, List.set_cons_succ]
          refine wpAnyH_ready (rs := [4]) (by kernel_rfl) (by simp) ?_
          refine AllReadyH.cons rfl (fun K hK => ?_) ?_
          · go_simp
            with_reducible refine (HK.out _).mono ?_
            rintro e w4 ⟨rfl, hb4⟩
            try simp only []
            replace o9 := Lib.hid (o9.out.below hb4)
            refine hK.out _ _ ?_ (fun hHeld => ?_)
            · exact B_trans hHeld hb4
            clear hK K
            try simp only [Act.put, List.setIfInBounds_toArray, List.set_cons_zero, List.set_cons_succ]
            refine wpAnyH_ready (rs := [5]) (by kernel_rfl) (by simp) ?_
            refine AllReadyH.cons rfl (fun K hK => ?_) ?_
            · go_simp
              with_reducible refine (HB.out _).mono ?_
              rintro e w5 ⟨rfl, hb5⟩
              try simp only []
              replace o9 := Lib.hid (o9.out.below hb5)
              refine hK.out _ _ ?_ (fun hHeld => ?_)
              · exact B_trans hHeld hb5
              clear hK K
              try simp only [Act.put, List.setIfInBounds_toArray, List.set_cons_zero, List.set_cons_succ]
              refine wpAnyH_ready (rs := [7]) (by kernel_rfl) (by simp) ?_
              refine AllReadyH.cons rfl (fun K hK => ?_) ?_
              · have v0 := o9.out.cell 0
                have v1 := o9.out.cell 1
                have g0 := o9.out.frozen 0
                have g1 := o9.out.frozen 1
                simp only [List.getElem?_toArray, List.getElem?_cons_zero, List.getElem?_cons_succ] at v0 v1
                go_simp
                refine hK.out _ _ ?_ (fun hHeld => ?_)
                · first | exact B_alloc hpre _ | exact (hHeld.setCell (by first | omega | (simp only; omega) | (simp; omega)) _).setCell (by first | omega | (simp only; omega) | (simp; omega)) _
                clear hK K
                try simp only [Act.put, List.setIfInBounds_toArray, List.set_cons_zero, List.set_cons_succ]
                refine wpAnyH_done (by kernel_rfl) (Only.mk ?_) _
                go_wp2_with fail
                go_meet
                first | exact ⟨_, rfl, by first | omega | exact Nat.le_refl _, Ob.new _ _ _, hHeld⟩ | exact ⟨_, rfl, by first | omega | exact Nat.le_refl _, (o9.out.set 0 _).set 1 _, hHeld⟩
              exact AllReadyH.nil
            exact AllReadyH.nil
          exact AllReadyH.nil
        exact AllReadyH.nil
      case rest =>
        clear HS HB
        obtain ⟨g, rfl, hgw, oS, hbx⟩ := hcut
        obtain ⟨s0, s1, -, -⟩ := oS.span
        have hMc := PP.out.below hbx
        obtain ⟨z0, z1, z2, z3⟩ := hMc.N.span
        have cL : wc.cell? ⟨q, c, none⟩ = some (.int .i64 (i : Int)) := (hMc.b.cell (p := ⟨q, c, none⟩) hL1.out.2).trans hL1.out.1
        have hgN : g ≠ w1.heap.size := by omega
        have MC := Lib.hid hMc
        have BX := Lib.hid hbx
        clear hMc oS hbx
        by_cases hle : J.1 ≤ J.2
        · have hstep : Hid (takeF t hs ws ds ts (c + 1) = ⟨good ++ [i], struck, J, m⟩) := by rw [Hid, ST.out.1, if_pos hle]
          have hJc : Hid (CanOK J) := by
            obtain ⟨-, h1, h2, h3, h4⟩ := ST.out
            have h5 := h1.both h2 (by rw [h3, h4]; exact hle)
            rw [h3, h4] at h5
            exact h5
          go_upto_region 14 with fail
          obtain ⟨w4, hw4⟩ : ∃ w4, (wc.setCell ⟨w1.heap.size, 0, none⟩ (.int .i64 J.1)).setCell ⟨w1.heap.size, 1, none⟩ (.int .i64 J.2) = w4 := ⟨_, rfl⟩
          have hM4 : KM t w w1 vg vs good struck J w4 := by rw [← hw4]; exact MC.out.setN J
          rw [hw4]
          clear hw4 cL s0 s1 z0 z1 z2 z3
          have cL : w4.cell? ⟨q, c, none⟩ = some (.int .i64 (i : Int)) := (hM4.b.cell (p := ⟨q, c, none⟩) hL1.out.2).trans hL1.out.1
          replace hM4 := Lib.hid hM4
          go_wp2_with ((at_builtin; refine wpList_append_own _ rfl _ _ 46 rfl (w1.heap.size + 1) 3 i3 (.int .i64 0) 1 8 Try.underlying46 I3.out.1 I3.out.2.1 I3.out.2.2.1 I3.out.2.2.2 rfl (by decide) _ _ _ rfl ((hM4.out.below (B_alloc (Below.refl _ _) _)).G) ⟨w4.heap.size, 0, none⟩ 1 1 [.int .i64 (i : Int)] rfl rfl ?c1 ?c2 ?c3 ?c4 ?c5 ?_))
          case c1 =>
            intro j u h
            rw [show (⟨w4.heap.size, 0, none⟩ : Addr).add j = ⟨w4.heap.size, j, none⟩ by simp [Addr.add, eq_comm]]
            rw [(Ob.new w4 #[.int .i64 (i : Int)] 3).cell]
            simpa using h
          case c2 => intro u hu; simp at hu; rcases hu with rfl; rfl
          case c3 => obtain ⟨d1, d2, d3, d4⟩ := DD.out; unfold maxLen; omega
          case c4 => obtain ⟨d1, d2, d3, d4⟩ := DD.out; omega
          case c5 => have := hM4.out.N.lt; simp; omega
          intro v' w5 hown' hgrow _
          have hM5 := Lib.hid ((hM4.out.below (B_alloc (Below.refl _ _) (.cells #[.int .i64 (i : Int)] 3))).addG hgrow hown')
          clear hown' hgrow hM4 cL
          go_wp2_with fail
          go_roundg (t.tn - (c + 1))
          case measure => omega
          case rel =>
            refine ⟨c + 1, _, _, rfl, rfl, rfl, by push_cast; rfl, by omega, ?_⟩
            rw [hstep.out]
            obtain ⟨d1, d2, d3, d4⟩ := DD.out
            refine ⟨rfl, hM5.out, hJc.out, hmdn, ?_, by simp; omega, by simp only; omega⟩
            intro k hk
            rcases List.mem_append.1 hk with h | h
            · exact d2 k h
            · rw [List.mem_singleton] at h; omega
        · have hstep : Hid (takeF t hs ws ds ts (c + 1) = ⟨good, struck ++ [((i : Int), lastBy t.r (ds.map (strS hs ws)) ts (morT t ts) i good)], n2, m⟩) := by rw [Hid, ST.out.1, if_neg hle]
          obtain ⟨ga, gcap, rfl⟩ : ∃ a cap, vg = .slice a good.length cap := by
            rcases MC.out.G.2 with ⟨e1, e2⟩ | ⟨q, cap, cur, e1, -⟩
            · exact ⟨none, 0, by rw [e1, e2]⟩
            · exact ⟨_, _, e1⟩
          have hB5 := BX.out
          clear z0 z1 z2 z3
          obtain ⟨wo, rfl⟩ : ∃ wo, wo = wr := ⟨wr, rfl⟩
          go_wp2_with fail
          go_loopg [13, 14] good.length (fun gj b j wy => ∃ e : Nat, gj = good.length - e ∧ j = .int .i64 (e : Int) ∧ e ≤ good.length ∧ b = .int .i64 (lastBy t.r (ds.map (strS hs ws)) ts (morT t ts) i (good.take e)) ∧ Below w3.heap.size w3 wy)
          case atStart => exact ⟨0, rfl, rfl, Nat.zero_le _, rfl, hB5⟩
          case round =>
            obtain ⟨wy, rfl⟩ : ∃ wy, wy = wr := ⟨wr, rfl⟩
            obtain ⟨e, rfl, rfl, he, rfl, hBy⟩ := hrel
            clear hB5 s0 s1 cL
            have hMy := PP.out.below hBy
            by_cases hel : e < good.length
            · obtain ⟨gq, gcap', gcur, hge, hgq, hgO, -, -, -, hgk⟩ := row1_form hMy.G (by omega)
              cases hge
              have gL := row1_cell hgO hgk rfl hel
              have hgl := hgO.lt
              have hji : good.getD e 0 < t.tn := DD.out.2.1 _ (getD_mem hel)
              have hlb := lastBy_take t.r (ds.map (strS hs ws)) ts (morT t ts) i hel
              obtain ⟨x0, x1, x2⟩ := htcs.out _ hji
              obtain ⟨⟨b1, b2⟩, ⟨b3, b4⟩, b5, b6⟩ := hts _ hji
              have hmor2 : morT t ts (good.getD e 0) = ((ts.getD (good.getD e 0) (0, 0, 0)).1 - t.first).toNat := rfl
              have hkt2 : keepT t.r ts (good.getD e 0) = keepS t.r (ts.getD (good.getD e 0) (0, 0, 0)).2.1 (ts.getD (good.getD e 0) (0, 0, 0)).2.2 := rfl
              generalize good.getD e 0 = j at gL hji hlb x0 x1 x2 b1 b2 b3 b4 b5 b6 hmor2 hkt2
              generalize ts.getD j (0, 0, 0) = y at x0 x1 x2 b1 b2 b3 b4 b5 b6 hmor2 hkt2
              obtain ⟨yd, yg, ye⟩ := y
              simp only at x0 x1 x2 b1 b2 b3 b4 b5 b6 hmor2 hkt2
              obtain ⟨l, rfl⟩ : ∃ l : Nat, yd = t.first + l := ⟨(yd - t.first).toNat, by omega⟩
              rw [show (t.first + (l : Int) - t.first).toNat = l by omega] at hmor2
              have hBwy : Below w.heap.size w wy := B_trans B3.out hBy
              have g0 := (hBwy.cell (p := ⟨p, _, none⟩) hpl).trans x0
              have g1 := (hBwy.cell (p := ⟨p, _, none⟩) hpl).trans x1
              have g2 := (hBwy.cell (p := ⟨p, _, none⟩) hpl).trans x2
              clear x0 x1 x2
              have u2 : IntKind.i64.wrap (t.first + (l : Int) - t.first) = l := by rw [show t.first + (l : Int) - t.first = l by omega]; exact IntWalk.i64_in _ (by omega)
              have u3 : IntKind.i64.wrap ((e : Int) + 1) = (e : Int) + 1 := IntWalk.i64_in _ (by have := DD.out.2.2.1; omega)
              obtain ⟨kj, hkj⟩ : ∃ kj, keepS t.r yg ye = kj := ⟨_, rfl⟩
              have hkjc : InSp kj := by rw [← hkj]; exact keep_in hO _ _
              obtain ⟨nj, hnj⟩ : ∃ nj, nextFold t.r (ds.map (strS hs ws)) kj (List.range' l (m - l)) = nj := ⟨_, rfl⟩
              obtain ⟨A1, hA1⟩ : ∃ A1, max nj.1 kp.1 = A1 := ⟨_, rfl⟩
              obtain ⟨A2, hA2⟩ : ∃ A2, min nj.2 kp.2 = A2 := ⟨_, rfl⟩
              have hstop : stopB t.r (ds.map (strS hs ws)) ts (morT t ts) i j = !decide (A1 ≤ A2) := by
                obtain ⟨h1, h2, h3⟩ := QQ.out
                unfold stopB
                rw [h2, h3, KK.out, hmor2, hkt2, hkj, hnj, hA1, hA2]
              rw [hstop] at hlb
              have oXy := XX.out.below hBy
              obtain ⟨f0, f1, f2, f3, f4, f5, f6, f7, f8, f9, f10, f11, f12⟩ := hMy.T.task
              rw [hta.out] at f12
              have c1 : (0 : Int) ≤ e := by omega
              have c2 : (e : Int) < good.length := by omega
              have c3 : (0 : Int) ≤ j := by omega
              have c4 : (j : Int) < t.tn := by omega
              have szy := hMy.T.lt
              have gpy : p < wy.heap.size := Nat.lt_of_lt_of_le hpl hBwy.size
              have szx := oXy.lt
              have MY := Lib.hid hMy
              have XY := Lib.hid oXy
              have BY := Lib.hid hBy
              have BW := Lib.hid hBwy
              have LB := Lib.hid hlb
              have HJ := Lib.hid hkj
              have HN := Lib.hid hnj
              have HA := Lib.hid (And.intro hA1 hA2)
              have GL := Lib.hid (And.intro gL hgl)
              clear hMy oXy hBy hBwy hlb hkj hnj hA1 hA2 hgO hgk hstop hmor2 hkt2
              go_wp2_with fail
              go_region
              obtain ⟨wz, hwz⟩ : ∃ wz, (wy.alloc (.cells #[.int .i64 (t.first + (l : Int)), .int .i64 yg, .int .i64 ye] 64)).drew = wz := ⟨_, rfl⟩
              have hbz : Below wy.heap.size wy wz := by rw [← hwz]; exact (B_alloc (Below.refl _ _) _).drew
              have oY : Ob wz wy.heap.size 64 #[.int .i64 (t.first + (l : Int)), .int .i64 yg, .int .i64 ye] := by rw [← hwz]; exact (Ob.new _ _ _).drew
              have hMz := MY.out.below hbz
              have oXz := XY.out.below hbz
              clear f0 f1 f2 f3 f4 f5 f6 f7 f8 f9 f10 f11 f12 g0 g1 g2 gL
              have HK2 : Hid (∀ W', Calls Try.prog 94 #[.agg t.r.cs, .agg #[.int .i64 (t.first + (l : Int)), .int .i64 yg, .int .i64 ye]] W' fun x w' => x = .returned (.agg #[.int .i64 kj.1, .int .i64 kj.2]) ∧ Below W'.heap.size W' w') := by rw [Hid, ← HJ.out]; exact fun W' => refKeeping_any t.r hs ws _ yg ye W' hO ⟨b3, b4⟩ ⟨b5, b6⟩
              have HN2 : Hid (∀ W', Below wz.heap.size wz W' → Calls Try.prog 92 #[.agg t.cs, .agg #[.int .i64 kj.1, .int .i64 kj.2], .int .i64 l, .int .i64 m] W' fun e w' => e = .returned (.agg #[.int .i64 nj.1, .int .i64 nj.2]) ∧ Below W'.heap.size W' w') := by
                rw [Hid, ← HN.out]
                exact fun W' hh => refOn_any t hs ws ds ts kj l m W' (hR.below (B_trans BW.out (B_trans hbz hh))) hO hst hkjc hmdn hdn
              have HB2 : Hid (∀ W', Calls Try.prog 93 #[.agg #[.int .i64 nj.1, .int .i64 nj.2], .agg #[.int .i64 kp.1, .int .i64 kp.2]] W' fun e' w' => e' = .returned (.agg #[.int .i64 A1, .int .i64 A2]) ∧ Below W'.heap.size W' w') := by
                rw [Hid, ← HA.out.1, ← HA.out.2]
                exact fun W' => refBoth_any nj.1 nj.2 kp.1 kp.2 W'
              have HS2 := Lib.hid (fun (W' : World) (hh : Below wz.heap.size wz W') => (show (W'.cell? ⟨w.heap.size, 0, none⟩ = some (.slice t.r.ha t.r.hn t.r.hc) ∧ W'.cell? ⟨w.heap.size, 1, none⟩ = some (.slice t.r.wa t.r.wn t.r.wc) ∧ W'.cell? ⟨w.heap.size, 2, none⟩ = some (.int .i64 t.r.own) ∧ W'.cell? ⟨w.heap.size, 3, none⟩ = some (.int .i64 t.r.feed) ∧ W'.cell? ⟨w.heap.size, 4, none⟩ = some (.int .i64 t.r.g0) ∧ W'.cell? ⟨w.heap.size, 5, none⟩ = some (.int .i64 t.r.g1) ∧ W'.cell? ⟨w.heap.size, 6, none⟩ = some (.int .i64 t.r.g2) ∧ W'.cell? ⟨w.heap.size, 7, none⟩ = some (.int .i64 t.r.lost) ∧ W'.cell? ⟨w.heap.size, 8, none⟩ = some (.int .i64 t.first) ∧ W'.cell? ⟨w.heap.size, 9, none⟩ = some (.slice t.da t.dn t.dc) ∧ W'.cell? ⟨w.heap.size, 10, none⟩ = some (.int .i64 t.lo) ∧ W'.cell? ⟨w.heap.size, 11, none⟩ = some (.int .i64 t.hi) ∧ W'.cell? ⟨w.heap.size, 12, none⟩ = some (.slice t.ta t.tn t.tc)) ∧ W'.cell? ⟨wo.heap.size, 0, none⟩ = some (.int .i64 (t.first + (m : Int))) ∧ W'.cell? ⟨wo.heap.size, 1, none⟩ = some (.int .i64 xg) ∧ W'.cell? ⟨wo.heap.size, 2, none⟩ = some (.int .i64 xe) ∧ W'.cell? ⟨wy.heap.size, 0, none⟩ = some (.int .i64 (t.first + (l : Int))) ∧ W'.cell? ⟨wy.heap.size, 1, none⟩ = some (.int .i64 yg) ∧ W'.cell? ⟨wy.heap.size, 2, none⟩ = some (.int .i64 ye) from ⟨(hMz.below hh).T.task, (oXz.below hh).cell 0, (oXz.below hh).cell 1, (oXz.below hh).cell 2, (oY.below hh).cell 0, (oY.below hh).cell 1, (oY.below hh).cell 2⟩))
              have BZ := Lib.hid hbz
              have hwz' := Lib.hid hwz
              have szz : wy.heap.size < wz.heap.size := oY.lt
              clear hMz oXz oY hbz hwz b1 b2 b3 b4 b5 b6 hkjc
              go_upto_region 20 with fail
              try rw [hwz'.out]
              go_cut [16] (fun a wu => ∃ g : Nat, a = .pointer (some ⟨g, 0, none⟩) ∧ wz.heap.size ≤ g ∧ Ob wu g 28 #[.int .i64 A1, .int .i64 A2] ∧ Below wz.heap.size wz wu)
              case first =>
                clear hL hb1 hb0 o0 hw0 HO hst hp hts hfirst I3 I5 hR hO htcs hL1 QQ CC DD BB SZ PP MC BX B3 ST KK hstep MY XY BY BW LB HJ HN HA GL BZ hwz' hle hgN hgw hn2 XX hta hpl gp hq c1 c2 c3 c4 a1 a2 a3 a4 u1 y1 y2 y3 y4 y5 y6 he hel hlt hc hi hji hdn htn htn' f0 f1 f2 f3 f4 f5 f6 f7 f8 f9 f10 f11 f12
                refine wp_region_held' (S := fun W' => Below wz.heap.size wz W') (by kernel_rfl) ((Below.refl _ wz).drew) (fun hHeld => ?_)
                refine wpAnyH_take2 (i := 0) (t := 80) (v := ?_) rfl rfl (by kernel_rfl) (by kernel_rfl) (by kernel_rfl) (fun _ _ _ h => Only.not_panic h) (Or.inl ⟨by kernel_rfl, fun W hW => ?_⟩) (by assumption) ?_
                rotate_left
                · have hW2 := hW
                  obtain ⟨⟨f0, f1, f2, f3, f4, f5, f6, f7, f8, f9, f10, f11, f12⟩, x0, x1, x2, y0, y1, y2⟩ := HS2.out W hW2
                  clear hW hW2
                  go_simp
                  try with_reducible rfl
                try simp only [Act.put, List.setIfInBounds_toArray, List.set_cons_zero, List.set_cons_succ]
                refine wpAnyH_take2 (i := 1) (t := 81) (v := ?_) rfl rfl (by kernel_rfl) (by kernel_rfl) (by kernel_rfl) (fun _ _ _ h => Only.not_panic h) (Or.inl ⟨by kernel_rfl, fun W hW => ?_⟩) (by assumption) ?_
                rotate_left
                · have hW2 := hW
                  obtain ⟨⟨f0, f1, f2, f3, f4, f5, f6, f7, f8, f9, f10, f11, f12⟩, x0, x1, x2, y0, y1, y2⟩ := HS2.out W hW2
                  clear hW hW2
                  go_simp
                  try with_reducible rfl
                try simp only [Act.put, List.setIfInBounds_toArray, List.set_cons_zero, List.set_cons_succ]
                refine wpAnyH_take2 (i := 2) (t := 82) (v := ?_) rfl rfl (by kernel_rfl) (by kernel_rfl) (by kernel_rfl) (fun _ _ _ h => Only.not_panic h) (Or.inl ⟨by kernel_rfl, fun W hW => ?_⟩) (by assumption) ?_
                rotate_left
                · have hW2 := hW
                  obtain ⟨⟨f0, f1, f2, f3, f4, f5, f6, f7, f8, f9, f10, f11, f12⟩, x0, x1, x2, y0, y1, y2⟩ := HS2.out W hW2
                  clear hW hW2
                  go_simp
                  try with_reducible rfl
                try simp only [Act.put, List.setIfInBounds_toArray, List.set_cons_zero, List.set_cons_succ]
                refine wpAnyH_take2 (i := 3) (t := 83) (v := ?_) rfl rfl (by kernel_rfl) (by kernel_rfl) (by kernel_rfl) (fun _ _ _ h => Only.not_panic h) (Or.inl ⟨by kernel_rfl, fun W hW => ?_⟩) (by assumption) ?_
                rotate_left
                · have hW2 := hW
                  obtain ⟨⟨f0, f1, f2, f3, f4, f5, f6, f7, f8, f9, f10, f11, f12⟩, x0, x1, x2, y0, y1, y2⟩ := HS2.out W hW2
                  clear hW hW2
                  go_simp
                  try with_reducible rfl
                try simp only [Act.put, List.setIfInBounds_toArray, List.set_cons_zero, List.set_cons_succ]
                refine wpAnyH_take2 (i := 5) (t := 85) (v := ?_) rfl rfl (by kernel_rfl) (by kernel_rfl) (by kernel_rfl) (fun _ _ _ h => Only.not_panic h) (Or.inl ⟨by kernel_rfl, fun W hW => ?_⟩) (by assumption) ?_
                rotate_left
                · have hW2 := hW
                  obtain ⟨⟨f0, f1, f2, f3, f4, f5, f6, f7, f8, f9, f10, f11, f12⟩, x0, x1, x2, y0, y1, y2⟩ := HS2.out W hW2
                  clear hW hW2
                  go_simp
                  try with_reducible rfl
                try simp only [Act.put, List.setIfInBounds_toArray, List.set_cons_zero, List.set_cons_succ]
                refine wpAnyH_take2 (i := 6) (t := 86) (v := ?_) rfl rfl (by kernel_rfl) (by kernel_rfl) (by kernel_rfl) (fun _ _ _ h => Only.not_panic h) (Or.inl ⟨by kernel_rfl, fun W hW => ?_⟩) (by assumption) ?_
                rotate_left
                · have hW2 := hW
                  obtain ⟨⟨f0, f1, f2, f3, f4, f5, f6, f7, f8, f9, f10, f11, f12⟩, x0, x1, x2, y0, y1, y2⟩ := HS2.out W hW2
                  clear hW hW2
                  go_simp
                  try with_reducible rfl
                try simp only [Act.put, List.setIfInBounds_toArray, List.set_cons_zero, List.set_cons_succ]
                refine wpAnyH_take2 (i := 7) (t := 87) (v := ?_) rfl rfl (by kernel_rfl) (by kernel_rfl) (by kernel_rfl) (fun _ _ _ h => Only.not_panic h) (Or.inl ⟨by kernel_rfl, fun W hW => ?_⟩) (by assumption) ?_
                rotate_left
                · have hW2 := hW
                  obtain ⟨⟨f0, f1, f2, f3, f4, f5, f6, f7, f8, f9, f10, f11, f12⟩, x0, x1, x2, y0, y1, y2⟩ := HS2.out W hW2
                  clear hW hW2
                  go_simp
                  try with_reducible rfl
                try simp only [Act.put, List.setIfInBounds_toArray, List.set_cons_zero, List.set_cons_succ]
                refine wpAnyH_take2 (i := 8) (t := 88) (v := ?_) rfl rfl (by kernel_rfl) (by kernel_rfl) (by kernel_rfl) (fun _ _ _ h => Only.not_panic h) (Or.inl ⟨by kernel_rfl, fun W hW => ?_⟩) (by assumption) ?_
                rotate_left
                · have hW2 := hW
                  obtain ⟨⟨f0, f1, f2, f3, f4, f5, f6, f7, f8, f9, f10, f11, f12⟩, x0, x1, x2, y0, y1, y2⟩ := HS2.out W hW2
                  clear hW hW2
                  go_simp
                  try with_reducible rfl
                try simp only [Act.put, List.setIfInBounds_toArray, List.set_cons_zero, List.set_cons_succ]
                refine wpAnyH_take2 (i := 9) (t := 89) (v := ?_) rfl rfl (by kernel_rfl) (by kernel_rfl) (by kernel_rfl) (fun _ _ _ h => Only.not_panic h) (Or.inl ⟨by kernel_rfl, fun W hW => ?_⟩) (by assumption) ?_
                rotate_left
                · have hW2 := hW
                  obtain ⟨⟨f0, f1, f2, f3, f4, f5, f6, f7, f8, f9, f10, f11, f12⟩, x0, x1, x2, y0, y1, y2⟩ := HS2.out W hW2
                  clear hW hW2
                  go_simp
                  try with_reducible rfl
                try simp only [Act.put, List.setIfInBounds_toArray, List.set_cons_zero, List.set_cons_succ]
                refine wpAnyH_take2 (i := 10) (t := 90) (v := ?_) rfl rfl (by kernel_rfl) (by kernel_rfl) (by kernel_rfl) (fun _ _ _ h => Only.not_panic h) (Or.inl ⟨by kernel_rfl, fun W hW => ?_⟩) (by assumption) ?_
                rotate_left
                · have hW2 := hW
                  obtain ⟨⟨f0, f1, f2, f3, f4, f5, f6, f7, f8, f9, f10, f11, f12⟩, x0, x1, x2, y0, y1, y2⟩ := HS2.out W hW2
                  clear hW hW2
                  go_simp
                  try with_reducible rfl
                try simp only [Act.put, List.setIfInBounds_toArray, List.set_cons_zero, List.set_cons_succ]
                refine wpAnyH_take2 (i := 12) (t := 92) (v := ?_) rfl rfl (by kernel_rfl) (by kernel_rfl) (by kernel_rfl) (fun _ _ _ h => Only.not_panic h) (Or.inl ⟨by kernel_rfl, fun W hW => ?_⟩) (by assumption) ?_
                rotate_left
                · have hW2 := hW
                  obtain ⟨⟨f0, f1, f2, f3, f4, f5, f6, f7, f8, f9, f10, f11, f12⟩, x0, x1, x2, y0, y1, y2⟩ := HS2.out W hW2
                  clear hW hW2
                  go_simp
                  try with_reducible rfl
                try simp only [Act.put, List.setIfInBounds_toArray, List.set_cons_zero, List.set_cons_succ]
                refine wpAnyH_take2 (i := 13) (t := 93) (v := ?_) rfl rfl (by kernel_rfl) (by kernel_rfl) (by kernel_rfl) (fun _ _ _ h => Only.not_panic h) (Or.inl ⟨by kernel_rfl, fun W hW => ?_⟩) (by assumption) ?_
                rotate_left
                · have hW2 := hW
                  obtain ⟨⟨f0, f1, f2, f3, f4, f5, f6, f7, f8, f9, f10, f11, f12⟩, x0, x1, x2, y0, y1, y2⟩ := HS2.out W hW2
                  clear hW hW2
                  go_simp
                  try with_reducible rfl
                try simp only [Act.put, List.setIfInBounds_toArray, List.set_cons_zero, List.set_cons_succ]
                refine wpAnyH_take2 (i := 14) (t := 94) (v := ?_) rfl rfl (by kernel_rfl) (by kernel_rfl) (by kernel_rfl) (fun _ _ _ h => Only.not_panic h) (Or.inl ⟨by kernel_rfl, fun W hW => ?_⟩) (by assumption) ?_
                rotate_left
                · have hW2 := hW
                  obtain ⟨⟨f0, f1, f2, f3, f4, f5, f6, f7, f8, f9, f10, f11, f12⟩, x0, x1, x2, y0, y1, y2⟩ := HS2.out W hW2
                  clear hW hW2
                  go_simp
                  try with_reducible rfl
                try simp only [Act.put, List.setIfInBounds_toArray, List.set_cons_zero, List.set_cons_succ]
                refine wpAnyH_ready (rs := [4, 17]) (by kernel_rfl) (by simp) ?_
                refine AllReadyH.cons rfl (fun K hK => ?_) ?_
                · go_simp
                  with_reducible refine (HK2.out _).mono ?_
                  rintro e w4 ⟨rfl, hb4⟩
                  try simp only []
                  refine hK.out _ _ ?_ (fun hHeld => ?_)
                  · exact B_trans hHeld hb4
                  clear hK K
                  try simp only [Act.put, List.setIfInBounds_toArray, List.set_cons_zero, List.set_cons_succ]
                  refine wpAnyH_ready (rs := [11, 17]) (by kernel_rfl) (by simp) ?_
                  refine AllReadyH.cons rfl (fun K hK => ?_) ?_
                  · go_simp
                    with_reducible refine (HN2.out _ hHeld).mono ?_
                    rintro e w11 ⟨rfl, hb11⟩
                    try simp only []
                    refine hK.out _ _ ?_ (fun hHeld => ?_)
                    · exact B_trans hHeld hb11
                    clear hK K
                    try simp only [Act.put, List.setIfInBounds_toArray, List.set_cons_zero, List.set_cons_succ]
                    refine wpAnyH_ready (rs := [15, 17]) (by kernel_rfl) (by simp) ?_
                    refine AllReadyH.cons rfl (fun K hK => ?_) ?_
                    · go_simp
                      with_reducible refine (HK.out _).mono ?_
                      rintro e w15 ⟨rfl, hb15⟩
                      try simp only []
                      refine hK.out _ _ ?_ (fun hHeld => ?_)
                      · exact B_trans hHeld hb15
                      clear hK K
                      try simp only [Act.put, List.setIfInBounds_toArray, List.set_cons_zero, List.set_cons_succ]
                      refine wpAnyH_ready (rs := [16, 17]) (by kernel_rfl) (by simp) ?_
                      refine AllReadyH.cons rfl (fun K hK => ?_) ?_
                      · go_simp
                        with_reducible refine (HB2.out _).mono ?_
                        rintro e w16 ⟨rfl, hb16⟩
                        try simp only []
                        refine hK.out _ _ ?_ (fun hHeld => ?_)
                        · exact B_trans hHeld hb16
                        clear hK K
                        try simp only [Act.put, List.setIfInBounds_toArray, List.set_cons_zero, List.set_cons_succ]
                        refine wpAnyH_ready (rs := [17]) (by kernel_rfl) (by simp) ?_
                        refine AllReadyH.cons rfl (fun K hK => ?_) ?_
                        · go_simp
                          have hpre := hHeld
                          have o9 := Lib.hid (Ob.new (w16) #[.int .i64 0, .int .i64 0] 28)
                          have hb9 := hHeld.size
                          refine hK.out _ _ ?_ (fun hHeld => ?_)
                          · exact B_alloc hHeld _
                          clear hK K
                          try simp only [Act.put, List.setIfInBounds_toArray, List.set_cons_zero, List.set_cons_succ]
                          refine wpAnyH_ready (rs := [18]) (by kernel_rfl) (by simp) ?_
                          refine AllReadyH.cons rfl (fun K hK => ?_) ?_
                          · have v0 := o9.out.cell 0
                            have v1 := o9.out.cell 1
                            have g0 := o9.out.frozen 0
                            have g1 := o9.out.frozen 1
                            simp only [List.getElem?_toArray, List.getElem?_cons_zero, List.getElem?_cons_succ] at v0 v1
                            go_simp
                            refine hK.out _ _ ?_ (fun hHeld => ?_)
                            · first | exact B_alloc hpre _ | exact (hHeld.setCell (by first | omega | (simp only; omega) | (simp; omega)) _).setCell (by first | omega | (simp only; omega) | (simp; omega)) _
                            clear hK K
                            try simp only [Act.put, List.setIfInBounds_toArray, List.set_cons_zero, List.set_cons_succ]
                            refine wpAnyH_done (by kernel_rfl) (Only.mk ?_) _
                            go_wp2_with fail
                            go_meet
                            first | exact ⟨_, rfl, by first | omega | exact Nat.le_refl _, Ob.new _ _ _, hHeld⟩ | exact ⟨_, rfl, by first | omega | exact Nat.le_refl _, (o9.out.set 0 _).set 1 _, hHeld⟩
                          exact AllReadyH.nil
                        exact AllReadyH.nil
                      refine AllReadyH.cons rfl (fun K hK => ?_) ?_
                      · go_simp
                        have hpre := hHeld
                        have o9 := Lib.hid (Ob.new (w15) #[.int .i64 0, .int .i64 0] 28)
                        have hb9 := hHeld.size
                        refine hK.out _ _ ?_ (fun hHeld => ?_)
                        · exact B_alloc hHeld _
                        clear hK K
                        try simp only [Act.put, List.setIfInBounds_toArray, List.set_cons_zero, List.set_cons_succ]
                        refine wpAnyH_ready (rs := [16]) (by kernel_rfl) (by simp) ?_
                        refine AllReadyH.cons rfl (fun K hK => ?_) ?_
                        · go_simp
                          with_reducible refine (HB2.out _).mono ?_
                          rintro e w16 ⟨rfl, hb16⟩
                          try simp only []
                          replace o9 := Lib.hid (o9.out.below hb16)
                          refine hK.out _ _ ?_ (fun hHeld => ?_)
                          · exact B_trans hHeld hb16
                          clear hK K
                          try simp only [Act.put, List.setIfInBounds_toArray, List.set_cons_zero, List.set_cons_succ]
                          refine wpAnyH_ready (rs := [18]) (by kernel_rfl) (by simp) ?_
                          refine AllReadyH.cons rfl (fun K hK => ?_) ?_
                          · have v0 := o9.out.cell 0
                            have v1 := o9.out.cell 1
                            have g0 := o9.out.frozen 0
                            have g1 := o9.out.frozen 1
                            simp only [List.getElem?_toArray, List.getElem?_cons_zero, List.getElem?_cons_succ] at v0 v1
                            go_simp
                            refine hK.out _ _ ?_ (fun hHeld => ?_)
                            · first | exact B_alloc hpre _ | exact (hHeld.setCell (by first | omega | (simp only; omega) | (simp; omega)) _).setCell (by first | omega | (simp only; omega) | (simp; omega)) _
                            clear hK K
                            try simp only [Act.put, List.setIfInBounds_toArray, List.set_cons_zero, List.set_cons_succ]
                            refine wpAnyH_done (by kernel_rfl) (Only.mk ?_) _
                            go_wp2_with fail
                            go_meet
                            first | exact ⟨_, rfl, by first | omega | exact Nat.le_refl _, Ob.new _ _ _, hHeld⟩ | exact ⟨_, rfl, by first | omega | exact Nat.le_refl _, (o9.out.set 0 _).set 1 _, hHeld⟩
                          exact AllReadyH.nil
                        exact AllReadyH.nil
                      exact AllReadyH.nil
                    refine AllReadyH.cons rfl (fun K hK => ?_) ?_
                    · go_simp
                      have hpre := hHeld
                      have o9 := Lib.hid (Ob.new (w11) #[.int .i64 0, .int .i64 0] 28)
                      have hb9 := hHeld.size
                      refine hK.out _ _ ?_ (fun hHeld => ?_)
                      · exact B_alloc hHeld _
                      clear hK K
                      try simp only [Act.put, List.setIfInBounds_toArray, List.set_cons_zero, List.set_cons_succ]
                      refine wpAnyH_ready (rs := [15]) (by kernel_rfl) (by simp) ?_
                      refine AllReadyH.cons rfl (fun K hK => ?_) ?_
                      · go_simp
                        with_reducible refine (HK.out _).mono ?_
                        rintro e w15 ⟨rfl, hb15⟩
                        try simp only []
                        replace o9 := Lib.hid (o9.out.below hb15)
                        refine hK.out _ _ ?_ (fun hHeld => ?_)
                        · exact B_trans hHeld hb15
                        clear hK K
                        try simp only [Act.put, List.setIfInBounds_toArray, List.set_cons_zero, List.set_cons_succ]
                        refine wpAnyH_ready (rs := [16]) (by kernel_rfl) (by simp) ?_
                        refine AllReadyH.cons rfl (fun K hK => ?_) ?_
                        · go_simp
                          with_reducible refine (HB2.out _).mono ?_
                          rintro e w16 ⟨rfl, hb16⟩
                          try simp only []
                          replace o9 := Lib.hid (o9.out.below hb16)
                          refine hK.out _ _ ?_ (fun hHeld => ?_)
                          · exact B_trans hHeld hb16
                          clear hK K
                          try simp only [Act.put, List.setIfInBounds_toArray, List.set_cons_zero, List.set_cons_succ]
                          refine wpAnyH_ready (rs := [18]) (by kernel_rfl) (by simp) ?_
                          refine AllReadyH.cons rfl (fun K hK => ?_) ?_
                          · have v0 := o9.out.cell 0
                            have v1 := o9.out.cell 1
                            have g0 := o9.out.frozen 0
                            have g1 := o9.out.frozen 1
                            simp only [List.getElem?_toArray, List.getElem?_cons_zero, List.getElem?_cons_succ] at v0 v1
                            go_simp
                            refine hK.out _ _ ?_ (fun hHeld => ?_)
                            · first | exact B_alloc hpre _ | exact (hHeld.setCell (by first | omega | (simp only; omega) | (simp; omega)) _).setCell (by first | omega | (simp only; omega) | (simp; omega)) _
                            clear hK K
                            try simp only [Act.put, List.setIfInBounds_toArray, List.set_cons_zero, List.set_cons_succ]
                            refine wpAnyH_done (by kernel_rfl) (Only.mk ?_) _
                            go_wp2_with fail
                            go_meet
                            first | exact ⟨_, rfl, by first | omega | exact Nat.le_refl _, Ob.new _ _ _, hHeld⟩ | exact ⟨_, rfl, by first | omega | exact Nat.le_refl _, (o9.out.set 0 _).set 1 _, hHeld⟩
                          exact AllReadyH.nil
                        exact AllReadyH.nil
                      exact AllReadyH.nil
                    exact AllReadyH.nil
                  refine AllReadyH.cons rfl (fun K hK => ?_) ?_
                  · go_simp
                    have hpre := hHeld
                    have o9 := Lib.hid (Ob.new (w4) #[.int .i64 0, .int .i64 0] 28)
                    have hb9 := hHeld.size
                    refine hK.out _ _ ?_ (fun hHeld => ?_)
                    · exact B_alloc hHeld _
                    clear hK K
                    try simp only [Act.put, List.setIfInBounds_toArray, List.set_cons_zero, List.set_cons_succ]
                    refine wpAnyH_ready (rs := [11]) (by kernel_rfl) (by simp) ?_
                    refine AllReadyH.cons rfl (fun K hK => ?_) ?_
                    · go_simp
                      with_reducible refine (HN2.out _ hHeld).mono ?_
                      rintro e w11 ⟨rfl, hb11⟩
                      try simp only []
                      replace o9 := Lib.hid (o9.out.below hb11)
                      refine hK.out _ _ ?_ (fun hHeld => ?_)
                      · exact B_trans hHeld hb11
                      clear hK K
                      try simp only [Act.put, List.setIfInBounds_toArray, List.set_cons_zero, List.set_cons_succ]
                      refine wpAnyH_ready (rs := [15]) (by kernel_rfl) (by simp) ?_
                      refine AllReadyH.cons rfl (fun K hK => ?_) ?_
                      · go_simp
                        with_reducible refine (HK.out _).mono ?_
                        rintro e w15 ⟨rfl, hb15⟩
                        try simp only []
                        replace o9 := Lib.hid (o9.out.below hb15)
                        refine hK.out _ _ ?_ (fun hHeld => ?_)
                        · exact B_trans hHeld hb15
                        clear hK K
                        try simp only [Act.put, List.setIfInBounds_toArray, List.set_cons_zero, List.set_cons_succ]
                        refine wpAnyH_ready (rs := [16]) (by kernel_rfl) (by simp) ?_
                        refine AllReadyH.cons rfl (fun K hK => ?_) ?_
                        · go_simp
                          with_reducible refine (HB2.out _).mono ?_
                          rintro e w16 ⟨rfl, hb16⟩
                          try simp only []
                          replace o9 := Lib.hid (o9.out.below hb16)
                          refine hK.out _ _ ?_ (fun hHeld => ?_)
                          · exact B_trans hHeld hb16
                          clear hK K
                          try simp only [Act.put, List.setIfInBounds_toArray, List.set_cons_zero, List.set_cons_succ]
                          refine wpAnyH_ready (rs := [18]) (by kernel_rfl) (by simp) ?_
                          refine AllReadyH.cons rfl (fun K hK => ?_) ?_
                          · have v0 := o9.out.cell 0
                            have v1 := o9.out.cell 1
                            have g0 := o9.out.frozen 0
                            have g1 := o9.out.frozen 1
                            simp only [List.getElem?_toArray, List.getElem?_cons_zero, List.getElem?_cons_succ] at v0 v1
                            go_simp
                            refine hK.out _ _ ?_ (fun hHeld => ?_)
                            · first | exact B_alloc hpre _ | exact (hHeld.setCell (by first | omega | (simp only; omega) | (simp; omega)) _).setCell (by first | omega | (simp only; omega) | (simp; omega)) _
                            clear hK K
                            try simp only [Act.put, List.setIfInBounds_toArray, List.set_cons_zero, List.set_cons_succ]
                            refine wpAnyH_done (by kernel_rfl) (Only.mk ?_) _
                            go_wp2_with fail
                            go_meet
                            first | exact ⟨_, rfl, by first | omega | exact Nat.le_refl _, Ob.new _ _ _, hHeld⟩ | exact ⟨_, rfl, by first | omega | exact Nat.le_refl _, (o9.out.set 0 _).set 1 _, hHeld⟩
                          exact AllReadyH.nil
                        exact AllReadyH.nil
                      exact AllReadyH.nil
                    exact AllReadyH.nil
                  exact AllReadyH.nil
                refine AllReadyH.cons rfl (fun K hK => ?_) ?_
                · go_simp
                  have o9 := Lib.hid (show Ob (wz.drew.alloc (.cells #[.int .i64 0, .int .i64 0] 28)) wz.heap.size 28 #[.int .i64 0, .int .i64 0] from Ob.new _ _ _)
                  have hpre := hHeld
                  refine hK.out _ _ ?_ (fun hHeld => ?_)
                  · exact B_alloc hHeld _
                  clear hK K
                  try simp only [Act.put, List.setIfInBounds_toArray, List.set_cons_zero, List.set_cons_succ]
                  refine wpAnyH_ready (rs := [4]) (by kernel_rfl) (by simp) ?_
                  refine AllReadyH.cons rfl (fun K hK => ?_) ?_
                  · go_simp
                    with_reducible refine (HK2.out _).mono ?_
                    rintro e w4 ⟨rfl, hb4⟩
                    try simp only []
                    replace o9 := Lib.hid (o9.out.below hb4)
                    refine hK.out _ _ ?_ (fun hHeld => ?_)
                    · exact B_trans hHeld hb4
                    clear hK K
                    try simp only [Act.put, List.setIfInBounds_toArray, List.set_cons_zero, List.set_cons_succ]
                    refine wpAnyH_ready (rs := [11]) (by kernel_rfl) (by simp) ?_
                    refine AllReadyH.cons rfl (fun K hK => ?_) ?_
                    · go_simp
                      with_reducible refine (HN2.out _ hHeld).mono ?_
                      rintro e w11 ⟨rfl, hb11⟩
                      try simp only []
                      replace o9 := Lib.hid (o9.out.below hb11)
                      refine hK.out _ _ ?_ (fun hHeld => ?_)
                      · exact B_trans hHeld hb11
                      clear hK K
                      try simp only [Act.put, List.setIfInBounds_toArray, List.set_cons_zero, List.set_cons_succ]
                      refine wpAnyH_ready (rs := [15]) (by kernel_rfl) (by simp) ?_
                      refine AllReadyH.cons rfl (fun K hK => ?_) ?_
                      · go_simp
                        with_reducible refine (HK.out _).mono ?_
                        rintro e w15 ⟨rfl, hb15⟩
                        try simp only []
                        replace o9 := Lib.hid (o9.out.below hb15)
                        refine hK.out _ _ ?_ (fun hHeld => ?_)
                        · exact B_trans hHeld hb15
                        clear hK K
                        try simp only [Act.put, List.setIfInBounds_toArray, List.set_cons_zero, List.set_cons_succ]
                        refine wpAnyH_ready (rs := [16]) (by kernel_rfl) (by simp) ?_
                        refine AllReadyH.cons rfl (fun K hK => ?_) ?_
                        · go_simp
                          with_reducible refine (HB2.out _).mono ?_
                          rintro e w16 ⟨rfl, hb16⟩
                          try simp only []
                          replace o9 := Lib.hid (o9.out.below hb16)
                          refine hK.out _ _ ?_ (fun hHeld => ?_)
                          · exact B_trans hHeld hb16
                          clear hK K
                          try simp only [Act.put, List.setIfInBounds_toArray, List.set_cons_zero, List.set_cons_succ]
                          refine wpAnyH_ready (rs := [18]) (by kernel_rfl) (by simp) ?_
                          refine AllReadyH.cons rfl (fun K hK => ?_) ?_
                          · have v0 := o9.out.cell 0
                            have v1 := o9.out.cell 1
                            have g0 := o9.out.frozen 0
                            have g1 := o9.out.frozen 1
                            simp only [List.getElem?_toArray, List.getElem?_cons_zero, List.getElem?_cons_succ] at v0 v1
                            go_simp
                            refine hK.out _ _ ?_ (fun hHeld => ?_)
                            · first | exact B_alloc hpre _ | exact (hHeld.setCell (by first | omega | (simp only; omega) | (simp; omega)) _).setCell (by first | omega | (simp only; omega) | (simp; omega)) _
                            clear hK K
                            try simp only [Act.put, List.setIfInBounds_toArray, List.set_cons_zero, List.set_cons_succ]
                            refine wpAnyH_done (by kernel_rfl) (Only.mk ?_) _
                            go_wp2_with fail
                            go_meet
                            first | exact ⟨_, rfl, by first | omega | exact Nat.le_refl _, Ob.new _ _ _, hHeld⟩ | exact ⟨_, rfl, by first | omega | exact Nat.le_refl _, (o9.out.set 0 _).set 1 _, hHeld⟩
                          exact AllReadyH.nil
                        exact AllReadyH.nil
                      exact AllReadyH.nil
                    exact AllReadyH.nil
                  exact AllReadyH.nil
                exact AllReadyH.nil
              case rest =>
                clear HS2 HK2 HN2 HB2
                obtain ⟨g', rfl, hgw', oS', hbu⟩ := hcut
                obtain ⟨s0, s1, -, -⟩ := oS'.span
                have gL : wc.cell? ⟨gq, e, none⟩ = some (.int .i64 (j : Int)) := ((B_trans BZ.out hbu).cell (p := ⟨gq, e, none⟩) GL.out.2).trans GL.out.1
                have BU := Lib.hid (B_trans BY.out (B_trans BZ.out hbu))
                clear oS' hbu
                by_cases hAA : A1 ≤ A2
                · have hl2 : Hid (lastBy t.r (ds.map (strS hs ws)) ts (morT t ts) i (good.take (e + 1)) = lastBy t.r (ds.map (strS hs ws)) ts (morT t ts) i (good.take e)) := by rw [Hid, LB.out, decide_eq_true hAA]; simp
                  have hgt : ¬ A2 < A1 := by omega
                  go_wp2_with fail
                  go_roundg (good.length - (e + 1))
                  case measure => omega
                  case rel => exact ⟨e + 1, rfl, by push_cast; rfl, by omega, by rw [hl2.out], BU.out⟩
                · have hl2 : Hid (lastBy t.r (ds.map (strS hs ws)) ts (morT t ts) i (good.take (e + 1)) = (j : Int)) := by rw [Hid, LB.out, decide_eq_false hAA]; simp
                  have hgt : A2 < A1 := by omega
                  go_wp2_with fail
                  go_roundg (good.length - (e + 1))
                  case measure => omega
                  case rel => exact ⟨e + 1, rfl, by push_cast; rfl, by omega, by rw [hl2.out], BU.out⟩
            · obtain rfl : e = good.length := by omega
              have h2 : ¬ (good.length : Int) < good.length := by omega
              rw [lastBy_all]
              have hbd := lastBy_bd t.r (ds.map (strS hs ws)) ts (morT t ts) i t.tn good.reverse (fun k hk => DD.out.2.1 k (by simpa using hk))
              rw [List.reverse_reverse] at hbd
              have hM6 := Lib.hid hMy
              have cL : wy.cell? ⟨q, c, none⟩ = some (.int .i64 (i : Int)) := (hMy.b.cell (p := ⟨q, c, none⟩) hL1.out.2).trans hL1.out.1
              obtain ⟨bb, hbb⟩ : ∃ bb, lastBy t.r (ds.map (strS hs ws)) ts (morT t ts) i good = bb := ⟨_, rfl⟩
              rw [hbb] at hstep hbd
              rw [hbb]
              clear hbb hMy hBy
              go_wp2_with ((at_builtin; refine wpList_append_own _ rfl _ _ 50 rfl (w1.heap.size + 1) 78 i5 (.agg #[.int .i64 0, .int .i64 0]) 2 16 Try.underlying50 I5.out.1 I5.out.2.1 I5.out.2.2.1 I5.out.2.2.2 rfl (by decide) _ _ _ rfl ((hM6.out.below (B_alloc (Below.refl _ _) _)).S) ⟨wy.heap.size, 0, none⟩ 1 1 [.int .i64 (i : Int), .int .i64 bb] rfl rfl ?c1 ?c2 ?c3 ?c4 ?c5 ?_))
              case c2 => exact ⟨rfl, rfl⟩
              case c3 => obtain ⟨d1, d2, d3, d4⟩ := DD.out; unfold maxLen; omega
              case c4 => obtain ⟨d1, d2, d3, d4⟩ := DD.out; omega
              case c5 => have := hM6.out.N.lt; simp; omega
              intro v' w5 hown' hgrow _
              have hM7 := Lib.hid ((hM6.out.below (B_alloc (Below.refl _ _) (.cells #[.int .i64 (i : Int), .int .i64 bb] 78))).addS (q := ((i : Int), bb)) hgrow hown')
              clear hown' hgrow hM6 cL
              go_wp2_with fail
              go_roundg (t.tn - (c + 1))
              case measure => omega
              case rel =>
                refine ⟨c + 1, _, _, rfl, rfl, rfl, by push_cast; rfl, by omega, ?_⟩
                rw [hstep.out]
                obtain ⟨d1, d2, d3, d4⟩ := DD.out
                exact ⟨rfl, hM7.out, ST.out.2.1, hmdn, d2, by simp only; omega, by simp; omega⟩
    · obtain rfl : c = t.tn := by omega
      have h1 : ¬ (t.tn : Int) < t.tn := by omega
      obtain ⟨l1, l2, l3, -⟩ : ∃ q cap, v = .slice q t.tn cap ∧ True := by
        rcases hL.out.2 with ⟨e1, e2⟩ | ⟨q, cap, cur, e1, -⟩
        · exact ⟨none, 0, by rw [e1, e2], trivial⟩
        · exact ⟨_, _, e1, trivial⟩
      subst l3
      have PP := Lib.hid (And.intro hM.G (And.intro hM.S hB1))
      have SZ := Lib.hid hsz1
      clear hM hB1 hcan hmem hsz1
      go_wp2_with fail
      go_wp2
      refine bodyPost_ret (v := .tuple #[_, _]) (by simp [results, Try.results91, go_sem]; exact ⟨rfl, rfl⟩) rfl ⟨_, _, rfl, ?_⟩
      obtain ⟨p1, p2, p3⟩ := PP.out
      exact ⟨row_base p1 (by have := SZ.out; omega), row_base p2 (by have := SZ.out; omega), p3⟩
end Go.Proofs.Ytanjkhclhcnnaaa

/- Own of the reference; the law DecayOwns. -/
import Derived.Test.YtanjkhclhcnnaaaDG
namespace Go.Proofs.Ytanjkhclhcnnaaa
open Go.RowKit Go.Shelf

set_option maxRecDepth 100000 in
set_option maxHeartbeats 4000000 in
theorem refValid_any (t : TkA) (hs ws : List T2) (ds : List T4) (ts : List T3) (w : World) (hR : TkR w t hs ws ds ts) :
    Calls Try.prog 70 #[.agg t.cs] w fun e w' => e = .returned (.int .i64 (taskS t hs ws ds ts).2.2) ∧ Below w.heap.size w w' := by
  obtain ⟨w0, hw0⟩ : ∃ w0, (w).alloc (.cells t.cs 31) = w0 := ⟨_, rfl⟩
  have hb0 : Below w.heap.size w w0 := by rw [← hw0]; exact B_alloc (Below.refl _ _) _
  have o0 : Ob w0 (w.heap.size) 31 t.cs := by
    rw [← hw0]
    have h := Ob.new (w) t.cs 31
    exact h
  have H1 := Lib.hid (refCheckTask_any t hs ws ds ts w0 (hR.below hb0))
  obtain ⟨q0, q1, q2, q3, q4, q5, q6, q7, q8, q9, q10, q11, q12⟩ := o0.task
  generalize taskS t hs ws ds ts = c at H1 ⊢
  obtain ⟨c1, c2, c3⟩ := c
  simp only [tri] at H1 ⊢
  replace hb0 := Lib.hid hb0
  replace hw0 := Lib.hid hw0
  clear o0 hR
  go_enter Try.func70, Try.ntmps70
  go_wp2_with fail
  rw [hw0.out]
  refine H1.out.mono ?_
  rintro e w1 ⟨rfl, hb1⟩
  clear q0 q1 q2 q3 q4 q5 q6 q7 q8 q9 q10 q11 q12
  go_wp2
  refine bodyPost_ret (v := .int .i64 c3) (by simp [results, Try.results70, go_sem]) rfl ⟨rfl, B_trans hb0.out hb1⟩

theorem range_split {j n : Nat} (h : j < n) : ∃ post, List.range n = List.range j ++ j :: post := by
  refine ⟨(List.range n).drop (j + 1), ?_⟩
  have e : (List.range n).drop j = j :: (List.range n).drop (j + 1) := by
    rw [List.drop_eq_getElem_cons (by simpa using h)]; simp
  rw [← e]
  conv => lhs; rw [← List.take_append_drop j (List.range n)]
  rw [List.take_range, Nat.min_eq_left (by omega)]
structure I27 (t : TkA) (s : T2) (B g : Nat) (lo hi : Int) (bb : Bool) (w : World) (k : Nat) (outs : Nat → Value) (W : World) : Prop where
  T : Ob W B 31 t.cs
  S : Ob W g 28 #[.int .i64 s.1, .int .i64 s.2]
  b : Below w.heap.size w W
  o0 : 1 ≤ k → outs 0 = .int .i64 lo
  o1 : 2 ≤ k → outs 1 = .int .i64 hi
  o2 : 3 ≤ k → outs 2 = .bool bb
def V27 (t : TkA) (B cb co k cc : Nat) (s : T2) (n0 n1 : Int) (bb : Bool) (outs : Nat → Value) : Nat → Value
  | 51 => .slice (some ⟨cb, co, none⟩) (t.dn + 1) cc
  | 52 => .int .i64 k
  | 53 => .int .i64 ((k : Int) + 1)
  | 54 => .pointer (some ⟨cb, co + (k + 1), none⟩)
  | 55 => .int .i64 n1
  | 56 => .pointer (some ⟨B, 0, none⟩)
  | 57 => .agg t.r.cs
  | 58 => .agg #[.int .i64 s.1, .int .i64 s.2]
  | 59 => .slice (some ⟨cb, co, none⟩) (t.dn + 1) cc
  | 60 => .int .i64 k
  | 61 => .pointer (some ⟨cb, co + k, none⟩)
  | 62 => .int .i64 n0
  | 63 => outs 0
  | 64 => .pointer (some ⟨B, 0, none⟩)
  | 65 => .agg t.r.cs
  | 66 => .agg #[.int .i64 s.1, .int .i64 s.2]
  | 67 => .slice (some ⟨cb, co, none⟩) (t.dn + 1) cc
  | 68 => .int .i64 k
  | 69 => .pointer (some ⟨cb, co + k, none⟩)
  | 70 => .int .i64 n0
  | 71 => outs 1
  | 72 => outs 2
  | 73 => .bool (!bb)
  | _ => undef
def need27 : Nat → Nat := fun i => [0, 0, 0, 0, 0, 0, 0, 0, 0, 0, 0, 0, 0, 0, 0, 0, 0, 0, 0, 0, 1, 2, 3].getD i 0
def till27 : Nat → Nat := fun i => [3, 3, 3, 3, 2, 3, 0, 0, 3, 3, 3, 0, 0, 3, 1, 1, 3, 3, 3, 1, 1, 2, 3].getD i 0
def eff27 : Nat → Bool := fun i => [false, false, false, false, false, false, false, false, false, false, false, false, true, false, false, false, false, false, false, false, true, true, false].getD i false

set_option maxRecDepth 100000 in
set_option maxHeartbeats 8000000 in
theorem refOwn_any (t : TkA) (hs ws : List T2) (ds : List T4) (ts : List T3) (ca : Option Addr) (cn cc : Nat) (cs : List Int) (w : World) (hR : TkR w t hs ws ds ts) (hC : Sl1 w ca cn cs) (hcn : cn ≤ 140737488351232) :
    Calls Try.prog 27 #[.agg t.cs, .slice ca cn cc] w fun e w' => e = .returned (.tuple #[.int .i64 (ownF t hs ws ds ts cs).1, .int .i64 (ownF t hs ws ds ts cs).2]) ∧ Below w.heap.size w w' := by
  obtain ⟨w0, hw0⟩ : ∃ w0, (w).alloc (.cells t.cs 31) = w0 := ⟨_, rfl⟩
  have hb0 : Below w.heap.size w w0 := by rw [← hw0]; exact B_alloc (Below.refl _ _) _
  have o0 : Ob w0 (w.heap.size) 31 t.cs := by
    rw [← hw0]
    have h := Ob.new (w) t.cs 31
    exact h
  have H0 := Lib.hid (refValid_any t hs ws ds ts w0 (hR.below hb0))
  have hlen := hC.len
  have T1 := fun h => TaskOK.of (t := t) (hs := hs) (ws := ws) (ds := ds) (ts := ts) h
  unfold ownF
  obtain ⟨q0, q1, q2, q3, q4, q5, q6, q7, q8, q9, q10, q11, q12⟩ := o0.task
  replace o0 := Lib.hid o0
  replace hb0 := Lib.hid hb0
  replace hw0 := Lib.hid hw0
  by_cases he : (taskS t hs ws ds ts).2.2 = 0
  · rw [if_neg (by simpa using he)]
    rw [he] at H0
    have ok := T1 he
    clear T1
    have h400 := ok.dn
    have u1 : IntKind.i64.wrap ((t.dn : Int) + 1) = (t.dn : Int) + 1 := IntWalk.i64_in _ (by omega)
    by_cases hl : cs.length = t.dn + 1
    · rw [if_neg (by simpa using hl)]
      obtain rfl : cn = t.dn + 1 := by omega
      obtain ⟨cb, co, rfl, hcb, hcc⟩ := hC.at_ (by omega)
      have hO := RuOK.of ok.r
      have hst := days_str hO hR.d.len ok.days
      have hlv := lv_ok ok.start
      have hdl := hR.d.len
      have u0 : ((t.dn + 1 : Nat) : Int) = (t.dn : Int) + 1 := by omega
      have n0 := hcc 0 (by omega)
      simp only [Nat.add_zero] at n0
      have HI := Lib.hid (fun W => in_any (cs.getD 0 0) t.lo t.hi W)
      have hg0 : inB (cs.getD 0 0) t.lo t.hi = goodO t.r (ds.map (strS hs ws)) t.dn cs (t.lo, t.hi) (List.range 1) := by
        show _ = (inB (cs.getD 0 0) t.lo t.hi && true)
        rw [Bool.and_true]
      have hlo : (0 : Int) < (t.dn : Int) + 1 := by omega
      have hlo' : 0 < t.dn + 1 := by omega
      clear he hl ok
      go_enter Try.func27, Try.ntmps27
      go_wp2_with fail
      rw [hw0.out]
      refine H0.out.mono ?_
      rintro e w1 ⟨rfl, hb1⟩
      have hw1 := Lib.hid (B_trans hb0.out hb1)
      have oT := o0.out.below hb1
      clear q0 q1 q2 q3 q4 q5 q6 q7 q8 q9 q10 q11 q12
      obtain ⟨q0, q1, q2, q3, q4, q5, q6, q7, q8, q9, q10, q11, q12⟩ := oT.task
      have n0' : w1.cell? ⟨cb, co, none⟩ = some (.int .i64 (cs.getD 0 0)) := (hw1.out.cell (p := ⟨cb, co, none⟩) hcb).trans n0
      replace oT := Lib.hid oT
      replace hcc := Lib.hid hcc
      replace hg0 := Lib.hid hg0
      clear n0 hb1 hb0 hw0 o0
      obtain ⟨c0, hc0⟩ : ∃ c0, cs.getD 0 0 = c0 := ⟨_, rfl⟩
      rw [hc0] at n0' HI hg0
      replace hc0 := Lib.hid hc0
      cases hbq : inB c0 t.lo t.hi with
      | false =>
        rw [hbq] at HI
        have hres : Hid (ownR t.r (ds.map (strS hs ws)) t.dn cs (t.lo, t.hi) (List.range (t.dn + 1)) = 0) := by
          obtain ⟨post, hp⟩ := range_split (j := 0) (n := t.dn + 1) (by omega)
          rw [Hid, hp]
          exact ownR_bad (ms := []) rfl (by show inB (cs.getD 0 0) t.lo t.hi = false; rw [hc0.out]; exact hbq)
        clear hbq hg0 hc0 hcc hst hdl hR hC
        go_upto_region 6 with fail
        go_quiet ((go_at_call 52; exact (HI.out _).mono (fun _ _ h => ⟨h.1, _, h.2.symm⟩)))
        go_wp2
        refine bodyPost_ret (v := .tuple #[.int .i64 0, .int .i64 0]) (by simp [results, Try.results27, go_sem]) rfl ⟨by rw [hres.out], below_drewN hw1.out _⟩
      | true =>
        rw [hbq] at HI
        have hg1 : Hid (goodO t.r (ds.map (strS hs ws)) t.dn cs (t.lo, t.hi) (List.range 1) = true) := by rw [Hid, ← hg0.out]; exact hbq
        have hnr := inB_iff.1 hbq
        have ha1 := hlv.a
        have ha2 := hlv.b
        simp only at ha1 ha2
        have hb0' : Hid (0 ≤ cs.getD 0 0 ∧ cs.getD 0 0 ≤ 1000000) := by rw [Hid, hc0.out]; omega
        clear hbq hg0 hnr ha1 ha2
        go_upto_region 6 with fail
        go_quiet ((go_at_call 52; exact (HI.out _).mono (fun _ _ h => ⟨h.1, _, h.2.symm⟩)))
        clear q0 q1 q2 q3 q4 q5 q6 q7 q8 q9 q10 q11 q12 n0' HI
        have hwN := Lib.hid (below_drewN hw1.out nq)
        have oN := Lib.hid (oT.out.drewN nq)
        go_wp2_with fail
        go_loopg [7] t.dn (fun gk i wr => ∃ k : Nat, gk = t.dn - k ∧ i = .int .i64 k ∧ k ≤ t.dn ∧ goodO t.r (ds.map (strS hs ws)) t.dn cs (t.lo, t.hi) (List.range (k + 1)) = true ∧ (0 ≤ cs.getD k 0 ∧ cs.getD k 0 ≤ 1000000) ∧ Ob wr w.heap.size 31 t.cs ∧ Below w.heap.size w wr)
        case atStart => exact ⟨0, rfl, rfl, Nat.zero_le _, hg1.out, hb0'.out, oN.out, hwN.out⟩
        case round =>
          clear hg1 hb0' oN hwN oT hw1
          obtain ⟨k, rfl, rfl, hk, hgk, hck, oT, hbw⟩ := hrel
          obtain ⟨q0, q1, q2, q3, q4, q5, q6, q7, q8, q9, q10, q11, q12⟩ := oT.task
          rcases Nat.lt_or_ge k t.dn with hlt | hge
          · obtain ⟨db, dO, hda, hdb, hdd⟩ := hR.d.at_ (by omega)
            obtain ⟨x0, x1, x2, x3⟩ := hdd k hlt
            have hsk : (ds.map (strS hs ws)).getD k (0, 0) = strS hs ws (ds.getD k (0, 0, 0, 0)) := by simp [List.getD, hdl, hlt]
            have hcl : Hid (canL t.r (ds.map (strS hs ws)) t.dn cs (t.lo, t.hi) (List.range (k + 1)) = nextS t.r (strS hs ws (ds.getD k (0, 0, 0, 0))) (cs.getD k 0, cs.getD k 0)) := by
              rw [Hid, List.range_succ, canL_snoc]
              unfold canO
              rw [if_pos hlt, hsk]
            have HSt := Lib.hid (fun (W' : World) (hh : Below wr.heap.size wr W') => refStrength_any t.r hs ws (ds.getD k (0, 0, 0, 0)).1 (ds.getD k (0, 0, 0, 0)).2.1 (ds.getD k (0, 0, 0, 0)).2.2.1 (ds.getD k (0, 0, 0, 0)).2.2.2 W' (hR.r.below (B_trans hbw hh)) hO)
            have es := hst _ (getD_lt (L := ds.map (strS hs ws)) (i := k) (by rw [List.length_map, hdl]; exact hlt))
            rw [hsk] at es
            generalize ds.getD k (0, 0, 0, 0) = d at x0 x1 x2 x3 hcl HSt es hsk
            obtain ⟨s, hs'⟩ : ∃ s, strS hs ws d = s := ⟨_, rfl⟩
            have hx1 : strengthS hs ws d.1 d.2.2.1 = s.1 := congrArg Prod.fst hs'
            have hx2 : strengthS hs ws d.2.1 d.2.2.2 = s.2 := congrArg Prod.snd hs'
            rw [hx1, hx2] at HSt
            rw [hs'] at hcl es
            clear hs' hx1 hx2 hsk hdd
            obtain ⟨d0, d1, d2, d3⟩ := d
            simp only at x0 x1 x2 x3 HSt
            have n0 := hcc.out k (by omega)
            have n1 := hcc.out (k + 1) (by omega)
            have hbad := fun h => ownR_bad (m := k + 1) (post := (List.range (t.dn + 1)).drop (k + 1 + 1)) hgk h
            have hgood := fun h => goodO_snoc (m := k + 1) hgk h
            rw [hcl.out] at hbad hgood
            have hnext := next_in hO es (p := (cs.getD k 0, cs.getD k 0)) ⟨hck, hck⟩
            obtain ⟨m0, hm0⟩ : ∃ m0, cs.getD k 0 = m0 := ⟨_, rfl⟩
            obtain ⟨m1, hm1⟩ : ∃ m1, cs.getD (k + 1) 0 = m1 := ⟨_, rfl⟩
            rw [hm0] at n0 hck hbad hgood hnext
            rw [hm1] at n1 hbad hgood
            have H1 := Lib.hid (fun W' => refLeast_any t.r hs ws m0 s.1 s.2 W' hO hck.1 hck.2 es.lo (by have := es.le; have := es.hi; omega))
            have H2 := Lib.hid (fun W' => refMost_any t.r hs ws m0 s.2 s.1 W' hO hck.1 hck.2 (by have := es.le; have := es.lo; omega) es.hi)
            obtain ⟨lo, hlo2⟩ : ∃ lo, (nextS t.r s (m0, m0)).1 = lo := ⟨_, rfl⟩
            obtain ⟨hi, hhi2⟩ : ∃ hi, (nextS t.r s (m0, m0)).2 = hi := ⟨_, rfl⟩
            rw [show leastS t.r s.1 m0 = lo from hlo2] at H1
            rw [show mostS t.r s.2 m0 = hi from hhi2] at H2
            have H3 := Lib.hid (fun W' => (in_any m1 lo hi W').mono (fun e w' (h : _ ∧ _) => (show e = .returned (.bool (inB m1 lo hi)) ∧ Below W'.heap.size W' w' from ⟨h.1, by rw [← h.2]; exact Below.refl _ _⟩)))
            rw [hlo2, hhi2] at hbad hgood
            have hn1 := hnext.a
            have hn2 := hnext.b
            rw [hlo2] at hn1
            rw [hhi2] at hn2
            have hin : inB m1 lo hi = true → 0 ≤ m1 ∧ m1 ≤ 1000000 := fun h => by have := inB_iff.1 h; omega
            obtain ⟨bb, hbb⟩ : ∃ bb, inB m1 lo hi = bb := ⟨_, rfl⟩
            rw [hbb] at H3 hbad hgood hin
            have HS := Lib.hid (fun (W' : World) (hh : Below wr.heap.size wr W') => (show (W'.cell? ⟨w.heap.size, 0, none⟩ = some (.slice t.r.ha t.r.hn t.r.hc) ∧ W'.cell? ⟨w.heap.size, 1, none⟩ = some (.slice t.r.wa t.r.wn t.r.wc) ∧ W'.cell? ⟨w.heap.size, 2, none⟩ = some (.int .i64 t.r.own) ∧ W'.cell? ⟨w.heap.size, 3, none⟩ = some (.int .i64 t.r.feed) ∧ W'.cell? ⟨w.heap.size, 4, none⟩ = some (.int .i64 t.r.g0) ∧ W'.cell? ⟨w.heap.size, 5, none⟩ = some (.int .i64 t.r.g1) ∧ W'.cell? ⟨w.heap.size, 6, none⟩ = some (.int .i64 t.r.g2) ∧ W'.cell? ⟨w.heap.size, 7, none⟩ = some (.int .i64 t.r.lost) ∧ W'.cell? ⟨w.heap.size, 8, none⟩ = some (.int .i64 t.first) ∧ W'.cell? ⟨w.heap.size, 9, none⟩ = some (.slice (some ⟨db, dO, none⟩) t.dn t.dc) ∧ W'.cell? ⟨w.heap.size, 10, none⟩ = some (.int .i64 t.lo) ∧ W'.cell? ⟨w.heap.size, 11, none⟩ = some (.int .i64 t.hi) ∧ W'.cell? ⟨w.heap.size, 12, none⟩ = some (.slice t.ta t.tn t.tc)) ∧ W'.cell? ⟨db, dO + k * 4, none⟩ = some (.int .i64 d0) ∧ W'.cell? ⟨db, dO + k * 4 + 1, none⟩ = some (.int .i64 d1) ∧ W'.cell? ⟨db, dO + k * 4 + 2, none⟩ = some (.int .i64 d2) ∧ W'.cell? ⟨db, dO + k * 4 + 3, none⟩ = some (.int .i64 d3) from ⟨by have h := (oT.below hh).task; rwa [hda] at h, ((B_trans hbw hh).cell (p := ⟨db, _, none⟩) hdb).trans x0, ((B_trans hbw hh).cell (p := ⟨db, _, none⟩) hdb).trans x1, ((B_trans hbw hh).cell (p := ⟨db, _, none⟩) hdb).trans x2, ((B_trans hbw hh).cell (p := ⟨db, _, none⟩) hdb).trans x3⟩))
            have HY := Lib.hid (fun (W' : World) (hh : Below w.heap.size w W') => And.intro ((hh.cell (p := ⟨cb, co + k, none⟩) hcb).trans n0) ((hh.cell (p := ⟨cb, co + (k + 1), none⟩) hcb).trans n1))
            have a1 : (0 : Int) ≤ k := by omega
            have a2 : (k : Int) < t.dn := by omega
            have a3 : (k : Int) < (t.dn : Int) + 1 := by omega
            have a4 : (k : Int) + 1 < (t.dn : Int) + 1 := by omega
            have a5 : (0 : Int) ≤ (k : Int) + 1 := by omega
            have a6 : ((k : Int) + 1).toNat = k + 1 := by omega
            have u2 : IntKind.i64.wrap ((k : Int) + 1) = (k : Int) + 1 := IntWalk.i64_in _ (by omega)
            have PP := Lib.hid (And.intro hm0 (And.intro hm1 (And.intro hbad (And.intro hgood hin))))
            replace hbb := Lib.hid hbb
            replace oT := Lib.hid oT
            replace hbw := Lib.hid hbw
            clear hm0 hm1 hbad hgood hin hn1 hn2 hnext hlo2 hhi2 n0 n1 x0 x1 x2 x3 hcl es hgk hst hlen hC hda
            go_upto_region 11 with fail
            go_cut [8] (fun a wx => ∃ g : Nat, a = .pointer (some ⟨g, 0, none⟩) ∧ Ob wx g 28 #[.int .i64 s.1, .int .i64 s.2] ∧ Below wr.heap.size wr wx)
            case first =>
              refine wp_region_held' (S := fun W' => Below wr.heap.size wr W') (by kernel_rfl) ((Below.refl _ wr).drew) (fun hHeld => ?_)
              refine wpAnyH_take2 (i := 0) (t := 43) (v := ?_) rfl rfl (by kernel_rfl) (by kernel_rfl) (by kernel_rfl) (fun _ _ _ h => Only.not_panic h) (Or.inl ⟨by kernel_rfl, fun W hW => ?_⟩) (by assumption) ?_
              rotate_left
              · have hW2 := hW
                obtain ⟨⟨f0, f1, f2, f3, f4, f5, f6, f7, f8, f9, f10, f11, f12⟩, y0, y1, y2, y3⟩ := HS.out W hW2
                clear hW hW2
                go_simp
                try with_reducible rfl
              try simp only [Act.put, List.setIfInBounds_toArray, List.set_cons_zero, List.set_cons_succ]
              refine wpAnyH_take2 (i := 1) (t := 44) (v := ?_) rfl rfl (by kernel_rfl) (by kernel_rfl) (by kernel_rfl) (fun _ _ _ h => Only.not_panic h) (Or.inl ⟨by kernel_rfl, fun W hW => ?_⟩) (by assumption) ?_
              rotate_left
              · have hW2 := hW
                obtain ⟨⟨f0, f1, f2, f3, f4, f5, f6, f7, f8, f9, f10, f11, f12⟩, y0, y1, y2, y3⟩ := HS.out W hW2
                clear hW hW2
                go_simp
                try with_reducible rfl
              try simp only [Act.put, List.setIfInBounds_toArray, List.set_cons_zero, List.set_cons_succ]
              refine wpAnyH_take2 (i := 2) (t := 45) (v := ?_) rfl rfl (by kernel_rfl) (by kernel_rfl) (by kernel_rfl) (fun _ _ _ h => Only.not_panic h) (Or.inl ⟨by kernel_rfl, fun W hW => ?_⟩) (by assumption) ?_
              rotate_left
              · have hW2 := hW
                obtain ⟨⟨f0, f1, f2, f3, f4, f5, f6, f7, f8, f9, f10, f11, f12⟩, y0, y1, y2, y3⟩ := HS.out W hW2
                clear hW hW2
                go_simp
                try with_reducible rfl
              try simp only [Act.put, List.setIfInBounds_toArray, List.set_cons_zero, List.set_cons_succ]
              refine wpAnyH_take2 (i := 3) (t := 46) (v := ?_) rfl rfl (by kernel_rfl) (by kernel_rfl) (by kernel_rfl) (fun _ _ _ h => Only.not_panic h) (Or.inl ⟨by kernel_rfl, fun W hW => ?_⟩) (by assumption) ?_
              rotate_left
              · have hW2 := hW
                obtain ⟨⟨f0, f1, f2, f3, f4, f5, f6, f7, f8, f9, f10, f11, f12⟩, y0, y1, y2, y3⟩ := HS.out W hW2
                clear hW hW2
                go_simp
                try with_reducible rfl
              try simp only [Act.put, List.setIfInBounds_toArray, List.set_cons_zero, List.set_cons_succ]
              refine wpAnyH_take2 (i := 4) (t := 47) (v := ?_) rfl rfl (by kernel_rfl) (by kernel_rfl) (by kernel_rfl) (fun _ _ _ h => Only.not_panic h) (Or.inl ⟨by kernel_rfl, fun W hW => ?_⟩) (by assumption) ?_
              rotate_left
              · have hW2 := hW
                obtain ⟨⟨f0, f1, f2, f3, f4, f5, f6, f7, f8, f9, f10, f11, f12⟩, y0, y1, y2, y3⟩ := HS.out W hW2
                clear hW hW2
                go_simp
                try with_reducible rfl
              try simp only [Act.put, List.setIfInBounds_toArray, List.set_cons_zero, List.set_cons_succ]
              refine wpAnyH_take2 (i := 5) (t := 48) (v := ?_) rfl rfl (by kernel_rfl) (by kernel_rfl) (by kernel_rfl) (fun _ _ _ h => Only.not_panic h) (Or.inl ⟨by kernel_rfl, fun W hW => ?_⟩) (by assumption) ?_
              rotate_left
              · have hW2 := hW
                obtain ⟨⟨f0, f1, f2, f3, f4, f5, f6, f7, f8, f9, f10, f11, f12⟩, y0, y1, y2, y3⟩ := HS.out W hW2
                clear hW hW2
                go_simp
                try with_reducible rfl
              try simp only [Act.put, List.setIfInBounds_toArray, List.set_cons_zero, List.set_cons_succ]
              refine wpAnyH_take2 (i := 6) (t := 49) (v := ?_) rfl rfl (by kernel_rfl) (by kernel_rfl) (by kernel_rfl) (fun _ _ _ h => Only.not_panic h) (Or.inl ⟨by kernel_rfl, fun W hW => ?_⟩) (by assumption) ?_
              rotate_left
              · have hW2 := hW
                obtain ⟨⟨f0, f1, f2, f3, f4, f5, f6, f7, f8, f9, f10, f11, f12⟩, y0, y1, y2, y3⟩ := HS.out W hW2
                clear hW hW2
                go_simp
                try with_reducible rfl
              try simp only [Act.put, List.setIfInBounds_toArray, List.set_cons_zero, List.set_cons_succ]
              refine wpAnyH_ready (rs := [7, 8]) (by kernel_rfl) (by simp) ?_
              refine AllReadyH.cons rfl (fun K hK => ?_) ?_
              · go_simp
                refine (HSt.out _ hHeld).mono ?_
                rintro e w7 ⟨rfl, hb7⟩
                try simp only []
                refine hK.out _ _ ?_ (fun hHeld => ?_)
                · exact B_trans hHeld hb7
                clear hK K
                try simp only [Act.put, List.setIfInBounds_toArray, List.set_cons_zero, List.set_cons_succ]
                refine wpAnyH_ready (rs := [8]) (by kernel_rfl) (by simp) ?_
                refine AllReadyH.cons rfl (fun K hK => ?_) ?_
                · go_simp
                  have hpre := hHeld
                  have o9 := Lib.hid (Ob.new (w7) #[.int .i64 0, .int .i64 0] 28)
                  have hb9 := hHeld.size
                  refine hK.out _ _ ?_ (fun hHeld => ?_)
                  · exact B_alloc hHeld _
                  clear hK K
                  try simp only [Act.put, List.setIfInBounds_toArray, List.set_cons_zero, List.set_cons_succ]
                  refine wpAnyH_ready (rs := [9]) (by kernel_rfl) (by simp) ?_
                  refine AllReadyH.cons rfl (fun K hK => ?_) ?_
                  · have v0 := o9.out.cell 0
                    have v1 := o9.out.cell 1
                    have g0 := o9.out.frozen 0
                    have g1 := o9.out.frozen 1
                    simp only [List.getElem?_toArray, List.getElem?_cons_zero, List.getElem?_cons_succ] at v0 v1
                    go_simp
                    refine hK.out _ _ ?_ (fun hHeld => ?_)
                    · first | exact B_alloc hpre _ | exact (hHeld.setCell (by first | omega | (simp only; omega) | (simp; omega)) _).setCell (by first | omega | (simp only; omega) | (simp; omega)) _
                    clear hK K
                    try simp only [Act.put, List.setIfInBounds_toArray, List.set_cons_zero, List.set_cons_succ]
                    refine wpAnyH_done (by kernel_rfl) (Only.mk ?_) _
                    go_wp2_with fail
                    go_meet
                    first | exact ⟨_, rfl, Ob.new _ _ _, hHeld⟩ | exact ⟨_, rfl, (o9.out.set 0 _).set 1 _, hHeld⟩
                  exact AllReadyH.nil
                exact AllReadyH.nil
              refine AllReadyH.cons rfl (fun K hK => ?_) ?_
              · go_simp
                have o9 := Lib.hid (show Ob (wr.drew.alloc (.cells #[.int .i64 0, .int .i64 0] 28)) wr.heap.size 28 #[.int .i64 0, .int .i64 0] from Ob.new _ _ _)
                have hpre := hHeld
                refine hK.out _ _ ?_ (fun hHeld => ?_)
                · exact B_alloc hHeld _
                clear hK K
                try simp only [Act.put, List.setIfInBounds_toArray, List.set_cons_zero, List.set_cons_succ]
                refine wpAnyH_ready (rs := [7]) (by kernel_rfl) (by simp) ?_
                refine AllReadyH.cons rfl (fun K hK => ?_) ?_
                · go_simp
                  refine (HSt.out _ hHeld).mono ?_
                  rintro e w7 ⟨rfl, hb7⟩
                  try simp only []
                  replace o9 := Lib.hid (o9.out.below hb7)
                  refine hK.out _ _ ?_ (fun hHeld => ?_)
                  · exact B_trans hHeld hb7
                  clear hK K
                  try simp only [Act.put, List.setIfInBounds_toArray, List.set_cons_zero, List.set_cons_succ]
                  refine wpAnyH_ready (rs := [9]) (by kernel_rfl) (by simp) ?_
                  refine AllReadyH.cons rfl (fun K hK => ?_) ?_
                  · have v0 := o9.out.cell 0
                    have v1 := o9.out.cell 1
                    have g0 := o9.out.frozen 0
                    have g1 := o9.out.frozen 1
                    simp only [List.getElem?_toArray, List.getElem?_cons_zero, List.getElem?_cons_succ] at v0 v1
                    go_simp
                    refine hK.out _ _ ?_ (fun hHeld => ?_)
                    · first | exact B_alloc hpre _ | exact (hHeld.setCell (by first | omega | (simp only; omega) | (simp; omega)) _).setCell (by first | omega | (simp only; omega) | (simp; omega)) _
                    clear hK K
                    try simp only [Act.put, List.setIfInBounds_toArray, List.set_cons_zero, List.set_cons_succ]
                    refine wpAnyH_done (by kernel_rfl) (Only.mk ?_) _
                    go_wp2_with fail
                    go_meet
                    first | exact ⟨_, rfl, Ob.new _ _ _, hHeld⟩ | exact ⟨_, rfl, (o9.out.set 0 _).set 1 _, hHeld⟩
                  exact AllReadyH.nil
                exact AllReadyH.nil
              exact AllReadyH.nil
            case rest =>
              clear q0 q1 q2 q3 q4 q5 q6 q7 q8 q9 q10 q11 q12 HS HSt
              obtain ⟨g, rfl, oS, hbx⟩ := hcut
              have oTx := Lib.hid (oT.out.below hbx)
              have hbwx := Lib.hid (B_trans hbw.out hbx)
              have I0 : Hid (I27 t s w.heap.size g lo hi bb w 0 (fun _ => undef) wc.drew) := ⟨oTx.out.drew, oS.drew, hbwx.out.drew, fun h => by omega, fun h => by omega, fun h => by omega⟩
              clear oS hbx oT hbw
              go_upto_region 12 with fail
              refine wp_region_steps (I := I27 t s w.heap.size g lo hi bb w) (V := V27 t w.heap.size cb co k cc s m0 m1 bb) (eff := eff27) (need := need27) (till := till27) 3 (by kernel_rfl) (by decide) (by kernel_rfl) rfl (by kernel_rfl) (by kernel_rfl) (by kernel_rfl) (by kernel_rfl) (by kernel_rfl) I0.out ?steps ?hend
              case hend =>
                intro outs w' hI
                have oT' := Lib.hid hI.T
                have hb' := Lib.hid hI.b
                clear hI I0
                simp only [flowAct, List.filterMap_cons, List.filterMap_nil, patch, List.setIfInBounds_toArray, List.set_cons_zero, List.set_cons_succ]
                cases bb with
                | false =>
                  have hres : Hid (ownR t.r (ds.map (strS hs ws)) t.dn cs (t.lo, t.hi) (List.range (t.dn + 1)) = (k : Int) + 1) := by
                    have e : List.range (t.dn + 1) = List.range (k + 1) ++ (k + 1) :: (List.range (t.dn + 1)).drop (k + 1 + 1) := by
                      have e1 : (List.range (t.dn + 1)).drop (k + 1) = (k + 1) :: (List.range (t.dn + 1)).drop (k + 1 + 1) := by
                        rw [List.drop_eq_getElem_cons (by simpa using hlt)]; simp
                      rw [← e1]
                      conv => lhs; rw [← List.take_append_drop (k + 1) (List.range (t.dn + 1))]
                      rw [List.take_range, Nat.min_eq_left (by omega)]
                    rw [Hid, e]
                    have := PP.out.2.2.1 rfl
                    rw [this]
                    push_cast
                    rfl
                  go_wp2
                  refine bodyPost_ret (v := .tuple #[.int .i64 ((k : Int) + 1), .int .i64 0]) (by simp [results, Try.results27, go_sem]) rfl ⟨by first | rw [hres.out] | rw [← List.range_succ, hres.out], hb'.out⟩
                | true =>
                  have PG := Lib.hid (And.intro PP.out.2.1 (And.intro (PP.out.2.2.2.1 rfl) (PP.out.2.2.2.2 rfl)))
                  go_wp2_with fail
                  go_roundg (t.dn - (k + 1))
                  case measure => omega
                  case rel =>
                    refine ⟨k + 1, rfl, by push_cast; rfl, hlt, ?_, by rw [PG.out.1]; exact PG.out.2.2, oT'.out, hb'.out⟩
                    rw [List.range_succ]
                    exact PG.out.2.1
              case steps =>
                refine ⟨⟨rfl, fun t ht k' outs u _ => by cases ht; rfl, fun k' outs W' ρ hk1 hk2 hI hc hg h_fn hr ho => ?_⟩, ?_⟩
                · have hk2' : k' ≤ 3 := hk2
                  have o1 := ho 1 (by kernel_rfl)
                  clear hI
                  refine step_pure rfl (v := .slice (some ⟨cb, co, none⟩) (t.dn + 1) cc) (fun t ht => by cases ht; rfl) ?_
                  go_simp
                refine ⟨⟨rfl, fun t ht k' outs u _ => by cases ht; rfl, fun k' outs W' ρ hk1 hk2 hI hc hg h_fn hr ho => ?_⟩, ?_⟩
                · have hk2' : k' ≤ 3 := hk2
                  have o7 := ho 7 (by kernel_rfl)
                  clear hI
                  refine step_pure rfl (v := .int .i64 k) (fun t ht => by cases ht; rfl) ?_
                  go_simp
                refine ⟨⟨rfl, fun t ht k' outs u _ => by cases ht; rfl, fun k' outs W' ρ hk1 hk2 hI hc hg h_fn hr ho => ?_⟩, ?_⟩
                · have hk2' : k' ≤ 3 := hk2
                  have r52 : ρ (.tmp 52) = .int .i64 k := hr 52 (by kernel_rfl)
                  clear hI
                  refine step_pure rfl (v := .int .i64 ((k : Int) + 1)) (fun t ht => by cases ht; rfl) ?_
                  go_simp
                refine ⟨⟨rfl, fun t ht k' outs u _ => by cases ht; rfl, fun k' outs W' ρ hk1 hk2 hI hc hg h_fn hr ho => ?_⟩, ?_⟩
                · have hk2' : k' ≤ 3 := hk2
                  have r51 : ρ (.tmp 51) = .slice (some ⟨cb, co, none⟩) (t.dn + 1) cc := hr 51 (by kernel_rfl)
                  have r53 : ρ (.tmp 53) = .int .i64 ((k : Int) + 1) := hr 53 (by kernel_rfl)
                  clear hI
                  refine step_pure rfl (v := .pointer (some ⟨cb, co + (k + 1), none⟩)) (fun t ht => by cases ht; rfl) ?_
                  go_simp
                refine ⟨⟨rfl, fun t ht k' outs u _ => by cases ht; rfl, fun k' outs W' ρ hk1 hk2 hI hc hg h_fn hr ho => ?_⟩, ?_⟩
                · have hk2' : k' ≤ 2 := hk2
                  have r54 : ρ (.tmp 54) = .pointer (some ⟨cb, co + (k + 1), none⟩) := hr 54 (by kernel_rfl)
                  obtain ⟨y0, y1⟩ := HY.out _ hI.b
                  clear hI
                  refine step_pure rfl (v := .int .i64 m1) (fun t ht => by cases ht; rfl) ?_
                  go_simp
                refine ⟨⟨rfl, fun t ht k' outs u _ => by cases ht; rfl, fun k' outs W' ρ hk1 hk2 hI hc hg h_fn hr ho => ?_⟩, ?_⟩
                · have hk2' : k' ≤ 3 := hk2
                  have o2 := ho 2 (by kernel_rfl)
                  clear hI
                  refine step_pure rfl (v := .pointer (some ⟨w.heap.size, 0, none⟩)) (fun t ht => by cases ht; rfl) ?_
                  go_simp
                refine ⟨⟨rfl, fun t ht k' outs u _ => by cases ht; rfl, fun k' outs W' ρ hk1 hk2 hI hc hg h_fn hr ho => ?_⟩, ?_⟩
                · have hk2' : k' ≤ 0 := hk2
                  have r56 : ρ (.tmp 56) = .pointer (some ⟨w.heap.size, 0, none⟩) := hr 56 (by kernel_rfl)
                  obtain ⟨f0, f1, f2, f3, f4, f5, f6, f7, f8, f9, f10, f11, f12⟩ := hI.T.task
                  clear hI
                  refine step_pure rfl (v := .agg t.r.cs) (fun t ht => by cases ht; rfl) ?_
                  go_simp
                refine ⟨⟨rfl, fun t ht k' outs u _ => by cases ht; rfl, fun k' outs W' ρ hk1 hk2 hI hc hg h_fn hr ho => ?_⟩, ?_⟩
                · have hk2' : k' ≤ 0 := hk2
                  have o8 := ho 8 (by kernel_rfl)
                  obtain ⟨s0, s1, -, -⟩ := hI.S.span
                  clear hI
                  refine step_pure rfl (v := .agg #[.int .i64 s.1, .int .i64 s.2]) (fun t ht => by cases ht; rfl) ?_
                  go_simp
                refine ⟨⟨rfl, fun t ht k' outs u _ => by cases ht; rfl, fun k' outs W' ρ hk1 hk2 hI hc hg h_fn hr ho => ?_⟩, ?_⟩
                · have hk2' : k' ≤ 3 := hk2
                  have o1 := ho 1 (by kernel_rfl)
                  clear hI
                  refine step_pure rfl (v := .slice (some ⟨cb, co, none⟩) (t.dn + 1) cc) (fun t ht => by cases ht; rfl) ?_
                  go_simp
                refine ⟨⟨rfl, fun t ht k' outs u _ => by cases ht; rfl, fun k' outs W' ρ hk1 hk2 hI hc hg h_fn hr ho => ?_⟩, ?_⟩
                · have hk2' : k' ≤ 3 := hk2
                  have o7 := ho 7 (by kernel_rfl)
                  clear hI
                  refine step_pure rfl (v := .int .i64 k) (fun t ht => by cases ht; rfl) ?_
                  go_simp
                refine ⟨⟨rfl, fun t ht k' outs u _ => by cases ht; rfl, fun k' outs W' ρ hk1 hk2 hI hc hg h_fn hr ho => ?_⟩, ?_⟩
                · have hk2' : k' ≤ 3 := hk2
                  have r59 : ρ (.tmp 59) = .slice (some ⟨cb, co, none⟩) (t.dn + 1) cc := hr 59 (by kernel_rfl)
                  have r60 : ρ (.tmp 60) = .int .i64 k := hr 60 (by kernel_rfl)
                  clear hI
                  refine step_pure rfl (v := .pointer (some ⟨cb, co + k, none⟩)) (fun t ht => by cases ht; rfl) ?_
                  go_simp
                refine ⟨⟨rfl, fun t ht k' outs u _ => by cases ht; rfl, fun k' outs W' ρ hk1 hk2 hI hc hg h_fn hr ho => ?_⟩, ?_⟩
                · have hk2' : k' ≤ 0 := hk2
                  have r61 : ρ (.tmp 61) = .pointer (some ⟨cb, co + k, none⟩) := hr 61 (by kernel_rfl)
                  obtain ⟨y0, y1⟩ := HY.out _ hI.b
                  clear hI
                  refine step_pure rfl (v := .int .i64 m0) (fun t ht => by cases ht; rfl) ?_
                  go_simp
                refine ⟨⟨rfl, fun t ht k' outs u (h : 0 < k') => by cases ht; show upd outs k' u 0 = outs 0; unfold upd; rw [if_neg (by omega)], fun k' outs W' ρ hk1 hk2 hI hc hg h_fn hr ho => ?_⟩, ?_⟩
                · obtain rfl : k' = 0 := by have h1 : 0 ≤ k' := hk1; have h2 : k' ≤ 0 := hk2; omega
                  have r57 : ρ (.tmp 57) = .agg t.r.cs := hr 57 (by kernel_rfl)
                  have r58 : ρ (.tmp 58) = .agg #[.int .i64 s.1, .int .i64 s.2] := hr 58 (by kernel_rfl)
                  have r62 : ρ (.tmp 62) = .int .i64 m0 := hr 62 (by kernel_rfl)
                  have hfn := h_fn 64
                  refine step_call rfl (f := 64) (args := #[.agg t.r.cs, .agg #[.int .i64 s.1, .int .i64 s.2], .int .i64 m0]) (w' := W') ?_ ?_
                  · clear hI; go_simp
                  · refine (H1.out W').mono ?_
                    rintro e w2 ⟨rfl, hb2⟩
                    exact ⟨_, rfl, ⟨hI.T.below hb2, hI.S.below hb2, B_trans hI.b hb2, fun h => rfl, fun h => by omega, fun h => by omega⟩, fun t ht => by cases ht; rfl⟩
                refine ⟨⟨rfl, fun t ht k' outs u _ => by cases ht; rfl, fun k' outs W' ρ hk1 hk2 hI hc hg h_fn hr ho => ?_⟩, ?_⟩
                · have hk2' : k' ≤ 3 := hk2
                  have o2 := ho 2 (by kernel_rfl)
                  clear hI
                  refine step_pure rfl (v := .pointer (some ⟨w.heap.size, 0, none⟩)) (fun t ht => by cases ht; rfl) ?_
                  go_simp
                refine ⟨⟨rfl, fun t ht k' outs u _ => by cases ht; rfl, fun k' outs W' ρ hk1 hk2 hI hc hg h_fn hr ho => ?_⟩, ?_⟩
                · have hk2' : k' ≤ 1 := hk2
                  have r64 : ρ (.tmp 64) = .pointer (some ⟨w.heap.size, 0, none⟩) := hr 64 (by kernel_rfl)
                  obtain ⟨f0, f1, f2, f3, f4, f5, f6, f7, f8, f9, f10, f11, f12⟩ := hI.T.task
                  clear hI
                  refine step_pure rfl (v := .agg t.r.cs) (fun t ht => by cases ht; rfl) ?_
                  go_simp
                refine ⟨⟨rfl, fun t ht k' outs u _ => by cases ht; rfl, fun k' outs W' ρ hk1 hk2 hI hc hg h_fn hr ho => ?_⟩, ?_⟩
                · have hk2' : k' ≤ 1 := hk2
                  have o8 := ho 8 (by kernel_rfl)
                  obtain ⟨s0, s1, -, -⟩ := hI.S.span
                  clear hI
                  refine step_pure rfl (v := .agg #[.int .i64 s.1, .int .i64 s.2]) (fun t ht => by cases ht; rfl) ?_
                  go_simp
                refine ⟨⟨rfl, fun t ht k' outs u _ => by cases ht; rfl, fun k' outs W' ρ hk1 hk2 hI hc hg h_fn hr ho => ?_⟩, ?_⟩
                · have hk2' : k' ≤ 3 := hk2
                  have o1 := ho 1 (by kernel_rfl)
                  clear hI
                  refine step_pure rfl (v := .slice (some ⟨cb, co, none⟩) (t.dn + 1) cc) (fun t ht => by cases ht; rfl) ?_
                  go_simp
                refine ⟨⟨rfl, fun t ht k' outs u _ => by cases ht; rfl, fun k' outs W' ρ hk1 hk2 hI hc hg h_fn hr ho => ?_⟩, ?_⟩
                · have hk2' : k' ≤ 3 := hk2
                  have o7 := ho 7 (by kernel_rfl)
                  clear hI
                  refine step_pure rfl (v := .int .i64 k) (fun t ht => by cases ht; rfl) ?_
                  go_simp
                refine ⟨⟨rfl, fun t ht k' outs u _ => by cases ht; rfl, fun k' outs W' ρ hk1 hk2 hI hc hg h_fn hr ho => ?_⟩, ?_⟩
                · have hk2' : k' ≤ 3 := hk2
                  have r67 : ρ (.tmp 67) = .slice (some ⟨cb, co, none⟩) (t.dn + 1) cc := hr 67 (by kernel_rfl)
                  have r68 : ρ (.tmp 68) = .int .i64 k := hr 68 (by kernel_rfl)
                  clear hI
                  refine step_pure rfl (v := .pointer (some ⟨cb, co + k, none⟩)) (fun t ht => by cases ht; rfl) ?_
                  go_simp
                refine ⟨⟨rfl, fun t ht k' outs u _ => by cases ht; rfl, fun k' outs W' ρ hk1 hk2 hI hc hg h_fn hr ho => ?_⟩, ?_⟩
                · have hk2' : k' ≤ 1 := hk2
                  have r69 : ρ (.tmp 69) = .pointer (some ⟨cb, co + k, none⟩) := hr 69 (by kernel_rfl)
                  obtain ⟨y0, y1⟩ := HY.out _ hI.b
                  clear hI
                  refine step_pure rfl (v := .int .i64 m0) (fun t ht => by cases ht; rfl) ?_
                  go_simp
                refine ⟨⟨rfl, fun t ht k' outs u (h : 1 < k') => by cases ht; show upd outs k' u 1 = outs 1; unfold upd; rw [if_neg (by omega)], fun k' outs W' ρ hk1 hk2 hI hc hg h_fn hr ho => ?_⟩, ?_⟩
                · obtain rfl : k' = 1 := by have h1 : 1 ≤ k' := hk1; have h2 : k' ≤ 1 := hk2; omega
                  have r65 : ρ (.tmp 65) = .agg t.r.cs := hr 65 (by kernel_rfl)
                  have r66 : ρ (.tmp 66) = .agg #[.int .i64 s.1, .int .i64 s.2] := hr 66 (by kernel_rfl)
                  have r70 : ρ (.tmp 70) = .int .i64 m0 := hr 70 (by kernel_rfl)
                  have hfn := h_fn 65
                  refine step_call rfl (f := 65) (args := #[.agg t.r.cs, .agg #[.int .i64 s.1, .int .i64 s.2], .int .i64 m0]) (w' := W') ?_ ?_
                  · clear hI; go_simp
                  · refine (H2.out W').mono ?_
                    rintro e w2 ⟨rfl, hb2⟩
                    exact ⟨_, rfl, ⟨hI.T.below hb2, hI.S.below hb2, B_trans hI.b hb2, fun h => hI.o0 (by omega), fun h => rfl, fun h => by omega⟩, fun t ht => by cases ht; rfl⟩
                refine ⟨⟨rfl, fun t ht k' outs u (h : 2 < k') => by cases ht; show upd outs k' u 2 = outs 2; unfold upd; rw [if_neg (by omega)], fun k' outs W' ρ hk1 hk2 hI hc hg h_fn hr ho => ?_⟩, ?_⟩
                · obtain rfl : k' = 2 := by have h1 : 2 ≤ k' := hk1; have h2 : k' ≤ 2 := hk2; omega
                  have r55 : ρ (.tmp 55) = .int .i64 m1 := hr 55 (by kernel_rfl)
                  have r63 : ρ (.tmp 63) = .int .i64 lo := (hr 63 (by kernel_rfl)).trans (hI.o0 (by omega))
                  have r71 : ρ (.tmp 71) = .int .i64 hi := (hr 71 (by kernel_rfl)).trans (hI.o1 (by omega))
                  have hfn := h_fn 52
                  refine step_call rfl (f := 52) (args := #[.int .i64 m1, .int .i64 lo, .int .i64 hi]) (w' := W') ?_ ?_
                  · clear hI; go_simp
                  · refine (H3.out W').mono ?_
                    rintro e w2 ⟨rfl, hb2⟩
                    exact ⟨_, rfl, ⟨hI.T.below hb2, hI.S.below hb2, B_trans hI.b hb2, fun h => hI.o0 (by omega), fun h => hI.o1 (by omega), fun h => rfl⟩, fun t ht => by cases ht; rfl⟩
                refine ⟨⟨rfl, fun t ht k' outs u _ => by cases ht; rfl, fun k' outs W' ρ hk1 hk2 hI hc hg h_fn hr ho => ?_⟩, trivial⟩
                · have hk2' : k' ≤ 3 := hk2
                  have hk1' : 3 ≤ k' := hk1
                  have r72 : ρ (.tmp 72) = .bool bb := (hr 72 (by kernel_rfl)).trans (hI.o2 (by omega))
                  clear hI
                  refine step_pure rfl (v := .bool (!bb)) (fun t ht => by cases ht; rfl) ?_
                  go_simp
          · obtain rfl : k = t.dn := by omega
            have hres := Lib.hid (ownR_good hgk)
            replace hbw := Lib.hid hbw
            clear hgk hck oT hR hC hcc
            go_wp2
            refine bodyPost_ret (v := .tuple #[.int .i64 (-1), .int .i64 0]) (by simp [results, Try.results27, go_sem]) rfl ⟨by rw [hres.out], hbw.out⟩
    · rw [if_pos hl]
      obtain ⟨cl, hcl⟩ : ∃ cl : Nat, cl = cn := ⟨cn, rfl⟩
      have hne : ¬ (cn : Int) = (t.dn : Int) + 1 := by omega
      clear ok he hl hR hC
      go_enter Try.func27, Try.ntmps27
      go_wp2_with fail
      rw [hw0.out]
      refine H0.out.mono ?_
      rintro e w1 ⟨rfl, hb1⟩
      have hw1 := Lib.hid (B_trans hb0.out hb1)
      clear q0 q1 q2 q3 q4 q5 q6 q7 q8 q9 q10 q11 q12
      obtain ⟨q0, q1, q2, q3, q4, q5, q6, q7, q8, q9, q10, q11, q12⟩ := (o0.out.below hb1).task
      clear hb1
      go_wp2
      refine bodyPost_ret (v := .tuple #[.int .i64 0, .int .i64 2]) (by simp [results, Try.results27, go_sem]) rfl ⟨rfl, hw1.out⟩
  · rw [if_pos he]
    generalize (taskS t hs ws ds ts).2.2 = c3 at H0 he ⊢
    clear T1 hR hC
    go_enter Try.func27, Try.ntmps27
    go_wp2_with fail
    rw [hw0.out]
    refine H0.out.mono ?_
    rintro e w1 ⟨rfl, hb1⟩
    have hw1 := Lib.hid (B_trans hb0.out hb1)
    clear q0 q1 q2 q3 q4 q5 q6 q7 q8 q9 q10 q11 q12 hb1
    go_wp2
    refine bodyPost_ret (v := .tuple #[.int .i64 0, .int .i64 c3]) (by simp [results, Try.results27, go_sem]) rfl ⟨rfl, hw1.out⟩

set_option maxRecDepth 100000 in
theorem open_ints {H : Type} {enc : TypeId × Value → H} {W : World} {base b0 : Nat} {held : Bool} {v : Value} {d : DataW H} {p : List MemPlace} (hv : Value.okWide Try.prog W .any b0 46 v) (h : DataW.Trod enc Try.prog W base (fun _ => true) held 46 v d p) (hw : (d.weights Try.prog 46).all (· ≤ reachBytes) = true) :
    ∃ (a : Option Addr) (n c : Nat) (ms : List Int), v = .slice a n c ∧ n ≤ 17592186043904 ∧ Sl1 W a n ms := by
  obtain ⟨m, hm⟩ := h
  obtain ⟨a, n, c, ms, e, hn, hs⟩ := open_sl1 Try.underlying46 flatInt (by kernel_rfl) hm (of_decide_eq_true (by kernel_rfl)) hw
  obtain ⟨a', n', c', rfl⟩ := Go.WideShapes.okWide_slice Try.underlying46 hv
  refine ⟨a, n, c, ms, ?_, hn, hs⟩
  simpa [Value.cells] using e
set_option maxRecDepth 100000 in
set_option maxHeartbeats 8000000 in
theorem ownsLaw_any (t : TkA) (hs ws : List T2) (ds : List T4) (ts : List T3) (ca : Option Addr) (cn cc : Nat) (cs : List Int) (w : World) (hR : TkR w t hs ws ds ts) (hC : Sl1 w ca cn cs) (hcn : cn ≤ 140737488351232) :
    Calls Try.prog 5 #[.agg t.cs, .slice ca cn cc] w fun e w' => e = .returned (.bool true) ∧ Below w.heap.size w w' := by
  obtain ⟨w0, hw0⟩ : ∃ w0, (w).alloc (.cells t.cs 31) = w0 := ⟨_, rfl⟩
  have hb0 : Below w.heap.size w w0 := by rw [← hw0]; exact B_alloc (Below.refl _ _) _
  have o0 : Ob w0 (w.heap.size) 31 t.cs := by
    rw [← hw0]
    have h := Ob.new (w) t.cs 31
    exact h
  have H1 := Lib.hid (fun W (h : Below w.heap.size w W) => ownD_any t hs ws ds ts ca cn cc cs W (hR.below h) (hC.below h) hcn)
  have H2 := Lib.hid (fun W (h : Below w.heap.size w W) => refOwn_any t hs ws ds ts ca cn cc cs W (hR.below h) (hC.below h) hcn)
  have HA := Lib.hid awake_any
  generalize ownF t hs ws ds ts cs = f at H1 H2
  obtain ⟨f1, f2⟩ := f
  simp only at H1 H2
  obtain ⟨q0, q1, q2, q3, q4, q5, q6, q7, q8, q9, q10, q11, q12⟩ := o0.task
  replace o0 := Lib.hid o0
  replace hb0 := Lib.hid hb0
  replace hw0 := Lib.hid hw0
  clear hR hC
  go_enter Try.func5, Try.ntmps5
  go_wp2_with fail
  rw [hw0.out]
  refine (H1.out w0 hb0.out).mono ?_
  rintro e w1 ⟨rfl, hb1⟩
  have hw1 := Lib.hid (B_trans hb0.out hb1)
  clear q0 q1 q2 q3 q4 q5 q6 q7 q8 q9 q10 q11 q12
  obtain ⟨q0, q1, q2, q3, q4, q5, q6, q7, q8, q9, q10, q11, q12⟩ := (o0.out.below hb1).task
  clear hb1
  go_wp2_with fail
  refine (H2.out w1 hw1.out).mono ?_
  rintro e w2 ⟨rfl, hb2⟩
  have hw2 := Lib.hid (B_trans hw1.out hb2)
  clear q0 q1 q2 q3 q4 q5 q6 q7 q8 q9 q10 q11 q12 hb2 hw1
  go_wp2_with fail
  refine (HA.out w2).mono ?_
  rintro e w3 ⟨rfl, hb3⟩
  have hw3 := Lib.hid (B_trans hw2.out hb3)
  clear hb3 hw2
  go_wp2
  refine bodyPost_ret (v := .bool true) (by simp [results, Try.results5, go_sem]) rfl ⟨rfl, hw3.out⟩
end Go.Proofs.Ytanjkhclhcnnaaa

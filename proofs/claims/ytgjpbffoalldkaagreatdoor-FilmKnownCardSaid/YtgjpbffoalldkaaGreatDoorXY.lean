/- The walk of the reference's Shrink, of a valid reel. -/
import Derived.Test.YtgjpbffoalldkaaGreatDoorXV
import Derived.Test.YtgjpbffoalldkaaGreatDoorXQ
import Derived.Deep.RegionWith
import Derived.Deep.RegionHeld
import Derived.StillTailTactics
namespace Go.Proofs.YtgjpbffoalldkaaGreatDoor
open Go.RowKit

theorem below_only {a w : World} (h : Below a.heap.size a w) (row : Option Nat) : a.grownBy w row := ⟨h.os, h.tape, h.output, h.size, fun i hi _ => h.block i hi⟩
theorem only_frozen {a w : World} {g : Nat} (h : a.grownBy w (some g)) {b o : Nat} (hb : b < a.heap.size) (hne : b ≠ g) : w.frozen? ⟨b, o, none⟩ = a.frozen? ⟨b, o, none⟩ :=
  World.frozen?_of_block (h.block b hb (fun e => hne (by injection e)))

set_option maxHeartbeats 2000000 in
set_option maxRecDepth 100000 in
theorem refShrink_yes (r : RA) (ms : List T3) (ss : List T2) (ls : List T3) (w : World) (hR : Reads w r ms ss ls) (h0 : (checkS r ms ss ls).2.2 = 0) :
    Calls Tryz.prog 35 #[.agg r.cs] w fun e w' => e = .returned (.tuple #[.agg #[.int .i64 (shrinkS (microI r.g) ls r.ln).1, .int .i64 (shrinkS (microI r.g) ls r.ln).2.1], .int .i64 (shrinkS (microI r.g) ls r.ln).2.2, .int .i64 0]) ∧ Below w.heap.size w w' := by
  have hV := valid_of h0
  obtain ⟨f, mi, hg⟩ := hV.gauge
  obtain ⟨hf1, hf2, hm1, hm2, -⟩ := hg.bd
  obtain ⟨hfo, hmi⟩ := hg.foot
  have hbl : Below w.heap.size w ((w.alloc (.cells r.cs 30)).alloc (.cells #[.int .i64 0, .int .i64 0] 25)) := B_alloc (B_alloc (Below.refl _ _) _) _
  have HC := refValid_any r ms ss ls _ (hR.below hbl)
  have hln := hV.ln
  have HVa := Lib.hid hV
  rw [hmi]
  rw [h0] at HC
  replace HC := Lib.hid HC
  have HG := Lib.hid hg
  clear h0 hfo hmi hV hg
  go_enter Tryz.func35, Tryz.ntmps35
  go_wp2_with (go_at_call 58; refine HC.out.mono ?_; rintro e1 w1 ⟨rfl, hb1⟩; obtain ⟨hc1, hf1'⟩ := bcell hb1; have hz1 : w.heap.size + 1 < w1.heap.size := (by have := hb1.size; simp at this; omega))
  obtain ⟨W0, hW0⟩ : ∃ W0, w1.alloc (.cells #[.int .i64 0, .int .i64 500] 25) = W0 := ⟨_, rfl⟩
  have hbW1 : Below w.heap.size w w1 := B_trans hbl hb1
  have hbW : Below w.heap.size w W0 := by rw [← hW0]; exact B_alloc hbW1 _
  have k0 : W0.cell? ⟨w1.heap.size, 0, none⟩ = some (.int .i64 0) := by rw [← hW0, World.cell?_alloc_at _ _ _ _ rfl]; rfl
  have k1 : W0.cell? ⟨w1.heap.size, 1, none⟩ = some (.int .i64 500) := by rw [← hW0, World.cell?_alloc_at _ _ _ _ rfl]; rfl
  have y0 : W0.frozen? ⟨w1.heap.size, 0, none⟩ = false := by rw [← hW0]; exact World.frozen?_alloc_at _ _ _ _ rfl
  have y1 : W0.frozen? ⟨w1.heap.size, 1, none⟩ = false := by rw [← hW0]; exact World.frozen?_alloc_at _ _ _ _ rfl
  have hz0 : w1.heap.size + 1 = W0.heap.size := by rw [← hW0]; simp
  have hbx : ∀ j, W0.cell? ⟨w.heap.size, j, none⟩ = r.cs[j]? := fun j => by
    rw [← hW0, alloc_old _ _ _ _ (by omega), hc1 _ _ (by simp; omega), alloc_old _ _ _ _ (by simp), World.cell?_alloc_at _ _ _ _ rfl]
  have e0 : W0.cell? ⟨w.heap.size + 1, 0, none⟩ = some (.int .i64 0) := by
    rw [← hW0, alloc_old _ _ _ _ hz1, hc1 _ _ (by simp), World.cell?_alloc_at _ _ _ _ (by simp)]; rfl
  have e1 : W0.cell? ⟨w.heap.size + 1, 1, none⟩ = some (.int .i64 0) := by
    rw [← hW0, alloc_old _ _ _ _ hz1, hc1 _ _ (by simp), World.cell?_alloc_at _ _ _ _ (by simp)]; rfl
  have z0 : W0.frozen? ⟨w.heap.size + 1, 0, none⟩ = false := by
    rw [← hW0, (B_alloc (Below.refl _ _) _).frozen (p := ⟨w.heap.size + 1, 0, none⟩) hz1, hf1' _ _ (by simp)]; exact World.frozen?_alloc_at _ _ _ _ (by simp)
  have z1 : W0.frozen? ⟨w.heap.size + 1, 1, none⟩ = false := by
    rw [← hW0, (B_alloc (Below.refl _ _) _).frozen (p := ⟨w.heap.size + 1, 1, none⟩) hz1, hf1' _ _ (by simp)]; exact World.frozen?_alloc_at _ _ _ _ (by simp)
  have hR0 := Lib.hid (hR.below hbW)
  rw [hW0]
  generalize w1.heap.size = N at hz0 hz1 k0 k1 y0 y1 ⊢
  generalize hBB : w.heap.size = B at hbx hz1 e0 e1 z0 z1 ⊢
  have HX := Lib.hid hbx
  have HE := Lib.hid (And.intro e0 (And.intro e1 (And.intro z0 z1)))
  have HB := Lib.hid hBB
  clear hbx e0 e1 z0 z1 hBB hW0 hb1 hc1 hf1' HC hbW1 hbl
  go_loopg [7, 8, 9] r.ln (fun gk i x9 p wr => ∃ k : Nat, gk = r.ln - k ∧ k ≤ r.ln ∧ i = .int .i64 k ∧ wr.cell? ⟨N, 0, none⟩ = some (.int .i64 (shr mi ls k).1) ∧ wr.cell? ⟨N, 1, none⟩ = some (.int .i64 (shr mi ls k).2) ∧ wr.frozen? ⟨N, 0, none⟩ = false ∧ wr.frozen? ⟨N, 1, none⟩ = false ∧ W0.grownBy wr (some N) ∧ (shr mi ls k).1 ≤ (shr mi ls k).2 ∧ Hid (shrinkS mi ls r.ln = shrinkR mi ls (r.ln - k) k))
  case atStart => exact ⟨0, rfl, Nat.zero_le _, rfl, k0, k1, y0, y1, only_refl _ _, by simp [shr], rfl⟩
  case round =>
    clear k0 k1 y0 y1
    obtain ⟨k, rfl, hk, rfl, k0, k1, f0, f1, hgr, hle, hst⟩ := hrel
    have hzw := hgr.size
    have m9 : wr.cell? ⟨B, 9, none⟩ = some (.slice r.la r.ln r.lc) := (only_cell hgr (by omega) (by omega)).trans (HX.out 9)
    by_cases hlt : k < r.ln
    · have hltd : decide ((k : Int) < r.ln) = true := by simp; omega
      have hbd := shr_bd mi ls k
      have hsh : shr mi ls (k + 1) = (narLo (ls.getD k (0, 0, 0)) mi (shr mi ls k).1 (shr mi ls k).2, narHi (ls.getD k (0, 0, 0)) mi (shr mi ls k).1 (shr mi ls k).2) := rfl
      have e3 : shrinkR mi ls (r.ln - k) k = if (shr mi ls (k + 1)).1 ≤ (shr mi ls (k + 1)).2 then shrinkR mi ls (r.ln - (k + 1)) (k + 1) else (0, 0, k) := by
        obtain ⟨n, hn⟩ : ∃ n, r.ln - k = n + 1 := ⟨r.ln - k - 1, by omega⟩
        have : r.ln - (k + 1) = n := by omega
        rw [hn, this]; rfl
      have hst' := hst.out.trans e3
      clear e3 hst
      generalize (shr mi ls k).1 = lo at k0 hle hbd hsh
      generalize (shr mi ls k).2 = hi at k1 hle hbd hsh
      have hNw : N < wr.heap.size := by omega
      obtain ⟨b, o, hla, hbs, hcells⟩ := hR.l.at_ (by omega)
      obtain ⟨x0c, x1c, x2c⟩ := hcells k hlt
      obtain ⟨⟨x0l, x0h⟩, ⟨x1l, x1h⟩, ⟨x2l, x2h⟩⟩ := HVa.out.leng hlt
      obtain ⟨-, -, -, ⟨hrf1, hrf2⟩, -⟩ := wholeE_ok HVa.out.whole
      have hBB := HB.out
      have hcw : ∀ off, wr.cell? ⟨b, off, none⟩ = w.cell? ⟨b, off, none⟩ := fun off => (only_cell hgr (by have := hbW.size; omega) (by omega)).trans (hbW.cell (p := ⟨b, off, none⟩) hbs)
      rw [← hcw] at x0c x1c x2c
      clear hcw
      have hnar := Lib.hid (fun p : Int => nar_spec (ls.getD k (0, 0, 0)) (mi := mi) (lo := lo) (hi := hi) (by omega) (by omega) hbd.1 hbd.2 p)
      generalize hxa : narLo (ls.getD k (0, 0, 0)) mi lo hi = xa at hnar
      generalize hxb : narHi (ls.getD k (0, 0, 0)) mi lo hi = xb at hnar
      rw [hxa, hxb] at hsh
      rw [hsh] at hst'
      have HSt := Lib.hid hst'
      have HSh := Lib.hid hsh
      clear hst' hsh
      clear hxa hxb
      generalize ls.getD k (0, 0, 0) = x at x0c x1c x2c x0l x0h x1l x1h x2l x2h hnar
      obtain ⟨x0, x1, x2⟩ := x
      simp only at x0c x1c x2c x0l x0h x1l x1h x2l x2h
      clear hcells
      obtain ⟨b1, b2, b3⟩ : (∀ p, xa ≤ p ∧ p ≤ xb → lo ≤ p ∧ p ≤ hi) ∧ True ∧ True := ⟨fun p h => ⟨((hnar.out p).1 h).1, ((hnar.out p).1 h).2.1⟩, trivial, trivial⟩
      have hns : nextS xa xb hi = (1, 0) := by
        by_cases h : xa ≤ xb
        · exact nextS_start _ _ _ (b1 xb ⟨h, Int.le_refl _⟩).2
        · exact nextS_none _ _ _ (by omega)
      obtain ⟨wo, rfl⟩ : ∃ wo, wo = wr := ⟨wr, rfl⟩
      have ha0 : (wo.alloc (.cells #[.int .i64 1, .int .i64 0] 25)).cell? ⟨wo.heap.size, 0, none⟩ = some (.int .i64 1) := by rw [World.cell?_alloc_at _ _ _ _ rfl]; rfl
      have ha1 : (wo.alloc (.cells #[.int .i64 1, .int .i64 0] 25)).cell? ⟨wo.heap.size, 1, none⟩ = some (.int .i64 0) := by rw [World.cell?_alloc_at _ _ _ _ rfl]; rfl
      have ha2 : (wo.alloc (.cells #[.int .i64 1, .int .i64 0] 25)).frozen? ⟨wo.heap.size, 0, none⟩ = false := World.frozen?_alloc_at _ _ _ _ rfl
      have ha3 : (wo.alloc (.cells #[.int .i64 1, .int .i64 0] 25)).frozen? ⟨wo.heap.size, 1, none⟩ = false := World.frozen?_alloc_at _ _ _ _ rfl
      go_wp2_with fail
      go_loopg [9] (hi - lo + 1).toNat (fun gk p wx => ∃ q : Int, gk = (q - lo + 1).toNat ∧ lo - 1 ≤ q ∧ q ≤ hi ∧ p = .int .i64 q ∧ wx.cell? ⟨wo.heap.size, 0, none⟩ = some (.int .i64 (nextS xa xb q).1) ∧ wx.cell? ⟨wo.heap.size, 1, none⟩ = some (.int .i64 (nextS xa xb q).2) ∧ wx.frozen? ⟨wo.heap.size, 0, none⟩ = false ∧ wx.frozen? ⟨wo.heap.size, 1, none⟩ = false ∧ (wo.alloc (.cells #[.int .i64 1, .int .i64 0] 25)).grownBy wx (some wo.heap.size))
      case atStart => exact ⟨hi, rfl, by omega, Int.le_refl _, rfl, by rw [hns]; exact ha0, by rw [hns]; exact ha1, ha2, ha3, only_refl _ _⟩
      case round =>
        clear ha0 ha1 ha2 ha3
        obtain ⟨q, rfl, hq1, hq2, rfl, s0, s1, g0, g1, hgx⟩ := hrel
        have hzx := hgx.size
        simp only [World.size_alloc] at hzx
        have hcy : ∀ b' off, b' < wo.heap.size → wr.cell? ⟨b', off, none⟩ = wo.cell? ⟨b', off, none⟩ := fun b' off h => (only_cell hgx (by simp; omega) (by omega)).trans (alloc_old _ _ _ _ h)
        have p0 : wr.cell? ⟨N, 0, none⟩ = some (.int .i64 lo) := (hcy _ _ hNw).trans k0
        have x0x := (hcy _ _ (by omega)).trans x0c
        have x1x := (hcy _ _ (by omega)).trans x1c
        have x2x := (hcy _ _ (by omega)).trans x2c
        have hcx : ∀ j, wr.cell? ⟨B, j, none⟩ = r.cs[j]? := fun j => (hcy _ _ (by omega)).trans ((only_cell hgr (by omega) (by omega)).trans (HX.out j))
        have m0 : wr.cell? ⟨B, 0, none⟩ = some (.string r.nm) := hcx 0
        have m1 : wr.cell? ⟨B, 1, none⟩ = some (.int .i64 r.g) := hcx 1
        have m2 : wr.cell? ⟨B, 2, none⟩ = some (.int .i64 r.b) := hcx 2
        have m3 : wr.cell? ⟨B, 3, none⟩ = some (.int .i64 r.f) := hcx 3
        have m4 : wr.cell? ⟨B, 4, none⟩ = some (.int .i64 r.lo) := hcx 4
        have m5 : wr.cell? ⟨B, 5, none⟩ = some (.int .i64 r.hi) := hcx 5
        have m6 : wr.cell? ⟨B, 6, none⟩ = some (.int .i64 r.k) := hcx 6
        have m7 : wr.cell? ⟨B, 7, none⟩ = some (.slice r.ma r.mn r.mc) := hcx 7
        have m8 : wr.cell? ⟨B, 8, none⟩ = some (.slice r.sa r.sn r.sc) := hcx 8
        have m9x : wr.cell? ⟨B, 9, none⟩ = some (.slice r.la r.ln r.lc) := hcx 9
        rw [hla] at m9x
        by_cases hql : lo ≤ q
        · have z1 := Int.mul_nonneg (show 0 ≤ x0 by omega) (show 0 ≤ mi by omega)
          have z2 := Int.mul_le_mul (show x0 ≤ 200000 by omega) (show mi ≤ 20000 by omega) (by omega) (by omega)
          have z3 := Int.mul_nonneg z1 (show 0 ≤ 10000 - q by omega)
          have z4 := Int.mul_le_mul (show x0 * mi ≤ 4000000000 by omega) (show 10000 - q ≤ 10000 by omega) (by omega) (by omega)
          have HA := Lib.hid (fun W => refAllows_any r f mi x0 x1 x2 q W HG.out z1 (by omega) z3 (by omega) (by omega) (by omega) (by omega) (by omega) (by omega) (by omega))
          have hiff := Lib.hid ((hnar.out q).trans (and_iff_right hql |>.trans (and_iff_right hq2)) |>.trans (allows_iff mi x0 x1 x2 q).symm)
          have hBx : B < wr.heap.size := by omega
          have hNx : N < wr.heap.size := by omega
          have hbx : b < wr.heap.size := by omega
          have hXx : wo.heap.size < wr.heap.size := by omega
          simp only [RA.cs, hla] at HA
          clear z1 z2 z3 z4 hcx hcy
          generalize allowsB mi x0 x1 x2 q = al at HA hiff
          cases al
          · have hno := nextS_no xa xb q (fun h => by simpa using hiff.out.1 h)
            rw [← hno] at s0 s1
            go_upto_region 12 with fail
            refine wp_region_still_tail 7 (by kernel_rfl) (by kernel_rfl) ?_
            simp only [List.take_succ_cons, List.take_zero, List.drop_succ_cons, List.drop_zero]
            repeat still_step
            try refine wpStill_nil ?_
            go_wp2_with (go_at_call 72; (with_reducible refine (HA.out _).mono ?_); rintro e wy ⟨rfl, hby⟩; have s0y := (hby.cell (p := ⟨wo.heap.size, 0, none⟩) hXx).trans s0; have s1y := (hby.cell (p := ⟨wo.heap.size, 1, none⟩) hXx).trans s1; have g0y := (hby.frozen (p := ⟨wo.heap.size, 0, none⟩) hXx).trans g0; have g1y := (hby.frozen (p := ⟨wo.heap.size, 1, none⟩) hXx).trans g1; have Hgy := Lib.hid (only_trans (only_drew hgx) (below_only hby _)); clear hby)
            go_roundg (q - 1 - lo + 1).toNat
            case measure => omega
            case rel => exact ⟨q - 1, rfl, by omega, by omega, by go_num, s0y, s1y, g0y, g1y, Hgy.out⟩
          · have hye := hiff.out.2 rfl
            have hyes := Lib.hid (nextS_yes xa xb q (by omega) hye.1 hye.2)
            generalize nextS xa xb q = nx at s0 s1 hyes
            go_upto_region 12 with fail
            refine wp_region_still_tail 7 (by kernel_rfl) (by kernel_rfl) ?_
            simp only [List.take_succ_cons, List.take_zero, List.drop_succ_cons, List.drop_zero]
            repeat still_step
            try refine wpStill_nil ?_
            go_wp2_with (go_at_call 72; (with_reducible refine (HA.out _).mono ?_); rintro e wy ⟨rfl, hby⟩; have s0y := (hby.cell (p := ⟨wo.heap.size, 0, none⟩) hXx).trans s0; have s1y := (hby.cell (p := ⟨wo.heap.size, 1, none⟩) hXx).trans s1; have g0y := (hby.frozen (p := ⟨wo.heap.size, 0, none⟩) hXx).trans g0; have g1y := (hby.frozen (p := ⟨wo.heap.size, 1, none⟩) hXx).trans g1; have Hgy := Lib.hid (only_trans (only_drew hgx) (below_only hby _)); have t0y := set_other (v := .int .i64 (max q nx.2)) (o := 1) (by decide) (set_same (v := .int .i64 q) s0y); have t1y := set_same (v := .int .i64 (max q nx.2)) (set_other (v := .int .i64 q) (o := 0) (by decide) s1y); clear hby)
            go_roundg (q - 1 - lo + 1).toNat
            case measure => omega
            case rel => exact ⟨q - 1, rfl, by omega, by omega, by go_num, by rw [hyes.out]; exact t0y, by rw [hyes.out]; exact t1y, set_frozen (set_frozen g0y), set_frozen (set_frozen g1y), only_setCell (only_setCell Hgy.out rfl _) rfl _⟩
        · obtain rfl : q = lo - 1 := by omega
          rw [← hla] at m9x
          have hBx : B + 1 < wr.heap.size := by omega
          have hNx : N < wr.heap.size := by omega
          have hXx : wo.heap.size < wr.heap.size := by omega
          have hbo : Below wo.heap.size wo wr := (B_alloc (Below.refl wo.heap.size wo) (.cells #[.int .i64 1, .int .i64 0] 25)).grown hgx (by simp) (fun k' e => by cases e; omega)
          have hgo : W0.grownBy wr (some N) := only_trans hgr (below_only hbo _)
          have p1 : wr.cell? ⟨N, 1, none⟩ = some (.int .i64 hi) := (hcy _ _ hNw).trans k1
          have fz0 : wr.frozen? ⟨N, 0, none⟩ = false := (hbo.frozen (p := ⟨N, 0, none⟩) hNw).trans f0
          have fz1 : wr.frozen? ⟨N, 1, none⟩ = false := (hbo.frozen (p := ⟨N, 1, none⟩) hNw).trans f1
          have n0 : wr.cell? ⟨B + 1, 0, none⟩ = some (.int .i64 0) := (only_cell hgo (by omega) (by omega)).trans HE.out.1
          have n1 : wr.cell? ⟨B + 1, 1, none⟩ = some (.int .i64 0) := (only_cell hgo (by omega) (by omega)).trans HE.out.2.1
          have n2 : wr.frozen? ⟨B + 1, 0, none⟩ = false := (only_frozen hgo (by omega) (by omega)).trans HE.out.2.2.1
          have n3 : wr.frozen? ⟨B + 1, 1, none⟩ = false := (only_frozen hgo (by omega) (by omega)).trans HE.out.2.2.2
          clear hcx hcy x0x x1x x2x m0 m1 m2 m3 m4 m5 m6 m7 m8 x0c x1c x2c k0 k1 f0 f1
          have Hgo := Lib.hid hgo
          by_cases hab : xa ≤ xb
          · rw [nextS_full xa xb lo hab (b1 xa ⟨Int.le_refl _, hab⟩).1] at s0 s1
            have habd : decide (xb < xa) = false := by simp; omega
            have hab' : ¬ xb < xa := by omega
            have u0 := set_other (v := .int .i64 xb) (o := 1) (by decide) (set_same (v := .int .i64 xa) p0)
            have u1 := set_same (v := .int .i64 xb) (set_other (v := .int .i64 xa) (o := 0) (by decide) p1)
            have hst2 : Hid (shrinkS mi ls r.ln = shrinkR mi ls (r.ln - (k + 1)) (k + 1)) := by
              have := HSt.out; rw [if_pos hab] at this; exact this
            clear n0 n1 n2 n3 hgx hgo hbo hgr
            go_wp2_with fail
            try rw [← hla]
            go_roundg (r.ln - (k + 1))
            case measure => omega
            case rel => exact ⟨k + 1, rfl, by omega, by go_num, by rw [HSh.out]; exact u0, by rw [HSh.out]; exact u1, set_frozen (set_frozen fz0), set_frozen (set_frozen fz1), only_setCell (only_setCell Hgo.out rfl _) rfl _, by rw [HSh.out]; exact hab, hst2⟩
          · rw [nextS_none xa xb _ (by omega)] at s0 s1
            have hfin : shrinkS mi ls r.ln = (0, 0, (k : Int)) := by have := HSt.out; rw [if_neg hab] at this; exact this
            have Hfin := Lib.hid (shrink_ret hfin)
            have q1 := set_other (v := .int .i64 0) (o := 1) (by decide) (set_same (v := .int .i64 0) n0)
            have q2 := set_same (v := .int .i64 0) (set_other (v := .int .i64 0) (o := 0) (by decide) n1)
            have hbf : Below w.heap.size w wr := hbW.grown hgo hbW.size (fun k' e => by cases e; omega)
            clear hfin
            go_wp2_with fail
            refine bodyPost_ret (v := .tuple #[.agg #[.int .i64 0, .int .i64 0], .int .i64 (k : Int), .int .i64 0]) (by simp [results, Tryz.results35, go_sem, q1, q2]) rfl ⟨Hfin.out, ?_⟩
            rw [hBB] at hbf
            refine (hbf.setCell ?_ _).setCell ?_ _ <;> (show B ≤ B + 1; omega)
    · have hk1 : k = r.ln := by omega
      have hltd : decide ((k : Int) < r.ln) = false := by simp; omega
      have hfin : shrinkS mi ls r.ln = ((shr mi ls k).1, (shr mi ls k).2, -1) := by rw [hst.out, hk1, Nat.sub_self]; rfl
      have Hfin := Lib.hid (shrink_ret hfin)
      have hBw : B + 1 < wr.heap.size := by omega
      have n0 : wr.cell? ⟨B + 1, 0, none⟩ = some (.int .i64 0) := (only_cell hgr (by omega) (by omega)).trans HE.out.1
      have n1 : wr.cell? ⟨B + 1, 1, none⟩ = some (.int .i64 0) := (only_cell hgr (by omega) (by omega)).trans HE.out.2.1
      have n2 : wr.frozen? ⟨B + 1, 0, none⟩ = false := (World.frozen?_of_block (hgr.block (B + 1) (by omega) (by intro e; injection e; omega))).trans HE.out.2.2.1
      have n3 : wr.frozen? ⟨B + 1, 1, none⟩ = false := (World.frozen?_of_block (hgr.block (B + 1) (by omega) (by intro e; injection e; omega))).trans HE.out.2.2.2
      have q1 := set_other (v := .int .i64 (shr mi ls k).2) (o := 1) (by decide) (set_same (v := .int .i64 (shr mi ls k).1) n0)
      have q2 := set_same (v := .int .i64 (shr mi ls k).2) (set_other (v := .int .i64 (shr mi ls k).1) (o := 0) (by decide) n1)
      have hBw1 := HB.out
      have hbf : Below w.heap.size w wr := hbW.grown hgr hbW.size (fun k' e => by cases e; omega)
      clear hfin hst hk1
      go_wp2_with fail
      refine bodyPost_ret (v := .tuple #[.agg #[.int .i64 _, .int .i64 _], .int .i64 (-1), .int .i64 0]) (by simp [results, Tryz.results35, go_sem, q1, q2]) rfl ⟨Hfin.out, ?_⟩
      refine (hbf.setCell ?_ _).setCell ?_ _ <;> (show w.heap.size ≤ B + 1; have := HB.out; omega)

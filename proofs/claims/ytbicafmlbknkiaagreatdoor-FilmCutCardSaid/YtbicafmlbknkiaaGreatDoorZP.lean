/- The law FilmCut. -/
import Derived.Test.YtbicafmlbknkiaaGreatDoorZN
import Derived.Test.YtbicafmlbknkiaaGreatDoorXS
import Derived.StillTailTactics
namespace Go.Proofs.YtbicafmlbknkiaaGreatDoor
open Go.RowKit

set_option maxHeartbeats 2000000 in
set_option maxRecDepth 100000 in
theorem cutLaw_any (hA : AwakeSaid) (r : RA) (g ro fi fr x : Int) (aa : Option Addr) (an ac : Nat) (ah : List Int) (na : Option Addr) (nn nc : Nat) (no : List Int) (ms0 : List T3) (ss : List T2) (ls : List T3) (w : World) (G : Glob w) (hR : Reads w r ms0 ss ls) (hg0 : 0 ≤ g) (hg1 : g ≤ 255) (hr0 : 0 ≤ ro) (hr1 : ro ≤ 255) (hf0 : 0 ≤ fi) (hf1 : fi ≤ 65535) (hq0 : 0 ≤ fr) (hq1 : fr ≤ 65535) (hx0 : 0 ≤ x) (hx1 : x ≤ 65535)
    (hAh : Nums w .u8 0 255 aa an ah) (hNo : Nums w .u8 0 255 na nn no) :
    Calls Tryz.prog 9 #[.agg r.cs, .agg #[.int .u8 g, .int .u8 ro, .int .u16 fi, .slice aa an ac, .int .u16 fr, .slice na nn nc], .int .u16 x] w fun e w' => e = .returned (.bool true) ∧ Below w.heap.size w w' := by
  have HA := Lib.hid (fun W (h : Below w.heap.size w W) => hA W (G.below G.hz h))
  have HM := Lib.hid (fun W (h : Below w.heap.size w W) => made_any r g ro fi fr aa an ac ah na nn nc no W hg0 hg1 hr0 hr1 hf0 hf1 hq0 hq1 (hAh.below h) (hNo.below h))
  have HB0 : Hid (Below w.heap.size w ((w.alloc (.cells r.cs 30)).alloc (.cells #[.int .u8 g, .int .u8 ro, .int .u16 fi, .slice aa an ac, .int .u16 fr, .slice na nn nc] 64))) := B_alloc (B_alloc (Below.refl _ _) _) _
  have hahb : Hid (∀ i, i < ah.length → 0 ≤ ah.getD i 0 ∧ ah.getD i 0 ≤ 255) := fun i hi => by
    have hl := hAh.len
    obtain ⟨b, o, -, -, hcells⟩ := hAh.at_ (by omega)
    exact (hcells i (by omega)).2
  obtain ⟨mi, hga⟩ := gaugeI_is g
  obtain ⟨hfo1, hfo2, -, -, hgg⟩ := hga.bd
  have hok := mkTo_ok (foot := footI (gaugeI g)) (roll := ro % 100) (a0 := fi % 20000) (ah := ah) (no := no) (by omega) (by omega) hahb.out (1 + fr % 600).toNat
  have HOk := Lib.hid hok
  have hfew := hok.few
  have hN : Hid (((1 + fr % 600).toNat : Int) = 1 + fr % 600) := by unfold Hid; omega
  have HR := Lib.hid hR
  have HG := Lib.hid G
  unfold MadePost at HM
  generalize hNN : (1 + fr % 600).toNat = N at HM hok HOk hN hfew
  have HNN := Lib.hid hNN
  clear hNN
  generalize (mkTo (footI (gaugeI g)) (ro % 100) (fi % 20000) ah no N).1 = ms at HM hok HOk hfew
  clear hA hR G hAh hNo hok hga
  go_enter Tryz.func9, Tryz.ntmps9
  go_upto_region 3 with (go_at_call 40; (with_reducible refine (HM.out _ HB0.out).mono ?_); rintro e w1 ⟨a, c, ra, rc, rfl, hsl, hI, hb1⟩; have B1 := Lib.hid (B_trans HB0.out hb1); have Hsl := Lib.hid hsl; have HI := Lib.hid hI; clear hsl hI)
  have HRw := Lib.hid (HR.out.below B1.out)
  have HRq : Hid (∀ W, Below w1.heap.size w1 W → Reads W { madeR r g fr a ms.length c with la := none, ln := 0, lc := 0 } ms ss []) := fun W h => by
    have h1 := HRw.out.below h
    exact ⟨h1.nm, by show ms.length ≤ _; omega, h1.sn, Nat.zero_le _, Hsl.out.below h, h1.s, ⟨rfl, fun h => absurd h (Nat.lt_irrefl 0)⟩⟩
  have HqG : Hid ((madeR r g fr a ms.length c).g = gaugeI g ∧ (madeR r g fr a ms.length c).f = 1 + fr % 600 ∧ (madeR r g fr a ms.length c).mn = ms.length) := ⟨rfl, rfl, rfl⟩
  generalize madeR r g fr a ms.length c = q at HRq HqG ⊢
  have HX : Hid (∀ W, Below (w1.alloc (.cells ({ q with la := none, ln := 0, lc := 0 } : RA).cs 30)).heap.size (w1.alloc (.cells ({ q with la := none, ln := 0, lc := 0 } : RA).cs 30)) W → Box W w1.heap.size { q with la := none, ln := 0, lc := 0 }) := fun W h => (Box.new w1 { q with la := none, ln := 0, lc := 0 }).below h
  have HBs : Hid (Below w1.heap.size w1 (w1.alloc (.cells ({ q with la := none, ln := 0, lc := 0 } : RA).cs 30))) := B_alloc (Below.refl _ _) _
  have HC := fun W (h : Below w1.heap.size w1 W) => refCheck_any { q with la := none, ln := 0, lc := 0 } ms ss [] W (HRq.out W h)
  unfold CheckPost at HC
  by_cases h0 : (checkS { q with la := none, ln := 0, lc := 0 } ms ss []).2.2 = 0
  · have hV := valid_of h0
    have HGa := Lib.hid (fun W (h : Below w1.heap.size w1 W) => (gaps_yes { q with la := none, ln := 0, lc := 0 } ms ss [] W (HG.out.below HG.out.hz (B_trans B1.out h)) (HRq.out W h) h0).mono fun e w' h => And.intro (gapsOut_of h.1) h.2)
    have HPl := Lib.hid (fun y W (h : Below w1.heap.size w1 W) => place_any { q with la := none, ln := 0, lc := 0 } y ms ss [] W (HG.out.below HG.out.hz (B_trans B1.out h)) (HRq.out W h))
    have hwr : wrongTo (footI q.g) ms (q.mn - 1) = [] := by
      rw [HqG.out.1, HqG.out.2.2]
      by_cases e : ms.length = 0
      · rw [e]; rfl
      · exact HOk.out.wrong hahb.out _ (by omega)
    simp only [hwr] at HGa
    generalize hL : gapsTo (footI ({ q with la := none, ln := 0, lc := 0 } : RA).g) ms (({ q with la := none, ln := 0, lc := 0 } : RA).mn - 1) = L at HGa
    have HL : Hid (gapsTo (footI (gaugeI g)) ms (ms.length - 1) = L) := by rw [← HqG.out.1, ← HqG.out.2.2]; exact hL
    clear hL
    rw [h0] at HC
    generalize (checkS { q with la := none, ln := 0, lc := 0 } ms ss []).1 = c1 at HC
    generalize (checkS { q with la := none, ln := 0, lc := 0 } ms ss []).2.1 = c2 at HC
    replace HC := Lib.hid HC
    have HV := Lib.hid hV
    have H0 := Lib.hid h0
    clear hV hwr h0
    go_wp2_with (first
      | (go_at_call 19; (with_reducible refine (HC.out _ HBs.out).mono ?_); rintro e w2 ⟨rfl, hb2⟩; have B2 := Lib.hid (B_trans HBs.out hb2); have X2 := Lib.hid (HX.out _ hb2); obtain ⟨m0, m1, m2, m3, m4, m5, m6, m7, m8, m9⟩ := X2.out.all; have hz2 : w1.heap.size < w2.heap.size := X2.out.lt)
      | (go_at_call 24; (with_reducible refine (HGa.out _ B2.out).mono ?_); rintro e w3 ⟨⟨ga, gc, wa, wc', rfl, hgs, hws⟩, hb3⟩; have B3 := Lib.hid (B_trans B2.out hb3); have X3 := Lib.hid (X2.out.below hb3); have Hgs := Lib.hid hgs; clear hgs hws))
    have hmn : Hid (q.mn = ms.length) := HqG.out.2.2
    have hq60 : q.mn ≤ 60 := by rw [hmn.out]; exact hfew
    have hz3 : w1.heap.size < w3.heap.size := X3.out.lt
    clear hb2 hb3 m0 m1 m2 m3 m4 m5 m6 m7 m8 m9
    have efo : footI q.g = footI (gaugeI g) := by rw [HqG.out.1]
    have HF := Lib.hid (fun W => (show Calls Tryz.prog 41 #[.int .i64 q.g] W fun e w' => e = .returned (.int .i64 (footI (gaugeI g))) ∧ W = w' from by rw [← efo]; exact foot_any q.g W))
    have Hefo := Lib.hid efo
    clear efo
    generalize footI (gaugeI g) = foot at hfo1 hfo2 HOk HL HF Hefo
    go_loopg [14, 15, 16, 17, 18] q.mn (fun gk v14 v15 v16 v17 v18 wr => ∃ j : Nat, gk = q.mn - j ∧ (j = 0 ∨ j + 1 ≤ q.mn) ∧ v15 = .int .i64 ((j : Int) + 1) ∧ v14 = .int .i64 ((gapsTo foot ms j).length : Int) ∧ Below w3.heap.size w3 wr)
    case atStart => exact ⟨0, rfl, .inl rfl, rfl, rfl, Below.refl _ _⟩
    case round =>
      obtain ⟨j, rfl, hj, rfl, rfl, hb⟩ := hrel
      have hzw := hb.size
      have X4 := X3.out.below hb
      have m7 : wr.cell? ⟨w1.heap.size, 7, none⟩ = some (.slice q.ma q.mn q.mc) := X4.cell 7
      by_cases hlt : j + 1 < q.mn
      · obtain ⟨b, o, hma, hbs, hcells⟩ := (HRq.out wr (B_trans B3.out hb)).m.at_ (by show 0 < q.mn; omega)
        replace hma : q.ma = some ⟨b, o, none⟩ := hma
        obtain ⟨x0c, x1c, x2c⟩ := hcells j (by show j < q.mn; omega)
        obtain ⟨y0c, y1c, y2c⟩ := hcells (j + 1) (by show j + 1 < q.mn; omega)
        obtain ⟨f, f2, ef, ef2, hff, hf2n, hmiss⟩ := HOk.out.miss (k := j) (by have := hmn.out; omega)
        have hmi0 := HOk.out.miss0 hahb.out (k := j) (by have := hmn.out; omega)
        have hgp := Lib.hid (HOk.out.gaps (k := j) (by have := hmn.out; omega))
        rw [ef] at x0c
        rw [ef2] at y0c
        rw [ef, ef2] at hgp
        have Hmiss := Lib.hid hmiss
        clear hcells hmiss ef ef2
        generalize (ms.getD j (0, 0, 0)).2.1 = x1 at x1c
        generalize (ms.getD j (0, 0, 0)).2.2 = x2 at x2c
        generalize (ms.getD (j + 1) (0, 0, 0)).2.1 = y1 at y1c
        generalize (ms.getD (j + 1) (0, 0, 0)).2.2 = y2 at y2c
        rw [hma] at m7
        have hBw : w1.heap.size < wr.heap.size := X4.lt
        have hal : ∀ (W : World) O c k, c < W.heap.size → (W.alloc O).cell? ⟨c, k, none⟩ = W.cell? ⟨c, k, none⟩ := fun W O c k h => alloc_old W O c k h
        have hwk : IntKind.i64.wrap (j : Int) = j := IntWalk.i64_in _ (by omega)
        have hBw1 : w1.heap.size < wr.heap.size + 1 := by omega
        have hbw1 : b < wr.heap.size + 1 := by omega
        have hkl : (j : Int) < q.mn := by omega
        have hkl1 : (j : Int) + 1 < q.mn := by omega
        have hk0 : 0 ≤ (j : Int) := by omega
        have hk1 : 0 ≤ (j : Int) + 1 := by omega
        have hkt : ((j : Int) + 1).toNat = j + 1 := by omega
        go_upto_region 13 with fail
        go_cut [16, 17] (fun a b wx => ∃ pa pb : Nat, a = .pointer (some ⟨pa, 0, none⟩) ∧ b = .pointer (some ⟨pb, 0, none⟩) ∧ wx.cell? ⟨pa, 0, none⟩ = some (.int .i64 (f : Int)) ∧ wx.cell? ⟨pb, 0, none⟩ = some (.int .i64 (f2 : Int)) ∧ pa < wx.heap.size ∧ pb < wx.heap.size ∧ Below wr.heap.size wr wx)
        case first =>
          go_region
          all_goals go_wp2_with fail
          all_goals go_meet
          · exact ⟨wr.heap.size, wr.heap.size + 1, rfl, rfl, by simp, by simp, by first | (simp; done) | (simp; omega), by first | (simp; done) | (simp; omega), (B_alloc (B_alloc (Below.refl _ _) _) _).drew⟩
          · exact ⟨wr.heap.size + 1, wr.heap.size, rfl, rfl, by simp, by simp, by first | (simp; done) | (simp; omega), by first | (simp; done) | (simp; omega), (B_alloc (B_alloc (Below.refl _ _) _) _).drew⟩
        case rest =>
          obtain ⟨pa, pb, rfl, rfl, a0c, b0c, hpa, hpb, hbc⟩ := hcut
          have hB3w := Lib.hid (B_trans B3.out (B_trans hb hbc))
          have hpf := posI_bd (a0 := fi % 20000) hahb.out f
          have hpf2 := posI_bd (a0 := fi % 20000) hahb.out f2
          have hfle := posI_le (a0 := fi % 20000) hahb.out (Nat.le_of_lt hff)
          obtain ⟨b7, o7, hra, hbs7, hc7⟩ := (HI.out.below hB3w.out).at_ (by omega)
          have p7 := hc7 f (by omega)
          have p8 := hc7 f2 hf2n
          rw [allI_at _ _ (by omega)] at p7
          rw [allI_at _ _ hf2n] at p8
          have hN2 := hN.out
          clear hc7 x0c x1c x2c y0c y1c y2c hal hwk hBw1 hbw1 hkt hma m7 hbs
          have hmiss := Hmiss.out
          generalize posI (fi % 20000) ah f = pf at hpf hfle p7 hmiss
          generalize posI (fi % 20000) ah f2 = pf2 at hpf2 hfle p8 hmiss
          generalize missI foot ms j = mi at hmi0 hgp hmiss
          have Hm : Hid (pf2 - pf - ((f2 : Int) - f) = mi) := hmiss.symm
          clear hmiss Hmiss
          have hf0 : (0 : Int) ≤ f := by omega
          have hf20 : (0 : Int) ≤ f2 := by omega
          have hfN : (f : Int) < (N : Int) := by omega
          have hf2N : (f2 : Int) < (N : Int) := by omega
          have hw1 : IntKind.i64.wrap (pf2 - pf) = pf2 - pf := IntWalk.i64_in _ (by omega)
          have hw2 : IntKind.i64.wrap ((f2 : Int) - f) = (f2 : Int) - f := IntWalk.i64_in _ (by omega)
          have hw3 : IntKind.i64.wrap (pf2 - pf - ((f2 : Int) - f)) = pf2 - pf - ((f2 : Int) - f) := IntWalk.i64_in _ (by omega)
          have hmb : mi ≤ 400000 := by have := Hm.out; omega
          go_wp2
          go_quiet (fail)
          go_upto_region 15 with fail
          rw [Hm.out]
          clear hw1 hw2 hw3 hpf hpf2 hfle p7 p8
          by_cases hm0 : mi = 0
          · have hg0' : Hid (gapsTo foot ms (j + 1) = gapsTo foot ms j) := by rw [Hid, hgp.out, if_neg (by omega), List.append_nil]
            have hmb0 : (mi == 0) = true := by simpa using hm0
            clear hgp
            go_wp2
            try rw [← hra]
            go_roundg (q.mn - (j + 1))
            case measure => omega
            case rel => exact ⟨j + 1, rfl, .inr (by omega), by go_num, by rw [hg0'.out], B_drewN (B_trans hb hbc) _⟩
          · have hmb0 : (mi == 0) = false := by simpa using hm0
            have hgs' : Hid (gapsTo foot ms (j + 1) = gapsTo foot ms j ++ [((f : Int), (f2 : Int), mi)]) := by rw [Hid, hgp.out, if_pos (by omega)]
            obtain ⟨tl, htl⟩ := gapsTo_prefix foot ms (j + 1) (ms.length - 1 - (j + 1))
            rw [show j + 1 + (ms.length - 1 - (j + 1)) = ms.length - 1 by have := hmn.out; omega, HL.out, hgs'.out] at htl
            have hkL : (gapsTo foot ms j).length < L.length := by rw [htl]; simp
            have hLk : L.getD (gapsTo foot ms j).length (0, 0, 0) = ((f : Int), (f2 : Int), mi) := by rw [htl]; simp [List.getD_eq_getElem?_getD]
            have hlen' : Hid ((gapsTo foot ms (j + 1)).length = (gapsTo foot ms j).length + 1) := by rw [Hid, hgs'.out]; simp
            have hgl := gapsTo_len foot ms j
            obtain ⟨b9, o9, hga9, hbs9, hc9⟩ := (Hgs.out.below (B_trans hb hbc)).at_ (by omega)
            obtain ⟨g0, g1', g2⟩ := hc9 (gapsTo foot ms j).length hkL
            rw [hLk] at g0 g1' g2
            simp only at g0 g1' g2
            clear hc9 hLk htl hgp hgs'
            generalize (gapsTo foot ms j).length = kk at hkL hlen' hgl g0 g1' g2 ⊢
            have hkk0 : (0 : Int) ≤ (kk : Int) := by omega
            have hkk1 : (kk : Int) < (L.length : Int) := by omega
            go_wp2
            go_quiet (fail)
            go_wp2
            try rw [← hra]
            try rw [← hga9]
            go_roundg (q.mn - (j + 1))
            case measure => omega
            case rel => exact ⟨j + 1, rfl, .inr (by omega), by go_num, by rw [hlen'.out]; go_num, B_drewN (B_trans hb hbc) _⟩
      · have hmnE := hmn.out
        have ej : j = ms.length - 1 := by omega
        rw [show (gapsTo foot ms j).length = L.length by rw [ej, HL.out]]
        have hNp : 0 < N := by have := hN.out; omega
        obtain ⟨y, hy⟩ : ∃ y : Nat, x % (N : Int) = y := ⟨(x % (N : Int)).toNat, by have := Int.emod_nonneg x (show (N : Int) ≠ 0 by omega); omega⟩
        have hyN : y < N := by have := Int.emod_lt_of_pos x (show 0 < (N : Int) by omega); omega
        have hxt : x.tmod (N : Int) = y := by rw [Int.tmod_eq_emod_of_nonneg hx0]; exact hy
        have HP1 := HPl.out (y : Int) wr (B_trans B3.out hb)
        unfold placeV at HP1
        have hfacts : Hid ((ms.length = 0 → (placeS { q with la := none, ln := 0, lc := 0 } ms ss [] y).2.2.2 = 4) ∧ (0 < ms.length → posI (fi % 20000) ah y ≤ 9999 * foot → (placeS { q with la := none, ln := 0, lc := 0 } ms ss [] y).2.2.2 = 0 ∧ (placeS { q with la := none, ln := 0, lc := 0 } ms ss [] y).1 = ro % 100 ∧ (placeS { q with la := none, ln := 0, lc := 0 } ms ss [] y).2.1 ≤ posI (fi % 20000) ah y ∧ posI (fi % 20000) ah y ≤ (placeS { q with la := none, ln := 0, lc := 0 } ms ss [] y).2.2.1)) := by
          have hin : inB (y : Int) 0 (({ q with la := none, ln := 0, lc := 0 } : RA).f - 1) = true := by
            rw [show (({ q with la := none, ln := 0, lc := 0 } : RA).f) = 1 + fr % 600 from HqG.out.2.1]
            have := hN.out
            simp [inB]
            omega
          refine ⟨fun hl => ?_, fun hl hmax => ?_⟩
          · rw [placeS_none H0.out hin (by show q.mn = 0; omega)]
          · obtain ⟨lo, hi, hb1, hb2, hb3⟩ := HOk.out.place hahb.out (by omega) hl y
            have hb4 := hb3 hmax
            have hbe : betS (footI ({ q with la := none, ln := 0, lc := 0 } : RA).g) ms ({ q with la := none, ln := 0, lc := 0 } : RA).mn y = (ro % 100, lo, hi) := by
              rw [show ({ q with la := none, ln := 0, lc := 0 } : RA).g = q.g from rfl, Hefo.out, show ({ q with la := none, ln := 0, lc := 0 } : RA).mn = ms.length from hmn.out]; exact hb1
            unfold placeS
            rw [H0.out, hin, hbe, if_neg (by simp), if_neg (by simp), if_neg (by show ¬ q.mn = 0; omega), if_neg (by simp only; omega)]
            exact ⟨rfl, rfl, hb2, hb4⟩
        generalize placeS { q with la := none, ln := 0, lc := 0 } ms ss [] y = pp at HP1 hfacts
        obtain ⟨p1, p2, p3, p4⟩ := pp
        simp only at HP1 hfacts
        have hxt2 : x % (N : Int) = y := hy
        replace HP1 := Lib.hid HP1
        obtain ⟨m0, m1, m2, m3, m4, m5, m6, m7', m8, m9⟩ := X4.all
        have hBw := X4.lt
        have hzN : 0 < (N : Int) := by omega
        have hxw : IntKind.i64.wrap x = x := IntWalk.i64_in _ (by omega)
        have hfx := hfacts.out
        have hex : ¬ ((j : Int) + 1 < (q.mn : Int)) := by omega
        by_cases hl : ms.length = 0
        · obtain rfl : p4 = 4 := hfx.1 hl
          have hqb : ((q.mn : Int) == 0) = true := by simp; omega
          clear hfx hmnE ej hj hlt
          go_wp2_with (first | (go_at_call 28; (with_reducible refine HP1.out.mono ?_); rintro e w4 ⟨rfl, hb4⟩; have hc4 := (bcell hb4).1; have hz4 : w1.heap.size < w4.heap.size := Nat.lt_of_lt_of_le hBw hb4.size; have hz4' : w1.heap.size < w4.heap.size + 1 := (by omega); have B4 := Lib.hid (B_alloc (B_trans B1.out (B_trans (B_trans B3.out hb) hb4)) (.cells #[.int .i64 p2, .int .i64 p3] 25)); have Hb4 := Lib.hid (B_alloc hb4 (.cells #[.int .i64 p2, .int .i64 p3] 25))) | (go_at_call 17; (with_reducible refine (HA.out _ B4.out).mono ?_); rintro e w5 ⟨rfl, hb5⟩))
          all_goals (go_ret; exact ⟨rfl, B_trans B4.out hb5⟩)
        · have hqb : ((q.mn : Int) == 0) = false := by simp; omega
          have hfx2 := hfx.2 (by omega)
          have hpy := posI_bd (a0 := fi % 20000) hahb.out y
          obtain ⟨b7, o7, hra, hbs7, hc7⟩ := (HI.out.below (B_trans B3.out hb)).at_ hNp
          have p7 := hc7 y hyN
          rw [allI_at _ _ hyN] at p7
          generalize posI (fi % 20000) ah y = P at p7 hfx2 hpy
          obtain ⟨bm, om, hma, hbsm, hcm⟩ := (HRq.out wr (B_trans B3.out hb)).m.at_ (by show 0 < q.mn; omega)
          replace hma : q.ma = some ⟨bm, om, none⟩ := hma
          obtain ⟨-, r1c, -⟩ := hcm 0 (by show 0 < q.mn; omega)
          rw [HOk.out.roll_ (by omega)] at r1c
          clear hcm
          clear hfx ej hj hlt hc7
          have hy0 : 0 ≤ (y : Int) := by omega
          have hyN1 : (y : Int) < (N : Int) := by omega
          simp only [RA.cs, hma, hmnE] at HP1
          have hw9 : IntKind.i64.wrap (9999 * foot) = 9999 * foot := IntWalk.i64_in _ (by omega)
          go_upto_region 23 with (go_at_call 28; (with_reducible refine HP1.out.mono ?_); rintro e w4 ⟨rfl, hb4⟩; have hc4 := (bcell hb4).1; have hz4 : w1.heap.size < w4.heap.size := Nat.lt_of_lt_of_le hBw hb4.size; have hz4' : w1.heap.size < w4.heap.size + 1 := (by omega); have B4 := Lib.hid (B_alloc (B_trans B1.out (B_trans (B_trans B3.out hb) hb4)) (.cells #[.int .i64 p2, .int .i64 p3] 25)); have hz7 : b7 < w4.heap.size := Nat.lt_of_lt_of_le hbs7 hb4.size; have hz8 : bm < w4.heap.size := Nat.lt_of_lt_of_le hbsm hb4.size; have hz9 : b7 < w4.heap.size + 1 := (by omega); have hz10 : bm < w4.heap.size + 1 := (by omega); have hz11 : wr.heap.size ≤ w4.heap.size := hb4.size)
          by_cases hP : 9999 * foot < P
          · go_quiet ((go_at_call 41; exact quiet_left (HF.out _)))
            go_wp2_with (go_at_call 17; (with_reducible refine (HA.out _ (B_drewN B4.out _)).mono ?_); rintro e w5 ⟨rfl, hb5⟩)
            go_ret
            exact ⟨rfl, B_trans (B_drewN B4.out _) hb5⟩
          · obtain ⟨rfl, rfl, hlo, hhi⟩ := hfx2 (by omega)
            go_quiet ((go_at_call 41; exact quiet_left (HF.out _)))
            have r1c' : wr.cell? ⟨bm, om + 1, none⟩ = some (.int .i64 (ro % 100)) := by simpa using r1c
            clear r1c
            go_upto_region 25 with fail
            have hqm : q.mn = ms.length := hmnE
            obtain ⟨W, hW⟩ : ∃ W, (w4.alloc (.cells #[.int .i64 p2, .int .i64 p3] 25)).drewN nq = W := ⟨_, rfl⟩
            have hBW : Hid (Below w.heap.size w W) := by rw [Hid, ← hW]; exact B_drewN B4.out _
            have hWr : ∀ b' o', b' < wr.heap.size → W.cell? ⟨b', o', none⟩ = wr.cell? ⟨b', o', none⟩ := fun b' o' h => by
              rw [← hW, World.cell?_drewN, alloc_old _ _ _ _ (by have := hz11; omega)]; exact hc4 _ _ h
            have M7 : W.cell? ⟨w1.heap.size, 7, none⟩ = some (.slice (some ⟨bm, om, none⟩) ms.length q.mc) := by rw [hWr _ _ hBw, ← hma, ← hqm]; exact m7'
            have R1 : W.cell? ⟨bm, om + 1, none⟩ = some (.int .i64 (ro % 100)) := (hWr _ _ hbsm).trans r1c'
            have P7 : W.cell? ⟨b7, o7 + y, none⟩ = some (.int .i64 P) := (hWr _ _ hbs7).trans p7
            have S0 : W.cell? ⟨w4.heap.size, 0, none⟩ = some (.int .i64 p2) := by rw [← hW, World.cell?_drewN, World.cell?_alloc_at _ _ _ _ rfl]; rfl
            have S1 : W.cell? ⟨w4.heap.size, 1, none⟩ = some (.int .i64 p3) := by rw [← hW, World.cell?_drewN, World.cell?_alloc_at _ _ _ _ rfl]; rfl
            rw [hW]
            obtain ⟨M, hM⟩ : ∃ M, ms.length = M := ⟨_, rfl⟩
            have hM0 : 0 < M := by omega
            have hM1 : (0 : Int) < (M : Int) := by omega
            rw [hM] at M7 ⊢
            clear hM hqm hmnE hl
            clear hW hWr hc4 m7' r1c' p7 m0 m1 m2 m3 m4 m5 m6 m8 m9 hfx2 hfacts HP1
            refine wp_region_still_tail 36 (by kernel_rfl) (by kernel_rfl) ?_
            simp only [List.take_succ_cons, List.take_zero, List.drop_succ_cons, List.drop_zero]
            repeat still_step
            try refine wpStill_nil ?_
            have HAw := Lib.hid (HA.out _ hBW.out.drew)
            go_wp2_with (go_at_call 17; (with_reducible refine HAw.out.mono ?_); rintro e w5 ⟨rfl, hb5⟩)
            go_ret
            exact ⟨rfl, B_trans hBW.out.drew hb5⟩
  · have h0b : ((checkS { q with la := none, ln := 0, lc := 0 } ms ss []).2.2 != 0) = true := by simp [h0]
    generalize (checkS { q with la := none, ln := 0, lc := 0 } ms ss []).2.2 = c0 at HC h0 h0b
    generalize (checkS { q with la := none, ln := 0, lc := 0 } ms ss []).1 = c1 at HC
    generalize (checkS { q with la := none, ln := 0, lc := 0 } ms ss []).2.1 = c2 at HC
    replace HC := Lib.hid HC
    clear h0
    go_wp2_with (first
      | (go_at_call 19; (with_reducible refine (HC.out _ HBs.out).mono ?_); rintro e w2 ⟨rfl, hb2⟩; have B2 := Lib.hid (B_trans B1.out (B_trans HBs.out hb2)))
      | (go_at_call 17; (with_reducible refine (HA.out _ B2.out).mono ?_); rintro e w4 ⟨rfl, hb4⟩))
    all_goals (go_ret; exact ⟨rfl, B_trans B2.out hb4⟩)
end Go.Proofs.YtbicafmlbknkiaaGreatDoor

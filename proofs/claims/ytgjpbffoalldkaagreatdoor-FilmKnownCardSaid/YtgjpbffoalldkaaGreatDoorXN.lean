/- The walk of the reference's Gaps. -/
import Derived.Test.YtgjpbffoalldkaaGreatDoorXL
import Derived.Test.YtgjpbffoalldkaaGreatDoorXI
import Derived.Test.YtgjpbffoalldkaaGreatDoorWP
namespace Go.Proofs.YtgjpbffoalldkaaGreatDoor
open Go.RowKit

theorem refValid_any (r : RA) (ms : List T3) (ss : List T2) (ls : List T3) (w : World) (hR : Reads w r ms ss ls) :
    Calls Tryz.prog 58 #[.agg r.cs] w fun e w' => e = .returned (.int .i64 (checkS r ms ss ls).2.2) ∧ Below w.heap.size w w' := by
  have hbl : Below w.heap.size w (w.alloc (.cells r.cs 30)) := B_alloc (Below.refl _ _) _
  have HC := refCheck_any r ms ss ls _ (hR.below hbl)
  unfold CheckPost at HC
  generalize checkS r ms ss ls = p at HC ⊢
  obtain ⟨p1, p2, p3⟩ := p
  simp only at HC ⊢
  replace HC := Lib.hid HC
  clear hR
  go_enter Tryz.func58, Tryz.ntmps58
  go_wp2_with (go_at_call 20; refine HC.out.mono ?_; rintro e w1 ⟨rfl, hb1⟩)
  go_ret
  exact ⟨rfl, B_trans hbl hb1⟩

set_option maxRecDepth 100000 in
theorem refMissing_any (r : RA) (f x0 x1 x2 y0 y1 y2 : Int) (w : World) (hf : footI r.g = f) (q1 : -1000000 ≤ (y2 - x2) * f) (q2 : (y2 - x2) * f ≤ 1000000) (hx0 : 0 ≤ x0) (hx1 : x0 ≤ 200000) (hy0 : 0 ≤ y0) (hy1 : y0 ≤ 200000) (hx2 : 0 ≤ x2) (hx3 : x2 ≤ 9999) (hy2 : 0 ≤ y2) (hy3 : y2 ≤ 9999) :
    Calls Tryz.prog 59 #[.agg r.cs, .agg #[.int .i64 x0, .int .i64 x1, .int .i64 x2], .agg #[.int .i64 y0, .int .i64 y1, .int .i64 y2]] w fun e w' => e = .returned (.int .i64 ((y2 - x2) * f - (y0 - x0))) ∧ Below w.heap.size w w' := by
  have HF := Lib.hid (fun W => foot_any r.g W)
  rw [hf] at HF
  have w1 : IntKind.i64.wrap (y2 - x2) = y2 - x2 := IntWalk.i64_in _ (by omega)
  have w2 : IntKind.i64.wrap ((y2 - x2) * f) = (y2 - x2) * f := IntWalk.i64_in _ (by omega)
  have w3 : IntKind.i64.wrap (y0 - x0) = y0 - x0 := IntWalk.i64_in _ (by omega)
  have w4 : IntKind.i64.wrap ((y2 - x2) * f - (y0 - x0)) = (y2 - x2) * f - (y0 - x0) := IntWalk.i64_in _ (by omega)
  have hb : Below w.heap.size w (((w.alloc (.cells r.cs 30)).alloc (.cells #[.int .i64 x0, .int .i64 x1, .int .i64 x2] 68)).alloc (.cells #[.int .i64 y0, .int .i64 y1, .int .i64 y2] 68)) := B_alloc (B_alloc (B_alloc (Below.refl _ _) _) _) _
  have HB := Lib.hid hb
  clear hf hb
  go_enter Tryz.func59, Tryz.ntmps59
  go_wp2
  go_quiet ((go_at_call 42; exact quiet_left (HF.out _)))
  go_wp2
  go_ret
  exact ⟨rfl, B_drewN HB.out _⟩

set_option maxHeartbeats 4000000 in
set_option maxRecDepth 100000 in
theorem refGaps_yes (r : RA) (ms : List T3) (ss : List T2) (ls : List T3) (w : World) (hR : Reads w r ms ss ls) (h0 : (checkS r ms ss ls).2.2 = 0) :
    Calls Tryz.prog 26 #[.agg r.cs] w fun e w' => GapsPost w.heap.size (footI r.g) ms (r.mn - 1) e w' ∧ Below w.heap.size w w' := by
  have hV := valid_of h0
  obtain ⟨f, mi, hg⟩ := hV.gauge
  obtain ⟨hf1, hf2, -⟩ := hg.bd
  obtain ⟨hfo, hmi⟩ := hg.foot
  have hbl : Below w.heap.size w (w.alloc (.cells r.cs 30)) := B_alloc (Below.refl _ _) _
  have HC := refValid_any r ms ss ls _ (hR.below hbl)
  have HWh := wholeE_ok hV.whole
  have hmn := hV.mn
  have HVa := Lib.hid hV
  rw [hfo]
  have Hfo := Lib.hid hfo
  rw [h0] at HC
  replace HC := Lib.hid HC
  have hmul := Lib.hid (fun (a : Int) => hg.mul (a := a))
  obtain ⟨i70, hi70, hz70, hs70, hy70⟩ := info_parts info70
  obtain ⟨i3, hi3, hz3', hs3, hy3⟩ := info_parts info3
  clear h0 hfo hmi hV hg
  go_enter Tryz.func26, Tryz.ntmps26
  go_wp2_with (go_at_call 58; refine HC.out.mono ?_; rintro e W0 ⟨rfl, hb1⟩)
  have hz3 : w.heap.size < W0.heap.size := by have := hb1.size; simp at this; omega
  have hbx : ∀ j, W0.cell? ⟨w.heap.size, j, none⟩ = r.cs[j]? := fun j => by
    rw [hb1.cell (p := ⟨w.heap.size, j, none⟩) (by simp), World.cell?_alloc_at _ _ _ _ rfl]
  have hbW : Below w.heap.size w W0 := B_trans hbl hb1
  have hR0 := Lib.hid (hR.below hbW)
  generalize hBB : w.heap.size = B at hbx hz3 ⊢
  have HX := Lib.hid hbx
  clear hbx hb1 hbl HC
  go_loopg [6, 7, 8, 9, 10, 11] r.mn (fun gk v2 v3 i a b m wr => ∃ k : Nat, gk = r.mn - k ∧ (k = 0 ∨ k + 1 ≤ r.mn) ∧ i = .int .i64 ((k : Int) + 1) ∧ Below W0.heap.size W0 wr ∧ GapsInv W0.heap.size f ms v2 v3 k wr)
  case atStart => exact ⟨0, rfl, .inl rfl, rfl, Below.refl _ _, GapsInv.start _ _ _ _⟩
  case round =>
    obtain ⟨k, rfl, hk, rfl, hb, hinv⟩ := hrel
    obtain ⟨hc, -⟩ := bcell hb
    have k7 : wr.cell? ⟨B, 7, none⟩ = some (.slice r.ma r.mn r.mc) := (hc _ _ hz3).trans (HX.out 7)
    have hzw := hb.size
    clear hc
    by_cases hlt : k + 1 < r.mn
    · obtain ⟨b, o, hma, hbs, hcells⟩ := hR0.out.m.at_ (by omega)
      obtain ⟨x0c, x1c, x2c⟩ := hcells k (by omega)
      obtain ⟨y0c, y1c, y2c⟩ := hcells (k + 1) hlt
      have hV := HVa.out
      obtain ⟨⟨x0l, x0h⟩, ⟨x1l, x1h⟩, ⟨x2l, x2h⟩, -⟩ := hV.mark (i := k) (by omega)
      obtain ⟨⟨y0l, y0h⟩, ⟨y1l, y1h⟩, ⟨y2l, y2h⟩, hord⟩ := hV.mark (i := k + 1) hlt
      obtain ⟨-, -, -, ⟨hrf1, hrf2⟩, -⟩ := HWh
      replace hord := hord (by omega)
      rw [Nat.add_sub_cancel] at hord
      have hgs : Hid (gapsTo f ms (k + 1) = gapsTo f ms k ++ (if sameRoll ms k && decide (0 < missI f ms k) then [((ms.getD k (0, 0, 0)).1, (ms.getD (k + 1) (0, 0, 0)).1, missI f ms k)] else [])) := rfl
      have hws : Hid (wrongTo f ms (k + 1) = wrongTo f ms k ++ (if sameRoll ms k && decide (missI f ms k < 0) then [((k + 1 : Nat) : Int)] else [])) := rfl
      have hsr : Hid (sameRoll ms k = ((ms.getD k (0, 0, 0)).2.1 == (ms.getD (k + 1) (0, 0, 0)).2.1)) := rfl
      have hmi : Hid (missI f ms k = ((ms.getD (k + 1) (0, 0, 0)).2.2 - (ms.getD k (0, 0, 0)).2.2) * f - ((ms.getD (k + 1) (0, 0, 0)).1 - (ms.getD k (0, 0, 0)).1)) := rfl
      generalize ms.getD k (0, 0, 0) = x at x0c x1c x2c x0l x0h x1l x1h x2l x2h hord hgs hws hsr hmi
      generalize ms.getD (k + 1) (0, 0, 0) = y at y0c y1c y2c y0l y0h y1l y1h y2l y2h hord hgs hws hsr hmi
      obtain ⟨x0, x1, x2⟩ := x
      obtain ⟨y0, y1, y2⟩ := y
      simp only at x0c x1c x2c x0l x0h x1l x1h x2l x2h hord y0c y1c y2c y0l y0h y1l y1h y2l y2h
      have hcw := fun (p : Addr) (h : p.block < W0.heap.size) => hb.cell (p := p) h
      rw [← hcw ⟨b, _, none⟩ hbs] at x0c x1c x2c y0c y1c y2c
      have hbw : b < wr.heap.size := by omega
      rw [hma] at k7
      clear hcw hcells hV hma
      have hBw : B < wr.heap.size := by omega
      have hal : ∀ (W : World) O c k, c < W.heap.size → (W.alloc O).cell? ⟨c, k, none⟩ = W.cell? ⟨c, k, none⟩ := fun W O c k h => alloc_old W O c k h
      have hwk : IntKind.i64.wrap (k : Int) = k := IntWalk.i64_in _ (by omega)
      have hBw1 : B < wr.heap.size + 1 := by omega
      have hbw1 : b < wr.heap.size + 1 := by omega
      have hkl : (k : Int) < r.mn := by omega
      have hkl1 : (k : Int) + 1 < r.mn := by omega
      have hk0 : 0 ≤ (k : Int) := by omega
      have hk1 : 0 ≤ (k : Int) + 1 := by omega
      have hkt : ((k : Int) + 1).toNat = k + 1 := by omega
      go_upto_region 10 with fail
      go_cut [9, 10] (fun a b wx => ∃ ga gb : Nat, a = .pointer (some ⟨ga, 0, none⟩) ∧ b = .pointer (some ⟨gb, 0, none⟩) ∧ wx.cell? ⟨ga, 0, none⟩ = some (.int .i64 x0) ∧ wx.cell? ⟨ga, 1, none⟩ = some (.int .i64 x1) ∧ wx.cell? ⟨ga, 2, none⟩ = some (.int .i64 x2) ∧ wx.cell? ⟨gb, 0, none⟩ = some (.int .i64 y0) ∧ wx.cell? ⟨gb, 1, none⟩ = some (.int .i64 y1) ∧ wx.cell? ⟨gb, 2, none⟩ = some (.int .i64 y2) ∧ ga < wx.heap.size ∧ gb < wx.heap.size ∧ Below wr.heap.size wr wx)
      case first =>
        go_region
        all_goals go_wp2_with fail
        all_goals go_meet
        · exact ⟨wr.heap.size, wr.heap.size + 1, rfl, rfl, by simp, by simp, by simp, by simp, by simp, by simp, by first | (simp; done) | (simp; omega), by first | (simp; done) | (simp; omega), (B_alloc (B_alloc (Below.refl _ _) _) _).drew⟩
        · exact ⟨wr.heap.size + 1, wr.heap.size, rfl, rfl, by simp, by simp, by simp, by simp, by simp, by simp, by first | (simp; done) | (simp; omega), by first | (simp; done) | (simp; omega), (B_alloc (B_alloc (Below.refl _ _) _) _).drew⟩
      case rest =>
        obtain ⟨ga, gb, rfl, rfl, a0, a1, a2, b0, b1, b2, hga, hgb, hb1⟩ := hcut
        have hcx : ∀ j, wc.cell? ⟨B, j, none⟩ = r.cs[j]? := fun j => (hb1.cell (p := ⟨B, j, none⟩) hBw).trans ((hb.cell (p := ⟨B, j, none⟩) hz3).trans (HX.out j))
        have m0 : wc.cell? ⟨B, 0, none⟩ = some (.string r.nm) := hcx 0
        have m1 : wc.cell? ⟨B, 1, none⟩ = some (.int .i64 r.g) := hcx 1
        have m2 : wc.cell? ⟨B, 2, none⟩ = some (.int .i64 r.b) := hcx 2
        have m3 : wc.cell? ⟨B, 3, none⟩ = some (.int .i64 r.f) := hcx 3
        have m4 : wc.cell? ⟨B, 4, none⟩ = some (.int .i64 r.lo) := hcx 4
        have m5 : wc.cell? ⟨B, 5, none⟩ = some (.int .i64 r.hi) := hcx 5
        have m6 : wc.cell? ⟨B, 6, none⟩ = some (.int .i64 r.k) := hcx 6
        have m7 : wc.cell? ⟨B, 7, none⟩ = some (.slice r.ma r.mn r.mc) := hcx 7
        have m8 : wc.cell? ⟨B, 8, none⟩ = some (.slice r.sa r.sn r.sc) := hcx 8
        have m9 : wc.cell? ⟨B, 9, none⟩ = some (.slice r.la r.ln r.lc) := hcx 9
        clear hcx
        obtain ⟨q1, q2⟩ := hmul.out (y2 - x2) (by omega) (by omega)
        have hinvc := hinv.below hb1
        by_cases hroll : x1 = y1
        · subst hroll
          have hsr1 : sameRoll ms k = true := by rw [hsr.out]; simp
          have hlg := gapsTo_len f ms k
          have hlw := wrongTo_len f ms k
          have HMi := Lib.hid (refMissing_any r f x0 x1 x2 y0 x1 y2 wc Hfo.out (by omega) (by omega) (by omega) (by omega) (by omega) (by omega) (by omega) (by omega) (by omega) (by omega))
          by_cases hpos : 0 < (y2 - x2) * f - (y0 - x0)
          · have hwst : wrongTo f ms (k + 1) = wrongTo f ms k := by rw [hws.out, hsr1, hmi.out]; simp only [Bool.true_and]; rw [if_neg (by simp; omega), List.append_nil]
            have hgst : gapsTo f ms (k + 1) = gapsTo f ms k ++ [(x0, y0, (y2 - x2) * f - (y0 - x0))] := by rw [hgs.out, hsr1, hmi.out]; simp only [Bool.true_and]; rw [if_pos (by simpa using hpos)]
            have Hst := Lib.hid (And.intro hwst hgst)
            have Hinv := Lib.hid hinvc
            have hcz := hb1.size
            clear hgs hws hsr hmi hsr1 hinv hinvc hwst hgst
            obtain ⟨m, hm⟩ : ∃ m, (y2 - x2) * f - (y0 - x0) = m := ⟨_, rfl⟩
            rw [hm] at hpos HMi
            go_wp2_with (first | (go_at_call 59; (with_reducible refine HMi.out.mono ?_); rintro e wd ⟨rfl, hbd⟩; have hcd := (bcell hbd).1; have Hinvd := Lib.hid (Hinv.out.below hbd); have hzd : wc.heap.size ≤ wd.heap.size := hbd.size) | (at_builtin; refine wpList_append_own _ rfl _ _ 40 rfl W0.heap.size 70 i70 (.agg #[.int .i64 0, .int .i64 0, .int .i64 0]) 3 24 Tryz.underlying40 hi70 hz70 hs70 hy70 rfl (by decide) _ _ _ rfl (Hinvd.out.gaps.alloc _) ⟨wd.heap.size, 0, none⟩ 1 1 [.int .i64 x0, .int .i64 y0, .int .i64 m] rfl rfl ?c1 ?c2 ?c3 ?c4 ?c5 ?_))
            case c1 => exact news_at _ _ _
            case c2 => intro u hu; simp at hu; rcases hu with rfl | rfl | rfl <;> rfl
            case c3 => unfold maxLen; omega
            case c4 => omega
            case c5 => simp; omega
            intro v' w1 hown' hgrow _
            have hinv1 : GapsInv W0.heap.size f ms v' _ (k + 1) w1 := (Hinvd.out.below (B_alloc (Below.refl _ _) _)).gap (by rw [← hm]; exact Hst.out) hown' hgrow
            have hbn : Below W0.heap.size W0 w1 := B_grown (B_alloc (B_trans (B_trans hb hb1) hbd) _) (by simp; omega) (Hinvd.out.gaps.alloc _) hgrow
            clear hown' hgrow
            go_wp2
            go_roundg (r.mn - (k + 1))
            case measure => omega
            case rel => exact ⟨k + 1, rfl, .inr (by omega), by go_num, hbn, hinv1⟩
          · by_cases hneg : (y2 - x2) * f - (y0 - x0) < 0
            · have hgst : gapsTo f ms (k + 1) = gapsTo f ms k := by rw [hgs.out, hsr1, hmi.out]; simp only [Bool.true_and]; rw [if_neg (by simp; omega), List.append_nil]
              have hwst : wrongTo f ms (k + 1) = wrongTo f ms k ++ [(k : Int) + 1] := by rw [hws.out, hsr1, hmi.out]; simp only [Bool.true_and]; rw [if_pos (by simpa using hneg)]; rfl
              have Hst := Lib.hid (And.intro hgst hwst)
              have Hinv := Lib.hid hinvc
              have hcz := hb1.size
              clear hgs hws hsr hmi hsr1 hinv hinvc hwst hgst
              obtain ⟨m, hm⟩ : ∃ m, (y2 - x2) * f - (y0 - x0) = m := ⟨_, rfl⟩
              rw [hm] at hpos hneg HMi
              clear hm
              go_wp2_with (first | (go_at_call 59; (with_reducible refine HMi.out.mono ?_); rintro e wd ⟨rfl, hbd⟩; have hcd := (bcell hbd).1; have Hinvd := Lib.hid (Hinv.out.below hbd); have hzd : wc.heap.size ≤ wd.heap.size := hbd.size) | (at_builtin; refine wpList_append_own _ rfl _ _ 41 rfl W0.heap.size 3 i3 (.int .i64 0) 1 8 Tryz.underlying41 hi3 hz3' hs3 hy3 rfl (by decide) _ _ _ rfl (Hinvd.out.wrong.alloc _) ⟨wd.heap.size, 0, none⟩ 1 1 [.int .i64 ((k : Int) + 1)] rfl rfl ?d1 ?d2 ?d3 ?d4 ?d5 ?_))
              case d1 => exact news_at _ _ _
              case d2 => intro u hu; simp at hu; subst hu; rfl
              case d3 => unfold maxLen; omega
              case d4 => omega
              case d5 => have := hb.size; have := hb1.size; simp; omega
              intro v' w1 hown' hgrow _
              have hinv1 : GapsInv W0.heap.size f ms _ v' (k + 1) w1 := (Hinvd.out.below (B_alloc (Below.refl _ _) _)).bad Hst.out hown' hgrow
              have hbn : Below W0.heap.size W0 w1 := B_grown (B_alloc (B_trans (B_trans hb hb1) hbd) _) (by simp; omega) (Hinvd.out.wrong.alloc _) hgrow
              clear hown' hgrow
              go_wp2
              go_roundg (r.mn - (k + 1))
              case measure => omega
              case rel => exact ⟨k + 1, rfl, .inr (by omega), by go_num, hbn, hinv1⟩
            · have hst := hinvc.same (by rw [hgs.out, hsr1, hmi.out]; simp only [Bool.true_and]; rw [if_neg (by simpa using hpos), List.append_nil]) (by rw [hws.out, hsr1, hmi.out]; simp only [Bool.true_and]; rw [if_neg (by simpa using hneg), List.append_nil])
              have Hinv := Lib.hid hst
              clear hgs hws hsr hmi hsr1 hinv hinvc hst
              obtain ⟨m, hm⟩ : ∃ m, (y2 - x2) * f - (y0 - x0) = m := ⟨_, rfl⟩
              rw [hm] at hpos hneg HMi
              clear hm
              go_wp2_with (go_at_call 59; (with_reducible refine HMi.out.mono ?_); rintro e wd ⟨rfl, hbd⟩; have hcd := (bcell hbd).1; have Hinvd := Lib.hid (Hinv.out.below hbd); have hzd : wc.heap.size ≤ wd.heap.size := hbd.size)
              go_roundg (r.mn - (k + 1))
              case measure => omega
              case rel => exact ⟨k + 1, rfl, .inr (by omega), by go_num, B_trans (B_trans hb hb1) hbd, Hinvd.out⟩
        · have hb2 : (x1 != y1) = true := by simp [hroll]
          have hst := hinvc.same (by rw [hgs.out, hsr.out]; simp [hroll]) (by rw [hws.out, hsr.out]; simp [hroll])
          clear hgs hws hsr hmi hroll hinv hinvc
          go_wp2
          go_roundg (r.mn - (k + 1))
          case measure => omega
          case rel => exact ⟨k + 1, rfl, .inr (by omega), by go_num, B_trans hb hb1, hst⟩
    · have hk1 : k = r.mn - 1 := by omega
      go_wp2
      go_ret3
      exact ⟨⟨_, _, rfl, by rw [← hk1]; exact hinv.mono hbW.size⟩, B_trans hbW hb⟩
end Go.Proofs.YtgjpbffoalldkaaGreatDoor

/- Equal lists of rolls; the law FilmYears. -/
import Derived.Test.YtgjpbffoalldkaaGreatDoorXX
import Derived.Test.YtgjpbffoalldkaaGreatDoorXY
import Derived.Test.YtgjpbffoalldkaaGreatDoorXS
namespace Go.Proofs.YtgjpbffoalldkaaGreatDoor
open Go.RowKit

theorem quiet_more {P : Program} {f : FuncId} {args : Array Value} {w : World} {n : Nat} {v : Value}
    (h : Calls P f args (w.drewN n) fun e w' => e = .returned v ∧ ∃ m, w' = (w.drewN n).drewN m) : Calls P f args (w.drewN n) fun e w'' => e = .returned v ∧ ∃ m, w'' = w.drewN m :=
  h.mono fun _ _ ⟨he, m, hm⟩ => ⟨he, n + m, by rw [hm, World.drewN_drewN]⟩

set_option maxHeartbeats 1000000 in
set_option maxRecDepth 100000 in
theorem ints_quiet (a b : Option Addr) (n c d : Nat) (zs : List Int) (w : World) (hn : n ≤ 100000) (ha : Ints w a n zs) (hb : Ints w b n zs) :
    Calls Tryz.prog 28 #[.slice a n c, .slice b n d] w fun e w' => e = .returned (.bool true) ∧ ∃ m, w' = w.drewN m := by
  have Ha := Lib.hid ha
  have Hb := Lib.hid hb
  clear ha hb
  go_enter Tryz.func28, Tryz.ntmps28
  go_wp2
  go_loopg [5] n (fun gk i wr => ∃ k : Nat, gk = n - k ∧ k ≤ n ∧ i = .int .i64 k ∧ ∃ m, wr = w.drewN m)
  case atStart => exact ⟨0, rfl, Nat.zero_le _, rfl, 0, rfl⟩
  case round =>
    obtain ⟨k, rfl, hk, rfl, mm, rfl⟩ := hrel
    by_cases hlt : k < n
    · obtain ⟨p, o, hab, hps, hcells⟩ := Ha.out.at_ (by omega)
      obtain ⟨p2, o2, hab2, hps2, hcells2⟩ := Hb.out.at_ (by omega)
      have c0 := hcells k hlt
      have c1 := hcells2 k hlt
      generalize zs.getD k 0 = z at c0 c1
      have hlt' : (k : Int) < n := by omega
      have hk0 : (0 : Int) ≤ k := by omega
      clear hcells hcells2
      go_wp2
      go_quiet (fail)
      go_wp2
      clear hab hab2
      go_roundg (n - (k + 1))
      case measure => omega
      case rel => exact ⟨k + 1, rfl, by omega, by go_num, _, rfl⟩
    · obtain rfl : k = n := by omega
      go_wp2
      go_ret
      exact ⟨rfl, mm, rfl⟩

set_option maxHeartbeats 2000000 in
set_option maxRecDepth 100000 in
theorem rolls_same (a b : Option Addr) (n c d : Nat) (made : Int → List Int) (L : List Int) (w : World) (hn : n ≤ 100) (hm : ∀ x, (made x).length ≤ 100000) (ha : RollAt w a n made L) (hb : RollAt w b n made L) :
    Calls Tryz.prog 33 #[.slice a n c, .slice b n d] w fun e w' => e = .returned (.bool true) ∧ Below w.heap.size w w' := by
  have Ha := Lib.hid ha
  have Hb := Lib.hid hb
  clear ha hb
  go_enter Tryz.func33, Tryz.ntmps33
  go_wp2
  go_loopg [5] n (fun gk i wr => ∃ k : Nat, gk = n - k ∧ k ≤ n ∧ i = .int .i64 k ∧ Below w.heap.size w wr)
  case atStart => exact ⟨0, rfl, Nat.zero_le _, rfl, Below.refl _ _⟩
  case round =>
    obtain ⟨k, rfl, hk, rfl, hbw⟩ := hrel
    by_cases hlt : k < n
    · have HA := (Ha.out.below hbw)
      have HB := (Hb.out.below hbw)
      obtain ⟨p, hab, hps, hcells⟩ := HA.at_ (by omega)
      obtain ⟨p2, hab2, hps2, hcells2⟩ := HB.at_ (by omega)
      obtain ⟨c0, a1, n1, d1, c1, i1⟩ := hcells k hlt
      obtain ⟨e0, a2, n2, d2, e1, i2⟩ := hcells2 k hlt
      obtain rfl : n1 = n2 := by rw [← i1.len, ← i2.len]
      have hn1 : n1 ≤ 100000 := by rw [← i1.len]; exact hm _
      have HI := Lib.hid (fun m => ints_quiet a1 a2 n1 d1 d2 _ (wr.drewN m) hn1 (i1.below (B_drewN (Below.refl _ _) m)) (i2.below (B_drewN (Below.refl _ _) m)))
      clear i1 i2 hcells hcells2 HA HB
      generalize L.getD k 0 = z at c0 e0 HI
      have hlt' : (k : Int) < n := by omega
      have hk0 : (0 : Int) ≤ k := by omega
      go_wp2
      go_quiet ((go_at_call 28; exact quiet_more (HI.out _)))
      go_wp2
      clear hab hab2
      go_roundg (n - (k + 1))
      case measure => omega
      case rel => exact ⟨k + 1, rfl, by omega, by go_num, B_drewN hbw _⟩
    · obtain rfl : k = n := by omega
      go_wp2
      go_ret
      exact ⟨rfl, hbw⟩

theorem refYears_no (r : RA) (ms : List T3) (ss : List T2) (ls : List T3) (w : World) (hR : Reads w r ms ss ls) (h0 : (checkS r ms ss ls).2.2 ≠ 0) :
    Calls Tryz.prog 32 #[.agg r.cs] w fun e w' => e = .returned (.tuple #[.slice none 0 0, .slice none 0 0, .int .i64 (checkS r ms ss ls).2.2]) ∧ Below w.heap.size w w' := by
  have hbl : Below w.heap.size w (w.alloc (.cells r.cs 30)) := B_alloc (Below.refl _ _) _
  have HC := refValid_any r ms ss ls _ (hR.below hbl)
  have hb0 : ((checkS r ms ss ls).2.2 != 0) = true := by simp [h0]
  generalize (checkS r ms ss ls).2.2 = p0 at HC h0 hb0 ⊢
  replace HC := Lib.hid HC
  clear h0
  go_enter Tryz.func32, Tryz.ntmps32
  go_wp2_with (go_at_call 58; refine HC.out.mono ?_; rintro e w1 ⟨rfl, hb1⟩)
  go_ret3
  exact ⟨rfl, B_trans hbl hb1⟩

/-- What both Years return: the same lists. -/
def YearsOut (made : Int → List Int) (L ys : List Int) (p : Int) (e : Ending) (w' : World) : Prop := ∃ a c b d, e = .returned (.tuple #[.slice a L.length c, .slice b ys.length d, .int .i64 p]) ∧ RollAt w' a L.length made L ∧ Ints w' b ys.length ys
theorem yearsOut_of {B : Nat} {r : RA} {ss : List T2} {e : Ending} {w' : World} (h : YearsPost B r ss e w') : YearsOut (madeL r ss) (rollsL ss) (yl (possTo r ss (rollsL ss) (rollsL ss).length)) 0 e w' := by
  obtain ⟨vr, vp, fl, he, h1, h2, h3⟩ := h
  obtain ⟨a, c, rfl, h4, -⟩ := rollAt_of h1 h2
  obtain ⟨b, n', d, rfl, h5, -⟩ := ints_of_row h3
  obtain rfl := h5.len
  exact ⟨a, c, b, d, he, h4, h5⟩
theorem yearsOut_no {made : Int → List Int} {p : Int} {w' : World} : YearsOut made [] [] p (.returned (.tuple #[.slice none 0 0, .slice none 0 0, .int .i64 p])) w' :=
  ⟨none, 0, none, 0, rfl, ⟨rfl, fun h => absurd h (Nat.lt_irrefl 0)⟩, ⟨rfl, fun h => absurd h (Nat.lt_irrefl 0)⟩⟩
theorem madeL_len (r : RA) (ss : List T2) (x : Int) : (madeL r ss x).length ≤ 100000 := Nat.le_trans (yl_len _) (by decide)

theorem both_years (r : RA) (ms : List T3) (ss : List T2) (ls : List T3) (hs : ss.length = r.sn) : ∃ made L ys p, L.length ≤ 100 ∧ ys.length ≤ 100000 ∧ (∀ x, (made x).length ≤ 100000) ∧ ∀ W, Glob W → Reads W r ms ss ls →
    (Calls Tryz.prog 31 #[.agg r.cs] W fun e w' => YearsOut made L ys p e w' ∧ Below W.heap.size W w') ∧ (Calls Tryz.prog 32 #[.agg r.cs] W fun e w' => YearsOut made L ys p e w' ∧ Below W.heap.size W w') := by
  by_cases h0 : (checkS r ms ss ls).2.2 = 0
  · refine ⟨madeL r ss, rollsL ss, yl (possTo r ss (rollsL ss) (rollsL ss).length), 0, ?_, Nat.le_trans (yl_len _) (by decide), madeL_len r ss, fun W G hR => ⟨(years_yes r ms ss ls W G hR h0).mono fun e w' h => ⟨yearsOut_of h.1, h.2⟩, (refYears_yes r ms ss ls W hR h0).mono fun e w' h => ⟨yearsOut_of h.1, h.2⟩⟩⟩
    rw [← rolls_up (valid_of h0) hs]
    exact upTo_len _ _
  · exact ⟨fun _ => [], [], [], (checkS r ms ss ls).2.2, by simp, by simp, by simp, fun W G hR => ⟨(years_no r ms ss ls W G hR h0).mono fun e w' h => ⟨by rw [h.1]; exact yearsOut_no, h.2⟩, (refYears_no r ms ss ls W hR h0).mono fun e w' h => ⟨by rw [h.1]; exact yearsOut_no, h.2⟩⟩⟩

theorem both_shrink (r : RA) (ms : List T3) (ss : List T2) (ls : List T3) : ∃ a b c p, ∀ W, Glob W → Reads W r ms ss ls →
    (Calls Tryz.prog 34 #[.agg r.cs] W fun e w' => e = .returned (.tuple #[.agg #[.int .i64 a, .int .i64 b], .int .i64 c, .int .i64 p]) ∧ Below W.heap.size W w') ∧
    (Calls Tryz.prog 35 #[.agg r.cs] W fun e w' => e = .returned (.tuple #[.agg #[.int .i64 a, .int .i64 b], .int .i64 c, .int .i64 p]) ∧ Below W.heap.size W w') := by
  by_cases h0 : (checkS r ms ss ls).2.2 = 0
  · exact ⟨_, _, _, _, fun W G hR => ⟨shrink_yes r ms ss ls W G hR h0, refShrink_yes r ms ss ls W hR h0⟩⟩
  · exact ⟨_, _, _, _, fun W G hR => ⟨shrink_no r ms ss ls W G hR h0, refShrink_no r ms ss ls W hR h0⟩⟩

set_option maxHeartbeats 2000000 in
set_option maxRecDepth 100000 in
theorem yearsLaw_any (hA : AwakeSaid) (r : RA) (ms : List T3) (ss : List T2) (ls : List T3) (w : World) (G : Glob w) (hR : Reads w r ms ss ls) :
    Calls Tryz.prog 7 #[.agg r.cs] w fun e w' => e = .returned (.bool true) ∧ Below w.heap.size w w' := by
  obtain ⟨made, L, ys, p, hL, hys, hmd, HY⟩ := both_years r ms ss ls hR.s.len
  obtain ⟨s1, s2, s3, s4, HS⟩ := both_shrink r ms ss ls
  have H1 := Lib.hid (fun W (h : Below w.heap.size w W) => (HY W (G.below G.hz h) (hR.below h)).1)
  have H2 := Lib.hid (fun W (h : Below w.heap.size w W) => (HY W (G.below G.hz h) (hR.below h)).2)
  have HP := Lib.hid (fun W (h : Below w.heap.size w W) => (HS W (G.below G.hz h) (hR.below h)).1)
  have HQ := Lib.hid (fun W (h : Below w.heap.size w W) => (HS W (G.below G.hz h) (hR.below h)).2)
  have HA := Lib.hid (fun W (h : Below w.heap.size w W) => hA W (G.below G.hz h))
  have Hmd := Lib.hid hmd
  have hbx : Below w.heap.size w (w.alloc (.cells r.cs 30)) := B_alloc (Below.refl _ _) _
  have Hbx := Lib.hid hbx
  clear hA hR HY HS hbx hmd
  go_enter Tryz.func7, Tryz.ntmps7
  go_wp2_with (first
    | (go_at_call 31; (with_reducible refine (H1.out _ Hbx.out).mono ?_); rintro e w1 ⟨⟨a1, c1, b1, d1, rfl, hs1, hi1⟩, hb1⟩; have hc1 := (bcell hb1).1; have hz1 : w.heap.size < w1.heap.size := (by have := hb1.size; simp at this; omega); have B1 := Lib.hid (B_trans Hbx.out hb1); have S1 := Lib.hid hs1; have I1 := Lib.hid hi1; clear hs1 hi1)
    | (go_at_call 32; (with_reducible refine (H2.out _ B1.out).mono ?_); rintro e w2 ⟨⟨a2, c2, b2, d2, rfl, hs2, hi2⟩, hb2⟩; have hc2 := (bcell hb2).1; have hz2 : w.heap.size < w2.heap.size := (by have := hb2.size; omega); have B2 := Lib.hid (B_trans B1.out hb2); have S1' := Lib.hid (S1.out.below hb2); have I1' := Lib.hid (I1.out.below hb2); have S2 := Lib.hid hs2; have I2 := Lib.hid hi2; clear hs2 hi2)
    | (go_at_call 33; (with_reducible refine (rolls_same _ _ _ _ _ _ _ _ hL Hmd.out S1'.out S2.out).mono ?_); rintro e w3 ⟨rfl, hb3⟩; have hc3 := (bcell hb3).1; have hz3 : w.heap.size < w3.heap.size := (by have := hb3.size; omega); have B3 := Lib.hid (B_trans B2.out hb3); have I1'' := Lib.hid (I1'.out.below hb3); have I2' := Lib.hid (I2.out.below hb3))
    | (go_at_call 28; (with_reducible refine (ints_same _ _ _ _ _ _ _ hys I1''.out I2'.out).mono ?_); rintro e w4 ⟨rfl, hb4⟩; have hc4 := (bcell hb4).1; have hz4 : w.heap.size < w4.heap.size := (by have := hb4.size; omega); have B4 := Lib.hid (B_trans B3.out hb4))
    | (go_at_call 34; (with_reducible refine (HP.out _ B4.out).mono ?_); rintro e w5 ⟨rfl, hb5⟩; have hc5 := (bcell hb5).1; have hz5 : w.heap.size < w5.heap.size := (by have := hb5.size; omega); have hz5' : w.heap.size < w5.heap.size + 1 := (by omega); have B5 := Lib.hid (B_alloc (B_trans B4.out hb5) (.cells #[.int .i64 s1, .int .i64 s2] 25)))
    | (go_at_call 35; (with_reducible refine (HQ.out _ B5.out).mono ?_); rintro e w6 ⟨rfl, hb6⟩; have hc6 := (bcell hb6).1; have hz6 : w5.heap.size < w6.heap.size := (by have := hb6.size; simp at this; omega); have hz6' : w5.heap.size < w6.heap.size + 1 := (by omega); have B6 := Lib.hid (B_alloc (B_trans B5.out hb6) (.cells #[.int .i64 s1, .int .i64 s2] 25)))
    | (go_at_call 18; (with_reducible refine (HA.out _ B6.out).mono ?_); rintro e w7 ⟨rfl, hb7⟩))
  all_goals (go_ret; exact ⟨rfl, B_trans B6.out hb7⟩)
end Go.Proofs.YtgjpbffoalldkaaGreatDoor

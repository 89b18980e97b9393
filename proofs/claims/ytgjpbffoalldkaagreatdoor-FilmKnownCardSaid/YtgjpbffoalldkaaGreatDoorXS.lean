/- The law FilmGaps. -/
import Derived.Test.YtgjpbffoalldkaaGreatDoorXR
import Derived.Test.YtgjpbffoalldkaaGreatDoorXM
namespace Go.Proofs.YtgjpbffoalldkaaGreatDoor
open Go.RowKit

theorem refGaps_no (r : RA) (ms : List T3) (ss : List T2) (ls : List T3) (w : World) (hR : Reads w r ms ss ls) (h0 : (checkS r ms ss ls).2.2 ≠ 0) :
    Calls Tryz.prog 26 #[.agg r.cs] w fun e w' => e = .returned (.tuple #[.slice none 0 0, .slice none 0 0, .int .i64 (checkS r ms ss ls).2.2]) ∧ Below w.heap.size w w' := by
  have hbl : Below w.heap.size w (w.alloc (.cells r.cs 30)) := B_alloc (Below.refl _ _) _
  have HC := refValid_any r ms ss ls _ (hR.below hbl)
  have hb0 : ((checkS r ms ss ls).2.2 != 0) = true := by simp [h0]
  generalize (checkS r ms ss ls).2.2 = p0 at HC h0 hb0 ⊢
  replace HC := Lib.hid HC
  clear h0
  go_enter Tryz.func26, Tryz.ntmps26
  go_wp2_with (go_at_call 58; refine HC.out.mono ?_; rintro e w1 ⟨rfl, hb1⟩)
  go_ret3
  exact ⟨rfl, B_trans hbl hb1⟩

/-- What both Gaps return: the same lists. -/
def GapsOut (gs : List T3) (ws : List Int) (p : Int) (e : Ending) (w' : World) : Prop := ∃ a c b d, e = .returned (.tuple #[.slice a gs.length c, .slice b ws.length d, .int .i64 p]) ∧ Sl3 w' a gs.length gs ∧ Ints w' b ws.length ws
theorem gapsOut_of {B : Nat} {foot : Int} {ms : List T3} {n : Nat} {e : Ending} {w' : World} (h : GapsPost B foot ms n e w') : GapsOut (gapsTo foot ms n) (wrongTo foot ms n) 0 e w' := by
  obtain ⟨v2, v3, he, hi⟩ := h
  obtain ⟨a, c, rfl, h3⟩ := sl3_of_row hi.gaps
  obtain ⟨b, n', d, rfl, h4, -⟩ := ints_of_row hi.wrong
  obtain rfl : (wrongTo foot ms n).length = n' := h4.len
  exact ⟨a, c, b, d, he, h3, h4⟩
theorem gapsOut_no {p : Int} {w' : World} : GapsOut [] [] p (.returned (.tuple #[.slice none 0 0, .slice none 0 0, .int .i64 p])) w' :=
  ⟨none, 0, none, 0, rfl, ⟨rfl, fun h => absurd h (Nat.lt_irrefl 0)⟩, ⟨rfl, fun h => absurd h (Nat.lt_irrefl 0)⟩⟩
theorem wrongTo_len' (foot : Int) (ms : List T3) (k : Nat) : (wrongTo foot ms k).length ≤ k := wrongTo_len foot ms k

theorem both_gaps (r : RA) (ms : List T3) (ss : List T2) (ls : List T3) : ∃ gs ws p, gs.length ≤ 60 ∧ ws.length ≤ 60 ∧ ∀ W, Glob W → Reads W r ms ss ls →
    (Calls Tryz.prog 25 #[.agg r.cs] W fun e w' => GapsOut gs ws p e w' ∧ Below W.heap.size W w') ∧ (Calls Tryz.prog 26 #[.agg r.cs] W fun e w' => GapsOut gs ws p e w' ∧ Below W.heap.size W w') := by
  by_cases h0 : (checkS r ms ss ls).2.2 = 0
  · have hV := valid_of h0
    have h1 := gapsTo_len (footI r.g) ms (r.mn - 1)
    have h2 := wrongTo_len (footI r.g) ms (r.mn - 1)
    have h3 := hV.mn
    exact ⟨gapsTo (footI r.g) ms (r.mn - 1), wrongTo (footI r.g) ms (r.mn - 1), 0, by omega, by omega, fun W G hR => ⟨(gaps_yes r ms ss ls W G hR h0).mono fun e w' h => ⟨gapsOut_of h.1, h.2⟩, (refGaps_yes r ms ss ls W hR h0).mono fun e w' h => ⟨gapsOut_of h.1, h.2⟩⟩⟩
  · exact ⟨[], [], (checkS r ms ss ls).2.2, by simp, by simp, fun W G hR => ⟨(gaps_no r ms ss ls W G hR h0).mono fun e w' h => ⟨by rw [h.1]; exact gapsOut_no, h.2⟩, (refGaps_no r ms ss ls W hR h0).mono fun e w' h => ⟨by rw [h.1]; exact gapsOut_no, h.2⟩⟩⟩

set_option maxHeartbeats 2000000 in
set_option maxRecDepth 100000 in
theorem gapsLaw_any (hA : AwakeSaid) (r : RA) (x : Int) (ms : List T3) (ss : List T2) (ls : List T3) (w : World) (G : Glob w) (hR : Reads w r ms ss ls) :
    Calls Tryz.prog 6 #[.agg r.cs, .int .i64 x] w fun e w' => e = .returned (.bool true) ∧ Below w.heap.size w w' := by
  obtain ⟨gs, ws, p, hg, hw, HG⟩ := both_gaps r ms ss ls
  have H1 := Lib.hid (fun W (h : Below w.heap.size w W) => (HG W (G.below G.hz h) (hR.below h)).1)
  have H2 := Lib.hid (fun W (h : Below w.heap.size w W) => (HG W (G.below G.hz h) (hR.below h)).2)
  have HP := fun W (h : Below w.heap.size w W) => place_any r x ms ss ls W (G.below G.hz h) (hR.below h)
  have HQ := fun W (h : Below w.heap.size w W) => refPlace_any r x ms ss ls W (hR.below h)
  have HA := Lib.hid (fun W (h : Below w.heap.size w W) => hA W (G.below G.hz h))
  unfold placeV at HP HQ
  generalize placeS r ms ss ls x = pp at HP HQ
  obtain ⟨p1, p2, p3, p4⟩ := pp
  simp only at HP HQ
  replace HP := Lib.hid HP
  replace HQ := Lib.hid HQ
  have hbx : Below w.heap.size w (w.alloc (.cells r.cs 30)) := B_alloc (Below.refl _ _) _
  have Hbx := Lib.hid hbx
  have HX : Hid (∀ W, Below (w.alloc (.cells r.cs 30)).heap.size (w.alloc (.cells r.cs 30)) W → ∀ j, W.cell? ⟨w.heap.size, j, none⟩ = r.cs[j]?) := fun W h j => by
    rw [h.cell (p := ⟨w.heap.size, j, none⟩) (by simp), World.cell?_alloc_at _ _ _ _ rfl]
  clear hA hR HG hbx
  have hal := fun W O c k h => alloc_old W O c k h
  go_enter Tryz.func6, Tryz.ntmps6
  go_wp2_with (first
    | (go_at_call 25; (with_reducible refine (H1.out _ Hbx.out).mono ?_); rintro e w1 ⟨⟨a1, c1, b1, d1, rfl, hs1, hi1⟩, hb1⟩; have hc1 := (bcell hb1).1; have hz1 : w.heap.size < w1.heap.size := (by have := hb1.size; simp at this; omega); have B1 := Lib.hid (B_trans Hbx.out hb1); have S1 := Lib.hid hs1; have I1 := Lib.hid hi1; clear hs1 hi1)
    | (go_at_call 26; (with_reducible refine (H2.out _ B1.out).mono ?_); rintro e w2 ⟨⟨a2, c2, b2, d2, rfl, hs2, hi2⟩, hb2⟩; have hc2 := (bcell hb2).1; have hz2 : w.heap.size < w2.heap.size := (by have := hb2.size; omega); have B2 := Lib.hid (B_trans B1.out hb2); have S1' := Lib.hid (S1.out.below hb2); have I1' := Lib.hid (I1.out.below hb2); have S2 := Lib.hid hs2; have I2 := Lib.hid hi2; clear hs2 hi2)
    | (go_at_call 27; (with_reducible refine (gaps_same _ _ _ _ _ _ _ (by omega) S1'.out S2.out).mono ?_); rintro e w3 ⟨rfl, hb3⟩; have hc3 := (bcell hb3).1; have hz3 : w.heap.size < w3.heap.size := (by have := hb3.size; omega); have B3 := Lib.hid (B_trans B2.out hb3); have I1'' := Lib.hid (I1'.out.below hb3); have I2' := Lib.hid (I2.out.below hb3))
    | (go_at_call 28; (with_reducible refine (ints_same _ _ _ _ _ _ _ (by omega) I1''.out I2'.out).mono ?_); rintro e w4 ⟨rfl, hb4⟩; have hc4 := (bcell hb4).1; have hz4 : w.heap.size < w4.heap.size := (by have := hb4.size; omega); have B4 := Lib.hid (B_trans B3.out hb4))
    | (go_at_call 29; (with_reducible refine (HP.out _ B4.out).mono ?_); rintro e w5 ⟨rfl, hb5⟩; have hc5 := (bcell hb5).1; have hz5 : w.heap.size < w5.heap.size := (by have := hb5.size; omega); have hz5' : w.heap.size < w5.heap.size + 1 := (by omega); have B5 := Lib.hid (B_alloc (B_trans B4.out hb5) (.cells #[.int .i64 p2, .int .i64 p3] 25)))
    | (go_at_call 30; (with_reducible refine (HQ.out _ B5.out).mono ?_); rintro e w6 ⟨rfl, hb6⟩; have hc6 := (bcell hb6).1; have hz6 : w5.heap.size < w6.heap.size := (by have := hb6.size; simp at this; omega); have hz6' : w5.heap.size < w6.heap.size + 1 := (by omega); have B6 := Lib.hid (B_alloc (B_trans B5.out hb6) (.cells #[.int .i64 p2, .int .i64 p3] 25)))
    | (go_at_call 18; (with_reducible refine (HA.out _ B6.out).mono ?_); rintro e w7 ⟨rfl, hb7⟩))
  all_goals (go_ret; exact ⟨rfl, B_trans B6.out hb7⟩)
end Go.Proofs.YtgjpbffoalldkaaGreatDoor

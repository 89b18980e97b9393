/- The walk of film.Place. -/
import Derived.Test.YtgjpbffoalldkaaGreatDoorXP
import Derived.Test.YtgjpbffoalldkaaGreatDoorWQ
namespace Go.Proofs.YtgjpbffoalldkaaGreatDoor
open Go.RowKit

/-- What Place returns: the roll, the span, the error. -/
def placeS (r : RA) (ms : List T3) (ss : List T2) (ls : List T3) (x : Int) : Int × Int × Int × Int :=
  if (checkS r ms ss ls).2.2 ≠ 0 then (0, 0, 0, (checkS r ms ss ls).2.2)
  else if inB x 0 (r.f - 1) = false then (0, 0, 0, 7)
  else if r.mn = 0 then (0, 0, 0, 4)
  else if (betS (footI r.g) ms r.mn x).2.2 < (betS (footI r.g) ms r.mn x).2.1 then (0, 0, 0, 9)
  else ((betS (footI r.g) ms r.mn x).1, (betS (footI r.g) ms r.mn x).2.1, (betS (footI r.g) ms r.mn x).2.2, 0)
def placeV (r : RA) (ms : List T3) (ss : List T2) (ls : List T3) (x : Int) : Value := .tuple #[.int .i64 (placeS r ms ss ls x).1, .agg #[.int .i64 (placeS r ms ss ls x).2.1, .int .i64 (placeS r ms ss ls x).2.2.1], .int .i64 (placeS r ms ss ls x).2.2.2]
theorem placeV_of {r : RA} {ms : List T3} {ss : List T2} {ls : List T3} {x a b c d : Int} (h : placeS r ms ss ls x = (a, b, c, d)) : Ending.returned (.tuple #[.int .i64 a, .agg #[.int .i64 b, .int .i64 c], .int .i64 d]) = .returned (placeV r ms ss ls x) := by rw [placeV, h]

section
variable {r : RA} {ms : List T3} {ss : List T2} {ls : List T3} {x : Int}
theorem placeS_bad (h : (checkS r ms ss ls).2.2 ≠ 0) : placeS r ms ss ls x = (0, 0, 0, (checkS r ms ss ls).2.2) := by rw [placeS, if_pos h]
theorem placeS_far (h : (checkS r ms ss ls).2.2 = 0) (hx : inB x 0 (r.f - 1) = false) : placeS r ms ss ls x = (0, 0, 0, 7) := by rw [placeS, if_neg (by simp [h]), if_pos hx]
theorem placeS_none (h : (checkS r ms ss ls).2.2 = 0) (hx : inB x 0 (r.f - 1) = true) (hm : r.mn = 0) : placeS r ms ss ls x = (0, 0, 0, 4) := by rw [placeS, if_neg (by simp [h]), if_neg (by simp [hx]), if_pos hm]
theorem placeS_down (h : (checkS r ms ss ls).2.2 = 0) (hx : inB x 0 (r.f - 1) = true) (hm : r.mn ≠ 0) {a b c : Int} (hb : betS (footI r.g) ms r.mn x = (a, b, c)) (hd : c < b) : placeS r ms ss ls x = (0, 0, 0, 9) := by
  rw [placeS, if_neg (by simp [h]), if_neg (by simp [hx]), if_neg hm, hb, if_pos hd]
theorem placeS_ok (h : (checkS r ms ss ls).2.2 = 0) (hx : inB x 0 (r.f - 1) = true) (hm : r.mn ≠ 0) {a b c : Int} (hb : betS (footI r.g) ms r.mn x = (a, b, c)) (hd : ¬ c < b) : placeS r ms ss ls x = (a, b, c, 0) := by
  rw [placeS, if_neg (by simp [h]), if_neg (by simp [hx]), if_neg hm, hb, if_neg hd]
theorem markB_of (h : Valid r ms ss ls) : MarkB ms r.mn := by
  obtain ⟨-, -, -, ⟨-, hf⟩, -⟩ := wholeE_ok h.whole
  exact ⟨fun i hi => ⟨(h.mark hi).1.1, by have := (h.mark hi).1.2; omega⟩, fun i hi => ⟨(h.mark hi).2.2.1.1, (h.mark hi).2.2.1.2⟩⟩
end

set_option maxHeartbeats 1000000 in
set_option maxRecDepth 100000 in
theorem place_any (r : RA) (x : Int) (ms : List T3) (ss : List T2) (ls : List T3) (w : World) (G : Glob w) (hR : Reads w r ms ss ls) :
    Calls Tryz.prog 29 #[.agg r.cs, .int .i64 x] w fun e w' => e = .returned (placeV r ms ss ls x) ∧ Below w.heap.size w w' := by
  have hbl : Below w.heap.size w ((w.alloc (.cells r.cs 30)).alloc (.cells #[.int .i64 0, .int .i64 0] 25)) := B_alloc (B_alloc (Below.refl _ _) _) _
  have HC := check_any r ms ss ls _ ((G.alloc (.cells r.cs 30)).alloc (.cells #[.int .i64 0, .int .i64 0] 25)) (hR.below hbl)
  have HT0 := Tail.new (w := w) (W := w.alloc (.cells r.cs 30)) 0 0 25 (B_alloc (Below.refl _ _) _)
  by_cases h0 : (checkS r ms ss ls).2.2 = 0
  · have hV := valid_of h0
    obtain ⟨-, -, -, ⟨hfr0, hfr1⟩, -⟩ := wholeE_ok hV.whole
    cases hx : inB x 0 (r.f - 1) with
    | false =>
      refine (place_out r x ms ss ls w G hR h0 hx).mono ?_
      rintro e w' ⟨rfl, hb⟩
      exact ⟨placeV_of (placeS_far h0 hx), hb⟩
    | true =>
      have HW := Lib.hid (fun W => within_any x 0 (r.f - 1) W)
      rw [hx] at HW
      have hwr : IntKind.i64.wrap (r.f - 1) = r.f - 1 := IntWalk.i64_in _ (by omega)
      obtain ⟨hx0, hx1⟩ : 0 ≤ x ∧ x ≤ r.f - 1 := by simpa [inB] using hx
      by_cases hm : r.mn = 0
      · have hv := Lib.hid (placeV_of (placeS_none h0 hx hm))
        rw [h0] at HC
        generalize (checkS r ms ss ls).1 = p1 at HC
        generalize (checkS r ms ss ls).2.1 = p2 at HC
        replace HC := Lib.hid HC
        have hmb : ((r.mn : Int) == 0) = true := by simp; omega
        clear h0 hx hV hm
        go_enter Tryz.func29, Tryz.ntmps29
        go_wp2_with (first
          | (go_at_call 19; refine HC.out.mono ?_; rintro e w1 ⟨rfl, hb1⟩; obtain ⟨hc1, hf1'⟩ := bcell hb1)
          | (go_at_call 57; refine (HW.out _).mono ?_; rintro e w2 ⟨rfl, rfl⟩))
        have HE := ((HT0.below hb1).set0 0).set1 0
        have d0 := HE.c0
        have d1 := HE.c1
        simp only [World.size_alloc] at d0 d1
        exact bodyPost_ret (v := .tuple #[.int .i64 0, .agg #[.int .i64 0, .int .i64 0], .int .i64 4]) (by simp [results, Tryz.results29, go_sem, d0, d1]) rfl ⟨hv.out, by have := HE.hb; simpa only [World.size_alloc] using this⟩
      · obtain ⟨f, mi, hg⟩ := hV.gauge
        obtain ⟨hf1, hf2, -⟩ := hg.bd
        have hfo := hg.foot.1
        have HS := Lib.hid (fun W (h : Glob W) => stockOf_yes r.g f mi W h hg)
        have HBt := fun W (h : Below w.heap.size w W) => between_any r.ma r.mn r.mc ms x f W (by omega) hV.mn (hR.m.below h) (markB_of hV) hf1 hf2 hx0 (by omega)
        have hd1 := fun a b c (h : betS f ms r.mn x = (a, b, c)) => placeS_down h0 hx hm (by rw [hfo, h])
        have hd2 := fun a b c (h : betS f ms r.mn x = (a, b, c)) => placeS_ok h0 hx hm (by rw [hfo, h])
        have hmb : ((r.mn : Int) == 0) = false := by simp; omega
        rw [h0] at HC
        generalize (checkS r ms ss ls).1 = p1 at HC
        generalize (checkS r ms ss ls).2.1 = p2 at HC
        replace HC := Lib.hid HC
        unfold betV at HBt
        generalize betS f ms r.mn x = bb at HBt hd1 hd2
        obtain ⟨b1, b2, b3⟩ := bb
        simp only at HBt
        replace HBt := Lib.hid HBt
        by_cases hd : b3 < b2
        · have hv := Lib.hid (placeV_of (hd1 _ _ _ rfl hd))
          clear h0 hx hV hg hfo hd1 hd2
          go_enter Tryz.func29, Tryz.ntmps29
          go_wp2_with (first
            | (go_at_call 19; refine HC.out.mono ?_; rintro e w1 ⟨rfl, hb1⟩; have hc1 := (bcell hb1).1; have hz1 : w.heap.size < w1.heap.size := (by have := hb1.size; simp at this; omega); have hz1' : w.heap.size + 1 < w1.heap.size := (by have := hb1.size; simp at this; omega); have B1 := Lib.hid (B_trans hbl hb1))
            | (go_at_call 57; refine (HW.out _).mono ?_; rintro e w2 ⟨rfl, rfl⟩)
            | (go_at_call 56; (with_reducible refine (HS.out _ (G.below G.hz B1.out)).mono ?_); rintro e w2 ⟨rfl, hb2⟩; have hc2 := (bcell hb2).1; have hz2 : w.heap.size < w2.heap.size := (by have := hb2.size; omega); have hz2' : w.heap.size < w2.heap.size + 1 := (by omega); have B2 := Lib.hid (B_alloc (B_trans B1.out hb2) (.cells #[.int .i64 f, .int .i64 mi] 95)))
            | (go_at_call 60; (with_reducible refine (HBt.out _ B2.out).mono ?_); rintro e w3 ⟨rfl, hb3⟩; have HT3 := ((((HT0.below hb1).below hb2).alloc (.cells #[.int .i64 f, .int .i64 mi] 95)).below hb3); have c0 := HT3.c0; have c1 := HT3.c1; have g0 := HT3.f0; have g1 := HT3.f1; simp only [World.size_alloc] at c0 c1 g0 g1; have hN : True := trivial))
          have HE := Lib.hid ((((HT3.set0 b2).set1 b3).set0 0).set1 0)
          have d0 := HE.out.c0
          have d1 := HE.out.c1
          simp only [World.size_alloc] at d0 d1
          exact bodyPost_ret (v := .tuple #[.int .i64 0, .agg #[.int .i64 0, .int .i64 0], .int .i64 9]) (by simp [results, Tryz.results29, go_sem, d0, d1]) rfl ⟨hv.out, by have := HE.out.hb; simpa only [World.size_alloc] using this⟩
        · have hv := Lib.hid (placeV_of (hd2 _ _ _ rfl hd))
          clear h0 hx hV hg hfo hd1 hd2
          go_enter Tryz.func29, Tryz.ntmps29
          go_wp2_with (first
            | (go_at_call 19; refine HC.out.mono ?_; rintro e w1 ⟨rfl, hb1⟩; have hc1 := (bcell hb1).1; have hz1 : w.heap.size < w1.heap.size := (by have := hb1.size; simp at this; omega); have hz1' : w.heap.size + 1 < w1.heap.size := (by have := hb1.size; simp at this; omega); have B1 := Lib.hid (B_trans hbl hb1))
            | (go_at_call 57; refine (HW.out _).mono ?_; rintro e w2 ⟨rfl, rfl⟩)
            | (go_at_call 56; (with_reducible refine (HS.out _ (G.below G.hz B1.out)).mono ?_); rintro e w2 ⟨rfl, hb2⟩; have hc2 := (bcell hb2).1; have hz2 : w.heap.size < w2.heap.size := (by have := hb2.size; omega); have hz2' : w.heap.size < w2.heap.size + 1 := (by omega); have B2 := Lib.hid (B_alloc (B_trans B1.out hb2) (.cells #[.int .i64 f, .int .i64 mi] 95)))
            | (go_at_call 60; (with_reducible refine (HBt.out _ B2.out).mono ?_); rintro e w3 ⟨rfl, hb3⟩; have HT3 := ((((HT0.below hb1).below hb2).alloc (.cells #[.int .i64 f, .int .i64 mi] 95)).below hb3); have c0 := HT3.c0; have c1 := HT3.c1; have g0 := HT3.f0; have g1 := HT3.f1; simp only [World.size_alloc] at c0 c1 g0 g1; have hN : True := trivial))
          have HT4 := (HT3.set0 b2).set1 b3
          have HE := Lib.hid ((HT4.set0 b2).set1 b3)
          simp only [World.size_alloc] at HT4 HE
          generalize ((w3.setCell ⟨w.heap.size + 1, 0, none⟩ (.int .i64 b2)).setCell ⟨w.heap.size + 1, 1, none⟩ (.int .i64 b3)) = WX at HT4 HE ⊢
          obtain ⟨e0, e1, e2, e3, -, -⟩ := HT4
          clear c0 c1 g0 g1
          go_region
          all_goals go_wp2
          have d0 := HE.out.c0
          have d1 := HE.out.c1
          exact bodyPost_ret (v := .tuple #[.int .i64 b1, .agg #[.int .i64 b2, .int .i64 b3], .int .i64 0]) (by simp [results, Tryz.results29, go_sem, d0, d1]) rfl ⟨hv.out, HE.out.hb.drew⟩
  · have hb0 : ((checkS r ms ss ls).2.2 != 0) = true := by simp [h0]
    have hv := Lib.hid (placeV_of (placeS_bad (x := x) h0))
    generalize (checkS r ms ss ls).2.2 = p3 at HC hb0 hv
    generalize (checkS r ms ss ls).1 = p1 at HC
    generalize (checkS r ms ss ls).2.1 = p2 at HC
    replace HC := Lib.hid HC
    clear h0
    go_enter Tryz.func29, Tryz.ntmps29
    go_wp2_with (go_at_call 19; refine HC.out.mono ?_; rintro e w1 ⟨rfl, hb1⟩; have HT := HT0.below hb1; have c0 := HT.c0; have c1 := HT.c1; have g0 := HT.f0; have g1 := HT.f1; simp only [World.size_alloc] at c0 c1 g0 g1)
    have HE := (HT.set0 0).set1 0
    have d0 := HE.c0
    have d1 := HE.c1
    simp only [World.size_alloc] at d0 d1
    exact bodyPost_ret (v := .tuple #[.int .i64 0, .agg #[.int .i64 0, .int .i64 0], .int .i64 p3]) (by simp [results, Tryz.results29, go_sem, d0, d1]) rfl ⟨hv.out, by have := HE.hb; simpa only [World.size_alloc] using this⟩
end Go.Proofs.YtgjpbffoalldkaaGreatDoor

/- The law FilmKnown. -/
import Derived.Test.YtgjpbffoalldkaaGreatDoorQA
namespace Go.Proofs.YtgjpbffoalldkaaGreatDoor
open Go Go.RowKit Go.Shelf
attribute [local go_sem] Oper.semAt_some

/-- The reel of the examples in a box. -/
def KF (r : RA) (A : Nat) (w w1 W : World) : Prop := Ob W A 30 #[.string r.nm, .int .i64 r.g, .int .i64 r.b, .int .i64 r.f, .int .i64 r.lo, .int .i64 r.hi, .int .i64 r.k, .slice r.ma r.mn r.mc, .slice r.sa r.sn r.sc, .slice r.la r.ln r.lc] ∧ Reads W r reelM reelS reelL ∧ Below w.heap.size w W ∧ Below w1.heap.size w1 W
theorem KF.below {r : RA} {A : Nat} {w w1 W W1 : World} (h : KF r A w w1 W) (hb : Below W.heap.size W W1) : KF r A w w1 W1 := ⟨h.1.below hb, h.2.1.below hb, B_trans h.2.2.1 hb, B_trans h.2.2.2 hb⟩
theorem KF.ten {r : RA} {A : Nat} {w w1 W : World} (h : KF r A w w1 W) : W.cell? ⟨A, 0, none⟩ = some (.string r.nm) ∧ W.cell? ⟨A, 1, none⟩ = some (.int .i64 r.g) ∧ W.cell? ⟨A, 2, none⟩ = some (.int .i64 r.b) ∧ W.cell? ⟨A, 3, none⟩ = some (.int .i64 r.f) ∧ W.cell? ⟨A, 4, none⟩ = some (.int .i64 r.lo) ∧ W.cell? ⟨A, 5, none⟩ = some (.int .i64 r.hi) ∧ W.cell? ⟨A, 6, none⟩ = some (.int .i64 r.k) ∧ W.cell? ⟨A, 7, none⟩ = some (.slice r.ma r.mn r.mc) ∧ W.cell? ⟨A, 8, none⟩ = some (.slice r.sa r.sn r.sc) ∧ W.cell? ⟨A, 9, none⟩ = some (.slice r.la r.ln r.lc) :=
  ⟨h.1.cell 0, h.1.cell 1, h.1.cell 2, h.1.cell 3, h.1.cell 4, h.1.cell 5, h.1.cell 6, h.1.cell 7, h.1.cell 8, h.1.cell 9⟩

theorem shrinkX (B : Nat) (la : Option Addr) (lc : Nat) (W : World) (G : Glob W) (h : Reads W (reelX B la lc) reelM reelS reelLX) :
    Calls Tryz.prog 34 #[.agg (reelX B la lc).cs] W fun e w' => (∃ x y, e = .returned (.tuple #[.agg #[.int .i64 x, .int .i64 y], .int .i64 2, .int .i64 0])) ∧ Below W.heap.size W w' := by
  have h := shrink_yes (reelX B la lc) reelM reelS reelLX W G h (k_check B la lc)
  have e : shrinkS (microI (reelX B la lc).g) reelLX (reelX B la lc).ln = shrinkS 19000 reelLX 3 := by
    show shrinkS (microI 35) reelLX 3 = _
    rw [show microI 35 = 19000 from rfl]
  rw [e, k_shrink] at h
  exact h.mono fun e w' ⟨h1, h2⟩ => ⟨⟨_, _, h1⟩, h2⟩
theorem add0 (b j : Nat) : (⟨b, 0, none⟩ : Addr).add j = ⟨b, j, none⟩ := by unfold Addr.add; split <;> simp_all

set_option maxRecDepth 100000 in
set_option maxHeartbeats 16000000 in
theorem knownLaw_any (w : World) (G : Glob w) : Calls Tryz.prog 15 #[] w fun e w' => e = .returned (.bool true) ∧ Below w.heap.size w w' := by
  have HG := Lib.hid (fun (W : World) (hb : Below w.heap.size w W) => G.below G.hz hb)
  clear G
  go_enter Tryz.func15, Tryz.ntmps15
  go_wp2_with fail
  refine (reel_any w).mono ?_
  rintro e w1 ⟨⟨B, rfl, hRd⟩, hb1⟩
  have HP' := fun i h W (hb : Below w.heap.size w W) (hR : Reads W (reelR B) reelM reelS reelL) => by
    have h2 := place_any (reelR B) (frK i) reelM reelS reelL W (HG.out W hb) hR
    rw [k_place B i h] at h2
    exact h2
  have HY' := fun W (hb : Below w.heap.size w W) (hR : Reads W (reelR B) reelM reelS reelL) => years_yes (reelR B) reelM reelS reelL W (HG.out W hb) hR (reel_check B)
  have hm4 := k_m4 B
  have hm7 := k_m7 B
  obtain ⟨r, hr⟩ : ∃ r, reelR B = r := ⟨_, rfl⟩
  have HLA : Hid (r.la = some ⟨B + 2, 0, none⟩ ∧ r.ln = 2 ∧ r.lc = 2) := by rw [← hr]; exact ⟨rfl, rfl, rfl⟩
  have HXC : Hid (∀ la lc, (#[.string r.nm, .int .i64 r.g, .int .i64 r.b, .int .i64 r.f, .int .i64 r.lo, .int .i64 r.hi, .int .i64 r.k, .slice r.ma r.mn r.mc, .slice r.sa r.sn r.sc, .slice la 3 lc] : Array Value) = (reelX B la lc).cs) := by rw [← hr]; intro la lc; rfl
  have HXR : Hid (∀ W la lc, Reads W r reelM reelS reelL → Sl3 W la 3 reelLX → Reads W (reelX B la lc) reelM reelS reelLX) := by
    rw [← hr]
    intro W la lc h k
    exact ⟨h.nm, h.mn, h.sn, by show (3 : Nat) ≤ _; decide, h.m, h.s, k⟩
  rw [hr] at HP' HY' hm4 hm7 hRd ⊢
  have HP := Lib.hid HP'
  have HY := Lib.hid HY'
  have HM := Lib.hid (And.intro hm4 hm7)
  obtain ⟨A, hA⟩ : ∃ A, w1.heap.size = A := ⟨_, rfl⟩
  obtain ⟨w2, hw2⟩ : ∃ w2, w1.alloc (.cells #[.string r.nm, .int .i64 r.g, .int .i64 r.b, .int .i64 r.f, .int .i64 r.lo, .int .i64 r.hi, .int .i64 r.k, .slice r.ma r.mn r.mc, .slice r.sa r.sn r.sc, .slice r.la r.ln r.lc] 30) = w2 := ⟨_, rfl⟩
  have hb2 : Below w1.heap.size w1 w2 := by rw [← hw2]; exact B_alloc (Below.refl _ _) _
  have K2 : Hid (KF r A w w1 w2) := ⟨by rw [← hw2, ← hA]; exact Ob.new _ _ _, hRd.below hb2, B_trans hb1 hb2, hb2⟩
  have AW := Lib.hid (And.intro (show w.heap.size ≤ A by rw [← hA]; exact hb1.size) (And.intro (show w1.heap.size ≤ A by omega) hRd))
  have W2 := Lib.hid hw2
  have AA := Lib.hid hA
  clear hRd hb1 hb2 hw2 HP' HY' hm4 hm7 hr hA
  go_upto_region 2 with fail
  rw [W2.out]
  try rw [AA.out]
  have HF := feet_any 35 1000 w2 (HG.out w2 K2.out.2.2.1)
  rw [k_feet] at HF
  have HF1 := Lib.hid HF
  clear HF
  go_wp2_with fail
  refine HF1.out.mono ?_
  rintro e w3 ⟨rfl, hb3⟩
  have K3 := Lib.hid (K2.out.below hb3)
  have HF := frames_any 16 25 39 w3 (HG.out w3 K3.out.2.2.1)
  rw [k_frames] at HF
  have HF2 := Lib.hid HF
  clear HF hb3 K2 HF1
  go_wp2_with fail
  refine HF2.out.mono ?_
  rintro e w4 ⟨rfl, hb4⟩
  have K4 := Lib.hid (K3.out.below hb4)
  have HF := name_any ⟨#[97, 45, 50]⟩ w4 (HG.out w4 K4.out.2.2.1) (by unfold maxLen; decide)
  rw [k_n1] at HF
  have HF3 := Lib.hid HF
  clear HF hb4 K3 HF2
  go_wp2_with fail
  refine HF3.out.mono ?_
  rintro e w5 ⟨rfl, hb5⟩
  have K5 := Lib.hid (K4.out.below hb5)
  have HF := name_any ⟨#[97, 45, 45, 50]⟩ w5 (HG.out w5 K5.out.2.2.1) (by unfold maxLen; decide)
  rw [k_n2] at HF
  have HF4 := Lib.hid HF
  clear HF hb5 K4 HF3
  go_wp2_with fail
  refine HF4.out.mono ?_
  rintro e w6 ⟨rfl, hb6⟩
  have K6 := Lib.hid (K5.out.below hb6)
  have HF := name_any ⟨#[50, 97]⟩ w6 (HG.out w6 K6.out.2.2.1) (by unfold maxLen; decide)
  rw [k_n3] at HF
  have HF5 := Lib.hid HF
  clear HF hb6 K5 HF4
  go_wp2_with fail
  refine HF5.out.mono ?_
  rintro e w7 ⟨rfl, hb7⟩
  have K7 := Lib.hid (K6.out.below hb7)
  clear hb7 K6 HF5
  obtain ⟨w8, hw8⟩ : ∃ w8, (w7.alloc (.cells #[.int .i64 50, .int .i64 42, .int .i64 150, .int .i64 5, .int .i64 999] 3)).alloc (.cells #[.int .i64 4, .int .i64 4, .int .i64 4, .int .i64 4, .int .i64 7] 3) = w8 := ⟨_, rfl⟩
  have hb8 : Below w7.heap.size w7 w8 := by rw [← hw8]; exact B_alloc (B_alloc (Below.refl _ _) _) _
  have oA : Ob w8 w7.heap.size 3 #[.int .i64 50, .int .i64 42, .int .i64 150, .int .i64 5, .int .i64 999] := by rw [← hw8]; exact (Ob.new _ _ _).alloc _
  have oB : Ob w8 (w7.heap.size + 1) 3 #[.int .i64 4, .int .i64 4, .int .i64 4, .int .i64 4, .int .i64 7] := by
    rw [← hw8]
    have h := Ob.new (w7.alloc (.cells #[.int .i64 50, .int .i64 42, .int .i64 150, .int .i64 5, .int .i64 999] 3)) #[.int .i64 4, .int .i64 4, .int .i64 4, .int .i64 4, .int .i64 7] 3
    simpa using h
  have K8 := Lib.hid (K7.out.below hb8)
  have O8 := Lib.hid (And.intro oA oB)
  have W8 := Lib.hid hw8
  clear hb8 hw8 oA oB K7
  go_upto_region 7 with fail
  rw [W8.out]
  go_wp2_with fail
  refine (span_any 1640 1648 _).mono ?_
  rintro e s0 ⟨rfl, hb⟩
  have C0 := Lib.hid (hb)
  clear hb
  go_wp2_with fail
  refine (span_any 1632 1632 _).mono ?_
  rintro e s1 ⟨rfl, hb⟩
  have C1 := Lib.hid (B_trans C0.out hb)
  clear hb
  go_wp2_with fail
  refine (span_any 1748 159984 _).mono ?_
  rintro e s2 ⟨rfl, hb⟩
  have C2 := Lib.hid (B_trans C1.out hb)
  clear hb
  go_wp2_with fail
  refine (span_any 0 1595 _).mono ?_
  rintro e s3 ⟨rfl, hb⟩
  have C3 := Lib.hid (B_trans C2.out hb)
  clear hb
  go_wp2_with fail
  refine (span_any 1280 159984 _).mono ?_
  rintro e s4 ⟨rfl, hb⟩
  have C4 := Lib.hid (B_trans C3.out hb)
  clear hb
  obtain ⟨w9, hw9⟩ : ∃ w9, s4.alloc (.cells #[.int .i64 1640, .int .i64 1648, .int .i64 1632, .int .i64 1632, .int .i64 1748, .int .i64 159984, .int .i64 0, .int .i64 1595, .int .i64 1280, .int .i64 159984] 25) = w9 := ⟨_, rfl⟩
  have hb9 : Below w8.heap.size w8 w9 := by rw [← hw9]; exact B_alloc C4.out _
  have oC : Ob w9 s4.heap.size 25 #[.int .i64 1640, .int .i64 1648, .int .i64 1632, .int .i64 1632, .int .i64 1748, .int .i64 159984, .int .i64 0, .int .i64 1595, .int .i64 1280, .int .i64 159984] := by rw [← hw9]; exact Ob.new _ _ _
  have K9 := Lib.hid (K8.out.below hb9)
  obtain ⟨P1, hP1⟩ : ∃ P, w7.heap.size = P := ⟨_, rfl⟩
  obtain ⟨P3, hP3⟩ : ∃ P, s4.heap.size = P := ⟨_, rfl⟩
  have O9 : Hid (∀ i, i < 5 → w9.cell? ⟨P1, i, none⟩ = some (.int .i64 (frK i)) ∧ w9.cell? ⟨P1 + 1, i, none⟩ = some (.int .i64 (roK i)) ∧ w9.cell? ⟨P3, i * 2, none⟩ = some (.int .i64 (plK i).1) ∧ w9.cell? ⟨P3, i * 2 + 1, none⟩ = some (.int .i64 (plK i).2)) := fun i hi => by
    have q1 := O8.out.1.below hb9
    have q2 := O8.out.2.below hb9
    rw [hP1] at q1 q2
    rw [hP3] at oC
    rcases (show i = 0 ∨ i = 1 ∨ i = 2 ∨ i = 3 ∨ i = 4 by omega) with rfl | rfl | rfl | rfl | rfl
    · exact ⟨q1.cell 0, q2.cell 0, oC.cell 0, oC.cell 1⟩
    · exact ⟨q1.cell 1, q2.cell 1, oC.cell 2, oC.cell 3⟩
    · exact ⟨q1.cell 2, q2.cell 2, oC.cell 4, oC.cell 5⟩
    · exact ⟨q1.cell 3, q2.cell 3, oC.cell 6, oC.cell 7⟩
    · exact ⟨q1.cell 4, q2.cell 4, oC.cell 8, oC.cell 9⟩
  have L9 : Hid (P1 < w9.heap.size ∧ P1 + 1 < w9.heap.size ∧ P3 < w9.heap.size) := by
    rw [← hP1, ← hP3]
    exact ⟨(O8.out.1.below hb9).lt, (O8.out.2.below hb9).lt, oC.lt⟩
  have W9 := Lib.hid hw9
  have HP1 := Lib.hid hP1
  have HP3 := Lib.hid hP3
  clear hb9 hw9 oC hP1 hP3 K8 O8
  go_upto_region 8 with fail
  rw [W9.out]
  try rw [HP1.out]
  try rw [HP3.out]
  go_wp2_with fail
  go_loopg [10, 11, 12, 13] 5 (fun gk iv x11 x12 x13 wr => ∃ i : Nat, gk = 5 - i ∧ iv = .int .i64 (i : Int) ∧ i ≤ 5 ∧ Below w9.heap.size w9 wr)
  case atStart => exact ⟨0, rfl, rfl, by omega, Below.refl _ _⟩
  case round =>
    obtain ⟨i, rfl, rfl, hi, hbr⟩ := hrel
    by_cases hlt : i < 5
    · have i0 : (0 : Int) ≤ (i : Int) := by omega
      have i1 : (i : Int) < 5 := by omega
      have u1 : IntKind.i64.wrap ((i : Int) + 1) = (i : Int) + 1 := IntWalk.i64_in _ (by omega)
      obtain ⟨d0, d1, d2, d3⟩ := O9.out i hlt
      have HS := Lib.hid (fun (W' : World) (hh : Below wr.heap.size wr W') => And.intro ((K9.out.below (B_trans hbr hh)).ten) (((B_trans hbr hh).cell (p := ⟨P1, i, none⟩) L9.out.1).trans d0))
      have HC := Lib.hid (fun (W' : World) (hh : Below wr.heap.size wr W') => And.intro (((B_trans hbr hh).cell (p := ⟨P1 + 1, i, none⟩) L9.out.2.1).trans d1) (And.intro (((B_trans hbr hh).cell (p := ⟨P3, i * 2, none⟩) L9.out.2.2).trans d2) (((B_trans hbr hh).cell (p := ⟨P3, i * 2 + 1, none⟩) L9.out.2.2).trans d3)))
      have HPl' := fun (W' : World) (hh : Below wr.heap.size wr W') => HP.out i hlt W' (B_trans K9.out.2.2.1 (B_trans hbr hh)) (K9.out.2.1.below (B_trans hbr hh))
      have HPl := Lib.hid HPl'
      have BR := Lib.hid hbr
      clear HPl' d0 d1 d2 d3 hbr
      generalize frK i = fr at HS HPl
      generalize roK i = ro at HC HPl
      generalize plK i = pl at HC HPl
      obtain ⟨l0, l1⟩ := pl
      simp only at HC HPl
      go_upto_region 11 with fail
      go_cut [11, 12, 13] (fun va vb vc wx => va = .int .i64 ro ∧ (∃ g : Nat, vb = .pointer (some ⟨g, 0, none⟩) ∧ wr.heap.size ≤ g ∧ Ob wx g 25 #[.int .i64 l0, .int .i64 l1]) ∧ vc = .int .i64 0 ∧ Below wr.heap.size wr wx)
      case first =>
       as_aux_lemma =>
        refine wp_region_held' (S := fun W' => Below wr.heap.size wr W') (by kernel_rfl) ((Below.refl _ wr).drew) (fun hHeld => ?_)
        refine wpAnyH_take2 (i := 0) (t := 71) (v := ?_) rfl rfl (by kernel_rfl) (by kernel_rfl) (by kernel_rfl) (fun _ _ _ h => Only.not_panic h) (Or.inl ⟨by kernel_rfl, fun W hW => ?_⟩) (by assumption) ?_
        rotate_left
        · have hW2 := hW
          obtain ⟨⟨f0, f1, f2, f3, f4, f5, f6, f7, f8, f9⟩, c0⟩ := HS.out W hW2
          clear hW hW2
          go_simp
          try with_reducible rfl
        try simp only [Act.put, List.setIfInBounds_toArray, List.set_cons_zero, List.set_cons_succ]
        refine wpAnyH_take2 (i := 1) (t := 72) (v := ?_) rfl rfl (by kernel_rfl) (by kernel_rfl) (by kernel_rfl) (fun _ _ _ h => Only.not_panic h) (Or.inl ⟨by kernel_rfl, fun W hW => ?_⟩) (by assumption) ?_
        rotate_left
        · have hW2 := hW
          obtain ⟨⟨f0, f1, f2, f3, f4, f5, f6, f7, f8, f9⟩, c0⟩ := HS.out W hW2
          clear hW hW2
          go_simp
          try with_reducible rfl
        try simp only [Act.put, List.setIfInBounds_toArray, List.set_cons_zero, List.set_cons_succ]
        refine wpAnyH_take2 (i := 2) (t := 73) (v := ?_) rfl rfl (by kernel_rfl) (by kernel_rfl) (by kernel_rfl) (fun _ _ _ h => Only.not_panic h) (Or.inl ⟨by kernel_rfl, fun W hW => ?_⟩) (by assumption) ?_
        rotate_left
        · have hW2 := hW
          obtain ⟨⟨f0, f1, f2, f3, f4, f5, f6, f7, f8, f9⟩, c0⟩ := HS.out W hW2
          clear hW hW2
          go_simp
          try with_reducible rfl
        try simp only [Act.put, List.setIfInBounds_toArray, List.set_cons_zero, List.set_cons_succ]
        refine wpAnyH_take2 (i := 3) (t := 74) (v := ?_) rfl rfl (by kernel_rfl) (by kernel_rfl) (by kernel_rfl) (fun _ _ _ h => Only.not_panic h) (Or.inl ⟨by kernel_rfl, fun W hW => ?_⟩) (by assumption) ?_
        rotate_left
        · have hW2 := hW
          obtain ⟨⟨f0, f1, f2, f3, f4, f5, f6, f7, f8, f9⟩, c0⟩ := HS.out W hW2
          clear hW hW2
          go_simp
          try with_reducible rfl
        try simp only [Act.put, List.setIfInBounds_toArray, List.set_cons_zero, List.set_cons_succ]
        refine wpAnyH_take2 (i := 4) (t := 75) (v := ?_) rfl rfl (by kernel_rfl) (by kernel_rfl) (by kernel_rfl) (fun _ _ _ h => Only.not_panic h) (Or.inl ⟨by kernel_rfl, fun W hW => ?_⟩) (by assumption) ?_
        rotate_left
        · have hW2 := hW
          obtain ⟨⟨f0, f1, f2, f3, f4, f5, f6, f7, f8, f9⟩, c0⟩ := HS.out W hW2
          clear hW hW2
          go_simp
          try with_reducible rfl
        try simp only [Act.put, List.setIfInBounds_toArray, List.set_cons_zero, List.set_cons_succ]
        refine wpAnyH_ready (rs := [5, 10]) (by kernel_rfl) (by simp) ?_
        refine AllReadyH.cons rfl (fun K hK => ?_) ?_
        · go_simp
          refine (HPl.out _ hHeld).mono ?_
          rintro ev w5 ⟨rfl, hb5⟩
          try simp only []
          refine hK.out _ _ ?_ (fun hHeld => ?_)
          · exact B_trans hHeld hb5
          clear hK K
          try simp only [Act.put, List.setIfInBounds_toArray, List.set_cons_zero, List.set_cons_succ]
          refine wpAnyH_take2 (i := 6) (t := 70) (v := ?_) rfl rfl (by kernel_rfl) (by kernel_rfl) (by kernel_rfl) (fun _ _ _ h => Only.not_panic h) (Or.inl ⟨by kernel_rfl, fun W hW => ?_⟩) (by assumption) ?_
          rotate_left
          · have hW2 := hW
            obtain ⟨⟨f0, f1, f2, f3, f4, f5, f6, f7, f8, f9⟩, c0⟩ := HS.out W hW2
            clear hW hW2
            go_simp
            try with_reducible rfl
          try simp only [Act.put, List.setIfInBounds_toArray, List.set_cons_zero, List.set_cons_succ]
          refine wpAnyH_take2 (i := 7) (t := 77) (v := ?_) rfl rfl (by kernel_rfl) (by kernel_rfl) (by kernel_rfl) (fun _ _ _ h => Only.not_panic h) (Or.inl ⟨by kernel_rfl, fun W hW => ?_⟩) (by assumption) ?_
          rotate_left
          · have hW2 := hW
            obtain ⟨⟨f0, f1, f2, f3, f4, f5, f6, f7, f8, f9⟩, c0⟩ := HS.out W hW2
            clear hW hW2
            go_simp
            try with_reducible rfl
          try simp only [Act.put, List.setIfInBounds_toArray, List.set_cons_zero, List.set_cons_succ]
          refine wpAnyH_take2 (i := 8) (t := 78) (v := ?_) rfl rfl (by kernel_rfl) (by kernel_rfl) (by kernel_rfl) (fun _ _ _ h => Only.not_panic h) (Or.inl ⟨by kernel_rfl, fun W hW => ?_⟩) (by assumption) ?_
          rotate_left
          · have hW2 := hW
            obtain ⟨⟨f0, f1, f2, f3, f4, f5, f6, f7, f8, f9⟩, c0⟩ := HS.out W hW2
            clear hW hW2
            go_simp
            try with_reducible rfl
          try simp only [Act.put, List.setIfInBounds_toArray, List.set_cons_zero, List.set_cons_succ]
          refine wpAnyH_take2 (i := 9) (t := 79) (v := ?_) rfl rfl (by kernel_rfl) (by kernel_rfl) (by kernel_rfl) (fun _ _ _ h => Only.not_panic h) (Or.inl ⟨by kernel_rfl, fun W hW => ?_⟩) (by assumption) ?_
          rotate_left
          · have hW2 := hW
            obtain ⟨⟨f0, f1, f2, f3, f4, f5, f6, f7, f8, f9⟩, c0⟩ := HS.out W hW2
            clear hW hW2
            go_simp
            try with_reducible rfl
          try simp only [Act.put, List.setIfInBounds_toArray, List.set_cons_zero, List.set_cons_succ]
          refine wpAnyH_ready (rs := [10]) (by kernel_rfl) (by simp) ?_
          refine AllReadyH.cons rfl (fun K hK => ?_) ?_
          · go_simp
            have hpre := hHeld
            have o9 := Lib.hid (Ob.new (w5) #[.int .i64 0, .int .i64 0] 25)
            have hb9 := hHeld.size
            refine hK.out _ _ ?_ (fun hHeld => ?_)
            · exact B_alloc hHeld _
            clear hK K
            try simp only [Act.put, List.setIfInBounds_toArray, List.set_cons_zero, List.set_cons_succ]
            refine wpAnyH_take2 (i := 11) (t := 11) (v := ?_) rfl rfl (by kernel_rfl) (by kernel_rfl) (by kernel_rfl) (fun _ _ _ h => Only.not_panic h) (Or.inl ⟨by kernel_rfl, fun W hW => ?_⟩) (by assumption) ?_
            rotate_left
            · have hW2 := hW
              obtain ⟨⟨f0, f1, f2, f3, f4, f5, f6, f7, f8, f9⟩, c0⟩ := HS.out W hW2
              clear hW hW2
              go_simp
              try with_reducible rfl
            try simp only [Act.put, List.setIfInBounds_toArray, List.set_cons_zero, List.set_cons_succ]
            refine wpAnyH_ready (rs := [12]) (by kernel_rfl) (by simp) ?_
            refine AllReadyH.cons rfl (fun K hK => ?_) ?_
            · have v0 := o9.out.cell 0
              have v1 := o9.out.cell 1
              have g0 := o9.out.frozen 0
              have g1 := o9.out.frozen 1
              simp only [List.getElem?_toArray, List.getElem?_cons_zero, List.getElem?_cons_succ] at v0 v1
              go_simp
              refine hK.out _ _ ?_ (fun hHeld => ?_)
              · first | exact B_alloc hpre _ | exact (hHeld.setCell (by first | omega | (simp only; omega) | (simp; omega)) _).setCell (by first | omega | (simp only; omega) | (simp; omega)) _
              clear hK K
              try simp only [Act.put, List.setIfInBounds_toArray, List.set_cons_zero, List.set_cons_succ]
              refine wpAnyH_take2 (i := 13) (t := 13) (v := ?_) rfl rfl (by kernel_rfl) (by kernel_rfl) (by kernel_rfl) (fun _ _ _ h => Only.not_panic h) (Or.inl ⟨by kernel_rfl, fun W hW => ?_⟩) (by assumption) ?_
              rotate_left
              · have hW2 := hW
                obtain ⟨⟨f0, f1, f2, f3, f4, f5, f6, f7, f8, f9⟩, c0⟩ := HS.out W hW2
                clear hW hW2
                go_simp
                try with_reducible rfl
              try simp only [Act.put, List.setIfInBounds_toArray, List.set_cons_zero, List.set_cons_succ]
              refine wpAnyH_done (by kernel_rfl) (Only.mk ?_) _
              go_wp2_with fail
              go_meet
              first | exact ⟨rfl, ⟨_, rfl, by first | omega | exact Nat.le_refl _, Ob.new _ _ _⟩, rfl, hHeld⟩ | exact ⟨rfl, ⟨_, rfl, by first | omega | exact Nat.le_refl _, (o9.out.set 0 _).set 1 _⟩, rfl, hHeld⟩
            exact AllReadyH.nil
          exact AllReadyH.nil
        refine AllReadyH.cons rfl (fun K hK => ?_) ?_
        · go_simp
          have o9 := Lib.hid (show Ob (wr.drew.alloc (.cells #[.int .i64 0, .int .i64 0] 25)) wr.heap.size 25 #[.int .i64 0, .int .i64 0] from Ob.new _ _ _)
          have hpre := hHeld
          refine hK.out _ _ ?_ (fun hHeld => ?_)
          · exact B_alloc hHeld _
          clear hK K
          try simp only [Act.put, List.setIfInBounds_toArray, List.set_cons_zero, List.set_cons_succ]
          refine wpAnyH_ready (rs := [5]) (by kernel_rfl) (by simp) ?_
          refine AllReadyH.cons rfl (fun K hK => ?_) ?_
          · go_simp
            refine (HPl.out _ hHeld).mono ?_
            rintro ev w5 ⟨rfl, hb5⟩
            try simp only []
            replace o9 := Lib.hid (o9.out.below hb5)
            refine hK.out _ _ ?_ (fun hHeld => ?_)
            · exact B_trans hHeld hb5
            clear hK K
            try simp only [Act.put, List.setIfInBounds_toArray, List.set_cons_zero, List.set_cons_succ]
            refine wpAnyH_take2 (i := 6) (t := 70) (v := ?_) rfl rfl (by kernel_rfl) (by kernel_rfl) (by kernel_rfl) (fun _ _ _ h => Only.not_panic h) (Or.inl ⟨by kernel_rfl, fun W hW => ?_⟩) (by assumption) ?_
            rotate_left
            · have hW2 := hW
              obtain ⟨⟨f0, f1, f2, f3, f4, f5, f6, f7, f8, f9⟩, c0⟩ := HS.out W hW2
              clear hW hW2
              go_simp
              try with_reducible rfl
            try simp only [Act.put, List.setIfInBounds_toArray, List.set_cons_zero, List.set_cons_succ]
            refine wpAnyH_take2 (i := 7) (t := 77) (v := ?_) rfl rfl (by kernel_rfl) (by kernel_rfl) (by kernel_rfl) (fun _ _ _ h => Only.not_panic h) (Or.inl ⟨by kernel_rfl, fun W hW => ?_⟩) (by assumption) ?_
            rotate_left
            · have hW2 := hW
              obtain ⟨⟨f0, f1, f2, f3, f4, f5, f6, f7, f8, f9⟩, c0⟩ := HS.out W hW2
              clear hW hW2
              go_simp
              try with_reducible rfl
            try simp only [Act.put, List.setIfInBounds_toArray, List.set_cons_zero, List.set_cons_succ]
            refine wpAnyH_take2 (i := 8) (t := 78) (v := ?_) rfl rfl (by kernel_rfl) (by kernel_rfl) (by kernel_rfl) (fun _ _ _ h => Only.not_panic h) (Or.inl ⟨by kernel_rfl, fun W hW => ?_⟩) (by assumption) ?_
            rotate_left
            · have hW2 := hW
              obtain ⟨⟨f0, f1, f2, f3, f4, f5, f6, f7, f8, f9⟩, c0⟩ := HS.out W hW2
              clear hW hW2
              go_simp
              try with_reducible rfl
            try simp only [Act.put, List.setIfInBounds_toArray, List.set_cons_zero, List.set_cons_succ]
            refine wpAnyH_take2 (i := 9) (t := 79) (v := ?_) rfl rfl (by kernel_rfl) (by kernel_rfl) (by kernel_rfl) (fun _ _ _ h => Only.not_panic h) (Or.inl ⟨by kernel_rfl, fun W hW => ?_⟩) (by assumption) ?_
            rotate_left
            · have hW2 := hW
              obtain ⟨⟨f0, f1, f2, f3, f4, f5, f6, f7, f8, f9⟩, c0⟩ := HS.out W hW2
              clear hW hW2
              go_simp
              try with_reducible rfl
            try simp only [Act.put, List.setIfInBounds_toArray, List.set_cons_zero, List.set_cons_succ]
            refine wpAnyH_take2 (i := 11) (t := 11) (v := ?_) rfl rfl (by kernel_rfl) (by kernel_rfl) (by kernel_rfl) (fun _ _ _ h => Only.not_panic h) (Or.inl ⟨by kernel_rfl, fun W hW => ?_⟩) (by assumption) ?_
            rotate_left
            · have hW2 := hW
              obtain ⟨⟨f0, f1, f2, f3, f4, f5, f6, f7, f8, f9⟩, c0⟩ := HS.out W hW2
              clear hW hW2
              go_simp
              try with_reducible rfl
            try simp only [Act.put, List.setIfInBounds_toArray, List.set_cons_zero, List.set_cons_succ]
            refine wpAnyH_ready (rs := [12]) (by kernel_rfl) (by simp) ?_
            refine AllReadyH.cons rfl (fun K hK => ?_) ?_
            · have v0 := o9.out.cell 0
              have v1 := o9.out.cell 1
              have g0 := o9.out.frozen 0
              have g1 := o9.out.frozen 1
              simp only [List.getElem?_toArray, List.getElem?_cons_zero, List.getElem?_cons_succ] at v0 v1
              go_simp
              refine hK.out _ _ ?_ (fun hHeld => ?_)
              · first | exact B_alloc hpre _ | exact (hHeld.setCell (by first | omega | (simp only; omega) | (simp; omega)) _).setCell (by first | omega | (simp only; omega) | (simp; omega)) _
              clear hK K
              try simp only [Act.put, List.setIfInBounds_toArray, List.set_cons_zero, List.set_cons_succ]
              refine wpAnyH_take2 (i := 13) (t := 13) (v := ?_) rfl rfl (by kernel_rfl) (by kernel_rfl) (by kernel_rfl) (fun _ _ _ h => Only.not_panic h) (Or.inl ⟨by kernel_rfl, fun W hW => ?_⟩) (by assumption) ?_
              rotate_left
              · have hW2 := hW
                obtain ⟨⟨f0, f1, f2, f3, f4, f5, f6, f7, f8, f9⟩, c0⟩ := HS.out W hW2
                clear hW hW2
                go_simp
                try with_reducible rfl
              try simp only [Act.put, List.setIfInBounds_toArray, List.set_cons_zero, List.set_cons_succ]
              refine wpAnyH_done (by kernel_rfl) (Only.mk ?_) _
              go_wp2_with fail
              go_meet
              first | exact ⟨rfl, ⟨_, rfl, by first | omega | exact Nat.le_refl _, Ob.new _ _ _⟩, rfl, hHeld⟩ | exact ⟨rfl, ⟨_, rfl, by first | omega | exact Nat.le_refl _, (o9.out.set 0 _).set 1 _⟩, rfl, hHeld⟩
            exact AllReadyH.nil
          exact AllReadyH.nil
        exact AllReadyH.nil
      case rest =>
        obtain ⟨rfl, ⟨g, rfl, -, oG⟩, rfl, hbc⟩ := hcut
        obtain ⟨c0, c1, c2⟩ := HC.out _ hbc
        have z0 := oG.cell 0
        have z1 := oG.cell 1
        simp only [List.getElem?_toArray, List.getElem?_cons_zero, List.getElem?_cons_succ] at z0 z1
        have BC := Lib.hid (B_trans BR.out hbc)
        clear HS HC HPl hbc oG
        go_wp2_with fail
        go_quiet (fail)
        go_wp2_with fail
        go_roundg (5 - (i + 1))
        case measure => omega
        case rel => exact ⟨i + 1, rfl, by push_cast; rfl, by omega, by first | exact B_drewN BC.out _ | exact BC.out⟩
    · obtain rfl : i = 5 := by omega
      have KA := Lib.hid (K9.out.below hbr)
      clear hbr K9 O9 L9 W9 W8 HP
      obtain ⟨f0, f1, f2, f3, f4, f5, f6, f7, f8, f9⟩ := KA.out.ten
      go_wp2_with fail
      have KY := HY.out wr KA.out.2.2.1 KA.out.2.1
      have KYH := Lib.hid KY
      clear KY
      refine KYH.out.mono ?_
      rintro e ws ⟨hpost, hbs⟩
      obtain ⟨ya, yc, yb, yd, rfl, hRA, -⟩ := yearsOut_of hpost
      rw [reel_rolls] at hRA ⊢
      have KB := Lib.hid (KA.out.below hbs)
      have YA := Lib.hid hRA
      clear hpost hRA hbs KA KYH f0 f1 f2 f3 f4 f5 f6 f7 f8 f9
      obtain ⟨wt, hwt⟩ : ∃ wt, ((ws.alloc (.cells #[.int .i64 1928] 3)).alloc (.cells #[.int .i64 1926] 3)).alloc (.cells #[.int .i64 4, .slice (some ⟨ws.heap.size, 0, none⟩) 1 1, .int .i64 7, .slice (some ⟨ws.heap.size + 1, 0, none⟩) 1 1] 77) = wt := ⟨_, rfl⟩
      have hbt : Below ws.heap.size ws wt := by rw [← hwt]; exact B_alloc (B_alloc (B_alloc (Below.refl _ _) _) _) _
      have t1 : Ob wt ws.heap.size 3 #[.int .i64 1928] := by rw [← hwt]; exact ((Ob.new _ _ _).alloc _).alloc _
      have t2 : Ob wt (ws.heap.size + 1) 3 #[.int .i64 1926] := by
        rw [← hwt]
        have h := (Ob.new (ws.alloc (.cells #[.int .i64 1928] 3)) #[.int .i64 1926] 3).alloc (.cells #[.int .i64 4, .slice (some ⟨ws.heap.size, 0, none⟩) 1 1, .int .i64 7, .slice (some ⟨ws.heap.size + 1, 0, none⟩) 1 1] 77)
        simpa using h
      have t3 : Ob wt (ws.heap.size + 1 + 1) 77 #[.int .i64 4, .slice (some ⟨ws.heap.size, 0, none⟩) 1 1, .int .i64 7, .slice (some ⟨ws.heap.size + 1, 0, none⟩) 1 1] := by
        rw [← hwt]
        have h := Ob.new ((ws.alloc (.cells #[.int .i64 1928] 3)).alloc (.cells #[.int .i64 1926] 3)) #[.int .i64 4, .slice (some ⟨ws.heap.size, 0, none⟩) 1 1, .int .i64 7, .slice (some ⟨ws.heap.size + 1, 0, none⟩) 1 1] 77
        simpa using h
      have hRB : RollAt wt (some ⟨ws.heap.size + 1 + 1, 0, none⟩) 2 (madeL r reelS) [4, 7] := ⟨rfl, fun _ => ⟨_, rfl, t3.lt, fun i hi => by
        rcases (show i = 0 ∨ i = 1 by omega) with rfl | rfl
        · refine ⟨t3.cell 0, some ⟨ws.heap.size, 0, none⟩, 1, 1, t3.cell 1, ?_⟩
          rw [show madeL r reelS ([4, 7].getD 0 0) = [1928] from HM.out.1]
          exact ⟨rfl, fun _ => ⟨_, 0, rfl, t1.lt, fun j hj => by obtain rfl : j = 0 := (by omega); exact t1.cell 0⟩⟩
        · refine ⟨t3.cell 2, some ⟨ws.heap.size + 1, 0, none⟩, 1, 1, t3.cell 3, ?_⟩
          rw [show madeL r reelS ([4, 7].getD 1 0) = [1926] from HM.out.2]
          exact ⟨rfl, fun _ => ⟨_, 0, rfl, t2.lt, fun j hj => by obtain rfl : j = 0 := (by omega); exact t2.cell 0⟩⟩⟩⟩
      have hmade : ∀ x, (madeL r reelS x).length ≤ 100000 := fun x => madeL_len r reelS x
      have QS := Lib.hid (rolls_same ya (some ⟨ws.heap.size + 1 + 1, 0, none⟩) 2 yc 2 (madeL r reelS) [4, 7] wt (by omega) hmade (YA.out.below hbt) hRB)
      have KC := Lib.hid (KB.out.below hbt)
      have WT := Lib.hid hwt
      clear hbt hwt t1 t2 t3 hRB hmade KB YA
      go_wp2_with fail
      rw [WT.out]
      refine QS.out.mono ?_
      rintro e wu ⟨rfl, hbu⟩
      have KD := Lib.hid (KC.out.below hbu)
      clear hbu KC QS WT
      obtain ⟨f0, f1, f2, f3, f4, f5, f6, f7, f8, f9⟩ := KD.out.ten
      rw [HLA.out.1, HLA.out.2.1, HLA.out.2.2] at f9
      obtain ⟨wv, hwv⟩ : ∃ wv, wu.alloc (.cells #[.int .i64 100, .int .i64 1895000, .int .i64 0] 81) = wv := ⟨_, rfl⟩
      have hbv : Below wu.heap.size wu wv := by rw [← hwv]; exact B_alloc (Below.refl _ _) _
      have oV : Ob wv wu.heap.size 81 #[.int .i64 100, .int .i64 1895000, .int .i64 0] := by rw [← hwv]; exact Ob.new _ _ _
      have hSl := (KD.out.2.1.below hbv).l
      rw [HLA.out.1, HLA.out.2.1] at hSl
      obtain ⟨sb, so, hse, hsl, hsc⟩ := hSl.at_ (by omega)
      injection hse with hse
      injection hse with e1 e2
      subst e1 e2
      obtain ⟨i0, hi, hz0, hs0, hy0⟩ := info_parts info81
      have olds : ∀ j v, ([.int .i64 100, .int .i64 1891000, .int .i64 1000, .int .i64 200, .int .i64 3780000, .int .i64 2500] : List Value)[j]? = some v → wv.cell? ((⟨B + 2, 0, none⟩ : Addr).add j) = some v := fun j v hj => by
        have hj6 : j < 6 := by
          rcases Nat.lt_or_ge j 6 with h | h
          · exact h
          · rw [List.getElem?_eq_none (by simpa using h)] at hj; cases hj
        obtain ⟨a0, a1, a2⟩ := hsc 0 (by omega)
        obtain ⟨a3, a4, a5⟩ := hsc 1 (by omega)
        rw [add0]
        rcases (show j = 0 ∨ j = 1 ∨ j = 2 ∨ j = 3 ∨ j = 4 ∨ j = 5 by omega) with rfl | rfl | rfl | rfl | rfl | rfl <;> (cases hj; first | exact a0 | exact a1 | exact a2 | exact a3 | exact a4 | exact a5)
      have news : ∀ j v, ([.int .i64 100, .int .i64 1895000, .int .i64 0] : List Value)[j]? = some v → wv.cell? ((⟨wu.heap.size, 0, none⟩ : Addr).add j) = some v := fun j v hj => by
        rw [add0, oV.cell]
        simpa using hj
      have hrun := run_append_grow (P := Tryz.prog) (w := wv) 28 28 81 i0 _ Tryz.underlying28 hi hz0 ⟨B + 2, 0, none⟩ 2 2 [.int .i64 100, .int .i64 1891000, .int .i64 1000, .int .i64 200, .int .i64 3780000, .int .i64 2500] (by rw [hs0]; rfl) olds ⟨wu.heap.size, 0, none⟩ 1 1 [.int .i64 100, .int .i64 1895000, .int .i64 0] (by rw [hs0]; rfl) news (by omega) (by decide) (by rw [hy0]; decide)
      obtain ⟨C, hC⟩ : ∃ C, (([.int .i64 100, .int .i64 1891000, .int .i64 1000, .int .i64 200, .int .i64 3780000, .int .i64 2500] : List Value).toArray ++ ([.int .i64 100, .int .i64 1895000, .int .i64 0] : List Value).toArray ++ Builtin.zeroCells (Value.agg #[.int .i64 0, .int .i64 0, .int .i64 0]).cells (grownCap wv (2 + 1) 2 81 - (2 + 1))) = C := ⟨_, rfl⟩
      have hC9 : ∀ j, j < 9 → C[j]? = ([.int .i64 100, .int .i64 1891000, .int .i64 1000, .int .i64 200, .int .i64 3780000, .int .i64 2500, .int .i64 100, .int .i64 1895000, .int .i64 0] : List Value)[j]? := fun j hj => by
        rw [← hC, Array.getElem?_append_left (by simp; omega)]
        rcases (show j = 0 ∨ j = 1 ∨ j = 2 ∨ j = 3 ∨ j = 4 ∨ j = 5 ∨ j = 6 ∨ j = 7 ∨ j = 8 by omega) with rfl | rfl | rfl | rfl | rfl | rfl | rfl | rfl | rfl <;> rfl
      rw [hC] at hrun
      obtain ⟨cp, hcp⟩ : ∃ cp, grownCap wv (2 + 1) 2 81 = cp := ⟨_, rfl⟩
      rw [hcp] at hrun
      obtain ⟨ww, hww⟩ : ∃ ww, wv.drew.alloc (.cells C 81) = ww := ⟨_, rfl⟩
      rw [hww] at hrun
      have hbw : Below wv.heap.size wv ww := by rw [← hww]; exact B_alloc (Below.refl _ _).drew _
      have oW : Ob ww wv.heap.size 81 C := by rw [← hww]; exact Ob.new wv.drew C 81
      have hS3' : ∀ W, Ob W wv.heap.size 81 C → Sl3 W (some ⟨wv.heap.size, 0, none⟩) 3 reelLX := fun W oW => ⟨rfl, fun _ => ⟨_, 0, rfl, oW.lt, fun i hi => by
        rcases (show i = 0 ∨ i = 1 ∨ i = 2 by omega) with rfl | rfl | rfl
        · exact ⟨(oW.cell 0).trans (hC9 0 (by omega)), (oW.cell 1).trans (hC9 1 (by omega)), (oW.cell 2).trans (hC9 2 (by omega))⟩
        · exact ⟨(oW.cell 3).trans (hC9 3 (by omega)), (oW.cell 4).trans (hC9 4 (by omega)), (oW.cell 5).trans (hC9 5 (by omega))⟩
        · exact ⟨(oW.cell 6).trans (hC9 6 (by omega)), (oW.cell 7).trans (hC9 7 (by omega)), (oW.cell 8).trans (hC9 8 (by omega))⟩⟩⟩
      obtain ⟨Q, hQ⟩ : ∃ Q, wv.heap.size = Q := ⟨_, rfl⟩
      have hb5 := B_trans hbv hbw
      have KE := KD.out.below hb5
      obtain ⟨wx, hwx⟩ : ∃ wx, ww.setCell ⟨A, 9, none⟩ (.slice (some ⟨Q, 0, none⟩) 3 cp) = wx := ⟨_, rfl⟩
      have hAw : w.heap.size ≤ A := AW.out.1
      have hAQ : A ≠ wv.heap.size := by have h1 := (KD.out.1.below hbv).lt; omega
      have hS3 : Sl3 wx (some ⟨Q, 0, none⟩) 3 reelLX := by rw [← hQ]; exact hS3' wx (by rw [← hwx]; exact oW.other (by exact hAQ) _)
      have BX : Hid (Below w.heap.size w wx) := by rw [← hwx]; exact KE.2.2.1.setCell (by exact hAw) _
      have OX : Hid (Ob wx A 30 #[.string r.nm, .int .i64 r.g, .int .i64 r.b, .int .i64 r.f, .int .i64 r.lo, .int .i64 r.hi, .int .i64 r.k, .slice r.ma r.mn r.mc, .slice r.sa r.sn r.sc, .slice (some ⟨Q, 0, none⟩) 3 cp]) := by rw [← hwx]; exact (show Ob (ww.setCell ⟨A, 9, none⟩ (.slice (some ⟨Q, 0, none⟩) 3 cp)) A 30 #[.string r.nm, .int .i64 r.g, .int .i64 r.b, .int .i64 r.f, .int .i64 r.lo, .int .i64 r.hi, .int .i64 r.k, .slice r.ma r.mn r.mc, .slice r.sa r.sn r.sc, .slice (some ⟨Q, 0, none⟩) 3 cp] by simpa using KE.1.set 9 (.slice (some ⟨Q, 0, none⟩) 3 cp))
      have RX : Hid (Reads wx (reelX B (some ⟨Q, 0, none⟩) cp) reelM reelS reelLX) := HXR.out wx (some ⟨Q, 0, none⟩) cp (AW.out.2.2.below (by rw [← hwx]; exact KE.2.2.2.setCell (by exact AW.out.2.1) _)) hS3
      have g9 := KE.1.frozen 9
      obtain ⟨h0, h1, h2, h3, h4, h5, h6, h7, h8, h9⟩ := KE.ten
      rw [← hwv] at hrun
      have WX := Lib.hid hwx
      have HQ := Lib.hid hQ
      have HWV := Lib.hid hwv
      rw [hwv, hQ] at hrun
      rw [← hwv] at hrun
      clear hbv oV hSl hsl hsc hi hz0 hs0 hy0 olds news hC hC9 hcp hbw oW hS3 hS3' hAQ hb5 KE hAw hwx hQ hww KD hwv
      go_upto_region 18 with (at_builtin; refine Lib.wpList_append_run _ rfl _ _ _ _ rfl _ _ rfl rfl _ _ hrun ?_)
      rw [WX.out]
      clear f0 f1 f2 f3 f4 f5 f6 f7 f8 f9 h0 h1 h2 h3 h4 h5 h6 h7 h8 h9 g9 hrun
      have HS := shrinkX B (some ⟨Q, 0, none⟩) cp wx (HG.out wx BX.out) RX.out
      rw [← HXC.out (some ⟨Q, 0, none⟩) cp] at HS
      have HSh := Lib.hid HS
      obtain ⟨h0, h1, h2, h3, h4, h5, h6, h7, h8, h9⟩ : wx.cell? ⟨A, 0, none⟩ = some (.string r.nm) ∧ wx.cell? ⟨A, 1, none⟩ = some (.int .i64 r.g) ∧ wx.cell? ⟨A, 2, none⟩ = some (.int .i64 r.b) ∧ wx.cell? ⟨A, 3, none⟩ = some (.int .i64 r.f) ∧ wx.cell? ⟨A, 4, none⟩ = some (.int .i64 r.lo) ∧ wx.cell? ⟨A, 5, none⟩ = some (.int .i64 r.hi) ∧ wx.cell? ⟨A, 6, none⟩ = some (.int .i64 r.k) ∧ wx.cell? ⟨A, 7, none⟩ = some (.slice r.ma r.mn r.mc) ∧ wx.cell? ⟨A, 8, none⟩ = some (.slice r.sa r.sn r.sc) ∧ wx.cell? ⟨A, 9, none⟩ = some (.slice (some ⟨Q, 0, none⟩) 3 cp) := ⟨OX.out.cell 0, OX.out.cell 1, OX.out.cell 2, OX.out.cell 3, OX.out.cell 4, OX.out.cell 5, OX.out.cell 6, OX.out.cell 7, OX.out.cell 8, OX.out.cell 9⟩
      clear HS
      go_wp2_with fail
      refine HSh.out.mono ?_
      rintro e wy ⟨⟨sx, sy, rfl⟩, hby⟩
      have BY := Lib.hid (B_trans BX.out hby)
      clear h0 h1 h2 h3 h4 h5 h6 h7 h8 h9 hby OX RX
      have HA := Lib.hid (fun (W : World) (hb : Below w.heap.size w W) => awake_any W (HG.out W hb))
      go_wp2_with fail
      refine (HA.out _ (B_alloc BY.out _)).mono ?_
      rintro e wz ⟨rfl, hbz⟩
      have BZ := Lib.hid (B_trans (B_alloc BY.out (.cells #[.int .i64 sx, .int .i64 sy] 25)) hbz)
      clear hbz
      go_wp2
      refine bodyPost_ret (v := .bool true) (by simp [results, Tryz.results15, go_sem]) rfl ⟨rfl, BZ.out⟩
end Go.Proofs.YtgjpbffoalldkaaGreatDoor

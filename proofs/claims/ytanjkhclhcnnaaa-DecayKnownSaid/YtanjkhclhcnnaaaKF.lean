/- The law DecayKnown. -/
import Derived.Test.YtanjkhclhcnnaaaKE
namespace Go.Proofs.Ytanjkhclhcnnaaa
open Go Go.RowKit Go.Shelf
attribute [local go_sem] Oper.semAt_some

/-- The rule of the examples in a box. -/
def KR (r : RuA) (R : Nat) (w W : World) : Prop := Ob W R 25 #[(.slice r.ha r.hn r.hc), (.slice r.wa r.wn r.wc), (.int .i64 r.own), (.int .i64 r.feed), (.int .i64 r.g0), (.int .i64 r.g1), (.int .i64 r.g2), (.int .i64 r.lost)] ∧ RuR W r hs0 ws0 ∧ Below w.heap.size w W
theorem KR.below {r : RuA} {R : Nat} {w W W1 : World} (h : KR r R w W) (hb : Below W.heap.size W W1) : KR r R w W1 := ⟨h.1.below hb, h.2.1.below hb, B_trans h.2.2 hb⟩
theorem KR.eight {r : RuA} {R : Nat} {w W : World} (h : KR r R w W) : W.cell? ⟨R, 0, none⟩ = some (.slice r.ha r.hn r.hc) ∧ W.cell? ⟨R, 1, none⟩ = some (.slice r.wa r.wn r.wc) ∧ W.cell? ⟨R, 2, none⟩ = some (.int .i64 r.own) ∧ W.cell? ⟨R, 3, none⟩ = some (.int .i64 r.feed) ∧ W.cell? ⟨R, 4, none⟩ = some (.int .i64 r.g0) ∧ W.cell? ⟨R, 5, none⟩ = some (.int .i64 r.g1) ∧ W.cell? ⟨R, 6, none⟩ = some (.int .i64 r.g2) ∧ W.cell? ⟨R, 7, none⟩ = some (.int .i64 r.lost) :=
  ⟨h.1.cell 0, h.1.cell 1, h.1.cell 2, h.1.cell 3, h.1.cell 4, h.1.cell 5, h.1.cell 6, h.1.cell 7⟩

set_option maxRecDepth 100000 in
set_option maxHeartbeats 16000000 in
theorem knownLaw_any (w : World) : Calls Try.prog 8 #[] w fun e w' => e = .returned (.bool true) ∧ Below w.heap.size w w' := by
  have HDy := Lib.hid day_any
  have HA := Lib.hid awake_any
  have HSp := Lib.hid span_any
  go_enter Try.func8, Try.ntmps8
  go_wp2_with fail
  refine (rule_any w).mono ?_
  rintro e w1 ⟨a, b, rfl, -, -, hRu, hb1⟩
  obtain ⟨r, hr⟩ : ∃ r, rule0 a b = r := ⟨_, rfl⟩
  have e1 := ks1 a b
  have e2 := ks2 a b
  have e3 := kg1 a b
  have e4 := kg2 a b
  have e5 := krK a b
  rw [hr] at e1 e2 e3 e4 e5 hRu ⊢
  obtain ⟨w2, hw2⟩ : ∃ w2, w1.alloc (.cells #[(.slice r.ha r.hn r.hc), (.slice r.wa r.wn r.wc), (.int .i64 r.own), (.int .i64 r.feed), (.int .i64 r.g0), (.int .i64 r.g1), (.int .i64 r.g2), (.int .i64 r.lost)] 25) = w2 := ⟨_, rfl⟩
  have hb2 : Below w1.heap.size w1 w2 := by rw [← hw2]; exact B_alloc (Below.refl _ _) _
  have K2 : Hid (KR r w1.heap.size w w2) := ⟨by rw [← hw2]; exact Ob.new _ _ _, hRu.below hb2, B_trans hb1 hb2⟩
  have W2 := Lib.hid hw2
  have E5 := Lib.hid e5
  have HSt1 := fun W (h : RuR W r hs0 ws0) => strengthD_any r hs0 ws0 (200, 250, 400, 500) W h
  rw [e1] at HSt1
  have HSt2 := fun W (h : RuR W r hs0 ws0) => strengthD_any r hs0 ws0 (50, 500, 0, 700) W h
  rw [e2] at HSt2
  have HGr1 := fun W (h : RuR W r hs0 ws0) => growD_any r hs0 ws0 (200, 250, 400, 500) (1000, 1200) W h
  rw [e3] at HGr1
  have HGr2 := fun W (h : RuR W r hs0 ws0) => growD_any r hs0 ws0 (200, 250, 400, 500) (1000000, 1000000) W h
  rw [e4] at HGr2
  simp only at HSt1 HSt2 HGr1 HGr2
  have J1 := Lib.hid HSt1
  have J2 := Lib.hid HSt2
  have J3 := Lib.hid HGr1
  have J4 := Lib.hid HGr2
  clear e1 e2 e3 e4 e5 hRu hb1 hb2 hw2 HSt1 HSt2 HGr1 HGr2 hr
  go_upto_region 2 with fail
  rw [W2.out]
  have HS := Lib.hid (fun (W' : World) (hh : Below w2.heap.size w2 W') => (K2.out.below hh).eight)
  go_cut [2, 3] (fun va vb wx => ∃ g : Nat, va = .pointer (some ⟨g, 0, none⟩) ∧ w2.heap.size ≤ g ∧ vb = .int .i64 0 ∧ Ob wx g 28 #[.int .i64 180, .int .i64 320] ∧ Below w2.heap.size w2 wx)
  case first =>
   as_aux_lemma =>
    refine wp_region_held' (S := fun W' => Below w2.heap.size w2 W') (by kernel_rfl) ((Below.refl _ w2).drew) (fun hHeld => ?_)
    refine wpAnyH_take2 (i := 0) (t := 28) (v := ?_) rfl rfl (by kernel_rfl) (by kernel_rfl) (by kernel_rfl) (fun _ _ _ h => Only.not_panic h) (Or.inl ⟨by kernel_rfl, fun W hW => ?_⟩) (by assumption) ?_
    rotate_left
    · have hW2 := hW
      obtain ⟨f0, f1, f2, f3, f4, f5, f6, f7⟩ := HS.out W hW2
      clear hW hW2
      go_simp
      try with_reducible rfl
    try simp only [Act.put, List.setIfInBounds_toArray, List.set_cons_zero, List.set_cons_succ]
    refine wpAnyH_ready (rs := [1, 6]) (by kernel_rfl) (by simp) ?_
    refine AllReadyH.cons rfl (fun K hK => ?_) ?_
    · go_simp
      refine (HDy.out _).mono ?_
      rintro ev w1 ⟨rfl, hb1⟩
      try simp only []
      refine hK.out _ _ ?_ (fun hHeld => ?_)
      · exact B_trans hHeld hb1
      clear hK K
      try simp only [Act.put, List.setIfInBounds_toArray, List.set_cons_zero, List.set_cons_succ]
      refine wpAnyH_ready (rs := [2, 6]) (by kernel_rfl) (by simp) ?_
      refine AllReadyH.cons rfl (fun K hK => ?_) ?_
      · go_simp
        refine (J1.out _ (K2.out.below hHeld).2.1).mono ?_
        rintro ev w2 ⟨rfl, hb2⟩
        try simp only []
        refine hK.out _ _ ?_ (fun hHeld => ?_)
        · exact B_trans hHeld hb2
        clear hK K
        try simp only [Act.put, List.setIfInBounds_toArray, List.set_cons_zero, List.set_cons_succ]
        refine wpAnyH_take2 (i := 3) (t := 27) (v := ?_) rfl rfl (by kernel_rfl) (by kernel_rfl) (by kernel_rfl) (fun _ _ _ h => Only.not_panic h) (Or.inl ⟨by kernel_rfl, fun W hW => ?_⟩) (by assumption) ?_
        rotate_left
        · have hW2 := hW
          obtain ⟨f0, f1, f2, f3, f4, f5, f6, f7⟩ := HS.out W hW2
          clear hW hW2
          go_simp
          try with_reducible rfl
        try simp only [Act.put, List.setIfInBounds_toArray, List.set_cons_zero, List.set_cons_succ]
        refine wpAnyH_take2 (i := 4) (t := 31) (v := ?_) rfl rfl (by kernel_rfl) (by kernel_rfl) (by kernel_rfl) (fun _ _ _ h => Only.not_panic h) (Or.inl ⟨by kernel_rfl, fun W hW => ?_⟩) (by assumption) ?_
        rotate_left
        · have hW2 := hW
          obtain ⟨f0, f1, f2, f3, f4, f5, f6, f7⟩ := HS.out W hW2
          clear hW hW2
          go_simp
          try with_reducible rfl
        try simp only [Act.put, List.setIfInBounds_toArray, List.set_cons_zero, List.set_cons_succ]
        refine wpAnyH_take2 (i := 5) (t := 32) (v := ?_) rfl rfl (by kernel_rfl) (by kernel_rfl) (by kernel_rfl) (fun _ _ _ h => Only.not_panic h) (Or.inl ⟨by kernel_rfl, fun W hW => ?_⟩) (by assumption) ?_
        rotate_left
        · have hW2 := hW
          obtain ⟨f0, f1, f2, f3, f4, f5, f6, f7⟩ := HS.out W hW2
          clear hW hW2
          go_simp
          try with_reducible rfl
        try simp only [Act.put, List.setIfInBounds_toArray, List.set_cons_zero, List.set_cons_succ]
        refine wpAnyH_ready (rs := [6]) (by kernel_rfl) (by simp) ?_
        refine AllReadyH.cons rfl (fun K hK => ?_) ?_
        · go_simp
          have hpre := hHeld
          have o9 := Lib.hid (Ob.new (w2) #[.int .i64 0, .int .i64 0] 28)
          have hb9 := hHeld.size
          refine hK.out _ _ ?_ (fun hHeld => ?_)
          · exact B_alloc hHeld _
          clear hK K
          try simp only [Act.put, List.setIfInBounds_toArray, List.set_cons_zero, List.set_cons_succ]
          refine wpAnyH_ready (rs := [7]) (by kernel_rfl) (by simp) ?_
          refine AllReadyH.cons rfl (fun K hK => ?_) ?_
          · have v0 := o9.out.cell 0
            have v1 := o9.out.cell 1
            have g0 := o9.out.frozen 0
            have g1 := o9.out.frozen 1
            simp only [List.getElem?_toArray, List.getElem?_cons_zero, List.getElem?_cons_succ] at v0 v1
            go_simp
            refine hK.out _ _ ?_ (fun hHeld => ?_)
            · first | exact B_alloc hpre _ | exact (hHeld.setCell (by first | omega | (simp only; omega) | (simp; omega)) _).setCell (by first | omega | (simp only; omega) | (simp; omega)) _
            clear hK K
            try simp only [Act.put, List.setIfInBounds_toArray, List.set_cons_zero, List.set_cons_succ]
            refine wpAnyH_take2 (i := 8) (t := 3) (v := ?_) rfl rfl (by kernel_rfl) (by kernel_rfl) (by kernel_rfl) (fun _ _ _ h => Only.not_panic h) (Or.inl ⟨by kernel_rfl, fun W hW => ?_⟩) (by assumption) ?_
            rotate_left
            · have hW2 := hW
              obtain ⟨f0, f1, f2, f3, f4, f5, f6, f7⟩ := HS.out W hW2
              clear hW hW2
              go_simp
              try with_reducible rfl
            try simp only [Act.put, List.setIfInBounds_toArray, List.set_cons_zero, List.set_cons_succ]
            refine wpAnyH_done (by kernel_rfl) (Only.mk ?_) _
            go_wp2_with fail
            go_meet
            first | exact ⟨_, rfl, by first | omega | exact Nat.le_refl _, rfl, Ob.new _ _ _, hHeld⟩ | exact ⟨_, rfl, by first | omega | exact Nat.le_refl _, rfl, (o9.out.set 0 _).set 1 _, hHeld⟩
          exact AllReadyH.nil
        exact AllReadyH.nil
      refine AllReadyH.cons rfl (fun K hK => ?_) ?_
      · go_simp
        have hpre := hHeld
        have o9 := Lib.hid (Ob.new (w1) #[.int .i64 0, .int .i64 0] 28)
        have hb9 := hHeld.size
        refine hK.out _ _ ?_ (fun hHeld => ?_)
        · exact B_alloc hHeld _
        clear hK K
        try simp only [Act.put, List.setIfInBounds_toArray, List.set_cons_zero, List.set_cons_succ]
        refine wpAnyH_ready (rs := [2]) (by kernel_rfl) (by simp) ?_
        refine AllReadyH.cons rfl (fun K hK => ?_) ?_
        · go_simp
          refine (J1.out _ (K2.out.below hHeld).2.1).mono ?_
          rintro ev w2 ⟨rfl, hb2⟩
          try simp only []
          replace o9 := Lib.hid (o9.out.below hb2)
          refine hK.out _ _ ?_ (fun hHeld => ?_)
          · exact B_trans hHeld hb2
          clear hK K
          try simp only [Act.put, List.setIfInBounds_toArray, List.set_cons_zero, List.set_cons_succ]
          refine wpAnyH_take2 (i := 3) (t := 27) (v := ?_) rfl rfl (by kernel_rfl) (by kernel_rfl) (by kernel_rfl) (fun _ _ _ h => Only.not_panic h) (Or.inl ⟨by kernel_rfl, fun W hW => ?_⟩) (by assumption) ?_
          rotate_left
          · have hW2 := hW
            obtain ⟨f0, f1, f2, f3, f4, f5, f6, f7⟩ := HS.out W hW2
            clear hW hW2
            go_simp
            try with_reducible rfl
          try simp only [Act.put, List.setIfInBounds_toArray, List.set_cons_zero, List.set_cons_succ]
          refine wpAnyH_take2 (i := 4) (t := 31) (v := ?_) rfl rfl (by kernel_rfl) (by kernel_rfl) (by kernel_rfl) (fun _ _ _ h => Only.not_panic h) (Or.inl ⟨by kernel_rfl, fun W hW => ?_⟩) (by assumption) ?_
          rotate_left
          · have hW2 := hW
            obtain ⟨f0, f1, f2, f3, f4, f5, f6, f7⟩ := HS.out W hW2
            clear hW hW2
            go_simp
            try with_reducible rfl
          try simp only [Act.put, List.setIfInBounds_toArray, List.set_cons_zero, List.set_cons_succ]
          refine wpAnyH_take2 (i := 5) (t := 32) (v := ?_) rfl rfl (by kernel_rfl) (by kernel_rfl) (by kernel_rfl) (fun _ _ _ h => Only.not_panic h) (Or.inl ⟨by kernel_rfl, fun W hW => ?_⟩) (by assumption) ?_
          rotate_left
          · have hW2 := hW
            obtain ⟨f0, f1, f2, f3, f4, f5, f6, f7⟩ := HS.out W hW2
            clear hW hW2
            go_simp
            try with_reducible rfl
          try simp only [Act.put, List.setIfInBounds_toArray, List.set_cons_zero, List.set_cons_succ]
          refine wpAnyH_ready (rs := [7]) (by kernel_rfl) (by simp) ?_
          refine AllReadyH.cons rfl (fun K hK => ?_) ?_
          · have v0 := o9.out.cell 0
            have v1 := o9.out.cell 1
            have g0 := o9.out.frozen 0
            have g1 := o9.out.frozen 1
            simp only [List.getElem?_toArray, List.getElem?_cons_zero, List.getElem?_cons_succ] at v0 v1
            go_simp
            refine hK.out _ _ ?_ (fun hHeld => ?_)
            · first | exact B_alloc hpre _ | exact (hHeld.setCell (by first | omega | (simp only; omega) | (simp; omega)) _).setCell (by first | omega | (simp only; omega) | (simp; omega)) _
            clear hK K
            try simp only [Act.put, List.setIfInBounds_toArray, List.set_cons_zero, List.set_cons_succ]
            refine wpAnyH_take2 (i := 8) (t := 3) (v := ?_) rfl rfl (by kernel_rfl) (by kernel_rfl) (by kernel_rfl) (fun _ _ _ h => Only.not_panic h) (Or.inl ⟨by kernel_rfl, fun W hW => ?_⟩) (by assumption) ?_
            rotate_left
            · have hW2 := hW
              obtain ⟨f0, f1, f2, f3, f4, f5, f6, f7⟩ := HS.out W hW2
              clear hW hW2
              go_simp
              try with_reducible rfl
            try simp only [Act.put, List.setIfInBounds_toArray, List.set_cons_zero, List.set_cons_succ]
            refine wpAnyH_done (by kernel_rfl) (Only.mk ?_) _
            go_wp2_with fail
            go_meet
            first | exact ⟨_, rfl, by first | omega | exact Nat.le_refl _, rfl, Ob.new _ _ _, hHeld⟩ | exact ⟨_, rfl, by first | omega | exact Nat.le_refl _, rfl, (o9.out.set 0 _).set 1 _, hHeld⟩
          exact AllReadyH.nil
        exact AllReadyH.nil
      exact AllReadyH.nil
    refine AllReadyH.cons rfl (fun K hK => ?_) ?_
    · go_simp
      have o9 := Lib.hid (show Ob (w2.drew.alloc (.cells #[.int .i64 0, .int .i64 0] 28)) w2.heap.size 28 #[.int .i64 0, .int .i64 0] from Ob.new _ _ _)
      have hpre := hHeld
      refine hK.out _ _ ?_ (fun hHeld => ?_)
      · exact B_alloc hHeld _
      clear hK K
      try simp only [Act.put, List.setIfInBounds_toArray, List.set_cons_zero, List.set_cons_succ]
      refine wpAnyH_ready (rs := [1]) (by kernel_rfl) (by simp) ?_
      refine AllReadyH.cons rfl (fun K hK => ?_) ?_
      · go_simp
        refine (HDy.out _).mono ?_
        rintro ev w1 ⟨rfl, hb1⟩
        try simp only []
        replace o9 := Lib.hid (o9.out.below hb1)
        refine hK.out _ _ ?_ (fun hHeld => ?_)
        · exact B_trans hHeld hb1
        clear hK K
        try simp only [Act.put, List.setIfInBounds_toArray, List.set_cons_zero, List.set_cons_succ]
        refine wpAnyH_ready (rs := [2]) (by kernel_rfl) (by simp) ?_
        refine AllReadyH.cons rfl (fun K hK => ?_) ?_
        · go_simp
          refine (J1.out _ (K2.out.below hHeld).2.1).mono ?_
          rintro ev w2 ⟨rfl, hb2⟩
          try simp only []
          replace o9 := Lib.hid (o9.out.below hb2)
          refine hK.out _ _ ?_ (fun hHeld => ?_)
          · exact B_trans hHeld hb2
          clear hK K
          try simp only [Act.put, List.setIfInBounds_toArray, List.set_cons_zero, List.set_cons_succ]
          refine wpAnyH_take2 (i := 3) (t := 27) (v := ?_) rfl rfl (by kernel_rfl) (by kernel_rfl) (by kernel_rfl) (fun _ _ _ h => Only.not_panic h) (Or.inl ⟨by kernel_rfl, fun W hW => ?_⟩) (by assumption) ?_
          rotate_left
          · have hW2 := hW
            obtain ⟨f0, f1, f2, f3, f4, f5, f6, f7⟩ := HS.out W hW2
            clear hW hW2
            go_simp
            try with_reducible rfl
          try simp only [Act.put, List.setIfInBounds_toArray, List.set_cons_zero, List.set_cons_succ]
          refine wpAnyH_take2 (i := 4) (t := 31) (v := ?_) rfl rfl (by kernel_rfl) (by kernel_rfl) (by kernel_rfl) (fun _ _ _ h => Only.not_panic h) (Or.inl ⟨by kernel_rfl, fun W hW => ?_⟩) (by assumption) ?_
          rotate_left
          · have hW2 := hW
            obtain ⟨f0, f1, f2, f3, f4, f5, f6, f7⟩ := HS.out W hW2
            clear hW hW2
            go_simp
            try with_reducible rfl
          try simp only [Act.put, List.setIfInBounds_toArray, List.set_cons_zero, List.set_cons_succ]
          refine wpAnyH_take2 (i := 5) (t := 32) (v := ?_) rfl rfl (by kernel_rfl) (by kernel_rfl) (by kernel_rfl) (fun _ _ _ h => Only.not_panic h) (Or.inl ⟨by kernel_rfl, fun W hW => ?_⟩) (by assumption) ?_
          rotate_left
          · have hW2 := hW
            obtain ⟨f0, f1, f2, f3, f4, f5, f6, f7⟩ := HS.out W hW2
            clear hW hW2
            go_simp
            try with_reducible rfl
          try simp only [Act.put, List.setIfInBounds_toArray, List.set_cons_zero, List.set_cons_succ]
          refine wpAnyH_ready (rs := [7]) (by kernel_rfl) (by simp) ?_
          refine AllReadyH.cons rfl (fun K hK => ?_) ?_
          · have v0 := o9.out.cell 0
            have v1 := o9.out.cell 1
            have g0 := o9.out.frozen 0
            have g1 := o9.out.frozen 1
            simp only [List.getElem?_toArray, List.getElem?_cons_zero, List.getElem?_cons_succ] at v0 v1
            go_simp
            refine hK.out _ _ ?_ (fun hHeld => ?_)
            · first | exact B_alloc hpre _ | exact (hHeld.setCell (by first | omega | (simp only; omega) | (simp; omega)) _).setCell (by first | omega | (simp only; omega) | (simp; omega)) _
            clear hK K
            try simp only [Act.put, List.setIfInBounds_toArray, List.set_cons_zero, List.set_cons_succ]
            refine wpAnyH_take2 (i := 8) (t := 3) (v := ?_) rfl rfl (by kernel_rfl) (by kernel_rfl) (by kernel_rfl) (fun _ _ _ h => Only.not_panic h) (Or.inl ⟨by kernel_rfl, fun W hW => ?_⟩) (by assumption) ?_
            rotate_left
            · have hW2 := hW
              obtain ⟨f0, f1, f2, f3, f4, f5, f6, f7⟩ := HS.out W hW2
              clear hW hW2
              go_simp
              try with_reducible rfl
            try simp only [Act.put, List.setIfInBounds_toArray, List.set_cons_zero, List.set_cons_succ]
            refine wpAnyH_done (by kernel_rfl) (Only.mk ?_) _
            go_wp2_with fail
            go_meet
            first | exact ⟨_, rfl, by first | omega | exact Nat.le_refl _, rfl, Ob.new _ _ _, hHeld⟩ | exact ⟨_, rfl, by first | omega | exact Nat.le_refl _, rfl, (o9.out.set 0 _).set 1 _, hHeld⟩
          exact AllReadyH.nil
        exact AllReadyH.nil
      exact AllReadyH.nil
    exact AllReadyH.nil
  case rest =>
  clear HS
  obtain ⟨g2, rfl, -, rfl, oG, hbc⟩ := hcut
  obtain ⟨v2, hv2⟩ : ∃ wz, wz = wc := ⟨_, rfl⟩
  rw [← hv2] at oG hbc ⊢
  clear hv2
  have K2' := Lib.hid (K2.out.below hbc)
  have G2 := Lib.hid oG
  clear K2 hbc oG
  go_upto_region 3 with fail
  have HS := Lib.hid (fun (W' : World) (hh : Below v2.heap.size v2 W') => (K2'.out.below hh).eight)
  go_cut [4, 5] (fun va vb wx => ∃ g : Nat, va = .pointer (some ⟨g, 0, none⟩) ∧ v2.heap.size ≤ g ∧ vb = .int .i64 0 ∧ Ob wx g 28 #[.int .i64 20, .int .i64 1000] ∧ Below v2.heap.size v2 wx)
  case first =>
   as_aux_lemma =>
    refine wp_region_held' (S := fun W' => Below v2.heap.size v2 W') (by kernel_rfl) ((Below.refl _ v2).drew) (fun hHeld => ?_)
    refine wpAnyH_take2 (i := 0) (t := 34) (v := ?_) rfl rfl (by kernel_rfl) (by kernel_rfl) (by kernel_rfl) (fun _ _ _ h => Only.not_panic h) (Or.inl ⟨by kernel_rfl, fun W hW => ?_⟩) (by assumption) ?_
    rotate_left
    · have hW2 := hW
      obtain ⟨f0, f1, f2, f3, f4, f5, f6, f7⟩ := HS.out W hW2
      clear hW hW2
      go_simp
      try with_reducible rfl
    try simp only [Act.put, List.setIfInBounds_toArray, List.set_cons_zero, List.set_cons_succ]
    refine wpAnyH_ready (rs := [1, 8]) (by kernel_rfl) (by simp) ?_
    refine AllReadyH.cons rfl (fun K hK => ?_) ?_
    · go_simp
      refine (HSp.out 50 500 _).mono ?_
      rintro ev w1 ⟨rfl, hb1⟩
      try simp only []
      refine hK.out _ _ ?_ (fun hHeld => ?_)
      · exact B_trans hHeld hb1
      clear hK K
      try simp only [Act.put, List.setIfInBounds_toArray, List.set_cons_zero, List.set_cons_succ]
      refine wpAnyH_ready (rs := [2, 8]) (by kernel_rfl) (by simp) ?_
      refine AllReadyH.cons rfl (fun K hK => ?_) ?_
      · go_simp
        refine (HSp.out 0 700 _).mono ?_
        rintro ev w2 ⟨rfl, hb2⟩
        try simp only []
        refine hK.out _ _ ?_ (fun hHeld => ?_)
        · exact B_trans hHeld hb2
        clear hK K
        try simp only [Act.put, List.setIfInBounds_toArray, List.set_cons_zero, List.set_cons_succ]
        refine wpAnyH_take2 (i := 3) (t := 37) (v := ?_) rfl rfl (by kernel_rfl) (by kernel_rfl) (by kernel_rfl) (fun _ _ _ h => Only.not_panic h) (Or.inl ⟨by kernel_rfl, fun W hW => ?_⟩) (by assumption) ?_
        rotate_left
        · have hW2 := hW
          obtain ⟨f0, f1, f2, f3, f4, f5, f6, f7⟩ := HS.out W hW2
          clear hW hW2
          go_simp
          try with_reducible rfl
        try simp only [Act.put, List.setIfInBounds_toArray, List.set_cons_zero, List.set_cons_succ]
        refine wpAnyH_ready (rs := [4, 8]) (by kernel_rfl) (by simp) ?_
        refine AllReadyH.cons rfl (fun K hK => ?_) ?_
        · go_simp
          refine (J2.out _ (K2'.out.below hHeld).2.1).mono ?_
          rintro ev w4 ⟨rfl, hb4⟩
          try simp only []
          refine hK.out _ _ ?_ (fun hHeld => ?_)
          · exact B_trans hHeld hb4
          clear hK K
          try simp only [Act.put, List.setIfInBounds_toArray, List.set_cons_zero, List.set_cons_succ]
          refine wpAnyH_take2 (i := 5) (t := 33) (v := ?_) rfl rfl (by kernel_rfl) (by kernel_rfl) (by kernel_rfl) (fun _ _ _ h => Only.not_panic h) (Or.inl ⟨by kernel_rfl, fun W hW => ?_⟩) (by assumption) ?_
          rotate_left
          · have hW2 := hW
            obtain ⟨f0, f1, f2, f3, f4, f5, f6, f7⟩ := HS.out W hW2
            clear hW hW2
            go_simp
            try with_reducible rfl
          try simp only [Act.put, List.setIfInBounds_toArray, List.set_cons_zero, List.set_cons_succ]
          refine wpAnyH_take2 (i := 6) (t := 39) (v := ?_) rfl rfl (by kernel_rfl) (by kernel_rfl) (by kernel_rfl) (fun _ _ _ h => Only.not_panic h) (Or.inl ⟨by kernel_rfl, fun W hW => ?_⟩) (by assumption) ?_
          rotate_left
          · have hW2 := hW
            obtain ⟨f0, f1, f2, f3, f4, f5, f6, f7⟩ := HS.out W hW2
            clear hW hW2
            go_simp
            try with_reducible rfl
          try simp only [Act.put, List.setIfInBounds_toArray, List.set_cons_zero, List.set_cons_succ]
          refine wpAnyH_take2 (i := 7) (t := 40) (v := ?_) rfl rfl (by kernel_rfl) (by kernel_rfl) (by kernel_rfl) (fun _ _ _ h => Only.not_panic h) (Or.inl ⟨by kernel_rfl, fun W hW => ?_⟩) (by assumption) ?_
          rotate_left
          · have hW2 := hW
            obtain ⟨f0, f1, f2, f3, f4, f5, f6, f7⟩ := HS.out W hW2
            clear hW hW2
            go_simp
            try with_reducible rfl
          try simp only [Act.put, List.setIfInBounds_toArray, List.set_cons_zero, List.set_cons_succ]
          refine wpAnyH_ready (rs := [8]) (by kernel_rfl) (by simp) ?_
          refine AllReadyH.cons rfl (fun K hK => ?_) ?_
          · go_simp
            have hpre := hHeld
            have o9 := Lib.hid (Ob.new (w4) #[.int .i64 0, .int .i64 0] 28)
            have hb9 := hHeld.size
            refine hK.out _ _ ?_ (fun hHeld => ?_)
            · exact B_alloc hHeld _
            clear hK K
            try simp only [Act.put, List.setIfInBounds_toArray, List.set_cons_zero, List.set_cons_succ]
            refine wpAnyH_ready (rs := [9]) (by kernel_rfl) (by simp) ?_
            refine AllReadyH.cons rfl (fun K hK => ?_) ?_
            · have v0 := o9.out.cell 0
              have v1 := o9.out.cell 1
              have g0 := o9.out.frozen 0
              have g1 := o9.out.frozen 1
              simp only [List.getElem?_toArray, List.getElem?_cons_zero, List.getElem?_cons_succ] at v0 v1
              go_simp
              refine hK.out _ _ ?_ (fun hHeld => ?_)
              · first | exact B_alloc hpre _ | exact (hHeld.setCell (by first | omega | (simp only; omega) | (simp; omega)) _).setCell (by first | omega | (simp only; omega) | (simp; omega)) _
              clear hK K
              try simp only [Act.put, List.setIfInBounds_toArray, List.set_cons_zero, List.set_cons_succ]
              refine wpAnyH_take2 (i := 10) (t := 5) (v := ?_) rfl rfl (by kernel_rfl) (by kernel_rfl) (by kernel_rfl) (fun _ _ _ h => Only.not_panic h) (Or.inl ⟨by kernel_rfl, fun W hW => ?_⟩) (by assumption) ?_
              rotate_left
              · have hW2 := hW
                obtain ⟨f0, f1, f2, f3, f4, f5, f6, f7⟩ := HS.out W hW2
                clear hW hW2
                go_simp
                try with_reducible rfl
              try simp only [Act.put, List.setIfInBounds_toArray, List.set_cons_zero, List.set_cons_succ]
              refine wpAnyH_done (by kernel_rfl) (Only.mk ?_) _
              go_wp2_with fail
              go_meet
              first | exact ⟨_, rfl, by first | omega | exact Nat.le_refl _, rfl, Ob.new _ _ _, hHeld⟩ | exact ⟨_, rfl, by first | omega | exact Nat.le_refl _, rfl, (o9.out.set 0 _).set 1 _, hHeld⟩
            exact AllReadyH.nil
          exact AllReadyH.nil
        refine AllReadyH.cons rfl (fun K hK => ?_) ?_
        · go_simp
          have hpre := hHeld
          have o9 := Lib.hid (Ob.new (w2) #[.int .i64 0, .int .i64 0] 28)
          have hb9 := hHeld.size
          refine hK.out _ _ ?_ (fun hHeld => ?_)
          · exact B_alloc hHeld _
          clear hK K
          try simp only [Act.put, List.setIfInBounds_toArray, List.set_cons_zero, List.set_cons_succ]
          refine wpAnyH_ready (rs := [4]) (by kernel_rfl) (by simp) ?_
          refine AllReadyH.cons rfl (fun K hK => ?_) ?_
          · go_simp
            refine (J2.out _ (K2'.out.below hHeld).2.1).mono ?_
            rintro ev w4 ⟨rfl, hb4⟩
            try simp only []
            replace o9 := Lib.hid (o9.out.below hb4)
            refine hK.out _ _ ?_ (fun hHeld => ?_)
            · exact B_trans hHeld hb4
            clear hK K
            try simp only [Act.put, List.setIfInBounds_toArray, List.set_cons_zero, List.set_cons_succ]
            refine wpAnyH_take2 (i := 5) (t := 33) (v := ?_) rfl rfl (by kernel_rfl) (by kernel_rfl) (by kernel_rfl) (fun _ _ _ h => Only.not_panic h) (Or.inl ⟨by kernel_rfl, fun W hW => ?_⟩) (by assumption) ?_
            rotate_left
            · have hW2 := hW
              obtain ⟨f0, f1, f2, f3, f4, f5, f6, f7⟩ := HS.out W hW2
              clear hW hW2
              go_simp
              try with_reducible rfl
            try simp only [Act.put, List.setIfInBounds_toArray, List.set_cons_zero, List.set_cons_succ]
            refine wpAnyH_take2 (i := 6) (t := 39) (v := ?_) rfl rfl (by kernel_rfl) (by kernel_rfl) (by kernel_rfl) (fun _ _ _ h => Only.not_panic h) (Or.inl ⟨by kernel_rfl, fun W hW => ?_⟩) (by assumption) ?_
            rotate_left
            · have hW2 := hW
              obtain ⟨f0, f1, f2, f3, f4, f5, f6, f7⟩ := HS.out W hW2
              clear hW hW2
              go_simp
              try with_reducible rfl
            try simp only [Act.put, List.setIfInBounds_toArray, List.set_cons_zero, List.set_cons_succ]
            refine wpAnyH_take2 (i := 7) (t := 40) (v := ?_) rfl rfl (by kernel_rfl) (by kernel_rfl) (by kernel_rfl) (fun _ _ _ h => Only.not_panic h) (Or.inl ⟨by kernel_rfl, fun W hW => ?_⟩) (by assumption) ?_
            rotate_left
            · have hW2 := hW
              obtain ⟨f0, f1, f2, f3, f4, f5, f6, f7⟩ := HS.out W hW2
              clear hW hW2
              go_simp
              try with_reducible rfl
            try simp only [Act.put, List.setIfInBounds_toArray, List.set_cons_zero, List.set_cons_succ]
            refine wpAnyH_ready (rs := [9]) (by kernel_rfl) (by simp) ?_
            refine AllReadyH.cons rfl (fun K hK => ?_) ?_
            · have v0 := o9.out.cell 0
              have v1 := o9.out.cell 1
              have g0 := o9.out.frozen 0
              have g1 := o9.out.frozen 1
              simp only [List.getElem?_toArray, List.getElem?_cons_zero, List.getElem?_cons_succ] at v0 v1
              go_simp
              refine hK.out _ _ ?_ (fun hHeld => ?_)
              · first | exact B_alloc hpre _ | exact (hHeld.setCell (by first | omega | (simp only; omega) | (simp; omega)) _).setCell (by first | omega | (simp only; omega) | (simp; omega)) _
              clear hK K
              try simp only [Act.put, List.setIfInBounds_toArray, List.set_cons_zero, List.set_cons_succ]
              refine wpAnyH_take2 (i := 10) (t := 5) (v := ?_) rfl rfl (by kernel_rfl) (by kernel_rfl) (by kernel_rfl) (fun _ _ _ h => Only.not_panic h) (Or.inl ⟨by kernel_rfl, fun W hW => ?_⟩) (by assumption) ?_
              rotate_left
              · have hW2 := hW
                obtain ⟨f0, f1, f2, f3, f4, f5, f6, f7⟩ := HS.out W hW2
                clear hW hW2
                go_simp
                try with_reducible rfl
              try simp only [Act.put, List.setIfInBounds_toArray, List.set_cons_zero, List.set_cons_succ]
              refine wpAnyH_done (by kernel_rfl) (Only.mk ?_) _
              go_wp2_with fail
              go_meet
              first | exact ⟨_, rfl, by first | omega | exact Nat.le_refl _, rfl, Ob.new _ _ _, hHeld⟩ | exact ⟨_, rfl, by first | omega | exact Nat.le_refl _, rfl, (o9.out.set 0 _).set 1 _, hHeld⟩
            exact AllReadyH.nil
          exact AllReadyH.nil
        exact AllReadyH.nil
      refine AllReadyH.cons rfl (fun K hK => ?_) ?_
      · go_simp
        have hpre := hHeld
        have o9 := Lib.hid (Ob.new (w1) #[.int .i64 0, .int .i64 0] 28)
        have hb9 := hHeld.size
        refine hK.out _ _ ?_ (fun hHeld => ?_)
        · exact B_alloc hHeld _
        clear hK K
        try simp only [Act.put, List.setIfInBounds_toArray, List.set_cons_zero, List.set_cons_succ]
        refine wpAnyH_ready (rs := [2]) (by kernel_rfl) (by simp) ?_
        refine AllReadyH.cons rfl (fun K hK => ?_) ?_
        · go_simp
          refine (HSp.out 0 700 _).mono ?_
          rintro ev w2 ⟨rfl, hb2⟩
          try simp only []
          replace o9 := Lib.hid (o9.out.below hb2)
          refine hK.out _ _ ?_ (fun hHeld => ?_)
          · exact B_trans hHeld hb2
          clear hK K
          try simp only [Act.put, List.setIfInBounds_toArray, List.set_cons_zero, List.set_cons_succ]
          refine wpAnyH_take2 (i := 3) (t := 37) (v := ?_) rfl rfl (by kernel_rfl) (by kernel_rfl) (by kernel_rfl) (fun _ _ _ h => Only.not_panic h) (Or.inl ⟨by kernel_rfl, fun W hW => ?_⟩) (by assumption) ?_
          rotate_left
          · have hW2 := hW
            obtain ⟨f0, f1, f2, f3, f4, f5, f6, f7⟩ := HS.out W hW2
            clear hW hW2
            go_simp
            try with_reducible rfl
          try simp only [Act.put, List.setIfInBounds_toArray, List.set_cons_zero, List.set_cons_succ]
          refine wpAnyH_ready (rs := [4]) (by kernel_rfl) (by simp) ?_
          refine AllReadyH.cons rfl (fun K hK => ?_) ?_
          · go_simp
            refine (J2.out _ (K2'.out.below hHeld).2.1).mono ?_
            rintro ev w4 ⟨rfl, hb4⟩
            try simp only []
            replace o9 := Lib.hid (o9.out.below hb4)
            refine hK.out _ _ ?_ (fun hHeld => ?_)
            · exact B_trans hHeld hb4
            clear hK K
            try simp only [Act.put, List.setIfInBounds_toArray, List.set_cons_zero, List.set_cons_succ]
            refine wpAnyH_take2 (i := 5) (t := 33) (v := ?_) rfl rfl (by kernel_rfl) (by kernel_rfl) (by kernel_rfl) (fun _ _ _ h => Only.not_panic h) (Or.inl ⟨by kernel_rfl, fun W hW => ?_⟩) (by assumption) ?_
            rotate_left
            · have hW2 := hW
              obtain ⟨f0, f1, f2, f3, f4, f5, f6, f7⟩ := HS.out W hW2
              clear hW hW2
              go_simp
              try with_reducible rfl
            try simp only [Act.put, List.setIfInBounds_toArray, List.set_cons_zero, List.set_cons_succ]
            refine wpAnyH_take2 (i := 6) (t := 39) (v := ?_) rfl rfl (by kernel_rfl) (by kernel_rfl) (by kernel_rfl) (fun _ _ _ h => Only.not_panic h) (Or.inl ⟨by kernel_rfl, fun W hW => ?_⟩) (by assumption) ?_
            rotate_left
            · have hW2 := hW
              obtain ⟨f0, f1, f2, f3, f4, f5, f6, f7⟩ := HS.out W hW2
              clear hW hW2
              go_simp
              try with_reducible rfl
            try simp only [Act.put, List.setIfInBounds_toArray, List.set_cons_zero, List.set_cons_succ]
            refine wpAnyH_take2 (i := 7) (t := 40) (v := ?_) rfl rfl (by kernel_rfl) (by kernel_rfl) (by kernel_rfl) (fun _ _ _ h => Only.not_panic h) (Or.inl ⟨by kernel_rfl, fun W hW => ?_⟩) (by assumption) ?_
            rotate_left
            · have hW2 := hW
              obtain ⟨f0, f1, f2, f3, f4, f5, f6, f7⟩ := HS.out W hW2
              clear hW hW2
              go_simp
              try with_reducible rfl
            try simp only [Act.put, List.setIfInBounds_toArray, List.set_cons_zero, List.set_cons_succ]
            refine wpAnyH_ready (rs := [9]) (by kernel_rfl) (by simp) ?_
            refine AllReadyH.cons rfl (fun K hK => ?_) ?_
            · have v0 := o9.out.cell 0
              have v1 := o9.out.cell 1
              have g0 := o9.out.frozen 0
              have g1 := o9.out.frozen 1
              simp only [List.getElem?_toArray, List.getElem?_cons_zero, List.getElem?_cons_succ] at v0 v1
              go_simp
              refine hK.out _ _ ?_ (fun hHeld => ?_)
              · first | exact B_alloc hpre _ | exact (hHeld.setCell (by first | omega | (simp only; omega) | (simp; omega)) _).setCell (by first | omega | (simp only; omega) | (simp; omega)) _
              clear hK K
              try simp only [Act.put, List.setIfInBounds_toArray, List.set_cons_zero, List.set_cons_succ]
              refine wpAnyH_take2 (i := 10) (t := 5) (v := ?_) rfl rfl (by kernel_rfl) (by kernel_rfl) (by kernel_rfl) (fun _ _ _ h => Only.not_panic h) (Or.inl ⟨by kernel_rfl, fun W hW => ?_⟩) (by assumption) ?_
              rotate_left
              · have hW2 := hW
                obtain ⟨f0, f1, f2, f3, f4, f5, f6, f7⟩ := HS.out W hW2
                clear hW hW2
                go_simp
                try with_reducible rfl
              try simp only [Act.put, List.setIfInBounds_toArray, List.set_cons_zero, List.set_cons_succ]
              refine wpAnyH_done (by kernel_rfl) (Only.mk ?_) _
              go_wp2_with fail
              go_meet
              first | exact ⟨_, rfl, by first | omega | exact Nat.le_refl _, rfl, Ob.new _ _ _, hHeld⟩ | exact ⟨_, rfl, by first | omega | exact Nat.le_refl _, rfl, (o9.out.set 0 _).set 1 _, hHeld⟩
            exact AllReadyH.nil
          exact AllReadyH.nil
        exact AllReadyH.nil
      exact AllReadyH.nil
    refine AllReadyH.cons rfl (fun K hK => ?_) ?_
    · go_simp
      have o9 := Lib.hid (show Ob (v2.drew.alloc (.cells #[.int .i64 0, .int .i64 0] 28)) v2.heap.size 28 #[.int .i64 0, .int .i64 0] from Ob.new _ _ _)
      have hpre := hHeld
      refine hK.out _ _ ?_ (fun hHeld => ?_)
      · exact B_alloc hHeld _
      clear hK K
      try simp only [Act.put, List.setIfInBounds_toArray, List.set_cons_zero, List.set_cons_succ]
      refine wpAnyH_ready (rs := [1]) (by kernel_rfl) (by simp) ?_
      refine AllReadyH.cons rfl (fun K hK => ?_) ?_
      · go_simp
        refine (HSp.out 50 500 _).mono ?_
        rintro ev w1 ⟨rfl, hb1⟩
        try simp only []
        replace o9 := Lib.hid (o9.out.below hb1)
        refine hK.out _ _ ?_ (fun hHeld => ?_)
        · exact B_trans hHeld hb1
        clear hK K
        try simp only [Act.put, List.setIfInBounds_toArray, List.set_cons_zero, List.set_cons_succ]
        refine wpAnyH_ready (rs := [2]) (by kernel_rfl) (by simp) ?_
        refine AllReadyH.cons rfl (fun K hK => ?_) ?_
        · go_simp
          refine (HSp.out 0 700 _).mono ?_
          rintro ev w2 ⟨rfl, hb2⟩
          try simp only []
          replace o9 := Lib.hid (o9.out.below hb2)
          refine hK.out _ _ ?_ (fun hHeld => ?_)
          · exact B_trans hHeld hb2
          clear hK K
          try simp only [Act.put, List.setIfInBounds_toArray, List.set_cons_zero, List.set_cons_succ]
          refine wpAnyH_take2 (i := 3) (t := 37) (v := ?_) rfl rfl (by kernel_rfl) (by kernel_rfl) (by kernel_rfl) (fun _ _ _ h => Only.not_panic h) (Or.inl ⟨by kernel_rfl, fun W hW => ?_⟩) (by assumption) ?_
          rotate_left
          · have hW2 := hW
            obtain ⟨f0, f1, f2, f3, f4, f5, f6, f7⟩ := HS.out W hW2
            clear hW hW2
            go_simp
            try with_reducible rfl
          try simp only [Act.put, List.setIfInBounds_toArray, List.set_cons_zero, List.set_cons_succ]
          refine wpAnyH_ready (rs := [4]) (by kernel_rfl) (by simp) ?_
          refine AllReadyH.cons rfl (fun K hK => ?_) ?_
          · go_simp
            refine (J2.out _ (K2'.out.below hHeld).2.1).mono ?_
            rintro ev w4 ⟨rfl, hb4⟩
            try simp only []
            replace o9 := Lib.hid (o9.out.below hb4)
            refine hK.out _ _ ?_ (fun hHeld => ?_)
            · exact B_trans hHeld hb4
            clear hK K
            try simp only [Act.put, List.setIfInBounds_toArray, List.set_cons_zero, List.set_cons_succ]
            refine wpAnyH_take2 (i := 5) (t := 33) (v := ?_) rfl rfl (by kernel_rfl) (by kernel_rfl) (by kernel_rfl) (fun _ _ _ h => Only.not_panic h) (Or.inl ⟨by kernel_rfl, fun W hW => ?_⟩) (by assumption) ?_
            rotate_left
            · have hW2 := hW
              obtain ⟨f0, f1, f2, f3, f4, f5, f6, f7⟩ := HS.out W hW2
              clear hW hW2
              go_simp
              try with_reducible rfl
            try simp only [Act.put, List.setIfInBounds_toArray, List.set_cons_zero, List.set_cons_succ]
            refine wpAnyH_take2 (i := 6) (t := 39) (v := ?_) rfl rfl (by kernel_rfl) (by kernel_rfl) (by kernel_rfl) (fun _ _ _ h => Only.not_panic h) (Or.inl ⟨by kernel_rfl, fun W hW => ?_⟩) (by assumption) ?_
            rotate_left
            · have hW2 := hW
              obtain ⟨f0, f1, f2, f3, f4, f5, f6, f7⟩ := HS.out W hW2
              clear hW hW2
              go_simp
              try with_reducible rfl
            try simp only [Act.put, List.setIfInBounds_toArray, List.set_cons_zero, List.set_cons_succ]
            refine wpAnyH_take2 (i := 7) (t := 40) (v := ?_) rfl rfl (by kernel_rfl) (by kernel_rfl) (by kernel_rfl) (fun _ _ _ h => Only.not_panic h) (Or.inl ⟨by kernel_rfl, fun W hW => ?_⟩) (by assumption) ?_
            rotate_left
            · have hW2 := hW
              obtain ⟨f0, f1, f2, f3, f4, f5, f6, f7⟩ := HS.out W hW2
              clear hW hW2
              go_simp
              try with_reducible rfl
            try simp only [Act.put, List.setIfInBounds_toArray, List.set_cons_zero, List.set_cons_succ]
            refine wpAnyH_ready (rs := [9]) (by kernel_rfl) (by simp) ?_
            refine AllReadyH.cons rfl (fun K hK => ?_) ?_
            · have v0 := o9.out.cell 0
              have v1 := o9.out.cell 1
              have g0 := o9.out.frozen 0
              have g1 := o9.out.frozen 1
              simp only [List.getElem?_toArray, List.getElem?_cons_zero, List.getElem?_cons_succ] at v0 v1
              go_simp
              refine hK.out _ _ ?_ (fun hHeld => ?_)
              · first | exact B_alloc hpre _ | exact (hHeld.setCell (by first | omega | (simp only; omega) | (simp; omega)) _).setCell (by first | omega | (simp only; omega) | (simp; omega)) _
              clear hK K
              try simp only [Act.put, List.setIfInBounds_toArray, List.set_cons_zero, List.set_cons_succ]
              refine wpAnyH_take2 (i := 10) (t := 5) (v := ?_) rfl rfl (by kernel_rfl) (by kernel_rfl) (by kernel_rfl) (fun _ _ _ h => Only.not_panic h) (Or.inl ⟨by kernel_rfl, fun W hW => ?_⟩) (by assumption) ?_
              rotate_left
              · have hW2 := hW
                obtain ⟨f0, f1, f2, f3, f4, f5, f6, f7⟩ := HS.out W hW2
                clear hW hW2
                go_simp
                try with_reducible rfl
              try simp only [Act.put, List.setIfInBounds_toArray, List.set_cons_zero, List.set_cons_succ]
              refine wpAnyH_done (by kernel_rfl) (Only.mk ?_) _
              go_wp2_with fail
              go_meet
              first | exact ⟨_, rfl, by first | omega | exact Nat.le_refl _, rfl, Ob.new _ _ _, hHeld⟩ | exact ⟨_, rfl, by first | omega | exact Nat.le_refl _, rfl, (o9.out.set 0 _).set 1 _, hHeld⟩
            exact AllReadyH.nil
          exact AllReadyH.nil
        exact AllReadyH.nil
      exact AllReadyH.nil
    exact AllReadyH.nil
  case rest =>
  clear HS
  obtain ⟨g3, rfl, -, rfl, oG, hbc⟩ := hcut
  obtain ⟨v3, hv3⟩ : ∃ wz, wz = wc := ⟨_, rfl⟩
  rw [← hv3] at oG hbc ⊢
  clear hv3
  have K3' := Lib.hid (K2'.out.below hbc)
  replace G2 := Lib.hid (G2.out.below hbc)
  have G3 := Lib.hid oG
  clear K2' hbc oG
  go_upto_region 4 with fail
  have HS := Lib.hid (fun (W' : World) (hh : Below v3.heap.size v3 W') => (K3'.out.below hh).eight)
  go_cut [6, 7] (fun va vb wx => ∃ g : Nat, va = .pointer (some ⟨g, 0, none⟩) ∧ v3.heap.size ≤ g ∧ vb = .int .i64 0 ∧ Ob wx g 28 #[.int .i64 1010, .int .i64 1220] ∧ Below v3.heap.size v3 wx)
  case first =>
   as_aux_lemma =>
    refine wp_region_held' (S := fun W' => Below v3.heap.size v3 W') (by kernel_rfl) ((Below.refl _ v3).drew) (fun hHeld => ?_)
    refine wpAnyH_take2 (i := 0) (t := 42) (v := ?_) rfl rfl (by kernel_rfl) (by kernel_rfl) (by kernel_rfl) (fun _ _ _ h => Only.not_panic h) (Or.inl ⟨by kernel_rfl, fun W hW => ?_⟩) (by assumption) ?_
    rotate_left
    · have hW2 := hW
      obtain ⟨f0, f1, f2, f3, f4, f5, f6, f7⟩ := HS.out W hW2
      clear hW hW2
      go_simp
      try with_reducible rfl
    try simp only [Act.put, List.setIfInBounds_toArray, List.set_cons_zero, List.set_cons_succ]
    refine wpAnyH_ready (rs := [1, 7]) (by kernel_rfl) (by simp) ?_
    refine AllReadyH.cons rfl (fun K hK => ?_) ?_
    · go_simp
      refine (HDy.out _).mono ?_
      rintro ev w1 ⟨rfl, hb1⟩
      try simp only []
      refine hK.out _ _ ?_ (fun hHeld => ?_)
      · exact B_trans hHeld hb1
      clear hK K
      try simp only [Act.put, List.setIfInBounds_toArray, List.set_cons_zero, List.set_cons_succ]
      refine wpAnyH_ready (rs := [2, 7]) (by kernel_rfl) (by simp) ?_
      refine AllReadyH.cons rfl (fun K hK => ?_) ?_
      · go_simp
        refine (HSp.out 1000 1200 _).mono ?_
        rintro ev w2 ⟨rfl, hb2⟩
        try simp only []
        refine hK.out _ _ ?_ (fun hHeld => ?_)
        · exact B_trans hHeld hb2
        clear hK K
        try simp only [Act.put, List.setIfInBounds_toArray, List.set_cons_zero, List.set_cons_succ]
        refine wpAnyH_ready (rs := [3, 7]) (by kernel_rfl) (by simp) ?_
        refine AllReadyH.cons rfl (fun K hK => ?_) ?_
        · go_simp
          refine (J3.out _ (K3'.out.below hHeld).2.1).mono ?_
          rintro ev w3 ⟨rfl, hb3⟩
          try simp only []
          refine hK.out _ _ ?_ (fun hHeld => ?_)
          · exact B_trans hHeld hb3
          clear hK K
          try simp only [Act.put, List.setIfInBounds_toArray, List.set_cons_zero, List.set_cons_succ]
          refine wpAnyH_take2 (i := 4) (t := 41) (v := ?_) rfl rfl (by kernel_rfl) (by kernel_rfl) (by kernel_rfl) (fun _ _ _ h => Only.not_panic h) (Or.inl ⟨by kernel_rfl, fun W hW => ?_⟩) (by assumption) ?_
          rotate_left
          · have hW2 := hW
            obtain ⟨f0, f1, f2, f3, f4, f5, f6, f7⟩ := HS.out W hW2
            clear hW hW2
            go_simp
            try with_reducible rfl
          try simp only [Act.put, List.setIfInBounds_toArray, List.set_cons_zero, List.set_cons_succ]
          refine wpAnyH_take2 (i := 5) (t := 46) (v := ?_) rfl rfl (by kernel_rfl) (by kernel_rfl) (by kernel_rfl) (fun _ _ _ h => Only.not_panic h) (Or.inl ⟨by kernel_rfl, fun W hW => ?_⟩) (by assumption) ?_
          rotate_left
          · have hW2 := hW
            obtain ⟨f0, f1, f2, f3, f4, f5, f6, f7⟩ := HS.out W hW2
            clear hW hW2
            go_simp
            try with_reducible rfl
          try simp only [Act.put, List.setIfInBounds_toArray, List.set_cons_zero, List.set_cons_succ]
          refine wpAnyH_take2 (i := 6) (t := 47) (v := ?_) rfl rfl (by kernel_rfl) (by kernel_rfl) (by kernel_rfl) (fun _ _ _ h => Only.not_panic h) (Or.inl ⟨by kernel_rfl, fun W hW => ?_⟩) (by assumption) ?_
          rotate_left
          · have hW2 := hW
            obtain ⟨f0, f1, f2, f3, f4, f5, f6, f7⟩ := HS.out W hW2
            clear hW hW2
            go_simp
            try with_reducible rfl
          try simp only [Act.put, List.setIfInBounds_toArray, List.set_cons_zero, List.set_cons_succ]
          refine wpAnyH_ready (rs := [7]) (by kernel_rfl) (by simp) ?_
          refine AllReadyH.cons rfl (fun K hK => ?_) ?_
          · go_simp
            have hpre := hHeld
            have o9 := Lib.hid (Ob.new (w3) #[.int .i64 0, .int .i64 0] 28)
            have hb9 := hHeld.size
            refine hK.out _ _ ?_ (fun hHeld => ?_)
            · exact B_alloc hHeld _
            clear hK K
            try simp only [Act.put, List.setIfInBounds_toArray, List.set_cons_zero, List.set_cons_succ]
            refine wpAnyH_ready (rs := [8]) (by kernel_rfl) (by simp) ?_
            refine AllReadyH.cons rfl (fun K hK => ?_) ?_
            · have v0 := o9.out.cell 0
              have v1 := o9.out.cell 1
              have g0 := o9.out.frozen 0
              have g1 := o9.out.frozen 1
              simp only [List.getElem?_toArray, List.getElem?_cons_zero, List.getElem?_cons_succ] at v0 v1
              go_simp
              refine hK.out _ _ ?_ (fun hHeld => ?_)
              · first | exact B_alloc hpre _ | exact (hHeld.setCell (by first | omega | (simp only; omega) | (simp; omega)) _).setCell (by first | omega | (simp only; omega) | (simp; omega)) _
              clear hK K
              try simp only [Act.put, List.setIfInBounds_toArray, List.set_cons_zero, List.set_cons_succ]
              refine wpAnyH_take2 (i := 9) (t := 7) (v := ?_) rfl rfl (by kernel_rfl) (by kernel_rfl) (by kernel_rfl) (fun _ _ _ h => Only.not_panic h) (Or.inl ⟨by kernel_rfl, fun W hW => ?_⟩) (by assumption) ?_
              rotate_left
              · have hW2 := hW
                obtain ⟨f0, f1, f2, f3, f4, f5, f6, f7⟩ := HS.out W hW2
                clear hW hW2
                go_simp
                try with_reducible rfl
              try simp only [Act.put, List.setIfInBounds_toArray, List.set_cons_zero, List.set_cons_succ]
              refine wpAnyH_done (by kernel_rfl) (Only.mk ?_) _
              go_wp2_with fail
              go_meet
              first | exact ⟨_, rfl, by first | omega | exact Nat.le_refl _, rfl, Ob.new _ _ _, hHeld⟩ | exact ⟨_, rfl, by first | omega | exact Nat.le_refl _, rfl, (o9.out.set 0 _).set 1 _, hHeld⟩
            exact AllReadyH.nil
          exact AllReadyH.nil
        refine AllReadyH.cons rfl (fun K hK => ?_) ?_
        · go_simp
          have hpre := hHeld
          have o9 := Lib.hid (Ob.new (w2) #[.int .i64 0, .int .i64 0] 28)
          have hb9 := hHeld.size
          refine hK.out _ _ ?_ (fun hHeld => ?_)
          · exact B_alloc hHeld _
          clear hK K
          try simp only [Act.put, List.setIfInBounds_toArray, List.set_cons_zero, List.set_cons_succ]
          refine wpAnyH_ready (rs := [3]) (by kernel_rfl) (by simp) ?_
          refine AllReadyH.cons rfl (fun K hK => ?_) ?_
          · go_simp
            refine (J3.out _ (K3'.out.below hHeld).2.1).mono ?_
            rintro ev w3 ⟨rfl, hb3⟩
            try simp only []
            replace o9 := Lib.hid (o9.out.below hb3)
            refine hK.out _ _ ?_ (fun hHeld => ?_)
            · exact B_trans hHeld hb3
            clear hK K
            try simp only [Act.put, List.setIfInBounds_toArray, List.set_cons_zero, List.set_cons_succ]
            refine wpAnyH_take2 (i := 4) (t := 41) (v := ?_) rfl rfl (by kernel_rfl) (by kernel_rfl) (by kernel_rfl) (fun _ _ _ h => Only.not_panic h) (Or.inl ⟨by kernel_rfl, fun W hW => ?_⟩) (by assumption) ?_
            rotate_left
            · have hW2 := hW
              obtain ⟨f0, f1, f2, f3, f4, f5, f6, f7⟩ := HS.out W hW2
              clear hW hW2
              go_simp
              try with_reducible rfl
            try simp only [Act.put, List.setIfInBounds_toArray, List.set_cons_zero, List.set_cons_succ]
            refine wpAnyH_take2 (i := 5) (t := 46) (v := ?_) rfl rfl (by kernel_rfl) (by kernel_rfl) (by kernel_rfl) (fun _ _ _ h => Only.not_panic h) (Or.inl ⟨by kernel_rfl, fun W hW => ?_⟩) (by assumption) ?_
            rotate_left
            · have hW2 := hW
              obtain ⟨f0, f1, f2, f3, f4, f5, f6, f7⟩ := HS.out W hW2
              clear hW hW2
              go_simp
              try with_reducible rfl
            try simp only [Act.put, List.setIfInBounds_toArray, List.set_cons_zero, List.set_cons_succ]
            refine wpAnyH_take2 (i := 6) (t := 47) (v := ?_) rfl rfl (by kernel_rfl) (by kernel_rfl) (by kernel_rfl) (fun _ _ _ h => Only.not_panic h) (Or.inl ⟨by kernel_rfl, fun W hW => ?_⟩) (by assumption) ?_
            rotate_left
            · have hW2 := hW
              obtain ⟨f0, f1, f2, f3, f4, f5, f6, f7⟩ := HS.out W hW2
              clear hW hW2
              go_simp
              try with_reducible rfl
            try simp only [Act.put, List.setIfInBounds_toArray, List.set_cons_zero, List.set_cons_succ]
            refine wpAnyH_ready (rs := [8]) (by kernel_rfl) (by simp) ?_
            refine AllReadyH.cons rfl (fun K hK => ?_) ?_
            · have v0 := o9.out.cell 0
              have v1 := o9.out.cell 1
              have g0 := o9.out.frozen 0
              have g1 := o9.out.frozen 1
              simp only [List.getElem?_toArray, List.getElem?_cons_zero, List.getElem?_cons_succ] at v0 v1
              go_simp
              refine hK.out _ _ ?_ (fun hHeld => ?_)
              · first | exact B_alloc hpre _ | exact (hHeld.setCell (by first | omega | (simp only; omega) | (simp; omega)) _).setCell (by first | omega | (simp only; omega) | (simp; omega)) _
              clear hK K
              try simp only [Act.put, List.setIfInBounds_toArray, List.set_cons_zero, List.set_cons_succ]
              refine wpAnyH_take2 (i := 9) (t := 7) (v := ?_) rfl rfl (by kernel_rfl) (by kernel_rfl) (by kernel_rfl) (fun _ _ _ h => Only.not_panic h) (Or.inl ⟨by kernel_rfl, fun W hW => ?_⟩) (by assumption) ?_
              rotate_left
              · have hW2 := hW
                obtain ⟨f0, f1, f2, f3, f4, f5, f6, f7⟩ := HS.out W hW2
                clear hW hW2
                go_simp
                try with_reducible rfl
              try simp only [Act.put, List.setIfInBounds_toArray, List.set_cons_zero, List.set_cons_succ]
              refine wpAnyH_done (by kernel_rfl) (Only.mk ?_) _
              go_wp2_with fail
              go_meet
              first | exact ⟨_, rfl, by first | omega | exact Nat.le_refl _, rfl, Ob.new _ _ _, hHeld⟩ | exact ⟨_, rfl, by first | omega | exact Nat.le_refl _, rfl, (o9.out.set 0 _).set 1 _, hHeld⟩
            exact AllReadyH.nil
          exact AllReadyH.nil
        exact AllReadyH.nil
      refine AllReadyH.cons rfl (fun K hK => ?_) ?_
      · go_simp
        have hpre := hHeld
        have o9 := Lib.hid (Ob.new (w1) #[.int .i64 0, .int .i64 0] 28)
        have hb9 := hHeld.size
        refine hK.out _ _ ?_ (fun hHeld => ?_)
        · exact B_alloc hHeld _
        clear hK K
        try simp only [Act.put, List.setIfInBounds_toArray, List.set_cons_zero, List.set_cons_succ]
        refine wpAnyH_ready (rs := [2]) (by kernel_rfl) (by simp) ?_
        refine AllReadyH.cons rfl (fun K hK => ?_) ?_
        · go_simp
          refine (HSp.out 1000 1200 _).mono ?_
          rintro ev w2 ⟨rfl, hb2⟩
          try simp only []
          replace o9 := Lib.hid (o9.out.below hb2)
          refine hK.out _ _ ?_ (fun hHeld => ?_)
          · exact B_trans hHeld hb2
          clear hK K
          try simp only [Act.put, List.setIfInBounds_toArray, List.set_cons_zero, List.set_cons_succ]
          refine wpAnyH_ready (rs := [3]) (by kernel_rfl) (by simp) ?_
          refine AllReadyH.cons rfl (fun K hK => ?_) ?_
          · go_simp
            refine (J3.out _ (K3'.out.below hHeld).2.1).mono ?_
            rintro ev w3 ⟨rfl, hb3⟩
            try simp only []
            replace o9 := Lib.hid (o9.out.below hb3)
            refine hK.out _ _ ?_ (fun hHeld => ?_)
            · exact B_trans hHeld hb3
            clear hK K
            try simp only [Act.put, List.setIfInBounds_toArray, List.set_cons_zero, List.set_cons_succ]
            refine wpAnyH_take2 (i := 4) (t := 41) (v := ?_) rfl rfl (by kernel_rfl) (by kernel_rfl) (by kernel_rfl) (fun _ _ _ h => Only.not_panic h) (Or.inl ⟨by kernel_rfl, fun W hW => ?_⟩) (by assumption) ?_
            rotate_left
            · have hW2 := hW
              obtain ⟨f0, f1, f2, f3, f4, f5, f6, f7⟩ := HS.out W hW2
              clear hW hW2
              go_simp
              try with_reducible rfl
            try simp only [Act.put, List.setIfInBounds_toArray, List.set_cons_zero, List.set_cons_succ]
            refine wpAnyH_take2 (i := 5) (t := 46) (v := ?_) rfl rfl (by kernel_rfl) (by kernel_rfl) (by kernel_rfl) (fun _ _ _ h => Only.not_panic h) (Or.inl ⟨by kernel_rfl, fun W hW => ?_⟩) (by assumption) ?_
            rotate_left
            · have hW2 := hW
              obtain ⟨f0, f1, f2, f3, f4, f5, f6, f7⟩ := HS.out W hW2
              clear hW hW2
              go_simp
              try with_reducible rfl
            try simp only [Act.put, List.setIfInBounds_toArray, List.set_cons_zero, List.set_cons_succ]
            refine wpAnyH_take2 (i := 6) (t := 47) (v := ?_) rfl rfl (by kernel_rfl) (by kernel_rfl) (by kernel_rfl) (fun _ _ _ h => Only.not_panic h) (Or.inl ⟨by kernel_rfl, fun W hW => ?_⟩) (by assumption) ?_
            rotate_left
            · have hW2 := hW
              obtain ⟨f0, f1, f2, f3, f4, f5, f6, f7⟩ := HS.out W hW2
              clear hW hW2
              go_simp
              try with_reducible rfl
            try simp only [Act.put, List.setIfInBounds_toArray, List.set_cons_zero, List.set_cons_succ]
            refine wpAnyH_ready (rs := [8]) (by kernel_rfl) (by simp) ?_
            refine AllReadyH.cons rfl (fun K hK => ?_) ?_
            · have v0 := o9.out.cell 0
              have v1 := o9.out.cell 1
              have g0 := o9.out.frozen 0
              have g1 := o9.out.frozen 1
              simp only [List.getElem?_toArray, List.getElem?_cons_zero, List.getElem?_cons_succ] at v0 v1
              go_simp
              refine hK.out _ _ ?_ (fun hHeld => ?_)
              · first | exact B_alloc hpre _ | exact (hHeld.setCell (by first | omega | (simp only; omega) | (simp; omega)) _).setCell (by first | omega | (simp only; omega) | (simp; omega)) _
              clear hK K
              try simp only [Act.put, List.setIfInBounds_toArray, List.set_cons_zero, List.set_cons_succ]
              refine wpAnyH_take2 (i := 9) (t := 7) (v := ?_) rfl rfl (by kernel_rfl) (by kernel_rfl) (by kernel_rfl) (fun _ _ _ h => Only.not_panic h) (Or.inl ⟨by kernel_rfl, fun W hW => ?_⟩) (by assumption) ?_
              rotate_left
              · have hW2 := hW
                obtain ⟨f0, f1, f2, f3, f4, f5, f6, f7⟩ := HS.out W hW2
                clear hW hW2
                go_simp
                try with_reducible rfl
              try simp only [Act.put, List.setIfInBounds_toArray, List.set_cons_zero, List.set_cons_succ]
              refine wpAnyH_done (by kernel_rfl) (Only.mk ?_) _
              go_wp2_with fail
              go_meet
              first | exact ⟨_, rfl, by first | omega | exact Nat.le_refl _, rfl, Ob.new _ _ _, hHeld⟩ | exact ⟨_, rfl, by first | omega | exact Nat.le_refl _, rfl, (o9.out.set 0 _).set 1 _, hHeld⟩
            exact AllReadyH.nil
          exact AllReadyH.nil
        exact AllReadyH.nil
      exact AllReadyH.nil
    refine AllReadyH.cons rfl (fun K hK => ?_) ?_
    · go_simp
      have o9 := Lib.hid (show Ob (v3.drew.alloc (.cells #[.int .i64 0, .int .i64 0] 28)) v3.heap.size 28 #[.int .i64 0, .int .i64 0] from Ob.new _ _ _)
      have hpre := hHeld
      refine hK.out _ _ ?_ (fun hHeld => ?_)
      · exact B_alloc hHeld _
      clear hK K
      try simp only [Act.put, List.setIfInBounds_toArray, List.set_cons_zero, List.set_cons_succ]
      refine wpAnyH_ready (rs := [1]) (by kernel_rfl) (by simp) ?_
      refine AllReadyH.cons rfl (fun K hK => ?_) ?_
      · go_simp
        refine (HDy.out _).mono ?_
        rintro ev w1 ⟨rfl, hb1⟩
        try simp only []
        replace o9 := Lib.hid (o9.out.below hb1)
        refine hK.out _ _ ?_ (fun hHeld => ?_)
        · exact B_trans hHeld hb1
        clear hK K
        try simp only [Act.put, List.setIfInBounds_toArray, List.set_cons_zero, List.set_cons_succ]
        refine wpAnyH_ready (rs := [2]) (by kernel_rfl) (by simp) ?_
        refine AllReadyH.cons rfl (fun K hK => ?_) ?_
        · go_simp
          refine (HSp.out 1000 1200 _).mono ?_
          rintro ev w2 ⟨rfl, hb2⟩
          try simp only []
          replace o9 := Lib.hid (o9.out.below hb2)
          refine hK.out _ _ ?_ (fun hHeld => ?_)
          · exact B_trans hHeld hb2
          clear hK K
          try simp only [Act.put, List.setIfInBounds_toArray, List.set_cons_zero, List.set_cons_succ]
          refine wpAnyH_ready (rs := [3]) (by kernel_rfl) (by simp) ?_
          refine AllReadyH.cons rfl (fun K hK => ?_) ?_
          · go_simp
            refine (J3.out _ (K3'.out.below hHeld).2.1).mono ?_
            rintro ev w3 ⟨rfl, hb3⟩
            try simp only []
            replace o9 := Lib.hid (o9.out.below hb3)
            refine hK.out _ _ ?_ (fun hHeld => ?_)
            · exact B_trans hHeld hb3
            clear hK K
            try simp only [Act.put, List.setIfInBounds_toArray, List.set_cons_zero, List.set_cons_succ]
            refine wpAnyH_take2 (i := 4) (t := 41) (v := ?_) rfl rfl (by kernel_rfl) (by kernel_rfl) (by kernel_rfl) (fun _ _ _ h => Only.not_panic h) (Or.inl ⟨by kernel_rfl, fun W hW => ?_⟩) (by assumption) ?_
            rotate_left
            · have hW2 := hW
              obtain ⟨f0, f1, f2, f3, f4, f5, f6, f7⟩ := HS.out W hW2
              clear hW hW2
              go_simp
              try with_reducible rfl
            try simp only [Act.put, List.setIfInBounds_toArray, List.set_cons_zero, List.set_cons_succ]
            refine wpAnyH_take2 (i := 5) (t := 46) (v := ?_) rfl rfl (by kernel_rfl) (by kernel_rfl) (by kernel_rfl) (fun _ _ _ h => Only.not_panic h) (Or.inl ⟨by kernel_rfl, fun W hW => ?_⟩) (by assumption) ?_
            rotate_left
            · have hW2 := hW
              obtain ⟨f0, f1, f2, f3, f4, f5, f6, f7⟩ := HS.out W hW2
              clear hW hW2
              go_simp
              try with_reducible rfl
            try simp only [Act.put, List.setIfInBounds_toArray, List.set_cons_zero, List.set_cons_succ]
            refine wpAnyH_take2 (i := 6) (t := 47) (v := ?_) rfl rfl (by kernel_rfl) (by kernel_rfl) (by kernel_rfl) (fun _ _ _ h => Only.not_panic h) (Or.inl ⟨by kernel_rfl, fun W hW => ?_⟩) (by assumption) ?_
            rotate_left
            · have hW2 := hW
              obtain ⟨f0, f1, f2, f3, f4, f5, f6, f7⟩ := HS.out W hW2
              clear hW hW2
              go_simp
              try with_reducible rfl
            try simp only [Act.put, List.setIfInBounds_toArray, List.set_cons_zero, List.set_cons_succ]
            refine wpAnyH_ready (rs := [8]) (by kernel_rfl) (by simp) ?_
            refine AllReadyH.cons rfl (fun K hK => ?_) ?_
            · have v0 := o9.out.cell 0
              have v1 := o9.out.cell 1
              have g0 := o9.out.frozen 0
              have g1 := o9.out.frozen 1
              simp only [List.getElem?_toArray, List.getElem?_cons_zero, List.getElem?_cons_succ] at v0 v1
              go_simp
              refine hK.out _ _ ?_ (fun hHeld => ?_)
              · first | exact B_alloc hpre _ | exact (hHeld.setCell (by first | omega | (simp only; omega) | (simp; omega)) _).setCell (by first | omega | (simp only; omega) | (simp; omega)) _
              clear hK K
              try simp only [Act.put, List.setIfInBounds_toArray, List.set_cons_zero, List.set_cons_succ]
              refine wpAnyH_take2 (i := 9) (t := 7) (v := ?_) rfl rfl (by kernel_rfl) (by kernel_rfl) (by kernel_rfl) (fun _ _ _ h => Only.not_panic h) (Or.inl ⟨by kernel_rfl, fun W hW => ?_⟩) (by assumption) ?_
              rotate_left
              · have hW2 := hW
                obtain ⟨f0, f1, f2, f3, f4, f5, f6, f7⟩ := HS.out W hW2
                clear hW hW2
                go_simp
                try with_reducible rfl
              try simp only [Act.put, List.setIfInBounds_toArray, List.set_cons_zero, List.set_cons_succ]
              refine wpAnyH_done (by kernel_rfl) (Only.mk ?_) _
              go_wp2_with fail
              go_meet
              first | exact ⟨_, rfl, by first | omega | exact Nat.le_refl _, rfl, Ob.new _ _ _, hHeld⟩ | exact ⟨_, rfl, by first | omega | exact Nat.le_refl _, rfl, (o9.out.set 0 _).set 1 _, hHeld⟩
            exact AllReadyH.nil
          exact AllReadyH.nil
        exact AllReadyH.nil
      exact AllReadyH.nil
    exact AllReadyH.nil
  case rest =>
  clear HS
  obtain ⟨g4, rfl, -, rfl, oG, hbc⟩ := hcut
  obtain ⟨v4, hv4⟩ : ∃ wz, wz = wc := ⟨_, rfl⟩
  rw [← hv4] at oG hbc ⊢
  clear hv4
  have K4' := Lib.hid (K3'.out.below hbc)
  replace G2 := Lib.hid (G2.out.below hbc)
  replace G3 := Lib.hid (G3.out.below hbc)
  have G4 := Lib.hid oG
  clear K3' hbc oG
  go_upto_region 5 with fail
  have HS := Lib.hid (fun (W' : World) (hh : Below v4.heap.size v4 W') => (K4'.out.below hh).eight)
  go_cut [8, 9] (fun va vb wx => ∃ g : Nat, va = .pointer (some ⟨g, 0, none⟩) ∧ v4.heap.size ≤ g ∧ vb = .int .i64 0 ∧ Ob wx g 28 #[.int .i64 1000000, .int .i64 1000000] ∧ Below v4.heap.size v4 wx)
  case first =>
   as_aux_lemma =>
    refine wp_region_held' (S := fun W' => Below v4.heap.size v4 W') (by kernel_rfl) ((Below.refl _ v4).drew) (fun hHeld => ?_)
    refine wpAnyH_take2 (i := 0) (t := 49) (v := ?_) rfl rfl (by kernel_rfl) (by kernel_rfl) (by kernel_rfl) (fun _ _ _ h => Only.not_panic h) (Or.inl ⟨by kernel_rfl, fun W hW => ?_⟩) (by assumption) ?_
    rotate_left
    · have hW2 := hW
      obtain ⟨f0, f1, f2, f3, f4, f5, f6, f7⟩ := HS.out W hW2
      clear hW hW2
      go_simp
      try with_reducible rfl
    try simp only [Act.put, List.setIfInBounds_toArray, List.set_cons_zero, List.set_cons_succ]
    refine wpAnyH_ready (rs := [1, 7]) (by kernel_rfl) (by simp) ?_
    refine AllReadyH.cons rfl (fun K hK => ?_) ?_
    · go_simp
      refine (HDy.out _).mono ?_
      rintro ev w1 ⟨rfl, hb1⟩
      try simp only []
      refine hK.out _ _ ?_ (fun hHeld => ?_)
      · exact B_trans hHeld hb1
      clear hK K
      try simp only [Act.put, List.setIfInBounds_toArray, List.set_cons_zero, List.set_cons_succ]
      refine wpAnyH_ready (rs := [2, 7]) (by kernel_rfl) (by simp) ?_
      refine AllReadyH.cons rfl (fun K hK => ?_) ?_
      · go_simp
        refine (HSp.out 1000000 1000000 _).mono ?_
        rintro ev w2 ⟨rfl, hb2⟩
        try simp only []
        refine hK.out _ _ ?_ (fun hHeld => ?_)
        · exact B_trans hHeld hb2
        clear hK K
        try simp only [Act.put, List.setIfInBounds_toArray, List.set_cons_zero, List.set_cons_succ]
        refine wpAnyH_ready (rs := [3, 7]) (by kernel_rfl) (by simp) ?_
        refine AllReadyH.cons rfl (fun K hK => ?_) ?_
        · go_simp
          refine (J4.out _ (K4'.out.below hHeld).2.1).mono ?_
          rintro ev w3 ⟨rfl, hb3⟩
          try simp only []
          refine hK.out _ _ ?_ (fun hHeld => ?_)
          · exact B_trans hHeld hb3
          clear hK K
          try simp only [Act.put, List.setIfInBounds_toArray, List.set_cons_zero, List.set_cons_succ]
          refine wpAnyH_take2 (i := 4) (t := 48) (v := ?_) rfl rfl (by kernel_rfl) (by kernel_rfl) (by kernel_rfl) (fun _ _ _ h => Only.not_panic h) (Or.inl ⟨by kernel_rfl, fun W hW => ?_⟩) (by assumption) ?_
          rotate_left
          · have hW2 := hW
            obtain ⟨f0, f1, f2, f3, f4, f5, f6, f7⟩ := HS.out W hW2
            clear hW hW2
            go_simp
            try with_reducible rfl
          try simp only [Act.put, List.setIfInBounds_toArray, List.set_cons_zero, List.set_cons_succ]
          refine wpAnyH_take2 (i := 5) (t := 53) (v := ?_) rfl rfl (by kernel_rfl) (by kernel_rfl) (by kernel_rfl) (fun _ _ _ h => Only.not_panic h) (Or.inl ⟨by kernel_rfl, fun W hW => ?_⟩) (by assumption) ?_
          rotate_left
          · have hW2 := hW
            obtain ⟨f0, f1, f2, f3, f4, f5, f6, f7⟩ := HS.out W hW2
            clear hW hW2
            go_simp
            try with_reducible rfl
          try simp only [Act.put, List.setIfInBounds_toArray, List.set_cons_zero, List.set_cons_succ]
          refine wpAnyH_take2 (i := 6) (t := 54) (v := ?_) rfl rfl (by kernel_rfl) (by kernel_rfl) (by kernel_rfl) (fun _ _ _ h => Only.not_panic h) (Or.inl ⟨by kernel_rfl, fun W hW => ?_⟩) (by assumption) ?_
          rotate_left
          · have hW2 := hW
            obtain ⟨f0, f1, f2, f3, f4, f5, f6, f7⟩ := HS.out W hW2
            clear hW hW2
            go_simp
            try with_reducible rfl
          try simp only [Act.put, List.setIfInBounds_toArray, List.set_cons_zero, List.set_cons_succ]
          refine wpAnyH_ready (rs := [7]) (by kernel_rfl) (by simp) ?_
          refine AllReadyH.cons rfl (fun K hK => ?_) ?_
          · go_simp
            have hpre := hHeld
            have o9 := Lib.hid (Ob.new (w3) #[.int .i64 0, .int .i64 0] 28)
            have hb9 := hHeld.size
            refine hK.out _ _ ?_ (fun hHeld => ?_)
            · exact B_alloc hHeld _
            clear hK K
            try simp only [Act.put, List.setIfInBounds_toArray, List.set_cons_zero, List.set_cons_succ]
            refine wpAnyH_ready (rs := [8]) (by kernel_rfl) (by simp) ?_
            refine AllReadyH.cons rfl (fun K hK => ?_) ?_
            · have v0 := o9.out.cell 0
              have v1 := o9.out.cell 1
              have g0 := o9.out.frozen 0
              have g1 := o9.out.frozen 1
              simp only [List.getElem?_toArray, List.getElem?_cons_zero, List.getElem?_cons_succ] at v0 v1
              go_simp
              refine hK.out _ _ ?_ (fun hHeld => ?_)
              · first | exact B_alloc hpre _ | exact (hHeld.setCell (by first | omega | (simp only; omega) | (simp; omega)) _).setCell (by first | omega | (simp only; omega) | (simp; omega)) _
              clear hK K
              try simp only [Act.put, List.setIfInBounds_toArray, List.set_cons_zero, List.set_cons_succ]
              refine wpAnyH_take2 (i := 9) (t := 9) (v := ?_) rfl rfl (by kernel_rfl) (by kernel_rfl) (by kernel_rfl) (fun _ _ _ h => Only.not_panic h) (Or.inl ⟨by kernel_rfl, fun W hW => ?_⟩) (by assumption) ?_
              rotate_left
              · have hW2 := hW
                obtain ⟨f0, f1, f2, f3, f4, f5, f6, f7⟩ := HS.out W hW2
                clear hW hW2
                go_simp
                try with_reducible rfl
              try simp only [Act.put, List.setIfInBounds_toArray, List.set_cons_zero, List.set_cons_succ]
              refine wpAnyH_done (by kernel_rfl) (Only.mk ?_) _
              go_wp2_with fail
              go_meet
              first | exact ⟨_, rfl, by first | omega | exact Nat.le_refl _, rfl, Ob.new _ _ _, hHeld⟩ | exact ⟨_, rfl, by first | omega | exact Nat.le_refl _, rfl, (o9.out.set 0 _).set 1 _, hHeld⟩
            exact AllReadyH.nil
          exact AllReadyH.nil
        refine AllReadyH.cons rfl (fun K hK => ?_) ?_
        · go_simp
          have hpre := hHeld
          have o9 := Lib.hid (Ob.new (w2) #[.int .i64 0, .int .i64 0] 28)
          have hb9 := hHeld.size
          refine hK.out _ _ ?_ (fun hHeld => ?_)
          · exact B_alloc hHeld _
          clear hK K
          try simp only [Act.put, List.setIfInBounds_toArray, List.set_cons_zero, List.set_cons_succ]
          refine wpAnyH_ready (rs := [3]) (by kernel_rfl) (by simp) ?_
          refine AllReadyH.cons rfl (fun K hK => ?_) ?_
          · go_simp
            refine (J4.out _ (K4'.out.below hHeld).2.1).mono ?_
            rintro ev w3 ⟨rfl, hb3⟩
            try simp only []
            replace o9 := Lib.hid (o9.out.below hb3)
            refine hK.out _ _ ?_ (fun hHeld => ?_)
            · exact B_trans hHeld hb3
            clear hK K
            try simp only [Act.put, List.setIfInBounds_toArray, List.set_cons_zero, List.set_cons_succ]
            refine wpAnyH_take2 (i := 4) (t := 48) (v := ?_) rfl rfl (by kernel_rfl) (by kernel_rfl) (by kernel_rfl) (fun _ _ _ h => Only.not_panic h) (Or.inl ⟨by kernel_rfl, fun W hW => ?_⟩) (by assumption) ?_
            rotate_left
            · have hW2 := hW
              obtain ⟨f0, f1, f2, f3, f4, f5, f6, f7⟩ := HS.out W hW2
              clear hW hW2
              go_simp
              try with_reducible rfl
            try simp only [Act.put, List.setIfInBounds_toArray, List.set_cons_zero, List.set_cons_succ]
            refine wpAnyH_take2 (i := 5) (t := 53) (v := ?_) rfl rfl (by kernel_rfl) (by kernel_rfl) (by kernel_rfl) (fun _ _ _ h => Only.not_panic h) (Or.inl ⟨by kernel_rfl, fun W hW => ?_⟩) (by assumption) ?_
            rotate_left
            · have hW2 := hW
              obtain ⟨f0, f1, f2, f3, f4, f5, f6, f7⟩ := HS.out W hW2
              clear hW hW2
              go_simp
              try with_reducible rfl
            try simp only [Act.put, List.setIfInBounds_toArray, List.set_cons_zero, List.set_cons_succ]
            refine wpAnyH_take2 (i := 6) (t := 54) (v := ?_) rfl rfl (by kernel_rfl) (by kernel_rfl) (by kernel_rfl) (fun _ _ _ h => Only.not_panic h) (Or.inl ⟨by kernel_rfl, fun W hW => ?_⟩) (by assumption) ?_
            rotate_left
            · have hW2 := hW
              obtain ⟨f0, f1, f2, f3, f4, f5, f6, f7⟩ := HS.out W hW2
              clear hW hW2
              go_simp
              try with_reducible rfl
            try simp only [Act.put, List.setIfInBounds_toArray, List.set_cons_zero, List.set_cons_succ]
            refine wpAnyH_ready (rs := [8]) (by kernel_rfl) (by simp) ?_
            refine AllReadyH.cons rfl (fun K hK => ?_) ?_
            · have v0 := o9.out.cell 0
              have v1 := o9.out.cell 1
              have g0 := o9.out.frozen 0
              have g1 := o9.out.frozen 1
              simp only [List.getElem?_toArray, List.getElem?_cons_zero, List.getElem?_cons_succ] at v0 v1
              go_simp
              refine hK.out _ _ ?_ (fun hHeld => ?_)
              · first | exact B_alloc hpre _ | exact (hHeld.setCell (by first | omega | (simp only; omega) | (simp; omega)) _).setCell (by first | omega | (simp only; omega) | (simp; omega)) _
              clear hK K
              try simp only [Act.put, List.setIfInBounds_toArray, List.set_cons_zero, List.set_cons_succ]
              refine wpAnyH_take2 (i := 9) (t := 9) (v := ?_) rfl rfl (by kernel_rfl) (by kernel_rfl) (by kernel_rfl) (fun _ _ _ h => Only.not_panic h) (Or.inl ⟨by kernel_rfl, fun W hW => ?_⟩) (by assumption) ?_
              rotate_left
              · have hW2 := hW
                obtain ⟨f0, f1, f2, f3, f4, f5, f6, f7⟩ := HS.out W hW2
                clear hW hW2
                go_simp
                try with_reducible rfl
              try simp only [Act.put, List.setIfInBounds_toArray, List.set_cons_zero, List.set_cons_succ]
              refine wpAnyH_done (by kernel_rfl) (Only.mk ?_) _
              go_wp2_with fail
              go_meet
              first | exact ⟨_, rfl, by first | omega | exact Nat.le_refl _, rfl, Ob.new _ _ _, hHeld⟩ | exact ⟨_, rfl, by first | omega | exact Nat.le_refl _, rfl, (o9.out.set 0 _).set 1 _, hHeld⟩
            exact AllReadyH.nil
          exact AllReadyH.nil
        exact AllReadyH.nil
      refine AllReadyH.cons rfl (fun K hK => ?_) ?_
      · go_simp
        have hpre := hHeld
        have o9 := Lib.hid (Ob.new (w1) #[.int .i64 0, .int .i64 0] 28)
        have hb9 := hHeld.size
        refine hK.out _ _ ?_ (fun hHeld => ?_)
        · exact B_alloc hHeld _
        clear hK K
        try simp only [Act.put, List.setIfInBounds_toArray, List.set_cons_zero, List.set_cons_succ]
        refine wpAnyH_ready (rs := [2]) (by kernel_rfl) (by simp) ?_
        refine AllReadyH.cons rfl (fun K hK => ?_) ?_
        · go_simp
          refine (HSp.out 1000000 1000000 _).mono ?_
          rintro ev w2 ⟨rfl, hb2⟩
          try simp only []
          replace o9 := Lib.hid (o9.out.below hb2)
          refine hK.out _ _ ?_ (fun hHeld => ?_)
          · exact B_trans hHeld hb2
          clear hK K
          try simp only [Act.put, List.setIfInBounds_toArray, List.set_cons_zero, List.set_cons_succ]
          refine wpAnyH_ready (rs := [3]) (by kernel_rfl) (by simp) ?_
          refine AllReadyH.cons rfl (fun K hK => ?_) ?_
          · go_simp
            refine (J4.out _ (K4'.out.below hHeld).2.1).mono ?_
            rintro ev w3 ⟨rfl, hb3⟩
            try simp only []
            replace o9 := Lib.hid (o9.out.below hb3)
            refine hK.out _ _ ?_ (fun hHeld => ?_)
            · exact B_trans hHeld hb3
            clear hK K
            try simp only [Act.put, List.setIfInBounds_toArray, List.set_cons_zero, List.set_cons_succ]
            refine wpAnyH_take2 (i := 4) (t := 48) (v := ?_) rfl rfl (by kernel_rfl) (by kernel_rfl) (by kernel_rfl) (fun _ _ _ h => Only.not_panic h) (Or.inl ⟨by kernel_rfl, fun W hW => ?_⟩) (by assumption) ?_
            rotate_left
            · have hW2 := hW
              obtain ⟨f0, f1, f2, f3, f4, f5, f6, f7⟩ := HS.out W hW2
              clear hW hW2
              go_simp
              try with_reducible rfl
            try simp only [Act.put, List.setIfInBounds_toArray, List.set_cons_zero, List.set_cons_succ]
            refine wpAnyH_take2 (i := 5) (t := 53) (v := ?_) rfl rfl (by kernel_rfl) (by kernel_rfl) (by kernel_rfl) (fun _ _ _ h => Only.not_panic h) (Or.inl ⟨by kernel_rfl, fun W hW => ?_⟩) (by assumption) ?_
            rotate_left
            · have hW2 := hW
              obtain ⟨f0, f1, f2, f3, f4, f5, f6, f7⟩ := HS.out W hW2
              clear hW hW2
              go_simp
              try with_reducible rfl
            try simp only [Act.put, List.setIfInBounds_toArray, List.set_cons_zero, List.set_cons_succ]
            refine wpAnyH_take2 (i := 6) (t := 54) (v := ?_) rfl rfl (by kernel_rfl) (by kernel_rfl) (by kernel_rfl) (fun _ _ _ h => Only.not_panic h) (Or.inl ⟨by kernel_rfl, fun W hW => ?_⟩) (by assumption) ?_
            rotate_left
            · have hW2 := hW
              obtain ⟨f0, f1, f2, f3, f4, f5, f6, f7⟩ := HS.out W hW2
              clear hW hW2
              go_simp
              try with_reducible rfl
            try simp only [Act.put, List.setIfInBounds_toArray, List.set_cons_zero, List.set_cons_succ]
            refine wpAnyH_ready (rs := [8]) (by kernel_rfl) (by simp) ?_
            refine AllReadyH.cons rfl (fun K hK => ?_) ?_
            · have v0 := o9.out.cell 0
              have v1 := o9.out.cell 1
              have g0 := o9.out.frozen 0
              have g1 := o9.out.frozen 1
              simp only [List.getElem?_toArray, List.getElem?_cons_zero, List.getElem?_cons_succ] at v0 v1
              go_simp
              refine hK.out _ _ ?_ (fun hHeld => ?_)
              · first | exact B_alloc hpre _ | exact (hHeld.setCell (by first | omega | (simp only; omega) | (simp; omega)) _).setCell (by first | omega | (simp only; omega) | (simp; omega)) _
              clear hK K
              try simp only [Act.put, List.setIfInBounds_toArray, List.set_cons_zero, List.set_cons_succ]
              refine wpAnyH_take2 (i := 9) (t := 9) (v := ?_) rfl rfl (by kernel_rfl) (by kernel_rfl) (by kernel_rfl) (fun _ _ _ h => Only.not_panic h) (Or.inl ⟨by kernel_rfl, fun W hW => ?_⟩) (by assumption) ?_
              rotate_left
              · have hW2 := hW
                obtain ⟨f0, f1, f2, f3, f4, f5, f6, f7⟩ := HS.out W hW2
                clear hW hW2
                go_simp
                try with_reducible rfl
              try simp only [Act.put, List.setIfInBounds_toArray, List.set_cons_zero, List.set_cons_succ]
              refine wpAnyH_done (by kernel_rfl) (Only.mk ?_) _
              go_wp2_with fail
              go_meet
              first | exact ⟨_, rfl, by first | omega | exact Nat.le_refl _, rfl, Ob.new _ _ _, hHeld⟩ | exact ⟨_, rfl, by first | omega | exact Nat.le_refl _, rfl, (o9.out.set 0 _).set 1 _, hHeld⟩
            exact AllReadyH.nil
          exact AllReadyH.nil
        exact AllReadyH.nil
      exact AllReadyH.nil
    refine AllReadyH.cons rfl (fun K hK => ?_) ?_
    · go_simp
      have o9 := Lib.hid (show Ob (v4.drew.alloc (.cells #[.int .i64 0, .int .i64 0] 28)) v4.heap.size 28 #[.int .i64 0, .int .i64 0] from Ob.new _ _ _)
      have hpre := hHeld
      refine hK.out _ _ ?_ (fun hHeld => ?_)
      · exact B_alloc hHeld _
      clear hK K
      try simp only [Act.put, List.setIfInBounds_toArray, List.set_cons_zero, List.set_cons_succ]
      refine wpAnyH_ready (rs := [1]) (by kernel_rfl) (by simp) ?_
      refine AllReadyH.cons rfl (fun K hK => ?_) ?_
      · go_simp
        refine (HDy.out _).mono ?_
        rintro ev w1 ⟨rfl, hb1⟩
        try simp only []
        replace o9 := Lib.hid (o9.out.below hb1)
        refine hK.out _ _ ?_ (fun hHeld => ?_)
        · exact B_trans hHeld hb1
        clear hK K
        try simp only [Act.put, List.setIfInBounds_toArray, List.set_cons_zero, List.set_cons_succ]
        refine wpAnyH_ready (rs := [2]) (by kernel_rfl) (by simp) ?_
        refine AllReadyH.cons rfl (fun K hK => ?_) ?_
        · go_simp
          refine (HSp.out 1000000 1000000 _).mono ?_
          rintro ev w2 ⟨rfl, hb2⟩
          try simp only []
          replace o9 := Lib.hid (o9.out.below hb2)
          refine hK.out _ _ ?_ (fun hHeld => ?_)
          · exact B_trans hHeld hb2
          clear hK K
          try simp only [Act.put, List.setIfInBounds_toArray, List.set_cons_zero, List.set_cons_succ]
          refine wpAnyH_ready (rs := [3]) (by kernel_rfl) (by simp) ?_
          refine AllReadyH.cons rfl (fun K hK => ?_) ?_
          · go_simp
            refine (J4.out _ (K4'.out.below hHeld).2.1).mono ?_
            rintro ev w3 ⟨rfl, hb3⟩
            try simp only []
            replace o9 := Lib.hid (o9.out.below hb3)
            refine hK.out _ _ ?_ (fun hHeld => ?_)
            · exact B_trans hHeld hb3
            clear hK K
            try simp only [Act.put, List.setIfInBounds_toArray, List.set_cons_zero, List.set_cons_succ]
            refine wpAnyH_take2 (i := 4) (t := 48) (v := ?_) rfl rfl (by kernel_rfl) (by kernel_rfl) (by kernel_rfl) (fun _ _ _ h => Only.not_panic h) (Or.inl ⟨by kernel_rfl, fun W hW => ?_⟩) (by assumption) ?_
            rotate_left
            · have hW2 := hW
              obtain ⟨f0, f1, f2, f3, f4, f5, f6, f7⟩ := HS.out W hW2
              clear hW hW2
              go_simp
              try with_reducible rfl
            try simp only [Act.put, List.setIfInBounds_toArray, List.set_cons_zero, List.set_cons_succ]
            refine wpAnyH_take2 (i := 5) (t := 53) (v := ?_) rfl rfl (by kernel_rfl) (by kernel_rfl) (by kernel_rfl) (fun _ _ _ h => Only.not_panic h) (Or.inl ⟨by kernel_rfl, fun W hW => ?_⟩) (by assumption) ?_
            rotate_left
            · have hW2 := hW
              obtain ⟨f0, f1, f2, f3, f4, f5, f6, f7⟩ := HS.out W hW2
              clear hW hW2
              go_simp
              try with_reducible rfl
            try simp only [Act.put, List.setIfInBounds_toArray, List.set_cons_zero, List.set_cons_succ]
            refine wpAnyH_take2 (i := 6) (t := 54) (v := ?_) rfl rfl (by kernel_rfl) (by kernel_rfl) (by kernel_rfl) (fun _ _ _ h => Only.not_panic h) (Or.inl ⟨by kernel_rfl, fun W hW => ?_⟩) (by assumption) ?_
            rotate_left
            · have hW2 := hW
              obtain ⟨f0, f1, f2, f3, f4, f5, f6, f7⟩ := HS.out W hW2
              clear hW hW2
              go_simp
              try with_reducible rfl
            try simp only [Act.put, List.setIfInBounds_toArray, List.set_cons_zero, List.set_cons_succ]
            refine wpAnyH_ready (rs := [8]) (by kernel_rfl) (by simp) ?_
            refine AllReadyH.cons rfl (fun K hK => ?_) ?_
            · have v0 := o9.out.cell 0
              have v1 := o9.out.cell 1
              have g0 := o9.out.frozen 0
              have g1 := o9.out.frozen 1
              simp only [List.getElem?_toArray, List.getElem?_cons_zero, List.getElem?_cons_succ] at v0 v1
              go_simp
              refine hK.out _ _ ?_ (fun hHeld => ?_)
              · first | exact B_alloc hpre _ | exact (hHeld.setCell (by first | omega | (simp only; omega) | (simp; omega)) _).setCell (by first | omega | (simp only; omega) | (simp; omega)) _
              clear hK K
              try simp only [Act.put, List.setIfInBounds_toArray, List.set_cons_zero, List.set_cons_succ]
              refine wpAnyH_take2 (i := 9) (t := 9) (v := ?_) rfl rfl (by kernel_rfl) (by kernel_rfl) (by kernel_rfl) (fun _ _ _ h => Only.not_panic h) (Or.inl ⟨by kernel_rfl, fun W hW => ?_⟩) (by assumption) ?_
              rotate_left
              · have hW2 := hW
                obtain ⟨f0, f1, f2, f3, f4, f5, f6, f7⟩ := HS.out W hW2
                clear hW hW2
                go_simp
                try with_reducible rfl
              try simp only [Act.put, List.setIfInBounds_toArray, List.set_cons_zero, List.set_cons_succ]
              refine wpAnyH_done (by kernel_rfl) (Only.mk ?_) _
              go_wp2_with fail
              go_meet
              first | exact ⟨_, rfl, by first | omega | exact Nat.le_refl _, rfl, Ob.new _ _ _, hHeld⟩ | exact ⟨_, rfl, by first | omega | exact Nat.le_refl _, rfl, (o9.out.set 0 _).set 1 _, hHeld⟩
            exact AllReadyH.nil
          exact AllReadyH.nil
        exact AllReadyH.nil
      exact AllReadyH.nil
    exact AllReadyH.nil
  case rest =>
  clear HS
  obtain ⟨g5, rfl, -, rfl, oG, hbc⟩ := hcut
  obtain ⟨v5, hv5⟩ : ∃ wz, wz = wc := ⟨_, rfl⟩
  rw [← hv5] at oG hbc ⊢
  clear hv5
  have K5' := Lib.hid (K4'.out.below hbc)
  replace G2 := Lib.hid (G2.out.below hbc)
  replace G3 := Lib.hid (G3.out.below hbc)
  replace G4 := Lib.hid (G4.out.below hbc)
  have G5 := Lib.hid oG
  clear K4' hbc oG
  go_upto_region 6 with fail
  have HS := Lib.hid (fun (W' : World) (hh : Below v5.heap.size v5 W') => And.intro (G2.out.below hh).span (And.intro (G3.out.below hh).span (And.intro (G4.out.below hh).span (G5.out.below hh).span)))
  go_cut [88] (fun vv wx => vv = .bool false ∧ Below v5.heap.size v5 wx)
  case first =>
   as_aux_lemma =>
    refine wp_region_held' (S := fun W' => Below v5.heap.size v5 W') (by kernel_rfl) ((Below.refl _ v5).drew) (fun hHeld => ?_)
    refine wpAnyH_take2 (i := 0) (t := 55) (v := ?_) rfl rfl (by kernel_rfl) (by kernel_rfl) (by kernel_rfl) (fun _ _ _ h => Only.not_panic h) (Or.inl ⟨by kernel_rfl, fun W hW => ?_⟩) (by assumption) ?_
    rotate_left
    · have hW2 := hW
      obtain ⟨⟨p0, p1, -, -⟩, ⟨p2, p3, -, -⟩, ⟨p4, p5, -, -⟩, p6, p7, -, -⟩ := HS.out W hW2
      clear hW hW2
      go_simp
      try with_reducible rfl
    try simp only [Act.put, List.setIfInBounds_toArray, List.set_cons_zero, List.set_cons_succ]
    refine wpAnyH_take2 (i := 1) (t := 56) (v := .bool false) rfl rfl (by kernel_rfl) (by kernel_rfl) (by kernel_rfl) (fun _ _ _ h => Only.not_panic h) (Or.inl ⟨by kernel_rfl, fun W hW => ?_⟩) (by assumption) ?_
    · have hW2 := hW
      obtain ⟨⟨p0, p1, -, -⟩, ⟨p2, p3, -, -⟩, ⟨p4, p5, -, -⟩, p6, p7, -, -⟩ := HS.out W hW2
      clear hW hW2
      go_simp
      try with_reducible rfl
    try simp only [Act.put, List.setIfInBounds_toArray, List.set_cons_zero, List.set_cons_succ]
    refine wpAnyH_take2 (i := 2) (t := 57) (v := ?_) rfl rfl (by kernel_rfl) (by kernel_rfl) (by kernel_rfl) (fun _ _ _ h => Only.not_panic h) (Or.inl ⟨by kernel_rfl, fun W hW => ?_⟩) (by assumption) ?_
    rotate_left
    · have hW2 := hW
      obtain ⟨⟨p0, p1, -, -⟩, ⟨p2, p3, -, -⟩, ⟨p4, p5, -, -⟩, p6, p7, -, -⟩ := HS.out W hW2
      clear hW hW2
      go_simp
      try with_reducible rfl
    try simp only [Act.put, List.setIfInBounds_toArray, List.set_cons_zero, List.set_cons_succ]
    refine wpAnyH_take2 (i := 3) (t := 58) (v := ?_) rfl rfl (by kernel_rfl) (by kernel_rfl) (by kernel_rfl) (fun _ _ _ h => Only.not_panic h) (Or.inl ⟨by kernel_rfl, fun W hW => ?_⟩) (by assumption) ?_
    rotate_left
    · have hW2 := hW
      obtain ⟨⟨p0, p1, -, -⟩, ⟨p2, p3, -, -⟩, ⟨p4, p5, -, -⟩, p6, p7, -, -⟩ := HS.out W hW2
      clear hW hW2
      go_simp
      try with_reducible rfl
    try simp only [Act.put, List.setIfInBounds_toArray, List.set_cons_zero, List.set_cons_succ]
    refine wpAnyH_take2 (i := 4) (t := 59) (v := .bool false) rfl rfl (by kernel_rfl) (by kernel_rfl) (by kernel_rfl) (fun _ _ _ h => Only.not_panic h) (Or.inl ⟨by kernel_rfl, fun W hW => ?_⟩) (by assumption) ?_
    · have hW2 := hW
      obtain ⟨⟨p0, p1, -, -⟩, ⟨p2, p3, -, -⟩, ⟨p4, p5, -, -⟩, p6, p7, -, -⟩ := HS.out W hW2
      clear hW hW2
      go_simp
      try with_reducible rfl
    try simp only [Act.put, List.setIfInBounds_toArray, List.set_cons_zero, List.set_cons_succ]
    refine wpAnyH_take2 (i := 5) (t := 60) (v := .bool false) rfl rfl (by kernel_rfl) (by kernel_rfl) (by kernel_rfl) (fun _ _ _ h => Only.not_panic h) (Or.inl ⟨by kernel_rfl, fun W hW => ?_⟩) (by assumption) ?_
    · have hW2 := hW
      obtain ⟨⟨p0, p1, -, -⟩, ⟨p2, p3, -, -⟩, ⟨p4, p5, -, -⟩, p6, p7, -, -⟩ := HS.out W hW2
      clear hW hW2
      go_simp
      try with_reducible rfl
    try simp only [Act.put, List.setIfInBounds_toArray, List.set_cons_zero, List.set_cons_succ]
    refine wpAnyH_take2 (i := 6) (t := 61) (v := ?_) rfl rfl (by kernel_rfl) (by kernel_rfl) (by kernel_rfl) (fun _ _ _ h => Only.not_panic h) (Or.inl ⟨by kernel_rfl, fun W hW => ?_⟩) (by assumption) ?_
    rotate_left
    · have hW2 := hW
      obtain ⟨⟨p0, p1, -, -⟩, ⟨p2, p3, -, -⟩, ⟨p4, p5, -, -⟩, p6, p7, -, -⟩ := HS.out W hW2
      clear hW hW2
      go_simp
      try with_reducible rfl
    try simp only [Act.put, List.setIfInBounds_toArray, List.set_cons_zero, List.set_cons_succ]
    refine wpAnyH_take2 (i := 7) (t := 62) (v := ?_) rfl rfl (by kernel_rfl) (by kernel_rfl) (by kernel_rfl) (fun _ _ _ h => Only.not_panic h) (Or.inl ⟨by kernel_rfl, fun W hW => ?_⟩) (by assumption) ?_
    rotate_left
    · have hW2 := hW
      obtain ⟨⟨p0, p1, -, -⟩, ⟨p2, p3, -, -⟩, ⟨p4, p5, -, -⟩, p6, p7, -, -⟩ := HS.out W hW2
      clear hW hW2
      go_simp
      try with_reducible rfl
    try simp only [Act.put, List.setIfInBounds_toArray, List.set_cons_zero, List.set_cons_succ]
    refine wpAnyH_take2 (i := 8) (t := 63) (v := .bool false) rfl rfl (by kernel_rfl) (by kernel_rfl) (by kernel_rfl) (fun _ _ _ h => Only.not_panic h) (Or.inl ⟨by kernel_rfl, fun W hW => ?_⟩) (by assumption) ?_
    · have hW2 := hW
      obtain ⟨⟨p0, p1, -, -⟩, ⟨p2, p3, -, -⟩, ⟨p4, p5, -, -⟩, p6, p7, -, -⟩ := HS.out W hW2
      clear hW hW2
      go_simp
      try with_reducible rfl
    try simp only [Act.put, List.setIfInBounds_toArray, List.set_cons_zero, List.set_cons_succ]
    refine wpAnyH_take2 (i := 9) (t := 64) (v := .bool false) rfl rfl (by kernel_rfl) (by kernel_rfl) (by kernel_rfl) (fun _ _ _ h => Only.not_panic h) (Or.inl ⟨by kernel_rfl, fun W hW => ?_⟩) (by assumption) ?_
    · have hW2 := hW
      obtain ⟨⟨p0, p1, -, -⟩, ⟨p2, p3, -, -⟩, ⟨p4, p5, -, -⟩, p6, p7, -, -⟩ := HS.out W hW2
      clear hW hW2
      go_simp
      try with_reducible rfl
    try simp only [Act.put, List.setIfInBounds_toArray, List.set_cons_zero, List.set_cons_succ]
    refine wpAnyH_take2 (i := 10) (t := 65) (v := ?_) rfl rfl (by kernel_rfl) (by kernel_rfl) (by kernel_rfl) (fun _ _ _ h => Only.not_panic h) (Or.inl ⟨by kernel_rfl, fun W hW => ?_⟩) (by assumption) ?_
    rotate_left
    · have hW2 := hW
      obtain ⟨⟨p0, p1, -, -⟩, ⟨p2, p3, -, -⟩, ⟨p4, p5, -, -⟩, p6, p7, -, -⟩ := HS.out W hW2
      clear hW hW2
      go_simp
      try with_reducible rfl
    try simp only [Act.put, List.setIfInBounds_toArray, List.set_cons_zero, List.set_cons_succ]
    refine wpAnyH_take2 (i := 11) (t := 66) (v := ?_) rfl rfl (by kernel_rfl) (by kernel_rfl) (by kernel_rfl) (fun _ _ _ h => Only.not_panic h) (Or.inl ⟨by kernel_rfl, fun W hW => ?_⟩) (by assumption) ?_
    rotate_left
    · have hW2 := hW
      obtain ⟨⟨p0, p1, -, -⟩, ⟨p2, p3, -, -⟩, ⟨p4, p5, -, -⟩, p6, p7, -, -⟩ := HS.out W hW2
      clear hW hW2
      go_simp
      try with_reducible rfl
    try simp only [Act.put, List.setIfInBounds_toArray, List.set_cons_zero, List.set_cons_succ]
    refine wpAnyH_take2 (i := 12) (t := 67) (v := .bool false) rfl rfl (by kernel_rfl) (by kernel_rfl) (by kernel_rfl) (fun _ _ _ h => Only.not_panic h) (Or.inl ⟨by kernel_rfl, fun W hW => ?_⟩) (by assumption) ?_
    · have hW2 := hW
      obtain ⟨⟨p0, p1, -, -⟩, ⟨p2, p3, -, -⟩, ⟨p4, p5, -, -⟩, p6, p7, -, -⟩ := HS.out W hW2
      clear hW hW2
      go_simp
      try with_reducible rfl
    try simp only [Act.put, List.setIfInBounds_toArray, List.set_cons_zero, List.set_cons_succ]
    refine wpAnyH_take2 (i := 13) (t := 68) (v := .bool false) rfl rfl (by kernel_rfl) (by kernel_rfl) (by kernel_rfl) (fun _ _ _ h => Only.not_panic h) (Or.inl ⟨by kernel_rfl, fun W hW => ?_⟩) (by assumption) ?_
    · have hW2 := hW
      obtain ⟨⟨p0, p1, -, -⟩, ⟨p2, p3, -, -⟩, ⟨p4, p5, -, -⟩, p6, p7, -, -⟩ := HS.out W hW2
      clear hW hW2
      go_simp
      try with_reducible rfl
    try simp only [Act.put, List.setIfInBounds_toArray, List.set_cons_zero, List.set_cons_succ]
    refine wpAnyH_take2 (i := 14) (t := 69) (v := ?_) rfl rfl (by kernel_rfl) (by kernel_rfl) (by kernel_rfl) (fun _ _ _ h => Only.not_panic h) (Or.inl ⟨by kernel_rfl, fun W hW => ?_⟩) (by assumption) ?_
    rotate_left
    · have hW2 := hW
      obtain ⟨⟨p0, p1, -, -⟩, ⟨p2, p3, -, -⟩, ⟨p4, p5, -, -⟩, p6, p7, -, -⟩ := HS.out W hW2
      clear hW hW2
      go_simp
      try with_reducible rfl
    try simp only [Act.put, List.setIfInBounds_toArray, List.set_cons_zero, List.set_cons_succ]
    refine wpAnyH_take2 (i := 15) (t := 70) (v := ?_) rfl rfl (by kernel_rfl) (by kernel_rfl) (by kernel_rfl) (fun _ _ _ h => Only.not_panic h) (Or.inl ⟨by kernel_rfl, fun W hW => ?_⟩) (by assumption) ?_
    rotate_left
    · have hW2 := hW
      obtain ⟨⟨p0, p1, -, -⟩, ⟨p2, p3, -, -⟩, ⟨p4, p5, -, -⟩, p6, p7, -, -⟩ := HS.out W hW2
      clear hW hW2
      go_simp
      try with_reducible rfl
    try simp only [Act.put, List.setIfInBounds_toArray, List.set_cons_zero, List.set_cons_succ]
    refine wpAnyH_ready (rs := [16]) (by kernel_rfl) (by simp) ?_
    refine AllReadyH.cons_want rfl (by kernel_rfl) (fun K hK => ?_) ?_
    · go_simp
      refine (span_any (180) (320) _).mono ?_
      rintro ev w16 ⟨rfl, hb16⟩
      try simp only []
      refine hK.out _ _ ?_ (fun hHeld => ?_)
      · exact B_trans hHeld hb16
      clear hK K
      try simp only [Act.put, List.setIfInBounds_toArray, List.set_cons_zero, List.set_cons_succ]
      refine wpAnyH_take2 (i := 17) (t := 72) (v := .bool false) rfl rfl (by kernel_rfl) (by kernel_rfl) (by kernel_rfl) (fun _ _ _ h => Only.not_panic h) (Or.inl ⟨by kernel_rfl, fun W hW => ?_⟩) (by assumption) ?_
      · have hW2 := hW
        obtain ⟨⟨p0, p1, -, -⟩, ⟨p2, p3, -, -⟩, ⟨p4, p5, -, -⟩, p6, p7, -, -⟩ := HS.out W hW2
        clear hW hW2
        go_simp
        try with_reducible rfl
      try simp only [Act.put, List.setIfInBounds_toArray, List.set_cons_zero, List.set_cons_succ]
      refine wpAnyH_take2 (i := 18) (t := 73) (v := .bool false) rfl rfl (by kernel_rfl) (by kernel_rfl) (by kernel_rfl) (fun _ _ _ h => Only.not_panic h) (Or.inl ⟨by kernel_rfl, fun W hW => ?_⟩) (by assumption) ?_
      · have hW2 := hW
        obtain ⟨⟨p0, p1, -, -⟩, ⟨p2, p3, -, -⟩, ⟨p4, p5, -, -⟩, p6, p7, -, -⟩ := HS.out W hW2
        clear hW hW2
        go_simp
        try with_reducible rfl
      try simp only [Act.put, List.setIfInBounds_toArray, List.set_cons_zero, List.set_cons_succ]
      refine wpAnyH_take2 (i := 19) (t := 74) (v := ?_) rfl rfl (by kernel_rfl) (by kernel_rfl) (by kernel_rfl) (fun _ _ _ h => Only.not_panic h) (Or.inl ⟨by kernel_rfl, fun W hW => ?_⟩) (by assumption) ?_
      rotate_left
      · have hW2 := hW
        obtain ⟨⟨p0, p1, -, -⟩, ⟨p2, p3, -, -⟩, ⟨p4, p5, -, -⟩, p6, p7, -, -⟩ := HS.out W hW2
        clear hW hW2
        go_simp
        try with_reducible rfl
      try simp only [Act.put, List.setIfInBounds_toArray, List.set_cons_zero, List.set_cons_succ]
      refine wpAnyH_take2 (i := 20) (t := 75) (v := ?_) rfl rfl (by kernel_rfl) (by kernel_rfl) (by kernel_rfl) (fun _ _ _ h => Only.not_panic h) (Or.inl ⟨by kernel_rfl, fun W hW => ?_⟩) (by assumption) ?_
      rotate_left
      · have hW2 := hW
        obtain ⟨⟨p0, p1, -, -⟩, ⟨p2, p3, -, -⟩, ⟨p4, p5, -, -⟩, p6, p7, -, -⟩ := HS.out W hW2
        clear hW hW2
        go_simp
        try with_reducible rfl
      try simp only [Act.put, List.setIfInBounds_toArray, List.set_cons_zero, List.set_cons_succ]
      refine wpAnyH_ready (rs := [21]) (by kernel_rfl) (by simp) ?_
      refine AllReadyH.cons_want rfl (by kernel_rfl) (fun K hK => ?_) ?_
      · go_simp
        refine (span_any (20) (1000) _).mono ?_
        rintro ev w21 ⟨rfl, hb21⟩
        try simp only []
        refine hK.out _ _ ?_ (fun hHeld => ?_)
        · exact B_trans hHeld hb21
        clear hK K
        try simp only [Act.put, List.setIfInBounds_toArray, List.set_cons_zero, List.set_cons_succ]
        refine wpAnyH_take2 (i := 22) (t := 77) (v := .bool false) rfl rfl (by kernel_rfl) (by kernel_rfl) (by kernel_rfl) (fun _ _ _ h => Only.not_panic h) (Or.inl ⟨by kernel_rfl, fun W hW => ?_⟩) (by assumption) ?_
        · have hW2 := hW
          obtain ⟨⟨p0, p1, -, -⟩, ⟨p2, p3, -, -⟩, ⟨p4, p5, -, -⟩, p6, p7, -, -⟩ := HS.out W hW2
          clear hW hW2
          go_simp
          try with_reducible rfl
        try simp only [Act.put, List.setIfInBounds_toArray, List.set_cons_zero, List.set_cons_succ]
        refine wpAnyH_take2 (i := 23) (t := 78) (v := .bool false) rfl rfl (by kernel_rfl) (by kernel_rfl) (by kernel_rfl) (fun _ _ _ h => Only.not_panic h) (Or.inl ⟨by kernel_rfl, fun W hW => ?_⟩) (by assumption) ?_
        · have hW2 := hW
          obtain ⟨⟨p0, p1, -, -⟩, ⟨p2, p3, -, -⟩, ⟨p4, p5, -, -⟩, p6, p7, -, -⟩ := HS.out W hW2
          clear hW hW2
          go_simp
          try with_reducible rfl
        try simp only [Act.put, List.setIfInBounds_toArray, List.set_cons_zero, List.set_cons_succ]
        refine wpAnyH_take2 (i := 24) (t := 79) (v := ?_) rfl rfl (by kernel_rfl) (by kernel_rfl) (by kernel_rfl) (fun _ _ _ h => Only.not_panic h) (Or.inl ⟨by kernel_rfl, fun W hW => ?_⟩) (by assumption) ?_
        rotate_left
        · have hW2 := hW
          obtain ⟨⟨p0, p1, -, -⟩, ⟨p2, p3, -, -⟩, ⟨p4, p5, -, -⟩, p6, p7, -, -⟩ := HS.out W hW2
          clear hW hW2
          go_simp
          try with_reducible rfl
        try simp only [Act.put, List.setIfInBounds_toArray, List.set_cons_zero, List.set_cons_succ]
        refine wpAnyH_take2 (i := 25) (t := 80) (v := ?_) rfl rfl (by kernel_rfl) (by kernel_rfl) (by kernel_rfl) (fun _ _ _ h => Only.not_panic h) (Or.inl ⟨by kernel_rfl, fun W hW => ?_⟩) (by assumption) ?_
        rotate_left
        · have hW2 := hW
          obtain ⟨⟨p0, p1, -, -⟩, ⟨p2, p3, -, -⟩, ⟨p4, p5, -, -⟩, p6, p7, -, -⟩ := HS.out W hW2
          clear hW hW2
          go_simp
          try with_reducible rfl
        try simp only [Act.put, List.setIfInBounds_toArray, List.set_cons_zero, List.set_cons_succ]
        refine wpAnyH_ready (rs := [26]) (by kernel_rfl) (by simp) ?_
        refine AllReadyH.cons_want rfl (by kernel_rfl) (fun K hK => ?_) ?_
        · go_simp
          refine (span_any (1010) (1220) _).mono ?_
          rintro ev w26 ⟨rfl, hb26⟩
          try simp only []
          refine hK.out _ _ ?_ (fun hHeld => ?_)
          · exact B_trans hHeld hb26
          clear hK K
          try simp only [Act.put, List.setIfInBounds_toArray, List.set_cons_zero, List.set_cons_succ]
          refine wpAnyH_take2 (i := 27) (t := 82) (v := .bool false) rfl rfl (by kernel_rfl) (by kernel_rfl) (by kernel_rfl) (fun _ _ _ h => Only.not_panic h) (Or.inl ⟨by kernel_rfl, fun W hW => ?_⟩) (by assumption) ?_
          · have hW2 := hW
            obtain ⟨⟨p0, p1, -, -⟩, ⟨p2, p3, -, -⟩, ⟨p4, p5, -, -⟩, p6, p7, -, -⟩ := HS.out W hW2
            clear hW hW2
            go_simp
            try with_reducible rfl
          try simp only [Act.put, List.setIfInBounds_toArray, List.set_cons_zero, List.set_cons_succ]
          refine wpAnyH_take2 (i := 28) (t := 83) (v := .bool false) rfl rfl (by kernel_rfl) (by kernel_rfl) (by kernel_rfl) (fun _ _ _ h => Only.not_panic h) (Or.inl ⟨by kernel_rfl, fun W hW => ?_⟩) (by assumption) ?_
          · have hW2 := hW
            obtain ⟨⟨p0, p1, -, -⟩, ⟨p2, p3, -, -⟩, ⟨p4, p5, -, -⟩, p6, p7, -, -⟩ := HS.out W hW2
            clear hW hW2
            go_simp
            try with_reducible rfl
          try simp only [Act.put, List.setIfInBounds_toArray, List.set_cons_zero, List.set_cons_succ]
          refine wpAnyH_take2 (i := 29) (t := 84) (v := ?_) rfl rfl (by kernel_rfl) (by kernel_rfl) (by kernel_rfl) (fun _ _ _ h => Only.not_panic h) (Or.inl ⟨by kernel_rfl, fun W hW => ?_⟩) (by assumption) ?_
          rotate_left
          · have hW2 := hW
            obtain ⟨⟨p0, p1, -, -⟩, ⟨p2, p3, -, -⟩, ⟨p4, p5, -, -⟩, p6, p7, -, -⟩ := HS.out W hW2
            clear hW hW2
            go_simp
            try with_reducible rfl
          try simp only [Act.put, List.setIfInBounds_toArray, List.set_cons_zero, List.set_cons_succ]
          refine wpAnyH_take2 (i := 30) (t := 85) (v := ?_) rfl rfl (by kernel_rfl) (by kernel_rfl) (by kernel_rfl) (fun _ _ _ h => Only.not_panic h) (Or.inl ⟨by kernel_rfl, fun W hW => ?_⟩) (by assumption) ?_
          rotate_left
          · have hW2 := hW
            obtain ⟨⟨p0, p1, -, -⟩, ⟨p2, p3, -, -⟩, ⟨p4, p5, -, -⟩, p6, p7, -, -⟩ := HS.out W hW2
            clear hW hW2
            go_simp
            try with_reducible rfl
          try simp only [Act.put, List.setIfInBounds_toArray, List.set_cons_zero, List.set_cons_succ]
          refine wpAnyH_ready (rs := [31]) (by kernel_rfl) (by simp) ?_
          refine AllReadyH.cons_want rfl (by kernel_rfl) (fun K hK => ?_) ?_
          · go_simp
            refine (span_any (1000000) (1000000) _).mono ?_
            rintro ev w31 ⟨rfl, hb31⟩
            try simp only []
            refine hK.out _ _ ?_ (fun hHeld => ?_)
            · exact B_trans hHeld hb31
            clear hK K
            try simp only [Act.put, List.setIfInBounds_toArray, List.set_cons_zero, List.set_cons_succ]
            refine wpAnyH_take2 (i := 32) (t := 87) (v := .bool false) rfl rfl (by kernel_rfl) (by kernel_rfl) (by kernel_rfl) (fun _ _ _ h => Only.not_panic h) (Or.inl ⟨by kernel_rfl, fun W hW => ?_⟩) (by assumption) ?_
            · have hW2 := hW
              obtain ⟨⟨p0, p1, -, -⟩, ⟨p2, p3, -, -⟩, ⟨p4, p5, -, -⟩, p6, p7, -, -⟩ := HS.out W hW2
              clear hW hW2
              go_simp
              try with_reducible rfl
            try simp only [Act.put, List.setIfInBounds_toArray, List.set_cons_zero, List.set_cons_succ]
            refine wpAnyH_take2 (i := 33) (t := 88) (v := .bool false) rfl rfl (by kernel_rfl) (by kernel_rfl) (by kernel_rfl) (fun _ _ _ h => Only.not_panic h) (Or.inl ⟨by kernel_rfl, fun W hW => ?_⟩) (by assumption) ?_
            · have hW2 := hW
              obtain ⟨⟨p0, p1, -, -⟩, ⟨p2, p3, -, -⟩, ⟨p4, p5, -, -⟩, p6, p7, -, -⟩ := HS.out W hW2
              clear hW hW2
              go_simp
              try with_reducible rfl
            try simp only [Act.put, List.setIfInBounds_toArray, List.set_cons_zero, List.set_cons_succ]
            refine wpAnyH_done (by kernel_rfl) (Only.mk ?_) _
            go_wp2_with fail
            go_meet
            exact ⟨rfl, hHeld⟩
          exact AllReadyH.nil
        exact AllReadyH.nil
      exact AllReadyH.nil
    exact AllReadyH.nil
  case rest =>
  clear HS G2 G3 G4 G5
  obtain ⟨rfl, hbc⟩ := hcut
  have K6 := Lib.hid (K5'.out.below hbc)
  clear hbc K5'
  obtain ⟨w7, hw7⟩ : ∃ w7, (wc.alloc (.cells #[.int .i64 999, .int .i64 1000, .int .i64 20000] 3)).alloc (.cells #[.int .i64 0, .int .i64 1, .int .i64 3] 3) = w7 := ⟨_, rfl⟩
  have hb7 : Below wc.heap.size wc w7 := by rw [← hw7]; exact B_alloc (B_alloc (Below.refl _ _) _) _
  have oA : Ob w7 wc.heap.size 3 #[.int .i64 999, .int .i64 1000, .int .i64 20000] := by rw [← hw7]; exact (Ob.new _ _ _).alloc _
  have oB : Ob w7 (wc.heap.size + 1) 3 #[.int .i64 0, .int .i64 1, .int .i64 3] := by
    rw [← hw7]
    have h := Ob.new (wc.alloc (.cells #[.int .i64 999, .int .i64 1000, .int .i64 20000] 3)) #[.int .i64 0, .int .i64 1, .int .i64 3] 3
    simpa using h
  have K7 := Lib.hid (K6.out.below hb7)
  have O7 : Hid (∀ i, i < 3 → w7.cell? ⟨wc.heap.size, i, none⟩ = some (.int .i64 (lvK i)) ∧ w7.cell? ⟨wc.heap.size + 1, i, none⟩ = some (.int .i64 (grK i))) := fun i hi => by
    rcases (show i = 0 ∨ i = 1 ∨ i = 2 by omega) with rfl | rfl | rfl
    · exact ⟨oA.cell 0, oB.cell 0⟩
    · exact ⟨oA.cell 1, oB.cell 1⟩
    · exact ⟨oA.cell 2, oB.cell 2⟩
  have L7 := Lib.hid (And.intro oA.lt oB.lt)
  have W7 := Lib.hid hw7
  clear hb7 oA oB hw7 K6
  go_upto_region 9 with fail
  rw [W7.out]
  go_wp2_with fail
  go_loopg [12, 13, 14] 3 (fun gk iv x13 x14 wr => ∃ i : Nat, gk = 3 - i ∧ iv = .int .i64 (i : Int) ∧ i ≤ 3 ∧ Below w7.heap.size w7 wr)
  case atStart => exact ⟨0, rfl, rfl, by omega, Below.refl _ _⟩
  case round =>
    obtain ⟨i, rfl, rfl, hi, hbr⟩ := hrel
    by_cases hlt : i < 3
    · have i0 : (0 : Int) ≤ (i : Int) := by omega
      have i1 : (i : Int) < 3 := by omega
      have HS := Lib.hid (fun (W' : World) (hh : Below wr.heap.size wr W') => And.intro ((K7.out.below (B_trans hbr hh)).eight) (And.intro (((B_trans hbr hh).cell (p := ⟨wc.heap.size, i, none⟩) L7.out.1).trans (O7.out i hlt).1) (((B_trans hbr hh).cell (p := ⟨wc.heap.size + 1, i, none⟩) L7.out.2).trans (O7.out i hlt).2)))
      have HG' := fun W (h : RuR W r hs0 ws0) => grade_any r hs0 ws0 (lvK i) W h
      rw [E5.out i hlt] at HG'
      simp only at HG'
      have HG := Lib.hid (fun (W' : World) (hh : Below wr.heap.size wr W') => HG' W' (K7.out.below (B_trans hbr hh)).2.1)
      generalize lvK i = lv at HS HG
      generalize grK i = gr at HS HG
      have BR := Lib.hid hbr
      clear hbr HG'
      go_upto_region 12 with fail
      go_cut [13, 14] (fun va vb wx => va = .int .i64 gr ∧ vb = .int .i64 0 ∧ Below wr.heap.size wr wx)
      case first =>
       as_aux_lemma =>
        refine wp_region_held' (S := fun W' => Below wr.heap.size wr W') (by kernel_rfl) ((Below.refl _ wr).drew) (fun hHeld => ?_)
        refine wpAnyH_take2 (i := 0) (t := 96) (v := ?_) rfl rfl (by kernel_rfl) (by kernel_rfl) (by kernel_rfl) (fun _ _ _ h => Only.not_panic h) (Or.inl ⟨by kernel_rfl, fun W hW => ?_⟩) (by assumption) ?_
        rotate_left
        · have hW2 := hW
          obtain ⟨⟨f0, f1, f2, f3, f4, f5, f6, f7⟩, c0, c1⟩ := HS.out W hW2
          clear hW hW2
          go_simp
          try with_reducible rfl
        try simp only [Act.put, List.setIfInBounds_toArray, List.set_cons_zero, List.set_cons_succ]
        refine wpAnyH_take2 (i := 1) (t := 97) (v := ?_) rfl rfl (by kernel_rfl) (by kernel_rfl) (by kernel_rfl) (fun _ _ _ h => Only.not_panic h) (Or.inl ⟨by kernel_rfl, fun W hW => ?_⟩) (by assumption) ?_
        rotate_left
        · have hW2 := hW
          obtain ⟨⟨f0, f1, f2, f3, f4, f5, f6, f7⟩, c0, c1⟩ := HS.out W hW2
          clear hW hW2
          go_simp
          try with_reducible rfl
        try simp only [Act.put, List.setIfInBounds_toArray, List.set_cons_zero, List.set_cons_succ]
        refine wpAnyH_take2 (i := 2) (t := 98) (v := ?_) rfl rfl (by kernel_rfl) (by kernel_rfl) (by kernel_rfl) (fun _ _ _ h => Only.not_panic h) (Or.inl ⟨by kernel_rfl, fun W hW => ?_⟩) (by assumption) ?_
        rotate_left
        · have hW2 := hW
          obtain ⟨⟨f0, f1, f2, f3, f4, f5, f6, f7⟩, c0, c1⟩ := HS.out W hW2
          clear hW hW2
          go_simp
          try with_reducible rfl
        try simp only [Act.put, List.setIfInBounds_toArray, List.set_cons_zero, List.set_cons_succ]
        refine wpAnyH_take2 (i := 3) (t := 99) (v := ?_) rfl rfl (by kernel_rfl) (by kernel_rfl) (by kernel_rfl) (fun _ _ _ h => Only.not_panic h) (Or.inl ⟨by kernel_rfl, fun W hW => ?_⟩) (by assumption) ?_
        rotate_left
        · have hW2 := hW
          obtain ⟨⟨f0, f1, f2, f3, f4, f5, f6, f7⟩, c0, c1⟩ := HS.out W hW2
          clear hW hW2
          go_simp
          try with_reducible rfl
        try simp only [Act.put, List.setIfInBounds_toArray, List.set_cons_zero, List.set_cons_succ]
        refine wpAnyH_take2 (i := 4) (t := 100) (v := ?_) rfl rfl (by kernel_rfl) (by kernel_rfl) (by kernel_rfl) (fun _ _ _ h => Only.not_panic h) (Or.inl ⟨by kernel_rfl, fun W hW => ?_⟩) (by assumption) ?_
        rotate_left
        · have hW2 := hW
          obtain ⟨⟨f0, f1, f2, f3, f4, f5, f6, f7⟩, c0, c1⟩ := HS.out W hW2
          clear hW hW2
          go_simp
          try with_reducible rfl
        try simp only [Act.put, List.setIfInBounds_toArray, List.set_cons_zero, List.set_cons_succ]
        refine wpAnyH_ready (rs := [5]) (by kernel_rfl) (by simp) ?_
        refine AllReadyH.cons rfl (fun K hK => ?_) ?_
        · go_simp
          refine (HG.out _ hHeld).mono ?_
          rintro ev w5 ⟨rfl, hb5⟩
          try simp only []
          refine hK.out _ _ ?_ (fun hHeld => ?_)
          · exact B_trans hHeld hb5
          clear hK K
          try simp only [Act.put, List.setIfInBounds_toArray, List.set_cons_zero, List.set_cons_succ]
          refine wpAnyH_take2 (i := 6) (t := 95) (v := ?_) rfl rfl (by kernel_rfl) (by kernel_rfl) (by kernel_rfl) (fun _ _ _ h => Only.not_panic h) (Or.inl ⟨by kernel_rfl, fun W hW => ?_⟩) (by assumption) ?_
          rotate_left
          · have hW2 := hW
            obtain ⟨⟨f0, f1, f2, f3, f4, f5, f6, f7⟩, c0, c1⟩ := HS.out W hW2
            clear hW hW2
            go_simp
            try with_reducible rfl
          try simp only [Act.put, List.setIfInBounds_toArray, List.set_cons_zero, List.set_cons_succ]
          refine wpAnyH_take2 (i := 7) (t := 102) (v := ?_) rfl rfl (by kernel_rfl) (by kernel_rfl) (by kernel_rfl) (fun _ _ _ h => Only.not_panic h) (Or.inl ⟨by kernel_rfl, fun W hW => ?_⟩) (by assumption) ?_
          rotate_left
          · have hW2 := hW
            obtain ⟨⟨f0, f1, f2, f3, f4, f5, f6, f7⟩, c0, c1⟩ := HS.out W hW2
            clear hW hW2
            go_simp
            try with_reducible rfl
          try simp only [Act.put, List.setIfInBounds_toArray, List.set_cons_zero, List.set_cons_succ]
          refine wpAnyH_take2 (i := 8) (t := 103) (v := ?_) rfl rfl (by kernel_rfl) (by kernel_rfl) (by kernel_rfl) (fun _ _ _ h => Only.not_panic h) (Or.inl ⟨by kernel_rfl, fun W hW => ?_⟩) (by assumption) ?_
          rotate_left
          · have hW2 := hW
            obtain ⟨⟨f0, f1, f2, f3, f4, f5, f6, f7⟩, c0, c1⟩ := HS.out W hW2
            clear hW hW2
            go_simp
            try with_reducible rfl
          try simp only [Act.put, List.setIfInBounds_toArray, List.set_cons_zero, List.set_cons_succ]
          refine wpAnyH_take2 (i := 9) (t := 13) (v := ?_) rfl rfl (by kernel_rfl) (by kernel_rfl) (by kernel_rfl) (fun _ _ _ h => Only.not_panic h) (Or.inl ⟨by kernel_rfl, fun W hW => ?_⟩) (by assumption) ?_
          rotate_left
          · have hW2 := hW
            obtain ⟨⟨f0, f1, f2, f3, f4, f5, f6, f7⟩, c0, c1⟩ := HS.out W hW2
            clear hW hW2
            go_simp
            try with_reducible rfl
          try simp only [Act.put, List.setIfInBounds_toArray, List.set_cons_zero, List.set_cons_succ]
          refine wpAnyH_take2 (i := 10) (t := 14) (v := ?_) rfl rfl (by kernel_rfl) (by kernel_rfl) (by kernel_rfl) (fun _ _ _ h => Only.not_panic h) (Or.inl ⟨by kernel_rfl, fun W hW => ?_⟩) (by assumption) ?_
          rotate_left
          · have hW2 := hW
            obtain ⟨⟨f0, f1, f2, f3, f4, f5, f6, f7⟩, c0, c1⟩ := HS.out W hW2
            clear hW hW2
            go_simp
            try with_reducible rfl
          try simp only [Act.put, List.setIfInBounds_toArray, List.set_cons_zero, List.set_cons_succ]
          refine wpAnyH_done (by kernel_rfl) (Only.mk ?_) _
          go_wp2_with fail
          go_meet
          exact ⟨rfl, rfl, hHeld⟩
        exact AllReadyH.nil
      case rest =>
        obtain ⟨rfl, rfl, hbc⟩ := hcut
        have c0 := (HS.out _ hbc).2.2
        have BC := Lib.hid (B_trans BR.out hbc)
        clear HS hbc
        go_wp2_with fail
        go_roundg (3 - (i + 1))
        case measure => omega
        case rel => exact ⟨i + 1, rfl, by push_cast; rfl, by omega, BC.out⟩
    · obtain rfl : i = 3 := by omega
      have B8 := Lib.hid (B_trans K7.out.2.2 hbr)
      clear hbr O7 L7 K7 W7 E5 J1 J2 J3 J4 W2 HDy
      go_wp2_with fail
      refine (task_any none 0 0 [] _ (sl3_nil _) (by omega)).mono ?_
      rintro e w8 ⟨a8, b8, d8, rfl, hR8, hb8⟩
      go_wp2_with fail
      refine (levels_full _ hs0 ws0 days0 [] w8 hR8 (aw0 _ _ _ _)).mono ?_
      rintro e w9 ⟨g9, cap9, C9, sv9, rfl, -, hC9, hS9, hst9, hb9⟩
      rw [kl0] at hS9
      rw [kl0s] at hst9
      obtain ⟨sa9, sc9, rfl, -, -⟩ := sl2_row hst9
      have P9 := Lib.hid (spc_sl2 hC9 hS9)
      have B9 := Lib.hid (B_trans (B_trans B8.out hb8) hb9)
      clear hC9 hS9 hst9 hR8 hb8 hb9 B8
      go_wp2_with fail
      refine (task_any (some ⟨w9.heap.size, 0, none⟩) 2 2 ts3 _ (sl3_two w9 (101, 0, 0) (103, 1, 0) 64) (by omega)).mono ?_
      rintro e wa ⟨aa, ba, da, rfl, hRa, hba⟩
      go_wp2_with fail
      refine (levels_full _ hs0 ws0 days0 ts3 wa hRa (kw3 _ _ _ _)).mono ?_
      rintro e wb ⟨gb, capb, Cb, svb, rfl, -, hCb, hSb, hstb, hbb⟩
      rw [kl3] at hSb
      rw [kl3s] at hstb
      obtain ⟨sab, scb, rfl, -, -⟩ := sl2_row hstb
      have hb9b := B_trans (B_trans (B_alloc (Below.refl w9.heap.size w9) _) hba) hbb
      have Pb := Lib.hid (And.intro (P9.out.below hb9b) (spc_sl2 hCb hSb))
      have Bb := Lib.hid (B_trans B9.out hb9b)
      clear hCb hSb hstb hRa hba hbb hb9b B9 P9
      go_wp2_with fail
      refine (HSp.out (900) (1000) _).mono ?_
      rintro e x0 ⟨rfl, hb⟩
      have Bx0 := Lib.hid (hb)
      clear hb
      go_wp2_with fail
      refine (HSp.out (910) (1020) _).mono ?_
      rintro e x1 ⟨rfl, hb⟩
      have Bx1 := Lib.hid (B_trans Bx0.out hb)
      clear hb
      go_wp2_with fail
      refine (HSp.out (920) (1040) _).mono ?_
      rintro e x2 ⟨rfl, hb⟩
      have Bx2 := Lib.hid (B_trans Bx1.out hb)
      clear hb
      go_wp2_with fail
      refine (HSp.out (930) (1060) _).mono ?_
      rintro e x3 ⟨rfl, hb⟩
      have Bx3 := Lib.hid (B_trans Bx2.out hb)
      clear hb
      go_wp2_with fail
      obtain ⟨z1, hz1⟩ : ∃ wz, x3.alloc (.cells #[.int .i64 900, .int .i64 1000, .int .i64 910, .int .i64 1020, .int .i64 920, .int .i64 1040, .int .i64 930, .int .i64 1060] 28) = wz := ⟨_, rfl⟩
      have hbz1 : Below wb.heap.size wb z1 := by rw [← hz1]; exact B_alloc Bx3.out _
      have oz1 : Ob z1 x3.heap.size 28 (flat2 [(900, 1000), (910, 1020), (920, 1040), (930, 1060)]).toArray := by rw [← hz1]; exact Ob.new _ _ _
      have Qz1 : Hid (Calls Try.prog 30 #[.slice (some ⟨g9, 0, none⟩) 4 cap9, .slice (some ⟨x3.heap.size, 0, none⟩) 4 4] z1 fun e w' => e = .returned (.bool true) ∧ Below z1.heap.size z1 w') := by
        have h := spans_any [(900, 1000), (910, 1020), (920, 1040), (930, 1060)] [(900, 1000), (910, 1020), (920, 1040), (930, 1060)] (some ⟨g9, 0, none⟩) (some ⟨x3.heap.size, 0, none⟩) 4 4 cap9 4 z1 (Pb.out.1.below hbz1) (ob_sl2 oz1) (by omega) (by omega)
        rw [decide_eq_true rfl] at h
        exact h
      have Pz := Lib.hid (Pb.out.2.below hbz1)
      have Bz1 := Lib.hid (B_trans Bb.out hbz1)
      have Wz1 := Lib.hid hz1
      clear hz1 hbz1 oz1 Pb Bb
      rw [Wz1.out]
      refine Qz1.out.mono ?_
      rintro e z2 ⟨rfl, hb⟩
      have P2 := Lib.hid (Pz.out.below hb)
      have B2 := Lib.hid (B_trans Bz1.out hb)
      clear hb Pz Bz1 Qz1 Wz1
      go_wp2_with fail
      refine (HSp.out (940) (989) _).mono ?_
      rintro e y0 ⟨rfl, hb⟩
      have By0 := Lib.hid (hb)
      clear hb
      go_wp2_with fail
      refine (HSp.out (960) (999) _).mono ?_
      rintro e y1 ⟨rfl, hb⟩
      have By1 := Lib.hid (B_trans By0.out hb)
      clear hb
      go_wp2_with fail
      refine (HSp.out (980) (1019) _).mono ?_
      rintro e y2 ⟨rfl, hb⟩
      have By2 := Lib.hid (B_trans By1.out hb)
      clear hb
      go_wp2_with fail
      refine (HSp.out (1000) (1039) _).mono ?_
      rintro e y3 ⟨rfl, hb⟩
      have By3 := Lib.hid (B_trans By2.out hb)
      clear hb
      go_wp2_with fail
      obtain ⟨z3, hz3⟩ : ∃ wz, y3.alloc (.cells #[.int .i64 940, .int .i64 989, .int .i64 960, .int .i64 999, .int .i64 980, .int .i64 1019, .int .i64 1000, .int .i64 1039] 28) = wz := ⟨_, rfl⟩
      have hbz3 : Below z2.heap.size z2 z3 := by rw [← hz3]; exact B_alloc By3.out _
      have oz3 : Ob z3 y3.heap.size 28 (flat2 [(940, 989), (960, 999), (980, 1019), (1000, 1039)]).toArray := by rw [← hz3]; exact Ob.new _ _ _
      have Qz3 : Hid (Calls Try.prog 30 #[.slice (some ⟨gb, 0, none⟩) 4 capb, .slice (some ⟨y3.heap.size, 0, none⟩) 4 4] z3 fun e w' => e = .returned (.bool true) ∧ Below z3.heap.size z3 w') := by
        have h := spans_any [(940, 989), (960, 999), (980, 1019), (1000, 1039)] [(940, 989), (960, 999), (980, 1019), (1000, 1039)] (some ⟨gb, 0, none⟩) (some ⟨y3.heap.size, 0, none⟩) 4 4 capb 4 z3 (P2.out.below hbz3) (ob_sl2 oz3) (by omega) (by omega)
        rw [decide_eq_true rfl] at h
        exact h
      have Bz3 := Lib.hid (B_trans B2.out hbz3)
      have Wz3 := Lib.hid hz3
      clear hz3 hbz3 oz3 P2 B2
      rw [Wz3.out]
      refine Qz3.out.mono ?_
      rintro e z4 ⟨rfl, hb⟩
      have B4 := Lib.hid (B_trans Bz3.out hb)
      clear hb Bz3 Qz3 Wz3
      go_wp2_with fail
      refine (task_any (some ⟨z4.heap.size, 0, none⟩) 1 1 ts1 _ (sl3_one z4 (101, 0, 0) 64) (by omega)).mono ?_
      rintro e u1 ⟨ta, tb, td, rfl, hRu, hbu⟩
      go_wp2_with fail
      refine (lost_full _ hs0 ws0 days0 ts1 u1 hRu (aw1 _ _ _ _)).mono ?_
      rintro e u2 ⟨rfl, hbv⟩
      rw [kx1]
      have hb4 := B_trans (B_trans (B_alloc (Below.refl z4.heap.size z4) _) hbu) hbv
      obtain ⟨u3, hu3⟩ : ∃ wz, u2.alloc (.cells #[.int .i64 103, .int .i64 (-1)] 28) = wz := ⟨_, rfl⟩
      have hb5 : Below u2.heap.size u2 u3 := by rw [← hu3]; exact B_alloc (Below.refl _ _) _
      have G19 : Hid (Ob u3 u2.heap.size 28 #[.int .i64 103, .int .i64 (-1)]) := by rw [← hu3]; exact Ob.new _ _ _
      have B5 := Lib.hid (B_trans B4.out (B_trans hb4 hb5))
      have U3 := Lib.hid hu3
      clear hRu hbu hbv hb4 hb5 hu3 B4
      go_upto_region 20 with fail
      rw [U3.out]
      go_wp2_with fail
      refine (task_any none 0 0 [] u3 (sl3_nil _) (by omega)).mono ?_
      rintro e u4 ⟨tc, te, tf, rfl, hRu, hbu⟩
      have HM := moved_any (task0 tc te tf none 0 0) hs0 ws0 days0 [] 101 1 0 0 0 0 u4 hRu (show (3 : Nat) ≤ 3 by omega) (aw0 _ _ _ _) (show (1 : Nat) < 3 by omega) rfl (by kernel_rfl)
      rw [km0] at HM
      have HMv := Lib.hid HM
      clear HM
      go_wp2_with fail
      refine HMv.out.mono ?_
      rintro e u5 ⟨rfl, hbv⟩
      have hb4 := B_trans hbu hbv
      obtain ⟨wv, hwv⟩ : ∃ wz, u5.alloc (.cells #[.int .i64 (-1), .int .i64 (-1)] 28) = wz := ⟨_, rfl⟩
      have hb6 : Below u3.heap.size u3 wv := by rw [← hwv]; exact B_alloc hb4 _
      have G20 : Hid (Ob wv u5.heap.size 28 #[.int .i64 (-1), .int .i64 (-1)]) := by rw [← hwv]; exact Ob.new _ _ _
      replace G19 := Lib.hid (G19.out.below hb6)
      have B6 := Lib.hid (B_trans B5.out hb6)
      have WV := Lib.hid hwv
      clear hRu hbu hbv hb4 hb6 hwv B5 HMv U3
      go_upto_region 21 with fail
      rw [WV.out]
      have HS := Lib.hid (fun (W' : World) (hh : Below wv.heap.size wv W') => And.intro (G19.out.below hh).span (G20.out.below hh).span)
      go_cut [193] (fun vv wx => vv = .bool false ∧ Below wv.heap.size wv wx)
      case first =>
       as_aux_lemma =>
        refine wp_region_held' (S := fun W' => Below wv.heap.size wv W') (by kernel_rfl) ((Below.refl _ wv).drew) (fun hHeld => ?_)
        refine wpAnyH_take2 (i := 0) (t := 178) (v := ?_) rfl rfl (by kernel_rfl) (by kernel_rfl) (by kernel_rfl) (fun _ _ _ h => Only.not_panic h) (Or.inl ⟨by kernel_rfl, fun W hW => ?_⟩) (by assumption) ?_
        rotate_left
        · have hW2 := hW
          obtain ⟨⟨p0, p1, -, -⟩, p2, p3, -, -⟩ := HS.out W hW2
          clear hW hW2
          go_simp
          try with_reducible rfl
        try simp only [Act.put, List.setIfInBounds_toArray, List.set_cons_zero, List.set_cons_succ]
        refine wpAnyH_take2 (i := 1) (t := 179) (v := .bool false) rfl rfl (by kernel_rfl) (by kernel_rfl) (by kernel_rfl) (fun _ _ _ h => Only.not_panic h) (Or.inl ⟨by kernel_rfl, fun W hW => ?_⟩) (by assumption) ?_
        · have hW2 := hW
          obtain ⟨⟨p0, p1, -, -⟩, p2, p3, -, -⟩ := HS.out W hW2
          clear hW hW2
          go_simp
          try with_reducible rfl
        try simp only [Act.put, List.setIfInBounds_toArray, List.set_cons_zero, List.set_cons_succ]
        refine wpAnyH_take2 (i := 2) (t := 180) (v := ?_) rfl rfl (by kernel_rfl) (by kernel_rfl) (by kernel_rfl) (fun _ _ _ h => Only.not_panic h) (Or.inl ⟨by kernel_rfl, fun W hW => ?_⟩) (by assumption) ?_
        rotate_left
        · have hW2 := hW
          obtain ⟨⟨p0, p1, -, -⟩, p2, p3, -, -⟩ := HS.out W hW2
          clear hW hW2
          go_simp
          try with_reducible rfl
        try simp only [Act.put, List.setIfInBounds_toArray, List.set_cons_zero, List.set_cons_succ]
        refine wpAnyH_take2 (i := 3) (t := 181) (v := ?_) rfl rfl (by kernel_rfl) (by kernel_rfl) (by kernel_rfl) (fun _ _ _ h => Only.not_panic h) (Or.inl ⟨by kernel_rfl, fun W hW => ?_⟩) (by assumption) ?_
        rotate_left
        · have hW2 := hW
          obtain ⟨⟨p0, p1, -, -⟩, p2, p3, -, -⟩ := HS.out W hW2
          clear hW hW2
          go_simp
          try with_reducible rfl
        try simp only [Act.put, List.setIfInBounds_toArray, List.set_cons_zero, List.set_cons_succ]
        refine wpAnyH_take2 (i := 4) (t := 182) (v := .bool false) rfl rfl (by kernel_rfl) (by kernel_rfl) (by kernel_rfl) (fun _ _ _ h => Only.not_panic h) (Or.inl ⟨by kernel_rfl, fun W hW => ?_⟩) (by assumption) ?_
        · have hW2 := hW
          obtain ⟨⟨p0, p1, -, -⟩, p2, p3, -, -⟩ := HS.out W hW2
          clear hW hW2
          go_simp
          try with_reducible rfl
        try simp only [Act.put, List.setIfInBounds_toArray, List.set_cons_zero, List.set_cons_succ]
        refine wpAnyH_take2 (i := 5) (t := 183) (v := .bool false) rfl rfl (by kernel_rfl) (by kernel_rfl) (by kernel_rfl) (fun _ _ _ h => Only.not_panic h) (Or.inl ⟨by kernel_rfl, fun W hW => ?_⟩) (by assumption) ?_
        · have hW2 := hW
          obtain ⟨⟨p0, p1, -, -⟩, p2, p3, -, -⟩ := HS.out W hW2
          clear hW hW2
          go_simp
          try with_reducible rfl
        try simp only [Act.put, List.setIfInBounds_toArray, List.set_cons_zero, List.set_cons_succ]
        refine wpAnyH_take2 (i := 6) (t := 184) (v := ?_) rfl rfl (by kernel_rfl) (by kernel_rfl) (by kernel_rfl) (fun _ _ _ h => Only.not_panic h) (Or.inl ⟨by kernel_rfl, fun W hW => ?_⟩) (by assumption) ?_
        rotate_left
        · have hW2 := hW
          obtain ⟨⟨p0, p1, -, -⟩, p2, p3, -, -⟩ := HS.out W hW2
          clear hW hW2
          go_simp
          try with_reducible rfl
        try simp only [Act.put, List.setIfInBounds_toArray, List.set_cons_zero, List.set_cons_succ]
        refine wpAnyH_take2 (i := 7) (t := 185) (v := ?_) rfl rfl (by kernel_rfl) (by kernel_rfl) (by kernel_rfl) (fun _ _ _ h => Only.not_panic h) (Or.inl ⟨by kernel_rfl, fun W hW => ?_⟩) (by assumption) ?_
        rotate_left
        · have hW2 := hW
          obtain ⟨⟨p0, p1, -, -⟩, p2, p3, -, -⟩ := HS.out W hW2
          clear hW hW2
          go_simp
          try with_reducible rfl
        try simp only [Act.put, List.setIfInBounds_toArray, List.set_cons_zero, List.set_cons_succ]
        refine wpAnyH_ready (rs := [8]) (by kernel_rfl) (by simp) ?_
        refine AllReadyH.cons_want rfl (by kernel_rfl) (fun K hK => ?_) ?_
        · go_simp
          refine (span_any 103 (-1) _).mono ?_
          rintro ev w8 ⟨rfl, hb8⟩
          try simp only []
          refine hK.out _ _ ?_ (fun hHeld => ?_)
          · exact B_trans hHeld hb8
          clear hK K
          try simp only [Act.put, List.setIfInBounds_toArray, List.set_cons_zero, List.set_cons_succ]
          refine wpAnyH_take2 (i := 9) (t := 187) (v := .bool false) rfl rfl (by kernel_rfl) (by kernel_rfl) (by kernel_rfl) (fun _ _ _ h => Only.not_panic h) (Or.inl ⟨by kernel_rfl, fun W hW => ?_⟩) (by assumption) ?_
          · have hW2 := hW
            obtain ⟨⟨p0, p1, -, -⟩, p2, p3, -, -⟩ := HS.out W hW2
            clear hW hW2
            go_simp
            try with_reducible rfl
          try simp only [Act.put, List.setIfInBounds_toArray, List.set_cons_zero, List.set_cons_succ]
          refine wpAnyH_take2 (i := 10) (t := 188) (v := .bool false) rfl rfl (by kernel_rfl) (by kernel_rfl) (by kernel_rfl) (fun _ _ _ h => Only.not_panic h) (Or.inl ⟨by kernel_rfl, fun W hW => ?_⟩) (by assumption) ?_
          · have hW2 := hW
            obtain ⟨⟨p0, p1, -, -⟩, p2, p3, -, -⟩ := HS.out W hW2
            clear hW hW2
            go_simp
            try with_reducible rfl
          try simp only [Act.put, List.setIfInBounds_toArray, List.set_cons_zero, List.set_cons_succ]
          refine wpAnyH_take2 (i := 11) (t := 189) (v := ?_) rfl rfl (by kernel_rfl) (by kernel_rfl) (by kernel_rfl) (fun _ _ _ h => Only.not_panic h) (Or.inl ⟨by kernel_rfl, fun W hW => ?_⟩) (by assumption) ?_
          rotate_left
          · have hW2 := hW
            obtain ⟨⟨p0, p1, -, -⟩, p2, p3, -, -⟩ := HS.out W hW2
            clear hW hW2
            go_simp
            try with_reducible rfl
          try simp only [Act.put, List.setIfInBounds_toArray, List.set_cons_zero, List.set_cons_succ]
          refine wpAnyH_take2 (i := 12) (t := 190) (v := ?_) rfl rfl (by kernel_rfl) (by kernel_rfl) (by kernel_rfl) (fun _ _ _ h => Only.not_panic h) (Or.inl ⟨by kernel_rfl, fun W hW => ?_⟩) (by assumption) ?_
          rotate_left
          · have hW2 := hW
            obtain ⟨⟨p0, p1, -, -⟩, p2, p3, -, -⟩ := HS.out W hW2
            clear hW hW2
            go_simp
            try with_reducible rfl
          try simp only [Act.put, List.setIfInBounds_toArray, List.set_cons_zero, List.set_cons_succ]
          refine wpAnyH_ready (rs := [13]) (by kernel_rfl) (by simp) ?_
          refine AllReadyH.cons_want rfl (by kernel_rfl) (fun K hK => ?_) ?_
          · go_simp
            refine (span_any (-1) (-1) _).mono ?_
            rintro ev w13 ⟨rfl, hb13⟩
            try simp only []
            refine hK.out _ _ ?_ (fun hHeld => ?_)
            · exact B_trans hHeld hb13
            clear hK K
            try simp only [Act.put, List.setIfInBounds_toArray, List.set_cons_zero, List.set_cons_succ]
            refine wpAnyH_take2 (i := 14) (t := 192) (v := .bool false) rfl rfl (by kernel_rfl) (by kernel_rfl) (by kernel_rfl) (fun _ _ _ h => Only.not_panic h) (Or.inl ⟨by kernel_rfl, fun W hW => ?_⟩) (by assumption) ?_
            · have hW2 := hW
              obtain ⟨⟨p0, p1, -, -⟩, p2, p3, -, -⟩ := HS.out W hW2
              clear hW hW2
              go_simp
              try with_reducible rfl
            try simp only [Act.put, List.setIfInBounds_toArray, List.set_cons_zero, List.set_cons_succ]
            refine wpAnyH_take2 (i := 15) (t := 193) (v := .bool false) rfl rfl (by kernel_rfl) (by kernel_rfl) (by kernel_rfl) (fun _ _ _ h => Only.not_panic h) (Or.inl ⟨by kernel_rfl, fun W hW => ?_⟩) (by assumption) ?_
            · have hW2 := hW
              obtain ⟨⟨p0, p1, -, -⟩, p2, p3, -, -⟩ := HS.out W hW2
              clear hW hW2
              go_simp
              try with_reducible rfl
            try simp only [Act.put, List.setIfInBounds_toArray, List.set_cons_zero, List.set_cons_succ]
            refine wpAnyH_done (by kernel_rfl) (Only.mk ?_) _
            go_wp2_with fail
            go_meet
            exact ⟨rfl, hHeld⟩
          exact AllReadyH.nil
        exact AllReadyH.nil
      case rest =>
        clear HS G19 G20
        obtain ⟨rfl, hbc⟩ := hcut
        obtain ⟨v0, hv0⟩ : ∃ wz, wz = wc := ⟨_, rfl⟩
        rw [← hv0] at hbc ⊢
        have B7 := Lib.hid (B_trans B6.out hbc)
        clear hv0 hbc B6
        obtain ⟨v1, hv1⟩ : ∃ wz, v0.alloc (.cells #[.int .i64 900, .int .i64 910, .int .i64 925, .int .i64 944] 3) = wz := ⟨_, rfl⟩
        obtain ⟨v2, hv2⟩ : ∃ wz, v1.alloc (.cells #[.int .i64 900, .int .i64 909, .int .i64 925, .int .i64 944] 3) = wz := ⟨_, rfl⟩
        obtain ⟨v3, hv3⟩ : ∃ wz, v2.alloc (.cells #[.int .i64 900, .int .i64 910, .int .i64 929, .int .i64 949] 3) = wz := ⟨_, rfl⟩
        obtain ⟨v4, hv4⟩ : ∃ wz, v3.alloc (.cells #[.slice (some ⟨v0.heap.size, 0, none⟩) 4 4, .slice (some ⟨v0.heap.size + 1, 0, none⟩) 4 4, .slice (some ⟨v0.heap.size + 1 + 1, 0, none⟩) 4 4] 46) = wz := ⟨_, rfl⟩
        obtain ⟨v5, hv5⟩ : ∃ wz, v4.alloc (.cells #[.int .i64 (-1), .int .i64 1, .int .i64 3] 3) = wz := ⟨_, rfl⟩
        have z1 : v1.heap.size = v0.heap.size + 1 := by rw [← hv1]; simp
        have z2 : v2.heap.size = v0.heap.size + 1 + 1 := by rw [← hv2, World.size_alloc, z1]
        have z3 : v3.heap.size = v0.heap.size + 1 + 1 + 1 := by rw [← hv3, World.size_alloc, z2]
        have z4' : v4.heap.size = v0.heap.size + 1 + 1 + 1 + 1 := by rw [← hv4, World.size_alloc, z3]
        have b1 : Below v0.heap.size v0 v1 := by rw [← hv1]; exact B_alloc (Below.refl _ _) _
        have b2 : Below v1.heap.size v1 v2 := by rw [← hv2]; exact B_alloc (Below.refl _ _) _
        have b3 : Below v2.heap.size v2 v3 := by rw [← hv3]; exact B_alloc (Below.refl _ _) _
        have b4 : Below v3.heap.size v3 v4 := by rw [← hv4]; exact B_alloc (Below.refl _ _) _
        have b5 : Below v4.heap.size v4 v5 := by rw [← hv5]; exact B_alloc (Below.refl _ _) _
        have q1 : Ob v5 v0.heap.size 3 #[.int .i64 900, .int .i64 910, .int .i64 925, .int .i64 944] := by
          have h := Ob.new v0 #[.int .i64 900, .int .i64 910, .int .i64 925, .int .i64 944] 3
          rw [hv1] at h
          exact (((h.below b2).below b3).below b4).below b5
        have q2 : Ob v5 (v0.heap.size + 1) 3 #[.int .i64 900, .int .i64 909, .int .i64 925, .int .i64 944] := by
          have h := Ob.new v1 #[.int .i64 900, .int .i64 909, .int .i64 925, .int .i64 944] 3
          rw [hv2, z1] at h
          exact ((h.below b3).below b4).below b5
        have q3 : Ob v5 (v0.heap.size + 1 + 1) 3 #[.int .i64 900, .int .i64 910, .int .i64 929, .int .i64 949] := by
          have h := Ob.new v2 #[.int .i64 900, .int .i64 910, .int .i64 929, .int .i64 949] 3
          rw [hv3, z2] at h
          exact (h.below b4).below b5
        have q4 : Ob v5 (v0.heap.size + 1 + 1 + 1) 46 #[.slice (some ⟨v0.heap.size, 0, none⟩) 4 4, .slice (some ⟨v0.heap.size + 1, 0, none⟩) 4 4, .slice (some ⟨v0.heap.size + 1 + 1, 0, none⟩) 4 4] := by
          have h := Ob.new v3 #[.slice (some ⟨v0.heap.size, 0, none⟩) 4 4, .slice (some ⟨v0.heap.size + 1, 0, none⟩) 4 4, .slice (some ⟨v0.heap.size + 1 + 1, 0, none⟩) 4 4] 46
          rw [hv4, z3] at h
          exact h.below b5
        have q5 : Ob v5 (v0.heap.size + 1 + 1 + 1 + 1) 3 #[.int .i64 (-1), .int .i64 1, .int .i64 3] := by
          have h := Ob.new v4 #[.int .i64 (-1), .int .i64 1, .int .i64 3] 3
          rw [hv5, z4'] at h
          exact h
        obtain ⟨RZ, hRZ⟩ : ∃ RZ, v0.heap.size = RZ := ⟨_, rfl⟩
        have OZ : Hid (∀ i, i < 3 → v5.cell? ⟨RZ + 1 + 1 + 1, i, none⟩ = some (.slice (some ⟨RZ + i, 0, none⟩) 4 4) ∧ v5.cell? ⟨RZ + 1 + 1 + 1 + 1, i, none⟩ = some (.int .i64 (owK i)) ∧ Sl1 v5 (some ⟨RZ + i, 0, none⟩) 4 (csK i)) := fun i hi => by
          rw [← hRZ]
          rcases (show i = 0 ∨ i = 1 ∨ i = 2 by omega) with rfl | rfl | rfl
          · exact ⟨q4.cell 0, q5.cell 0, rfl, fun _ => ⟨v0.heap.size, 0, rfl, q1.lt, fun j hj => by rcases (show j = 0 ∨ j = 1 ∨ j = 2 ∨ j = 3 by omega) with rfl | rfl | rfl | rfl; exact q1.cell 0; exact q1.cell 1; exact q1.cell 2; exact q1.cell 3⟩⟩
          · exact ⟨q4.cell 1, q5.cell 1, rfl, fun _ => ⟨v0.heap.size + 1, 0, rfl, q2.lt, fun j hj => by rcases (show j = 0 ∨ j = 1 ∨ j = 2 ∨ j = 3 by omega) with rfl | rfl | rfl | rfl; exact q2.cell 0; exact q2.cell 1; exact q2.cell 2; exact q2.cell 3⟩⟩
          · exact ⟨q4.cell 2, q5.cell 2, rfl, fun _ => ⟨v0.heap.size + 1 + 1, 0, rfl, q3.lt, fun j hj => by rcases (show j = 0 ∨ j = 1 ∨ j = 2 ∨ j = 3 by omega) with rfl | rfl | rfl | rfl; exact q3.cell 0; exact q3.cell 1; exact q3.cell 2; exact q3.cell 3⟩⟩
        have LZ : Hid (RZ + 1 + 1 + 1 < v5.heap.size ∧ RZ + 1 + 1 + 1 + 1 < v5.heap.size) := by rw [← hRZ]; exact ⟨q4.lt, q5.lt⟩
        have B8 := Lib.hid (B_trans B7.out (B_trans b1 (B_trans b2 (B_trans b3 (B_trans b4 b5)))))
        have V5 : Hid ((((((v0.alloc (.cells #[.int .i64 900, .int .i64 910, .int .i64 925, .int .i64 944] 3)).alloc (.cells #[.int .i64 900, .int .i64 909, .int .i64 925, .int .i64 944] 3)).alloc (.cells #[.int .i64 900, .int .i64 910, .int .i64 929, .int .i64 949] 3)).alloc (.cells #[.slice (some ⟨RZ, 0, none⟩) 4 4, .slice (some ⟨RZ + 1, 0, none⟩) 4 4, .slice (some ⟨RZ + 1 + 1, 0, none⟩) 4 4] 46)).alloc (.cells #[.int .i64 (-1), .int .i64 1, .int .i64 3] 3)) = v5) := by rw [← hRZ, ← hv5, ← hv4, ← hv3, ← hv2, ← hv1]; exact rfl
        have HRZ := Lib.hid hRZ
        clear hv1 hv2 hv3 hv4 hv5 z1 z2 z3 z4' b1 b2 b3 b4 b5 q1 q2 q3 q4 q5 B7 hRZ
        go_upto_region 24 with fail
        rw [HRZ.out]
        rw [V5.out]
        go_wp2_with fail
        go_loopg [23, 24, 25] 3 (fun gk iv x24 x25 wr => ∃ i : Nat, gk = 3 - i ∧ iv = .int .i64 (i : Int) ∧ i ≤ 3 ∧ Below v5.heap.size v5 wr)
        case atStart => exact ⟨0, rfl, rfl, by omega, Below.refl _ _⟩
        case round =>
          obtain ⟨i, rfl, rfl, hi, hbr⟩ := hrel
          by_cases hlt : i < 3
          · have i0 : (0 : Int) ≤ (i : Int) := by omega
            have i1 : (i : Int) < 3 := by omega
            have HS := Lib.hid (fun (W' : World) (hh : Below wr.heap.size wr W') => ((B_trans hbr hh).cell (p := ⟨RZ + 1 + 1 + 1, i, none⟩) LZ.out.1).trans (OZ.out i hlt).1)
            have HC := Lib.hid (fun (W' : World) (hh : Below wr.heap.size wr W') => (OZ.out i hlt).2.2.below (B_trans hbr hh))
            have HW := Lib.hid (fun (W' : World) (hh : Below wr.heap.size wr W') => ((B_trans hbr hh).cell (p := ⟨RZ + 1 + 1 + 1 + 1, i, none⟩) LZ.out.2).trans (OZ.out i hlt).2.1)
            have BR := Lib.hid hbr
            clear hbr
            go_upto_region 27 with fail
            go_cut [24, 25] (fun va vb wx => va = .int .i64 (owK i) ∧ vb = .int .i64 0 ∧ Below wr.heap.size wr wx)
            case first =>
             as_aux_lemma =>
              refine wp_region_held' (S := fun W' => Below wr.heap.size wr W') (by kernel_rfl) ((Below.refl _ wr).drew) (fun hHeld => ?_)
              refine wpAnyH_take2 (i := 1) (t := 205) (v := ?_) rfl rfl (by kernel_rfl) (by kernel_rfl) (by kernel_rfl) (fun _ _ _ h => Only.not_panic h) (Or.inl ⟨by kernel_rfl, fun W hW => ?_⟩) (by assumption) ?_
              rotate_left
              · have hW2 := hW
                have c0 := HS.out W hW2
                clear hW hW2
                go_simp
                try with_reducible rfl
              try simp only [Act.put, List.setIfInBounds_toArray, List.set_cons_zero, List.set_cons_succ]
              refine wpAnyH_take2 (i := 2) (t := 206) (v := ?_) rfl rfl (by kernel_rfl) (by kernel_rfl) (by kernel_rfl) (fun _ _ _ h => Only.not_panic h) (Or.inl ⟨by kernel_rfl, fun W hW => ?_⟩) (by assumption) ?_
              rotate_left
              · have hW2 := hW
                have c0 := HS.out W hW2
                clear hW hW2
                go_simp
                try with_reducible rfl
              try simp only [Act.put, List.setIfInBounds_toArray, List.set_cons_zero, List.set_cons_succ]
              refine wpAnyH_take2 (i := 3) (t := 207) (v := ?_) rfl rfl (by kernel_rfl) (by kernel_rfl) (by kernel_rfl) (fun _ _ _ h => Only.not_panic h) (Or.inl ⟨by kernel_rfl, fun W hW => ?_⟩) (by assumption) ?_
              rotate_left
              · have hW2 := hW
                have c0 := HS.out W hW2
                clear hW hW2
                go_simp
                try with_reducible rfl
              try simp only [Act.put, List.setIfInBounds_toArray, List.set_cons_zero, List.set_cons_succ]
              refine wpAnyH_take2 (i := 4) (t := 208) (v := ?_) rfl rfl (by kernel_rfl) (by kernel_rfl) (by kernel_rfl) (fun _ _ _ h => Only.not_panic h) (Or.inl ⟨by kernel_rfl, fun W hW => ?_⟩) (by assumption) ?_
              rotate_left
              · have hW2 := hW
                have c0 := HS.out W hW2
                clear hW hW2
                go_simp
                try with_reducible rfl
              try simp only [Act.put, List.setIfInBounds_toArray, List.set_cons_zero, List.set_cons_succ]
              refine wpAnyH_ready (rs := [0]) (by kernel_rfl) (by simp) ?_
              refine AllReadyH.cons rfl (fun K hK => ?_) ?_
              · go_simp
                refine (task_any none 0 0 [] _ (sl3_nil _) (by omega)).mono ?_
                rintro ev w0 ⟨ka, kb, kd, rfl, hR0, hb0⟩
                have hbb0 := B_trans hHeld hb0
                refine hK.out _ _ ?_ (fun hHeld => ?_)
                · exact B_trans hHeld hb0
                clear hK K
                try simp only [Act.put, List.setIfInBounds_toArray, List.set_cons_zero, List.set_cons_succ]
                refine wpAnyH_ready (rs := [5]) (by kernel_rfl) (by simp) ?_
                refine AllReadyH.cons rfl (fun K hK => ?_) ?_
                · go_simp
                  refine (ownD_any (task0 ka kb kd none 0 0) hs0 ws0 days0 [] (some ⟨RZ + i, 0, none⟩) 4 4 (csK i) _ hR0 (HC.out _ hHeld) (by omega)).mono ?_
                  rw [koK ka kb kd none i hlt]
                  rintro ev w5 ⟨rfl, hb5⟩
                  try simp only []
                  refine hK.out _ _ ?_ (fun hHeld => ?_)
                  · exact B_trans hHeld hb5
                  clear hK K
                  try simp only [Act.put, List.setIfInBounds_toArray, List.set_cons_zero, List.set_cons_succ]
                  refine wpAnyH_take2 (i := 6) (t := 203) (v := ?_) rfl rfl (by kernel_rfl) (by kernel_rfl) (by kernel_rfl) (fun _ _ _ h => Only.not_panic h) (Or.inl ⟨by kernel_rfl, fun W hW => ?_⟩) (by assumption) ?_
                  rotate_left
                  · have hW2 := hW
                    have c0 := HS.out W hW2
                    clear hW hW2
                    go_simp
                    try with_reducible rfl
                  try simp only [Act.put, List.setIfInBounds_toArray, List.set_cons_zero, List.set_cons_succ]
                  refine wpAnyH_take2 (i := 7) (t := 210) (v := ?_) rfl rfl (by kernel_rfl) (by kernel_rfl) (by kernel_rfl) (fun _ _ _ h => Only.not_panic h) (Or.inl ⟨by kernel_rfl, fun W hW => ?_⟩) (by assumption) ?_
                  rotate_left
                  · have hW2 := hW
                    have c0 := HS.out W hW2
                    clear hW hW2
                    go_simp
                    try with_reducible rfl
                  try simp only [Act.put, List.setIfInBounds_toArray, List.set_cons_zero, List.set_cons_succ]
                  refine wpAnyH_take2 (i := 8) (t := 211) (v := ?_) rfl rfl (by kernel_rfl) (by kernel_rfl) (by kernel_rfl) (fun _ _ _ h => Only.not_panic h) (Or.inl ⟨by kernel_rfl, fun W hW => ?_⟩) (by assumption) ?_
                  rotate_left
                  · have hW2 := hW
                    have c0 := HS.out W hW2
                    clear hW hW2
                    go_simp
                    try with_reducible rfl
                  try simp only [Act.put, List.setIfInBounds_toArray, List.set_cons_zero, List.set_cons_succ]
                  refine wpAnyH_take2 (i := 9) (t := 24) (v := ?_) rfl rfl (by kernel_rfl) (by kernel_rfl) (by kernel_rfl) (fun _ _ _ h => Only.not_panic h) (Or.inl ⟨by kernel_rfl, fun W hW => ?_⟩) (by assumption) ?_
                  rotate_left
                  · have hW2 := hW
                    have c0 := HS.out W hW2
                    clear hW hW2
                    go_simp
                    try with_reducible rfl
                  try simp only [Act.put, List.setIfInBounds_toArray, List.set_cons_zero, List.set_cons_succ]
                  refine wpAnyH_take2 (i := 10) (t := 25) (v := ?_) rfl rfl (by kernel_rfl) (by kernel_rfl) (by kernel_rfl) (fun _ _ _ h => Only.not_panic h) (Or.inl ⟨by kernel_rfl, fun W hW => ?_⟩) (by assumption) ?_
                  rotate_left
                  · have hW2 := hW
                    have c0 := HS.out W hW2
                    clear hW hW2
                    go_simp
                    try with_reducible rfl
                  try simp only [Act.put, List.setIfInBounds_toArray, List.set_cons_zero, List.set_cons_succ]
                  refine wpAnyH_done (by kernel_rfl) (Only.mk ?_) _
                  go_wp2_with fail
                  go_meet
                  exact ⟨rfl, rfl, hHeld⟩
                exact AllReadyH.nil
              exact AllReadyH.nil
            case rest =>
              obtain ⟨rfl, rfl, hbc⟩ := hcut
              have c0 := HW.out _ hbc
              have BC := Lib.hid (B_trans BR.out hbc)
              generalize owK i = ow at c0 ⊢
              clear HS HC HW hbc
              go_wp2_with fail
              go_roundg (3 - (i + 1))
              case measure => omega
              case rel => exact ⟨i + 1, rfl, by push_cast; rfl, by omega, BC.out⟩
          · obtain rfl : i = 3 := by omega
            have B9 := Lib.hid (B_trans B8.out hbr)
            clear hbr OZ LZ
            go_wp2_with fail
            refine (HA.out _).mono ?_
            rintro e wz ⟨rfl, hbz⟩
            have BZ := Lib.hid (B_trans B9.out hbz)
            clear hbz
            go_wp2
            refine bodyPost_ret (v := .bool true) (by simp [results, Try.results8, go_sem]) rfl ⟨rfl, BZ.out⟩
end Go.Proofs.Ytanjkhclhcnnaaa


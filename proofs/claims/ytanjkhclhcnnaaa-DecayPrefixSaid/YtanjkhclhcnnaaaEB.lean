/- keeps of the law. -/
import Derived.Test.YtanjkhclhcnnaaaEA
namespace Go.Proofs.Ytanjkhclhcnnaaa
open Go.RowKit Go.Shelf

/-- A level keeps to a test if its grade differs by at most the error. -/
theorem keep_grade {r : RuA} {hs ws : List T2} (h : RuOK r hs ws) {g e n : Int} (hg : 0 ≤ g ∧ g ≤ 3) (he : 0 ≤ e ∧ e ≤ 3) (hn : 0 ≤ n ∧ n ≤ 1000000) : inB n (keepS r g e).1 (keepS r g e).2 = true ↔ ((gradeL r n : Nat) : Int) - g ≤ e ∧ g - ((gradeL r n : Nat) : Int) ≤ e := by
  obtain ⟨a, b, c, d⟩ := h.g
  obtain ⟨g1, g2⟩ := hg
  obtain ⟨e1, e2⟩ := he
  rw [inB_iff]
  unfold gradeL
  rcases (show g = 0 ∨ g = 1 ∨ g = 2 ∨ g = 3 by omega) with rfl | rfl | rfl | rfl <;> rcases (show e = 0 ∨ e = 1 ∨ e = 2 ∨ e = 3 by omega) with rfl | rfl | rfl | rfl <;> simp [keepS, grS] <;> split <;> (try split) <;> (try split) <;> simp <;> omega
set_option maxRecDepth 100000 in
set_option maxHeartbeats 8000000 in
theorem keeps_any (t : TkA) (hs ws : List T2) (ds : List T4) (ts : List T3) (ca : Option Addr) (cn cc : Nat) (cs : List Int) (m : Nat) (g e : Int) (w : World) (hR : TkR w t hs ws ds ts) (hok : (checkS t.r hs ws).2.2 = 0) (hC : Sl1 w ca cn cs) (hcn : cn ≤ 100000) (hm : m < cn) (hL : 0 ≤ cs.getD m 0 ∧ cs.getD m 0 ≤ 1000000) (hg : 0 ≤ g ∧ g ≤ 3) (he : 0 ≤ e ∧ e ≤ 3) :
    Calls Try.prog 42 #[.agg t.cs, .slice ca cn cc, .agg #[.int .i64 (t.first + (m : Int)), .int .i64 g, .int .i64 e]] w fun x w' => x = .returned (.bool (inB (cs.getD m 0) (keepS t.r g e).1 (keepS t.r g e).2)) ∧ Below w.heap.size w w' := by
  obtain ⟨w0, hw0⟩ : ∃ w0, ((w).alloc (.cells t.cs 31)).alloc (.cells #[.int .i64 (t.first + (m : Int)), .int .i64 g, .int .i64 e] 64) = w0 := ⟨_, rfl⟩
  have hb0 : Below w.heap.size w w0 := by rw [← hw0]; exact B_alloc (B_alloc (Below.refl _ _) _) _
  have o0 : Ob w0 (w.heap.size) 31 t.cs := by
    rw [← hw0]
    have h := Ob.new (w) t.cs 31
    replace h := h.alloc (.cells #[.int .i64 (t.first + (m : Int)), .int .i64 g, .int .i64 e] 64)
    exact h
  have o1 : Ob w0 (w.heap.size + 1) 64 #[.int .i64 (t.first + (m : Int)), .int .i64 g, .int .i64 e] := by
    rw [← hw0]
    have h := Ob.new ((w).alloc (.cells t.cs 31)) #[.int .i64 (t.first + (m : Int)), .int .i64 g, .int .i64 e] 64
    simp only [World.size_alloc] at h
    exact h
  have hO := RuOK.of hok
  have hk := keep_grade hO hg he hL
  obtain ⟨cb, co, rfl, hcb, hcc⟩ := hC.at_ (by omega)
  have y0 := (hb0.cell (p := ⟨cb, _, none⟩) hcb).trans (hcc m hm)
  have hcb0 : cb < w0.heap.size := Nat.lt_of_lt_of_le hcb hb0.size
  have HG' : ∀ W', Below w0.heap.size w0 W' → Calls Try.prog 25 #[.agg t.r.cs, .int .i64 (cs.getD m 0)] W' fun e w' => e = .returned (.tuple #[.int .i64 ((gradeL t.r (cs.getD m 0) : Nat) : Int), .int .i64 0]) ∧ Below W'.heap.size W' w' := fun W' hh => by
    have h := refGrade_any t.r hs ws (cs.getD m 0) W' (hR.r.below (B_trans hb0 hh))
    have e1 : gradeS t.r hs ws (cs.getD m 0) = (((gradeL t.r (cs.getD m 0) : Nat) : Int), (0 : Int)) := by
      unfold gradeS
      rw [if_neg (by simpa using hok), if_pos (by rw [inB_iff]; exact hL)]
    rw [e1] at h
    exact h
  have hgb : gradeL t.r (cs.getD m 0) ≤ 3 := by unfold gradeL; split <;> (try split) <;> (try split) <;> omega
  generalize cs.getD m 0 = L at hk y0 HG' hL hgb
  generalize gradeL t.r L = gl at hk HG' hgb
  have HG := Lib.hid HG'
  have u1 : IntKind.i64.wrap (t.first + (m : Int) - t.first) = m := by rw [show t.first + (m : Int) - t.first = m by omega]; exact IntWalk.i64_in _ (by omega)
  have HS := Lib.hid (fun (W' : World) (hh : Below w0.heap.size w0 W') => (show (W'.cell? ⟨w.heap.size, 0, none⟩ = some (.slice t.r.ha t.r.hn t.r.hc) ∧ W'.cell? ⟨w.heap.size, 1, none⟩ = some (.slice t.r.wa t.r.wn t.r.wc) ∧ W'.cell? ⟨w.heap.size, 2, none⟩ = some (.int .i64 t.r.own) ∧ W'.cell? ⟨w.heap.size, 3, none⟩ = some (.int .i64 t.r.feed) ∧ W'.cell? ⟨w.heap.size, 4, none⟩ = some (.int .i64 t.r.g0) ∧ W'.cell? ⟨w.heap.size, 5, none⟩ = some (.int .i64 t.r.g1) ∧ W'.cell? ⟨w.heap.size, 6, none⟩ = some (.int .i64 t.r.g2) ∧ W'.cell? ⟨w.heap.size, 7, none⟩ = some (.int .i64 t.r.lost) ∧ W'.cell? ⟨w.heap.size, 8, none⟩ = some (.int .i64 t.first) ∧ W'.cell? ⟨w.heap.size, 9, none⟩ = some (.slice t.da t.dn t.dc) ∧ W'.cell? ⟨w.heap.size, 10, none⟩ = some (.int .i64 t.lo) ∧ W'.cell? ⟨w.heap.size, 11, none⟩ = some (.int .i64 t.hi) ∧ W'.cell? ⟨w.heap.size, 12, none⟩ = some (.slice t.ta t.tn t.tc)) ∧ W'.cell? ⟨cb, co + m, none⟩ = some (.int .i64 L) from ⟨(o0.below hh).task, (hh.cell (p := ⟨cb, _, none⟩) hcb0).trans y0⟩))
  obtain ⟨f0, f1, f2, f3, f4, f5, f6, f7, f8, f9, f10, f11, f12⟩ := o0.task
  obtain ⟨z0, z1, z2⟩ : w0.cell? ⟨w.heap.size + 1, 0, none⟩ = some (.int .i64 (t.first + (m : Int))) ∧ w0.cell? ⟨w.heap.size + 1, 1, none⟩ = some (.int .i64 g) ∧ w0.cell? ⟨w.heap.size + 1, 2, none⟩ = some (.int .i64 e) := ⟨o1.cell 0, o1.cell 1, o1.cell 2⟩
  have a1 : (0 : Int) ≤ m := by omega
  have a2 : (m : Int) < cn := by omega
  have a3 : ¬ (m : Int) < 0 := by omega
  have a4 : ¬ (cn : Int) ≤ m := by omega
  have a5 : (m : Int) ≤ 100000 := by omega
  obtain ⟨g1, g2⟩ := hg
  obtain ⟨e1, e2⟩ := he
  obtain ⟨l1, l2⟩ := hL
  have gb1 : (0 : Int) ≤ gl := by omega
  have gb2 : (gl : Int) ≤ 3 := by omega
  have gO0 := o0.lt
  have gO1 := o1.lt
  replace o1 := Lib.hid o1
  replace hb0 := Lib.hid hb0
  replace hw0 := Lib.hid hw0
  have HKK := Lib.hid hk
  clear hR hC hcc HG' hk hok hO o0 hgb
  go_enter Try.func42, Try.ntmps42
  go_wp2_with fail
  rw [hw0.out]
  go_upto_region 4 with fail
  go_cut [8, 9] (fun a b wx => a = .int .i64 (gl : Int) ∧ b = .int .i64 0 ∧ Below w0.heap.size w0 wx)
  case first =>
    refine wp_region_held' (S := fun W' => Below w0.heap.size w0 W') (by kernel_rfl) ((Below.refl _ w0).drew) (fun hHeld => ?_)
    refine wpAnyH_take2 (i := 0) (t := 24) (v := ?_) rfl rfl (by kernel_rfl) (by kernel_rfl) (by kernel_rfl) (fun _ _ _ h => Only.not_panic h) (Or.inl ⟨by kernel_rfl, fun W hW => ?_⟩) (by assumption) ?_
    rotate_left
    · have hW2 := hW
      obtain ⟨⟨f0, f1, f2, f3, f4, f5, f6, f7, f8, f9, f10, f11, f12⟩, y0⟩ := HS.out W hW2
      clear hW hW2
      go_simp
      try with_reducible rfl
    try simp only [Act.put, List.setIfInBounds_toArray, List.set_cons_zero, List.set_cons_succ]
    refine wpAnyH_take2 (i := 1) (t := 25) (v := ?_) rfl rfl (by kernel_rfl) (by kernel_rfl) (by kernel_rfl) (fun _ _ _ h => Only.not_panic h) (Or.inl ⟨by kernel_rfl, fun W hW => ?_⟩) (by assumption) ?_
    rotate_left
    · have hW2 := hW
      obtain ⟨⟨f0, f1, f2, f3, f4, f5, f6, f7, f8, f9, f10, f11, f12⟩, y0⟩ := HS.out W hW2
      clear hW hW2
      go_simp
      try with_reducible rfl
    try simp only [Act.put, List.setIfInBounds_toArray, List.set_cons_zero, List.set_cons_succ]
    refine wpAnyH_take2 (i := 2) (t := 26) (v := ?_) rfl rfl (by kernel_rfl) (by kernel_rfl) (by kernel_rfl) (fun _ _ _ h => Only.not_panic h) (Or.inl ⟨by kernel_rfl, fun W hW => ?_⟩) (by assumption) ?_
    rotate_left
    · have hW2 := hW
      obtain ⟨⟨f0, f1, f2, f3, f4, f5, f6, f7, f8, f9, f10, f11, f12⟩, y0⟩ := HS.out W hW2
      clear hW hW2
      go_simp
      try with_reducible rfl
    try simp only [Act.put, List.setIfInBounds_toArray, List.set_cons_zero, List.set_cons_succ]
    refine wpAnyH_take2 (i := 3) (t := 27) (v := ?_) rfl rfl (by kernel_rfl) (by kernel_rfl) (by kernel_rfl) (fun _ _ _ h => Only.not_panic h) (Or.inl ⟨by kernel_rfl, fun W hW => ?_⟩) (by assumption) ?_
    rotate_left
    · have hW2 := hW
      obtain ⟨⟨f0, f1, f2, f3, f4, f5, f6, f7, f8, f9, f10, f11, f12⟩, y0⟩ := HS.out W hW2
      clear hW hW2
      go_simp
      try with_reducible rfl
    try simp only [Act.put, List.setIfInBounds_toArray, List.set_cons_zero, List.set_cons_succ]
    refine wpAnyH_take2 (i := 4) (t := 28) (v := ?_) rfl rfl (by kernel_rfl) (by kernel_rfl) (by kernel_rfl) (fun _ _ _ h => Only.not_panic h) (Or.inl ⟨by kernel_rfl, fun W hW => ?_⟩) (by assumption) ?_
    rotate_left
    · have hW2 := hW
      obtain ⟨⟨f0, f1, f2, f3, f4, f5, f6, f7, f8, f9, f10, f11, f12⟩, y0⟩ := HS.out W hW2
      clear hW hW2
      go_simp
      try with_reducible rfl
    try simp only [Act.put, List.setIfInBounds_toArray, List.set_cons_zero, List.set_cons_succ]
    refine wpAnyH_take2 (i := 5) (t := 29) (v := ?_) rfl rfl (by kernel_rfl) (by kernel_rfl) (by kernel_rfl) (fun _ _ _ h => Only.not_panic h) (Or.inl ⟨by kernel_rfl, fun W hW => ?_⟩) (by assumption) ?_
    rotate_left
    · have hW2 := hW
      obtain ⟨⟨f0, f1, f2, f3, f4, f5, f6, f7, f8, f9, f10, f11, f12⟩, y0⟩ := HS.out W hW2
      clear hW hW2
      go_simp
      try with_reducible rfl
    try simp only [Act.put, List.setIfInBounds_toArray, List.set_cons_zero, List.set_cons_succ]
    refine wpAnyH_ready (rs := [6]) (by kernel_rfl) (by simp) ?_
    refine AllReadyH.cons rfl (fun K hK => ?_) ?_
    · go_simp
      with_reducible refine (HG.out _ hHeld).mono ?_
      rintro ev w6 ⟨rfl, hb6⟩
      try simp only []
      refine hK.out _ _ ?_ (fun hHeld => ?_)
      · exact B_trans hHeld hb6
      clear hK K
      try simp only [Act.put, List.setIfInBounds_toArray, List.set_cons_zero, List.set_cons_succ]
      refine wpAnyH_take2 (i := 7) (t := 23) (v := ?_) rfl rfl (by kernel_rfl) (by kernel_rfl) (by kernel_rfl) (fun _ _ _ h => Only.not_panic h) (Or.inl ⟨by kernel_rfl, fun W hW => ?_⟩) (by assumption) ?_
      rotate_left
      · have hW2 := hW
        obtain ⟨⟨f0, f1, f2, f3, f4, f5, f6, f7, f8, f9, f10, f11, f12⟩, y0⟩ := HS.out W hW2
        clear hW hW2
        go_simp
        try with_reducible rfl
      try simp only [Act.put, List.setIfInBounds_toArray, List.set_cons_zero, List.set_cons_succ]
      refine wpAnyH_take2 (i := 8) (t := 31) (v := ?_) rfl rfl (by kernel_rfl) (by kernel_rfl) (by kernel_rfl) (fun _ _ _ h => Only.not_panic h) (Or.inl ⟨by kernel_rfl, fun W hW => ?_⟩) (by assumption) ?_
      rotate_left
      · have hW2 := hW
        obtain ⟨⟨f0, f1, f2, f3, f4, f5, f6, f7, f8, f9, f10, f11, f12⟩, y0⟩ := HS.out W hW2
        clear hW hW2
        go_simp
        try with_reducible rfl
      try simp only [Act.put, List.setIfInBounds_toArray, List.set_cons_zero, List.set_cons_succ]
      refine wpAnyH_take2 (i := 9) (t := 32) (v := ?_) rfl rfl (by kernel_rfl) (by kernel_rfl) (by kernel_rfl) (fun _ _ _ h => Only.not_panic h) (Or.inl ⟨by kernel_rfl, fun W hW => ?_⟩) (by assumption) ?_
      rotate_left
      · have hW2 := hW
        obtain ⟨⟨f0, f1, f2, f3, f4, f5, f6, f7, f8, f9, f10, f11, f12⟩, y0⟩ := HS.out W hW2
        clear hW hW2
        go_simp
        try with_reducible rfl
      try simp only [Act.put, List.setIfInBounds_toArray, List.set_cons_zero, List.set_cons_succ]
      refine wpAnyH_take2 (i := 10) (t := 8) (v := ?_) rfl rfl (by kernel_rfl) (by kernel_rfl) (by kernel_rfl) (fun _ _ _ h => Only.not_panic h) (Or.inl ⟨by kernel_rfl, fun W hW => ?_⟩) (by assumption) ?_
      rotate_left
      · have hW2 := hW
        obtain ⟨⟨f0, f1, f2, f3, f4, f5, f6, f7, f8, f9, f10, f11, f12⟩, y0⟩ := HS.out W hW2
        clear hW hW2
        go_simp
        try with_reducible rfl
      try simp only [Act.put, List.setIfInBounds_toArray, List.set_cons_zero, List.set_cons_succ]
      refine wpAnyH_take2 (i := 11) (t := 9) (v := ?_) rfl rfl (by kernel_rfl) (by kernel_rfl) (by kernel_rfl) (fun _ _ _ h => Only.not_panic h) (Or.inl ⟨by kernel_rfl, fun W hW => ?_⟩) (by assumption) ?_
      rotate_left
      · have hW2 := hW
        obtain ⟨⟨f0, f1, f2, f3, f4, f5, f6, f7, f8, f9, f10, f11, f12⟩, y0⟩ := HS.out W hW2
        clear hW hW2
        go_simp
        try with_reducible rfl
      try simp only [Act.put, List.setIfInBounds_toArray, List.set_cons_zero, List.set_cons_succ]
      refine wpAnyH_done (by kernel_rfl) (Only.mk ?_) _
      go_wp2_with fail
      go_meet
      exact ⟨rfl, rfl, hHeld⟩
    exact AllReadyH.nil
  case rest =>
    clear HS HG f0 f1 f2 f3 f4 f5 f6 f7 f8 f9 f10 f11 f12 y0 z0 z1 z2
    obtain ⟨rfl, rfl, hbx⟩ := hcut
    obtain ⟨z0, z1, z2⟩ : wc.cell? ⟨w.heap.size + 1, 0, none⟩ = some (.int .i64 (t.first + (m : Int))) ∧ wc.cell? ⟨w.heap.size + 1, 1, none⟩ = some (.int .i64 g) ∧ wc.cell? ⟨w.heap.size + 1, 2, none⟩ = some (.int .i64 e) := ⟨(o1.out.below hbx).cell 0, (o1.out.below hbx).cell 1, (o1.out.below hbx).cell 2⟩
    have BX := Lib.hid hbx
    clear hbx
    by_cases h1 : (gl : Int) - g ≤ e
    · by_cases h2 : g - (gl : Int) ≤ e
      · have HB : Hid (inB L (keepS t.r g e).1 (keepS t.r g e).2 = true) := HKK.out.2 ⟨h1, h2⟩
        go_wp2_with fail
        refine bodyPost_ret (v := .bool true) (by simp [results, Try.results42, go_sem]) rfl ⟨by rw [HB.out], B_trans hb0.out BX.out⟩
      · have HB : Hid (inB L (keepS t.r g e).1 (keepS t.r g e).2 = false) := by
          rw [Hid, ← Bool.not_eq_true]
          exact fun h => h2 (HKK.out.1 h).2
        go_wp2_with fail
        refine bodyPost_ret (v := .bool false) (by simp [results, Try.results42, go_sem]) rfl ⟨by rw [HB.out], B_trans hb0.out BX.out⟩
    · have HB : Hid (inB L (keepS t.r g e).1 (keepS t.r g e).2 = false) := by
        rw [Hid, ← Bool.not_eq_true]
        exact fun h => h1 (HKK.out.1 h).1
      go_wp2_with fail
      refine bodyPost_ret (v := .bool false) (by simp [results, Try.results42, go_sem]) rfl ⟨by rw [HB.out], B_trans hb0.out BX.out⟩
end Go.Proofs.Ytanjkhclhcnnaaa

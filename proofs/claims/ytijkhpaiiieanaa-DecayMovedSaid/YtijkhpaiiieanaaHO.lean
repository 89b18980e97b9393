/- Small walks for DecayMoved: span, lower and later of the law. -/
import Derived.Test.YtijkhpaiiieanaaHX
import Derived.Test.YtijkhpaiiieanaaHP
namespace Go.Proofs.Ytijkhpaiiieanaa
open Go.RowKit Go.Shelf

theorem Ob.day {W : World} {B : Nat} {T : TypeId} {a b c d : Int} (h : Ob W B T #[.int .i64 a, .int .i64 b, .int .i64 c, .int .i64 d]) : W.cell? ⟨B, 0, none⟩ = some (.int .i64 a) ∧ W.cell? ⟨B, 1, none⟩ = some (.int .i64 b) ∧ W.cell? ⟨B, 2, none⟩ = some (.int .i64 c) ∧ W.cell? ⟨B, 3, none⟩ = some (.int .i64 d) := ⟨h.cell 0, h.cell 1, h.cell 2, h.cell 3⟩
theorem Ob.span {W : World} {B : Nat} {T : TypeId} {a b : Int} (h : Ob W B T #[.int .i64 a, .int .i64 b]) : W.cell? ⟨B, 0, none⟩ = some (.int .i64 a) ∧ W.cell? ⟨B, 1, none⟩ = some (.int .i64 b) ∧ W.frozen? ⟨B, 0, none⟩ = false ∧ W.frozen? ⟨B, 1, none⟩ = false := ⟨h.cell 0, h.cell 1, h.frozen 0, h.frozen 1⟩
set_option maxRecDepth 100000 in
theorem lawSpan_any (a b : Int) (w : World) : Calls Try.prog 10 #[.int .i64 a, .int .i64 b] w fun e w' => e = .returned (.agg #[.int .i64 a, .int .i64 b]) ∧ Below w.heap.size w w' := by
  go_enter Try.func10, Try.ntmps10
  go_wp2
  refine bodyPost_ret (v := .agg #[.int .i64 a, .int .i64 b]) (by simp [results, Try.results10, go_sem]) rfl ⟨rfl, ?_⟩
  exact B_alloc (Below.refl _ _) _


set_option maxRecDepth 100000 in
set_option maxHeartbeats 4000000 in
theorem later_any (a b : Int) (w : World) : Calls Try.prog 14 #[.int .i64 a, .int .i64 b] w fun e w' => e = .returned (.bool (lateB a b)) ∧ Below w.heap.size w w' := by
  have HL : Hid (lateB a b = (decide (a < 0) || (decide (0 ≤ b) && decide (b ≤ a)))) := rfl
  go_enter Try.func14, Try.ntmps14
  by_cases h1 : a < 0
  · go_wp2
    refine bodyPost_ret (v := .bool true) (by simp [results, Try.results14, go_sem]) rfl ⟨by rw [HL.out]; simp [h1], Below.refl _ _⟩
  · by_cases h2 : 0 ≤ b
    · go_wp2
      refine bodyPost_ret (v := .bool (decide (b ≤ a))) (by simp [results, Try.results14, go_sem]) rfl ⟨by rw [HL.out, decide_eq_false (show ¬ a < 0 by omega)]; simp [h2], Below.refl _ _⟩
    · go_wp2
      refine bodyPost_ret (v := .bool false) (by simp [results, Try.results14, go_sem]) rfl ⟨by rw [HL.out, decide_eq_false (show ¬ a < 0 by omega), decide_eq_false (show ¬ 0 ≤ b by omega)]; rfl, Below.refl _ _⟩

set_option maxRecDepth 100000 in
set_option maxHeartbeats 4000000 in
theorem lower_any (d : T4) (a b : Int) (w : World) (ha : 0 ≤ a ∧ a ≤ 255) (hb : 0 ≤ b ∧ b ≤ 255) (hd : dayE d = 0) : Calls Try.prog 13 #[.agg #[.int .i64 d.1, .int .i64 d.2.1, .int .i64 d.2.2.1, .int .i64 d.2.2.2], .agg #[.int .u8 a, .int .u8 b]] w fun e w' => e = .returned (.agg #[.int .i64 (lowerF d a b).1, .int .i64 (lowerF d a b).2.1, .int .i64 (lowerF d a b).2.2.1, .int .i64 (lowerF d a b).2.2.2]) ∧ Below w.heap.size w w' := by
  have hbd := day_bd hd
  have HL : Hid (lowerF d a b = (max (-300) (d.1 - a), max (-300) (d.2.1 - a), max 0 (d.2.2.1 - b), max 0 (d.2.2.2 - b))) := rfl
  rw [HL.out]
  clear hd HL
  obtain ⟨d0, d1, d2, d3⟩ := d
  simp only at hbd ⊢
  obtain ⟨m0, hm0⟩ : ∃ m0, max (-300) (d0 - a) = m0 := ⟨_, rfl⟩
  obtain ⟨m1, hm1⟩ : ∃ m1, max (-300) (d1 - a) = m1 := ⟨_, rfl⟩
  obtain ⟨m2, hm2⟩ : ∃ m2, max 0 (d2 - b) = m2 := ⟨_, rfl⟩
  obtain ⟨m3, hm3⟩ : ∃ m3, max 0 (d3 - b) = m3 := ⟨_, rfl⟩
  rw [hm0, hm1, hm2, hm3]
  have M := Lib.hid (And.intro hm0 (And.intro hm1 (And.intro hm2 hm3)))
  have HSp := Lib.hid (fun x y W' => lawSpan_any x y W')
  obtain ⟨w0, hw0⟩ : ∃ w0, ((w.alloc (.cells #[.int .i64 d0, .int .i64 d1, .int .i64 d2, .int .i64 d3] 45)).alloc (.cells #[.int .u8 a, .int .u8 b] 41)).alloc (.cells #[.int .i64 0, .int .i64 0, .int .i64 0, .int .i64 0] 45) = w0 := ⟨_, rfl⟩
  have hb0 : Below w.heap.size w w0 := by rw [← hw0]; exact B_alloc (B_alloc (B_alloc (Below.refl _ _) _) _) _
  have o0 : Ob w0 w.heap.size 45 #[.int .i64 d0, .int .i64 d1, .int .i64 d2, .int .i64 d3] := by rw [← hw0]; exact ((Ob.new _ _ _).alloc _).alloc _
  have o1 : Ob w0 (w.heap.size + 1) 41 #[.int .u8 a, .int .u8 b] := by
    rw [← hw0]
    have h := (Ob.new (w.alloc (.cells #[.int .i64 d0, .int .i64 d1, .int .i64 d2, .int .i64 d3] 45)) #[.int .u8 a, .int .u8 b] 41).alloc (.cells #[.int .i64 0, .int .i64 0, .int .i64 0, .int .i64 0] 45)
    simpa using h
  have o2 : Ob w0 (w.heap.size + 1 + 1) 45 #[.int .i64 0, .int .i64 0, .int .i64 0, .int .i64 0] := by
    rw [← hw0]
    have h := Ob.new ((w.alloc (.cells #[.int .i64 d0, .int .i64 d1, .int .i64 d2, .int .i64 d3] 45)).alloc (.cells #[.int .u8 a, .int .u8 b] 41)) #[.int .i64 0, .int .i64 0, .int .i64 0, .int .i64 0] 45
    simpa using h
  obtain ⟨z0, z1⟩ : w0.cell? ⟨w.heap.size + 1, 0, none⟩ = some (.int .u8 a) ∧ w0.cell? ⟨w.heap.size + 1, 1, none⟩ = some (.int .u8 b) := ⟨o1.cell 0, o1.cell 1⟩
  have W0 := Lib.hid hw0
  have B0 := Lib.hid hb0
  have O0 := Lib.hid (And.intro o0 o2)
  have gO := o2.lt
  obtain ⟨a0, a1⟩ := ha
  obtain ⟨b0, b1⟩ := hb
  obtain ⟨⟨c0, c1, c2⟩, c3, c4, c5⟩ := hbd
  have u0 : IntKind.i64.wrap (d0 - a) = d0 - a := IntWalk.i64_in _ (by omega)
  have u1 : IntKind.i64.wrap (d1 - a) = d1 - a := IntWalk.i64_in _ (by omega)
  have u2 : IntKind.i64.wrap (d2 - b) = d2 - b := IntWalk.i64_in _ (by omega)
  have u3 : IntKind.i64.wrap (d3 - b) = d3 - b := IntWalk.i64_in _ (by omega)
  have u4 : IntKind.i64.wrap a = a := IntWalk.i64_in _ (by omega)
  have u5 : IntKind.i64.wrap b = b := IntWalk.i64_in _ (by omega)
  clear hw0 hb0 o0 o1 o2 hm0 hm1 hm2 hm3
  go_enter Try.func13, Try.ntmps13
  go_wp2_with fail
  rw [W0.out]
  go_quiet (fail)
  clear z0 z1
  go_upto_region 2 with fail
  have o9 := Lib.hid (O0.out.2.drewN nq).drew
  refine wp_region_held' (S := fun W' => Below w.heap.size w W' ∧ Ob W' w.heap.size 45 #[.int .i64 d0, .int .i64 d1, .int .i64 d2, .int .i64 d3]) (by kernel_rfl) (⟨(below_drewN B0.out nq).drew, (O0.out.1.drewN nq).drew⟩) (fun hHeld => ?_)
  refine wpAnyH_take2 (i := 0) (t := 13) (v := ?_) rfl rfl (by kernel_rfl) (by kernel_rfl) (by kernel_rfl) (fun _ _ _ h => Only.not_panic h) (Or.inl ⟨by kernel_rfl, fun W hW => ?_⟩) (by assumption) ?_
  rotate_left
  · have hW2 := hW
    obtain ⟨y0, y1, y2, y3⟩ := hW2.2.day
    clear hW hW2
    go_simp
    try with_reducible rfl
  try simp only [Act.put, List.setIfInBounds_toArray, List.set_cons_zero, List.set_cons_succ]
  refine wpAnyH_take2 (i := 1) (t := 14) (v := ?_) rfl rfl (by kernel_rfl) (by kernel_rfl) (by kernel_rfl) (fun _ _ _ h => Only.not_panic h) (Or.inl ⟨by kernel_rfl, fun W hW => ?_⟩) (by assumption) ?_
  rotate_left
  · have hW2 := hW
    obtain ⟨y0, y1, y2, y3⟩ := hW2.2.day
    clear hW hW2
    go_simp
    try with_reducible rfl
  try simp only [Act.put, List.setIfInBounds_toArray, List.set_cons_zero, List.set_cons_succ]
  refine wpAnyH_take2 (i := 2) (t := 15) (v := ?_) rfl rfl (by kernel_rfl) (by kernel_rfl) (by kernel_rfl) (fun _ _ _ h => Only.not_panic h) (Or.inl ⟨by kernel_rfl, fun W hW => ?_⟩) (by assumption) ?_
  rotate_left
  · have hW2 := hW
    obtain ⟨y0, y1, y2, y3⟩ := hW2.2.day
    clear hW hW2
    go_simp
    try with_reducible rfl
  try simp only [Act.put, List.setIfInBounds_toArray, List.set_cons_zero, List.set_cons_succ]
  refine wpAnyH_take2 (i := 3) (t := 16) (v := ?_) rfl rfl (by kernel_rfl) (by kernel_rfl) (by kernel_rfl) (fun _ _ _ h => Only.not_panic h) (Or.inl ⟨by kernel_rfl, fun W hW => ?_⟩) (by assumption) ?_
  rotate_left
  · have hW2 := hW
    obtain ⟨y0, y1, y2, y3⟩ := hW2.2.day
    clear hW hW2
    go_simp
    try with_reducible rfl
  try simp only [Act.put, List.setIfInBounds_toArray, List.set_cons_zero, List.set_cons_succ]
  refine wpAnyH_take2 (i := 4) (t := 17) (v := ?_) rfl rfl (by kernel_rfl) (by kernel_rfl) (by kernel_rfl) (fun _ _ _ h => Only.not_panic h) (Or.inl ⟨by kernel_rfl, fun W hW => ?_⟩) (by assumption) ?_
  rotate_left
  · have hW2 := hW
    obtain ⟨y0, y1, y2, y3⟩ := hW2.2.day
    clear hW hW2
    go_simp
    try with_reducible rfl
  try simp only [Act.put, List.setIfInBounds_toArray, List.set_cons_zero, List.set_cons_succ]
  refine wpAnyH_take2 (i := 5) (t := 18) (v := .int .i64 m0) rfl rfl (by kernel_rfl) (by kernel_rfl) (by kernel_rfl) (fun _ _ _ h => Only.not_panic h) (Or.inl ⟨by kernel_rfl, fun W hW => ?_⟩) (by assumption) ?_
  · have hW2 := hW
    obtain ⟨y0, y1, y2, y3⟩ := hW2.2.day
    clear hW hW2
    go_simp
    have hm := M.out.1; clear M; first | exact hm | (split <;> omega)
  try simp only [Act.put, List.setIfInBounds_toArray, List.set_cons_zero, List.set_cons_succ]
  refine wpAnyH_take2 (i := 6) (t := 19) (v := ?_) rfl rfl (by kernel_rfl) (by kernel_rfl) (by kernel_rfl) (fun _ _ _ h => Only.not_panic h) (Or.inl ⟨by kernel_rfl, fun W hW => ?_⟩) (by assumption) ?_
  rotate_left
  · have hW2 := hW
    obtain ⟨y0, y1, y2, y3⟩ := hW2.2.day
    clear hW hW2
    go_simp
    try with_reducible rfl
  try simp only [Act.put, List.setIfInBounds_toArray, List.set_cons_zero, List.set_cons_succ]
  refine wpAnyH_take2 (i := 7) (t := 20) (v := ?_) rfl rfl (by kernel_rfl) (by kernel_rfl) (by kernel_rfl) (fun _ _ _ h => Only.not_panic h) (Or.inl ⟨by kernel_rfl, fun W hW => ?_⟩) (by assumption) ?_
  rotate_left
  · have hW2 := hW
    obtain ⟨y0, y1, y2, y3⟩ := hW2.2.day
    clear hW hW2
    go_simp
    try with_reducible rfl
  try simp only [Act.put, List.setIfInBounds_toArray, List.set_cons_zero, List.set_cons_succ]
  refine wpAnyH_take2 (i := 8) (t := 21) (v := ?_) rfl rfl (by kernel_rfl) (by kernel_rfl) (by kernel_rfl) (fun _ _ _ h => Only.not_panic h) (Or.inl ⟨by kernel_rfl, fun W hW => ?_⟩) (by assumption) ?_
  rotate_left
  · have hW2 := hW
    obtain ⟨y0, y1, y2, y3⟩ := hW2.2.day
    clear hW hW2
    go_simp
    try with_reducible rfl
  try simp only [Act.put, List.setIfInBounds_toArray, List.set_cons_zero, List.set_cons_succ]
  refine wpAnyH_take2 (i := 9) (t := 22) (v := ?_) rfl rfl (by kernel_rfl) (by kernel_rfl) (by kernel_rfl) (fun _ _ _ h => Only.not_panic h) (Or.inl ⟨by kernel_rfl, fun W hW => ?_⟩) (by assumption) ?_
  rotate_left
  · have hW2 := hW
    obtain ⟨y0, y1, y2, y3⟩ := hW2.2.day
    clear hW hW2
    go_simp
    try with_reducible rfl
  try simp only [Act.put, List.setIfInBounds_toArray, List.set_cons_zero, List.set_cons_succ]
  refine wpAnyH_take2 (i := 10) (t := 23) (v := ?_) rfl rfl (by kernel_rfl) (by kernel_rfl) (by kernel_rfl) (fun _ _ _ h => Only.not_panic h) (Or.inl ⟨by kernel_rfl, fun W hW => ?_⟩) (by assumption) ?_
  rotate_left
  · have hW2 := hW
    obtain ⟨y0, y1, y2, y3⟩ := hW2.2.day
    clear hW hW2
    go_simp
    try with_reducible rfl
  try simp only [Act.put, List.setIfInBounds_toArray, List.set_cons_zero, List.set_cons_succ]
  refine wpAnyH_take2 (i := 11) (t := 24) (v := .int .i64 m1) rfl rfl (by kernel_rfl) (by kernel_rfl) (by kernel_rfl) (fun _ _ _ h => Only.not_panic h) (Or.inl ⟨by kernel_rfl, fun W hW => ?_⟩) (by assumption) ?_
  · have hW2 := hW
    obtain ⟨y0, y1, y2, y3⟩ := hW2.2.day
    clear hW hW2
    go_simp
    have hm := M.out.2.1; clear M; first | exact hm | (split <;> omega)
  try simp only [Act.put, List.setIfInBounds_toArray, List.set_cons_zero, List.set_cons_succ]
  refine wpAnyH_take2 (i := 13) (t := 26) (v := ?_) rfl rfl (by kernel_rfl) (by kernel_rfl) (by kernel_rfl) (fun _ _ _ h => Only.not_panic h) (Or.inl ⟨by kernel_rfl, fun W hW => ?_⟩) (by assumption) ?_
  rotate_left
  · have hW2 := hW
    obtain ⟨y0, y1, y2, y3⟩ := hW2.2.day
    clear hW hW2
    go_simp
    try with_reducible rfl
  try simp only [Act.put, List.setIfInBounds_toArray, List.set_cons_zero, List.set_cons_succ]
  refine wpAnyH_take2 (i := 14) (t := 27) (v := ?_) rfl rfl (by kernel_rfl) (by kernel_rfl) (by kernel_rfl) (fun _ _ _ h => Only.not_panic h) (Or.inl ⟨by kernel_rfl, fun W hW => ?_⟩) (by assumption) ?_
  rotate_left
  · have hW2 := hW
    obtain ⟨y0, y1, y2, y3⟩ := hW2.2.day
    clear hW hW2
    go_simp
    try with_reducible rfl
  try simp only [Act.put, List.setIfInBounds_toArray, List.set_cons_zero, List.set_cons_succ]
  refine wpAnyH_take2 (i := 15) (t := 28) (v := ?_) rfl rfl (by kernel_rfl) (by kernel_rfl) (by kernel_rfl) (fun _ _ _ h => Only.not_panic h) (Or.inl ⟨by kernel_rfl, fun W hW => ?_⟩) (by assumption) ?_
  rotate_left
  · have hW2 := hW
    obtain ⟨y0, y1, y2, y3⟩ := hW2.2.day
    clear hW hW2
    go_simp
    try with_reducible rfl
  try simp only [Act.put, List.setIfInBounds_toArray, List.set_cons_zero, List.set_cons_succ]
  refine wpAnyH_take2 (i := 16) (t := 29) (v := ?_) rfl rfl (by kernel_rfl) (by kernel_rfl) (by kernel_rfl) (fun _ _ _ h => Only.not_panic h) (Or.inl ⟨by kernel_rfl, fun W hW => ?_⟩) (by assumption) ?_
  rotate_left
  · have hW2 := hW
    obtain ⟨y0, y1, y2, y3⟩ := hW2.2.day
    clear hW hW2
    go_simp
    try with_reducible rfl
  try simp only [Act.put, List.setIfInBounds_toArray, List.set_cons_zero, List.set_cons_succ]
  refine wpAnyH_take2 (i := 17) (t := 30) (v := ?_) rfl rfl (by kernel_rfl) (by kernel_rfl) (by kernel_rfl) (fun _ _ _ h => Only.not_panic h) (Or.inl ⟨by kernel_rfl, fun W hW => ?_⟩) (by assumption) ?_
  rotate_left
  · have hW2 := hW
    obtain ⟨y0, y1, y2, y3⟩ := hW2.2.day
    clear hW hW2
    go_simp
    try with_reducible rfl
  try simp only [Act.put, List.setIfInBounds_toArray, List.set_cons_zero, List.set_cons_succ]
  refine wpAnyH_take2 (i := 18) (t := 31) (v := .int .i64 m2) rfl rfl (by kernel_rfl) (by kernel_rfl) (by kernel_rfl) (fun _ _ _ h => Only.not_panic h) (Or.inl ⟨by kernel_rfl, fun W hW => ?_⟩) (by assumption) ?_
  · have hW2 := hW
    obtain ⟨y0, y1, y2, y3⟩ := hW2.2.day
    clear hW hW2
    go_simp
    have hm := M.out.2.2.1; clear M; first | exact hm | (split <;> omega)
  try simp only [Act.put, List.setIfInBounds_toArray, List.set_cons_zero, List.set_cons_succ]
  refine wpAnyH_take2 (i := 19) (t := 32) (v := ?_) rfl rfl (by kernel_rfl) (by kernel_rfl) (by kernel_rfl) (fun _ _ _ h => Only.not_panic h) (Or.inl ⟨by kernel_rfl, fun W hW => ?_⟩) (by assumption) ?_
  rotate_left
  · have hW2 := hW
    obtain ⟨y0, y1, y2, y3⟩ := hW2.2.day
    clear hW hW2
    go_simp
    try with_reducible rfl
  try simp only [Act.put, List.setIfInBounds_toArray, List.set_cons_zero, List.set_cons_succ]
  refine wpAnyH_take2 (i := 20) (t := 33) (v := ?_) rfl rfl (by kernel_rfl) (by kernel_rfl) (by kernel_rfl) (fun _ _ _ h => Only.not_panic h) (Or.inl ⟨by kernel_rfl, fun W hW => ?_⟩) (by assumption) ?_
  rotate_left
  · have hW2 := hW
    obtain ⟨y0, y1, y2, y3⟩ := hW2.2.day
    clear hW hW2
    go_simp
    try with_reducible rfl
  try simp only [Act.put, List.setIfInBounds_toArray, List.set_cons_zero, List.set_cons_succ]
  refine wpAnyH_take2 (i := 21) (t := 34) (v := ?_) rfl rfl (by kernel_rfl) (by kernel_rfl) (by kernel_rfl) (fun _ _ _ h => Only.not_panic h) (Or.inl ⟨by kernel_rfl, fun W hW => ?_⟩) (by assumption) ?_
  rotate_left
  · have hW2 := hW
    obtain ⟨y0, y1, y2, y3⟩ := hW2.2.day
    clear hW hW2
    go_simp
    try with_reducible rfl
  try simp only [Act.put, List.setIfInBounds_toArray, List.set_cons_zero, List.set_cons_succ]
  refine wpAnyH_take2 (i := 22) (t := 35) (v := ?_) rfl rfl (by kernel_rfl) (by kernel_rfl) (by kernel_rfl) (fun _ _ _ h => Only.not_panic h) (Or.inl ⟨by kernel_rfl, fun W hW => ?_⟩) (by assumption) ?_
  rotate_left
  · have hW2 := hW
    obtain ⟨y0, y1, y2, y3⟩ := hW2.2.day
    clear hW hW2
    go_simp
    try with_reducible rfl
  try simp only [Act.put, List.setIfInBounds_toArray, List.set_cons_zero, List.set_cons_succ]
  refine wpAnyH_take2 (i := 23) (t := 36) (v := ?_) rfl rfl (by kernel_rfl) (by kernel_rfl) (by kernel_rfl) (fun _ _ _ h => Only.not_panic h) (Or.inl ⟨by kernel_rfl, fun W hW => ?_⟩) (by assumption) ?_
  rotate_left
  · have hW2 := hW
    obtain ⟨y0, y1, y2, y3⟩ := hW2.2.day
    clear hW hW2
    go_simp
    try with_reducible rfl
  try simp only [Act.put, List.setIfInBounds_toArray, List.set_cons_zero, List.set_cons_succ]
  refine wpAnyH_take2 (i := 24) (t := 37) (v := .int .i64 m3) rfl rfl (by kernel_rfl) (by kernel_rfl) (by kernel_rfl) (fun _ _ _ h => Only.not_panic h) (Or.inl ⟨by kernel_rfl, fun W hW => ?_⟩) (by assumption) ?_
  · have hW2 := hW
    obtain ⟨y0, y1, y2, y3⟩ := hW2.2.day
    clear hW hW2
    go_simp
    have hm := M.out.2.2.2; clear M; first | exact hm | (split <;> omega)
  try simp only [Act.put, List.setIfInBounds_toArray, List.set_cons_zero, List.set_cons_succ]
  refine wpAnyH_ready (rs := [12]) (by kernel_rfl) (by simp) ?_
  refine AllReadyH.cons rfl (fun K hK => ?_) ?_
  · go_simp
    with_reducible refine (HSp.out m0 m1 _).mono ?_
    rintro ev w12 ⟨rfl, hb12⟩
    try simp only []
    replace o9 := Lib.hid (o9.out.below hb12)
    refine hK.out _ _ ?_ (fun hHeld => ?_)
    · exact ⟨B_trans hHeld.1 hb12, hHeld.2.below hb12⟩
    clear hK K
    try simp only [Act.put, List.setIfInBounds_toArray, List.set_cons_zero, List.set_cons_succ]
    refine wpAnyH_ready (rs := [25]) (by kernel_rfl) (by simp) ?_
    refine AllReadyH.cons rfl (fun K hK => ?_) ?_
    · go_simp
      with_reducible refine (HSp.out m2 m3 _).mono ?_
      rintro ev w25 ⟨rfl, hb25⟩
      try simp only []
      replace o9 := Lib.hid (o9.out.below hb25)
      refine hK.out _ _ ?_ (fun hHeld => ?_)
      · exact ⟨B_trans hHeld.1 hb25, hHeld.2.below hb25⟩
      clear hK K
      try simp only [Act.put, List.setIfInBounds_toArray, List.set_cons_zero, List.set_cons_succ]
      refine wpAnyH_take2 (i := 26) (t := 39) (v := ?_) rfl rfl (by kernel_rfl) (by kernel_rfl) (by kernel_rfl) (fun _ _ _ h => Only.not_panic h) (Or.inl ⟨by kernel_rfl, fun W hW => ?_⟩) (by assumption) ?_
      rotate_left
      · have hW2 := hW
        obtain ⟨y0, y1, y2, y3⟩ := hW2.2.day
        clear hW hW2
        go_simp
        try with_reducible rfl
      try simp only [Act.put, List.setIfInBounds_toArray, List.set_cons_zero, List.set_cons_succ]
      refine wpAnyH_ready (rs := [27]) (by kernel_rfl) (by simp) ?_
      refine AllReadyH.cons rfl (fun K hK => ?_) ?_
      · have v0 := o9.out.cell 0
        have g0 := o9.out.frozen 0
        have v1 := o9.out.cell 1
        have g1 := o9.out.frozen 1
        have v2 := o9.out.cell 2
        have g2 := o9.out.frozen 2
        have v3 := o9.out.cell 3
        have g3 := o9.out.frozen 3
        simp only [List.getElem?_toArray, List.getElem?_cons_zero, List.getElem?_cons_succ] at v0 v1 v2 v3
        have o9' := Lib.hid (show Ob (((((w25).setCell ⟨w.heap.size + 1 + 1, 0, none⟩ (.int .i64 m0)).setCell ⟨w.heap.size + 1 + 1, 1, none⟩ (.int .i64 m1)).setCell ⟨w.heap.size + 1 + 1, 2, none⟩ (.int .i64 m2)).setCell ⟨w.heap.size + 1 + 1, 3, none⟩ (.int .i64 m3)) (w.heap.size + 1 + 1) 45 #[.int .i64 m0, .int .i64 m1, .int .i64 m2, .int .i64 m3] from ((((o9.out).set 0 _).set 1 _).set 2 _).set 3 _)
        go_simp
        replace o9 := o9'
        clear o9' v0 v1 v2 v3 g0 g1 g2 g3
        refine hK.out _ _ ?_ (fun hHeld => ?_)
        · exact ⟨((((hHeld.1).setCell (by first | omega | (simp only; omega)) _).setCell (by first | omega | (simp only; omega)) _).setCell (by first | omega | (simp only; omega)) _).setCell (by first | omega | (simp only; omega)) _, ((((hHeld.2).other (by first | omega | (simp only; omega)) _).other (by first | omega | (simp only; omega)) _).other (by first | omega | (simp only; omega)) _).other (by first | omega | (simp only; omega)) _⟩
        clear hK K
        try simp only [Act.put, List.setIfInBounds_toArray, List.set_cons_zero, List.set_cons_succ]
        refine wpAnyH_done (by kernel_rfl) (Only.mk ?_) _
        obtain ⟨v0, v1, v2, v3⟩ := o9.out.day
        go_wp2
        refine bodyPost_ret (v := .agg #[.int .i64 m0, .int .i64 m1, .int .i64 m2, .int .i64 m3]) (by simp [results, Try.results13, go_sem, v0, v1, v2, v3]) rfl ⟨rfl, hHeld.1⟩
      exact AllReadyH.nil
    exact AllReadyH.nil
  exact AllReadyH.nil
end Go.Proofs.Ytijkhpaiiieanaa

/- checkGrades of the code. -/
import Derived.Test.YtanjkhclhcnnaaaWF
namespace Go.Proofs.Ytanjkhclhcnnaaa
open Go.RowKit Go.Shelf

def gradeE (g0 g1 g2 : Int) : Nat → Int
  | 0 => if inB g0 1 1000000 then 0 else 7
  | 1 => if inB g1 1 1000000 then (if decide (g1 ≤ g0) then 2 else 0) else 7
  | 2 => if inB g2 1 1000000 then (if decide (g2 ≤ g1) then 2 else 0) else 7
  | _ => 0
def gradesE (g0 g1 g2 : Int) : Int × Int := firstE (gradeE g0 g1 g2) 3

set_option maxHeartbeats 2000000 in
theorem grades1_any (g0 g1 g2 : Int) (B1 i : Nat) (w : World) (hi' : i < 3)
    (c0 : w.cell? ⟨B1, 0, none⟩ = some (.int .i64 g0)) (c1 : w.cell? ⟨B1, 1, none⟩ = some (.int .i64 g1)) (c2 : w.cell? ⟨B1, 2, none⟩ = some (.int .i64 g2)) :
    Calls Try.prog 80 #[.int .i64 i, .pointer (some ⟨B1, 0, none⟩)] w fun e w' => e = .returned (.int .i64 (gradeE g0 g1 g2 i)) ∧ Below w.heap.size w w' := by
  match i, hi' with
  | 0, _ =>
    have HW := Lib.hid (fun W => within_any g0 1 1000000 W)
    unfold gradeE
    cases x : inB g0 1 1000000
    all_goals rw [x] at HW
    all_goals clear x
    all_goals go_enter Try.func80, Try.ntmps80
    all_goals go_wp2_with (go_at_call 49; ((with_reducible refine (HW.out _).mono ?_); rintro e w1 ⟨rfl, rfl⟩))
    · go_ret
      exact ⟨rfl, Below.refl _ _⟩
    · go_quiet (fail)
      go_wp2
      go_ret
      exact ⟨rfl, below_drewN (Below.refl _ _) _⟩
  | 1, _ =>
    have HW := Lib.hid (fun W => within_any g1 1 1000000 W)
    unfold gradeE
    cases x : inB g1 1 1000000
    · rw [x] at HW
      clear x
      go_enter Try.func80, Try.ntmps80
      go_wp2_with (go_at_call 49; ((with_reducible refine (HW.out _).mono ?_); rintro e w1 ⟨rfl, rfl⟩))
      go_ret
      exact ⟨rfl, Below.refl _ _⟩
    · rw [x] at HW
      clear x
      by_cases y : g1 ≤ g0
      · go_enter Try.func80, Try.ntmps80
        go_wp2_with (go_at_call 49; ((with_reducible refine (HW.out _).mono ?_); rintro e w1 ⟨rfl, rfl⟩))
        go_quiet (fail)
        go_wp2
        go_ret
        exact ⟨by simp, below_drewN (Below.refl _ _) _⟩
      · have hd : decide (g1 ≤ g0) = false := by simpa using y
        go_enter Try.func80, Try.ntmps80
        go_wp2_with (go_at_call 49; ((with_reducible refine (HW.out _).mono ?_); rintro e w1 ⟨rfl, rfl⟩))
        go_quiet (fail)
        go_wp2
        go_ret
        exact ⟨by simp, below_drewN (Below.refl _ _) _⟩
  | 2, _ =>
    have HW := Lib.hid (fun W => within_any g2 1 1000000 W)
    unfold gradeE
    cases x : inB g2 1 1000000
    · rw [x] at HW
      clear x
      go_enter Try.func80, Try.ntmps80
      go_wp2_with (go_at_call 49; ((with_reducible refine (HW.out _).mono ?_); rintro e w1 ⟨rfl, rfl⟩))
      go_ret
      exact ⟨rfl, Below.refl _ _⟩
    · rw [x] at HW
      clear x
      by_cases y : g2 ≤ g1
      · go_enter Try.func80, Try.ntmps80
        go_wp2_with (go_at_call 49; ((with_reducible refine (HW.out _).mono ?_); rintro e w1 ⟨rfl, rfl⟩))
        go_quiet (fail)
        go_wp2
        go_ret
        exact ⟨by simp, below_drewN (Below.refl _ _) _⟩
      · have hd : decide (g2 ≤ g1) = false := by simpa using y
        go_enter Try.func80, Try.ntmps80
        go_wp2_with (go_at_call 49; ((with_reducible refine (HW.out _).mono ?_); rintro e w1 ⟨rfl, rfl⟩))
        go_quiet (fail)
        go_wp2
        go_ret
        exact ⟨by simp, below_drewN (Below.refl _ _) _⟩

set_option maxHeartbeats 1000000 in
theorem checkGrades_any (g0 g1 g2 : Int) (w : World) :
    Calls Try.prog 50 #[.agg #[.int .i64 g0, .int .i64 g1, .int .i64 g2]] w fun e w' => e = .returned (.tuple #[.int .i64 (gradesE g0 g1 g2).1, .int .i64 (gradesE g0 g1 g2).2]) ∧ Below w.heap.size w w' := by
  obtain ⟨W1, hW1⟩ : ∃ W1, (w.alloc (.cells #[.int .i64 g0, .int .i64 g1, .int .i64 g2] 23)) = W1 := ⟨_, rfl⟩
  have hb1 : Below w.heap.size w W1 := by rw [← hW1]; exact B_alloc (Below.refl _ _) _
  have z : w.heap.size < W1.heap.size := by rw [← hW1]; simp
  have z0 : W1.cell? ⟨w.heap.size, 0, none⟩ = some (.int .i64 g0) := by rw [← hW1]; simp [go_sem]
  have z1 : W1.cell? ⟨w.heap.size, 1, none⟩ = some (.int .i64 g1) := by rw [← hW1]; simp [go_sem]
  have z2 : W1.cell? ⟨w.heap.size, 2, none⟩ = some (.int .i64 g2) := by rw [← hW1]; simp [go_sem]
  have HC := firstError_any 80 #[.pointer (some ⟨w.heap.size, 0, none⟩)] (gradeE g0 g1 g2) 3 W1 (by omega) (enters_of Try.func80 (by kernel_rfl) rfl)
    (fun i W hi' hb => grades1_any g0 g1 g2 w.heap.size i W hi' ((hb.cell z).trans z0) ((hb.cell z).trans z1) ((hb.cell z).trans z2))
  rw [← hW1] at HC hb1
  rw [show ((3 : Nat) : Int) = 3 from rfl] at HC
  clear z z0 z1 z2 hW1
  unfold gradesE
  replace HC := Lib.hid HC
  replace hb1 := Lib.hid hb1
  have hmf : ∀ (fn : Fn) (first cap : Array Value) (w : World), (Instr.makeFunc fn first cap).run Try.prog w = .ok (.func fn first cap) w := fun _ _ _ _ => rfl
  go_enter Try.func50, Try.ntmps50
  go_wp2_with (go_at_call 53; ((with_reducible refine HC.out.mono ?_); rintro e w1 ⟨rfl, hb⟩))
  go_ret2
  exact ⟨rfl, B_trans hb1.out hb⟩

/-- A rule as its eight cells. -/
structure RuA where
  ha : Option Addr
  hn : Nat
  hc : Nat
  wa : Option Addr
  wn : Nat
  wc : Nat
  own : Int
  feed : Int
  g0 : Int
  g1 : Int
  g2 : Int
  lost : Int
abbrev RuA.cs (r : RuA) : Array Value := #[.slice r.ha r.hn r.hc, .slice r.wa r.wn r.wc, .int .i64 r.own, .int .i64 r.feed, .int .i64 r.g0, .int .i64 r.g1, .int .i64 r.g2, .int .i64 r.lost]
/-- What a rule's slices read as. -/
structure RuR (w : World) (r : RuA) (hs ws : List T2) : Prop where
  hn : r.hn ≤ 140737488351232
  wn : r.wn ≤ 140737488351232
  h : Sl2 w r.ha r.hn hs
  w : Sl2 w r.wa r.wn ws
theorem RuR.below {w w' : World} {r : RuA} {hs ws : List T2} (h : RuR w r hs ws) (hb : Below w.heap.size w w') : RuR w' r hs ws := ⟨h.hn, h.wn, h.h.below hb, h.w.below hb⟩

def checkS (r : RuA) (hs ws : List T2) : Int × Int × Int :=
  if (curveE hs (-300) 600).2 ≠ 0 then (1, (curveE hs (-300) 600).1, (curveE hs (-300) 600).2)
  else if (curveE ws 0 1000).2 ≠ 0 then (2, (curveE ws 0 1000).1, (curveE ws 0 1000).2)
  else if inB r.own 0 100000 && inB r.feed 0 999999 then
    (if (gradesE r.g0 r.g1 r.g2).2 ≠ 0 then (4, (gradesE r.g0 r.g1 r.g2).1, (gradesE r.g0 r.g1 r.g2).2)
     else if inB r.lost 1 1000000 then (0, 0, 0) else (5, 0, 7))
  else (3, 0, 7)
end Go.Proofs.Ytanjkhclhcnnaaa

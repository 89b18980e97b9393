/- checkCurve, checkGrades and Check of the code. -/
import Derived.Test.YtanjkhclhcnnaaaWE
import Derived.Shelf.Abstract
namespace Go.Proofs.Ytanjkhclhcnnaaa
open Go.RowKit Go.Shelf

/-- The error of a point of a curve; of a grade. -/
def ptP (p q : T2) (lo hi : Int) (first : Bool) : Int :=
  if inB p.1 lo hi && inB p.2 0 1000 then (if !first && (decide (p.1 ≤ q.1) || decide (p.2 < q.2)) then 2 else 0) else 7
def ptE (l : List T2) (lo hi : Int) (i : Nat) : Int := ptP (l.getD i (0, 0)) (l.getD (i - 1) (0, 0)) lo hi (decide (i = 0))
def curveE (l : List T2) (lo hi : Int) : Int × Int := if inB l.length 2 8 then firstE (ptE l lo hi) l.length else (0, 3)

set_option maxHeartbeats 2000000 in
theorem curve1_any (l : List T2) (a : Option Addr) (n c : Nat) (lo hi : Int) (B1 B2 B3 i : Nat) (w : World) (hn : n ≤ 100000) (hi' : i < n) (hS : Sl2 w a n l)
    (c1 : w.cell? ⟨B1, 0, none⟩ = some (.slice a n c)) (c2 : w.cell? ⟨B2, 0, none⟩ = some (.int .i64 lo)) (c3 : w.cell? ⟨B3, 0, none⟩ = some (.int .i64 hi)) (b1 : B1 < w.heap.size) (b2 : B2 < w.heap.size) (b3 : B3 < w.heap.size) :
    Calls Try.prog 79 #[.int .i64 i, .pointer (some ⟨B1, 0, none⟩), .pointer (some ⟨B2, 0, none⟩), .pointer (some ⟨B3, 0, none⟩)] w fun e w' => e = .returned (.int .i64 (ptE l lo hi i)) ∧ Below w.heap.size w w' := by
  obtain ⟨b, o, rfl, hbs, hc⟩ := hS.at_ (by omega)
  obtain ⟨p1, p2⟩ := hc i hi'
  obtain ⟨q1, q2⟩ := hc (i - 1) (by omega)
  unfold ptE
  generalize l.getD i (0, 0) = p at p1 p2 ⊢
  generalize l.getD (i - 1) (0, 0) = q at q1 q2 ⊢
  obtain ⟨p1', p2'⟩ := p
  obtain ⟨q1', q2'⟩ := q
  simp only at p1 p2 q1 q2
  clear hc hS
  have HW1 := Lib.hid (fun W => within_any p1' lo hi W)
  have HW2 := Lib.hid (fun W => within_any p2' 0 1000 W)
  have hB : ∀ v, Below w.heap.size w (w.alloc (.cells v 120)) := fun v => B_alloc (Below.refl _ _) _
  replace hB := Lib.hid hB
  unfold ptP
  simp only
  cases x1 : inB p1' lo hi
  · rw [x1] at HW1
    clear x1 q1 q2
    have hil : (i : Int) < n := by omega
    have hi0 : (0 : Int) ≤ i := by omega
    go_enter Try.func79, Try.ntmps79
    go_wp2_with (first | (go_at_call 49; ((with_reducible refine (HW1.out _).mono ?_); rintro e w1 ⟨rfl, rfl⟩)) | (go_at_call 49; ((with_reducible refine (HW2.out _).mono ?_); rintro e w1 ⟨rfl, rfl⟩)))
    go_ret
    exact ⟨rfl, hB.out _⟩
  · cases x2 : inB p2' 0 1000
    · rw [x1] at HW1
      rw [x2] at HW2
      clear x1 x2 q1 q2
      have hil : (i : Int) < n := by omega
      have hi0 : (0 : Int) ≤ i := by omega
      go_enter Try.func79, Try.ntmps79
      go_wp2_with (first | (go_at_call 49; ((with_reducible refine (HW1.out _).mono ?_); rintro e w1 ⟨rfl, rfl⟩)) | (go_at_call 49; ((with_reducible refine (HW2.out _).mono ?_); rintro e w1 ⟨rfl, rfl⟩)))
      go_ret
      exact ⟨rfl, hB.out _⟩
    · rw [x1] at HW1
      rw [x2] at HW2
      clear x1 x2
      rcases i with _ | j
      · clear q1 q2
        simp only [Nat.zero_mul, Nat.add_zero] at p1 p2
        go_enter Try.func79, Try.ntmps79
        go_wp2_with (first | (go_at_call 49; ((with_reducible refine (HW1.out _).mono ?_); rintro e w1 ⟨rfl, rfl⟩)) | (go_at_call 49; ((with_reducible refine (HW2.out _).mono ?_); rintro e w1 ⟨rfl, rfl⟩)))
        go_quiet (fail)
        go_wp2
        go_ret
        exact ⟨rfl, below_drewN (hB.out _) _⟩
      · have hil : (j : Int) + 1 < n := by omega
        have hjl : (j : Int) < n := by omega
        have hi0 : (0 : Int) ≤ j := by omega
        have hj1 : (0 : Int) ≤ (j : Int) + 1 := by omega
        rw [show j + 1 - 1 = j from rfl] at q1 q2
        have k1 : ((j : Int) + 1).toNat = j + 1 := by omega
        have k2 : IntKind.i64.wrap ((j : Int) + 1 - 1) = j := by rw [show (j : Int) + 1 - 1 = j by omega]; exact IntWalk.i64_in _ (by omega)
        have k0 : ((j + 1 : Nat) : Int) = (j : Int) + 1 := by omega
        by_cases y : p1' ≤ q1'
        · simp only [k0]
          clear k0
          go_enter Try.func79, Try.ntmps79
          go_wp2_with (first | (go_at_call 49; ((with_reducible refine (HW1.out _).mono ?_); rintro e w1 ⟨rfl, rfl⟩)) | (go_at_call 49; ((with_reducible refine (HW2.out _).mono ?_); rintro e w1 ⟨rfl, rfl⟩)))
          go_quiet (fail)
          go_wp2
          go_ret
          exact ⟨rfl, below_drewN (hB.out _) _⟩
        · have hd : decide (p1' ≤ q1') = false := by simpa using y
          by_cases z : p2' < q2'
          · simp only [k0]
            clear k0
            go_enter Try.func79, Try.ntmps79
            go_wp2_with (first | (go_at_call 49; ((with_reducible refine (HW1.out _).mono ?_); rintro e w1 ⟨rfl, rfl⟩)) | (go_at_call 49; ((with_reducible refine (HW2.out _).mono ?_); rintro e w1 ⟨rfl, rfl⟩)))
            go_quiet (fail)
            go_wp2
            go_ret
            exact ⟨rfl, below_drewN (hB.out _) _⟩
          · have hd2 : decide (p2' < q2') = false := by simpa using z
            simp only [k0]
            clear k0
            go_enter Try.func79, Try.ntmps79
            go_wp2_with (first | (go_at_call 49; ((with_reducible refine (HW1.out _).mono ?_); rintro e w1 ⟨rfl, rfl⟩)) | (go_at_call 49; ((with_reducible refine (HW2.out _).mono ?_); rintro e w1 ⟨rfl, rfl⟩)))
            go_quiet (fail)
            go_wp2
            go_ret
            exact ⟨rfl, below_drewN (hB.out _) _⟩

set_option maxHeartbeats 1000000 in
theorem checkCurve_any (l : List T2) (a : Option Addr) (n c : Nat) (lo hi : Int) (w : World) (hn : n ≤ 140737488351232) (hS : Sl2 w a n l) :
    Calls Try.prog 48 #[.slice a n c, .int .i64 lo, .int .i64 hi] w fun e w' => e = .returned (.tuple #[.int .i64 (curveE l lo hi).1, .int .i64 (curveE l lo hi).2]) ∧ Below w.heap.size w w' := by
  have hl := hS.len
  have HW := Lib.hid (fun W => within_any (n : Int) 2 8 W)
  unfold curveE
  rw [hl]
  cases x : inB n 2 8
  · rw [x] at HW
    clear hS hl x
    go_enter Try.func48, Try.ntmps48
    go_wp2_with (go_at_call 49; ((with_reducible refine (HW.out _).mono ?_); rintro e w1 ⟨rfl, rfl⟩))
    go_ret2
    exact ⟨rfl, B_alloc (B_alloc (B_alloc (Below.refl _ _) _) _) _⟩
  · rw [x] at HW
    obtain ⟨x1, x2⟩ := inB_iff.1 x
    have hb3 : Below w.heap.size w (((w.alloc (.cells #[.slice a n c] 22)).alloc (.cells #[.int .i64 lo] 3)).alloc (.cells #[.int .i64 hi] 3)) := B_alloc (B_alloc (B_alloc (Below.refl _ _) _) _) _
    obtain ⟨W3, hW3⟩ : ∃ W3, (((w.alloc (.cells #[.slice a n c] 22)).alloc (.cells #[.int .i64 lo] 3)).alloc (.cells #[.int .i64 hi] 3)) = W3 := ⟨_, rfl⟩
    have z1 : W3.cell? ⟨w.heap.size, 0, none⟩ = some (.slice a n c) := by rw [← hW3, alloc_old _ _ _ _ (by simp; omega), alloc_old _ _ _ _ (by simp)]; simp
    have z2 : W3.cell? ⟨w.heap.size + 1, 0, none⟩ = some (.int .i64 lo) := by rw [← hW3, alloc_old _ _ _ _ (by simp), World.cell?_alloc_at _ _ _ _ (by simp)]; rfl
    have z3 : W3.cell? ⟨w.heap.size + 1 + 1, 0, none⟩ = some (.int .i64 hi) := by rw [← hW3, World.cell?_alloc_at _ _ _ _ (by simp)]; rfl
    have z : W3.heap.size = w.heap.size + 1 + 1 + 1 := by rw [← hW3]; simp
    rw [hW3] at hb3
    have HC := firstError_any 79 #[.pointer (some ⟨w.heap.size, 0, none⟩), .pointer (some ⟨w.heap.size + 1, 0, none⟩), .pointer (some ⟨w.heap.size + 1 + 1, 0, none⟩)] (ptE l lo hi) n
      W3 (by omega) (enters_of Try.func79 (by kernel_rfl) rfl)
      (fun i W hi' hb => curve1_any l a n c lo hi w.heap.size (w.heap.size + 1) (w.heap.size + 1 + 1) i W (by omega) hi' (hS.below (B_trans hb3 hb)) ((hb.cell (by rw [z]; show w.heap.size < _; omega)).trans z1) ((hb.cell (by rw [z]; show w.heap.size + 1 < _; omega)).trans z2) ((hb.cell (by rw [z]; show w.heap.size + 1 + 1 < _; omega)).trans z3) (by have := hb.size; omega) (by have := hb.size; omega) (by have := hb.size; omega))
    rw [← hW3] at HC hb3
    clear z z1 z2 z3 hW3
    replace HC := Lib.hid HC
    replace hb3 := Lib.hid hb3
    have hmf : ∀ (fn : Fn) (first cap : Array Value) (w : World), (Instr.makeFunc fn first cap).run Try.prog w = .ok (.func fn first cap) w := fun _ _ _ _ => rfl
    clear hS hl x
    go_enter Try.func48, Try.ntmps48
    go_wp2_with (first | (go_at_call 49; ((with_reducible refine (HW.out _).mono ?_); rintro e w1 ⟨rfl, rfl⟩)) | (go_at_call 53; ((with_reducible refine HC.out.mono ?_); rintro e w1 ⟨rfl, hb⟩)))
    go_ret2
    exact ⟨rfl, B_trans hb3.out hb⟩
end Go.Proofs.Ytanjkhclhcnnaaa

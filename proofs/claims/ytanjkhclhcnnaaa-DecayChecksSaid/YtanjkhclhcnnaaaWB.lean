/- The walks of demand and of the errors of spans. -/
import Derived.Test.YtanjkhclhcnnaaaWA
import Derived.Deep.LoopGhost
namespace Go.Proofs.Ytanjkhclhcnnaaa
open Go.RowKit

theorem demandE_ok {xs : List T4} (h0 : demandE xs = 0) : xs.any outB = false ∧ xs.any turnB = false := by
  unfold demandE at h0
  cases h1 : xs.any outB
  · cases h2 : xs.any turnB
    · exact ⟨rfl, rfl⟩
    · rw [h1, h2] at h0; simp at h0
  · rw [h1] at h0; simp at h0
theorem getD_any {p : T4 → Bool} {xs : List T4} (h : xs.any p = false) {i : Nat} (hi : i < xs.length) : p (xs.getD i (0, 0, 0, 0)) = false := by
  have := List.any_eq_false.1 h (xs.getD i (0, 0, 0, 0)) (by simp [List.getD, hi])
  simpa using this

set_option maxHeartbeats 1000000 in
theorem demand_ok (xs : List T4) (a : Option Addr) (n c : Nat) (w : World) (hn : n ≤ 1000) (hS : Sl4 w a n xs) (h0 : demandE xs = 0) :
    Calls Try.prog 103 #[.slice a n c] w fun e w' => e = .returned (.tuple #[]) ∧ Below w.heap.size w w' := by
  obtain ⟨h1, h2⟩ := demandE_ok h0
  have hlen := hS.len
  have HX := Lib.hid (fun i (hi : i < n) => getD_any h1 (i := i) (by omega))
  have HY := Lib.hid (fun i (hi : i < n) => getD_any h2 (i := i) (by omega))
  have HS := Lib.hid hS
  clear h1 h2 h0 hlen hS
  go_enter Try.func103, Try.ntmps103
  go_wp2
  go_loopg [8] n (fun gk i wr => ∃ k : Nat, gk = n - k ∧ k ≤ n ∧ i = .int .i64 (k : Int) ∧ Below w.heap.size w wr)
  case atStart => exact ⟨0, rfl, Nat.zero_le _, rfl, Below.refl _ _⟩
  case round =>
    obtain ⟨k, rfl, hk, rfl, hb⟩ := hrel
    by_cases hlt : k < n
    · obtain ⟨b, o, rfl, hbs, hc⟩ := (HS.out.below hb).at_ (by omega)
      obtain ⟨c0, c1, c2, c3⟩ := hc k hlt
      have hx := HX.out k hlt
      generalize xs.getD k (0, 0, 0, 0) = s at c0 c1 c2 c3 hx
      obtain ⟨s0, s1, s2, s3⟩ := s
      simp only [outB, Bool.or_eq_false_iff, Bool.not_eq_false'] at c0 c1 c2 c3 hx
      obtain ⟨x1, x2⟩ := hx
      have HW1 := Lib.hid (fun W => within_any s0 s2 s3 W)
      have HW2 := Lib.hid (fun W => within_any s1 s2 s3 W)
      rw [x1] at HW1
      rw [x2] at HW2
      have hk0 : (0 : Int) ≤ k := by omega
      have hkl : (k : Int) < n := by omega
      clear hc x1 x2
      go_wp2_with (first | (go_at_call 49; ((with_reducible refine (HW1.out _).mono ?_); rintro e w1 ⟨rfl, rfl⟩)) | (go_at_call 49; ((with_reducible refine (HW2.out _).mono ?_); rintro e w1 ⟨rfl, rfl⟩)))
      go_roundg (n - (k + 1))
      case rel => exact ⟨k + 1, rfl, by omega, by go_num, B_alloc hb _⟩
      case measure => omega
    · obtain rfl : k = n := by omega
      go_wp2
      go_loopg [36] k (fun gk i wr => ∃ j : Nat, gk = k - j ∧ j ≤ k ∧ i = .int .i64 (j : Int) ∧ Below w.heap.size w wr)
      case atStart => exact ⟨0, rfl, Nat.zero_le _, rfl, hb⟩
      case round =>
        obtain ⟨j, rfl, hj, rfl, hb⟩ := hrel
        by_cases hlt : j < k
        · obtain ⟨b, o, rfl, hbs, hc⟩ := (HS.out.below hb).at_ (by omega)
          obtain ⟨c0, c1, c2, c3⟩ := hc j hlt
          have hy := HY.out j hlt
          generalize xs.getD j (0, 0, 0, 0) = s at c0 c1 c2 c3 hy
          obtain ⟨s0, s1, s2, s3⟩ := s
          simp only [turnB, decide_eq_false_iff_not] at c0 c1 c2 c3 hy
          have hk0 : (0 : Int) ≤ j := by omega
          have hkl : (j : Int) < k := by omega
          clear hc
          go_wp2
          go_roundg (k - (j + 1))
          case rel => exact ⟨j + 1, rfl, by omega, by go_num, B_alloc hb _⟩
          case measure => omega
        · obtain rfl : j = k := by omega
          go_wp2
          go_end0
          exact ⟨rfl, hb⟩

def Panics (k : Int) (e : Ending) : Prop := e = .panicked [{ v := .iface 32 (.int .i64 k), recovered := false }]

set_option maxHeartbeats 1000000 in
theorem demand_bad (xs : List T4) (a : Option Addr) (n c : Nat) (w : World) (hn : n ≤ 1000) (hS : Sl4 w a n xs) (h0 : demandE xs ≠ 0) :
    Calls Try.prog 103 #[.slice a n c] w fun e w' => Panics (demandE xs) e ∧ Below w.heap.size w w' := by
  have hlen := hS.len
  have HS := Lib.hid hS
  have H0 := Lib.hid h0
  clear h0 hlen hS
  go_enter Try.func103, Try.ntmps103
  go_wp2
  go_loopg [8] n (fun gk i wr => ∃ k : Nat, gk = n - k ∧ k ≤ n ∧ i = .int .i64 (k : Int) ∧ (xs.take k).any outB = false ∧ Below w.heap.size w wr)
  case atStart => exact ⟨0, rfl, Nat.zero_le _, rfl, rfl, Below.refl _ _⟩
  case round =>
    obtain ⟨k, rfl, hk, rfl, hno, hb⟩ := hrel
    replace hno := Lib.hid hno
    by_cases hlt : k < n
    · obtain ⟨b, o, rfl, hbs, hc⟩ := (HS.out.below hb).at_ (by omega)
      obtain ⟨c0, c1, c2, c3⟩ := hc k hlt
      have hst := Lib.hid (any_stop (p := outB) (0, 0, 0, 0) (l := xs) (k := k) (by have := HS.out.len; omega))
      have hnx := Lib.hid (any_take_next (p := outB) (0, 0, 0, 0) (l := xs) (k := k) (by have := HS.out.len; omega) hno.out)
      generalize xs.getD k (0, 0, 0, 0) = s at c0 c1 c2 c3 hst hnx
      obtain ⟨s0, s1, s2, s3⟩ := s
      simp only at c0 c1 c2 c3
      have HW1 := Lib.hid (fun W => within_any s0 s2 s3 W)
      have HW2 := Lib.hid (fun W => within_any s1 s2 s3 W)
      have hk0 : (0 : Int) ≤ k := by omega
      have hkl : (k : Int) < n := by omega
      clear hc
      cases x1 : inB s0 s2 s3
      · rw [x1] at HW1
        have hout := Lib.hid (hst.out (by simp [outB, x1]))
        clear x1 hst hnx
        go_wp2_with (first | (go_at_call 49; ((with_reducible refine (HW1.out _).mono ?_); rintro e w1 ⟨rfl, rfl⟩)) | (go_at_call 49; ((with_reducible refine (HW2.out _).mono ?_); rintro e w1 ⟨rfl, rfl⟩)))
        exact ⟨rfl, by rw [demandE, if_pos hout.out]; rfl, B_alloc hb _⟩
      · rw [x1] at HW1
        cases x2 : inB s1 s2 s3
        · rw [x2] at HW2
          have hout := Lib.hid (hst.out (by simp [outB, x2]))
          clear x1 x2 hst hnx
          go_wp2_with (first | (go_at_call 49; ((with_reducible refine (HW1.out _).mono ?_); rintro e w1 ⟨rfl, rfl⟩)) | (go_at_call 49; ((with_reducible refine (HW2.out _).mono ?_); rintro e w1 ⟨rfl, rfl⟩)))
          exact ⟨rfl, by rw [demandE, if_pos hout.out]; rfl, B_alloc hb _⟩
        · rw [x2] at HW2
          have hno1 := Lib.hid (hnx.out (by simp [outB, x1, x2]))
          clear x1 x2 hst hnx
          go_wp2_with (first | (go_at_call 49; ((with_reducible refine (HW1.out _).mono ?_); rintro e w1 ⟨rfl, rfl⟩)) | (go_at_call 49; ((with_reducible refine (HW2.out _).mono ?_); rintro e w1 ⟨rfl, rfl⟩)))
          go_roundg (n - (k + 1))
          case rel => exact ⟨k + 1, rfl, by omega, by go_num, hno1.out, B_alloc hb _⟩
          case measure => omega
    · obtain rfl : k = n := by omega
      have hno1 : Hid (xs.any outB = false) := Lib.hid (by have := hno.out; rwa [List.take_of_length_le (by have := HS.out.len; omega)] at this)
      go_wp2
      go_loopg [36] k (fun gk i wr => ∃ j : Nat, gk = k - j ∧ j ≤ k ∧ i = .int .i64 (j : Int) ∧ (xs.take j).any turnB = false ∧ Below w.heap.size w wr)
      case atStart => exact ⟨0, rfl, Nat.zero_le _, rfl, rfl, hb⟩
      case round =>
        obtain ⟨j, rfl, hj, rfl, hnt, hb⟩ := hrel
        replace hnt := Lib.hid hnt
        by_cases hlt : j < k
        · obtain ⟨b, o, rfl, hbs, hc⟩ := (HS.out.below hb).at_ (by omega)
          obtain ⟨c0, c1, c2, c3⟩ := hc j hlt
          have hst := Lib.hid (any_stop (p := turnB) (0, 0, 0, 0) (l := xs) (k := j) (by have := HS.out.len; omega))
          have hnx := Lib.hid (any_take_next (p := turnB) (0, 0, 0, 0) (l := xs) (k := j) (by have := HS.out.len; omega) hnt.out)
          generalize xs.getD j (0, 0, 0, 0) = s at c0 c1 c2 c3 hst hnx
          obtain ⟨s0, s1, s2, s3⟩ := s
          simp only at c0 c1 c2 c3
          have hk0 : (0 : Int) ≤ j := by omega
          have hkl : (j : Int) < k := by omega
          clear hc
          by_cases x : s1 < s0
          · have hout := Lib.hid (hst.out (by simp [turnB, x]))
            clear hst hnx
            go_wp2
            exact ⟨rfl, by rw [demandE, if_neg (by rw [hno1.out]; simp), if_pos hout.out]; rfl, B_alloc hb _⟩
          · have hnt1 := Lib.hid (hnx.out (by simp [turnB]; omega))
            clear hst hnx
            go_wp2
            go_roundg (k - (j + 1))
            case rel => exact ⟨j + 1, rfl, by omega, by go_num, hnt1.out, B_alloc hb _⟩
            case measure => omega
        · obtain rfl : j = k := by omega
          refine absurd ?_ H0.out
          have := hnt.out
          rw [List.take_of_length_le (by have := HS.out.len; omega)] at this
          rw [demandE, if_neg (by rw [hno1.out]; simp), if_neg (by rw [this]; simp)]

theorem demandE_two {xs : List T4} (h : demandE xs ≠ 0) : demandE xs = 7 ∨ demandE xs = 2 := by
  unfold demandE at h ⊢
  split
  · exact .inl rfl
  · split
    · exact .inr rfl
    · rename_i a b; rw [if_neg a, if_neg b] at h; exact absurd rfl h
end Go.Proofs.Ytanjkhclhcnnaaa

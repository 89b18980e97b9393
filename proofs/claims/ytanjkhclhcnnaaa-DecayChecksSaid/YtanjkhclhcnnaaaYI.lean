/- Sorting at most twenty, keeping the order of equals; comparing numbers. -/
import Derived.Test.YtanjkhclhcnnaaaYH
namespace Go.Proofs.Ytanjkhclhcnnaaa
open Go.RowKit Go.Shelf

def cmpN (a b : Int) : Int := if a < b then -1 else if b < a then 1 else 0

theorem nan_any (a : Int) (w : World) : Calls Try.prog 124 #[.int .i64 a] w fun e w' => e = .returned (.bool false) ∧ w' = w := by
  go_enter Try.func124, Try.ntmps124
  go_wp2
  go_ret
  exact ⟨rfl, rfl⟩

set_option maxHeartbeats 2000000 in
theorem compare_any (a b : Int) (w : World) : Calls Try.prog 121 #[.int .i64 a, .int .i64 b] w fun e w' => e = .returned (.int .i64 (cmpN a b)) ∧ w' = w := by
  have N1 := Lib.hid (nan_any a)
  have N2 := Lib.hid (nan_any b)
  unfold cmpN
  by_cases h1 : a < b
  · rw [if_pos h1]
    go_enter Try.func121, Try.ntmps121
    go_wp2_with (go_at_call 124; ((first | (with_reducible refine (N1.out _).mono ?_) | (with_reducible refine (N2.out _).mono ?_)); rintro e w1 ⟨rfl, rfl⟩))
    go_ret
    exact ⟨rfl, rfl⟩
  · rw [if_neg h1]
    by_cases h2 : b < a
    · rw [if_pos h2]
      go_enter Try.func121, Try.ntmps121
      go_wp2_with (go_at_call 124; ((first | (with_reducible refine (N1.out _).mono ?_) | (with_reducible refine (N2.out _).mono ?_)); rintro e w1 ⟨rfl, rfl⟩))
      go_ret
      exact ⟨rfl, rfl⟩
    · rw [if_neg h2]
      go_enter Try.func121, Try.ntmps121
      go_wp2_with (go_at_call 124; ((first | (with_reducible refine (N1.out _).mono ?_) | (with_reducible refine (N2.out _).mono ?_)); rintro e w1 ⟨rfl, rfl⟩))
      go_ret
      exact ⟨rfl, rfl⟩

theorem isort_none (f : Nat) (cap : Array Value) (v : Value) (n : Nat) (w : World) (hn : n ≤ 1000) :
    Calls Try.prog 126 #[v, .int .i64 n, .int .i64 n, .func (.func f) #[] cap] w fun e w' => e = .returned (.tuple #[]) ∧ w' = w := by
  have h1 : (0 : Int) ≤ n := by omega
  have h2 : ¬ (n : Int) + 1 < n := by omega
  go_enter Try.func126, Try.ntmps126
  go_wp2
  go_loopg [8] 1 (fun gk i wr => i = .int .i64 ((n : Int) + 1) ∧ wr = w)
  case atStart => exact ⟨rfl, rfl⟩
  case round =>
    obtain ⟨rfl, rfl⟩ := hrel
    go_wp2
    go_end0
    exact ⟨rfl, rfl⟩

set_option maxRecDepth 100000 in
set_option maxHeartbeats 8000000 in
theorem stable_any (f : Nat) (cap : Array Value) (cv : Nat → Nat → Int) (g n cp : Nat) (l0 : List Nat) (w : World) (hn : n ≤ 20) (hl : l0.length = n) (hm : ∀ x ∈ l0, x < n) (hO : Ob w g 3 (cellsN l0))
    (eg : ∀ args w, (callFunc f args).run Try.prog w = .ok (.enter f args) w)
    (hf : ∀ (a b : Nat) (W : World), a < n → b < n → w.grownBy W (some g) → Calls Try.prog f (#[.int .i64 a, .int .i64 b] ++ cap) W fun e w' => e = .returned (.int .i64 (cv a b)) ∧ Below W.heap.size W w') :
    Calls Try.prog 123 #[.slice (some ⟨g, 0, none⟩) n cp, .int .i64 n, .func (.func f) #[] cap] w fun e w' => e = .returned (.tuple #[]) ∧ Ob w' g 3 (cellsN (isortL (fun a b => decide (cv a b < 0)) l0 (n - 1))) ∧ w.grownBy w' (some g) := by
  have H1 := Lib.hid (isort_any f cap cv g n cp l0 w (by omega) hl hm hO eg hf)
  clear hO hf hm
  generalize cellsN (isortL (fun a b => decide (cv a b < 0)) l0 (n - 1)) = R at H1 ⊢
  have H2 := Lib.hid (fun W => isort_none f cap (.slice (some ⟨g, 0, none⟩) n cp) n W (by omega))
  by_cases h20 : (20 : Int) ≤ n
  · obtain rfl : n = 20 := by omega
    have e20 : ((20 : Nat) : Int) = 20 := rfl
    rw [e20] at H1 H2 ⊢
    have hlt : ¬ (20 : Int) < 20 := by omega
    clear e20 h20 hn
    go_enter Try.func123, Try.ntmps123
    go_wp2
    go_loopg [7, 8] 1 (fun gk a b wr => (gk = 1 ∧ a = .int .i64 0 ∧ b = .int .i64 20 ∧ wr = w) ∨ (gk = 0 ∧ a = .int .i64 20 ∧ b = .int .i64 40 ∧ Ob wr g 3 R ∧ w.grownBy wr (some g)))
    case atStart => exact .inl ⟨rfl, rfl, rfl, rfl⟩
    case round =>
      rcases hrel with ⟨rfl, rfl, rfl, rfl⟩ | ⟨rfl, rfl, rfl, hR, hgr⟩
      · go_wp2_with (go_at_call 126; ((with_reducible refine (H1.out).mono ?_); rintro e w1 ⟨rfl, hR', hgr'⟩; have hR := Lib.hid hR'; have hgr := Lib.hid hgr'; clear hR' hgr'))
        go_roundg 0
        case measure => omega
        case rel => exact .inr ⟨rfl, rfl, rfl, hR.out, hgr.out⟩
      · replace hgr := Lib.hid hgr
        replace hR := Lib.hid hR
        go_wp2_with (go_at_call 126; ((with_reducible refine (H2.out _).mono ?_); rintro e w1 ⟨rfl, rfl⟩))
        go_loopg [6] 1 (fun gk b w3 => b = .int .i64 20 ∧ Ob w3 g 3 R ∧ w.grownBy w3 (some g))
        case atStart => exact ⟨rfl, hR.out, hgr.out⟩
        case round =>
          obtain ⟨rfl, h1, h2⟩ := hrel
          replace h1 := Lib.hid h1
          replace h2 := Lib.hid h2
          go_wp2
          go_end0
          exact ⟨rfl, h1.out, h2.out⟩
  · have hlt : ¬ (20 : Int) < n := by omega
    go_enter Try.func123, Try.ntmps123
    go_wp2
    go_loopg [7, 8] 1 (fun gk a b wr => a = .int .i64 0 ∧ b = .int .i64 20 ∧ wr = w)
    case atStart => exact ⟨rfl, rfl, rfl⟩
    case round =>
      obtain ⟨rfl, rfl, rfl⟩ := hrel
      go_wp2_with (go_at_call 126; ((with_reducible refine (H1.out).mono ?_); rintro e w1 ⟨rfl, hR', hgr'⟩; have hR := Lib.hid hR'; have hgr := Lib.hid hgr'; clear hR' hgr'))
      go_loopg [6] 1 (fun gk b w3 => b = .int .i64 20 ∧ Ob w3 g 3 R ∧ wr.grownBy w3 (some g))
      case atStart => exact ⟨rfl, hR.out, hgr.out⟩
      case round =>
        obtain ⟨rfl, h1, h2⟩ := hrel
        replace h1 := Lib.hid h1
        replace h2 := Lib.hid h2
        go_wp2
        go_end0
        exact ⟨rfl, h1.out, h2.out⟩

set_option maxHeartbeats 4000000 in
theorem sortStable_any (f : Nat) (cap : Array Value) (cv : Nat → Nat → Int) (g n cp : Nat) (l0 : List Nat) (w : World) (hn : n ≤ 20) (hl : l0.length = n) (hm : ∀ x ∈ l0, x < n) (hO : Ob w g 3 (cellsN l0))
    (eg : ∀ args w, (callFunc f args).run Try.prog w = .ok (.enter f args) w)
    (hf : ∀ (a b : Nat) (W : World), a < n → b < n → w.grownBy W (some g) → Calls Try.prog f (#[.int .i64 a, .int .i64 b] ++ cap) W fun e w' => e = .returned (.int .i64 (cv a b)) ∧ Below W.heap.size W w') :
    Calls Try.prog 119 #[.slice (some ⟨g, 0, none⟩) n cp, .func (.func f) #[] cap] w fun e w' => e = .returned (.tuple #[]) ∧ Ob w' g 3 (cellsN (isortL (fun a b => decide (cv a b < 0)) l0 (n - 1))) ∧ w.grownBy w' (some g) := by
  have H1 := Lib.hid (stable_any f cap cv g n cp l0 w hn hl hm hO eg hf)
  clear hO hf hm
  generalize cellsN (isortL (fun a b => decide (cv a b < 0)) l0 (n - 1)) = R at H1 ⊢
  have hb : (n : Int) ≤ 20 := by omega
  go_enter Try.func119, Try.ntmps119
  go_wp2_with (go_at_call 123; ((with_reducible refine (H1.out).mono ?_); rintro e w1 ⟨rfl, hR⟩))
  go_end0
  exact ⟨rfl, hR⟩
end Go.Proofs.Ytanjkhclhcnnaaa

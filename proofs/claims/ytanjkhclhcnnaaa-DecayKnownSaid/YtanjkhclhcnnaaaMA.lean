/- Plain functions of layer 2. -/
import Derived.Test.YtanjkhclhcnnaaaProg
import Derived.WalkKit
import Derived.WalkSpells
import Derived.WalkLawsBesides
import Derived.Lib.Hide
import Derived.Lib.LaidTab
import Derived.KernelRfl
import Derived.BigQuiet
import Derived.Deep.QuietTactic
import Derived.Defers
import Derived.Recover
import Derived.Deep.LoopGhost
import Derived.Shelf.Abstract
namespace Go.Proofs.Ytanjkhclhcnnaaa

abbrev T2 := Int × Int
abbrev T3 := Int × Int × Int
abbrev T4 := Int × Int × Int × Int

/-- Whether a number is from lo to hi. -/
def inB (n lo hi : Int) : Bool := decide (lo ≤ n) && decide (n ≤ hi)
theorem inB_iff {n lo hi : Int} : inB n lo hi = true ↔ lo ≤ n ∧ n ≤ hi := by simp [inB]
theorem inB_no {n lo hi : Int} : inB n lo hi = false ↔ ¬ (lo ≤ n ∧ n ≤ hi) := by rw [← inB_iff]; simp

/-- The first number below n at which f is not 0, and what it is there. -/
def firstE (f : Nat → Int) : Nat → Int × Int
  | 0 => (0, 0)
  | k + 1 => if (firstE f k).2 ≠ 0 then firstE f k else if f k ≠ 0 then ((k : Int), f k) else (0, 0)
theorem firstE_zero {f : Nat → Int} : ∀ {k : Nat}, (firstE f k).2 = 0 → firstE f k = (0, 0)
  | 0, _ => rfl
  | k + 1, h => by
    unfold firstE at h ⊢
    by_cases a : (firstE f k).2 ≠ 0
    · rw [if_pos a] at h; exact absurd h a
    · rw [if_neg a] at h ⊢
      by_cases b : f k ≠ 0
      · rw [if_pos b] at h; exact absurd h b
      · rw [if_neg b]
theorem firstE_stop {f : Nat → Int} {k : Nat} (h0 : (firstE f k).2 = 0) (hk : f k ≠ 0) : ∀ {n : Nat}, k < n → firstE f n = ((k : Int), f k)
  | n + 1, h => by
    unfold firstE
    by_cases e : k = n
    · subst e; rw [if_neg (by simpa using h0), if_pos hk]
    · rw [firstE_stop h0 hk (n := n) (by omega), if_pos hk]
theorem firstE_next {f : Nat → Int} {k : Nat} (h0 : (firstE f k).2 = 0) (hk : f k = 0) : (firstE f (k + 1)).2 = 0 := by
  unfold firstE; rw [if_neg (by simpa using h0), if_neg (by simpa using hk)]
theorem firstE_all {f : Nat → Int} : ∀ {n : Nat}, (firstE f n).2 = 0 ↔ ∀ k, k < n → f k = 0
  | 0 => by simp [firstE]
  | n + 1 => by
    have ih := firstE_all (f := f) (n := n)
    unfold firstE
    by_cases a : (firstE f n).2 = 0
    · rw [if_neg (by simpa using a)]
      by_cases b : f n = 0
      · rw [if_neg (by simpa using b)]
        refine ⟨fun _ k hk => ?_, fun _ => rfl⟩
        by_cases e : k = n
        · subst e; exact b
        · exact ih.1 a k (by omega)
      · rw [if_pos b]; exact ⟨fun h => absurd h b, fun h => absurd (h n (by omega)) b⟩
    · rw [if_pos a]
      exact ⟨fun h => absurd h a, fun h => absurd (ih.2 fun k hk => h k (by omega)) a⟩
theorem firstE_congr {f g : Nat → Int} : ∀ {n : Nat}, (∀ k, k < n → f k = g k) → firstE f n = firstE g n
  | 0, _ => rfl
  | n + 1, h => by
    unfold firstE; rw [firstE_congr (n := n) fun k hk => h k (by omega), h n (by omega)]
theorem firstE_lt {f : Nat → Int} : ∀ {n : Nat}, 0 ≤ (firstE f n).1 ∧ ((firstE f n).2 ≠ 0 → (firstE f n).1 < n)
  | 0 => by simp [firstE]
  | n + 1 => by
    have ih := firstE_lt (f := f) (n := n)
    unfold firstE
    by_cases a : (firstE f n).2 ≠ 0
    · rw [if_pos a]; exact ⟨ih.1, fun _ => by have := ih.2 a; omega⟩
    · rw [if_neg a]
      by_cases b : f n ≠ 0
      · rw [if_pos b]; exact ⟨by simp, fun _ => by simp; omega⟩
      · rw [if_neg b]; exact ⟨by simp, fun h => absurd rfl h⟩

/-- The error of spans, each with the bounds of its numbers (lo, hi, least, most). -/
def outB (s : T4) : Bool := !inB s.1 s.2.2.1 s.2.2.2 || !inB s.2.1 s.2.2.1 s.2.2.2
def turnB (s : T4) : Bool := decide (s.2.1 < s.1)
def demandE (l : List T4) : Int := if l.any outB then 7 else if l.any turnB then 2 else 0

def dayE (d : T4) : Int := demandE [(d.1, d.2.1, -300, 600), (d.2.2.1, d.2.2.2, 0, 1000)]
def lvE (n : T2) : Int := demandE [(n.1, n.2, 0, 1000000)]

theorem any_take_next {α : Type} {p : α → Bool} (d : α) {l : List α} {k : Nat} (h : k < l.length) (h0 : (l.take k).any p = false) (hk : p (l.getD k d) = false) : (l.take (k + 1)).any p = false := by
  rw [List.take_succ_eq_append_getElem h, List.any_append, h0]
  have e : l.getD k d = l[k] := by simp [List.getD, h]
  rw [e] at hk
  simp [hk]
theorem any_stop {α : Type} {p : α → Bool} (d : α) {l : List α} {k : Nat} (h : k < l.length) (hk : p (l.getD k d) = true) : l.any p = true := by
  have e : l.getD k d = l[k] := by simp [List.getD, h]
  rw [e] at hk
  exact List.any_eq_true.2 ⟨l[k], List.getElem_mem h, hk⟩
end Go.Proofs.Ytanjkhclhcnnaaa
/- What is common to the walks: slices of structs of integers; the smallest functions. -/
namespace Go.Proofs.Ytanjkhclhcnnaaa
open Go.RowKit

theorem ret_bool {a b : Bool} (h : a = b) : Ending.returned (.bool a) = .returned (.bool b) := by rw [h]
theorem ret_int {k : IntKind} {a b : Int} (h : a = b) : Ending.returned (.int k a) = .returned (.int k b) := by rw [h]
theorem bcell {W w1 : World} (hb : Below W.heap.size W w1) : (∀ b o, b < W.heap.size → w1.cell? ⟨b, o, none⟩ = W.cell? ⟨b, o, none⟩) ∧ (∀ b o, b < W.heap.size → w1.frozen? ⟨b, o, none⟩ = W.frozen? ⟨b, o, none⟩) :=
  ⟨fun b o h => hb.cell (p := ⟨b, o, none⟩) h, fun b o h => hb.frozen (p := ⟨b, o, none⟩) h⟩
theorem B_trans {w w1 w2 : World} (h : Below w.heap.size w w1) (k : Below w1.heap.size w1 w2) : Below w.heap.size w w2 := h.trans (k.mono h.size)
theorem B_alloc {w w1 : World} (h : Below w.heap.size w w1) (o : Obj) : Below w.heap.size w (w1.alloc o) := h.alloc h.size o
theorem B_set {w w1 : World} (h : Below w.heap.size w w1) (j : Nat) (v : Value) : Below w.heap.size w (w1.setCell ⟨w.heap.size, j, none⟩ v) := h.setCell (Nat.le_refl _) v
theorem alloc_old (w : World) (o : Obj) (b k : Nat) (h : b < w.heap.size) : (w.alloc o).cell? ⟨b, k, none⟩ = w.cell? ⟨b, k, none⟩ := World.cell?_alloc_past _ _ _ (by simpa using h)
theorem quiet_left {P : Program} {f : FuncId} {args : Array Value} {w : World} {n : Nat} {v : Value}
    (h : ∀ W : World, Calls P f args W fun e w' => e = .returned v ∧ W = w') : Calls P f args (w.drewN n) (fun e w' => e = .returned v ∧ w' = w.drewN n) := (h _).mono fun _ _ h => ⟨h.1, h.2.symm⟩

/-- A slice of structs of two, three, four integers; of integers. -/
structure Sl1 (w : World) (a : Option Addr) (n : Nat) (ss : List Int) : Prop where
  len : ss.length = n
  at_ : 0 < n → ∃ b o, a = some ⟨b, o, none⟩ ∧ b < w.heap.size ∧ ∀ i, i < n → w.cell? ⟨b, o + i, none⟩ = some (.int .i64 (ss.getD i 0))
structure Sl2 (w : World) (a : Option Addr) (n : Nat) (ss : List T2) : Prop where
  len : ss.length = n
  at_ : 0 < n → ∃ b o, a = some ⟨b, o, none⟩ ∧ b < w.heap.size ∧ ∀ i, i < n → w.cell? ⟨b, o + i * 2, none⟩ = some (.int .i64 (ss.getD i (0, 0)).1) ∧ w.cell? ⟨b, o + i * 2 + 1, none⟩ = some (.int .i64 (ss.getD i (0, 0)).2)
structure Sl3 (w : World) (a : Option Addr) (n : Nat) (ms : List T3) : Prop where
  len : ms.length = n
  at_ : 0 < n → ∃ b o, a = some ⟨b, o, none⟩ ∧ b < w.heap.size ∧ ∀ i, i < n → w.cell? ⟨b, o + i * 3, none⟩ = some (.int .i64 (ms.getD i (0, 0, 0)).1) ∧ w.cell? ⟨b, o + i * 3 + 1, none⟩ = some (.int .i64 (ms.getD i (0, 0, 0)).2.1) ∧ w.cell? ⟨b, o + i * 3 + 2, none⟩ = some (.int .i64 (ms.getD i (0, 0, 0)).2.2)
structure Sl4 (w : World) (a : Option Addr) (n : Nat) (ms : List T4) : Prop where
  len : ms.length = n
  at_ : 0 < n → ∃ b o, a = some ⟨b, o, none⟩ ∧ b < w.heap.size ∧ ∀ i, i < n → w.cell? ⟨b, o + i * 4, none⟩ = some (.int .i64 (ms.getD i (0, 0, 0, 0)).1) ∧ w.cell? ⟨b, o + i * 4 + 1, none⟩ = some (.int .i64 (ms.getD i (0, 0, 0, 0)).2.1) ∧ w.cell? ⟨b, o + i * 4 + 2, none⟩ = some (.int .i64 (ms.getD i (0, 0, 0, 0)).2.2.1) ∧ w.cell? ⟨b, o + i * 4 + 3, none⟩ = some (.int .i64 (ms.getD i (0, 0, 0, 0)).2.2.2)
theorem Sl1.below {w w' : World} {a : Option Addr} {n : Nat} {ms : List Int} (h : Sl1 w a n ms) (hb : Below w.heap.size w w') : Sl1 w' a n ms :=
  ⟨h.len, fun hn => let ⟨b, o, e, hl, hc⟩ := h.at_ hn; ⟨b, o, e, Nat.lt_of_lt_of_le hl hb.size, fun i hi => (hb.cell (p := ⟨b, o + i, none⟩) hl).trans (hc i hi)⟩⟩
theorem Sl2.below {w w' : World} {a : Option Addr} {n : Nat} {ms : List T2} (h : Sl2 w a n ms) (hb : Below w.heap.size w w') : Sl2 w' a n ms :=
  ⟨h.len, fun hn => let ⟨b, o, e, hl, hc⟩ := h.at_ hn; ⟨b, o, e, Nat.lt_of_lt_of_le hl hb.size, fun i hi => by
    obtain ⟨h1, h2⟩ := hc i hi
    exact ⟨(hb.cell (p := ⟨b, o + i * 2, none⟩) hl).trans h1, (hb.cell (p := ⟨b, o + i * 2 + 1, none⟩) hl).trans h2⟩⟩⟩
theorem Sl3.below {w w' : World} {a : Option Addr} {n : Nat} {ms : List T3} (h : Sl3 w a n ms) (hb : Below w.heap.size w w') : Sl3 w' a n ms :=
  ⟨h.len, fun hn => let ⟨b, o, e, hl, hc⟩ := h.at_ hn; ⟨b, o, e, Nat.lt_of_lt_of_le hl hb.size, fun i hi => by
    obtain ⟨h1, h2, h3⟩ := hc i hi
    exact ⟨(hb.cell (p := ⟨b, o + i * 3, none⟩) hl).trans h1, (hb.cell (p := ⟨b, o + i * 3 + 1, none⟩) hl).trans h2, (hb.cell (p := ⟨b, o + i * 3 + 2, none⟩) hl).trans h3⟩⟩⟩
theorem Sl4.below {w w' : World} {a : Option Addr} {n : Nat} {ms : List T4} (h : Sl4 w a n ms) (hb : Below w.heap.size w w') : Sl4 w' a n ms :=
  ⟨h.len, fun hn => let ⟨b, o, e, hl, hc⟩ := h.at_ hn; ⟨b, o, e, Nat.lt_of_lt_of_le hl hb.size, fun i hi => by
    obtain ⟨h1, h2, h3, h4⟩ := hc i hi
    exact ⟨(hb.cell (p := ⟨b, o + i * 4, none⟩) hl).trans h1, (hb.cell (p := ⟨b, o + i * 4 + 1, none⟩) hl).trans h2, (hb.cell (p := ⟨b, o + i * 4 + 2, none⟩) hl).trans h3, (hb.cell (p := ⟨b, o + i * 4 + 3, none⟩) hl).trans h4⟩⟩⟩

theorem within_any (n lo hi : Int) (w : World) :
    Calls Try.prog 49 #[.int .i64 n, .int .i64 lo, .int .i64 hi] w fun e w' => e = .returned (.bool (inB n lo hi)) ∧ w = w' := by
  have h1 : lo ≤ n ∧ n ≤ hi → inB n lo hi = true := fun h => by simp [inB, h.1, h.2]
  have h2 : lo ≤ n → ¬ n ≤ hi → inB n lo hi = false := fun h h' => by simp [inB, h, h']
  have h3 : ¬ lo ≤ n → inB n lo hi = false := fun h => by simp [inB, h]
  have H1 := Lib.hid h1; have H2 := Lib.hid h2; have H3 := Lib.hid h3
  clear h1 h2 h3
  by_cases a : lo ≤ n
  · by_cases b : n ≤ hi
    · go_enter Try.func49, Try.ntmps49
      go_wp2
      go_ret
      exact ⟨ret_bool (H1.out ⟨a, b⟩).symm, rfl⟩
    · go_enter Try.func49, Try.ntmps49
      go_wp2
      go_ret
      exact ⟨ret_bool (H2.out a b).symm, rfl⟩
  · go_enter Try.func49, Try.ntmps49
    go_wp2
    go_ret
    exact ⟨ret_bool (H3.out a).symm, rfl⟩

theorem in_any (n lo hi : Int) (w : World) :
    Calls Try.prog 52 #[.int .i64 n, .int .i64 lo, .int .i64 hi] w fun e w' => e = .returned (.bool (inB n lo hi)) ∧ w = w' := by
  go_enter Try.func52, Try.ntmps52
  go_wp2
  all_goals go_ret
  all_goals exact ⟨ret_bool (by simp [inB]; omega), rfl⟩

theorem span_any (lo hi : Int) (w : World) :
    Calls Try.prog 38 #[.int .i64 lo, .int .i64 hi] w fun e w' => e = .returned (.agg #[.int .i64 lo, .int .i64 hi]) ∧ Below w.heap.size w w' := by
  go_enter Try.func38, Try.ntmps38
  go_wp2
  refine bodyPost_ret (v := .agg #[.int .i64 lo, .int .i64 hi]) (by simp [results, Try.results38, go_sem]) rfl ⟨rfl, ?_⟩
  first | exact B_alloc (Below.refl _ _) _ | exact (B_alloc (Below.refl _ _) _).setCell (Nat.le_refl _) _ | exact ((B_alloc (Below.refl _ _) _).setCell (Nat.le_refl _) _).setCell (Nat.le_refl _) _
end Go.Proofs.Ytanjkhclhcnnaaa
/- The walks of demand and of the errors of spans. -/
namespace Go.Proofs.Ytanjkhclhcnnaaa
open Go.RowKit

theorem demandE_ok {xs : List T4} (h0 : demandE xs = 0) : xs.any outB = false ∧ xs.any turnB = false := by
  unfold demandE at h0
  cases h1 : xs.any outB
  · cases h2 : xs.any turnB
    · exact ⟨rfl, rfl⟩
    · rw [h1, h2] at h0; simp at h0
  · rw [h1] at h0; simp at h0
theorem getD_any {p : T4 → Bool} {xs : List T4} (h : xs.any p = false) {i : Nat} (hi : i < xs.length) : p (xs.getD i (0, 0, 0, 0)) = false := by
  have := List.any_eq_false.1 h (xs.getD i (0, 0, 0, 0)) (by simp [List.getD, hi])
  simpa using this

set_option maxHeartbeats 1000000 in
theorem demand_ok (xs : List T4) (a : Option Addr) (n c : Nat) (w : World) (hn : n ≤ 1000) (hS : Sl4 w a n xs) (h0 : demandE xs = 0) :
    Calls Try.prog 103 #[.slice a n c] w fun e w' => e = .returned (.tuple #[]) ∧ Below w.heap.size w w' := by
  obtain ⟨h1, h2⟩ := demandE_ok h0
  have hlen := hS.len
  have HX := Lib.hid (fun i (hi : i < n) => getD_any h1 (i := i) (by omega))
  have HY := Lib.hid (fun i (hi : i < n) => getD_any h2 (i := i) (by omega))
  have HS := Lib.hid hS
  clear h1 h2 h0 hlen hS
  go_enter Try.func103, Try.ntmps103
  go_wp2
  go_loopg [8] n (fun gk i wr => ∃ k : Nat, gk = n - k ∧ k ≤ n ∧ i = .int .i64 (k : Int) ∧ Below w.heap.size w wr)
  case atStart => exact ⟨0, rfl, Nat.zero_le _, rfl, Below.refl _ _⟩
  case round =>
    obtain ⟨k, rfl, hk, rfl, hb⟩ := hrel
    by_cases hlt : k < n
    · obtain ⟨b, o, rfl, hbs, hc⟩ := (HS.out.below hb).at_ (by omega)
      obtain ⟨c0, c1, c2, c3⟩ := hc k hlt
      have hx := HX.out k hlt
      generalize xs.getD k (0, 0, 0, 0) = s at c0 c1 c2 c3 hx
      obtain ⟨s0, s1, s2, s3⟩ := s
      simp only [outB, Bool.or_eq_false_iff, Bool.not_eq_false'] at c0 c1 c2 c3 hx
      obtain ⟨x1, x2⟩ := hx
      have HW1 := Lib.hid (fun W => within_any s0 s2 s3 W)
      have HW2 := Lib.hid (fun W => within_any s1 s2 s3 W)
      rw [x1] at HW1
      rw [x2] at HW2
      have hk0 : (0 : Int) ≤ k := by omega
      have hkl : (k : Int) < n := by omega
      clear hc x1 x2
      go_wp2_with (first | (go_at_call 49; ((with_reducible refine (HW1.out _).mono ?_); rintro e w1 ⟨rfl, rfl⟩)) | (go_at_call 49; ((with_reducible refine (HW2.out _).mono ?_); rintro e w1 ⟨rfl, rfl⟩)))
      go_roundg (n - (k + 1))
      case rel => exact ⟨k + 1, rfl, by omega, by go_num, B_alloc hb _⟩
      case measure => omega
    · obtain rfl : k = n := by omega
      go_wp2
      go_loopg [36] k (fun gk i wr => ∃ j : Nat, gk = k - j ∧ j ≤ k ∧ i = .int .i64 (j : Int) ∧ Below w.heap.size w wr)
      case atStart => exact ⟨0, rfl, Nat.zero_le _, rfl, hb⟩
      case round =>
        obtain ⟨j, rfl, hj, rfl, hb⟩ := hrel
        by_cases hlt : j < k
        · obtain ⟨b, o, rfl, hbs, hc⟩ := (HS.out.below hb).at_ (by omega)
          obtain ⟨c0, c1, c2, c3⟩ := hc j hlt
          have hy := HY.out j hlt
          generalize xs.getD j (0, 0, 0, 0) = s at c0 c1 c2 c3 hy
          obtain ⟨s0, s1, s2, s3⟩ := s
          simp only [turnB, decide_eq_false_iff_not] at c0 c1 c2 c3 hy
          have hk0 : (0 : Int) ≤ j := by omega
          have hkl : (j : Int) < k := by omega
          clear hc
          go_wp2
          go_roundg (k - (j + 1))
          case rel => exact ⟨j + 1, rfl, by omega, by go_num, B_alloc hb _⟩
          case measure => omega
        · obtain rfl : j = k := by omega
          go_wp2
          go_end0
          exact ⟨rfl, hb⟩

def Panics (k : Int) (e : Ending) : Prop := e = .panicked [{ v := .iface 32 (.int .i64 k), recovered := false }]

set_option maxHeartbeats 1000000 in
theorem demand_bad (xs : List T4) (a : Option Addr) (n c : Nat) (w : World) (hn : n ≤ 1000) (hS : Sl4 w a n xs) (h0 : demandE xs ≠ 0) :
    Calls Try.prog 103 #[.slice a n c] w fun e w' => Panics (demandE xs) e ∧ Below w.heap.size w w' := by
  have hlen := hS.len
  have HS := Lib.hid hS
  have H0 := Lib.hid h0
  clear h0 hlen hS
  go_enter Try.func103, Try.ntmps103
  go_wp2
  go_loopg [8] n (fun gk i wr => ∃ k : Nat, gk = n - k ∧ k ≤ n ∧ i = .int .i64 (k : Int) ∧ (xs.take k).any outB = false ∧ Below w.heap.size w wr)
  case atStart => exact ⟨0, rfl, Nat.zero_le _, rfl, rfl, Below.refl _ _⟩
  case round =>
    obtain ⟨k, rfl, hk, rfl, hno, hb⟩ := hrel
    replace hno := Lib.hid hno
    by_cases hlt : k < n
    · obtain ⟨b, o, rfl, hbs, hc⟩ := (HS.out.below hb).at_ (by omega)
      obtain ⟨c0, c1, c2, c3⟩ := hc k hlt
      have hst := Lib.hid (any_stop (p := outB) (0, 0, 0, 0) (l := xs) (k := k) (by have := HS.out.len; omega))
      have hnx := Lib.hid (any_take_next (p := outB) (0, 0, 0, 0) (l := xs) (k := k) (by have := HS.out.len; omega) hno.out)
      generalize xs.getD k (0, 0, 0, 0) = s at c0 c1 c2 c3 hst hnx
      obtain ⟨s0, s1, s2, s3⟩ := s
      simp only at c0 c1 c2 c3
      have HW1 := Lib.hid (fun W => within_any s0 s2 s3 W)
      have HW2 := Lib.hid (fun W => within_any s1 s2 s3 W)
      have hk0 : (0 : Int) ≤ k := by omega
      have hkl : (k : Int) < n := by omega
      clear hc
      cases x1 : inB s0 s2 s3
      · rw [x1] at HW1
        have hout := Lib.hid (hst.out (by simp [outB, x1]))
        clear x1 hst hnx
        go_wp2_with (first | (go_at_call 49; ((with_reducible refine (HW1.out _).mono ?_); rintro e w1 ⟨rfl, rfl⟩)) | (go_at_call 49; ((with_reducible refine (HW2.out _).mono ?_); rintro e w1 ⟨rfl, rfl⟩)))
        exact ⟨rfl, by rw [demandE, if_pos hout.out]; rfl, B_alloc hb _⟩
      · rw [x1] at HW1
        cases x2 : inB s1 s2 s3
        · rw [x2] at HW2
          have hout := Lib.hid (hst.out (by simp [outB, x2]))
          clear x1 x2 hst hnx
          go_wp2_with (first | (go_at_call 49; ((with_reducible refine (HW1.out _).mono ?_); rintro e w1 ⟨rfl, rfl⟩)) | (go_at_call 49; ((with_reducible refine (HW2.out _).mono ?_); rintro e w1 ⟨rfl, rfl⟩)))
          exact ⟨rfl, by rw [demandE, if_pos hout.out]; rfl, B_alloc hb _⟩
        · rw [x2] at HW2
          have hno1 := Lib.hid (hnx.out (by simp [outB, x1, x2]))
          clear x1 x2 hst hnx
          go_wp2_with (first | (go_at_call 49; ((with_reducible refine (HW1.out _).mono ?_); rintro e w1 ⟨rfl, rfl⟩)) | (go_at_call 49; ((with_reducible refine (HW2.out _).mono ?_); rintro e w1 ⟨rfl, rfl⟩)))
          go_roundg (n - (k + 1))
          case rel => exact ⟨k + 1, rfl, by omega, by go_num, hno1.out, B_alloc hb _⟩
          case measure => omega
    · obtain rfl : k = n := by omega
      have hno1 : Hid (xs.any outB = false) := Lib.hid (by have := hno.out; rwa [List.take_of_length_le (by have := HS.out.len; omega)] at this)
      go_wp2
      go_loopg [36] k (fun gk i wr => ∃ j : Nat, gk = k - j ∧ j ≤ k ∧ i = .int .i64 (j : Int) ∧ (xs.take j).any turnB = false ∧ Below w.heap.size w wr)
      case atStart => exact ⟨0, rfl, Nat.zero_le _, rfl, rfl, hb⟩
      case round =>
        obtain ⟨j, rfl, hj, rfl, hnt, hb⟩ := hrel
        replace hnt := Lib.hid hnt
        by_cases hlt : j < k
        · obtain ⟨b, o, rfl, hbs, hc⟩ := (HS.out.below hb).at_ (by omega)
          obtain ⟨c0, c1, c2, c3⟩ := hc j hlt
          have hst := Lib.hid (any_stop (p := turnB) (0, 0, 0, 0) (l := xs) (k := j) (by have := HS.out.len; omega))
          have hnx := Lib.hid (any_take_next (p := turnB) (0, 0, 0, 0) (l := xs) (k := j) (by have := HS.out.len; omega) hnt.out)
          generalize xs.getD j (0, 0, 0, 0) = s at c0 c1 c2 c3 hst hnx
          obtain ⟨s0, s1, s2, s3⟩ := s
          simp only at c0 c1 c2 c3
          have hk0 : (0 : Int) ≤ j := by omega
          have hkl : (j : Int) < k := by omega
          clear hc
          by_cases x : s1 < s0
          · have hout := Lib.hid (hst.out (by simp [turnB, x]))
            clear hst hnx
            go_wp2
            exact ⟨rfl, by rw [demandE, if_neg (by rw [hno1.out]; simp), if_pos hout.out]; rfl, B_alloc hb _⟩
          · have hnt1 := Lib.hid (hnx.out (by simp [turnB]; omega))
            clear hst hnx
            go_wp2
            go_roundg (k - (j + 1))
            case rel => exact ⟨j + 1, rfl, by omega, by go_num, hnt1.out, B_alloc hb _⟩
            case measure => omega
        · obtain rfl : j = k := by omega
          refine absurd ?_ H0.out
          have := hnt.out
          rw [List.take_of_length_le (by have := HS.out.len; omega)] at this
          rw [demandE, if_neg (by rw [hno1.out]; simp), if_neg (by rw [this]; simp)]

theorem demandE_two {xs : List T4} (h : demandE xs ≠ 0) : demandE xs = 7 ∨ demandE xs = 2 := by
  unfold demandE at h ⊢
  split
  · exact .inl rfl
  · split
    · exact .inr rfl
    · rename_i a b; rw [if_neg a, if_neg b] at h; exact absurd rfl h
end Go.Proofs.Ytanjkhclhcnnaaa
/- spansError: its deferred closure, and it itself. -/
namespace Go.Proofs.Ytanjkhclhcnnaaa
open Go.RowKit

set_option maxRecDepth 100000 in
set_option maxHeartbeats 1000000 in
theorem catch_panicking (p : Addr) (x k : Int) (older : List PanicEntry) (w : World) (hc : w.cell? p = some (.int .i64 x)) (hz : w.frozen? p = false) :
    CallsD Try.prog 102 #[.pointer (some p)] (.panicking ({ v := .iface 32 (.int .i64 k), recovered := false } :: older)) w fun e u' w' =>
      e = .returned (.tuple #[]) ∧ u' = .panicking ({ v := .iface 32 (.int .i64 k), recovered := true } :: older) ∧ w' = w.setCell p (.int .i64 k) := by
  have hta : ∀ W : World, (Instr.typeAssert (.iface 32 (.int .i64 k)) 20 32 true).run Try.prog W = .ok (.tuple #[.int .i64 k, .bool true]) W := fun _ => rfl
  refine callsD_of_wpS Try.func102 rfl fun c₀ cs hu => ?_
  apply wpS_seq
  apply wpS_region
  simp [wpOpsS, go_sem, recoverD, hu, hta, Try.ntmps102, Exit.thenS]
  apply wpS_seq
  apply wpS_region
  simp [wpOpsS, go_sem, Exit.thenS]
  refine wpS_cond (t := true) (by simp [Act.eval, Array.replicate]) ?_
  simp only [if_true]
  apply wpS_region
  simp [wpOpsS, go_sem, hc, hz, bodyPostS, results, Try.results102]

set_option maxRecDepth 100000 in
set_option maxHeartbeats 1000000 in
theorem catch_idle (p : Addr) (w : World) :
    CallsD Try.prog 102 #[.pointer (some p)] .returning w fun e u' w' => e = .returned (.tuple #[]) ∧ u' = .returning ∧ w' = w := by
  have hta : ∀ W : World, (Instr.typeAssert .nilIface 20 32 true).run Try.prog W = .ok (.tuple #[.int .i64 0, .bool false]) W := fun _ => by kernel_rfl
  refine callsD_of_wpS Try.func102 rfl fun c₀ cs hu => ?_
  apply wpS_seq
  apply wpS_region
  simp [wpOpsS, go_sem, recoverD, hu, hta, Try.ntmps102, Exit.thenS]
  apply wpS_seq
  apply wpS_region
  simp [wpOpsS, go_sem, Exit.thenS]
  refine wpS_cond (t := false) (by simp [Act.eval, Array.replicate]) ?_
  simp only [Bool.false_eq_true, if_false]
  refine wpS_of_wp (wp_skip ?_)
  cases c₀
  simp_all [bodyPostS, results, Try.results102]

set_option maxHeartbeats 1000000 in
theorem spansError_any (xs : List T4) (a : Option Addr) (n c : Nat) (w : World) (hn : n ≤ 1000) (hS : Sl4 w a n xs) :
    Calls Try.prog 81 #[.slice a n c] w fun e w' => e = .returned (.int .i64 (demandE xs)) ∧ Below w.heap.size w w' := by
  have hmf : ∀ (fn : Fn) (first cap : Array Value) (w : World), (Instr.makeFunc fn first cap).run Try.prog w = .ok (.func fn first cap) w := fun _ _ _ _ => rfl
  have hS1 := hS.below (B_alloc (Below.refl w.heap.size w) (.cells #[.int .i64 0] 32))
  by_cases h0 : demandE xs = 0
  · have HC := Lib.hid (demand_ok xs a n c _ hn hS1 h0)
    rw [h0]
    clear h0 hS hS1
    go_enter_defers Try.func81, Try.ntmps81
    go_wp2_with (go_at_call 103; ((with_reducible refine HC.out.mono ?_); rintro e w1 ⟨rfl, hb⟩; obtain ⟨hc1, hf1⟩ := bcell hb))
    have hz : w.heap.size < w1.heap.size := by have := hb.size; simp at this; omega
    refine leaves_cons (f := 102) (args := #[.pointer (some ⟨w.heap.size, 0, none⟩)]) (by simp) (by simp [go_sem]) ?_
    refine (catch_idle ⟨w.heap.size, 0, none⟩ _).mono ?_
    rintro e u' w'' ⟨rfl, rfl, rfl⟩
    refine ⟨_, ?_, rfl, ?_⟩
    · simp [results, Try.results81, go_sem, hc1]
    · exact (B_trans (B_alloc (Below.refl _ _) _) hb).setCell (Nat.le_refl _) _
  · have HC := Lib.hid (demand_bad xs a n c _ hn hS1 h0)
    generalize demandE xs = k at HC ⊢
    clear h0 hS hS1
    go_enter_defers Try.func81, Try.ntmps81
    go_wp2_with (go_at_call 103; ((with_reducible refine HC.out.mono ?_); rintro e w1 ⟨he, hb⟩; obtain rfl := he; obtain ⟨hc1, hf1⟩ := bcell hb))
    have hz : w.heap.size < w1.heap.size := by have := hb.size; simp at this; omega
    refine leaves_cons (f := 102) (args := #[.pointer (some ⟨w.heap.size, 0, none⟩)]) (by simp) (by simp [go_sem]) ?_
    refine (catch_panicking ⟨w.heap.size, 0, none⟩ 0 k [] _ ?_ ?_).mono ?_
    · rw [hc1 _ _ (by simp)]; simp
    · rw [hf1 _ _ (by simp)]; simp
    rintro e u' w'' ⟨rfl, rfl, rfl⟩
    have hcell : (w1.setCell ⟨w.heap.size, 0, none⟩ (.int .i64 k)).cell? ⟨w.heap.size, 0, none⟩ = some (.int .i64 k) := World.cell?_setCell_same' _ _ _ (by rw [hc1 _ _ (by simp)]; simp)
    have hB : Below w.heap.size w (w1.setCell ⟨w.heap.size, 0, none⟩ (.int .i64 k)) := (B_trans (B_alloc (Below.refl _ _) _) hb).setCell (Nat.le_refl _) _
    generalize w1.setCell ⟨w.heap.size, 0, none⟩ (.int .i64 k) = W at hcell hB ⊢
    simp [Leaves, settle, results, Try.results81, go_sem, hcell, hB]
end Go.Proofs.Ytanjkhclhcnnaaa
/- climateError, levelsError, testError. -/
namespace Go.Proofs.Ytanjkhclhcnnaaa
open Go.RowKit

theorem sl4_one (W : World) (a b c d : Int) (t n : Nat) (h : n = W.heap.size) : Sl4 (W.alloc (.cells #[.int .i64 a, .int .i64 b, .int .i64 c, .int .i64 d] t)) (some ⟨n, 0, none⟩) 1 [(a, b, c, d)] := by
  subst h
  refine ⟨rfl, fun _ => ⟨W.heap.size, 0, rfl, by simp, fun i hi => ?_⟩⟩
  obtain rfl : i = 0 := by omega
  exact ⟨by simp, by simp, by simp, by simp⟩
theorem sl4_two (W : World) (a b c d a' b' c' d' : Int) (t n : Nat) (h : n = W.heap.size) : Sl4 (W.alloc (.cells #[.int .i64 a, .int .i64 b, .int .i64 c, .int .i64 d, .int .i64 a', .int .i64 b', .int .i64 c', .int .i64 d'] t)) (some ⟨n, 0, none⟩) 2 [(a, b, c, d), (a', b', c', d')] := by
  subst h
  refine ⟨rfl, fun _ => ⟨W.heap.size, 0, rfl, by simp, fun i hi => ?_⟩⟩
  match i, hi with
  | 0, _ => exact ⟨by simp, by simp, by simp, by simp⟩
  | 1, _ => exact ⟨by simp, by simp, by simp, by simp⟩

theorem climateError_any (d : T4) (w : World) :
    Calls Try.prog 55 #[.agg #[.int .i64 d.1, .int .i64 d.2.1, .int .i64 d.2.2.1, .int .i64 d.2.2.2]] w fun e w' => e = .returned (.int .i64 (dayE d)) ∧ Below w.heap.size w w' := by
  obtain ⟨d0, d1, d2, d3⟩ := d
  unfold dayE
  simp only
  go_enter Try.func55, Try.ntmps55
  go_wp2_with (go_at_call 81; ((with_reducible refine (spansError_any _ _ _ _ _ (by decide) (sl4_two _ _ _ _ _ _ _ _ _ _ _ (by simp))).mono ?_); rintro e w1 ⟨rfl, hb⟩))
  go_ret
  exact ⟨rfl, B_trans (B_alloc (B_alloc (Below.refl _ _) _) _) hb⟩
theorem levelsError_any (n : T2) (w : World) :
    Calls Try.prog 56 #[.agg #[.int .i64 n.1, .int .i64 n.2]] w fun e w' => e = .returned (.int .i64 (lvE n)) ∧ Below w.heap.size w w' := by
  obtain ⟨d0, d1⟩ := n
  unfold lvE
  simp only
  go_enter Try.func56, Try.ntmps56
  go_wp2_with (go_at_call 81; ((with_reducible refine (spansError_any _ _ _ _ _ (by decide) (sl4_one _ _ _ _ _ _ _ (by simp))).mono ?_); rintro e w1 ⟨rfl, hb⟩))
  go_ret
  exact ⟨rfl, B_trans (B_alloc (B_alloc (Below.refl _ _) _) _) hb⟩
end Go.Proofs.Ytanjkhclhcnnaaa
/- firstError, for any function value that only makes memory. -/
namespace Go.Proofs.Ytanjkhclhcnnaaa
open Go.RowKit

set_option maxHeartbeats 1000000 in
theorem firstError_any (g : Nat) (cap : Array Value) (f : Nat → Int) (n : Nat) (w : World) (hn : n ≤ 100000) (eg : ∀ args w, (callFunc g args).run Try.prog w = .ok (.enter g args) w)
    (hf : ∀ (i : Nat) (W : World), i < n → Below w.heap.size w W → Calls Try.prog g (#[.int .i64 i] ++ cap) W fun e w' => e = .returned (.int .i64 (f i)) ∧ Below W.heap.size W w') :
    Calls Try.prog 53 #[.int .i64 n, .func (.func g) #[] cap] w fun e w' => e = .returned (.tuple #[.int .i64 (firstE f n).1, .int .i64 (firstE f n).2]) ∧ Below w.heap.size w w' := by
  replace hf := Lib.hid hf
  go_enter Try.func53, Try.ntmps53
  go_wp2
  go_loopg [9] n (fun gk i wr => ∃ k : Nat, gk = n - k ∧ k ≤ n ∧ i = .int .i64 (k : Int) ∧ (firstE f k).2 = 0 ∧ Below w.heap.size w wr)
  case atStart => exact ⟨0, rfl, Nat.zero_le _, rfl, rfl, Below.refl _ _⟩
  case round =>
    obtain ⟨k, rfl, hk, rfl, h0, hb⟩ := hrel
    replace h0 := Lib.hid h0
    by_cases hlt : k < n
    · have HC := Lib.hid (hf.out k wr hlt hb)
      have hs := Lib.hid (fun (h : f k ≠ 0) => firstE_stop h0.out h hlt)
      have hx := Lib.hid (fun (h : f k = 0) => firstE_next h0.out h)
      generalize f k = fk at HC hs hx
      have hk0 : (0 : Int) ≤ k := by omega
      have hkl : (k : Int) < n := by omega
      by_cases he : fk = 0
      · subst he
        replace hx := Lib.hid (hx.out rfl)
        clear hs
        go_wp2_with fail
        refine HC.out.mono ?_
        rintro e w1 ⟨rfl, hb1⟩
        go_wp2
        go_roundg (n - (k + 1))
        case rel => exact ⟨k + 1, rfl, by omega, by go_num, hx.out, B_trans hb hb1⟩
        case measure => omega
      · replace hs := Lib.hid (hs.out he)
        have hq : (fk != 0) = true := by simpa using he
        clear hx he
        go_wp2_with fail
        refine HC.out.mono ?_
        rintro e w1 ⟨rfl, hb1⟩
        go_wp2
        go_ret2
        exact ⟨by rw [hs.out]; rfl, B_trans hb hb1⟩
    · obtain rfl : k = n := by omega
      go_wp2
      go_ret2
      exact ⟨by rw [firstE_zero h0.out]; rfl, hb⟩
end Go.Proofs.Ytanjkhclhcnnaaa
/- checkCurve, checkGrades and Check of the code. -/
namespace Go.Proofs.Ytanjkhclhcnnaaa
open Go.RowKit Go.Shelf

/-- The error of a point of a curve; of a grade. -/
def ptP (p q : T2) (lo hi : Int) (first : Bool) : Int :=
  if inB p.1 lo hi && inB p.2 0 1000 then (if !first && (decide (p.1 ≤ q.1) || decide (p.2 < q.2)) then 2 else 0) else 7
def ptE (l : List T2) (lo hi : Int) (i : Nat) : Int := ptP (l.getD i (0, 0)) (l.getD (i - 1) (0, 0)) lo hi (decide (i = 0))
def curveE (l : List T2) (lo hi : Int) : Int × Int := if inB l.length 2 8 then firstE (ptE l lo hi) l.length else (0, 3)

set_option maxHeartbeats 2000000 in
theorem curve1_any (l : List T2) (a : Option Addr) (n c : Nat) (lo hi : Int) (B1 B2 B3 i : Nat) (w : World) (hn : n ≤ 100000) (hi' : i < n) (hS : Sl2 w a n l)
    (c1 : w.cell? ⟨B1, 0, none⟩ = some (.slice a n c)) (c2 : w.cell? ⟨B2, 0, none⟩ = some (.int .i64 lo)) (c3 : w.cell? ⟨B3, 0, none⟩ = some (.int .i64 hi)) (b1 : B1 < w.heap.size) (b2 : B2 < w.heap.size) (b3 : B3 < w.heap.size) :
    Calls Try.prog 79 #[.int .i64 i, .pointer (some ⟨B1, 0, none⟩), .pointer (some ⟨B2, 0, none⟩), .pointer (some ⟨B3, 0, none⟩)] w fun e w' => e = .returned (.int .i64 (ptE l lo hi i)) ∧ Below w.heap.size w w' := by
  obtain ⟨b, o, rfl, hbs, hc⟩ := hS.at_ (by omega)
  obtain ⟨p1, p2⟩ := hc i hi'
  obtain ⟨q1, q2⟩ := hc (i - 1) (by omega)
  unfold ptE
  generalize l.getD i (0, 0) = p at p1 p2 ⊢
  generalize l.getD (i - 1) (0, 0) = q at q1 q2 ⊢
  obtain ⟨p1', p2'⟩ := p
  obtain ⟨q1', q2'⟩ := q
  simp only at p1 p2 q1 q2
  clear hc hS
  have HW1 := Lib.hid (fun W => within_any p1' lo hi W)
  have HW2 := Lib.hid (fun W => within_any p2' 0 1000 W)
  have hB : ∀ v, Below w.heap.size w (w.alloc (.cells v 120)) := fun v => B_alloc (Below.refl _ _) _
  replace hB := Lib.hid hB
  unfold ptP
  simp only
  cases x1 : inB p1' lo hi
  · rw [x1] at HW1
    clear x1 q1 q2
    have hil : (i : Int) < n := by omega
    have hi0 : (0 : Int) ≤ i := by omega
    go_enter Try.func79, Try.ntmps79
    go_wp2_with (first | (go_at_call 49; ((with_reducible refine (HW1.out _).mono ?_); rintro e w1 ⟨rfl, rfl⟩)) | (go_at_call 49; ((with_reducible refine (HW2.out _).mono ?_); rintro e w1 ⟨rfl, rfl⟩)))
    go_ret
    exact ⟨rfl, hB.out _⟩
  · cases x2 : inB p2' 0 1000
    · rw [x1] at HW1
      rw [x2] at HW2
      clear x1 x2 q1 q2
      have hil : (i : Int) < n := by omega
      have hi0 : (0 : Int) ≤ i := by omega
      go_enter Try.func79, Try.ntmps79
      go_wp2_with (first | (go_at_call 49; ((with_reducible refine (HW1.out _).mono ?_); rintro e w1 ⟨rfl, rfl⟩)) | (go_at_call 49; ((with_reducible refine (HW2.out _).mono ?_); rintro e w1 ⟨rfl, rfl⟩)))
      go_ret
      exact ⟨rfl, hB.out _⟩
    · rw [x1] at HW1
      rw [x2] at HW2
      clear x1 x2
      rcases i with _ | j
      · clear q1 q2
        simp only [Nat.zero_mul, Nat.add_zero] at p1 p2
        go_enter Try.func79, Try.ntmps79
        go_wp2_with (first | (go_at_call 49; ((with_reducible refine (HW1.out _).mono ?_); rintro e w1 ⟨rfl, rfl⟩)) | (go_at_call 49; ((with_reducible refine (HW2.out _).mono ?_); rintro e w1 ⟨rfl, rfl⟩)))
        go_quiet (fail)
        go_wp2
        go_ret
        exact ⟨rfl, below_drewN (hB.out _) _⟩
      · have hil : (j : Int) + 1 < n := by omega
        have hjl : (j : Int) < n := by omega
        have hi0 : (0 : Int) ≤ j := by omega
        have hj1 : (0 : Int) ≤ (j : Int) + 1 := by omega
        rw [show j + 1 - 1 = j from rfl] at q1 q2
        have k1 : ((j : Int) + 1).toNat = j + 1 := by omega
        have k2 : IntKind.i64.wrap ((j : Int) + 1 - 1) = j := by rw [show (j : Int) + 1 - 1 = j by omega]; exact IntWalk.i64_in _ (by omega)
        have k0 : ((j + 1 : Nat) : Int) = (j : Int) + 1 := by omega
        by_cases y : p1' ≤ q1'
        · simp only [k0]
          clear k0
          go_enter Try.func79, Try.ntmps79
          go_wp2_with (first | (go_at_call 49; ((with_reducible refine (HW1.out _).mono ?_); rintro e w1 ⟨rfl, rfl⟩)) | (go_at_call 49; ((with_reducible refine (HW2.out _).mono ?_); rintro e w1 ⟨rfl, rfl⟩)))
          go_quiet (fail)
          go_wp2
          go_ret
          exact ⟨rfl, below_drewN (hB.out _) _⟩
        · have hd : decide (p1' ≤ q1') = false := by simpa using y
          by_cases z : p2' < q2'
          · simp only [k0]
            clear k0
            go_enter Try.func79, Try.ntmps79
            go_wp2_with (first | (go_at_call 49; ((with_reducible refine (HW1.out _).mono ?_); rintro e w1 ⟨rfl, rfl⟩)) | (go_at_call 49; ((with_reducible refine (HW2.out _).mono ?_); rintro e w1 ⟨rfl, rfl⟩)))
            go_quiet (fail)
            go_wp2
            go_ret
            exact ⟨rfl, below_drewN (hB.out _) _⟩
          · have hd2 : decide (p2' < q2') = false := by simpa using z
            simp only [k0]
            clear k0
            go_enter Try.func79, Try.ntmps79
            go_wp2_with (first | (go_at_call 49; ((with_reducible refine (HW1.out _).mono ?_); rintro e w1 ⟨rfl, rfl⟩)) | (go_at_call 49; ((with_reducible refine (HW2.out _).mono ?_); rintro e w1 ⟨rfl, rfl⟩)))
            go_quiet (fail)
            go_wp2
            go_ret
            exact ⟨rfl, below_drewN (hB.out _) _⟩

set_option maxHeartbeats 1000000 in
theorem checkCurve_any (l : List T2) (a : Option Addr) (n c : Nat) (lo hi : Int) (w : World) (hn : n ≤ 140737488351232) (hS : Sl2 w a n l) :
    Calls Try.prog 48 #[.slice a n c, .int .i64 lo, .int .i64 hi] w fun e w' => e = .returned (.tuple #[.int .i64 (curveE l lo hi).1, .int .i64 (curveE l lo hi).2]) ∧ Below w.heap.size w w' := by
  have hl := hS.len
  have HW := Lib.hid (fun W => within_any (n : Int) 2 8 W)
  unfold curveE
  rw [hl]
  cases x : inB n 2 8
  · rw [x] at HW
    clear hS hl x
    go_enter Try.func48, Try.ntmps48
    go_wp2_with (go_at_call 49; ((with_reducible refine (HW.out _).mono ?_); rintro e w1 ⟨rfl, rfl⟩))
    go_ret2
    exact ⟨rfl, B_alloc (B_alloc (B_alloc (Below.refl _ _) _) _) _⟩
  · rw [x] at HW
    obtain ⟨x1, x2⟩ := inB_iff.1 x
    have hb3 : Below w.heap.size w (((w.alloc (.cells #[.slice a n c] 22)).alloc (.cells #[.int .i64 lo] 3)).alloc (.cells #[.int .i64 hi] 3)) := B_alloc (B_alloc (B_alloc (Below.refl _ _) _) _) _
    obtain ⟨W3, hW3⟩ : ∃ W3, (((w.alloc (.cells #[.slice a n c] 22)).alloc (.cells #[.int .i64 lo] 3)).alloc (.cells #[.int .i64 hi] 3)) = W3 := ⟨_, rfl⟩
    have z1 : W3.cell? ⟨w.heap.size, 0, none⟩ = some (.slice a n c) := by rw [← hW3, alloc_old _ _ _ _ (by simp; omega), alloc_old _ _ _ _ (by simp)]; simp
    have z2 : W3.cell? ⟨w.heap.size + 1, 0, none⟩ = some (.int .i64 lo) := by rw [← hW3, alloc_old _ _ _ _ (by simp), World.cell?_alloc_at _ _ _ _ (by simp)]; rfl
    have z3 : W3.cell? ⟨w.heap.size + 1 + 1, 0, none⟩ = some (.int .i64 hi) := by rw [← hW3, World.cell?_alloc_at _ _ _ _ (by simp)]; rfl
    have z : W3.heap.size = w.heap.size + 1 + 1 + 1 := by rw [← hW3]; simp
    rw [hW3] at hb3
    have HC := firstError_any 79 #[.pointer (some ⟨w.heap.size, 0, none⟩), .pointer (some ⟨w.heap.size + 1, 0, none⟩), .pointer (some ⟨w.heap.size + 1 + 1, 0, none⟩)] (ptE l lo hi) n
      W3 (by omega) (enters_of Try.func79 (by kernel_rfl) rfl)
      (fun i W hi' hb => curve1_any l a n c lo hi w.heap.size (w.heap.size + 1) (w.heap.size + 1 + 1) i W (by omega) hi' (hS.below (B_trans hb3 hb)) ((hb.cell (by rw [z]; show w.heap.size < _; omega)).trans z1) ((hb.cell (by rw [z]; show w.heap.size + 1 < _; omega)).trans z2) ((hb.cell (by rw [z]; show w.heap.size + 1 + 1 < _; omega)).trans z3) (by have := hb.size; omega) (by have := hb.size; omega) (by have := hb.size; omega))
    rw [← hW3] at HC hb3
    clear z z1 z2 z3 hW3
    replace HC := Lib.hid HC
    replace hb3 := Lib.hid hb3
    have hmf : ∀ (fn : Fn) (first cap : Array Value) (w : World), (Instr.makeFunc fn first cap).run Try.prog w = .ok (.func fn first cap) w := fun _ _ _ _ => rfl
    clear hS hl x
    go_enter Try.func48, Try.ntmps48
    go_wp2_with (first | (go_at_call 49; ((with_reducible refine (HW.out _).mono ?_); rintro e w1 ⟨rfl, rfl⟩)) | (go_at_call 53; ((with_reducible refine HC.out.mono ?_); rintro e w1 ⟨rfl, hb⟩)))
    go_ret2
    exact ⟨rfl, B_trans hb3.out hb⟩
end Go.Proofs.Ytanjkhclhcnnaaa
/- checkGrades of the code. -/
namespace Go.Proofs.Ytanjkhclhcnnaaa
open Go.RowKit Go.Shelf

def gradeE (g0 g1 g2 : Int) : Nat → Int
  | 0 => if inB g0 1 1000000 then 0 else 7
  | 1 => if inB g1 1 1000000 then (if decide (g1 ≤ g0) then 2 else 0) else 7
  | 2 => if inB g2 1 1000000 then (if decide (g2 ≤ g1) then 2 else 0) else 7
  | _ => 0
def gradesE (g0 g1 g2 : Int) : Int × Int := firstE (gradeE g0 g1 g2) 3

set_option maxHeartbeats 2000000 in
theorem grades1_any (g0 g1 g2 : Int) (B1 i : Nat) (w : World) (hi' : i < 3)
    (c0 : w.cell? ⟨B1, 0, none⟩ = some (.int .i64 g0)) (c1 : w.cell? ⟨B1, 1, none⟩ = some (.int .i64 g1)) (c2 : w.cell? ⟨B1, 2, none⟩ = some (.int .i64 g2)) :
    Calls Try.prog 80 #[.int .i64 i, .pointer (some ⟨B1, 0, none⟩)] w fun e w' => e = .returned (.int .i64 (gradeE g0 g1 g2 i)) ∧ Below w.heap.size w w' := by
  match i, hi' with
  | 0, _ =>
    have HW := Lib.hid (fun W => within_any g0 1 1000000 W)
    unfold gradeE
    cases x : inB g0 1 1000000
    all_goals rw [x] at HW
    all_goals clear x
    all_goals go_enter Try.func80, Try.ntmps80
    all_goals go_wp2_with (go_at_call 49; ((with_reducible refine (HW.out _).mono ?_); rintro e w1 ⟨rfl, rfl⟩))
    · go_ret
      exact ⟨rfl, Below.refl _ _⟩
    · go_quiet (fail)
      go_wp2
      go_ret
      exact ⟨rfl, below_drewN (Below.refl _ _) _⟩
  | 1, _ =>
    have HW := Lib.hid (fun W => within_any g1 1 1000000 W)
    unfold gradeE
    cases x : inB g1 1 1000000
    · rw [x] at HW
      clear x
      go_enter Try.func80, Try.ntmps80
      go_wp2_with (go_at_call 49; ((with_reducible refine (HW.out _).mono ?_); rintro e w1 ⟨rfl, rfl⟩))
      go_ret
      exact ⟨rfl, Below.refl _ _⟩
    · rw [x] at HW
      clear x
      by_cases y : g1 ≤ g0
      · go_enter Try.func80, Try.ntmps80
        go_wp2_with (go_at_call 49; ((with_reducible refine (HW.out _).mono ?_); rintro e w1 ⟨rfl, rfl⟩))
        go_quiet (fail)
        go_wp2
        go_ret
        exact ⟨by simp, below_drewN (Below.refl _ _) _⟩
      · have hd : decide (g1 ≤ g0) = false := by simpa using y
        go_enter Try.func80, Try.ntmps80
        go_wp2_with (go_at_call 49; ((with_reducible refine (HW.out _).mono ?_); rintro e w1 ⟨rfl, rfl⟩))
        go_quiet (fail)
        go_wp2
        go_ret
        exact ⟨by simp, below_drewN (Below.refl _ _) _⟩
  | 2, _ =>
    have HW := Lib.hid (fun W => within_any g2 1 1000000 W)
    unfold gradeE
    cases x : inB g2 1 1000000
    · rw [x] at HW
      clear x
      go_enter Try.func80, Try.ntmps80
      go_wp2_with (go_at_call 49; ((with_reducible refine (HW.out _).mono ?_); rintro e w1 ⟨rfl, rfl⟩))
      go_ret
      exact ⟨rfl, Below.refl _ _⟩
    · rw [x] at HW
      clear x
      by_cases y : g2 ≤ g1
      · go_enter Try.func80, Try.ntmps80
        go_wp2_with (go_at_call 49; ((with_reducible refine (HW.out _).mono ?_); rintro e w1 ⟨rfl, rfl⟩))
        go_quiet (fail)
        go_wp2
        go_ret
        exact ⟨by simp, below_drewN (Below.refl _ _) _⟩
      · have hd : decide (g2 ≤ g1) = false := by simpa using y
        go_enter Try.func80, Try.ntmps80
        go_wp2_with (go_at_call 49; ((with_reducible refine (HW.out _).mono ?_); rintro e w1 ⟨rfl, rfl⟩))
        go_quiet (fail)
        go_wp2
        go_ret
        exact ⟨by simp, below_drewN (Below.refl _ _) _⟩

set_option maxHeartbeats 1000000 in
theorem checkGrades_any (g0 g1 g2 : Int) (w : World) :
    Calls Try.prog 50 #[.agg #[.int .i64 g0, .int .i64 g1, .int .i64 g2]] w fun e w' => e = .returned (.tuple #[.int .i64 (gradesE g0 g1 g2).1, .int .i64 (gradesE g0 g1 g2).2]) ∧ Below w.heap.size w w' := by
  obtain ⟨W1, hW1⟩ : ∃ W1, (w.alloc (.cells #[.int .i64 g0, .int .i64 g1, .int .i64 g2] 23)) = W1 := ⟨_, rfl⟩
  have hb1 : Below w.heap.size w W1 := by rw [← hW1]; exact B_alloc (Below.refl _ _) _
  have z : w.heap.size < W1.heap.size := by rw [← hW1]; simp
  have z0 : W1.cell? ⟨w.heap.size, 0, none⟩ = some (.int .i64 g0) := by rw [← hW1]; simp [go_sem]
  have z1 : W1.cell? ⟨w.heap.size, 1, none⟩ = some (.int .i64 g1) := by rw [← hW1]; simp [go_sem]
  have z2 : W1.cell? ⟨w.heap.size, 2, none⟩ = some (.int .i64 g2) := by rw [← hW1]; simp [go_sem]
  have HC := firstError_any 80 #[.pointer (some ⟨w.heap.size, 0, none⟩)] (gradeE g0 g1 g2) 3 W1 (by omega) (enters_of Try.func80 (by kernel_rfl) rfl)
    (fun i W hi' hb => grades1_any g0 g1 g2 w.heap.size i W hi' ((hb.cell z).trans z0) ((hb.cell z).trans z1) ((hb.cell z).trans z2))
  rw [← hW1] at HC hb1
  rw [show ((3 : Nat) : Int) = 3 from rfl] at HC
  clear z z0 z1 z2 hW1
  unfold gradesE
  replace HC := Lib.hid HC
  replace hb1 := Lib.hid hb1
  have hmf : ∀ (fn : Fn) (first cap : Array Value) (w : World), (Instr.makeFunc fn first cap).run Try.prog w = .ok (.func fn first cap) w := fun _ _ _ _ => rfl
  go_enter Try.func50, Try.ntmps50
  go_wp2_with (go_at_call 53; ((with_reducible refine HC.out.mono ?_); rintro e w1 ⟨rfl, hb⟩))
  go_ret2
  exact ⟨rfl, B_trans hb1.out hb⟩

/-- A rule as its eight cells. -/
structure RuA where
  ha : Option Addr
  hn : Nat
  hc : Nat
  wa : Option Addr
  wn : Nat
  wc : Nat
  own : Int
  feed : Int
  g0 : Int
  g1 : Int
  g2 : Int
  lost : Int
abbrev RuA.cs (r : RuA) : Array Value := #[.slice r.ha r.hn r.hc, .slice r.wa r.wn r.wc, .int .i64 r.own, .int .i64 r.feed, .int .i64 r.g0, .int .i64 r.g1, .int .i64 r.g2, .int .i64 r.lost]
/-- What a rule's slices read as. -/
structure RuR (w : World) (r : RuA) (hs ws : List T2) : Prop where
  hn : r.hn ≤ 140737488351232
  wn : r.wn ≤ 140737488351232
  h : Sl2 w r.ha r.hn hs
  w : Sl2 w r.wa r.wn ws
theorem RuR.below {w w' : World} {r : RuA} {hs ws : List T2} (h : RuR w r hs ws) (hb : Below w.heap.size w w') : RuR w' r hs ws := ⟨h.hn, h.wn, h.h.below hb, h.w.below hb⟩

def checkS (r : RuA) (hs ws : List T2) : Int × Int × Int :=
  if (curveE hs (-300) 600).2 ≠ 0 then (1, (curveE hs (-300) 600).1, (curveE hs (-300) 600).2)
  else if (curveE ws 0 1000).2 ≠ 0 then (2, (curveE ws 0 1000).1, (curveE ws 0 1000).2)
  else if inB r.own 0 100000 && inB r.feed 0 999999 then
    (if (gradesE r.g0 r.g1 r.g2).2 ≠ 0 then (4, (gradesE r.g0 r.g1 r.g2).1, (gradesE r.g0 r.g1 r.g2).2)
     else if inB r.lost 1 1000000 then (0, 0, 0) else (5, 0, 7))
  else (3, 0, 7)
end Go.Proofs.Ytanjkhclhcnnaaa
/- Check of the code. -/
namespace Go.Proofs.Ytanjkhclhcnnaaa
open Go.RowKit Go.Shelf

def tri (p : Int × Int × Int) : Value := .tuple #[.int .i64 p.1, .int .i64 p.2.1, .int .i64 p.2.2]

set_option maxHeartbeats 2000000 in
theorem check_any (r : RuA) (hs ws : List T2) (w : World) (hR : RuR w r hs ws) :
    Calls Try.prog 15 #[.agg r.cs] w fun e w' => e = .returned (tri (checkS r hs ws)) ∧ Below w.heap.size w w' := by
  have hb0 : Below w.heap.size w (w.alloc (.cells r.cs 25)) := B_alloc (Below.refl _ _) _
  have H1 := Lib.hid (fun W (hb : Below w.heap.size w W) => checkCurve_any hs r.ha r.hn r.hc (-300) 600 W hR.hn (hR.h.below hb))
  have H2 := Lib.hid (fun W (hb : Below w.heap.size w W) => checkCurve_any ws r.wa r.wn r.wc 0 1000 W hR.wn (hR.w.below hb))
  have H3 := Lib.hid (fun W => within_any r.own 0 100000 W)
  have H4 := Lib.hid (fun W => within_any r.feed 0 999999 W)
  have H5 := Lib.hid (fun W => checkGrades_any r.g0 r.g1 r.g2 W)
  have H6 := Lib.hid (fun W => within_any r.lost 1 1000000 W)
  unfold checkS
  generalize curveE hs (-300) 600 = p1 at H1 ⊢
  generalize curveE ws 0 1000 = p2 at H2 ⊢
  generalize inB r.own 0 100000 = p3 at H3 ⊢
  generalize inB r.feed 0 999999 = p4 at H4 ⊢
  generalize gradesE r.g0 r.g1 r.g2 = p5 at H5 ⊢
  generalize inB r.lost 1 1000000 = p6 at H6 ⊢
  obtain ⟨a1, e1⟩ := p1
  obtain ⟨a2, e2⟩ := p2
  obtain ⟨a5, e5⟩ := p5
  simp only at H1 H2 H5 ⊢
  clear hR
  by_cases h1 : e1 = 0
  · subst h1
    rw [if_neg (by simp)]
    by_cases h2 : e2 = 0
    · subst h2
      rw [if_neg (by simp)]
      cases p3
      · rw [if_neg (by simp)]
        replace hb0 := Lib.hid hb0
        go_enter Try.func15, Try.ntmps15
        go_wp2_with (first | (go_at_call 48; ((with_reducible refine (H1.out _ hb0.out).mono ?_); rintro e w1 ⟨rfl, hb1⟩; obtain ⟨hc1, hf1⟩ := bcell hb1; have hz1 : w.heap.size < w1.heap.size := (by have := hb1.size; simp at this; omega))) | (go_at_call 48; ((with_reducible refine (H2.out _ (B_trans hb0.out hb1)).mono ?_); rintro e w2 ⟨rfl, hb2⟩; obtain ⟨hc2, hf2⟩ := bcell hb2; have hz2 : w.heap.size < w2.heap.size := (by have := hb2.size; omega))) | (go_at_call 49; ((with_reducible refine (H3.out _).mono ?_); rintro e w3 ⟨rfl, rfl⟩)))
        go_ret3
        exact ⟨rfl, B_trans (B_trans hb0.out hb1) hb2⟩
      · cases p4
        · rw [if_neg (by simp)]
          replace hb0 := Lib.hid hb0
          go_enter Try.func15, Try.ntmps15
          go_wp2_with (first | (go_at_call 48; ((with_reducible refine (H1.out _ hb0.out).mono ?_); rintro e w1 ⟨rfl, hb1⟩; obtain ⟨hc1, hf1⟩ := bcell hb1; have hz1 : w.heap.size < w1.heap.size := (by have := hb1.size; simp at this; omega))) | (go_at_call 48; ((with_reducible refine (H2.out _ (B_trans hb0.out hb1)).mono ?_); rintro e w2 ⟨rfl, hb2⟩; obtain ⟨hc2, hf2⟩ := bcell hb2; have hz2 : w.heap.size < w2.heap.size := (by have := hb2.size; omega))) | (go_at_call 49; ((with_reducible refine (H3.out _).mono ?_); rintro e w3 ⟨rfl, rfl⟩)) | (go_at_call 49; ((with_reducible refine (H4.out _).mono ?_); rintro e w3 ⟨rfl, rfl⟩)))
          go_ret3
          exact ⟨rfl, B_trans (B_trans hb0.out hb1) hb2⟩
        · rw [if_pos (by simp)]
          by_cases h5 : e5 = 0
          · subst h5
            rw [if_neg (by simp)]
            cases p6
            · rw [if_neg (by simp)]
              replace hb0 := Lib.hid hb0
              go_enter Try.func15, Try.ntmps15
              go_wp2_with (first | (go_at_call 48; ((with_reducible refine (H1.out _ hb0.out).mono ?_); rintro e w1 ⟨rfl, hb1⟩; obtain ⟨hc1, hf1⟩ := bcell hb1; have hz1 : w.heap.size < w1.heap.size := (by have := hb1.size; simp at this; omega))) | (go_at_call 48; ((with_reducible refine (H2.out _ (B_trans hb0.out hb1)).mono ?_); rintro e w2 ⟨rfl, hb2⟩; obtain ⟨hc2, hf2⟩ := bcell hb2; have hz2 : w.heap.size < w2.heap.size := (by have := hb2.size; omega))) | (go_at_call 49; ((with_reducible refine (H3.out _).mono ?_); rintro e w3 ⟨rfl, rfl⟩)) | (go_at_call 49; ((with_reducible refine (H4.out _).mono ?_); rintro e w3 ⟨rfl, rfl⟩)) | (go_at_call 50; ((with_reducible refine (H5.out _).mono ?_); rintro e w5 ⟨rfl, hb5⟩; obtain ⟨hc5, hf5⟩ := bcell hb5)) | (go_at_call 49; ((with_reducible refine (H6.out _).mono ?_); rintro e w3 ⟨rfl, rfl⟩)))
              go_ret3
              exact ⟨rfl, B_trans (B_trans (B_trans hb0.out hb1) hb2) hb5⟩
            · rw [if_pos rfl]
              replace hb0 := Lib.hid hb0
              go_enter Try.func15, Try.ntmps15
              go_wp2_with (first | (go_at_call 48; ((with_reducible refine (H1.out _ hb0.out).mono ?_); rintro e w1 ⟨rfl, hb1⟩; obtain ⟨hc1, hf1⟩ := bcell hb1; have hz1 : w.heap.size < w1.heap.size := (by have := hb1.size; simp at this; omega))) | (go_at_call 48; ((with_reducible refine (H2.out _ (B_trans hb0.out hb1)).mono ?_); rintro e w2 ⟨rfl, hb2⟩; obtain ⟨hc2, hf2⟩ := bcell hb2; have hz2 : w.heap.size < w2.heap.size := (by have := hb2.size; omega))) | (go_at_call 49; ((with_reducible refine (H3.out _).mono ?_); rintro e w3 ⟨rfl, rfl⟩)) | (go_at_call 49; ((with_reducible refine (H4.out _).mono ?_); rintro e w3 ⟨rfl, rfl⟩)) | (go_at_call 50; ((with_reducible refine (H5.out _).mono ?_); rintro e w5 ⟨rfl, hb5⟩; obtain ⟨hc5, hf5⟩ := bcell hb5)) | (go_at_call 49; ((with_reducible refine (H6.out _).mono ?_); rintro e w3 ⟨rfl, rfl⟩)))
              go_ret3
              exact ⟨rfl, B_trans (B_trans (B_trans hb0.out hb1) hb2) hb5⟩
          · rw [if_pos h5]
            have hq : (e5 != 0) = true := by simpa using h5
            clear h5
            replace hb0 := Lib.hid hb0
            go_enter Try.func15, Try.ntmps15
            go_wp2_with (first | (go_at_call 48; ((with_reducible refine (H1.out _ hb0.out).mono ?_); rintro e w1 ⟨rfl, hb1⟩; obtain ⟨hc1, hf1⟩ := bcell hb1; have hz1 : w.heap.size < w1.heap.size := (by have := hb1.size; simp at this; omega))) | (go_at_call 48; ((with_reducible refine (H2.out _ (B_trans hb0.out hb1)).mono ?_); rintro e w2 ⟨rfl, hb2⟩; obtain ⟨hc2, hf2⟩ := bcell hb2; have hz2 : w.heap.size < w2.heap.size := (by have := hb2.size; omega))) | (go_at_call 49; ((with_reducible refine (H3.out _).mono ?_); rintro e w3 ⟨rfl, rfl⟩)) | (go_at_call 49; ((with_reducible refine (H4.out _).mono ?_); rintro e w3 ⟨rfl, rfl⟩)) | (go_at_call 50; ((with_reducible refine (H5.out _).mono ?_); rintro e w5 ⟨rfl, hb5⟩; obtain ⟨hc5, hf5⟩ := bcell hb5)))
            go_ret3
            exact ⟨rfl, B_trans (B_trans (B_trans hb0.out hb1) hb2) hb5⟩
    · rw [if_pos h2]
      have hq : (e2 != 0) = true := by simpa using h2
      clear h2
      replace hb0 := Lib.hid hb0
      go_enter Try.func15, Try.ntmps15
      go_wp2_with (first | (go_at_call 48; ((with_reducible refine (H1.out _ hb0.out).mono ?_); rintro e w1 ⟨rfl, hb1⟩; obtain ⟨hc1, hf1⟩ := bcell hb1; have hz1 : w.heap.size < w1.heap.size := (by have := hb1.size; simp at this; omega))) | (go_at_call 48; ((with_reducible refine (H2.out _ (B_trans hb0.out hb1)).mono ?_); rintro e w2 ⟨rfl, hb2⟩; obtain ⟨hc2, hf2⟩ := bcell hb2; have hz2 : w.heap.size < w2.heap.size := (by have := hb2.size; omega))))
      go_ret3
      exact ⟨rfl, B_trans (B_trans hb0.out hb1) hb2⟩
  · rw [if_pos h1]
    have hq : (e1 != 0) = true := by simpa using h1
    clear h1
    replace hb0 := Lib.hid hb0
    go_enter Try.func15, Try.ntmps15
    go_wp2_with (first | (go_at_call 48; ((with_reducible refine (H1.out _ hb0.out).mono ?_); rintro e w1 ⟨rfl, hb1⟩; obtain ⟨hc1, hf1⟩ := bcell hb1; have hz1 : w.heap.size < w1.heap.size := (by have := hb1.size; simp at this; omega))))
    go_ret3
    exact ⟨rfl, B_trans hb0.out hb1⟩
end Go.Proofs.Ytanjkhclhcnnaaa
/- Tasks in memory; testError and the closures of CheckTask. -/
namespace Go.Proofs.Ytanjkhclhcnnaaa
open Go.RowKit Go.Shelf

/-- A task as its thirteen cells. -/
structure TkA where
  r : RuA
  first : Int
  da : Option Addr
  dn : Nat
  dc : Nat
  lo : Int
  hi : Int
  ta : Option Addr
  tn : Nat
  tc : Nat
abbrev TkA.cs (t : TkA) : Array Value := #[.slice t.r.ha t.r.hn t.r.hc, .slice t.r.wa t.r.wn t.r.wc, .int .i64 t.r.own, .int .i64 t.r.feed, .int .i64 t.r.g0, .int .i64 t.r.g1, .int .i64 t.r.g2, .int .i64 t.r.lost, .int .i64 t.first, .slice t.da t.dn t.dc, .int .i64 t.lo, .int .i64 t.hi, .slice t.ta t.tn t.tc]
/-- What a task's slices read as. -/
structure TkR (w : World) (t : TkA) (hs ws : List T2) (ds : List T4) (ts : List T3) : Prop where
  r : RuR w t.r hs ws
  dn : t.dn ≤ 140737488351232
  tn : t.tn ≤ 140737488351232
  d : Sl4 w t.da t.dn ds
  t : Sl3 w t.ta t.tn ts
theorem TkR.below {w w' : World} {t : TkA} {hs ws : List T2} {ds : List T4} {ts : List T3} (h : TkR w t hs ws ds ts) (hb : Below w.heap.size w w') : TkR w' t hs ws ds ts :=
  ⟨h.r.below hb, h.dn, h.tn, h.d.below hb, h.t.below hb⟩

/-- A block that holds a task. -/
structure TBox (w : World) (B : Nat) (t : TkA) : Prop where
  lt : B < w.heap.size
  c : ∀ j, j < 13 → w.cell? ⟨B, j, none⟩ = t.cs[j]?
theorem TBox.all {w : World} {B : Nat} {t : TkA} (h : TBox w B t) : w.cell? ⟨B, 0, none⟩ = some (.slice t.r.ha t.r.hn t.r.hc) ∧ w.cell? ⟨B, 1, none⟩ = some (.slice t.r.wa t.r.wn t.r.wc) ∧ w.cell? ⟨B, 2, none⟩ = some (.int .i64 t.r.own) ∧ w.cell? ⟨B, 3, none⟩ = some (.int .i64 t.r.feed) ∧ w.cell? ⟨B, 4, none⟩ = some (.int .i64 t.r.g0) ∧ w.cell? ⟨B, 5, none⟩ = some (.int .i64 t.r.g1) ∧ w.cell? ⟨B, 6, none⟩ = some (.int .i64 t.r.g2) ∧ w.cell? ⟨B, 7, none⟩ = some (.int .i64 t.r.lost) ∧ w.cell? ⟨B, 8, none⟩ = some (.int .i64 t.first) ∧ w.cell? ⟨B, 9, none⟩ = some (.slice t.da t.dn t.dc) ∧ w.cell? ⟨B, 10, none⟩ = some (.int .i64 t.lo) ∧ w.cell? ⟨B, 11, none⟩ = some (.int .i64 t.hi) ∧ w.cell? ⟨B, 12, none⟩ = some (.slice t.ta t.tn t.tc) :=
  ⟨h.c 0 (by omega), h.c 1 (by omega), h.c 2 (by omega), h.c 3 (by omega), h.c 4 (by omega), h.c 5 (by omega), h.c 6 (by omega), h.c 7 (by omega), h.c 8 (by omega), h.c 9 (by omega), h.c 10 (by omega), h.c 11 (by omega), h.c 12 (by omega)⟩
theorem TBox.below {w w' : World} {B : Nat} {t : TkA} (h : TBox w B t) (hb : Below w.heap.size w w') : TBox w' B t :=
  ⟨Nat.lt_of_lt_of_le h.lt hb.size, fun j hj => (hb.cell (p := ⟨B, j, none⟩) h.lt).trans (h.c j hj)⟩
theorem TBox.new (w : World) (t : TkA) (T : TypeId) : TBox (w.alloc (.cells t.cs T)) w.heap.size t :=
  ⟨by simp, fun j _ => World.cell?_alloc_at _ _ _ _ rfl⟩

def testE (first : Int) (nd : Nat) (x : T3) : Int := if inB x.1 first (first + nd) && inB x.2.1 0 3 && inB x.2.2 0 3 then 0 else 7

set_option maxHeartbeats 2000000 in
theorem testError_any (t : TkA) (hs ws : List T2) (ds : List T4) (ts : List T3) (i : Nat) (w : World) (hR : TkR w t hs ws ds ts) (hi' : i < t.tn) (htn : t.tn ≤ 1000) (hf : 0 ≤ t.first) (hd : t.first + t.dn ≤ 80000) :
    Calls Try.prog 58 #[.agg t.cs, .int .i64 i] w fun e w' => e = .returned (.int .i64 (testE t.first t.dn (ts.getD i (0, 0, 0)))) ∧ Below w.heap.size w w' := by
  obtain ⟨b, o, hta, hbs, hc⟩ := hR.t.at_ (by omega)
  obtain ⟨p0, p1, p2⟩ := hc i hi'
  generalize ts.getD i (0, 0, 0) = x at p0 p1 p2 ⊢
  obtain ⟨x0, x1, x2⟩ := x
  simp only at p0 p1 p2
  clear hc hR
  have hil : (i : Int) < t.tn := by omega
  have hi0 : (0 : Int) ≤ i := by omega
  have hsum : IntKind.i64.wrap (t.first + t.dn) = t.first + t.dn := IntWalk.i64_in _ (by omega)
  have H1 := Lib.hid (fun W => within_any x0 t.first (t.first + t.dn) W)
  have H2 := Lib.hid (fun W => within_any x1 0 3 W)
  have H3 := Lib.hid (fun W => within_any x2 0 3 W)
  unfold testE
  simp only
  generalize inB x0 t.first (t.first + t.dn) = q1 at H1 ⊢
  generalize inB x1 0 3 = q2 at H2 ⊢
  generalize inB x2 0 3 = q3 at H3 ⊢
  have hB : ∀ a b u v, Below w.heap.size w ((w.alloc (.cells a u)).alloc (.cells b v)) := fun _ _ _ _ => B_alloc (B_alloc (Below.refl _ _) _) _
  replace hB := Lib.hid hB
  cases q1 <;> cases q2 <;> cases q3
  all_goals
    go_enter Try.func58, Try.ntmps58
    go_wp2_with (first | (go_at_call 49; ((with_reducible refine (H1.out _).mono ?_); rintro e w1 ⟨rfl, rfl⟩)) | (go_at_call 49; ((with_reducible refine (H2.out _).mono ?_); rintro e w1 ⟨rfl, rfl⟩)) | (go_at_call 49; ((with_reducible refine (H3.out _).mono ?_); rintro e w1 ⟨rfl, rfl⟩)))
    go_ret
    exact ⟨rfl, hB.out _ _ _ _⟩
end Go.Proofs.Ytanjkhclhcnnaaa
/- CheckTask of the code. -/
namespace Go.Proofs.Ytanjkhclhcnnaaa
open Go.RowKit Go.Shelf

set_option maxHeartbeats 2000000 in
theorem task1_any (t : TkA) (hs ws : List T2) (ds : List T4) (ts : List T3) (B i : Nat) (w : World) (hR : TkR w t hs ws ds ts) (hT : TBox w B t) (hi' : i < t.dn) (htn : t.dn ≤ 1000) :
    Calls Try.prog 54 #[.int .i64 i, .pointer (some ⟨B, 0, none⟩)] w fun e w' => e = .returned (.int .i64 (dayE (ds.getD i (0, 0, 0, 0)))) ∧ Below w.heap.size w w' := by
  obtain ⟨b, o, hta, hbs, hc⟩ := hR.d.at_ (by omega)
  obtain ⟨p0, p1, p2, p3⟩ := hc i hi'
  have HC := Lib.hid (fun W => climateError_any (ds.getD i (0, 0, 0, 0)) W)
  generalize ds.getD i (0, 0, 0, 0) = x at p0 p1 p2 p3 HC ⊢
  obtain ⟨x0, x1, x2, x3⟩ := x
  simp only at p0 p1 p2 p3 HC
  obtain ⟨-, -, -, -, -, -, -, -, -, k9, -⟩ := hT.all
  rw [hta] at k9
  have hBl := hT.lt
  clear hc hR hT hta
  have hil : (i : Int) < t.dn := by omega
  have hi0 : (0 : Int) ≤ i := by omega
  go_enter Try.func54, Try.ntmps54
  go_wp2_with (go_at_call 55; ((with_reducible refine (HC.out _).mono ?_); rintro e w1 ⟨rfl, hb⟩))
  go_ret
  exact ⟨rfl, hb⟩

set_option maxHeartbeats 2000000 in
theorem task2_any (t : TkA) (hs ws : List T2) (ds : List T4) (ts : List T3) (B i : Nat) (w : World) (hR : TkR w t hs ws ds ts) (hT : TBox w B t) (hi' : i < t.tn) (htn : t.tn ≤ 1000) (hf : 0 ≤ t.first) (hd : t.first + t.dn ≤ 80000) :
    Calls Try.prog 57 #[.int .i64 i, .pointer (some ⟨B, 0, none⟩)] w fun e w' => e = .returned (.int .i64 (testE t.first t.dn (ts.getD i (0, 0, 0)))) ∧ Below w.heap.size w w' := by
  have HC := Lib.hid (testError_any t hs ws ds ts i w hR hi' htn hf hd)
  obtain ⟨k0, k1, k2, k3, k4, k5, k6, k7, k8, k9, k10, k11, k12⟩ := hT.all
  have hBl := hT.lt
  clear hR hT
  go_enter Try.func57, Try.ntmps57
  go_wp2_with (go_at_call 58; ((with_reducible refine HC.out.mono ?_); rintro e w1 ⟨rfl, hb⟩))
  go_ret
  exact ⟨rfl, hb⟩

def daysE (ds : List T4) (n : Nat) : Int × Int := firstE (fun i => dayE (ds.getD i (0, 0, 0, 0))) n
def testsE (first : Int) (nd : Nat) (ts : List T3) (n : Nat) : Int × Int := firstE (fun i => testE first nd (ts.getD i (0, 0, 0))) n
def taskS (t : TkA) (hs ws : List T2) (ds : List T4) (ts : List T3) : Int × Int × Int :=
  if (checkS t.r hs ws).2.2 ≠ 0 then (1, 0, (checkS t.r hs ws).2.2)
  else if 400 < t.dn ∨ 20 < t.tn then (2, 0, 3)
  else if inB t.first 0 (80000 - t.dn) then
    (if (daysE ds t.dn).2 ≠ 0 then (3, (daysE ds t.dn).1, (daysE ds t.dn).2)
     else if lvE (t.lo, t.hi) ≠ 0 then (4, 0, lvE (t.lo, t.hi))
     else if (testsE t.first t.dn ts t.tn).2 ≠ 0 then (5, (testsE t.first t.dn ts t.tn).1, (testsE t.first t.dn ts t.tn).2) else (0, 0, 0))
  else (2, 0, 7)

set_option maxHeartbeats 4000000 in
set_option maxRecDepth 100000 in
theorem checkTask_any (t : TkA) (hs ws : List T2) (ds : List T4) (ts : List T3) (w : World) (hR : TkR w t hs ws ds ts) :
    Calls Try.prog 17 #[.agg t.cs] w fun e w' => e = .returned (tri (taskS t hs ws ds ts)) ∧ Below w.heap.size w w' := by
  have hb0 : Below w.heap.size w (w.alloc (.cells t.cs 31)) := B_alloc (Below.refl _ _) _
  have hT0 := Lib.hid (TBox.new w t 31)
  have H1 := Lib.hid (fun W (hb : Below w.heap.size w W) => check_any t.r hs ws W (hR.r.below hb))
  have H2 := Lib.hid (fun W => within_any t.first 0 (80000 - t.dn) W)
  have H3 := Lib.hid (fun (hn : t.dn ≤ 1000) W (hb : Below w.heap.size w W) (hT : TBox W w.heap.size t) => firstError_any 54 #[.pointer (some ⟨w.heap.size, 0, none⟩)] (fun i => dayE (ds.getD i (0, 0, 0, 0))) t.dn W (by omega) (enters_of Try.func54 (by kernel_rfl) rfl)
    (fun i W1 hi' hb1 => task1_any t hs ws ds ts w.heap.size i W1 (hR.below (B_trans hb hb1)) (hT.below hb1) hi' hn))
  have H4 := Lib.hid (fun W => levelsError_any (t.lo, t.hi) W)
  have H5 := Lib.hid (fun (hn : t.tn ≤ 1000) (hf : 0 ≤ t.first) (hd : t.first + t.dn ≤ 80000) W (hb : Below w.heap.size w W) (hT : TBox W w.heap.size t) => firstError_any 57 #[.pointer (some ⟨w.heap.size, 0, none⟩)] (fun i => testE t.first t.dn (ts.getD i (0, 0, 0))) t.tn W (by omega) (enters_of Try.func57 (by kernel_rfl) rfl)
    (fun i W1 hi' hb1 => task2_any t hs ws ds ts w.heap.size i W1 (hR.below (B_trans hb hb1)) (hT.below hb1) hi' hn hf hd))
  have hdn := hR.dn
  have htn := hR.tn
  have hmf : ∀ (fn : Fn) (first cap : Array Value) (w : World), (Instr.makeFunc fn first cap).run Try.prog w = .ok (.func fn first cap) w := fun _ _ _ _ => rfl
  unfold taskS
  unfold daysE testsE
  have hin : inB t.first 0 (80000 - t.dn) = true → 0 ≤ t.first ∧ t.first + t.dn ≤ 80000 := fun h => by have := inB_iff.1 h; omega
  replace hin := Lib.hid hin
  generalize checkS t.r hs ws = p1 at H1 ⊢
  generalize inB t.first 0 (80000 - t.dn) = q2 at H2 hin ⊢
  generalize firstE (fun i => dayE (ds.getD i (0, 0, 0, 0))) t.dn = p3 at H3 ⊢
  generalize lvE (t.lo, t.hi) = e4 at H4 ⊢
  generalize firstE (fun i => testE t.first t.dn (ts.getD i (0, 0, 0))) t.tn = p5 at H5 ⊢
  obtain ⟨a1, b1, e1⟩ := p1
  obtain ⟨a3, e3⟩ := p3
  obtain ⟨a5, e5⟩ := p5
  unfold tri at H1
  simp only at H1 H3 H4 H5 ⊢
  clear hR
  by_cases h1 : e1 = 0
  · subst h1
    rw [if_neg (by simp)]
    by_cases hl : 400 < t.dn
    · rw [if_pos (.inl hl)]
      have hl2 : (400 : Int) < t.dn := by omega
      replace hb0 := Lib.hid hb0
      go_enter Try.func17, Try.ntmps17
      go_wp2_with (first | (go_at_call 15; ((with_reducible refine (H1.out _ hb0.out).mono ?_); rintro e w1 ⟨rfl, hb1⟩; obtain ⟨hc1, hf1⟩ := bcell hb1; have hz1 : w.heap.size < w1.heap.size := (by have := hb1.size; simp at this; omega))))
      go_ret3
      exact ⟨rfl, B_trans hb0.out hb1⟩
    · by_cases hm : 20 < t.tn
      · rw [if_pos (.inr hm)]
        have hl2 : ¬ (400 : Int) < t.dn := by omega
        have hm2 : (20 : Int) < t.tn := by omega
        replace hb0 := Lib.hid hb0
        go_enter Try.func17, Try.ntmps17
        go_wp2_with (first | (go_at_call 15; ((with_reducible refine (H1.out _ hb0.out).mono ?_); rintro e w1 ⟨rfl, hb1⟩; obtain ⟨hc1, hf1⟩ := bcell hb1; have hz1 : w.heap.size < w1.heap.size := (by have := hb1.size; simp at this; omega))))
        go_ret3
        exact ⟨rfl, B_trans hb0.out hb1⟩
      · rw [if_neg (by omega)]
        have hl2 : ¬ (400 : Int) < t.dn := by omega
        have hm2 : ¬ (20 : Int) < t.tn := by omega
        cases q2
        · rw [if_neg (by simp)]
          replace hb0 := Lib.hid hb0
          go_enter Try.func17, Try.ntmps17
          go_wp2_with (first | (go_at_call 15; ((with_reducible refine (H1.out _ hb0.out).mono ?_); rintro e w1 ⟨rfl, hb1⟩; obtain ⟨hc1, hf1⟩ := bcell hb1; have hz1 : w.heap.size < w1.heap.size := (by have := hb1.size; simp at this; omega))) | (go_at_call 49; ((with_reducible refine (H2.out _).mono ?_); rintro e w3 ⟨rfl, rfl⟩)))
          go_ret3
          exact ⟨rfl, B_trans hb0.out hb1⟩
        · rw [if_pos rfl]
          obtain ⟨hf, hd⟩ := hin.out rfl
          replace H3 := Lib.hid (H3.out (by omega))
          replace H5 := Lib.hid (H5.out (by omega) hf hd)
          by_cases h3 : e3 = 0
          · subst h3
            rw [if_neg (by simp)]
            by_cases h4 : e4 = 0
            · subst h4
              rw [if_neg (by simp)]
              by_cases h5 : e5 = 0
              · subst h5
                rw [if_neg (by simp)]
                replace hb0 := Lib.hid hb0
                go_enter Try.func17, Try.ntmps17
                go_wp2_with (first | (go_at_call 15; ((with_reducible refine (H1.out _ hb0.out).mono ?_); rintro e w1 ⟨rfl, hb1⟩; obtain ⟨hc1, hf1⟩ := bcell hb1; have hz1 : w.heap.size < w1.heap.size := (by have := hb1.size; simp at this; omega))) | (go_at_call 49; ((with_reducible refine (H2.out _).mono ?_); rintro e w3 ⟨rfl, rfl⟩)) | (go_at_call 53; ((with_reducible refine (H3.out _ (B_trans hb0.out hb1)  ((hT0.out.below hb1))).mono ?_); rintro e w2 ⟨rfl, hb2⟩; obtain ⟨hc2, hf2⟩ := bcell hb2; have hz2 : w.heap.size < w2.heap.size := (by have := hb2.size; omega))) | (go_at_call 56; ((with_reducible refine (H4.out _).mono ?_); rintro e w3 ⟨rfl, hb3⟩; obtain ⟨hc3, hf3⟩ := bcell hb3; have hz3 : w.heap.size < w3.heap.size := (by have := hb3.size; omega))) | (go_at_call 53; ((with_reducible refine (H5.out _ (B_trans (B_trans (B_trans hb0.out hb1) hb2) hb3) (((hT0.out.below hb1).below hb2).below hb3)).mono ?_); rintro e w4 ⟨rfl, hb4⟩)))
                go_ret3
                exact ⟨rfl, B_trans (B_trans (B_trans (B_trans hb0.out hb1) hb2) hb3) hb4⟩
              · rw [if_pos h5]
                have hq : (e5 != 0) = true := by simpa using h5
                clear h5
                replace hb0 := Lib.hid hb0
                go_enter Try.func17, Try.ntmps17
                go_wp2_with (first | (go_at_call 15; ((with_reducible refine (H1.out _ hb0.out).mono ?_); rintro e w1 ⟨rfl, hb1⟩; obtain ⟨hc1, hf1⟩ := bcell hb1; have hz1 : w.heap.size < w1.heap.size := (by have := hb1.size; simp at this; omega))) | (go_at_call 49; ((with_reducible refine (H2.out _).mono ?_); rintro e w3 ⟨rfl, rfl⟩)) | (go_at_call 53; ((with_reducible refine (H3.out _ (B_trans hb0.out hb1)  ((hT0.out.below hb1))).mono ?_); rintro e w2 ⟨rfl, hb2⟩; obtain ⟨hc2, hf2⟩ := bcell hb2; have hz2 : w.heap.size < w2.heap.size := (by have := hb2.size; omega))) | (go_at_call 56; ((with_reducible refine (H4.out _).mono ?_); rintro e w3 ⟨rfl, hb3⟩; obtain ⟨hc3, hf3⟩ := bcell hb3; have hz3 : w.heap.size < w3.heap.size := (by have := hb3.size; omega))) | (go_at_call 53; ((with_reducible refine (H5.out _ (B_trans (B_trans (B_trans hb0.out hb1) hb2) hb3) (((hT0.out.below hb1).below hb2).below hb3)).mono ?_); rintro e w4 ⟨rfl, hb4⟩)))
                go_ret3
                exact ⟨rfl, B_trans (B_trans (B_trans (B_trans hb0.out hb1) hb2) hb3) hb4⟩
            · rw [if_pos h4]
              have hq : (e4 != 0) = true := by simpa using h4
              clear h4
              replace hb0 := Lib.hid hb0
              go_enter Try.func17, Try.ntmps17
              go_wp2_with (first | (go_at_call 15; ((with_reducible refine (H1.out _ hb0.out).mono ?_); rintro e w1 ⟨rfl, hb1⟩; obtain ⟨hc1, hf1⟩ := bcell hb1; have hz1 : w.heap.size < w1.heap.size := (by have := hb1.size; simp at this; omega))) | (go_at_call 49; ((with_reducible refine (H2.out _).mono ?_); rintro e w3 ⟨rfl, rfl⟩)) | (go_at_call 53; ((with_reducible refine (H3.out _ (B_trans hb0.out hb1)  ((hT0.out.below hb1))).mono ?_); rintro e w2 ⟨rfl, hb2⟩; obtain ⟨hc2, hf2⟩ := bcell hb2; have hz2 : w.heap.size < w2.heap.size := (by have := hb2.size; omega))) | (go_at_call 56; ((with_reducible refine (H4.out _).mono ?_); rintro e w3 ⟨rfl, hb3⟩; obtain ⟨hc3, hf3⟩ := bcell hb3; have hz3 : w.heap.size < w3.heap.size := (by have := hb3.size; omega))))
              go_ret3
              exact ⟨rfl, B_trans (B_trans (B_trans hb0.out hb1) hb2) hb3⟩
          · rw [if_pos h3]
            have hq : (e3 != 0) = true := by simpa using h3
            clear h3
            replace hb0 := Lib.hid hb0
            go_enter Try.func17, Try.ntmps17
            go_wp2_with (first | (go_at_call 15; ((with_reducible refine (H1.out _ hb0.out).mono ?_); rintro e w1 ⟨rfl, hb1⟩; obtain ⟨hc1, hf1⟩ := bcell hb1; have hz1 : w.heap.size < w1.heap.size := (by have := hb1.size; simp at this; omega))) | (go_at_call 49; ((with_reducible refine (H2.out _).mono ?_); rintro e w3 ⟨rfl, rfl⟩)) | (go_at_call 53; ((with_reducible refine (H3.out _ (B_trans hb0.out hb1)  ((hT0.out.below hb1))).mono ?_); rintro e w2 ⟨rfl, hb2⟩; obtain ⟨hc2, hf2⟩ := bcell hb2; have hz2 : w.heap.size < w2.heap.size := (by have := hb2.size; omega))))
            go_ret3
            exact ⟨rfl, B_trans (B_trans hb0.out hb1) hb2⟩
  · rw [if_pos h1]
    have hq : (e1 != 0) = true := by simpa using h1
    clear h1
    replace hb0 := Lib.hid hb0
    go_enter Try.func17, Try.ntmps17
    go_wp2_with (first | (go_at_call 15; ((with_reducible refine (H1.out _ hb0.out).mono ?_); rintro e w1 ⟨rfl, hb1⟩; obtain ⟨hc1, hf1⟩ := bcell hb1; have hz1 : w.heap.size < w1.heap.size := (by have := hb1.size; simp at this; omega))))
    go_ret3
    exact ⟨rfl, B_trans hb0.out hb1⟩
end Go.Proofs.Ytanjkhclhcnnaaa

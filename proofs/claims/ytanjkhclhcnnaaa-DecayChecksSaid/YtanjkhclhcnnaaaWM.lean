/- Plain functions of layer 2. -/
namespace Go.Proofs.Ytanjkhclhcnnaaa

abbrev T2 := Int × Int
abbrev T3 := Int × Int × Int
abbrev T4 := Int × Int × Int × Int

/-- Whether a number is from lo to hi. -/
def inB (n lo hi : Int) : Bool := decide (lo ≤ n) && decide (n ≤ hi)
theorem inB_iff {n lo hi : Int} : inB n lo hi = true ↔ lo ≤ n ∧ n ≤ hi := by simp [inB]
theorem inB_no {n lo hi : Int} : inB n lo hi = false ↔ ¬ (lo ≤ n ∧ n ≤ hi) := by rw [← inB_iff]; simp

/-- The first number below n at which f is not 0, and what it is there. -/
def firstE (f : Nat → Int) : Nat → Int × Int
  | 0 => (0, 0)
  | k + 1 => if (firstE f k).2 ≠ 0 then firstE f k else if f k ≠ 0 then ((k : Int), f k) else (0, 0)
theorem firstE_zero {f : Nat → Int} : ∀ {k : Nat}, (firstE f k).2 = 0 → firstE f k = (0, 0)
  | 0, _ => rfl
  | k + 1, h => by
    unfold firstE at h ⊢
    by_cases a : (firstE f k).2 ≠ 0
    · rw [if_pos a] at h; exact absurd h a
    · rw [if_neg a] at h ⊢
      by_cases b : f k ≠ 0
      · rw [if_pos b] at h; exact absurd h b
      · rw [if_neg b]
theorem firstE_stop {f : Nat → Int} {k : Nat} (h0 : (firstE f k).2 = 0) (hk : f k ≠ 0) : ∀ {n : Nat}, k < n → firstE f n = ((k : Int), f k)
  | n + 1, h => by
    unfold firstE
    by_cases e : k = n
    · subst e; rw [if_neg (by simpa using h0), if_pos hk]
    · rw [firstE_stop h0 hk (n := n) (by omega), if_pos hk]
theorem firstE_next {f : Nat → Int} {k : Nat} (h0 : (firstE f k).2 = 0) (hk : f k = 0) : (firstE f (k + 1)).2 = 0 := by
  unfold firstE; rw [if_neg (by simpa using h0), if_neg (by simpa using hk)]
theorem firstE_all {f : Nat → Int} : ∀ {n : Nat}, (firstE f n).2 = 0 ↔ ∀ k, k < n → f k = 0
  | 0 => by simp [firstE]
  | n + 1 => by
    have ih := firstE_all (f := f) (n := n)
    unfold firstE
    by_cases a : (firstE f n).2 = 0
    · rw [if_neg (by simpa using a)]
      by_cases b : f n = 0
      · rw [if_neg (by simpa using b)]
        refine ⟨fun _ k hk => ?_, fun _ => rfl⟩
        by_cases e : k = n
        · subst e; exact b
        · exact ih.1 a k (by omega)
      · rw [if_pos b]; exact ⟨fun h => absurd h b, fun h => absurd (h n (by omega)) b⟩
    · rw [if_pos a]
      exact ⟨fun h => absurd h a, fun h => absurd (ih.2 fun k hk => h k (by omega)) a⟩
theorem firstE_congr {f g : Nat → Int} : ∀ {n : Nat}, (∀ k, k < n → f k = g k) → firstE f n = firstE g n
  | 0, _ => rfl
  | n + 1, h => by
    unfold firstE; rw [firstE_congr (n := n) fun k hk => h k (by omega), h n (by omega)]
theorem firstE_lt {f : Nat → Int} : ∀ {n : Nat}, 0 ≤ (firstE f n).1 ∧ ((firstE f n).2 ≠ 0 → (firstE f n).1 < n)
  | 0 => by simp [firstE]
  | n + 1 => by
    have ih := firstE_lt (f := f) (n := n)
    unfold firstE
    by_cases a : (firstE f n).2 ≠ 0
    · rw [if_pos a]; exact ⟨ih.1, fun _ => by have := ih.2 a; omega⟩
    · rw [if_neg a]
      by_cases b : f n ≠ 0
      · rw [if_pos b]; exact ⟨by simp, fun _ => by simp; omega⟩
      · rw [if_neg b]; exact ⟨by simp, fun h => absurd rfl h⟩

/-- The error of spans, each with the bounds of its numbers (lo, hi, least, most). -/
def outB (s : T4) : Bool := !inB s.1 s.2.2.1 s.2.2.2 || !inB s.2.1 s.2.2.1 s.2.2.2
def turnB (s : T4) : Bool := decide (s.2.1 < s.1)
def demandE (l : List T4) : Int := if l.any outB then 7 else if l.any turnB then 2 else 0

def dayE (d : T4) : Int := demandE [(d.1, d.2.1, -300, 600), (d.2.2.1, d.2.2.2, 0, 1000)]
def lvE (n : T2) : Int := demandE [(n.1, n.2, 0, 1000000)]

theorem any_take_next {α : Type} {p : α → Bool} (d : α) {l : List α} {k : Nat} (h : k < l.length) (h0 : (l.take k).any p = false) (hk : p (l.getD k d) = false) : (l.take (k + 1)).any p = false := by
  rw [List.take_succ_eq_append_getElem h, List.any_append, h0]
  have e : l.getD k d = l[k] := by simp [List.getD, h]
  rw [e] at hk
  simp [hk]
theorem any_stop {α : Type} {p : α → Bool} (d : α) {l : List α} {k : Nat} (h : k < l.length) (hk : p (l.getD k d) = true) : l.any p = true := by
  have e : l.getD k d = l[k] := by simp [List.getD, h]
  rw [e] at hk
  exact List.any_eq_true.2 ⟨l[k], List.getElem_mem h, hk⟩
end Go.Proofs.Ytanjkhclhcnnaaa

/- The text of a card, in plain mathematics. -/
import Derived.Test.YtgjpbffoalldkaaGreatDoorWD
import Derived.Lib.ItoaLen
import Derived.Lib.Join
namespace Go.Proofs.YtgjpbffoalldkaaGreatDoor
open Go.RowKit

/-- Lines, and more of them. -/
def linesTo (base : List (List UInt8)) (f : Nat → List UInt8) : Nat → List (List UInt8)
  | 0 => base
  | k + 1 => linesTo base f k ++ [f k]
theorem linesTo_len (base : List (List UInt8)) (f : Nat → List UInt8) : ∀ k, (linesTo base f k).length = base.length + k
  | 0 => rfl
  | k + 1 => by rw [linesTo, List.length_append, linesTo_len base f k]; simp; omega
theorem linesTo_all {base : List (List UInt8)} {f : Nat → List UInt8} {p : List UInt8 → Prop} (hb : ∀ l ∈ base, p l) : ∀ k, (∀ i, i < k → p (f i)) → ∀ l ∈ linesTo base f k, p l
  | 0, _ => hb
  | k + 1, hf => by
    intro l hl
    rw [linesTo, List.mem_append] at hl
    rcases hl with hl | hl
    · exact linesTo_all hb k (fun i hi => hf i (by omega)) l hl
    · rw [List.mem_singleton.1 hl]; exact hf k (by omega)

/-- The word of a base. -/
def baseW (b : Int) : List UInt8 := if b = 1 then [110, 105, 116, 114, 97, 116, 101] else if b = 2 then [97, 99, 101, 116, 97, 116, 101] else [112, 111, 108, 121, 101, 115, 116, 101, 114]
/-- The lines of a card. -/
def head1 (r : RA) : List UInt8 := [82, 69, 69, 76, 32] ++ r.nm.data.toList ++ ([32, 71, 65, 85, 71, 69] ++ 32 :: Lib.itoa r.g) ++ [32, 66, 65, 83, 69, 32] ++ baseW r.b ++ ([32, 70, 82, 65, 77, 69, 83] ++ 32 :: Lib.itoa r.f)
def head2 (r : RA) : List UInt8 := ([89, 69, 65, 82, 83] ++ 32 :: Lib.itoa r.lo ++ 32 :: Lib.itoa r.hi) ++ ([32, 75, 69, 69, 80] ++ 32 :: Lib.itoa r.k)
def markW (x : T3) : List UInt8 := [77, 65, 82, 75] ++ 32 :: Lib.itoa x.1 ++ 32 :: Lib.itoa x.2.1 ++ 32 :: Lib.itoa x.2.2
def symW (x : T2) : List UInt8 := [83, 89, 77, 66, 79, 76] ++ 32 :: Lib.itoa x.1 ++ 32 :: Lib.itoa x.2
def lenW (x : T3) : List UInt8 := [76, 69, 78, 71, 84, 72] ++ 32 :: Lib.itoa x.1 ++ 32 :: Lib.itoa x.2.1 ++ 32 :: Lib.itoa x.2.2
def endW (n : Nat) : List UInt8 := [69, 78, 68] ++ 32 :: Lib.itoa n
def text0 (r : RA) : List (List UInt8) := [head1 r, head2 r]
def text1 (r : RA) (ms : List T3) (k : Nat) : List (List UInt8) := linesTo (text0 r) (fun i => markW (ms.getD i (0, 0, 0))) k
def text2 (r : RA) (ms : List T3) (ss : List T2) (k : Nat) : List (List UInt8) := linesTo (text1 r ms r.mn) (fun i => symW (ss.getD i (0, 0))) k
def text3 (r : RA) (ms : List T3) (ss : List T2) (ls : List T3) (k : Nat) : List (List UInt8) := linesTo (text2 r ms ss r.sn) (fun i => lenW (ls.getD i (0, 0, 0))) k
def textL (r : RA) (ms : List T3) (ss : List T2) (ls : List T3) : List (List UInt8) := text3 r ms ss ls r.ln ++ [endW (2 + r.mn + r.sn + r.ln), []]
/-- The card of a reel. -/
def cardB (r : RA) (ms : List T3) (ss : List T2) (ls : List T3) : List UInt8 := Lib.join (textL r ms ss ls) [10]

theorem text1_len (r : RA) (ms : List T3) (k : Nat) : (text1 r ms k).length = 2 + k := by rw [text1, linesTo_len]; rfl
theorem text2_len (r : RA) (ms : List T3) (ss : List T2) (k : Nat) : (text2 r ms ss k).length = 2 + r.mn + k := by rw [text2, linesTo_len, text1_len]
theorem text3_len (r : RA) (ms : List T3) (ss : List T2) (ls : List T3) (k : Nat) : (text3 r ms ss ls k).length = 2 + r.mn + r.sn + k := by rw [text3, linesTo_len, text2_len]

/-- A number of 64 bits. -/
abbrev I64 (x : Int) : Prop := -9223372036854775808 ≤ x ∧ x ≤ 9223372036854775807
theorem markW_len {x : T3} (h0 : I64 x.1) (h1 : I64 x.2.1) (h2 : I64 x.2.2) : (markW x).length ≤ 100 := by
  have a := Lib.itoa_length_le _ h0.1 h0.2
  have b := Lib.itoa_length_le _ h1.1 h1.2
  have c := Lib.itoa_length_le _ h2.1 h2.2
  simp [markW]; omega
theorem lenW_len {x : T3} (h0 : I64 x.1) (h1 : I64 x.2.1) (h2 : I64 x.2.2) : (lenW x).length ≤ 100 := by
  have a := Lib.itoa_length_le _ h0.1 h0.2
  have b := Lib.itoa_length_le _ h1.1 h1.2
  have c := Lib.itoa_length_le _ h2.1 h2.2
  simp [lenW]; omega
theorem symW_len {x : T2} (h0 : I64 x.1) (h1 : I64 x.2) : (symW x).length ≤ 100 := by
  have a := Lib.itoa_length_le _ h0.1 h0.2
  have b := Lib.itoa_length_le _ h1.1 h1.2
  simp [symW]; omega
theorem endW_len {n : Nat} (h : n ≤ 1000) : (endW n).length ≤ 100 := by
  have a := Lib.itoa_length_le (n : Int) (by omega) (by omega)
  simp [endW]; omega
theorem baseW_len (b : Int) : (baseW b).length ≤ 9 := by unfold baseW; split; decide; split <;> decide
theorem head1_len {r : RA} (hn : r.nm.size ≤ 24) (h0 : I64 r.g) (h1 : I64 r.f) : (head1 r).length ≤ 200 := by
  have a := Lib.itoa_length_le _ h0.1 h0.2
  have b := Lib.itoa_length_le _ h1.1 h1.2
  have c := baseW_len r.b
  have d : r.nm.data.toList.length ≤ 24 := hn
  simp only [head1, List.length_append, List.length_cons, List.length_nil]; omega
theorem head2_len {r : RA} (h0 : I64 r.lo) (h1 : I64 r.hi) (h2 : I64 r.k) : (head2 r).length ≤ 200 := by
  have a := Lib.itoa_length_le _ h0.1 h0.2
  have b := Lib.itoa_length_le _ h1.1 h1.2
  have c := Lib.itoa_length_le _ h2.1 h2.2
  simp only [head2, List.length_append, List.length_cons, List.length_nil]; omega

theorem lens_le (n : Nat) : ∀ (xs : List (List UInt8)), (∀ l ∈ xs, l.length ≤ n) → Lib.lens xs ≤ n * xs.length
  | [], _ => by simp [Lib.lens]
  | x :: xs, h => by
    have h1 := lens_le n xs fun l hl => h l (List.mem_cons_of_mem _ hl)
    have h2 := h x (List.mem_cons_self ..)
    unfold Lib.lens at h1 ⊢
    simp only [List.map_cons, List.sum_cons, List.length_cons, Nat.mul_succ] at h1 ⊢
    omega
theorem join_le (n : Nat) (xs : List (List UInt8)) (h : ∀ l ∈ xs, l.length ≤ n) : (Lib.join xs [10]).length ≤ (n + 1) * xs.length := by
  cases xs with
  | nil => simp [Lib.join_nil]
  | cons x xs =>
    rw [Lib.join_length]
    have := lens_le n _ h
    rw [Nat.add_mul]
    simp only [List.length_cons, List.length_nil] at this ⊢
    omega
end Go.Proofs.YtgjpbffoalldkaaGreatDoor

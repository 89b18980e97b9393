/- Plain facts on lists of bytes: parts between bytes; names. -/
import Derived.Lib.Split
namespace Go.Proofs.YtgjpbffoalldkaaGreatDoor
open Go

/-- Is a number from one to another one? -/
def inB (n lo hi : Int) : Bool := decide (lo ≤ n) && decide (n ≤ hi)

/-- The parts of a list between the bytes c. -/
def parts (c : UInt8) : List UInt8 → List (List UInt8)
  | [] => [[]]
  | b :: l => if b = c then [] :: parts c l else ((b :: (parts c l).headD []) :: (parts c l).tail)

theorem parts_ne (c : UInt8) (l : List UInt8) : parts c l ≠ [] := by
  cases l with
  | nil => simp [parts]
  | cons b l => unfold parts; split <;> simp

theorem parts_none (c : UInt8) : ∀ (l : List UInt8), Lib.index l [c] = -1 → parts c l = [l]
  | [], _ => rfl
  | b :: l, h => by
    unfold Lib.index at h
    by_cases hb : b = c
    · subst hb; simp at h
    · have h0 : ([c].isPrefixOf (b :: l)) = false := by simp [List.isPrefixOf]; exact fun e => hb e.symm
      rw [h0] at h
      have hl : Lib.index l [c] = -1 := by
        have := Lib.index_ge l [c]
        by_cases e : Lib.index l [c] = -1
        · exact e
        · simp [e] at h; omega
      have ih := parts_none c l hl
      unfold parts
      rw [if_neg hb, ih]; rfl

theorem parts_some (c : UInt8) : ∀ (l : List UInt8) (i : Nat), Lib.index l [c] = i → i < l.length ∧ parts c l = l.take i :: parts c (l.drop (i + 1))
  | [], i, h => by simp [Lib.index] at h
  | b :: l, i, h => by
    unfold Lib.index at h
    by_cases hb : b = c
    · subst hb
      simp at h
      have : i = 0 := by omega
      subst this
      simp [parts]
    · have h0 : ([c].isPrefixOf (b :: l)) = false := by simp [List.isPrefixOf]; exact fun e => hb e.symm
      rw [h0] at h
      by_cases e : Lib.index l [c] = -1
      · simp [e] at h
      · simp [e] at h
        have := Lib.index_ge l [c]
        obtain ⟨j, rfl⟩ : ∃ j, i = j + 1 := ⟨i - 1, by omega⟩
        obtain ⟨h1, h2⟩ := parts_some c l j (by omega)
        refine ⟨by simpa using h1, ?_⟩
        rw [show parts c (b :: l) = (if b = c then [] :: parts c l else ((b :: (parts c l).headD []) :: (parts c l).tail)) from rfl, if_neg hb, h2]
        simp

theorem splitK_parts (c : UInt8) : ∀ (n : Nat) (l : List UInt8), l.length < n → Lib.splitK [c] 0 (Lib.count l [c]) l = parts c l ∧ (parts c l).length = Lib.count l [c] + 1
  | 0, l, h => by omega
  | n + 1, l, h => by
    by_cases e : Lib.index l [c] = -1
    · rw [Lib.count_miss e, parts_none c l e]; exact ⟨rfl, rfl⟩
    · have hge := Lib.index_ge l [c]
      obtain ⟨i, hi⟩ : ∃ i : Nat, Lib.index l [c] = i := ⟨(Lib.index l [c]).toNat, by omega⟩
      obtain ⟨h1, h2⟩ := parts_some c l i hi
      have hc := Lib.count_hit (sub := [c]) (by simp) hi
      have hd : (l.drop (i + [c].length)).length < n := by simp; omega
      obtain ⟨h3, h4⟩ := splitK_parts c n (l.drop (i + [c].length)) hd
      rw [hc, Nat.add_comm, h2]
      refine ⟨?_, ?_⟩
      · unfold Lib.splitK
        rw [if_neg (by simpa using e), hi]
        simp only [Int.toNat_natCast, Nat.add_zero]
        rw [h3]; rfl
      · simp only [List.length_cons]
        have : (parts c (l.drop (i + 1))).length = _ := h4
        rw [this]; rfl

theorem parts_length (c : UInt8) (l : List UInt8) : (parts c l).length = Lib.count l [c] + 1 := (splitK_parts c _ l (Nat.lt_succ_self _)).2
theorem split_parts (c : UInt8) (l : List UInt8) : Lib.splitK [c] 0 (Lib.count l [c]) l = parts c l := (splitK_parts c _ l (Nat.lt_succ_self _)).1

def alnumB (c : UInt8) : Bool := inB c.toNat 97 122 || inB c.toNat 48 57
def partB (l : List UInt8) : Bool := l.all alnumB && !l.isEmpty

/-- The rest of a name: 'open_' says that nothing has come since a hyphen. -/
def restB (open_ : Bool) : List UInt8 → Bool
  | [] => !open_
  | c :: l => if alnumB c then restB false l else c == 45 && !open_ && restB true l

def nameB (l : List UInt8) : Bool := inB l.length 1 24 && inB (l.headD 0).toNat 97 122 && restB true l

theorem alnum_45 : alnumB 45 = false := by decide

theorem rest_parts : ∀ (l : List UInt8), restB true l = (parts 45 l).all partB ∧ restB false l = (((parts 45 l).headD []).all alnumB && (parts 45 l).tail.all partB)
  | [] => by decide
  | b :: l => by
    obtain ⟨h1, h2⟩ := rest_parts l
    unfold restB parts
    by_cases hb : b = 45
    · subst hb
      rw [alnum_45]
      simp [h1, partB]
    · by_cases ha : alnumB b = true
      · simp [hb, ha, h2, partB]
      · simp only [Bool.not_eq_true] at ha
        simp [hb, ha, partB]

theorem name_parts (l : List UInt8) : nameB l = (inB l.length 1 24 && inB (l.headD 0).toNat 97 122 && (parts 45 l).all partB) := by
  rw [nameB, (rest_parts l).1]

/-- Is there no byte behind the last hyphen ahead of place k? -/
def openAt (l : List UInt8) (k : Nat) : Bool := k == 0 || l.getD (k - 1) 0 == 45

theorem rest_alnum {l : List UInt8} {k : Nat} (hk : k < l.length) (ha : alnumB l[k] = true) : restB (openAt l k) (l.drop k) = restB (openAt l (k + 1)) (l.drop (k + 1)) ∧ openAt l (k + 1) = false := by
  have h45 : (l[k] == 45) = false := by
    rw [beq_eq_false_iff_ne]; intro e; rw [e, alnum_45] at ha; cases ha
  have ho : openAt l (k + 1) = false := by simp [openAt, hk, h45]
  rw [ho, List.drop_eq_getElem_cons hk]
  simp [restB, ha]
theorem rest_dash {l : List UInt8} {k : Nat} (hk : k < l.length) (hc : l[k] = 45) (ho : openAt l k = false) : restB (openAt l k) (l.drop k) = restB (openAt l (k + 1)) (l.drop (k + 1)) := by
  have ho1 : openAt l (k + 1) = true := by simp [openAt, hk, hc]
  rw [ho1, ho, List.drop_eq_getElem_cons hk]
  simp [restB, hc, alnum_45]
theorem rest_bad {l : List UInt8} {k : Nat} (hk : k < l.length) (ha : alnumB l[k] = false) (h : l[k] ≠ 45 ∨ openAt l k = true ∨ k + 1 = l.length) : restB (openAt l k) (l.drop k) = false := by
  rw [List.drop_eq_getElem_cons hk]
  rcases h with h | h | h
  · simp [restB, ha, h]
  · simp [restB, ha, h]
  · have : l.drop (k + 1) = [] := by rw [List.drop_eq_nil_iff]; omega
    simp [restB, ha, this]
theorem rest_end {l : List UInt8} (ho : openAt l l.length = false) : restB (openAt l l.length) (l.drop l.length) = true := by
  simp [restB, ho]
end Go.Proofs.YtgjpbffoalldkaaGreatDoor

/- Reels in memory; the walks of film's checks. -/
import Derived.Test.YtgjpbffoalldkaaGreatDoorWB
namespace Go.Proofs.YtgjpbffoalldkaaGreatDoor
open Go.RowKit

/-- A reel as its ten cells. -/
structure RA where
  nm : ByteArray
  g : Int
  b : Int
  f : Int
  lo : Int
  hi : Int
  k : Int
  ma : Option Addr
  mn : Nat
  mc : Nat
  sa : Option Addr
  sn : Nat
  sc : Nat
  la : Option Addr
  ln : Nat
  lc : Nat
abbrev RA.cs (r : RA) : Array Value := #[.string r.nm, .int .i64 r.g, .int .i64 r.b, .int .i64 r.f, .int .i64 r.lo, .int .i64 r.hi, .int .i64 r.k, .slice r.ma r.mn r.mc, .slice r.sa r.sn r.sc, .slice r.la r.ln r.lc]

abbrev T3 := Int × Int × Int
abbrev T2 := Int × Int

/-- A slice of structs of three integers. -/
structure Sl3 (w : World) (a : Option Addr) (n : Nat) (ms : List T3) : Prop where
  len : ms.length = n
  at_ : 0 < n → ∃ b o, a = some ⟨b, o, none⟩ ∧ b < w.heap.size ∧ ∀ i, i < n → w.cell? ⟨b, o + i * 3, none⟩ = some (.int .i64 (ms.getD i (0, 0, 0)).1) ∧ w.cell? ⟨b, o + i * 3 + 1, none⟩ = some (.int .i64 (ms.getD i (0, 0, 0)).2.1) ∧ w.cell? ⟨b, o + i * 3 + 2, none⟩ = some (.int .i64 (ms.getD i (0, 0, 0)).2.2)
/-- A slice of structs of two integers. -/
structure Sl2 (w : World) (a : Option Addr) (n : Nat) (ss : List T2) : Prop where
  len : ss.length = n
  at_ : 0 < n → ∃ b o, a = some ⟨b, o, none⟩ ∧ b < w.heap.size ∧ ∀ i, i < n → w.cell? ⟨b, o + i * 2, none⟩ = some (.int .i64 (ss.getD i (0, 0)).1) ∧ w.cell? ⟨b, o + i * 2 + 1, none⟩ = some (.int .i64 (ss.getD i (0, 0)).2)

theorem Sl3.below {w w' : World} {a : Option Addr} {n : Nat} {ms : List T3} (h : Sl3 w a n ms) (hb : Below w.heap.size w w') : Sl3 w' a n ms :=
  ⟨h.len, fun hn => let ⟨b, o, e, hl, hc⟩ := h.at_ hn; ⟨b, o, e, Nat.lt_of_lt_of_le hl hb.size, fun i hi => by
    obtain ⟨h1, h2, h3⟩ := hc i hi
    exact ⟨(hb.cell (p := ⟨b, o + i * 3, none⟩) hl).trans h1, (hb.cell (p := ⟨b, o + i * 3 + 1, none⟩) hl).trans h2, (hb.cell (p := ⟨b, o + i * 3 + 2, none⟩) hl).trans h3⟩⟩⟩
theorem Sl2.below {w w' : World} {a : Option Addr} {n : Nat} {ms : List T2} (h : Sl2 w a n ms) (hb : Below w.heap.size w w') : Sl2 w' a n ms :=
  ⟨h.len, fun hn => let ⟨b, o, e, hl, hc⟩ := h.at_ hn; ⟨b, o, e, Nat.lt_of_lt_of_le hl hb.size, fun i hi => by
    obtain ⟨h1, h2⟩ := hc i hi
    exact ⟨(hb.cell (p := ⟨b, o + i * 2, none⟩) hl).trans h1, (hb.cell (p := ⟨b, o + i * 2 + 1, none⟩) hl).trans h2⟩⟩⟩

/-- What the reel's slices read as. -/
structure Reads (w : World) (r : RA) (ms : List T3) (ss : List T2) (ls : List T3) : Prop where
  nm : r.nm.size ≤ maxLen
  mn : r.mn ≤ 140737488351232
  sn : r.sn ≤ 140737488351232
  ln : r.ln ≤ 140737488351232
  m : Sl3 w r.ma r.mn ms
  s : Sl2 w r.sa r.sn ss
  l : Sl3 w r.la r.ln ls
theorem Reads.below {w w' : World} {r : RA} {ms : List T3} {ss : List T2} {ls : List T3} (h : Reads w r ms ss ls) (hb : Below w.heap.size w w') : Reads w' r ms ss ls :=
  ⟨h.nm, h.mn, h.sn, h.ln, h.m.below hb, h.s.below hb, h.l.below hb⟩

theorem B_trans {w w1 w2 : World} (h : Below w.heap.size w w1) (k : Below w1.heap.size w1 w2) : Below w.heap.size w w2 := h.trans (k.mono h.size)
theorem B_alloc {w w1 : World} (h : Below w.heap.size w w1) (o : Obj) : Below w.heap.size w (w1.alloc o) := h.alloc h.size o
theorem B_drewN {w w1 : World} (h : Below w.heap.size w w1) (n : Nat) : Below w.heap.size w (w1.drewN n) := below_drewN h n

/-- The error of a mark. -/
def markE (f : Int) (ms : List T3) (i : Nat) : Int :=
  if inB (ms.getD i (0, 0, 0)).1 0 (f - 1) && inB (ms.getD i (0, 0, 0)).2.1 0 99 && inB (ms.getD i (0, 0, 0)).2.2 0 9999 then
    if 0 < i && decide ((ms.getD i (0, 0, 0)).1 ≤ (ms.getD (i - 1) (0, 0, 0)).1) then 2 else 0
  else 7
def symE (ss : List T2) (i : Nat) : Int := if inB (ss.getD i (0, 0)).1 0 99 && inB (ss.getD i (0, 0)).2 0 19 then 0 else 7
def lenE (f : Int) (ls : List T3) (i : Nat) : Int :=
  if inB (ls.getD i (0, 0, 0)).1 1 f && inB (ls.getD i (0, 0, 0)).2.1 1 400000000 && inB (ls.getD i (0, 0, 0)).2.2 0 400000000 then 0 else 7

theorem ret_int {k : IntKind} {a b : Int} (h : a = b) : Ending.returned (.int k a) = .returned (.int k b) := by rw [h]

theorem symE_any (B : Nat) (sa : Option Addr) (sn sc : Nat) (ss : List T2) (i : Nat) (w : World) (hi : i < sn) (hsn : sn ≤ 140737488351232) (_hB : B < w.heap.size) (h8 : w.cell? ⟨B, 8, none⟩ = some (.slice sa sn sc)) (hs : Sl2 w sa sn ss) :
    Calls Tryz.prog 83 #[.int .i64 i, .pointer (some ⟨B, 0, none⟩)] w fun e w' => e = .returned (.int .i64 (symE ss i)) ∧ Below w.heap.size w w' := by
  obtain ⟨b, o, rfl, hb, hc⟩ := hs.at_ (by omega)
  obtain ⟨c0, c1⟩ := hc i hi
  clear hc hs
  have hal : ∀ O c k, c < w.heap.size → (w.alloc O).cell? ⟨c, k, none⟩ = w.cell? ⟨c, k, none⟩ := fun O k c h => alloc_old _ _ _ _ h
  have HV : Hid (symE ss i = if inB (ss.getD i (0, 0)).1 0 99 && inB (ss.getD i (0, 0)).2 0 19 then 0 else 7) := rfl
  generalize symE ss i = E at HV ⊢
  generalize ss.getD i (0, 0) = x at c0 c1 HV
  obtain ⟨x0, x1⟩ := x
  cases h0 : inB x0 0 99 <;> cases h1 : inB x1 0 19
  all_goals
    have hE := HV.out
    simp only [h0, h1] at hE
    simp at hE
    have HE := Lib.hid hE
    clear hE HV
    go_enter Tryz.func83, Tryz.ntmps83
    go_wp2_with (go_at_call 57; refine (within_any _ _ _ _).mono ?_; rintro e w1 ⟨rfl, rfl⟩)
    go_ret
    exact ⟨ret_int HE.out.symm, B_alloc (Below.refl _ _) _⟩

theorem lenE_any (B : Nat) (sa : Option Addr) (sn sc : Nat) (ss : List T3) (f : Int) (i : Nat) (w : World) (hi : i < sn) (hsn : sn ≤ 140737488351232) (hB : B < w.heap.size) (h3 : w.cell? ⟨B, 3, none⟩ = some (.int .i64 f)) (h8 : w.cell? ⟨B, 9, none⟩ = some (.slice sa sn sc)) (hs : Sl3 w sa sn ss) :
    Calls Tryz.prog 84 #[.int .i64 i, .pointer (some ⟨B, 0, none⟩)] w fun e w' => e = .returned (.int .i64 (lenE f ss i)) ∧ Below w.heap.size w w' := by
  obtain ⟨b, o, rfl, hb, hc⟩ := hs.at_ (by omega)
  obtain ⟨c0, c1, c2⟩ := hc i hi
  clear hc hs
  have hal : ∀ O c k, c < w.heap.size → (w.alloc O).cell? ⟨c, k, none⟩ = w.cell? ⟨c, k, none⟩ := fun O k c h => alloc_old _ _ _ _ h
  have HV : Hid (lenE f ss i = if inB (ss.getD i (0, 0, 0)).1 1 f && inB (ss.getD i (0, 0, 0)).2.1 1 400000000 && inB (ss.getD i (0, 0, 0)).2.2 0 400000000 then 0 else 7) := rfl
  generalize lenE f ss i = E at HV ⊢
  generalize ss.getD i (0, 0, 0) = x at c0 c1 c2 HV
  obtain ⟨x0, x1, x2⟩ := x
  cases h0 : inB x0 1 f <;> cases h1 : inB x1 1 400000000 <;> cases h2 : inB x2 0 400000000
  all_goals
    have hE := HV.out
    simp only [h0, h1, h2] at hE
    simp at hE
    have HE := Lib.hid hE
    clear hE HV
    go_enter Tryz.func84, Tryz.ntmps84
    go_wp2_with (go_at_call 57; refine (within_any _ _ _ _).mono ?_; rintro e w1 ⟨rfl, rfl⟩)
    go_ret
    exact ⟨ret_int HE.out.symm, B_alloc (Below.refl _ _) _⟩

set_option maxHeartbeats 1000000 in
theorem markE_any (B : Nat) (sa : Option Addr) (sn sc : Nat) (ss : List T3) (f : Int) (i : Nat) (w : World) (hi : i < sn) (hsn : sn ≤ 140737488351232) (hB : B < w.heap.size) (hf1 : 1 ≤ f) (hf2 : f ≤ 200000) (h3 : w.cell? ⟨B, 3, none⟩ = some (.int .i64 f)) (h8 : w.cell? ⟨B, 7, none⟩ = some (.slice sa sn sc)) (hs : Sl3 w sa sn ss) :
    Calls Tryz.prog 82 #[.int .i64 i, .pointer (some ⟨B, 0, none⟩)] w fun e w' => e = .returned (.int .i64 (markE f ss i)) ∧ Below w.heap.size w w' := by
  obtain ⟨b, o, rfl, hb, hc⟩ := hs.at_ (by omega)
  obtain ⟨c0, c1, c2⟩ := hc i hi
  have hal : ∀ O c k, c < w.heap.size → (w.alloc O).cell? ⟨c, k, none⟩ = w.cell? ⟨c, k, none⟩ := fun O k c h => alloc_old _ _ _ _ h
  have HV : Hid (markE f ss i = if inB (ss.getD i (0, 0, 0)).1 0 (f - 1) && inB (ss.getD i (0, 0, 0)).2.1 0 99 && inB (ss.getD i (0, 0, 0)).2.2 0 9999 then
    if 0 < i && decide ((ss.getD i (0, 0, 0)).1 ≤ (ss.getD (i - 1) (0, 0, 0)).1) then 2 else 0 else 7) := rfl
  generalize markE f ss i = E at HV ⊢
  by_cases hi0 : i = 0
  · subst hi0
    clear hc hs
    simp only [Nat.zero_mul, Nat.add_zero] at c0 c1 c2
    have HV2 : Hid (E = if inB (ss.getD 0 (0, 0, 0)).1 0 (f - 1) && inB (ss.getD 0 (0, 0, 0)).2.1 0 99 && inB (ss.getD 0 (0, 0, 0)).2.2 0 9999 then 0 else 7) := by rw [HV.out]; simp [Hid]
    clear HV
    generalize ss.getD 0 (0, 0, 0) = x at c0 c1 c2 HV2
    obtain ⟨x0, x1, x2⟩ := x
    cases h0 : inB x0 0 (f - 1) <;> cases h1 : inB x1 0 99 <;> cases h2 : inB x2 0 9999
    case true.true.true =>
      have hE := HV2.out
      simp only [h0, h1, h2] at hE
      simp at hE
      have HE := Lib.hid hE
      clear hE HV2
      go_enter Tryz.func82, Tryz.ntmps82
      go_wp2_with (go_at_call 57; refine (within_any _ _ _ _).mono ?_; rintro e w1 ⟨rfl, rfl⟩)
      go_quiet (fail)
      go_wp2
      go_ret
      exact ⟨ret_int HE.out.symm, B_drewN (B_alloc (Below.refl _ _) _) _⟩
    all_goals
      have hE := HV2.out
      simp only [h0, h1, h2] at hE
      simp at hE
      have HE := Lib.hid hE
      clear hE HV2
      go_enter Tryz.func82, Tryz.ntmps82
      go_wp2_with (go_at_call 57; refine (within_any _ _ _ _).mono ?_; rintro e w1 ⟨rfl, rfl⟩)
      go_ret
      exact ⟨ret_int HE.out.symm, B_alloc (Below.refl _ _) _⟩
  · obtain ⟨j, rfl⟩ : ∃ j, i = j + 1 := ⟨i - 1, by omega⟩
    obtain ⟨d0, -, -⟩ := hc j (by omega)
    clear hc hs hi0
    have HV2 : Hid (E = if inB (ss.getD (j + 1) (0, 0, 0)).1 0 (f - 1) && inB (ss.getD (j + 1) (0, 0, 0)).2.1 0 99 && inB (ss.getD (j + 1) (0, 0, 0)).2.2 0 9999 then (if (ss.getD (j + 1) (0, 0, 0)).1 ≤ (ss.getD j (0, 0, 0)).1 then 2 else 0) else 7) := by rw [HV.out]; simp [Hid]
    clear HV
    generalize ss.getD (j + 1) (0, 0, 0) = x at c0 c1 c2 HV2
    generalize ss.getD j (0, 0, 0) = y at d0 HV2
    obtain ⟨x0, x1, x2⟩ := x
    obtain ⟨y0, y1, y2⟩ := y
    cases h0 : inB x0 0 (f - 1) <;> cases h1 : inB x1 0 99 <;> cases h2 : inB x2 0 9999
    case true.true.true =>
      by_cases hle : x0 ≤ y0
      all_goals
        have hE := HV2.out
        simp only [h0, h1, h2] at hE
        simp [hle] at hE
        have HE := Lib.hid hE
        clear hE HV2
        go_enter Tryz.func82, Tryz.ntmps82
        go_wp2_with (go_at_call 57; refine (within_any _ _ _ _).mono ?_; rintro e w1 ⟨rfl, rfl⟩)
        go_quiet (fail)
        go_wp2
        go_ret
        exact ⟨ret_int HE.out.symm, B_drewN (B_alloc (Below.refl _ _) _) _⟩
    all_goals
      have hE := HV2.out
      simp only [h0, h1, h2] at hE
      simp at hE
      have HE := Lib.hid hE
      clear hE HV2
      go_enter Tryz.func82, Tryz.ntmps82
      go_wp2_with (go_at_call 57; refine (within_any _ _ _ _).mono ?_; rintro e w1 ⟨rfl, rfl⟩)
      go_ret
      exact ⟨ret_int HE.out.symm, B_alloc (Below.refl _ _) _⟩
end Go.Proofs.YtgjpbffoalldkaaGreatDoor

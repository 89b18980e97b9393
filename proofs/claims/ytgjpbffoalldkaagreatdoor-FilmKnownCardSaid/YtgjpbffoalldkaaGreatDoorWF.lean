/- The walk of film.Shrink. -/
import Derived.Test.YtgjpbffoalldkaaGreatDoorWE
import Derived.Deep.RegionHeld3
import Derived.Deep.CutBlock
namespace Go.Proofs.YtgjpbffoalldkaaGreatDoor
open Go.RowKit

/-- Only block g, and what is new, has turned. -/
theorem only_drewN {a w : World} {row : Option Nat} (h : a.grownBy w row) (n : Nat) : a.grownBy (w.drewN n) row := ⟨h.os, h.tape, h.output, h.size, h.block⟩
theorem only_drew {a w : World} {row : Option Nat} (h : a.grownBy w row) : a.grownBy w.drew row := ⟨h.os, h.tape, h.output, h.size, h.block⟩
theorem only_alloc {a w : World} {row : Option Nat} (h : a.grownBy w row) (o : Obj) : a.grownBy (w.alloc o) row :=
  ⟨h.os, h.tape, h.output, Nat.le_trans h.size (by simp), fun i hi hne => (Below.heap_alloc w o i (Nat.lt_of_lt_of_le hi h.size)).trans (h.block i hi hne)⟩
theorem only_setCell {a w : World} {g : Nat} (h : a.grownBy w (some g)) {p : Addr} (hp : p.block = g) (u : Value) : a.grownBy (w.setCell p u) (some g) :=
  ⟨h.os, h.tape, h.output, by simpa [World.setCell] using h.size, fun i hi hne => (Below.heap_setCell w p u i (by
    rintro rfl
    exact hne (by rw [hp]))).trans (h.block i hi hne)⟩
theorem only_refl (w : World) (row : Option Nat) : w.grownBy w row := ⟨rfl, rfl, rfl, Nat.le_refl _, fun _ _ _ => rfl⟩
theorem only_trans {a b c : World} {row : Option Nat} (h : a.grownBy b row) (k : b.grownBy c row) : a.grownBy c row :=
  ⟨k.os.trans h.os, k.tape.trans h.tape, k.output.trans h.output, Nat.le_trans h.size k.size, fun i hi hne => (k.block i (Nat.lt_of_lt_of_le hi h.size) hne).trans (h.block i hi hne)⟩
theorem only_cell {a w : World} {g : Nat} (h : a.grownBy w (some g)) {b o : Nat} (hb : b < a.heap.size) (hne : b ≠ g) : w.cell? ⟨b, o, none⟩ = a.cell? ⟨b, o, none⟩ :=
  World.cell?_of_block (h.block b hb (fun e => hne (by injection e)))

theorem set_same {w : World} {b o : Nat} {u v : Value} (h : w.cell? ⟨b, o, none⟩ = some u) : (w.setCell ⟨b, o, none⟩ v).cell? ⟨b, o, none⟩ = some v := World.cell?_setCell_same _ _ _ h
theorem set_other {w : World} {b o o' : Nat} {u v : Value} (hne : o ≠ o') (h : w.cell? ⟨b, o', none⟩ = some u) : (w.setCell ⟨b, o, none⟩ v).cell? ⟨b, o', none⟩ = some u :=
  (World.cell?_setCell_other _ _ _ _ (fun e => hne (by injection e))).trans h
theorem set_frozen {w : World} {a : Addr} {v : Value} {b o : Nat} (h : w.frozen? ⟨b, o, none⟩ = false) : (w.setCell a v).frozen? ⟨b, o, none⟩ = false := by rw [World.frozen?_setCell]; exact h

/-- By how much a length is over, times 10000. -/
def overI (l : T3) (mi p : Int) : Int := l.1 * mi * (10000 - p) - l.2.1 * 10000

theorem mul_bd {a b A B : Int} (h1 : 0 ≤ a) (h2 : a ≤ A) (h3 : 0 ≤ b) (h4 : b ≤ B) : 0 ≤ a * b ∧ a * b ≤ A * B :=
  ⟨Int.mul_nonneg h1 h3, Int.mul_le_mul h2 h4 h3 (Int.le_trans h1 h2)⟩

theorem over_any (fr mc er mi p : Int) (w : World) (h1 : 1 ≤ fr) (h2 : fr ≤ 200000) (h3 : 0 ≤ mc) (h4 : mc ≤ 400000000) (h5 : 3810 ≤ mi) (h6 : mi ≤ 19000) (h7 : 0 ≤ p) (h8 : p ≤ 500) :
    Calls Tryz.prog 71 #[.agg #[.int .i64 fr, .int .i64 mc, .int .i64 er], .int .i64 mi, .int .i64 p] w fun e w' => e = .returned (.int .i64 (overI (fr, mc, er) mi p)) ∧ w.alloc (.cells #[.int .i64 fr, .int .i64 mc, .int .i64 er] 81) = w' := by
  obtain ⟨a1, a2⟩ := mul_bd (a := fr) (b := mi) (A := 200000) (B := 19000) (by omega) h2 (by omega) h6
  obtain ⟨b1, b2⟩ := mul_bd (a := fr * mi) (b := 10000 - p) (A := 3800000000) (B := 10000) a1 (by omega) (by omega) (by omega)
  go_enter Tryz.func71, Tryz.ntmps71
  go_wp2
  go_ret
  exact ⟨rfl, rfl⟩

def climb (bad : Int → Bool) : Nat → Int → Int → Int
  | 0, lo, _ => lo
  | n + 1, lo, hi => if lo ≤ hi ∧ bad lo = true then climb bad n (lo + 1) hi else lo
def fall (bad : Int → Bool) : Nat → Int → Int → Int
  | 0, _, hi => hi
  | n + 1, lo, hi => if lo ≤ hi ∧ bad hi = true then fall bad n lo (hi - 1) else hi
theorem climb_step {bad : Int → Bool} {n : Nat} {lo hi : Int} (h : lo ≤ hi) (hb : bad lo = true) (hn : 0 < n) : climb bad n lo hi = climb bad (n - 1) (lo + 1) hi := by
  obtain ⟨m, rfl⟩ : ∃ m, n = m + 1 := ⟨n - 1, by omega⟩
  simp [climb, h, hb]
theorem climb_end {bad : Int → Bool} {n : Nat} {lo hi : Int} (h : hi < lo ∨ bad lo = false) : climb bad n lo hi = lo := by
  cases n with
  | zero => rfl
  | succ n =>
    rw [climb, if_neg]
    rintro ⟨a, b⟩
    rcases h with h | h
    · omega
    · rw [h] at b; cases b
theorem fall_step {bad : Int → Bool} {n : Nat} {lo hi : Int} (h : lo ≤ hi) (hb : bad hi = true) (hn : 0 < n) : fall bad n lo hi = fall bad (n - 1) lo (hi - 1) := by
  obtain ⟨m, rfl⟩ : ∃ m, n = m + 1 := ⟨n - 1, by omega⟩
  simp [fall, h, hb]
theorem fall_end {bad : Int → Bool} {n : Nat} {lo hi : Int} (h : hi < lo ∨ bad hi = false) : fall bad n lo hi = hi := by
  cases n with
  | zero => rfl
  | succ n =>
    rw [fall, if_neg]
    rintro ⟨a, b⟩
    rcases h with h | h
    · omega
    · rw [h] at b; cases b

def tooLong (l : T3) (mi p : Int) : Bool := decide (l.2.2 * 10000 < overI l mi p)
def tooShort (l : T3) (mi p : Int) : Bool := decide (overI l mi p < -l.2.2 * 10000)
def narLo (l : T3) (mi lo hi : Int) : Int := climb (tooLong l mi) 502 lo hi
def narHi (l : T3) (mi lo hi : Int) : Int := fall (tooShort l mi) 502 (narLo l mi lo hi) hi

/-- What a walk of the closure leaves. -/
structure Narrowed (P : Nat) (lo hi : Int) (w w' : World) : Prop where
  lo : w'.cell? ⟨P, 0, none⟩ = some (.int .i64 lo)
  hi : w'.cell? ⟨P, 1, none⟩ = some (.int .i64 hi)
  f0 : w'.frozen? ⟨P, 0, none⟩ = false
  f1 : w'.frozen? ⟨P, 1, none⟩ = false
  only : w.grownBy w' (some P)

set_option maxHeartbeats 2000000 in
set_option maxRecDepth 100000 in
theorem narrow_any (fr mc er mi lo hi : Int) (P S : Nat) (w : World) (h1 : 1 ≤ fr) (h2 : fr ≤ 200000) (h3 : 0 ≤ mc) (h4 : mc ≤ 400000000) (h3' : 0 ≤ er) (h4' : er ≤ 400000000) (h5 : 3810 ≤ mi) (h6 : mi ≤ 19000)
    (hlo : 0 ≤ lo) (hlh : lo ≤ hi) (hhi : hi ≤ 500) (hP : P < w.heap.size) (hS : S < w.heap.size) (hPS : P ≠ S)
    (k0 : w.cell? ⟨P, 0, none⟩ = some (.int .i64 lo)) (k1 : w.cell? ⟨P, 1, none⟩ = some (.int .i64 hi)) (f0 : w.frozen? ⟨P, 0, none⟩ = false) (f1 : w.frozen? ⟨P, 1, none⟩ = false)
    (s1 : w.cell? ⟨S, 1, none⟩ = some (.int .i64 mi)) :
    Calls Tryz.prog 70 #[.agg #[.int .i64 fr, .int .i64 mc, .int .i64 er], .pointer (some ⟨P, 0, none⟩), .pointer (some ⟨S, 0, none⟩)] w fun e w' =>
      e = .returned (.bool (decide (narLo (fr, mc, er) mi lo hi ≤ narHi (fr, mc, er) mi lo hi))) ∧ Narrowed P (narLo (fr, mc, er) mi lo hi) (narHi (fr, mc, er) mi lo hi) w w' := by
  have hal : ∀ (W : World) O c k, c < W.heap.size → (W.alloc O).cell? ⟨c, k, none⟩ = W.cell? ⟨c, k, none⟩ := fun W O c k h => alloc_old W O c k h
  have hLo : Hid (narLo (fr, mc, er) mi lo hi = climb (tooLong (fr, mc, er) mi) 502 lo hi) := rfl
  have hHi : Hid (narHi (fr, mc, er) mi lo hi = fall (tooShort (fr, mc, er) mi) 502 (narLo (fr, mc, er) mi lo hi) hi) := rfl
  generalize narHi (fr, mc, er) mi lo hi = hi' at hHi ⊢
  generalize narLo (fr, mc, er) mi lo hi = lo' at hLo hHi ⊢
  have hW0 : ∃ W0, w.alloc (.cells #[.int .i64 fr, .int .i64 mc, .int .i64 er] 81) = W0 := ⟨_, rfl⟩
  obtain ⟨W0, hW0⟩ := hW0
  have g0 : w.grownBy W0 (some P) := by rw [← hW0]; exact only_alloc (only_refl _ _) _
  have hL : w.heap.size < W0.heap.size := by rw [← hW0]; simp
  have l0 : W0.cell? ⟨w.heap.size, 0, none⟩ = some (.int .i64 fr) := by rw [← hW0, World.cell?_alloc_at _ _ _ _ rfl]; rfl
  have l1 : W0.cell? ⟨w.heap.size, 1, none⟩ = some (.int .i64 mc) := by rw [← hW0, World.cell?_alloc_at _ _ _ _ rfl]; rfl
  have l2 : W0.cell? ⟨w.heap.size, 2, none⟩ = some (.int .i64 er) := by rw [← hW0, World.cell?_alloc_at _ _ _ _ rfl]; rfl
  have k0' : W0.cell? ⟨P, 0, none⟩ = some (.int .i64 lo) := by rw [← hW0, alloc_old _ _ _ _ hP]; exact k0
  have k1' : W0.cell? ⟨P, 1, none⟩ = some (.int .i64 hi) := by rw [← hW0, alloc_old _ _ _ _ hP]; exact k1
  have s1' : W0.cell? ⟨S, 1, none⟩ = some (.int .i64 mi) := by rw [← hW0, alloc_old _ _ _ _ hS]; exact s1
  have f0' : W0.frozen? ⟨P, 0, none⟩ = false := by rw [← hW0, (B_alloc (Below.refl _ w) _).frozen (p := ⟨P, 0, none⟩) hP]; exact f0
  have f1' : W0.frozen? ⟨P, 1, none⟩ = false := by rw [← hW0, (B_alloc (Below.refl _ w) _).frozen (p := ⟨P, 1, none⟩) hP]; exact f1
  have hP0 : P < W0.heap.size := by omega
  have hS0 : S < W0.heap.size := by omega
  have hLP : w.heap.size ≠ P := by omega
  go_enter Tryz.func70, Tryz.ntmps70
  go_upto_block 0 with fail
  have HW := Lib.hid (And.intro l0 (And.intro l1 (And.intro l2 s1')))
  clear k0 k1 f0 f1 s1 l0 l1 l2 s1' hW0
  generalize w.heap.size = L at hL HW hLP ⊢
  go_cut [21] (fun v wx => ∃ c : Int, Hid (lo' = c) ∧ lo ≤ c ∧ c ≤ hi + 1 ∧ wx.cell? ⟨P, 0, none⟩ = some (.int .i64 c) ∧ wx.cell? ⟨P, 1, none⟩ = some (.int .i64 hi) ∧ wx.frozen? ⟨P, 0, none⟩ = false ∧ wx.frozen? ⟨P, 1, none⟩ = false ∧ W0.grownBy wx (some P))
  case first =>
    go_wp2_with fail
    go_loopg [21] (hi + 1 - lo).toNat (fun gk v wr => ∃ (c : Int), gk = (hi + 1 - c).toNat ∧ lo ≤ c ∧ c ≤ hi + 1 ∧ wr.cell? ⟨P, 0, none⟩ = some (.int .i64 c) ∧ wr.cell? ⟨P, 1, none⟩ = some (.int .i64 hi) ∧ wr.frozen? ⟨P, 0, none⟩ = false ∧ wr.frozen? ⟨P, 1, none⟩ = false ∧ W0.grownBy wr (some P) ∧ Hid (lo' = climb (tooLong (fr, mc, er) mi) (502 - (c - lo).toNat) c hi))
    case atStart =>
      exact ⟨lo, rfl, Int.le_refl _, by omega, k0', k1', f0', f1', only_refl _ _, by rw [Hid, hLo.out]; simp⟩
    case round =>
      obtain ⟨c, rfl, hc1, hc2, k0, k1, f0, f1, hg, hcl⟩ := hrel
      have L0 : wr.cell? ⟨L, 0, none⟩ = some (.int .i64 fr) := (only_cell hg hL hLP).trans HW.out.1
      have L1 : wr.cell? ⟨L, 1, none⟩ = some (.int .i64 mc) := (only_cell hg hL hLP).trans HW.out.2.1
      have L2 : wr.cell? ⟨L, 2, none⟩ = some (.int .i64 er) := (only_cell hg hL hLP).trans HW.out.2.2.1
      have S1 : wr.cell? ⟨S, 1, none⟩ = some (.int .i64 mi) := (only_cell hg hS0 (fun e => hPS e.symm)).trans HW.out.2.2.2
      have hsz := hg.size
      have hPw : P < wr.heap.size := by omega
      have hSw : S < wr.heap.size := by omega
      have hLw : L < wr.heap.size := by omega
      have hwe : IntKind.i64.wrap (er * 10000) = er * 10000 := IntWalk.i64_in _ (by omega)
      by_cases hch : c ≤ hi
      · have hov := fun W => over_any fr mc er mi c W h1 h2 h3 h4 h5 h6 (by omega) (by omega)
        have HOV := Lib.hid hov
        have hbad : Hid (tooLong (fr, mc, er) mi c = decide (er * 10000 < overI (fr, mc, er) mi c)) := rfl
        clear hov
        generalize overI (fr, mc, er) mi c = ov at HOV hbad
        go_upto_region 1 with fail
        go_cut [21] (fun v wx => v = .bool (decide (er * 10000 < ov)) ∧ Below wr.heap.size wr wx)
        case first =>
          go_region_held3 (fun w' => w'.cell? ⟨P, 0, none⟩ = some (.int .i64 c) ∧ w'.cell? ⟨P, 1, none⟩ = some (.int .i64 hi) ∧ w'.cell? ⟨S, 1, none⟩ = some (.int .i64 mi) ∧ w'.cell? ⟨L, 0, none⟩ = some (.int .i64 fr) ∧ w'.cell? ⟨L, 1, none⟩ = some (.int .i64 mc) ∧ w'.cell? ⟨L, 2, none⟩ = some (.int .i64 er)) (go_keep) (first | (go_at_call 71; refine (HOV.out _).mono ?_; rintro e w' ⟨rfl, rfl⟩))
          all_goals go_wp2_with fail
          all_goals go_meet
          all_goals exact ⟨rfl, (B_alloc (Below.refl _ _) _).drew⟩
        case rest =>
          obtain ⟨rfl, hb⟩ := hcut
          have k0w : wc.cell? ⟨P, 0, none⟩ = some (.int .i64 c) := (hb.cell (p := ⟨P, 0, none⟩) hPw).trans k0
          have k1w : wc.cell? ⟨P, 1, none⟩ = some (.int .i64 hi) := (hb.cell (p := ⟨P, 1, none⟩) hPw).trans k1
          have f0w : wc.frozen? ⟨P, 0, none⟩ = false := (hb.frozen (p := ⟨P, 0, none⟩) hPw).trans f0
          have f1w : wc.frozen? ⟨P, 1, none⟩ = false := (hb.frozen (p := ⟨P, 1, none⟩) hPw).trans f1
          have hgc : W0.grownBy wc (some P) := only_trans hg ⟨hb.os, hb.tape, hb.output, hb.size, fun i hi' _ => hb.block i hi'⟩
          clear k0 k1 f0 f1 L0 L1 L2 S1 HOV
          by_cases hov : er * 10000 < ov
          · have hst : Hid (lo' = climb (tooLong (fr, mc, er) mi) (502 - (c + 1 - lo).toNat) (c + 1) hi) := by
              rw [Hid, hcl.out, climb_step hch (by rw [hbad.out]; simpa using hov) (by omega)]
              congr 1; omega
            have hpp : P < wc.heap.size := by have := hb.size; omega
            clear hcl hbad
            go_wp2
            go_roundg (hi + 1 - (c + 1)).toNat
            case measure => omega
            case rel =>
              exact ⟨c + 1, rfl, by omega, by omega, set_same k0w, set_other (by decide) k1w, set_frozen f0w, set_frozen f1w, only_setCell hgc rfl _, hst⟩
          · have hst : Hid (lo' = c) := by rw [Hid, hcl.out, climb_end (.inr (by rw [hbad.out]; simpa using hov))]
            clear hcl hbad
            go_wp2_with fail
            go_meet
            exact ⟨c, hst, hc1, hc2, k0w, k1w, f0w, f1w, hgc⟩
      · have hst : Hid (lo' = c) := by rw [Hid, hcl.out, climb_end (.inl (by omega))]
        have hd : decide (c ≤ hi) = false := by simpa using hch
        clear hcl
        go_wp2_with fail
        go_quiet (fail)
        go_wp2_with fail
        go_meet
        exact ⟨c, hst, hc1, hc2, k0, k1, f0, f1, only_drewN hg _⟩
  case rest =>
    obtain ⟨c, hst, hc1, hc2, k0, k1, f0, f1, hg⟩ := hcut
    obtain rfl : lo' = c := hst.out
    clear hst hLo k0' k1' f0' f1'
    have hc3 : lo ≤ hi := hlh
    go_wp2_with fail
    go_loopg [43] (hi + 1).toNat (fun gk v wr => ∃ (d : Int), gk = (d + 1).toNat ∧ d ≤ hi ∧ (d = hi ∨ lo' - 1 ≤ d) ∧ wr.cell? ⟨P, 0, none⟩ = some (.int .i64 lo') ∧ wr.cell? ⟨P, 1, none⟩ = some (.int .i64 d) ∧ wr.frozen? ⟨P, 0, none⟩ = false ∧ wr.frozen? ⟨P, 1, none⟩ = false ∧ W0.grownBy wr (some P) ∧ Hid (hi' = fall (tooShort (fr, mc, er) mi) (502 - (hi - d).toNat) lo' d))
    case atStart =>
      exact ⟨hi, rfl, Int.le_refl _, .inl rfl, k0, k1, f0, f1, hg, by rw [Hid, hHi.out]; simp⟩
    case round =>
      clear k0 k1 f0 f1 hg
      obtain ⟨d, rfl, hd1, hd2, k0, k1, f0, f1, hg, hcl⟩ := hrel
      have L0 : wr.cell? ⟨L, 0, none⟩ = some (.int .i64 fr) := (only_cell hg hL hLP).trans HW.out.1
      have L1 : wr.cell? ⟨L, 1, none⟩ = some (.int .i64 mc) := (only_cell hg hL hLP).trans HW.out.2.1
      have L2 : wr.cell? ⟨L, 2, none⟩ = some (.int .i64 er) := (only_cell hg hL hLP).trans HW.out.2.2.1
      have S1 : wr.cell? ⟨S, 1, none⟩ = some (.int .i64 mi) := (only_cell hg hS0 (fun e => hPS e.symm)).trans HW.out.2.2.2
      have hsz := hg.size
      have hPw : P < wr.heap.size := by omega
      have hSw : S < wr.heap.size := by omega
      have hLw : L < wr.heap.size := by omega
      have hwn : IntKind.i64.wrap (-er) = -er := IntWalk.i64_in _ (by omega)
      have hwe : IntKind.i64.wrap (-er * 10000) = -er * 10000 := IntWalk.i64_in _ (by omega)
      by_cases hch : lo' ≤ d
      · have hov := fun W => over_any fr mc er mi d W h1 h2 h3 h4 h5 h6 (by omega) (by omega)
        have HOV := Lib.hid hov
        have hbad : Hid (tooShort (fr, mc, er) mi d = decide (overI (fr, mc, er) mi d < -er * 10000)) := rfl
        clear hov
        generalize overI (fr, mc, er) mi d = ov at HOV hbad
        go_upto_region 3 with fail
        go_cut [43] (fun v wx => v = .bool (decide (ov < -er * 10000)) ∧ Below wr.heap.size wr wx)
        case first =>
          go_region_held3 (fun w' => w'.cell? ⟨P, 0, none⟩ = some (.int .i64 lo') ∧ w'.cell? ⟨P, 1, none⟩ = some (.int .i64 d) ∧ w'.cell? ⟨S, 1, none⟩ = some (.int .i64 mi) ∧ w'.cell? ⟨L, 0, none⟩ = some (.int .i64 fr) ∧ w'.cell? ⟨L, 1, none⟩ = some (.int .i64 mc) ∧ w'.cell? ⟨L, 2, none⟩ = some (.int .i64 er)) (go_keep) (first | (go_at_call 71; refine (HOV.out _).mono ?_; rintro e w' ⟨rfl, rfl⟩))
          all_goals go_wp2_with fail
          all_goals go_meet
          all_goals exact ⟨rfl, (B_alloc (Below.refl _ _) _).drew⟩
        case rest =>
          obtain ⟨rfl, hb⟩ := hcut
          have k0w : wc.cell? ⟨P, 0, none⟩ = some (.int .i64 lo') := (hb.cell (p := ⟨P, 0, none⟩) hPw).trans k0
          have k1w : wc.cell? ⟨P, 1, none⟩ = some (.int .i64 d) := (hb.cell (p := ⟨P, 1, none⟩) hPw).trans k1
          have f0w : wc.frozen? ⟨P, 0, none⟩ = false := (hb.frozen (p := ⟨P, 0, none⟩) hPw).trans f0
          have f1w : wc.frozen? ⟨P, 1, none⟩ = false := (hb.frozen (p := ⟨P, 1, none⟩) hPw).trans f1
          have hgc : W0.grownBy wc (some P) := only_trans hg ⟨hb.os, hb.tape, hb.output, hb.size, fun i hi' _ => hb.block i hi'⟩
          clear k0 k1 f0 f1 L0 L1 L2 S1 HOV
          by_cases hov : ov < -er * 10000
          · have hst : Hid (hi' = fall (tooShort (fr, mc, er) mi) (502 - (hi - (d - 1)).toNat) lo' (d - 1)) := by
              rw [Hid, hcl.out, fall_step hch (by rw [hbad.out]; simpa using hov) (by omega)]
              congr 1; omega
            have hpp : P < wc.heap.size := by have := hb.size; omega
            clear hcl hbad
            go_wp2
            go_roundg (d - 1 + 1).toNat
            case measure => omega
            case rel =>
              exact ⟨d - 1, rfl, by omega, by omega, set_other (by decide) k0w, set_same k1w, set_frozen f0w, set_frozen f1w, only_setCell hgc rfl _, hst⟩
          · have hst : Hid (hi' = d) := by rw [Hid, hcl.out, fall_end (.inr (by rw [hbad.out]; simpa using hov))]
            clear hcl hbad
            go_wp2
            go_ret
            exact ⟨ret_bool (by rw [hst.out]; simp [hch]), by rw [hst.out]; exact ⟨k0w, k1w, f0w, f1w, only_trans g0 hgc⟩⟩
      · have hst : Hid (hi' = d) := by rw [Hid, hcl.out, fall_end (.inl (by omega))]
        have hdd : decide (lo' ≤ d) = false := by simpa using hch
        clear hcl
        go_wp2_with fail
        go_quiet (fail)
        go_wp2
        go_ret
        exact ⟨ret_bool (by rw [hst.out]; exact hdd.symm), by rw [hst.out]; exact ⟨k0, k1, f0, f1, only_trans g0 (only_drewN hg _)⟩⟩

/-- The span that the first k lengths leave. -/
def shr (mi : Int) (ls : List T3) : Nat → Int × Int
  | 0 => (0, 500)
  | k + 1 => (narLo (ls.getD k (0, 0, 0)) mi (shr mi ls k).1 (shr mi ls k).2, narHi (ls.getD k (0, 0, 0)) mi (shr mi ls k).1 (shr mi ls k).2)
/-- What Shrink returns of n lengths, from the k-th on, if those before it agree. -/
def shrinkR (mi : Int) (ls : List T3) : Nat → Nat → Int × Int × Int
  | 0, k => ((shr mi ls k).1, (shr mi ls k).2, -1)
  | n + 1, k => if (shr mi ls (k + 1)).1 ≤ (shr mi ls (k + 1)).2 then shrinkR mi ls n (k + 1) else (0, 0, k)
def shrinkS (mi : Int) (ls : List T3) (n : Nat) : Int × Int × Int := shrinkR mi ls n 0

theorem climb_ge {bad : Int → Bool} : ∀ (n : Nat) (lo hi : Int), lo ≤ climb bad n lo hi
  | 0, lo, hi => Int.le_refl _
  | n + 1, lo, hi => by
    unfold climb
    split
    · have := climb_ge (bad := bad) n (lo + 1) hi; omega
    · exact Int.le_refl _
theorem fall_le {bad : Int → Bool} : ∀ (n : Nat) (lo hi : Int), fall bad n lo hi ≤ hi
  | 0, lo, hi => Int.le_refl _
  | n + 1, lo, hi => by
    unfold fall
    split
    · have := fall_le (bad := bad) n lo (hi - 1); omega
    · exact Int.le_refl _
theorem shr_bd (mi : Int) (ls : List T3) : ∀ k, 0 ≤ (shr mi ls k).1 ∧ (shr mi ls k).2 ≤ 500
  | 0 => ⟨Int.le_refl _, Int.le_refl _⟩
  | k + 1 => by
    obtain ⟨h1, h2⟩ := shr_bd mi ls k
    exact ⟨Int.le_trans h1 (climb_ge _ _ _), Int.le_trans (fall_le _ _ _) h2⟩

theorem Valid.leng {r : RA} {ms : List T3} {ss : List T2} {ls : List T3} (h : Valid r ms ss ls) {i : Nat} (hi : i < r.ln) :
    (1 ≤ (ls.getD i (0, 0, 0)).1 ∧ (ls.getD i (0, 0, 0)).1 ≤ r.f) ∧ (1 ≤ (ls.getD i (0, 0, 0)).2.1 ∧ (ls.getD i (0, 0, 0)).2.1 ≤ 400000000) ∧ (0 ≤ (ls.getD i (0, 0, 0)).2.2 ∧ (ls.getD i (0, 0, 0)).2.2 ≤ 400000000) := by
  have := h.l i hi
  unfold lenE at this
  by_cases a : (inB (ls.getD i (0, 0, 0)).1 1 r.f && inB (ls.getD i (0, 0, 0)).2.1 1 400000000 && inB (ls.getD i (0, 0, 0)).2.2 0 400000000) = true
  · simp [inB] at a
    exact ⟨by simpa using a.1.1, by simpa using a.1.2, by simpa using a.2⟩
  · rw [if_neg a] at this; cases this

theorem shrink_ret {S : Int × Int × Int} {a b c : Int} (h : S = (a, b, c)) : Ending.returned (.tuple #[.agg #[.int .i64 a, .int .i64 b], .int .i64 c, .int .i64 0]) = .returned (.tuple #[.agg #[.int .i64 S.1, .int .i64 S.2.1], .int .i64 S.2.2, .int .i64 0]) := by rw [h]

theorem ent69 : ∀ args w, (callFunc 70 args).run Tryz.prog w = .ok (.enter 70 args) w := enters_of Tryz.func70 (by kernel_rfl) rfl

set_option maxHeartbeats 2000000 in
set_option maxRecDepth 100000 in
theorem shrink_yes (r : RA) (ms : List T3) (ss : List T2) (ls : List T3) (w : World) (G : Glob w) (hR : Reads w r ms ss ls) (h0 : (checkS r ms ss ls).2.2 = 0) :
    Calls Tryz.prog 34 #[.agg r.cs] w fun e w' => e = .returned (.tuple #[.agg #[.int .i64 (shrinkS (microI r.g) ls r.ln).1, .int .i64 (shrinkS (microI r.g) ls r.ln).2.1], .int .i64 (shrinkS (microI r.g) ls r.ln).2.2, .int .i64 0]) ∧ Below w.heap.size w w' := by
  have hV := valid_of h0
  obtain ⟨f, mi, hg⟩ := hV.gauge
  obtain ⟨hf1, hf2, hm1, hm2, -⟩ := hg.bd
  obtain ⟨hfo, hmi⟩ := hg.foot
  have hbl : Below w.heap.size w ((w.alloc (.cells r.cs 30)).alloc (.cells #[.int .i64 0, .int .i64 0] 25)) := B_alloc (B_alloc (Below.refl _ _) _) _
  have HC := check_any r ms ss ls _ ((G.alloc (.cells r.cs 30)).alloc (.cells #[.int .i64 0, .int .i64 0] 25)) (hR.below hbl)
  have HS := fun (W : World) (h : Glob W) => stockOf_yes r.g f mi W h hg
  have hln := hV.ln
  have HVa := Lib.hid hV
  rw [hmi]
  rw [h0] at HC
  generalize (checkS r ms ss ls).1 = p1 at HC
  generalize (checkS r ms ss ls).2.1 = p2 at HC
  replace HC := Lib.hid HC
  replace HS := Lib.hid HS
  clear h0 hfo hmi hV hg
  go_enter Tryz.func34, Tryz.ntmps34
  go_wp2_with (first
    | (go_at_call 19; refine HC.out.mono ?_; rintro e w1 ⟨rfl, hb1⟩; obtain ⟨hc1, hf1'⟩ := bcell hb1; have hz1 : w.heap.size + 1 < w1.heap.size := (by have := hb1.size; simp at this; omega); have hz1' : w.heap.size < w1.heap.size := (by omega))
    | (go_at_call 56; refine (HS.out _ (((G.alloc _).alloc _).below ((G.alloc _).alloc _).hz hb1)).mono ?_; rintro e w2 ⟨rfl, hb2⟩; obtain ⟨hc2, hf2'⟩ := bcell hb2; have hz2 : w.heap.size + 1 < w2.heap.size := (by have := hb2.size; omega); have hz2' : w.heap.size < w2.heap.size := (by omega)))
  obtain ⟨W0, hW0⟩ : ∃ W0, ((w2.setCell ⟨w.heap.size + 1, 0, none⟩ (.int .i64 0)).setCell ⟨w.heap.size + 1, 1, none⟩ (.int .i64 500)).alloc (.cells #[.int .i64 f, .int .i64 mi] 95) = W0 := ⟨_, rfl⟩
  have hbW1 : Below w.heap.size w w2 := B_trans (B_trans hbl hb1) hb2
  have hbW : Below w.heap.size w W0 := by
    rw [← hW0]
    exact ((hbW1.setCell (p := ⟨w.heap.size + 1, 0, none⟩) (by simp) _).setCell (p := ⟨w.heap.size + 1, 1, none⟩) (by simp) _).alloc (by simp [World.setCell]; omega) _
  have q0 : w2.cell? ⟨w.heap.size + 1, 0, none⟩ = some (.int .i64 0) := by
    rw [hc2 _ _ (by omega), hc1 _ _ (by simp), World.cell?_alloc_at _ _ _ _ (by simp)]; rfl
  have q1 : w2.cell? ⟨w.heap.size + 1, 1, none⟩ = some (.int .i64 0) := by
    rw [hc2 _ _ (by omega), hc1 _ _ (by simp), World.cell?_alloc_at _ _ _ _ (by simp)]; rfl
  have z0 : w2.frozen? ⟨w.heap.size + 1, 0, none⟩ = false := by
    rw [hf2' _ _ (by omega), hf1' _ _ (by simp)]; exact World.frozen?_alloc_at _ _ _ _ (by simp)
  have z1 : w2.frozen? ⟨w.heap.size + 1, 1, none⟩ = false := by
    rw [hf2' _ _ (by omega), hf1' _ _ (by simp)]; exact World.frozen?_alloc_at _ _ _ _ (by simp)
  have hsz2 : ((w2.setCell ⟨w.heap.size + 1, 0, none⟩ (.int .i64 0)).setCell ⟨w.heap.size + 1, 1, none⟩ (.int .i64 500)).heap.size = w2.heap.size := by simp [World.setCell]
  have k0 : W0.cell? ⟨w.heap.size + 1, 0, none⟩ = some (.int .i64 0) := by
    rw [← hW0, alloc_old _ _ _ _ (by rw [hsz2]; exact hz2)]; exact set_other (by decide) (set_same q0)
  have k1 : W0.cell? ⟨w.heap.size + 1, 1, none⟩ = some (.int .i64 500) := by
    rw [← hW0, alloc_old _ _ _ _ (by rw [hsz2]; exact hz2)]; exact set_same (set_other (by decide) q1)
  have y0 : W0.frozen? ⟨w.heap.size + 1, 0, none⟩ = false := by
    rw [← hW0, (B_alloc (Below.refl _ _) _).frozen (p := ⟨w.heap.size + 1, 0, none⟩) (by rw [hsz2]; exact hz2)]; exact set_frozen (set_frozen z0)
  have y1 : W0.frozen? ⟨w.heap.size + 1, 1, none⟩ = false := by
    rw [← hW0, (B_alloc (Below.refl _ _) _).frozen (p := ⟨w.heap.size + 1, 1, none⟩) (by rw [hsz2]; exact hz2)]; exact set_frozen (set_frozen z1)
  have hS1 : W0.cell? ⟨w2.heap.size, 1, none⟩ = some (.int .i64 mi) := by
    rw [← hW0, World.cell?_alloc_at _ _ _ _ hsz2.symm]; rfl
  have hSl : w2.heap.size < W0.heap.size := by rw [← hW0]; simp [World.setCell]
  have hR0 := Lib.hid (hR.below hbW)
  rw [hW0]
  have hPS : w.heap.size + 1 ≠ w2.heap.size := by omega
  have hPl : w.heap.size + 1 < W0.heap.size := by omega
  generalize w2.heap.size = S at hS1 hSl hPS ⊢
  generalize hBB : w.heap.size = B at k0 k1 y0 y1 hPl hPS ⊢
  have HB := Lib.hid hBB
  clear hBB hW0 hb1 hb2 hc1 hc2 hf1' hf2' HC HS q0 q1 z0 z1 hsz2 hz1 hz1' hz2 hz2' hbW1 hbl
  have HS1 := Lib.hid hS1
  clear hS1
  go_loopg [11, 12, 34] r.ln (fun gk x y i wr => ∃ k : Nat, gk = r.ln - k ∧ k ≤ r.ln ∧ i = .int .i64 k ∧ wr.cell? ⟨B + 1, 0, none⟩ = some (.int .i64 (shr mi ls k).1) ∧ wr.cell? ⟨B + 1, 1, none⟩ = some (.int .i64 (shr mi ls k).2) ∧ wr.frozen? ⟨B + 1, 0, none⟩ = false ∧ wr.frozen? ⟨B + 1, 1, none⟩ = false ∧ W0.grownBy wr (some (B + 1)) ∧ (shr mi ls k).1 ≤ (shr mi ls k).2 ∧ Hid (shrinkS mi ls r.ln = shrinkR mi ls (r.ln - k) k))
  case atStart => exact ⟨0, rfl, Nat.zero_le _, rfl, k0, k1, y0, y1, only_refl _ _, by simp [shr], rfl⟩
  case round =>
    clear k0 k1 y0 y1
    obtain ⟨k, rfl, hk, rfl, k0, k1, f0, f1, hgr, hle, hst⟩ := hrel
    have hzw := hgr.size
    by_cases hlt : k < r.ln
    · obtain ⟨b, o, hla, hbs, hcells⟩ := hR.l.at_ (by omega)
      obtain ⟨x0c, x1c, x2c⟩ := hcells k hlt
      obtain ⟨⟨x0l, x0h⟩, ⟨x1l, x1h⟩, ⟨x2l, x2h⟩⟩ := HVa.out.leng hlt
      obtain ⟨-, -, -, ⟨hrf1, hrf2⟩, -⟩ := wholeE_ok HVa.out.whole
      have hBB := HB.out
      have hcw : ∀ off, wr.cell? ⟨b, off, none⟩ = w.cell? ⟨b, off, none⟩ := fun off => (only_cell hgr (by have := hbW.size; omega) (by omega)).trans (hbW.cell (p := ⟨b, off, none⟩) hbs)
      rw [← hcw] at x0c x1c x2c
      have hbd := shr_bd mi ls k
      have hs1 : wr.cell? ⟨S, 1, none⟩ = some (.int .i64 mi) := (only_cell hgr hSl (fun e => hPS e.symm)).trans HS1.out
      have hla' : r.la = some ⟨b, o, none⟩ := hla
      have hbw : b < wr.heap.size := by have := hbW.size; omega
      have e1 : (shr mi ls (k + 1)).1 = narLo (ls.getD k (0, 0, 0)) mi (shr mi ls k).1 (shr mi ls k).2 := rfl
      have e2 : (shr mi ls (k + 1)).2 = narHi (ls.getD k (0, 0, 0)) mi (shr mi ls k).1 (shr mi ls k).2 := rfl
      have e3 : shrinkR mi ls (r.ln - k) k = if (shr mi ls (k + 1)).1 ≤ (shr mi ls (k + 1)).2 then shrinkR mi ls (r.ln - (k + 1)) (k + 1) else (0, 0, k) := by
        obtain ⟨n, hn⟩ : ∃ n, r.ln - k = n + 1 := ⟨r.ln - k - 1, by omega⟩
        have : r.ln - (k + 1) = n := by omega
        rw [hn, this]; rfl
      have hst' := Lib.hid (hst.out.trans e3)
      have E12 := Lib.hid (And.intro e1 e2)
      generalize ls.getD k (0, 0, 0) = x at x0c x1c x2c x0l x0h x1l x1h x2l x2h E12
      obtain ⟨x0, x1, x2⟩ := x
      simp only at x0c x1c x2c x0l x0h x1l x1h x2l x2h
      have hal := B_alloc (Below.refl wr.heap.size wr) (.cells #[.int .i64 x0, .int .i64 x1, .int .i64 x2] 81)
      have hc := narrow_any x0 x1 x2 mi (shr mi ls k).1 (shr mi ls k).2 (B + 1) S (wr.alloc (.cells #[.int .i64 x0, .int .i64 x1, .int .i64 x2] 81)) (by omega) (by omega) (by omega) x1h x2l x2h hm1 hm2 hbd.1 hle hbd.2
        (by simp; omega) (by simp; omega) (by omega) ((hal.cell (p := ⟨B + 1, 0, none⟩) (by show B + 1 < _; omega)).trans k0) ((hal.cell (p := ⟨B + 1, 1, none⟩) (by show B + 1 < _; omega)).trans k1)
        ((hal.frozen (p := ⟨B + 1, 0, none⟩) (by show B + 1 < _; omega)).trans f0) ((hal.frozen (p := ⟨B + 1, 1, none⟩) (by show B + 1 < _; omega)).trans f1) ((hal.cell (p := ⟨S, 1, none⟩) (by show S < _; omega)).trans hs1)
      rw [← E12.out.1, ← E12.out.2] at hc
      have HC := Lib.hid hc
      have hk1 : ((k : Int) + 1) = ((k + 1 : Nat) : Int) := by omega
      have hBw : B + 1 < wr.heap.size := by omega
      have hSw : S < wr.heap.size := by omega
      clear hc hcw e1 e2 e3 hst hbd hal hs1 hcells hla E12 hBB hk1
      by_cases hq : (shr mi ls (k + 1)).1 ≤ (shr mi ls (k + 1)).2
      · have hst2 : Hid (shrinkS mi ls r.ln = shrinkR mi ls (r.ln - (k + 1)) (k + 1)) := by rw [Hid, hst'.out, if_pos hq]
        clear hst'
        generalize hqq : shr mi ls (k + 1) = q at HC hq
        have HQ := Lib.hid hqq
        clear hqq
        have hqd : decide (q.1 ≤ q.2) = true := by simpa using hq
        go_wp2_with (go_at_call 70; refine HC.out.mono ?_; rintro e w3 ⟨rfl, hn⟩)
        rw [← hla']
        clear hla'
        go_roundg (r.ln - (k + 1))
        case measure => omega
        case rel => exact ⟨k + 1, rfl, by omega, by go_num, by rw [HQ.out]; exact hn.lo, by rw [HQ.out]; exact hn.hi, hn.f0, hn.f1, only_trans (only_alloc hgr _) hn.only, by rw [HQ.out]; exact hq, hst2⟩
      · have hfin : shrinkS mi ls r.ln = (0, 0, (k : Int)) := by rw [hst'.out, if_neg hq]
        have Hfin := Lib.hid (shrink_ret hfin)
        clear hst' hfin
        generalize shr mi ls (k + 1) = q at HC hq
        have hqd : decide (q.1 ≤ q.2) = false := by simpa using hq
        have hq' : q.2 < q.1 := by omega
        go_wp2_with (go_at_call 70; refine HC.out.mono ?_; rintro e w3 ⟨rfl, hn⟩; have n1 := hn.lo; have n2 := hn.hi; have n3 := hn.f0; have n4 := hn.f1; have Hn := Lib.hid hn; clear hn)
        refine bodyPost_ret (v := .tuple #[.agg #[.int .i64 0, .int .i64 0], .int .i64 (k : Int), .int .i64 0]) (by simp [results, Tryz.results34, go_sem, n1, n2]) rfl ⟨Hfin.out, ?_⟩
        have hbf : Below w.heap.size w w3 := hbW.grown (only_trans (only_alloc hgr _) Hn.out.only) hbW.size (fun k' e => by have := HB.out; cases e; omega)
        have := HB.out
        exact (hbf.setCell (by show w.heap.size ≤ B + 1; omega) _).setCell (by show w.heap.size ≤ B + 1; omega) _
    · have hk1 : k = r.ln := by omega
      have hfin : shrinkS mi ls r.ln = ((shr mi ls k).1, (shr mi ls k).2, -1) := by rw [hst.out, hk1, Nat.sub_self]; rfl
      have Hfin := Lib.hid (shrink_ret hfin)
      clear hfin hst hk1
      have hbf : Below w.heap.size w wr := hbW.grown hgr hbW.size (fun k' e => by have := HB.out; cases e; omega)
      go_wp2
      refine bodyPost_ret (v := .tuple #[.agg #[.int .i64 _, .int .i64 _], .int .i64 (-1), .int .i64 0]) (by simp [results, Tryz.results34, go_sem, k0, k1]) rfl ⟨Hfin.out, ?_⟩
      have := HB.out
      exact (hbf.setCell (by show w.heap.size ≤ B + 1; omega) _).setCell (by show w.heap.size ≤ B + 1; omega) _

theorem shrink_no (r : RA) (ms : List T3) (ss : List T2) (ls : List T3) (w : World) (G : Glob w) (hR : Reads w r ms ss ls) (h0 : (checkS r ms ss ls).2.2 ≠ 0) :
    Calls Tryz.prog 34 #[.agg r.cs] w fun e w' => e = .returned (.tuple #[.agg #[.int .i64 0, .int .i64 0], .int .i64 0, .int .i64 (checkS r ms ss ls).2.2]) ∧ Below w.heap.size w w' := by
  have hbl : Below w.heap.size w ((w.alloc (.cells r.cs 30)).alloc (.cells #[.int .i64 0, .int .i64 0] 25)) := B_alloc (B_alloc (Below.refl _ _) _) _
  have HC := check_any r ms ss ls _ ((G.alloc (.cells r.cs 30)).alloc (.cells #[.int .i64 0, .int .i64 0] 25)) (hR.below hbl)
  have hb0 : ((checkS r ms ss ls).2.2 != 0) = true := by simp [h0]
  generalize (checkS r ms ss ls).2.2 = p0 at HC h0 hb0 ⊢
  generalize (checkS r ms ss ls).1 = p1 at HC
  generalize (checkS r ms ss ls).2.1 = p2 at HC
  replace HC := Lib.hid HC
  clear h0
  go_enter Tryz.func34, Tryz.ntmps34
  go_wp2_with (go_at_call 19; refine HC.out.mono ?_; rintro e w1 ⟨rfl, hb1⟩; obtain ⟨hc1, hf1'⟩ := bcell hb1)
  refine bodyPost_ret (v := .tuple #[.agg #[.int .i64 0, .int .i64 0], .int .i64 0, .int .i64 p0]) (by simp [results, Tryz.results34, go_sem, hc1]) rfl ⟨rfl, ?_⟩
  exact ((B_trans hbl hb1).setCell (by simp) _).setCell (by simp) _
end Go.Proofs.YtgjpbffoalldkaaGreatDoor

/- inOrder. -/
import Derived.Test.YtanjkhclhcnnaaaYI
import Derived.Test.YtanjkhclhcnnaaaYC
namespace Go.Proofs.Ytanjkhclhcnnaaa
open Go.RowKit Go.Shelf

theorem reached1_any (d g e : Int) (w : World) : Calls Try.prog 108 #[.agg #[.int .i64 d, .int .i64 g, .int .i64 e]] w fun e' w' => e' = .returned (.int .i64 d) ∧ Below w.heap.size w w' := by
  go_enter Try.func108, Try.ntmps108
  go_wp2
  go_ret
  exact ⟨rfl, B_alloc (Below.refl _ _) _⟩

def dayOf (ts : List T3) (i : Nat) : Int := (ts.getD i (0, 0, 0)).1
theorem last9 {a b c d e f g h i : Prop} (x : a ∧ b ∧ c ∧ d ∧ e ∧ f ∧ g ∧ h ∧ i) : i := x.2.2.2.2.2.2.2.2

set_option maxRecDepth 100000 in
set_option maxHeartbeats 8000000 in
theorem inOrder1_any (ts : List T3) (ta : Option Addr) (tn tc Bn Bl a b : Nat) (w : World) (hT : Sl3 w ta tn ts) (htn : tn ≤ 1000) (ha : a < tn) (hb : b < tn)
    (hn : w.cell? ⟨Bn, 0, none⟩ = some (.func (.func 108) #[] #[])) (hl : w.cell? ⟨Bl, 0, none⟩ = some (.slice ta tn tc)) (hnB : Bn < w.heap.size) (hlB : Bl < w.heap.size) :
    Calls Try.prog 120 #[.int .i64 a, .int .i64 b, .pointer (some ⟨Bn, 0, none⟩), .pointer (some ⟨Bl, 0, none⟩)] w fun e w' => e = .returned (.int .i64 (cmpN (dayOf ts a) (dayOf ts b))) ∧ Below w.heap.size w w' := by
  obtain ⟨p, o, hta, hps, hc⟩ := hT.at_ (by omega)
  have hca := Lib.hid (hc a ha)
  have hcb := Lib.hid (hc b hb)
  clear hc hT
  subst hta
  unfold dayOf
  generalize ts.getD a (0, 0, 0) = x at hca ⊢
  generalize ts.getD b (0, 0, 0) = y at hcb ⊢
  obtain ⟨x0, x1, x2⟩ := x
  obtain ⟨y0, y1, y2⟩ := y
  simp only
  have HA := Lib.hid (fun W (h : Below w.heap.size w W) => (show W.cell? ⟨Bn, 0, none⟩ = some (.func (.func 108) #[] #[]) ∧ W.cell? ⟨Bl, 0, none⟩ = some (.slice (some ⟨p, o, none⟩) tn tc) ∧ W.cell? ⟨p, o + a * 3, none⟩ = some (.int .i64 x0) ∧ W.cell? ⟨p, o + a * 3 + 1, none⟩ = some (.int .i64 x1) ∧ W.cell? ⟨p, o + a * 3 + 2, none⟩ = some (.int .i64 x2) ∧ W.cell? ⟨p, o + b * 3, none⟩ = some (.int .i64 y0) ∧ W.cell? ⟨p, o + b * 3 + 1, none⟩ = some (.int .i64 y1) ∧ W.cell? ⟨p, o + b * 3 + 2, none⟩ = some (.int .i64 y2) ∧ Below w.heap.size w W from
    ⟨(h.cell (p := ⟨Bn, 0, none⟩) hnB).trans hn, (h.cell (p := ⟨Bl, 0, none⟩) hlB).trans hl, (h.cell (p := ⟨p, _, none⟩) hps).trans hca.out.1, (h.cell (p := ⟨p, _, none⟩) hps).trans hca.out.2.1, (h.cell (p := ⟨p, _, none⟩) hps).trans hca.out.2.2, (h.cell (p := ⟨p, _, none⟩) hps).trans hcb.out.1, (h.cell (p := ⟨p, _, none⟩) hps).trans hcb.out.2.1, (h.cell (p := ⟨p, _, none⟩) hps).trans hcb.out.2.2, h⟩))
  have H1 := Lib.hid (reached1_any x0 x1 x2)
  have H2 := Lib.hid (reached1_any y0 y1 y2)
  have H3 := Lib.hid (compare_any x0 y0)
  have a1 : (0 : Int) ≤ a := by omega
  have a2 : (a : Int) < tn := by omega
  have b1 : (0 : Int) ≤ b := by omega
  have b2 : (b : Int) < tn := by omega
  have hw := Lib.hid (Below.refl w.heap.size w)
  clear hca hcb hn hl
  go_enter Try.func120, Try.ntmps120
  go_wp2
  go_region_held3 (fun W => W.cell? ⟨Bn, 0, none⟩ = some (.func (.func 108) #[] #[]) ∧ W.cell? ⟨Bl, 0, none⟩ = some (.slice (some ⟨p, o, none⟩) tn tc) ∧ W.cell? ⟨p, o + a * 3, none⟩ = some (.int .i64 x0) ∧ W.cell? ⟨p, o + a * 3 + 1, none⟩ = some (.int .i64 x1) ∧ W.cell? ⟨p, o + a * 3 + 2, none⟩ = some (.int .i64 x2) ∧ W.cell? ⟨p, o + b * 3, none⟩ = some (.int .i64 y0) ∧ W.cell? ⟨p, o + b * 3 + 1, none⟩ = some (.int .i64 y1) ∧ W.cell? ⟨p, o + b * 3 + 2, none⟩ = some (.int .i64 y2) ∧ Below w.heap.size w W) (first | assumption | exact HA.out _ hw.out.drew | exact HA.out _ (B_trans (last9 (by assumption)) (by assumption))) (first | (go_at_call 108; ((with_reducible refine (H1.out _).mono ?_); rintro e w1 ⟨rfl, hb1⟩)) | (go_at_call 108; ((with_reducible refine (H2.out _).mono ?_); rintro e w1 ⟨rfl, hb1⟩)) | (go_at_call 121; ((with_reducible refine (H3.out _).mono ?_); rintro e w1 ⟨rfl, rfl⟩)))
  go_wp2_with fail
  go_ret
  exact ⟨rfl, last9 (by assumption)⟩

theorem below_only {B g : Nat} {a w W : World} (h : Below B a w) (hg : w.grownBy W (some g)) (hB : B ≤ g) (hs : B ≤ a.heap.size := by exact Nat.le_refl _) : Below B a W :=
  ⟨hg.os.trans h.os, hg.tape.trans h.tape, hg.output.trans h.output, Nat.le_trans h.size hg.size, fun i hi => (hg.block i (by have := h.size; omega) (by simp; omega)).trans (h.block i hi)⟩
def fillL (k n : Nat) : List Nat := List.range k ++ List.replicate (n - k) 0
theorem fillL_len {k n : Nat} (h : k ≤ n) : (fillL k n).length = n := by simp [fillL]; omega
theorem fillL_zero (n : Nat) : cellsN (fillL 0 n) = Array.replicate n (.int .i64 0) := by
  simp [fillL, cellsN]
theorem fillL_full (n : Nat) : fillL n n = List.range n := by simp [fillL]
theorem fillL_step {k n : Nat} (h : k < n) : (cellsN (fillL k n)).setIfInBounds k (.int .i64 (k : Nat)) = cellsN (fillL (k + 1) n) := by
  unfold fillL
  rw [show n - k = (n - (k + 1)) + 1 by omega, List.replicate_succ, List.range_succ]
  simp [cellsN]
def orderL (ts : List T3) (n : Nat) : List Nat := isortL (fun a b => decide (cmpN (dayOf ts a) (dayOf ts b) < 0)) (List.range n) (n - 1)

set_option maxRecDepth 100000 in
set_option maxHeartbeats 8000000 in
theorem inOrder_any (ts : List T3) (ta : Option Addr) (tn tc : Nat) (w : World) (hT : Sl3 w ta tn ts) (htn : tn ≤ 20) :
    Calls Try.prog 107 #[.slice ta tn tc, .func (.func 108) #[] #[]] w fun e w' => ∃ g, e = .returned (.slice (some ⟨g, 0, none⟩) tn tn) ∧ w.heap.size ≤ g ∧ Ob w' g 3 (cellsN (orderL ts tn)) ∧ Below w.heap.size w w' := by
  have b2 : (tn : Int) ≤ 20 := by omega
  have hmade : madeCells #[.int .i64 0] tn = cellsN (fillL 0 tn) := by
    rw [fillL_zero]
    apply Array.ext
    · simp [madeCells]
    · intro i h1 h2
      simp [madeCells, Nat.mod_one]
  have hmk : ∀ u : World, (Instr.makeSlice 46 (.int .i64 tn) (.int .i64 tn)).run Try.prog u = .ok (.slice (some ⟨u.heap.size, 0, none⟩) tn tn) (u.alloc (.cells (cellsN (fillL 0 tn)) 3)) := fun u => by
    have := run_makeSlice (P := Try.prog) u 46 3 Try.t3 (.int .i64 0) Try.underlying46 (by kernel_rfl) (by kernel_rfl) .i64 .i64 tn tn (by omega) (Int.le_refl _) (by show (tn : Int).toNat * 1 ≤ _; omega) (by show ((8 : Nat) : Int) * tn ≤ _; omega) (by omega)
    rw [← hmade]
    simpa [show Try.t3.size = 1 from rfl, Value.cells] using this
  clear hmade
  go_enter Try.func107, Try.ntmps107
  go_wp2
  have hO0 := Lib.hid (Ob.new ((w.alloc (.cells #[.slice ta tn tc] 29)).alloc (.cells #[.func (.func 108) #[] #[]] 145)) (cellsN (fillL 0 tn)) 3)
  go_loopg [6, 12] tn (fun gk a i wr => ∃ k : Nat, gk = tn - k ∧ i = .int .i64 k ∧ k ≤ tn ∧ Ob wr (w.heap.size + 1 + 1) 3 (cellsN (fillL k tn)) ∧ Below w.heap.size w wr ∧ Ob wr w.heap.size 29 #[.slice ta tn tc] ∧ Ob wr (w.heap.size + 1) 145 #[.func (.func 108) #[] #[]])
  case atStart =>
    refine ⟨0, by omega, rfl, Nat.zero_le _, by simpa using hO0.out, B_alloc (B_alloc (B_alloc (Below.refl _ _) _) _) _, ?_, ?_⟩
    · exact ((Ob.new w _ _).alloc _).alloc _
    · simpa using (Ob.new (w.alloc (.cells #[.slice ta tn tc] 29)) #[.func (.func 108) #[] #[]] 145).alloc (.cells (cellsN (fillL 0 tn)) 3)
  case round =>
    obtain ⟨k, hgk, rfl, hk, hO, hB, c1, c2⟩ := hrel
    by_cases hlt : k < tn
    · have h1 : (k : Int) < tn := by omega
      have h0 : (0 : Int) ≤ k := by omega
      have hst := Lib.hid (fillL_step hlt)
      have hfr := hO.frozen k
      have hce := (hO.cell k).trans (cellsN_at (by rw [fillL_len hk]; exact hlt))
      replace hO := Lib.hid hO
      replace hB := Lib.hid hB
      replace c1 := Lib.hid c1
      replace c2 := Lib.hid c2
      go_wp2
      go_roundg (tn - (k + 1))
      case measure => omega
      case rel =>
        refine ⟨k + 1, rfl, by push_cast; rfl, hlt, ?_, hB.out.setCell (by simp; omega) _, ?_, ?_⟩
        · rw [← hst.out]; exact hO.out.set _ _
        · exact c1.out.other (by simp; omega) _
        · exact c2.out.other (by simp) _
    · obtain rfl : k = tn := by omega
      have h1 : ¬ (k : Int) < k := by omega
      rw [fillL_full] at hO
      have S := Lib.hid (fun (W : World) (h : Below w.heap.size w W) => hT.below h)
      have H1 := Lib.hid (sortStable_any 120 #[.pointer (some ⟨w.heap.size + 1, 0, none⟩), .pointer (some ⟨w.heap.size, 0, none⟩)] (fun a b => cmpN (dayOf ts a) (dayOf ts b)) (w.heap.size + 1 + 1) k k (List.range k) wr htn (by simp) (by simp) hO (fun _ _ => rfl) (fun a b W ha hb hg => by
        have hbW := below_only hB hg (by omega)
        have o1 := c1.grown hg (by simp; omega)
        have o2 := c2.grown hg (by simp)
        exact inOrder1_any ts ta k tc (w.heap.size + 1) w.heap.size a b W (S.out _ hbW) (by omega) ha hb (o2.cell 0) (o1.cell 0) o2.lt o1.lt))
      replace hO := Lib.hid hO
      replace hB := Lib.hid hB
      clear c1 c2
      go_wp2_with (go_at_call 119; ((with_reducible refine (H1.out).mono ?_); rintro e w1 ⟨rfl, hR', hg'⟩; have hR := Lib.hid hR'; have hg := Lib.hid hg'; clear hR' hg'))
      go_ret
      exact ⟨_, rfl, by omega, hR.out, below_only hB.out hg.out (by omega)⟩
end Go.Proofs.Ytanjkhclhcnnaaa

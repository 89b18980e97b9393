/- The walks of what compares: SameGaps and Ints of lists that are equal; the reel of the examples; Place of a frame that is none. -/
import Derived.Test.YtgjpbffoalldkaaGreatDoorWI
import Derived.Test.YtgjpbffoalldkaaGreatDoorWE
import Derived.Deep.LoopGhost
namespace Go.Proofs.YtgjpbffoalldkaaGreatDoor
open Go.RowKit

set_option maxHeartbeats 1000000 in
set_option maxRecDepth 100000 in
theorem ints_same (a b : Option Addr) (n c d : Nat) (zs : List Int) (w : World) (hn : n ≤ 100000) (ha : Ints w a n zs) (hb : Ints w b n zs) :
    Calls Tryz.prog 28 #[.slice a n c, .slice b n d] w fun e w' => e = .returned (.bool true) ∧ Below w.heap.size w w' := by
  have Ha := Lib.hid ha
  have Hb := Lib.hid hb
  clear ha hb
  go_enter Tryz.func28, Tryz.ntmps28
  go_wp2
  go_loopg [5] n (fun gk i wr => ∃ k : Nat, gk = n - k ∧ k ≤ n ∧ i = .int .i64 k ∧ Below w.heap.size w wr)
  case atStart => exact ⟨0, rfl, Nat.zero_le _, rfl, Below.refl _ _⟩
  case round =>
    obtain ⟨k, rfl, hk, rfl, hbw⟩ := hrel
    by_cases hlt : k < n
    · obtain ⟨p, o, hab, hps, hcells⟩ := Ha.out.at_ (by omega)
      obtain ⟨p2, o2, hab2, hps2, hcells2⟩ := Hb.out.at_ (by omega)
      have c0 := (hbw.cell (p := ⟨p, o + k, none⟩) hps).trans (hcells k hlt)
      have c1 := (hbw.cell (p := ⟨p2, o2 + k, none⟩) hps2).trans (hcells2 k hlt)
      generalize zs.getD k 0 = z at c0 c1
      have hlt' : (k : Int) < n := by omega
      have hk0 : (0 : Int) ≤ k := by omega
      clear hcells hcells2
      go_wp2
      go_quiet (fail)
      go_wp2
      clear hab hab2
      go_roundg (n - (k + 1))
      case measure => omega
      case rel => exact ⟨k + 1, rfl, by omega, by go_num, B_drewN hbw _⟩
    · obtain rfl : k = n := by omega
      go_wp2
      go_ret
      exact ⟨rfl, hbw⟩

set_option maxHeartbeats 1000000 in
set_option maxRecDepth 100000 in
theorem gaps_same (a b : Option Addr) (n c d : Nat) (zs : List T3) (w : World) (hn : n ≤ 100000) (ha : Sl3 w a n zs) (hb : Sl3 w b n zs) :
    Calls Tryz.prog 27 #[.slice a n c, .slice b n d] w fun e w' => e = .returned (.bool true) ∧ Below w.heap.size w w' := by
  have Ha := Lib.hid ha
  have Hb := Lib.hid hb
  clear ha hb
  go_enter Tryz.func27, Tryz.ntmps27
  go_wp2
  go_loopg [5] n (fun gk i wr => ∃ k : Nat, gk = n - k ∧ k ≤ n ∧ i = .int .i64 k ∧ Below w.heap.size w wr)
  case atStart => exact ⟨0, rfl, Nat.zero_le _, rfl, Below.refl _ _⟩
  case round =>
    obtain ⟨k, rfl, hk, rfl, hbw⟩ := hrel
    by_cases hlt : k < n
    · obtain ⟨p, o, hab, hps, hcells⟩ := Ha.out.at_ (by omega)
      obtain ⟨p2, o2, hab2, hps2, hcells2⟩ := Hb.out.at_ (by omega)
      obtain ⟨a0, a1, a2⟩ := hcells k hlt
      obtain ⟨b0, b1, b2⟩ := hcells2 k hlt
      have c0 := (hbw.cell (p := ⟨p, o + k * 3, none⟩) hps).trans a0
      have c1 := (hbw.cell (p := ⟨p, o + k * 3 + 1, none⟩) hps).trans a1
      have c2 := (hbw.cell (p := ⟨p, o + k * 3 + 2, none⟩) hps).trans a2
      have d0 := (hbw.cell (p := ⟨p2, o2 + k * 3, none⟩) hps2).trans b0
      have d1 := (hbw.cell (p := ⟨p2, o2 + k * 3 + 1, none⟩) hps2).trans b1
      have d2 := (hbw.cell (p := ⟨p2, o2 + k * 3 + 2, none⟩) hps2).trans b2
      clear a0 a1 a2 b0 b1 b2
      generalize zs.getD k (0, 0, 0) = z at c0 c1 c2 d0 d1 d2
      obtain ⟨z0, z1, z2⟩ := z
      simp only at c0 c1 c2 d0 d1 d2
      have hlt' : (k : Int) < n := by omega
      have hk0 : (0 : Int) ≤ k := by omega
      clear hcells hcells2
      go_wp2
      go_quiet (fail)
      go_wp2
      clear hab hab2
      go_roundg (n - (k + 1))
      case measure => omega
      case rel => exact ⟨k + 1, rfl, by omega, by go_num, B_drewN hbw _⟩
    · obtain rfl : k = n := by omega
      go_wp2
      go_ret
      exact ⟨rfl, hbw⟩
/-- The reel of the examples, its slices at three blocks. -/
def reelR (B : Nat) : RA := ⟨⟨#[110, 97, 110, 97, 45, 50]⟩, 35, 1, 1000, 1925, 1940, 3, some ⟨B, 0, none⟩, 5, 5, some ⟨B + 1, 0, none⟩, 2, 2, some ⟨B + 2, 0, none⟩, 2, 2⟩
def reelM : List T3 := [(10, 4, 100), (42, 4, 102), (130, 4, 108), (200, 7, 30), (215, 7, 31)]
def reelS : List T2 := [(4, 12), (7, 10)]
def reelL : List T3 := [(100, 1891000, 1000), (200, 3780000, 2500)]

theorem reel_reads (V : World) (n : Nat) (h : V.heap.size = n) :
    Reads (((V.alloc (.cells #[.int .i64 10, .int .i64 4, .int .i64 100, .int .i64 42, .int .i64 4, .int .i64 102, .int .i64 130, .int .i64 4, .int .i64 108, .int .i64 200, .int .i64 7, .int .i64 30, .int .i64 215, .int .i64 7, .int .i64 31] 68)).alloc (.cells #[.int .i64 4, .int .i64 12, .int .i64 7, .int .i64 10] 74)).alloc (.cells #[.int .i64 100, .int .i64 1891000, .int .i64 1000, .int .i64 200, .int .i64 3780000, .int .i64 2500] 81)) (reelR n) reelM reelS reelL := by
  subst h
  have hm : ∀ j, (((V.alloc (.cells #[.int .i64 10, .int .i64 4, .int .i64 100, .int .i64 42, .int .i64 4, .int .i64 102, .int .i64 130, .int .i64 4, .int .i64 108, .int .i64 200, .int .i64 7, .int .i64 30, .int .i64 215, .int .i64 7, .int .i64 31] 68)).alloc (.cells #[.int .i64 4, .int .i64 12, .int .i64 7, .int .i64 10] 74)).alloc (.cells #[.int .i64 100, .int .i64 1891000, .int .i64 1000, .int .i64 200, .int .i64 3780000, .int .i64 2500] 81)).cell? ⟨V.heap.size, j, none⟩ = (#[.int .i64 10, .int .i64 4, .int .i64 100, .int .i64 42, .int .i64 4, .int .i64 102, .int .i64 130, .int .i64 4, .int .i64 108, .int .i64 200, .int .i64 7, .int .i64 30, .int .i64 215, .int .i64 7, .int .i64 31] : Array Value)[j]? := fun j => by
    rw [alloc_old _ _ _ _ (by simp; omega), alloc_old _ _ _ _ (by simp), World.cell?_alloc_at _ _ _ _ rfl]
  have hs : ∀ j, (((V.alloc (.cells #[.int .i64 10, .int .i64 4, .int .i64 100, .int .i64 42, .int .i64 4, .int .i64 102, .int .i64 130, .int .i64 4, .int .i64 108, .int .i64 200, .int .i64 7, .int .i64 30, .int .i64 215, .int .i64 7, .int .i64 31] 68)).alloc (.cells #[.int .i64 4, .int .i64 12, .int .i64 7, .int .i64 10] 74)).alloc (.cells #[.int .i64 100, .int .i64 1891000, .int .i64 1000, .int .i64 200, .int .i64 3780000, .int .i64 2500] 81)).cell? ⟨V.heap.size + 1, j, none⟩ = (#[.int .i64 4, .int .i64 12, .int .i64 7, .int .i64 10] : Array Value)[j]? := fun j => by
    rw [alloc_old _ _ _ _ (by simp), World.cell?_alloc_at _ _ _ _ (by simp)]
  have hl : ∀ j, (((V.alloc (.cells #[.int .i64 10, .int .i64 4, .int .i64 100, .int .i64 42, .int .i64 4, .int .i64 102, .int .i64 130, .int .i64 4, .int .i64 108, .int .i64 200, .int .i64 7, .int .i64 30, .int .i64 215, .int .i64 7, .int .i64 31] 68)).alloc (.cells #[.int .i64 4, .int .i64 12, .int .i64 7, .int .i64 10] 74)).alloc (.cells #[.int .i64 100, .int .i64 1891000, .int .i64 1000, .int .i64 200, .int .i64 3780000, .int .i64 2500] 81)).cell? ⟨V.heap.size + 2, j, none⟩ = (#[.int .i64 100, .int .i64 1891000, .int .i64 1000, .int .i64 200, .int .i64 3780000, .int .i64 2500] : Array Value)[j]? := fun j => by
    rw [World.cell?_alloc_at _ _ _ _ (by simp)]
  have hz : (((V.alloc (.cells #[.int .i64 10, .int .i64 4, .int .i64 100, .int .i64 42, .int .i64 4, .int .i64 102, .int .i64 130, .int .i64 4, .int .i64 108, .int .i64 200, .int .i64 7, .int .i64 30, .int .i64 215, .int .i64 7, .int .i64 31] 68)).alloc (.cells #[.int .i64 4, .int .i64 12, .int .i64 7, .int .i64 10] 74)).alloc (.cells #[.int .i64 100, .int .i64 1891000, .int .i64 1000, .int .i64 200, .int .i64 3780000, .int .i64 2500] 81)).heap.size = V.heap.size + 3 := by simp
  generalize (((V.alloc (.cells #[.int .i64 10, .int .i64 4, .int .i64 100, .int .i64 42, .int .i64 4, .int .i64 102, .int .i64 130, .int .i64 4, .int .i64 108, .int .i64 200, .int .i64 7, .int .i64 30, .int .i64 215, .int .i64 7, .int .i64 31] 68)).alloc (.cells #[.int .i64 4, .int .i64 12, .int .i64 7, .int .i64 10] 74)).alloc (.cells #[.int .i64 100, .int .i64 1891000, .int .i64 1000, .int .i64 200, .int .i64 3780000, .int .i64 2500] 81)) = W at hm hs hl hz ⊢
  refine ⟨by show 6 ≤ maxLen; decide, by show 5 ≤ _; decide, by show 2 ≤ _; decide, by show 2 ≤ _; decide, ⟨rfl, fun _ => ⟨_, _, rfl, by show V.heap.size < _; omega, fun i hi => ?_⟩⟩, ⟨rfl, fun _ => ⟨_, _, rfl, by show V.heap.size + 1 < _; omega, fun i hi => ?_⟩⟩, ⟨rfl, fun _ => ⟨_, _, rfl, by show V.heap.size + 2 < _; omega, fun i hi => ?_⟩⟩⟩
  · simp only [hm, Nat.zero_add]
    replace hi : i < 5 := hi
    obtain rfl | rfl | rfl | rfl | rfl : i = 0 ∨ i = 1 ∨ i = 2 ∨ i = 3 ∨ i = 4 := by omega
    all_goals exact ⟨rfl, rfl, rfl⟩
  · simp only [hs, Nat.zero_add]
    replace hi : i < 2 := hi
    obtain rfl | rfl : i = 0 ∨ i = 1 := by omega
    all_goals exact ⟨rfl, rfl⟩
  · simp only [hl, Nat.zero_add]
    replace hi : i < 2 := hi
    obtain rfl | rfl : i = 0 ∨ i = 1 := by omega
    all_goals exact ⟨rfl, rfl, rfl⟩
theorem reel_reads' (V : World) (n : Nat) (A B C : Array Value) (ta tb tc : TypeId) (h : V.heap.size = n) (hA : A = #[.int .i64 10, .int .i64 4, .int .i64 100, .int .i64 42, .int .i64 4, .int .i64 102, .int .i64 130, .int .i64 4, .int .i64 108, .int .i64 200, .int .i64 7, .int .i64 30, .int .i64 215, .int .i64 7, .int .i64 31]) (hB : B = #[.int .i64 4, .int .i64 12, .int .i64 7, .int .i64 10]) (hC : C = #[.int .i64 100, .int .i64 1891000, .int .i64 1000, .int .i64 200, .int .i64 3780000, .int .i64 2500]) (ha : ta = 68) (hb : tb = 74) (hc : tc = 81) :
    Reads (((V.alloc (.cells A ta)).alloc (.cells B tb)).alloc (.cells C tc)) (reelR n) reelM reelS reelL := by
  subst hA hB hC ha hb hc
  exact reel_reads V n h
theorem B_set {w w1 : World} (h : Below w.heap.size w w1) (j : Nat) (v : Value) : Below w.heap.size w (w1.setCell ⟨w.heap.size, j, none⟩ v) := h.setCell (Nat.le_refl _) v
theorem zero_cells (w w0 w1 : World) (h : w0 = w.alloc (.cells #[.string ⟨#[]⟩, .int .i64 0, .int .i64 0, .int .i64 0, .int .i64 0, .int .i64 0, .int .i64 0, .slice none 0 0, .slice none 0 0, .slice none 0 0] 30)) (hb : Below w0.heap.size w0 w1) :
    w1.cell? ⟨w.heap.size, 0, none⟩ = some (.string ⟨#[]⟩) ∧ w1.cell? ⟨w.heap.size, 1, none⟩ = some (.int .i64 0) ∧ w1.cell? ⟨w.heap.size, 2, none⟩ = some (.int .i64 0) ∧ w1.cell? ⟨w.heap.size, 3, none⟩ = some (.int .i64 0) ∧ w1.cell? ⟨w.heap.size, 4, none⟩ = some (.int .i64 0) ∧ w1.cell? ⟨w.heap.size, 5, none⟩ = some (.int .i64 0) ∧ w1.cell? ⟨w.heap.size, 6, none⟩ = some (.int .i64 0) ∧ w1.cell? ⟨w.heap.size, 7, none⟩ = some (.slice none 0 0) ∧ w1.cell? ⟨w.heap.size, 8, none⟩ = some (.slice none 0 0) ∧ w1.cell? ⟨w.heap.size, 9, none⟩ = some (.slice none 0 0) ∧ (∀ j, w1.frozen? ⟨w.heap.size, j, none⟩ = false) ∧ w.heap.size < w1.heap.size := by
  subst h
  obtain ⟨hc1, hf1⟩ := bcell hb
  have hcc : ∀ j, w1.cell? ⟨w.heap.size, j, none⟩ = (#[.string ⟨#[]⟩, .int .i64 0, .int .i64 0, .int .i64 0, .int .i64 0, .int .i64 0, .int .i64 0, .slice none 0 0, .slice none 0 0, .slice none 0 0] : Array Value)[j]? := fun j => by
    rw [hc1 _ _ (by simp), World.cell?_alloc_at _ _ _ _ rfl]
  have hff : ∀ j, w1.frozen? ⟨w.heap.size, j, none⟩ = false := fun j => by
    rw [hf1 _ _ (by simp)]; simp [go_sem]
  have := hb.size
  simp at this
  exact ⟨hcc 0, hcc 1, hcc 2, hcc 3, hcc 4, hcc 5, hcc 6, hcc 7, hcc 8, hcc 9, hff, by omega⟩

set_option maxHeartbeats 1000000 in
set_option maxRecDepth 100000 in
theorem reel_any (w : World) :
    Calls Tryz.prog 44 #[] w fun e w' => (∃ B, e = .returned (.agg (reelR B).cs) ∧ Reads w' (reelR B) reelM reelS reelL) ∧ Below w.heap.size w w' := by
  have HS := Lib.hid (fun W => span_any 1925 1940 W)
  have hbl : Below w.heap.size w (w.alloc (.cells #[.string ⟨#[]⟩, .int .i64 0, .int .i64 0, .int .i64 0, .int .i64 0, .int .i64 0, .int .i64 0, .slice none 0 0, .slice none 0 0, .slice none 0 0] 30)) := B_alloc (Below.refl _ _) _
  go_enter Tryz.func44, Tryz.ntmps44
  go_wp2_with (go_at_call 45; refine (HS.out _).mono ?_; rintro e w1 ⟨rfl, hb1⟩; have hbw1 := B_trans hbl hb1; obtain ⟨k0, k1, k2, k3, k4, k5, k6, k7, k8, k9, hff, hz1⟩ := zero_cells w _ w1 rfl hb1; have hal := fun W O c k h => alloc_old W O c k h; have hz2 : w.heap.size < w1.heap.size + 1 := (by omega); have hz3 : w.heap.size < w1.heap.size + 1 + 1 := (by omega); have hz4 : w.heap.size < w1.heap.size + 2 := (by omega); have hne1 : ¬ w.heap.size = w1.heap.size := (by omega))
  refine bodyPost_ret (v := .agg (reelR w1.heap.size).cs) (by simp [results, Tryz.results44, go_sem, reelR, RA.cs, *]) rfl ⟨⟨w1.heap.size, rfl, ?_⟩, ?_⟩
  · (with_reducible apply reel_reads')
    all_goals first | (simp only [World.size_setCell]; done) | with_reducible rfl | rfl
  · repeat (with_reducible apply B_alloc)
    repeat (with_reducible apply B_set)
    with_reducible exact hbw1
end Go.Proofs.YtgjpbffoalldkaaGreatDoor

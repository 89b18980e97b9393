/- The walk of Awake. -/
import Derived.Test.YtgjpbffoalldkaaGreatDoorWR
import Derived.Test.YtgjpbffoalldkaaGreatDoorWQ
import Derived.Deep.RegionHeld3
namespace Go.Proofs.YtgjpbffoalldkaaGreatDoor
open Go.RowKit

/-- What is known of the reel of the examples. -/
structure Known (r : RA) : Prop where
  gaps : ∀ W, Glob W → Reads W r reelM reelS reelL → Calls Tryz.prog 25 #[.agg r.cs] W fun e w' => (∃ a c b d, e = .returned (.tuple #[.slice a 2 c, .slice b 0 d, .int .i64 0]) ∧ Sl3 w' a 2 [(42, 130, 8), (200, 215, 1)]) ∧ Below W.heap.size W w'
  shrink : ∀ W, Glob W → Reads W r reelM reelS reelL → Calls Tryz.prog 34 #[.agg r.cs] W fun e w' => e = .returned (.tuple #[.agg #[.int .i64 47, .int .i64 52], .int .i64 (-1), .int .i64 0]) ∧ Below W.heap.size W w'
  years : ∀ W, Glob W → Reads W r reelM reelS reelL → Calls Tryz.prog 31 #[.agg r.cs] W fun e w' => (∃ v a c, e = .returned (.tuple #[v, .slice a 2 c, .int .i64 0]) ∧ Ints w' a 2 [1928, 1929]) ∧ Below W.heap.size W w'
  place : ∀ W, Glob W → Reads W r reelM reelS reelL → Calls Tryz.prog 29 #[.agg r.cs, .int .i64 1000] W fun e w' => e = .returned (.tuple #[.int .i64 0, .agg #[.int .i64 0, .int .i64 0], .int .i64 7]) ∧ Below W.heap.size W w'
  write : ∀ W, Glob W → Reads W r reelM reelS reelL → Calls Tryz.prog 36 #[.agg r.cs] W fun e w' => (∃ s : ByteArray, e = .returned (.tuple #[.string s, .int .i64 0]) ∧ 100 < s.size) ∧ Below W.heap.size W w'

theorem sl3_of_row {w : World} {B : Nat} {v : Value} {L : List T3} (h : w.ownsRow B 70 3 v L.length (flat3 L)) : ∃ a c, v = .slice a L.length c ∧ Sl3 w a L.length L := by
  rcases Joins.ownsRow_forms h with ⟨rfl, hn⟩ | ⟨g, cap, rfl⟩
  · rw [hn]; exact ⟨none, 0, rfl, ⟨hn, fun h => absurd h (by omega)⟩⟩
  · refine ⟨_, _, rfl, ⟨rfl, fun _ => ⟨g, 0, rfl, (h.lt g rfl).2, fun i hi => ?_⟩⟩⟩
    have key : ∀ (l : List T3) (i : Nat), i < l.length → (flat3 l)[i * 3]? = some (.int .i64 (l.getD i (0, 0, 0)).1) ∧ (flat3 l)[i * 3 + 1]? = some (.int .i64 (l.getD i (0, 0, 0)).2.1) ∧ (flat3 l)[i * 3 + 2]? = some (.int .i64 (l.getD i (0, 0, 0)).2.2) := by
      intro l
      induction l with
      | nil => intro i h; cases h
      | cons x l ih =>
        intro i h
        cases i with
        | zero => exact ⟨rfl, rfl, rfl⟩
        | succ i =>
          have := ih i (by simpa using h)
          have e : flat3 (x :: l) = [.int .i64 x.1, .int .i64 x.2.1, .int .i64 x.2.2] ++ flat3 l := rfl
          rw [e]
          have e1 : (i + 1) * 3 = i * 3 + 3 := by omega
          rw [e1]
          exact this
    obtain ⟨k0, k1, k2⟩ := key L i hi
    rw [← h.cellAt (i * 3) (by omega)] at k0
    rw [← h.cellAt (i * 3 + 1) (by omega)] at k1
    rw [← h.cellAt (i * 3 + 2) (by omega)] at k2
    simp only [Nat.zero_add]
    exact ⟨k0, k1, k2⟩

theorem reel_out : inB 1000 0 (1000 - 1) = false := by decide
theorem known_of (hw : ∀ B W, Glob W → Reads W (reelR B) reelM reelS reelL → Calls Tryz.prog 36 #[.agg (reelR B).cs] W fun e w' => (∃ s : ByteArray, e = .returned (.tuple #[.string s, .int .i64 0]) ∧ 100 < s.size) ∧ Below W.heap.size W w') (B : Nat) : Known (reelR B) where
  gaps W G h := (gaps_yes (reelR B) reelM reelS reelL W G h (reel_check B)).mono fun e w' ⟨⟨v2, v3, he, hi⟩, hb⟩ => by
    have h1 := hi.gaps
    have h2 := hi.wrong
    have eg : gapsTo (footI (reelR B).g) reelM ((reelR B).mn - 1) = [(42, 130, 8), (200, 215, 1)] := reel_gaps
    have ew : wrongTo (footI (reelR B).g) reelM ((reelR B).mn - 1) = [] := reel_wrong
    rw [eg] at h1
    rw [ew] at h2
    obtain ⟨a, c, rfl, h3⟩ := sl3_of_row h1
    obtain ⟨b, n, d, rfl, h4, -⟩ := ints_of_row h2
    obtain rfl : 0 = n := h4.len
    exact ⟨⟨a, c, b, d, he, h3⟩, hb⟩
  shrink W G h := (shrink_yes (reelR B) reelM reelS reelL W G h (reel_check B)).mono fun e w' ⟨he, hb⟩ => by
    have e1 : shrinkS (microI (reelR B).g) reelL (reelR B).ln = (47, 52, -1) := reel_shrink
    rw [e1] at he
    exact ⟨he, hb⟩
  years W G h := (years_yes (reelR B) reelM reelS reelL W G h (reel_check B)).mono fun e w' ⟨⟨vr, vp, fl, he, _, _, hp⟩, hb⟩ => by
    have e1 : yl (possTo (reelR B) reelS (rollsL reelS) (rollsL reelS).length) = [1928, 1929] := by rw [reel_rolls]; exact reel_years B
    rw [e1] at hp
    obtain ⟨a, n, c, rfl, h4, -⟩ := ints_of_row hp
    obtain rfl : 2 = n := h4.len
    exact ⟨⟨vr, a, c, he, h4⟩, hb⟩
  place W G h := place_out (reelR B) 1000 reelM reelS reelL W G h (reel_check B) reel_out
  write W G h := hw B W G h

/-- What every world of the last statement keeps. -/
abbrev AwS (w : World) (p : Nat) (ga ya : Option Addr) (w' : World) : Prop :=
  w'.cell? ⟨p, 0, none⟩ = some (.int .i64 47) ∧ w'.cell? ⟨p, 1, none⟩ = some (.int .i64 52) ∧ p < w'.heap.size ∧ Sl3 w' ga 2 [(42, 130, 8), (200, 215, 1)] ∧ Ints w' ya 2 [1928, 1929] ∧ Below w.heap.size w w'
theorem AwS.below {w : World} {p : Nat} {ga ya : Option Addr} {w1 w2 : World} (h : AwS w p ga ya w1) (hb : Below w1.heap.size w1 w2) : AwS w p ga ya w2 := by
  obtain ⟨c0, c1, hz, hg, hy, hB⟩ := h
  have hc := (bcell hb).1
  have := hb.size
  exact ⟨(hc _ _ hz).trans c0, (hc _ _ hz).trans c1, by omega, hg.below hb, hy.below hb, B_trans hB hb⟩
theorem AwS.alloc {w : World} {p : Nat} {ga ya : Option Addr} {w1 : World} (h : AwS w p ga ya w1) (o : Obj) : AwS w p ga ya (w1.alloc o) := h.below (B_alloc (Below.refl _ _) o)
theorem AwS.drew {w : World} {p : Nat} {ga ya : Option Addr} {w1 : World} (h : AwS w p ga ya w1) : AwS w p ga ya w1.drew := h.below (Below.refl _ _).drew
theorem AwS.b {w : World} {p : Nat} {ga ya : Option Addr} {w1 : World} (h : AwS w p ga ya w1) : Below w.heap.size w w1 := by obtain ⟨-, -, -, -, -, h⟩ := h; exact h


theorem gaps_arm {w : World} {p : Nat} {ga ya : Option Addr} (W : World) (c d : Nat) (h : AwS w p ga ya (W.alloc (.cells #[.int .i64 42, .int .i64 130, .int .i64 8, .int .i64 200, .int .i64 215, .int .i64 1] 70)).drew) :
    Calls Tryz.prog 27 #[.slice ga 2 c, .slice (some ⟨W.heap.size, 0, none⟩) 2 d] (W.alloc (.cells #[.int .i64 42, .int .i64 130, .int .i64 8, .int .i64 200, .int .i64 215, .int .i64 1] 70)).drew fun e w' => e = .returned (.bool true) ∧ Below (W.alloc (.cells #[.int .i64 42, .int .i64 130, .int .i64 8, .int .i64 200, .int .i64 215, .int .i64 1] 70)).drew.heap.size (W.alloc (.cells #[.int .i64 42, .int .i64 130, .int .i64 8, .int .i64 200, .int .i64 215, .int .i64 1] 70)).drew w' := by
  have hc : ∀ j, (W.alloc (.cells #[.int .i64 42, .int .i64 130, .int .i64 8, .int .i64 200, .int .i64 215, .int .i64 1] 70)).drew.cell? ⟨W.heap.size, j, none⟩ = (#[.int .i64 42, .int .i64 130, .int .i64 8, .int .i64 200, .int .i64 215, .int .i64 1] : Array Value)[j]? := fun j => by
    rw [World.cell?_drew, World.cell?_alloc_at _ _ _ _ rfl]
  have hz : W.heap.size < (W.alloc (.cells #[.int .i64 42, .int .i64 130, .int .i64 8, .int .i64 200, .int .i64 215, .int .i64 1] 70)).drew.heap.size := by simp
  generalize (W.alloc (.cells #[.int .i64 42, .int .i64 130, .int .i64 8, .int .i64 200, .int .i64 215, .int .i64 1] 70)).drew = X at h hc hz ⊢
  obtain ⟨-, -, -, hg, -, -⟩ := h
  refine gaps_same ga _ 2 c d _ X (by omega) hg ⟨rfl, fun _ => ⟨_, 0, rfl, hz, fun i hi => ?_⟩⟩
  simp only [hc, Nat.zero_add]
  obtain rfl | rfl : i = 0 ∨ i = 1 := by omega
  all_goals exact ⟨rfl, rfl, rfl⟩
theorem ints_arm {w : World} {p : Nat} {ga ya : Option Addr} (W : World) (c d : Nat) (h : AwS w p ga ya (W.alloc (.cells #[.int .i64 1928, .int .i64 1929] 3))) :
    Calls Tryz.prog 28 #[.slice ya 2 c, .slice (some ⟨W.heap.size, 0, none⟩) 2 d] (W.alloc (.cells #[.int .i64 1928, .int .i64 1929] 3)) fun e w' => e = .returned (.bool true) ∧ Below (W.alloc (.cells #[.int .i64 1928, .int .i64 1929] 3)).heap.size (W.alloc (.cells #[.int .i64 1928, .int .i64 1929] 3)) w' := by
  have hc : ∀ j, (W.alloc (.cells #[.int .i64 1928, .int .i64 1929] 3)).cell? ⟨W.heap.size, j, none⟩ = (#[.int .i64 1928, .int .i64 1929] : Array Value)[j]? := fun j => by
    rw [World.cell?_alloc_at _ _ _ _ rfl]
  have hz : W.heap.size < (W.alloc (.cells #[.int .i64 1928, .int .i64 1929] 3)).heap.size := by simp
  generalize (W.alloc (.cells #[.int .i64 1928, .int .i64 1929] 3)) = X at h hc hz ⊢
  obtain ⟨-, -, -, -, hy, -⟩ := h
  refine ints_same ya _ 2 c d _ X (by omega) hy ⟨rfl, fun _ => ⟨_, 0, rfl, hz, fun i hi => ?_⟩⟩
  simp only [hc, Nat.zero_add]
  obtain rfl | rfl : i = 0 ∨ i = 1 := by omega
  all_goals rfl

set_option maxHeartbeats 4000000 in
set_option maxRecDepth 100000 in
theorem awake_of (hk : ∀ B, Known (reelR B)) (w : World) (G : Glob w) :
    Calls Tryz.prog 18 #[] w fun e w' => e = .returned (.bool true) ∧ Below w.heap.size w w' := by
  have HR : Calls Tryz.prog 44 #[] w fun e w' => (∃ r, e = .returned (.agg r.cs) ∧ Hid (Reads w' r reelM reelS reelL ∧ Known r)) ∧ Below w.heap.size w w' :=
    (reel_any w).mono fun e w' ⟨⟨B, he, hr⟩, hb⟩ => ⟨⟨reelR B, he, hr, hk B⟩, hb⟩
  replace HR := Lib.hid HR
  clear hk
  go_enter Tryz.func18, Tryz.ntmps18
  have hal := fun W O c k h => alloc_old W O c k h
  go_wp2_with (first
    | (go_at_call 44; refine HR.out.mono ?_; rintro e w1 ⟨⟨r, rfl, HK⟩, hb1⟩)
    | (go_at_call 25; refine (HK.out.2.gaps _ ?_ ?_).mono ?_; exact G.below G.hz (B_alloc hb1 _); exact HK.out.1.below (B_alloc (Below.refl _ _) _); rintro e w2 ⟨⟨ga, gc, xa, xc, rfl, hg⟩, hb2⟩; have hc2 := (bcell hb2).1; have hB2 : Below w1.heap.size w1 w2 := B_trans (B_alloc (Below.refl _ _) _) hb2; have hz2 : w1.heap.size < w2.heap.size := (by have := hb2.size; simp at this; omega); have Hg := Lib.hid hg; clear hg)
    | (go_at_call 34; refine (HK.out.2.shrink _ ?_ ?_).mono ?_; exact G.below G.hz (B_trans hb1 hB2); exact HK.out.1.below hB2; rintro e w3 ⟨rfl, hb3⟩; have hc3 := (bcell hb3).1; have hB3 : Below w1.heap.size w1 w3 := B_trans hB2 hb3; have hz3 : w1.heap.size < w3.heap.size := (by have := hb3.size; omega); have hz3' : w1.heap.size < w3.heap.size + 1 := (by omega))
    | (go_at_call 31; refine (HK.out.2.years _ ?_ ?_).mono ?_; exact G.below G.hz (B_alloc (B_trans hb1 hB3) _); exact HK.out.1.below (B_alloc hB3 _); rintro e w4 ⟨⟨yv, ya, yc, rfl, hy⟩, hb4⟩; have hc4 := (bcell hb4).1; have hB4 : Below w1.heap.size w1 w4 := B_trans (B_alloc hB3 _) hb4; have hz4 : w1.heap.size < w4.heap.size := (by have := hb4.size; simp at this; omega); have Hy := Lib.hid hy; clear hy)
    | (go_at_call 29; refine (HK.out.2.place _ ?_ ?_).mono ?_; exact G.below G.hz (B_trans hb1 hB4); exact HK.out.1.below hB4; rintro e w5 ⟨rfl, hb5⟩; have hc5 := (bcell hb5).1; have hB5 : Below w1.heap.size w1 w5 := B_trans hB4 hb5; have hz5 : w1.heap.size < w5.heap.size := (by have := hb5.size; omega); have hz5' : w1.heap.size < w5.heap.size + 1 := (by omega))
    | (go_at_call 36; refine (HK.out.2.write _ ?_ ?_).mono ?_; exact G.below G.hz (B_alloc (B_trans hb1 hB5) _); exact HK.out.1.below (B_alloc hB5 _); rintro e w6 ⟨⟨s, rfl, hs⟩, hb6⟩; have hc6 := (bcell hb6).1; have hB6 : Below w1.heap.size w1 w6 := B_trans (B_alloc hB5 _) hb6))
  have hz6 : w3.heap.size < w6.heap.size := by have h4 := hb4.size; have h5 := hb5.size; have h6 := hb6.size; simp at h4 h5 h6; omega
  have hp : ∀ j, w6.cell? ⟨w3.heap.size, j, none⟩ = (#[.int .i64 47, .int .i64 52] : Array Value)[j]? := fun j => by
    have h4 := hb4.size
    have h5 := hb5.size
    simp at h4 h5
    rw [hc6 _ _ (by simp; omega), alloc_old _ _ _ _ (by omega), hc5 _ _ (by omega), hc4 _ _ (by simp), World.cell?_alloc_at _ _ _ _ rfl]
  have hg6 : Sl3 w6 ga 2 [(42, 130, 8), (200, 215, 1)] := by
    have h1 := Hg.out.below hb3
    have h2 := (h1.below (B_alloc (Below.refl _ _) _)).below hb4
    have h3 := h2.below hb5
    exact (h3.below (B_alloc (Below.refl _ _) _)).below hb6
  have hy6 : Ints w6 ya 2 [1928, 1929] := by
    have h3 := Hy.out.below hb5
    exact (h3.below (B_alloc (Below.refl _ _) _)).below hb6
  have HS : AwS w w3.heap.size ga ya w6 := ⟨hp 0, hp 1, hz6, hg6, hy6, B_trans hb1 hB6⟩
  have hs1 : (100 : Int) < s.size := by omega
  clear hc2 hc3 hc4 hc5 hc6 hb2 hb3 hb4 hb5 hb6 hB2 hB3 hB4 hB5 hB6 hz2 hz3 hz3' hz4 hz5 hz5' hp hg6 hy6 Hg Hy HK hal HR hz6
  generalize w3.heap.size = pb at HS ⊢
  clear hs
  have HSp := Lib.hid (fun W => span_any 47 52 W)
  go_region_held3 (fun w' => AwS w pb ga ya w')
    (((repeat (first | assumption | (with_reducible refine AwS.drew ?_) | (with_reducible refine AwS.alloc ?_ _) | ((with_reducible apply AwS.below); rotate_left; with_reducible assumption))); done))
    (first
      | (go_at_call 27; refine (gaps_arm _ _ _ (by assumption)).mono ?_; rintro e w7 ⟨rfl, hb7⟩)
      | (go_at_call 45; refine (HSp.out _).mono ?_; rintro e w7 ⟨rfl, hb7⟩)
      | (go_at_call 28; refine (ints_arm _ _ _ (by assumption)).mono ?_; rintro e w7 ⟨rfl, hb7⟩))
  all_goals (first | (go_wp2; go_ret; (with_reducible apply And.intro); rfl; (with_reducible apply AwS.b); assumption))
end Go.Proofs.YtgjpbffoalldkaaGreatDoor

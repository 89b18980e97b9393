/- The walk of rollsOf. -/
import Derived.Test.YtgjpbffoalldkaaGreatDoorWI
import Derived.Deep.LoopGhost
import Derived.Deep.CutBlock
import Derived.Deep.DeepCutAuto
namespace Go.Proofs.YtgjpbffoalldkaaGreatDoor
open Go.RowKit Go.Maps

theorem sort_any (g cap : Nat) (zs : List Int) (w : World) (hH : Sort.Holds (Value.int .i64) w g 0 zs.toArray) (hg : g < w.heap.size) (hn : zs.length < 4611686018427387904) :
    Calls Tryz.prog 86 #[.slice (some ⟨g, 0, none⟩) zs.length cap] w fun e w' =>
      e = .returned (.tuple #[]) ∧ ∃ n os, w' = Sort.grow (Sort.putRow (Value.int .i64) (Sort.ahead w n) g 0 (zs.mergeSort fun x y => decide (x ≤ y)).toArray) os := AnyM.slices_Sort_int Tryz.sortA g 0 cap zs w hH hg hn
theorem sort_none (p : Option Addr) (cap : Nat) (w : World) : Calls Tryz.prog 86 #[.slice p 0 cap] w fun e w' => e = .returned (.tuple #[]) ∧ Below w.heap.size w w' :=
  (AnyM.slices_Sort_int_none Tryz.sortA p cap w).mono fun e w' h => ⟨h.1, by rw [h.2]; exact Below.refl _ _⟩

/-- The rolls that have a symbol, ascending. -/
def rollsL (ss : List T2) : List Int := Lib.compact ((ss.map (·.1)).mergeSort fun x y => decide (x ≤ y))
def RollsPost (L : List Int) (w : World) (e : Ending) (w' : World) : Prop := ∃ a n c, e = .returned (.slice a n c) ∧ Ints w' a n L ∧ Below w.heap.size w w'

set_option maxHeartbeats 1000000 in
set_option maxRecDepth 100000 in
theorem rollsOf_any (a : Option Addr) (n c : Nat) (ss : List T2) (w : World) (hn : n ≤ 20) (hs : Sl2 w a n ss) :
    Calls Tryz.prog 62 #[.slice a n c] w (RollsPost (rollsL ss) w) := by
  have Hs := Lib.hid hs
  have HL : Hid (rollsL ss = Lib.compact ((ss.map (·.1)).mergeSort fun x y => decide (x ≤ y))) := rfl
  generalize rollsL ss = L at HL ⊢
  obtain ⟨i3, hi3, hz3', hs3, hy3⟩ := info_parts info3
  go_enter Tryz.func62, Tryz.ntmps62
  go_upto_block 0 with fail
  go_cut [3] (fun v wx => Hid (wx.ownsRow w.heap.size 3 1 v (ss.map (·.1)).length ((ss.map (·.1)).map (Value.int .i64)) ∧ Below w.heap.size w wx))
  case first =>
    go_wp2_with fail
    go_loopg [3, 5, 8] n (fun gk v sp i wr => ∃ k : Nat, gk = n - k ∧ k ≤ n ∧ i = .int .i64 k ∧ Hid (wr.ownsRow w.heap.size 3 1 v ((ss.map (·.1)).take k).length (((ss.map (·.1)).take k).map (Value.int .i64))) ∧ Below w.heap.size w wr)
    case atStart => exact ⟨0, rfl, Nat.zero_le _, rfl, World.ownsRow_nil _ _ _ _, Below.refl _ _⟩
    case round =>
      obtain ⟨k, rfl, hk, rfl, hown, hb⟩ := hrel
      by_cases hlt : k < n
      · obtain ⟨b, o, hab, hbs, hcells⟩ := Hs.out.at_ (by omega)
        obtain ⟨c0, c1⟩ := hcells k hlt
        have hcw : ∀ off, wr.cell? ⟨b, off, none⟩ = w.cell? ⟨b, off, none⟩ := fun off => hb.cell (p := ⟨b, off, none⟩) hbs
        rw [← hcw] at c0 c1
        have hzw := hb.size
        have hbw : b < wr.heap.size := by omega
        have hlen := Hs.out.len
        have htk : Hid ((ss.map (·.1)).take (k + 1) = (ss.map (·.1)).take k ++ [(ss.getD k (0, 0)).1]) := by
          rw [Hid, List.take_succ_eq_append_getElem (by simp; omega), List.getElem_map, List.getD_eq_getElem?_getD, List.getElem?_eq_getElem (by omega)]; rfl
        have hlk : ((ss.map (·.1)).take k).length ≤ 20 := by simp; omega
        clear hcells hcw hlen
        generalize ss.getD k (0, 0) = x at c0 c1 htk
        obtain ⟨x0, x1⟩ := x
        simp only at c0 c1
        generalize hTT : (ss.map (·.1)).take k = T at hown htk hlk
        clear hTT
        go_wp2_with ((at_builtin; refine wpList_append_own _ rfl _ _ 41 rfl w.heap.size 3 i3 (.int .i64 0) 1 8 Tryz.underlying41 hi3 hz3' hs3 hy3 rfl (by decide) _ _ _ rfl ((hown.out.alloc _).alloc _) ⟨wr.heap.size + 1, 0, none⟩ 1 1 [.int .i64 x0] rfl rfl ?d1 ?d2 ?d3 ?d4 ?d5 ?_))
        case d2 => rfl
        case d3 => unfold maxLen; omega
        case d4 => omega
        case d5 => omega
        intro v' w1 hown' hgrow _
        have hown1 : Hid (w1.ownsRow w.heap.size 3 1 v' ((ss.map (·.1)).take (k + 1)).length (((ss.map (·.1)).take (k + 1)).map (Value.int .i64))) := by
          rw [Hid, htk.out, List.length_append, List.map_append]; exact hown'
        have hbn : Below w.heap.size w w1 := B_grown (B_alloc (B_alloc hb _) _) (by simp; omega) ((hown.out.alloc _).alloc _) hgrow
        clear hown' hgrow
        go_wp2
        rw [← hab]
        clear hab
        go_roundg (n - (k + 1))
        case measure => omega
        case rel => exact ⟨k + 1, rfl, by omega, by go_num, hown1, hbn⟩
      · have hkn : k = n := by omega
        have hT : (ss.map (·.1)).take k = ss.map (·.1) := by rw [List.take_of_length_le]; simp [Hs.out.len]; omega
        rw [hT] at hown
        clear hT hkn
        go_wp2_with fail
        go_meet
        exact ⟨hown.out, hb⟩
  case rest =>
    have hR : (ss.map (·.1)).length = n := by simp [Hs.out.len]
    obtain ⟨hown, hb⟩ := hcut
    generalize ss.map (·.1) = R at hown hR HL
    by_cases h0 : n = 0
    · have hR0 : R = [] := List.length_eq_zero_iff.1 (hR.trans h0)
      subst hR0
      have HL2 : Hid (L = []) := by rw [Hid, HL.out]; simp [Lib.compact, Lib.compactUpTo]
      clear HL hR h0
      rcases Joins.ownsRow_forms hown with ⟨rfl, -⟩ | ⟨g, cap, rfl⟩
      · clear hown
        go_wp2_with (first
          | (go_at_call 86; refine (sort_none _ _ _).mono ?_; rintro e w1 ⟨rfl, hb1⟩)
          | (go_at_call 87; refine (Tryz.slices_Compact_int_empty _ _ _).mono ?_; rintro e w2 ⟨rfl, rfl⟩))
        go_ret
        exact ⟨_, _, _, rfl, by rw [HL2.out]; exact ⟨rfl, fun h => absurd h (by omega)⟩, B_trans hb hb1⟩
      · clear hown
        go_wp2_with (first
          | (go_at_call 86; refine (sort_none _ _ _).mono ?_; rintro e w1 ⟨rfl, hb1⟩)
          | (go_at_call 87; refine (Tryz.slices_Compact_int_empty _ _ _).mono ?_; rintro e w2 ⟨rfl, rfl⟩))
        go_ret
        exact ⟨_, _, _, rfl, by rw [HL2.out]; exact ⟨rfl, fun h => absurd h (by simp)⟩, B_trans hb hb1⟩
    · rcases Joins.ownsRow_forms hown with ⟨-, hz⟩ | ⟨g, cap, rfl⟩
      · omega
      · obtain ⟨g', cap', e0, hbg, hgl, hnc, hcm, hl0, hH⟩ := Lib.holds_of_ownsRow hown (by simp)
        cases e0
        have cS := sort_any g cap R wc hH hgl (by omega)
        have eS : (R.mergeSort fun x y => decide (x ≤ y)).length = R.length := List.length_mergeSort _
        generalize (R.mergeSort fun x y => decide (x ≤ y)) = T at cS eS HL
        have after : ∀ w1, (∃ q os, w1 = Sort.grow (Sort.putRow (Value.int .i64) (Sort.ahead wc q) g 0 T.toArray) os) → w1.ownsRow w.heap.size 3 1 (.slice (some ⟨g, 0, none⟩) R.length cap) R.length (T.map (Value.int .i64)) ∧ Below w.heap.size w w1 := by
          rintro w1 ⟨q, os, rfl⟩
          have h1 := Lib.ownsRow_putRow (q := q) (k := R.length) (ys := T) hown eS (Nat.le_refl _)
          rw [List.take_of_length_le (by omega)] at h1
          have h2 : Below w.heap.size w (Sort.putRow (Value.int .i64) (Sort.ahead wc q) g 0 T.toArray) := Lib.below_putRow hb hbg
          have h3 := Lib.below_grow (Sort.putRow (Value.int .i64) (Sort.ahead wc q) g 0 T.toArray).heap.size (Sort.putRow (Value.int .i64) (Sort.ahead wc q) g 0 T.toArray) (Nat.le_refl _) 0 os
          exact ⟨ownsRow_below h1 h3, h2.trans (h3.mono h2.size)⟩
        have cC : ∀ w1, (w1.ownsRow w.heap.size 3 1 (.slice (some ⟨g, 0, none⟩) R.length cap) R.length (T.map (Value.int .i64)) ∧ Below w.heap.size w w1) →
            Calls Tryz.prog 87 #[.slice (some ⟨g, 0, none⟩) R.length cap] w1 (RollsPost L w) := by
          rintro w1 ⟨h1, h2⟩
          obtain ⟨g', cap', e0, hbg', hgl', hnc', hcm', hl0', hH'⟩ := Lib.holds_of_ownsRow h1 (by simp)
          cases e0
          have := Tryz.slices_Compact_int g 0 cap T w1 hH' (by omega) (by omega)
          rw [eS] at this
          refine this.mono ?_
          rintro e w2 ⟨rfl, q, rfl⟩
          have hcl : (Lib.compact T).length ≤ T.length := by
            unfold Lib.compact Lib.compactUpTo
            rw [List.length_map]
            exact Nat.le_trans (List.length_filter_le _ _) (by simp)
          have h3 := Lib.ownsRow_putRow (q := q) (k := (Lib.compact T).length) (ys := Lib.compact T ++ List.replicate (R.length - (Lib.compact T).length) 0) h1 (by simp; omega) (by omega)
          rw [List.take_left'  rfl] at h3
          rw [HL.out]
          obtain ⟨a', n', c', e1, hI, -⟩ := ints_of_row h3
          cases e1
          exact ⟨_, _, _, rfl, hI, Lib.below_putRow h2 hbg⟩
        have HA := Lib.hid after
        have HC := Lib.hid cC
        have HS := Lib.hid cS
        have HR := Lib.hid hR
        clear cS after cC hown hH hl0 eS hR
        go_wp2_with (first
          | (go_at_call 86; refine HS.out.mono ?_; rintro e w1 ⟨rfl, hw1⟩; have hA := Lib.hid (HA.out _ hw1); clear hw1)
          | (go_at_call 87; refine (HC.out _ hA.out).mono ?_; rintro e w2 ⟨a', n', c', rfl, hI, hb2⟩; have HI := Lib.hid hI; clear hI))
        go_ret
        exact ⟨_, _, _, rfl, HI.out, hb2⟩
end Go.Proofs.YtgjpbffoalldkaaGreatDoor

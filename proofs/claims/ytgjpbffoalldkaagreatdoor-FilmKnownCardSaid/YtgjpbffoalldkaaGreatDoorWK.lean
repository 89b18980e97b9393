/- The walk of madeYears. -/
import Derived.Test.YtgjpbffoalldkaaGreatDoorWI
import Derived.Test.YtgjpbffoalldkaaGreatDoorWF
import Derived.Deep.LoopGhost
namespace Go.Proofs.YtgjpbffoalldkaaGreatDoor
open Go.RowKit Go.Maps

def madeLo (lo k : Int) : Int := max 1890 (lo - k)
/-- Can a roll have been made in a year, by the first n symbols? -/
def madeTo (lo hi : Int) (ss : List T2) (roll : Int) : Nat → Int → Bool
  | 0, x => inB x lo hi
  | n + 1, x => madeTo lo hi ss roll n x && (if (ss.getD n (0, 0)).1 = roll then fitsC (ss.getD n (0, 0)).2 x else true)
theorem madeTo_range {lo hi : Int} {ss : List T2} {roll : Int} (h0 : 0 ≤ lo) (h1 : hi ≤ 3000) : ∀ n x, madeTo lo hi ss roll n x = true → 0 ≤ x ∧ x ≤ 3000
  | 0, x, h => by simp [madeTo, inB] at h; omega
  | n + 1, x, h => by
    unfold madeTo at h
    rw [Bool.and_eq_true] at h
    exact madeTo_range h0 h1 n x h.1

theorem Valid.sym {r : RA} {ms : List T3} {ss : List T2} {ls : List T3} (h : Valid r ms ss ls) {i : Nat} (hi : i < r.sn) :
    (0 ≤ (ss.getD i (0, 0)).1 ∧ (ss.getD i (0, 0)).1 ≤ 99) ∧ (0 ≤ (ss.getD i (0, 0)).2 ∧ (ss.getD i (0, 0)).2 ≤ 19) := by
  have := h.s i hi
  unfold symE at this
  by_cases a : (inB (ss.getD i (0, 0)).1 0 99 && inB (ss.getD i (0, 0)).2 0 19) = true
  · simp [inB] at a
    exact ⟨by simpa using a.1, by simpa using a.2⟩
  · rw [if_neg a] at this; cases this

set_option maxHeartbeats 2000000 in
set_option maxRecDepth 100000 in
theorem madeYears_any (r : RA) (roll : Int) (ms : List T3) (ss : List T2) (ls : List T3) (w : World) (hR : Reads w r ms ss ls) (hV : Valid r ms ss ls) :
    Calls Tryz.prog 63 #[.agg r.cs, .int .i64 roll] w (IntsPost (yl (madeTo (madeLo r.lo r.k) r.hi ss roll r.sn)) w) := by
  generalize hL : yl (madeTo (madeLo r.lo r.k) r.hi ss roll r.sn) = L
  have HL := Lib.hid hL
  clear hL
  obtain ⟨-, -, -, -, ⟨hk0, hk1⟩, ⟨hl0, hl1⟩, ⟨hh0, hh1⟩, hlh⟩ := wholeE_ok hV.whole
  have hml : 1840 ≤ madeLo r.lo r.k ∧ madeLo r.lo r.k ≤ 2100 := by unfold madeLo; omega
  have hbl : Below w.heap.size w (w.alloc (.cells r.cs 30)) := B_alloc (Below.refl _ _) _
  have HY := fun W => yearsOf_any (madeLo r.lo r.k) r.hi W (by omega) (by omega) (by omega)
  have hmx : max 1890 (r.lo - r.k) = madeLo r.lo r.k := rfl
  have HVa := Lib.hid hV
  have hsn := hV.sn
  replace HY := Lib.hid HY
  clear hV
  go_enter Tryz.func63, Tryz.ntmps63
  go_wp2_with (go_at_call 61; refine (HY.out _).mono ?_; rintro e w1 ⟨M, rfl, hM, hS, hb1⟩; obtain ⟨hc1, hf1⟩ := bcell hb1; have HS := Lib.hid hS; clear hS)
  have hz1 := hb1.size
  simp only [World.size_alloc] at hz1 hM
  have hMl := HS.out.lt
  have hbW : Below w.heap.size w w1 := B_trans hbl hb1
  clear hc1 hf1 HY hmx hb1 hbl
  go_loopg [7, 23] r.sn (fun gk sp i wr => ∃ k : Nat, gk = r.sn - k ∧ k ≤ r.sn ∧ i = .int .i64 k ∧ Hid (SetAt wr M (madeTo (madeLo r.lo r.k) r.hi ss roll k)) ∧ w1.grownBy wr (some M))
  case atStart => exact ⟨0, rfl, Nat.zero_le _, rfl, HS.out, only_refl _ _⟩
  case round =>
    obtain ⟨k, rfl, hk, rfl, hset, hg⟩ := hrel
    have hzw := hg.size
    by_cases hlt : k < r.sn
    · obtain ⟨b, o, hab, hbs, hcells⟩ := hR.s.at_ (by omega)
      obtain ⟨c0, c1⟩ := hcells k hlt
      obtain ⟨⟨x0l, x0h⟩, ⟨x1l, x1h⟩⟩ := HVa.out.sym hlt
      have hcw : ∀ off, wr.cell? ⟨b, off, none⟩ = w.cell? ⟨b, off, none⟩ := fun off => (only_cell hg (by omega) (by omega)).trans (hbW.cell (p := ⟨b, off, none⟩) hbs)
      rw [← hcw] at c0 c1
      have hbw : b < wr.heap.size := by omega
      have hto : Hid (∀ x, madeTo (madeLo r.lo r.k) r.hi ss roll (k + 1) x = (madeTo (madeLo r.lo r.k) r.hi ss roll k x && (if (ss.getD k (0, 0)).1 = roll then fitsC (ss.getD k (0, 0)).2 x else true))) := fun x => rfl
      have hrg := madeTo_range (lo := madeLo r.lo r.k) (hi := r.hi) (ss := ss) (roll := roll) (by omega) (by omega) k
      clear hcells hcw
      generalize ss.getD k (0, 0) = x at c0 c1 x0l x0h x1l x1h hto
      obtain ⟨x0, x1⟩ := x
      simp only at c0 c1 x0l x0h x1l x1h
      generalize hTT : madeTo (madeLo r.lo r.k) r.hi ss roll k = T at hset hto hrg
      clear hTT
      by_cases hroll : x0 = roll
      · have hK := keepYears_any M T (fitsC x1) 88 #[.pointer (some ⟨wr.heap.size, 0, none⟩)] (wr.alloc (.cells #[.int .i64 x0, .int .i64 x1] 74)) (hset.out.below (B_alloc (Below.refl _ _) _)) hrg ent87
          (fun x W hx0 hx1 hW => fits_any wr.heap.size x1 x W ((only_cell hW (by simp) (by omega)).trans (by rw [World.cell?_alloc_at _ _ _ _ rfl]; rfl)) x1l (by omega) hx0 hx1)
        have HK := Lib.hid hK
        have hfin : Hid (∀ W, SetAt W M (fun x => T x && fitsC x1 x) → SetAt W M (madeTo (madeLo r.lo r.k) r.hi ss roll (k + 1))) := fun W h => by
          obtain ⟨D, h1, h2, h3⟩ := h
          exact ⟨D, h1, h2, fun x => by rw [h3 x, hto.out x]; simp [hroll]⟩
        clear hK hto hset hrg
        subst hroll
        go_wp2_with (go_at_call 64; refine HK.out.mono ?_; rintro e w2 ⟨rfl, hs2, hg2⟩; have HS2 := Lib.hid hs2; clear hs2)
        try rw [← hab]
        clear hab
        go_roundg (r.sn - (k + 1))
        case measure => omega
        case rel => exact ⟨k + 1, rfl, by omega, by go_num, hfin.out _ HS2.out, only_trans (only_alloc hg _) hg2⟩
      · have hfin : Hid (∀ W, SetAt W M T → SetAt W M (madeTo (madeLo r.lo r.k) r.hi ss roll (k + 1))) := fun W h => by
          obtain ⟨D, h1, h2, h3⟩ := h
          exact ⟨D, h1, h2, fun x => by rw [h3 x, hto.out x]; simp [hroll]⟩
        have hb0 : (x0 == roll) = false := by simpa using hroll
        clear hto hrg hroll
        go_wp2
        try rw [← hab]
        clear hab
        go_roundg (r.sn - (k + 1))
        case measure => omega
        case rel => exact ⟨k + 1, rfl, by omega, by go_num, hfin.out _ (hset.out.below (B_alloc (Below.refl _ _) _)), only_alloc hg _⟩
    · have hk1 : k = r.sn := by omega
      rw [hk1] at hset
      have hA0 := ascending_any M _ wr hset.out (madeTo_range (by omega) (by omega) r.sn)
      rw [HL.out] at hA0
      have hA := Lib.hid hA0
      have hbf : Below w.heap.size w wr := hbW.grown hg hbW.size (fun k' e => by cases e; omega)
      clear hk1 hset hA0
      go_wp2_with (go_at_call 68; refine hA.out.mono ?_; rintro e w2 ⟨v, rfl, hrow, hnil, hb2⟩; have Hrow := Lib.hid (And.intro hrow hnil); clear hrow hnil)
      go_ret
      exact ⟨v, rfl, Joins.ownsRow_le Hrow.out.1 hbf.size, Hrow.out.2, B_trans hbf hb2⟩
end Go.Proofs.YtgjpbffoalldkaaGreatDoor

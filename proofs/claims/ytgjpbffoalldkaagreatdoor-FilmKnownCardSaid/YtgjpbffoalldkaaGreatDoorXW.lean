/- Ascending lists of numbers in plain mathematics; the walk of the reference's made. -/
import Derived.Test.YtgjpbffoalldkaaGreatDoorWL
import Derived.Test.YtgjpbffoalldkaaGreatDoorXI
import Derived.Lib.SlicesCompact
namespace Go.Proofs.YtgjpbffoalldkaaGreatDoor
open Go.RowKit Go.Maps Go.Lib

/-- The numbers below n that are in a set. -/
def upTo (S : Int → Bool) (n : Nat) : List Int := ((List.range n).map fun (i : Nat) => (i : Int)).filter S
theorem upTo_succ (S : Int → Bool) (n : Nat) : upTo S (n + 1) = upTo S n ++ (if S n = true then [(n : Int)] else []) := by
  unfold upTo
  rw [List.range_succ, List.map_append, List.filter_append]
  congr 1
  by_cases h : S n = true
  · simp [h]
  · simp [h]
theorem upTo_none {S : Int → Bool} : ∀ {n : Nat}, (∀ x : Int, x < n → S x = false) → upTo S n = []
  | 0, _ => rfl
  | n + 1, h => by
    rw [upTo_succ, upTo_none (n := n) (fun x hx => h x (by omega)), if_neg (by rw [h n (by omega)]; decide)]; rfl
theorem upTo_add {S : Int → Bool} {n : Nat} : ∀ (d : Nat), (∀ x : Int, n ≤ x → S x = false) → upTo S (n + d) = upTo S n
  | 0, _ => rfl
  | d + 1, h => by
    rw [show n + (d + 1) = (n + d) + 1 by omega, upTo_succ, upTo_add d h, if_neg (by rw [h _ (by omega)]; decide), List.append_nil]
theorem upTo_yl {S : Int → Bool} {n : Nat} (hn : n ≤ 3001) (h : ∀ x : Int, n ≤ x → S x = false) : upTo S n = yl S := by
  have := upTo_add (S := S) (n := n) (3001 - n) h
  rw [show n + (3001 - n) = 3001 by omega] at this
  rw [← this]; rfl
theorem upTo_sorted (S : Int → Bool) (n : Nat) : (upTo S n).Pairwise (fun a b => a < b) := by
  unfold upTo
  refine List.Pairwise.filter _ ?_
  rw [List.pairwise_map]
  exact (List.pairwise_lt_range (n := n)).imp (fun h => by omega)
theorem upTo_mem (S : Int → Bool) (n : Nat) (x : Int) : x ∈ upTo S n ↔ (0 ≤ x ∧ x < n ∧ S x = true) := by
  unfold upTo
  rw [List.mem_filter, List.mem_map]
  constructor
  · rintro ⟨⟨i, hi, rfl⟩, h⟩
    rw [List.mem_range] at hi
    exact ⟨by omega, by omega, h⟩
  · rintro ⟨h1, h2, h3⟩
    exact ⟨⟨x.toNat, by rw [List.mem_range]; omega, by omega⟩, h3⟩
theorem upTo_len (S : Int → Bool) (n : Nat) : (upTo S n).length ≤ n := by
  unfold upTo
  exact Nat.le_trans (List.length_filter_le _ _) (by simp)
/-- Two ascending lists of the same numbers are the same. -/
theorem asc_ext {a b : List Int} (ha : a.Pairwise (fun x y => x < y)) (hb : b.Pairwise (fun x y => x < y)) (h : ∀ x, x ∈ a ↔ x ∈ b) : a = b := by
  have na : a.Nodup := ha.imp (fun h => by omega)
  have nb : b.Nodup := hb.imp (fun h => by omega)
  exact List.Perm.eq_of_pairwise (le := fun x y => x < y) (fun x y _ _ h1 h2 => by omega) ha hb ((List.perm_ext_iff_of_nodup na nb).2 h)
/-- Compact of an ascending list. -/
theorem compactUpTo_asc (d : Array Int) (hs : ∀ i j, i ≤ j → j < d.size → d[i]! ≤ d[j]!) : ∀ (m : Nat), m ≤ d.size → (compactUpTo d m).Pairwise (fun x y => x < y) ∧ (∀ x, x ∈ compactUpTo d m → 0 < m ∧ x ≤ d[m - 1]!) ∧ (∀ x, x ∈ compactUpTo d m ↔ ∃ j, j < m ∧ d[j]! = x)
  | 0, _ => ⟨by simp [compactUpTo], fun x h => by simp [compactUpTo] at h, fun x => ⟨fun h => by simp [compactUpTo] at h, fun ⟨j, h, _⟩ => absurd h (Nat.not_lt_zero j)⟩⟩
  | m + 1, hm => by
    obtain ⟨p1, p2, p3⟩ := compactUpTo_asc d hs m (by omega)
    have hmem : ∀ x, x ∈ compactUpTo d (m + 1) ↔ ∃ j, j < m + 1 ∧ d[j]! = x := fun x => by
      unfold compactUpTo
      constructor
      · intro h
        rw [List.mem_map] at h
        obtain ⟨j, h1, h2⟩ := h
        rw [List.mem_filter, List.mem_range] at h1
        exact ⟨j, h1.1, h2⟩
      · rintro ⟨j, h1, h2⟩
        change x ∈ compactUpTo d (m + 1)
        rw [compactUpTo_succ]
        by_cases hj : j < m
        · exact List.mem_append_left _ ((p3 x).2 ⟨j, hj, h2⟩)
        · obtain rfl : j = m := by omega
          cases hk : keeps d j with
          | true => exact List.mem_append_right _ (by simp [h2])
          | false =>
            by_cases h0 : j = 0
            · subst h0; simp [keeps] at hk
            · have : d[j]! = d[j - 1]! := by simp [keeps] at hk; exact hk.2
              exact List.mem_append_left _ ((p3 x).2 ⟨j - 1, by omega, by rw [← this]; exact h2⟩)
    refine ⟨?_, ?_, hmem⟩
    · rw [compactUpTo_succ, List.pairwise_append]
      refine ⟨p1, ?_, ?_⟩
      · split <;> simp
      · intro a ha b hb
        cases hk : keeps d m with
        | false => rw [hk] at hb; simp at hb
        | true =>
          rw [hk] at hb
          simp at hb
          obtain ⟨q1, q2⟩ := p2 a ha
          have q3 := hs (m - 1) m (by omega) (by omega)
          have : d[m]! ≠ d[m - 1]! := by
            simp [keeps] at hk
            rcases hk with hk | hk
            · omega
            · exact hk
          omega
    · intro x hx
      obtain ⟨j, h1, h2⟩ := (hmem x).1 hx
      refine ⟨by omega, ?_⟩
      rw [← h2]
      exact hs j (m + 1 - 1) (by omega) (by omega)
theorem compact_asc {zs : List Int} (h : zs.Pairwise (fun x y => x ≤ y)) : (compact zs).Pairwise (fun x y => x < y) ∧ (∀ x, x ∈ compact zs ↔ x ∈ zs) := by
  have hg : ∀ i, i < zs.length → zs.toArray[i]! = zs.getD i 0 := fun i hi => by
    rw [getElem!_pos zs.toArray i (by simpa using hi)]; simp [hi]
  obtain ⟨a, -, c⟩ := compactUpTo_asc zs.toArray (fun i j hij hj => by
    have hj' : j < zs.length := by simpa using hj
    rw [hg i (by omega), hg j hj']
    by_cases e : i = j
    · rw [e]; exact Int.le_refl _
    · have := (List.pairwise_iff_getElem.1 h) i j (by omega) hj' (by omega)
      simpa [List.getD_eq_getElem?_getD, hj', show i < zs.length by omega] using this) zs.length (by simp)
  refine ⟨a, fun x => (c x).trans ?_⟩
  constructor
  · rintro ⟨j, hj, rfl⟩
    rw [hg j hj]
    simp [List.getD_eq_getElem?_getD, hj]
  · intro hx
    obtain ⟨j, hj, rfl⟩ := List.getElem_of_mem hx
    exact ⟨j, hj, by rw [hg j hj]; simp [List.getD_eq_getElem?_getD, hj]⟩

theorem madeTo_lo {lo hi : Int} {ss : List T2} {roll x : Int} : ∀ n, madeTo lo hi ss roll n x = true → lo ≤ x ∧ x ≤ hi
  | 0, h => by simpa [madeTo, inB] using h
  | n + 1, h => by
    unfold madeTo at h
    rw [Bool.and_eq_true] at h
    exact madeTo_lo n h.1
theorem madeTo_step {lo hi : Int} {ss : List T2} {roll x : Int} (n : Nat) : madeTo lo hi ss roll (n + 1) x = (madeTo lo hi ss roll n x && (if (ss.getD n (0, 0)).1 = roll then fitsC (ss.getD n (0, 0)).2 x else true)) := rfl

set_option maxHeartbeats 2000000 in
set_option maxRecDepth 100000 in
theorem refMade_any (r : RA) (roll : Int) (ms : List T3) (ss : List T2) (ls : List T3) (w : World) (hR : Reads w r ms ss ls) (hV : Valid r ms ss ls) :
    Calls Tryz.prog 69 #[.agg r.cs, .int .i64 roll] w fun e w' => ∃ v, e = .returned v ∧ w'.ownsRow w.heap.size 3 1 v (madeL r ss roll).length ((madeL r ss roll).map (Value.int .i64)) ∧ Below w.heap.size w w' := by
  obtain ⟨-, -, -, -, ⟨hk0, hk1⟩, ⟨hl0, hl1⟩, ⟨hh0, hh1⟩, hlh⟩ := wholeE_ok hV.whole
  have hml : 1840 ≤ madeLo r.lo r.k ∧ madeLo r.lo r.k ≤ 2100 := by unfold madeLo; omega
  have hmx : max 1890 (r.lo - r.k) = madeLo r.lo r.k := rfl
  have hlohi : madeLo r.lo r.k ≤ r.hi := by unfold madeLo; omega
  have hbl : Below w.heap.size w (w.alloc (.cells r.cs 30)) := B_alloc (Below.refl _ _) _
  have hR0 := Lib.hid (hR.below hbl)
  have hbox : ∀ j, (w.alloc (.cells r.cs 30)).cell? ⟨w.heap.size, j, none⟩ = r.cs[j]? := fun j => World.cell?_alloc_at _ _ _ _ rfl
  have HX := Lib.hid hbox
  have HVa := Lib.hid hV
  have hsn := hV.sn
  obtain ⟨i3, hi3, hz3', hs3, hy3⟩ := info_parts info3
  have HS : Hid (∀ y : Int, y < madeLo r.lo r.k → madeTo (madeLo r.lo r.k) r.hi ss roll r.sn y = false) := fun y hy => by
    cases h : madeTo (madeLo r.lo r.k) r.hi ss roll r.sn y with
    | false => rfl
    | true => have := madeTo_lo _ h; omega
  have HS2 : Hid (∀ y : Int, r.hi + 1 ≤ y → madeTo (madeLo r.lo r.k) r.hi ss roll r.sn y = false) := fun y hy => by
    cases h : madeTo (madeLo r.lo r.k) r.hi ss roll r.sn y with
    | false => rfl
    | true => have := madeTo_lo _ h; omega
  have HF : Hid (upTo (madeTo (madeLo r.lo r.k) r.hi ss roll r.sn) (r.hi.toNat + 1) = madeL r ss roll) := by
    unfold Hid madeL
    exact upTo_yl (by omega) (fun x hx => HS2.out x (by omega))
  have HI : Hid (upTo (madeTo (madeLo r.lo r.k) r.hi ss roll r.sn) (madeLo r.lo r.k).toNat = []) := upTo_none (fun x hx => HS.out x (by omega))
  clear hV hbox hbl
  obtain ⟨W0, hW0⟩ : ∃ W0, w.alloc (.cells r.cs 30) = W0 := ⟨_, rfl⟩
  have hz0 : W0.heap.size = w.heap.size + 1 := by rw [← hW0]; simp
  have hb0 : Below w.heap.size w W0 := by rw [← hW0]; exact B_alloc (Below.refl _ _) _
  rw [hW0] at HX hR0
  have m4 : W0.cell? ⟨w.heap.size, 4, none⟩ = some (.int .i64 r.lo) := HX.out 4
  have m6 : W0.cell? ⟨w.heap.size, 6, none⟩ = some (.int .i64 r.k) := HX.out 6
  go_enter Tryz.func69, Tryz.ntmps69
  go_wp2
  clear m4 m6
  generalize hBB : w.heap.size = B at HX hz0 ⊢
  clear hW0
  have HB := Lib.hid hBB
  clear hBB
  generalize hlo : madeLo r.lo r.k = lo at hml hmx hlohi HS HS2 HF HI
  clear hlo
  generalize hSS : madeTo lo r.hi ss roll r.sn = S at HS HS2 HF HI
  have HSS : Hid (∀ y, madeTo lo r.hi ss roll r.sn y = S y) := fun y => by rw [hSS]
  clear hSS
  go_loopg [5, 6, 7, 8] (r.hi + 1 - lo).toNat (fun gk v y f i wr => ∃ k : Nat, gk = r.hi.toNat + 1 - k ∧ lo ≤ k ∧ (k : Int) ≤ r.hi + 1 ∧ y = .int .i64 k ∧ Below W0.heap.size W0 wr ∧ Hid (wr.ownsRow W0.heap.size 3 1 v (upTo S k).length ((upTo S k).map (Value.int .i64))))
  case atStart => exact ⟨lo.toNat, by omega, by omega, by omega, by rw [show ((lo.toNat : Nat) : Int) = lo by omega], Below.refl _ _, by rw [HI.out]; exact World.ownsRow_nil _ _ _ _⟩
  case round =>
    obtain ⟨k, rfl, hk1, hk2, rfl, hb, hown⟩ := hrel
    have hzw := hb.size
    have hcb : ∀ j, wr.cell? ⟨B, j, none⟩ = r.cs[j]? := fun j => (hb.cell (p := ⟨B, j, none⟩) (by show B < _; omega)).trans (HX.out j)
    have k5 : wr.cell? ⟨B, 5, none⟩ = some (.int .i64 r.hi) := hcb 5
    have k8 : wr.cell? ⟨B, 8, none⟩ = some (.slice r.sa r.sn r.sc) := hcb 8
    clear hcb
    by_cases hle : (k : Int) ≤ r.hi
    · have hbl := upTo_len S k
      have hsuc := Lib.hid (upTo_succ S k)
      obtain ⟨wo, rfl⟩ : ∃ wo, wo = wr := ⟨wr, rfl⟩
      go_wp2_with fail
      go_loopg [7, 8] r.sn (fun gk f i wx => ∃ j : Nat, gk = r.sn - j ∧ j ≤ r.sn ∧ f = .bool (madeTo lo r.hi ss roll j k) ∧ i = .int .i64 j ∧ wx = wo)
      case atStart => exact ⟨0, rfl, Nat.zero_le _, by simp [madeTo, inB]; omega, rfl, rfl⟩
      case round =>
        obtain ⟨j, rfl, hj, rfl, rfl, rfl⟩ := hrel
        by_cases hlt : j < r.sn
        · obtain ⟨b, o, hab, hbs, hcells⟩ := hR0.out.s.at_ (by omega)
          obtain ⟨c0, c1⟩ := hcells j hlt
          obtain ⟨⟨x0l, x0h⟩, ⟨x1l, x1h⟩⟩ := HVa.out.sym hlt
          have hst := Lib.hid (madeTo_step (lo := lo) (hi := r.hi) (ss := ss) (roll := roll) (x := k) j)
          have hbs' := hbs
          rw [← hb.cell (p := ⟨b, _, none⟩) hbs] at c0 c1
          clear hcells
          generalize ss.getD j (0, 0) = x at c0 c1 x0l x0h x1l x1h hst
          obtain ⟨x0, x1⟩ := x
          simp only at c0 c1 x0l x0h x1l x1h
          rw [hab] at k8
          generalize madeTo lo r.hi ss roll j k = cur at hst ⊢
          by_cases hroll : x0 = roll
          · have hrb : (x0 == roll) = true := by simpa using hroll
            by_cases hf : ((k : Int) - 1916 - x1).tmod 20 = 0
            · have hfb : (((k : Int) - 1916 - x1).tmod 20 == 0) = true := by simpa using hf
              have hcur : Hid (madeTo lo r.hi ss roll (j + 1) k = cur) := by rw [Hid, hst.out]; simp [fitsC, hf]
              clear hst
              go_wp2
              try rw [← hab]
              go_roundg (r.sn - (j + 1))
              case measure => omega
              case rel => exact ⟨j + 1, rfl, by omega, by rw [hcur.out], by go_num, rfl⟩
            · have hfb : (((k : Int) - 1916 - x1).tmod 20 == 0) = false := by simpa using hf
              have hcur : Hid (madeTo lo r.hi ss roll (j + 1) k = false) := by rw [Hid, hst.out]; simp [fitsC, hf, hroll]
              clear hst
              go_wp2
              try rw [← hab]
              go_roundg (r.sn - (j + 1))
              case measure => omega
              case rel => exact ⟨j + 1, rfl, by omega, by rw [hcur.out], by go_num, rfl⟩
          · have hrb : (x0 == roll) = false := by simpa using hroll
            have hcur : Hid (madeTo lo r.hi ss roll (j + 1) k = cur) := by rw [Hid, hst.out]; simp [hroll]
            clear hst
            go_wp2
            try rw [← hab]
            go_roundg (r.sn - (j + 1))
            case measure => omega
            case rel => exact ⟨j + 1, rfl, by omega, by rw [hcur.out], by go_num, rfl⟩
        · have e1 : madeTo lo r.hi ss roll j k = S k := by rw [show j = r.sn by omega]; exact HSS.out _
          rw [e1]
          clear e1
          cases hS : S k
          · have hs2 : Hid (upTo S (k + 1) = upTo S k) := by rw [Hid, hsuc.out, if_neg (by rw [hS]; decide), List.append_nil]
            clear hS hsuc
            go_wp2
            go_roundg (r.hi.toNat + 1 - (k + 1))
            case measure => omega
            case rel => exact ⟨k + 1, rfl, by omega, by omega, by go_num, hb, by rw [hs2.out]; exact hown⟩
          · have hs2 : Hid (upTo S (k + 1) = upTo S k ++ [(k : Int)]) := by rw [Hid, hsuc.out, if_pos hS]
            clear hS hsuc
            generalize upTo S k = L at hown hs2 hbl
            go_wp2_with (at_builtin; refine wpList_append_own _ rfl _ _ 41 rfl W0.heap.size 3 i3 (.int .i64 0) 1 8 Tryz.underlying41 hi3 hz3' hs3 hy3 rfl (by decide) _ _ _ rfl (hown.out.alloc _) ⟨_, 0, none⟩ 1 1 [.int .i64 (k : Int)] rfl rfl ?d1 ?d2 ?d3 ?d4 ?d5 ?_)
            case d1 => exact news_at _ _ _
            case d2 => intro u hu; simp at hu; subst hu; rfl
            case d3 => unfold maxLen; omega
            case d4 => omega
            case d5 => simp; omega
            intro v' w1 hown' hgrow _
            have hbn : Below W0.heap.size W0 w1 := B_grown (B_alloc hb _) (by simp; omega) (hown.out.alloc _) hgrow
            have hown1 : Hid (w1.ownsRow W0.heap.size 3 1 v' (upTo S (k + 1)).length ((upTo S (k + 1)).map (Value.int .i64))) := by
              rw [Hid, hs2.out, List.length_append, List.map_append, hz0]; exact hown'
            clear hown' hgrow
            go_wp2
            go_roundg (r.hi.toNat + 1 - (k + 1))
            case measure => omega
            case rel => exact ⟨k + 1, rfl, by omega, by omega, by go_num, hbn, hown1⟩
    · have e1 : k = r.hi.toNat + 1 := by omega
      rw [e1, HF.out] at hown
      clear e1
      have Hb := Lib.hid (B_trans hb0 hb)
      have hown2 := Lib.hid (Joins.ownsRow_le hown.out hb0.size)
      go_wp2
      go_ret
      have hB := HB.out
      subst hB
      exact ⟨_, rfl, hown2.out, Hb.out⟩
end Go.Proofs.YtgjpbffoalldkaaGreatDoor

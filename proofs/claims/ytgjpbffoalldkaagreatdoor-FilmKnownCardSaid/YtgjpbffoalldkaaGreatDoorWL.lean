/- The walk of film.Years. -/
import Derived.Test.YtgjpbffoalldkaaGreatDoorWJ
import Derived.Test.YtgjpbffoalldkaaGreatDoorWK
namespace Go.Proofs.YtgjpbffoalldkaaGreatDoor
open Go.RowKit Go.Maps

/-- The years in which the roll can have been made. -/
def madeL (r : RA) (ss : List T2) (roll : Int) : List Int := yl (madeTo (madeLo r.lo r.k) r.hi ss roll r.sn)
/-- Can the reel have been printed in a year, by the first n rolls of a list? -/
def possTo (r : RA) (ss : List T2) (L : List Int) : Nat → Int → Bool
  | 0, y => inB y r.lo r.hi
  | n + 1, y => possTo r ss L n y && nearB (madeL r ss (L.getD n 0)) r.k y
theorem possTo_range {r : RA} {ss : List T2} {L : List Int} (h0 : 0 ≤ r.lo) (h1 : r.hi ≤ 3000) : ∀ n x, possTo r ss L n x = true → 0 ≤ x ∧ x ≤ 3000
  | 0, x, h => by simp [possTo, inB] at h; omega
  | n + 1, x, h => by
    unfold possTo at h
    rw [Bool.and_eq_true] at h
    exact possTo_range h0 h1 n x h.1

/-- The cells of the first k rolls: each with its own slice of years. -/
structure RollCells (B : Nat) (w : World) (r : RA) (ss : List T2) (L : List Int) (k : Nat) (fl : List Value) : Prop where
  len : fl.length = k * 2
  at_ : ∀ j, j < k → ∃ v, fl[j * 2]? = some (.int .i64 (L.getD j 0)) ∧ fl[j * 2 + 1]? = some v ∧ w.ownsRow B 3 1 v (madeL r ss (L.getD j 0)).length ((madeL r ss (L.getD j 0)).map (Value.int .i64))
theorem RollCells.kept {B : Nat} {w w' : World} {r : RA} {ss : List T2} {L : List Int} {k : Nat} {fl : List Value} (h : RollCells B w r ss L k fl) (hk : ∀ v n xs, w.ownsRow B 3 1 v n xs → w'.ownsRow B 3 1 v n xs) : RollCells B w' r ss L k fl :=
  ⟨h.len, fun j hj => let ⟨v, h1, h2, h3⟩ := h.at_ j hj; ⟨v, h1, h2, hk _ _ _ h3⟩⟩
theorem RollCells.snoc {B : Nat} {w : World} {r : RA} {ss : List T2} {L : List Int} {k : Nat} {fl : List Value} {v : Value} (h : RollCells B w r ss L k fl) (hv : w.ownsRow B 3 1 v (madeL r ss (L.getD k 0)).length ((madeL r ss (L.getD k 0)).map (Value.int .i64))) :
    RollCells B w r ss L (k + 1) (fl ++ [.int .i64 (L.getD k 0), v]) := by
  refine ⟨by simp [h.len]; omega, fun j hj => ?_⟩
  by_cases e : j = k
  · subst e
    refine ⟨v, ?_, ?_, hv⟩
    · rw [List.getElem?_append_right (by rw [h.len]; exact Nat.le_refl _), h.len]; simp
    · rw [List.getElem?_append_right (by rw [h.len]; omega), h.len, show j * 2 + 1 - j * 2 = 1 by omega]; simp
  · obtain ⟨u, h1, h2, h3⟩ := h.at_ j (by omega)
    exact ⟨u, by rw [List.getElem?_append_left (by rw [h.len]; omega)]; exact h1, by rw [List.getElem?_append_left (by rw [h.len]; omega)]; exact h2, h3⟩

def YearsPost (B : Nat) (r : RA) (ss : List T2) (e : Ending) (w' : World) : Prop :=
  ∃ vr vp fl, e = .returned (.tuple #[vr, vp, .int .i64 0]) ∧ w'.ownsRow B 77 2 vr (rollsL ss).length fl ∧ RollCells B w' r ss (rollsL ss) (rollsL ss).length fl ∧
    w'.ownsRow B 3 1 vp (yl (possTo r ss (rollsL ss) (rollsL ss).length)).length ((yl (possTo r ss (rollsL ss) (rollsL ss).length)).map (Value.int .i64))

theorem info77 : (Tryz.prog.info? 77).map (fun i => (i.zero, i.size, i.bytes)) = some (some (.agg #[.int .i64 0, .slice none 0 0]), 2, 32) := by kernel_rfl

/-- What the loop of Years keeps. -/
structure YearsInv (B M : Nat) (r : RA) (ss : List T2) (L : List Int) (W0 : World) (k : Nat) (v2 : Value) (wr : World) : Prop where
  set : SetAt wr M (possTo r ss L k)
  only : W0.grownBy wr (some M)
  rolls : ∃ fl, wr.ownsRow W0.heap.size 77 2 v2 k fl ∧ RollCells B wr r ss L k fl

/-- A cell that reads lies in no map. -/
theorem SetAt.ne {w : World} {M : Nat} {S : Int → Bool} (h : SetAt w M S) {b o : Nat} {v : Value} (hc : w.cell? ⟨b, o, none⟩ = some v) : b ≠ M := by
  rintro rfl
  obtain ⟨D, ⟨es, clock, hb, -⟩, -⟩ := h
  simp [World.cell?, hb] at hc
theorem Ints.only {w w' : World} {M : Nat} {S : Int → Bool} {a : Option Addr} {n : Nat} {zs : List Int} (h : Ints w a n zs) (hg : w.grownBy w' (some M)) (hm : SetAt w M S) : Ints w' a n zs :=
  ⟨h.len, fun hn => let ⟨b, o, e, hl, hc⟩ := h.at_ hn; ⟨b, o, e, Nat.lt_of_lt_of_le hl hg.size, fun i hi => (only_cell hg hl (hm.ne (hc i hi))).trans (hc i hi)⟩⟩
/-- A row of cells lies in no map. -/
theorem row_ne {w : World} {M B : Nat} {S : Int → Bool} (h : SetAt w M S) {e : TypeId} {s n : Nat} {v : Value} {xs : List Value} (hr : w.ownsRow B e s v n xs) : v.ownBlock = none ∨ v.ownBlock ≠ some M := by
  cases hv : v.ownBlock with
  | none => exact .inl rfl
  | some g =>
    refine .inr fun e1 => ?_
    injection e1 with e1
    subst e1
    obtain ⟨c, fz, h1⟩ := Lib.ownsRow_kind hr g hv
    obtain ⟨D, ⟨es, clock, hb, -⟩, -⟩ := h
    rw [hb] at h1; cases h1
theorem Below.of_only {B : Nat} {a b c : World} {M : Nat} (h : Below B a b) (hg : b.grownBy c (some M)) (hB : B ≤ b.heap.size) (hM : B ≤ M) : Below B a c :=
  h.grown hg hB fun k e => by cases e; exact hM

theorem compact_len {zs : List Int} : (Lib.compact zs).length ≤ zs.length := by
  unfold Lib.compact Lib.compactUpTo
  rw [List.length_map]
  exact Nat.le_trans (List.length_filter_le _ _) (by simp)

set_option maxHeartbeats 4000000 in
set_option maxRecDepth 100000 in
theorem years_yes (r : RA) (ms : List T3) (ss : List T2) (ls : List T3) (w : World) (G : Glob w) (hR : Reads w r ms ss ls) (h0 : (checkS r ms ss ls).2.2 = 0) :
    Calls Tryz.prog 31 #[.agg r.cs] w fun e w' => YearsPost w.heap.size r ss e w' ∧ Below w.heap.size w w' := by
  have hV := valid_of h0
  obtain ⟨-, -, -, -, ⟨hk0, hk1⟩, ⟨hl0, hl1⟩, ⟨hh0, hh1⟩, hlh⟩ := wholeE_ok hV.whole
  have hbl : Below w.heap.size w (w.alloc (.cells r.cs 30)) := B_alloc (Below.refl _ _) _
  have HC := check_any r ms ss ls _ (G.alloc (.cells r.cs 30)) (hR.below hbl)
  have HY := Lib.hid (fun W => yearsOf_any r.lo r.hi W (by omega) (by omega) (by omega))
  have HRo := Lib.hid (fun W (h : Below w.heap.size w W) => rollsOf_any r.sa r.sn r.sc ss W hV.sn (hR.s.below h))
  have HMa := Lib.hid (fun roll W (h : Below w.heap.size w W) => madeYears_any r roll ms ss ls W (hR.below h) hV)
  have hLl : (rollsL ss).length ≤ 20 := by
    have h1 : (rollsL ss).length ≤ ((ss.map (·.1)).mergeSort fun x y => decide (x ≤ y)).length := compact_len
    rw [List.length_mergeSort, List.length_map, hR.s.len] at h1
    have := hV.sn; omega
  have hPost : Hid (∀ e W, (∃ vr vp fl, e = .returned (.tuple #[vr, vp, .int .i64 0]) ∧ W.ownsRow w.heap.size 77 2 vr (rollsL ss).length fl ∧ RollCells w.heap.size W r ss (rollsL ss) (rollsL ss).length fl ∧
    W.ownsRow w.heap.size 3 1 vp (yl (possTo r ss (rollsL ss) (rollsL ss).length)).length ((yl (possTo r ss (rollsL ss) (rollsL ss).length)).map (Value.int .i64))) → YearsPost w.heap.size r ss e W) := fun e W h => h
  generalize rollsL ss = L at HRo hLl hPost
  obtain ⟨i77, hi77, hz77, hs77, hy77⟩ := info_parts info77
  rw [h0] at HC
  generalize (checkS r ms ss ls).1 = p1 at HC
  generalize (checkS r ms ss ls).2.1 = p2 at HC
  replace HC := Lib.hid HC
  clear h0 hV
  go_enter Tryz.func31, Tryz.ntmps31
  go_wp2_with (first
    | (go_at_call 19; refine HC.out.mono ?_; rintro e w1 ⟨rfl, hb1⟩; obtain ⟨hc1, hf1'⟩ := bcell hb1; have hbw1 := B_trans hbl hb1)
    | (go_at_call 61; refine (HY.out _).mono ?_; rintro e w2 ⟨M, rfl, hM, hS, hb2⟩; obtain ⟨hc2, hf2'⟩ := bcell hb2; have hz1 : w.heap.size < w1.heap.size := (by have := hb1.size; simp at this; omega); have hbw2 := B_trans hbw1 hb2; have HS := Lib.hid hS; clear hS)
    | (go_at_call 62; refine (HRo.out _ hbw2).mono ?_; rintro e w3 ⟨a, n, c, rfl, hI, hb3⟩; have HI := Lib.hid hI; clear hI))
  have hz2 := hb2.size
  have hz3 := hb3.size
  have hS3 := Lib.hid (HS.out.below hb3)
  have hMl := hS3.out.lt
  have hbw3 : Below w.heap.size w w3 := B_trans hbw2 hb3
  have hMB : w.heap.size < M := by omega
  have hbx : Hid (∀ j, w3.cell? ⟨w.heap.size, j, none⟩ = (w.alloc (.cells r.cs 30)).cell? ⟨w.heap.size, j, none⟩) := fun j => by
    rw [hb3.cell (p := ⟨w.heap.size, j, none⟩) (by show w.heap.size < _; omega), hb2.cell (p := ⟨w.heap.size, j, none⟩) hz1, hb1.cell (p := ⟨w.heap.size, j, none⟩) (by simp)]
  have hnL := HI.out.len
  have hn20 : n ≤ 20 := by omega
  have hzB : w.heap.size < w3.heap.size := by omega
  have HnL := Lib.hid hnL
  clear hc1 hf1' hc2 hf2' hb1 hb2 hb3 HC HY HRo hbl hbw1 hbw2 hz1 hz2 hz3 HS hnL
  go_loopg [2, 10, 11, 28] n (fun gk v2 x m i wr => ∃ k : Nat, gk = n - k ∧ k ≤ n ∧ i = .int .i64 k ∧ Hid (YearsInv w.heap.size M r ss L w3 k v2 wr))
  case atStart => exact ⟨0, rfl, Nat.zero_le _, rfl, ⟨hS3.out, only_refl _ _, [], World.ownsRow_nil _ _ _ _, rfl, fun j h => absurd h (by omega)⟩⟩
  case round =>
    obtain ⟨k, rfl, hk, rfl, hinv⟩ := hrel
    have hg := hinv.out.only
    have hzw := hg.size
    have hbw : Below w.heap.size w wr := Below.of_only hbw3 hg hbw3.size (by omega)
    have hbb : ∀ j, wr.cell? ⟨w.heap.size, j, none⟩ = (w.alloc (.cells r.cs 30)).cell? ⟨w.heap.size, j, none⟩ := fun j => (only_cell hg hzB (by omega)).trans (hbx.out j)
    by_cases hlt : k < n
    · obtain ⟨b, o, hab, hbs, hcells⟩ := HI.out.at_ (by omega)
      have c0 := (only_cell hg hbs (hS3.out.ne (hcells k hlt))).trans (hcells k hlt)
      have hM1 := Lib.hid (HMa.out (L.getD k 0) wr hbw)
      have hrange := possTo_range (r := r) (ss := ss) (L := L) (by omega) (by omega) k
      have hpost : Hid (∀ y, possTo r ss L (k + 1) y = (possTo r ss L k y && nearB (madeL r ss (L.getD k 0)) r.k y)) := fun y => rfl
      have hml : Hid (madeL r ss (L.getD k 0) = yl (madeTo (madeLo r.lo r.k) r.hi ss (L.getD k 0) r.sn)) := rfl
      obtain ⟨q, hq⟩ : ∃ q, L.getD k 0 = q := ⟨_, rfl⟩
      rw [hq] at c0 hM1 hpost hml
      have Hq := Lib.hid hq
      clear hq hcells
      go_wp2_with (go_at_call 63; refine hM1.out.mono ?_; rintro e w4 ⟨v, rfl, hrow, hnil, hb4⟩; clear hnil; obtain ⟨a1, n1, c1, rfl, hI1, -⟩ := ints_of_row hrow; have Hrow := Lib.hid (And.intro hrow hI1); clear hrow hI1; obtain ⟨hc4, hf4⟩ := bcell hb4)
      rw [← hml.out] at Hrow
      have hz4 := hb4.size
      have hset4 := (hinv.out.set.below hb4).below (B_alloc (Below.refl _ _) (.cells #[.slice a1 n1 c1] 41))
      have hI5 := Hrow.out.2.below (B_alloc (Below.refl _ _) (.cells #[.slice a1 n1 c1] 41))
      have hn1 : n1 ≤ 3001 := by rw [← Hrow.out.2.len]; unfold madeL; exact yl_len _
      have hkeep : (w4.alloc (.cells #[.slice a1 n1 c1] 41)).cell? ⟨w.heap.size, 6, none⟩ = some (.int .i64 r.k) := by
        rw [alloc_old _ _ _ _ (by omega), hc4 _ _ (by omega), hbb, box_cell w r 6 _ rfl]; rfl
      have hmade : (w4.alloc (.cells #[.slice a1 n1 c1] 41)).cell? ⟨w4.heap.size, 0, none⟩ = some (.slice a1 n1 c1) := by rw [World.cell?_alloc_at _ _ _ _ rfl]; rfl
      have hK := keepYears_any M (possTo r ss L k) (nearB (madeL r ss q) r.k) 65 #[.pointer (some ⟨w4.heap.size, 0, none⟩), .pointer (some ⟨w.heap.size, 0, none⟩)] (w4.alloc (.cells #[.slice a1 n1 c1] 41)) hset4 hrange ent64
        (fun x W hx0 hx1 hW => nearY_any w4.heap.size w.heap.size a1 n1 c1 (madeL r ss q) r.k x W (by omega) ((only_cell hW (by simp) (hset4.ne hmade)).trans hmade) (by have := hW.size; simp at this; omega) (hI5.only hW hset4)
          ((only_cell hW (by simp; omega) (by omega)).trans hkeep) (by have := hW.size; simp at this; omega) hk0 hk1 hx0 hx1)
      have HK := Lib.hid hK
      have Hne := Lib.hid (hset4.ne hmade)
      clear hK hkeep hmade
      obtain ⟨fl, hfl, hrc⟩ := hinv.out.rolls
      have hfl4 := ownsRow_below (ownsRow_below hfl hb4) (B_alloc (Below.refl _ _) (.cells #[.slice a1 n1 c1] 41))
      have hrc4 := (hrc.kept (fun v n xs h => ownsRow_below (ownsRow_below h hb4) (B_alloc (Below.refl _ _) (.cells #[.slice a1 n1 c1] 41))))
      have hrow4 := ownsRow_below Hrow.out.1 (B_alloc (Below.refl _ _) (.cells #[.slice a1 n1 c1] 41))
      have HF4 := Lib.hid (And.intro hfl4 (And.intro hrc4 (And.intro hrow4 hset4)))
      clear hfl hrc hfl4 hrc4 hrow4 hset4 hI5
      go_wp2_with (first
        | (go_at_call 64; refine HK.out.mono ?_; rintro e w5 ⟨rfl, hs5, hg5⟩; have HS5 := Lib.hid hs5; clear hs5; have ct5 : w5.cell? ⟨w4.heap.size, 0, none⟩ = some (.slice a1 n1 c1) := ((only_cell hg5 (by simp) Hne.out).trans (by rw [World.cell?_alloc_at _ _ _ _ rfl]; rfl)); have hfl5 := Lib.hid (HF4.out.1.kept hg5 (row_ne HF4.out.2.2.2 HF4.out.1)); have hz5 := hg5.size)
        | (at_builtin; refine wpList_append_own _ rfl _ _ 49 rfl w3.heap.size 77 i77 (.agg #[.int .i64 0, .slice none 0 0]) 2 32 Tryz.underlying49 hi77 hz77 hs77 hy77 rfl (by decide) _ _ _ rfl (hfl5.out.alloc _) ⟨w5.heap.size, 0, none⟩ 1 1 [.int .i64 q, .slice a1 n1 c1] rfl rfl ?c1 ?c2 ?c3 ?c4 ?c5 ?_))
      case c1 => exact news_at _ _ _
      case c2 => intro u hu; simp at hu; rcases hu with rfl | rfl <;> rfl
      case c3 => unfold maxLen; omega
      case c4 => omega
      case c5 => simp at hz5 ⊢; omega
      intro v' w6 hown' hgrow _
      have hneM := row_ne HF4.out.2.2.2 HF4.out.1
      have hz45 : w4.heap.size ≤ w5.heap.size := by simp at hz5; omega
      have hg05 : w3.grownBy w5 (some M) := only_trans (only_alloc (only_trans hg (grown_of_below hb4 _)) _) hg5
      have hg06 : w3.grownBy w6 (some M) := (only_alloc hg05 _).andThen hgrow (fun j e => .inl (HF4.out.1.lt j e).1)
      have hset6 : SetAt w6 M (possTo r ss L (k + 1)) := by
        have h1 := (HS5.out.below (B_alloc (Below.refl _ _) (.cells #[.int .i64 q, .slice a1 n1 c1] 77))).kept hgrow (fun e => hneM.elim (fun h => by rw [h] at e; cases e) (fun h => h e.symm))
        obtain ⟨D, h2, h3, h4⟩ := h1
        exact ⟨D, h2, h3, fun x => by rw [h4 x, hpost.out x]⟩
      have hkeepRow : ∀ v n xs, (w4.alloc (.cells #[.slice a1 n1 c1] 41)).ownsRow w.heap.size 3 1 v n xs → w6.ownsRow w.heap.size 3 1 v n xs := fun v n xs h => by
        have h1 := (h.kept hg5 (row_ne HF4.out.2.2.2 h)).alloc (.cells #[.int .i64 q, .slice a1 n1 c1] 77)
        exact h1.kept hgrow (rows_ne (by decide) (hfl5.out.alloc (.cells #[.int .i64 q, .slice a1 n1 c1] 77)) h1)
      have hinv6 : YearsInv w.heap.size M r ss L w3 (k + 1) v' w6 := by
        refine ⟨hset6, hg06, _, hown', ?_⟩
        have h1 := (HF4.out.2.1.kept hkeepRow).snoc (v := .slice a1 n1 c1) (by rw [Hq.out]; exact hkeepRow _ _ _ (Joins.ownsRow_le HF4.out.2.2.1 hbw.size))
        rw [Hq.out] at h1
        exact h1
      have Hinv6 := Lib.hid hinv6
      clear hown' hgrow hneM hset6 hkeepRow hinv6 hg05 hg06 hpost hml hM1
      go_wp2
      try rw [← hab]
      clear hab
      go_roundg (n - (k + 1))
      case measure => omega
      case rel => exact ⟨k + 1, rfl, by omega, by go_num, Hinv6.out⟩
    · have hk1 : k = L.length := by rw [HnL.out]; omega
      rw [hk1] at hinv
      have hA := Lib.hid (ascending_any M _ wr hinv.out.set (possTo_range (by omega) (by omega) L.length))
      clear hk1
      go_wp2_with (go_at_call 68; refine hA.out.mono ?_; rintro e w4 ⟨v, rfl, hrow, hnil, hb4⟩; have Hrow := Lib.hid hrow; clear hrow hnil)
      go_ret3
      obtain ⟨fl, hfl, hrc⟩ := hinv.out.rolls
      exact ⟨hPost.out _ _ ⟨_, v, fl, rfl, Joins.ownsRow_le (ownsRow_below hfl hb4) hbw3.size, hrc.kept (fun v n xs h => ownsRow_below h hb4), Joins.ownsRow_le Hrow.out hbw.size⟩, B_trans hbw hb4⟩

theorem years_no (r : RA) (ms : List T3) (ss : List T2) (ls : List T3) (w : World) (G : Glob w) (hR : Reads w r ms ss ls) (h0 : (checkS r ms ss ls).2.2 ≠ 0) :
    Calls Tryz.prog 31 #[.agg r.cs] w fun e w' => e = .returned (.tuple #[.slice none 0 0, .slice none 0 0, .int .i64 (checkS r ms ss ls).2.2]) ∧ Below w.heap.size w w' := by
  have hbl : Below w.heap.size w (w.alloc (.cells r.cs 30)) := B_alloc (Below.refl _ _) _
  have HC := check_any r ms ss ls _ (G.alloc (.cells r.cs 30)) (hR.below hbl)
  have hb0 : ((checkS r ms ss ls).2.2 != 0) = true := by simp [h0]
  generalize (checkS r ms ss ls).2.2 = p0 at HC h0 hb0 ⊢
  generalize (checkS r ms ss ls).1 = p1 at HC
  generalize (checkS r ms ss ls).2.1 = p2 at HC
  replace HC := Lib.hid HC
  clear h0
  go_enter Tryz.func31, Tryz.ntmps31
  go_wp2_with (go_at_call 19; refine HC.out.mono ?_; rintro e w1 ⟨rfl, hb1⟩)
  go_ret3
  exact ⟨rfl, B_trans hbl hb1⟩
end Go.Proofs.YtgjpbffoalldkaaGreatDoor

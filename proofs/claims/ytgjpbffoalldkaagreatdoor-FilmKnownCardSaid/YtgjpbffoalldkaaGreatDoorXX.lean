/- The walk of the reference's Years. -/
import Derived.Test.YtgjpbffoalldkaaGreatDoorXW
import Derived.Test.YtgjpbffoalldkaaGreatDoorXN
namespace Go.Proofs.YtgjpbffoalldkaaGreatDoor
open Go.RowKit Go.Maps Go.Lib

/-- Has a roll a symbol? -/
def hasRoll (ss : List T2) (x : Int) : Bool := (ss.map (·.1)).contains x
theorem has_mem {ss : List T2} {x : Int} : hasRoll ss x = true ↔ ∃ j, j < ss.length ∧ (ss.getD j (0, 0)).1 = x := by
  unfold hasRoll
  rw [List.contains_iff_mem, List.mem_map]
  constructor
  · rintro ⟨a, ha, rfl⟩
    obtain ⟨j, hj, rfl⟩ := List.getElem_of_mem ha
    exact ⟨j, hj, by rw [List.getD_eq_getElem?_getD, List.getElem?_eq_getElem hj]; rfl⟩
  · rintro ⟨j, hj, h⟩
    refine ⟨ss[j], List.getElem_mem hj, ?_⟩
    rw [List.getD_eq_getElem?_getD, List.getElem?_eq_getElem hj] at h
    exact h
theorem has_no {ss : List T2} {x : Int} (h : ∀ j, j < ss.length → (ss.getD j (0, 0)).1 ≠ x) : hasRoll ss x = false := by
  cases hh : hasRoll ss x with
  | false => rfl
  | true => obtain ⟨j, hj, e⟩ := has_mem.1 hh; exact absurd e (h j hj)
theorem rolls_up {r : RA} {ms : List T3} {ss : List T2} {ls : List T3} (hV : Valid r ms ss ls) (hl : ss.length = r.sn) : upTo (hasRoll ss) 100 = rollsL ss := by
  have hs : ((ss.map (·.1)).mergeSort fun x y => decide (x ≤ y)).Pairwise (fun x y => x ≤ y) := by
    have := List.pairwise_mergeSort (le := fun (x y : Int) => decide (x ≤ y)) (fun a b c h1 h2 => by simp at *; omega) (fun a b => by simp; omega) (ss.map (·.1))
    exact this.imp (fun h => by simpa using h)
  obtain ⟨c1, c2⟩ := compact_asc hs
  refine asc_ext (upTo_sorted _ _) c1 (fun x => ?_)
  rw [upTo_mem]
  change _ ↔ x ∈ compact _
  rw [c2, List.mem_mergeSort]
  constructor
  · rintro ⟨-, -, h⟩
    exact List.contains_iff_mem.1 h
  · intro h
    have hh : hasRoll ss x = true := List.contains_iff_mem.2 h
    obtain ⟨j, hj, e⟩ := has_mem.1 hh
    have := (hV.sym (i := j) (by omega)).1
    exact ⟨by omega, by omega, hh⟩
theorem RollCells.ext {B : Nat} {w : World} {r : RA} {ss : List T2} {L L' : List Int} {k : Nat} {fl : List Value} (h : RollCells B w r ss L k fl) (he : ∀ j, j < k → L'.getD j 0 = L.getD j 0) : RollCells B w r ss L' k fl :=
  ⟨h.len, fun j hj => by rw [he j hj]; exact h.at_ j hj⟩
/-- The rolls that are found so far. -/
def RollsInv (B : Nat) (r : RA) (ss : List T2) (L : List Int) (v : Value) (w : World) : Prop := ∃ fl, w.ownsRow B 77 2 v L.length fl ∧ RollCells B w r ss L L.length fl
theorem RollsInv.more {B : Nat} {r : RA} {ss : List T2} {L : List Int} {q : Int} {fl : List Value} {v v' : Value} {w : World} (h : RollCells B w r ss L L.length fl) (hv : w.ownsRow B 3 1 v (madeL r ss q).length ((madeL r ss q).map (Value.int .i64)))
    (ho : w.ownsRow B 77 2 v' (L.length + 1) (fl ++ [.int .i64 q, v])) : RollsInv B r ss (L ++ [q]) v' w := by
  have e : (L ++ [q]).getD L.length 0 = q := by simp
  have h1 := (h.ext (L' := L ++ [q]) (fun j hj => by simp [List.getD_eq_getElem?_getD, List.getElem?_append_left hj])).snoc (v := v) (by rw [e]; exact hv)
  rw [e] at h1
  refine ⟨_, by rw [List.length_append]; exact ho, ?_⟩
  rw [List.length_append]
  exact h1
/-- A slice of rolls. -/
structure RollAt (w : World) (a : Option Addr) (n : Nat) (made : Int → List Int) (L : List Int) : Prop where
  len : L.length = n
  at_ : 0 < n → ∃ b, a = some ⟨b, 0, none⟩ ∧ b < w.heap.size ∧ ∀ i, i < n → w.cell? ⟨b, i * 2, none⟩ = some (.int .i64 (L.getD i 0)) ∧ ∃ a' n' c', w.cell? ⟨b, i * 2 + 1, none⟩ = some (.slice a' n' c') ∧ Ints w a' n' (made (L.getD i 0))
theorem RollAt.below {w w' : World} {a : Option Addr} {n : Nat} {made : Int → List Int} {L : List Int} (h : RollAt w a n made L) (hb : Below w.heap.size w w') : RollAt w' a n made L :=
  ⟨h.len, fun hn => let ⟨b, e, hl, hc⟩ := h.at_ hn; ⟨b, e, Nat.lt_of_lt_of_le hl hb.size, fun i hi => by
    obtain ⟨h1, a', n', c', h2, h3⟩ := hc i hi
    exact ⟨(hb.cell (p := ⟨b, i * 2, none⟩) hl).trans h1, a', n', c', (hb.cell (p := ⟨b, i * 2 + 1, none⟩) hl).trans h2, h3.below hb⟩⟩⟩
theorem rollAt_of {B : Nat} {w : World} {r : RA} {ss : List T2} {L : List Int} {fl : List Value} {v : Value} (ho : w.ownsRow B 77 2 v L.length fl) (hc : RollCells B w r ss L L.length fl) : ∃ a c, v = .slice a L.length c ∧ RollAt w a L.length (madeL r ss) L ∧ (∀ x, a = some x → B ≤ x.block) := by
  rcases Joins.ownsRow_forms ho with ⟨rfl, hn⟩ | ⟨g, cap, rfl⟩
  · rw [hn]
    exact ⟨none, 0, rfl, ⟨hn, fun h => absurd h (by omega)⟩, fun x e => by cases e⟩
  · refine ⟨_, _, rfl, ⟨rfl, fun _ => ⟨g, rfl, (ho.lt g rfl).2, fun i hi => ?_⟩⟩, fun x e => by cases e; exact (ho.lt g rfl).1⟩
    obtain ⟨u, h1, h2, h3⟩ := hc.at_ i hi
    obtain ⟨a1, n1, c1, rfl, hI, -⟩ := ints_of_row h3
    refine ⟨by rw [ho.cellAt (i * 2) (by omega)]; exact h1, a1, n1, c1, by rw [ho.cellAt (i * 2 + 1) (by omega)]; exact h2, hI⟩
theorem possTo_lo {r : RA} {ss : List T2} {L : List Int} {x : Int} : ∀ n, possTo r ss L n x = true → r.lo ≤ x ∧ x ≤ r.hi
  | 0, h => by simpa [possTo, inB] using h
  | n + 1, h => by
    unfold possTo at h
    rw [Bool.and_eq_true] at h
    exact possTo_lo n h.1
theorem take_any {zs : List Int} {p : Int → Bool} {t : Nat} (h : t < zs.length) : (zs.take (t + 1)).any p = ((zs.take t).any p || p (zs.getD t 0)) := by
  rw [List.take_succ_eq_append_getElem h, List.any_append, List.getD_eq_getElem?_getD, List.getElem?_eq_getElem h]
  simp

set_option maxHeartbeats 4000000 in
set_option maxRecDepth 100000 in
theorem refYears_yes (r : RA) (ms : List T3) (ss : List T2) (ls : List T3) (w : World) (hR : Reads w r ms ss ls) (h0 : (checkS r ms ss ls).2.2 = 0) :
    Calls Tryz.prog 32 #[.agg r.cs] w fun e w' => YearsPost w.heap.size r ss e w' ∧ Below w.heap.size w w' := by
  have hV := valid_of h0
  obtain ⟨-, -, -, -, ⟨hk0, hk1⟩, ⟨hl0, hl1⟩, ⟨hh0, hh1⟩, hlh⟩ := wholeE_ok hV.whole
  have hbl : Below w.heap.size w (w.alloc (.cells r.cs 30)) := B_alloc (Below.refl _ _) _
  have HC := refValid_any r ms ss ls _ (hR.below hbl)
  have HMa := Lib.hid (fun roll W (h : Below w.heap.size w W) => refMade_any r roll ms ss ls W (hR.below h) hV)
  have HUp := Lib.hid (rolls_up hV hR.s.len)
  have HIn := Lib.hid (fun a b c W => in_any a b c W)
  have hsn := hV.sn
  obtain ⟨i3, hi3, hz3', hs3, hy3⟩ := info_parts info3
  obtain ⟨i77, hi77, hz77, hs77, hy77⟩ := info_parts info77
  have hPost : Hid (∀ e W, (∃ vr vp fl, e = .returned (.tuple #[vr, vp, .int .i64 0]) ∧ W.ownsRow w.heap.size 77 2 vr (rollsL ss).length fl ∧ RollCells w.heap.size W r ss (rollsL ss) (rollsL ss).length fl ∧
    W.ownsRow w.heap.size 3 1 vp (yl (possTo r ss (rollsL ss) (rollsL ss).length)).length ((yl (possTo r ss (rollsL ss) (rollsL ss).length)).map (Value.int .i64))) → YearsPost w.heap.size r ss e W) := fun e W h => h
  have HLen : Hid ((rollsL ss).length ≤ 100) := by rw [Hid, ← HUp.out]; exact upTo_len _ _
  generalize YearsPost w.heap.size r ss = PP at hPost ⊢
  generalize rollsL ss = L at HUp hPost HLen
  rw [h0] at HC
  replace HC := Lib.hid HC
  clear h0 hV
  go_enter Tryz.func32, Tryz.ntmps32
  go_wp2_with (go_at_call 58; refine HC.out.mono ?_; rintro e W0 ⟨rfl, hb1⟩)
  have hz3 : w.heap.size < W0.heap.size := by have := hb1.size; simp at this; omega
  have hbx : ∀ j, W0.cell? ⟨w.heap.size, j, none⟩ = r.cs[j]? := fun j => by
    rw [hb1.cell (p := ⟨w.heap.size, j, none⟩) (by simp), World.cell?_alloc_at _ _ _ _ rfl]
  have hbW : Below w.heap.size w W0 := B_trans hbl hb1
  have hR0 := Lib.hid (hR.below hbW)
  have HX := Lib.hid hbx
  clear hbx hb1 hbl HC
  go_loopg [6, 7, 8] 100 (fun gk v q i wr => ∃ k : Nat, gk = 100 - k ∧ k ≤ 100 ∧ q = .int .i64 k ∧ Below W0.heap.size W0 wr ∧ Hid (RollsInv W0.heap.size r ss (upTo (hasRoll ss) k) v wr))
  case atStart => exact ⟨0, rfl, Nat.zero_le _, rfl, Below.refl _ _, ⟨[], World.ownsRow_nil _ _ _ _, rfl, fun j h => absurd h (by simp [upTo])⟩⟩
  case round =>
    obtain ⟨k, rfl, hk, rfl, hb, hinv⟩ := hrel
    have hzw := hb.size
    have hcb : ∀ j, wr.cell? ⟨w.heap.size, j, none⟩ = r.cs[j]? := fun j => (hb.cell (p := ⟨w.heap.size, j, none⟩) hz3).trans (HX.out j)
    have m4 : wr.cell? ⟨w.heap.size, 4, none⟩ = some (.int .i64 r.lo) := hcb 4
    have m5 : wr.cell? ⟨w.heap.size, 5, none⟩ = some (.int .i64 r.hi) := hcb 5
    have m6 : wr.cell? ⟨w.heap.size, 6, none⟩ = some (.int .i64 r.k) := hcb 6
    by_cases hle : k ≤ 99
    · have m0 : wr.cell? ⟨w.heap.size, 0, none⟩ = some (.string r.nm) := hcb 0
      have m1 : wr.cell? ⟨w.heap.size, 1, none⟩ = some (.int .i64 r.g) := hcb 1
      have m2 : wr.cell? ⟨w.heap.size, 2, none⟩ = some (.int .i64 r.b) := hcb 2
      have m3 : wr.cell? ⟨w.heap.size, 3, none⟩ = some (.int .i64 r.f) := hcb 3
      have m7 : wr.cell? ⟨w.heap.size, 7, none⟩ = some (.slice r.ma r.mn r.mc) := hcb 7
      have m8 : wr.cell? ⟨w.heap.size, 8, none⟩ = some (.slice r.sa r.sn r.sc) := hcb 8
      have m9 : wr.cell? ⟨w.heap.size, 9, none⟩ = some (.slice r.la r.ln r.lc) := hcb 9
      clear hcb
      have hsuc := Lib.hid (upTo_succ (hasRoll ss) k)
      have hul := upTo_len (hasRoll ss) k
      generalize upTo (hasRoll ss) k = U at hinv hsuc hul
      obtain ⟨wo, rfl⟩ : ∃ wo, wo = wr := ⟨wr, rfl⟩
      go_wp2_with fail
      go_loopg [6, 8] r.sn (fun gk v6 i wx => ∃ j : Nat, gk = r.sn - j ∧ j ≤ r.sn ∧ v6 = u6 ∧ i = .int .i64 j ∧ wx = wo ∧ Hid (∀ j', j' < j → (ss.getD j' (0, 0)).1 ≠ k))
      case atStart => exact ⟨0, rfl, Nat.zero_le _, rfl, rfl, rfl, fun j' h => absurd h (Nat.not_lt_zero _)⟩
      case round =>
        obtain ⟨j, rfl, hj, rfl, rfl, rfl, hno⟩ := hrel
        by_cases hlt : j < r.sn
        · obtain ⟨b, o, hab, hbs, hcells⟩ := hR0.out.s.at_ (by omega)
          obtain ⟨c0, -⟩ := hcells j hlt
          rw [← hb.cell (p := ⟨b, _, none⟩) hbs] at c0
          clear hcells
          rw [hab] at m8
          obtain ⟨x, hx⟩ : ∃ x, (ss.getD j (0, 0)).1 = x := ⟨_, rfl⟩
          rw [hx] at c0
          by_cases hroll : x = (k : Int)
          · have hs2 : Hid (upTo (hasRoll ss) (k + 1) = U ++ [(k : Int)]) := by
              rw [Hid, hsuc.out, if_pos (has_mem.2 ⟨j, by rw [hR0.out.s.len]; exact hlt, by rw [hx, hroll]⟩)]
            have hMk := HMa.out (k : Int) wr (hbW.trans (hb.mono hbW.size))
            simp only [RA.cs, hab] at hMk
            replace hMk := Lib.hid hMk
            clear hx hsuc hno
            subst hroll
            obtain ⟨fl, hfl, hrc⟩ := hinv
            have HF := Lib.hid (And.intro hfl hrc)
            clear hfl hrc
            have hbwr : b < wr.heap.size := by omega
            go_wp2_with (first
              | (go_at_call 69; (with_reducible refine hMk.out.mono ?_); rintro e w4 ⟨v4, rfl, hrow, hb4⟩; obtain ⟨a1, n1, c1, rfl, hI1, -⟩ := ints_of_row hrow; have Hrow := Lib.hid hrow; clear hrow hI1; have hz4 := hb4.size; have hfl4 := Lib.hid (ownsRow_below HF.out.1 hb4))
              | (at_builtin; refine wpList_append_own _ rfl _ _ 49 rfl W0.heap.size 77 i77 (.agg #[.int .i64 0, .slice none 0 0]) 2 32 Tryz.underlying49 hi77 hz77 hs77 hy77 rfl (by decide) _ _ _ rfl (hfl4.out.alloc _) ⟨w4.heap.size, 0, none⟩ 1 1 [.int .i64 (k : Int), .slice a1 n1 c1] rfl rfl ?c1 ?c2 ?c3 ?c4 ?c5 ?_))
            case c1 => exact news_at _ _ _
            case c2 => intro u hu; simp at hu; rcases hu with rfl | rfl <;> rfl
            case c3 => unfold maxLen; omega
            case c4 => omega
            case c5 => simp; omega
            intro v' w6 hown' hgrow _
            have hbn : Below W0.heap.size W0 w6 := B_grown (B_alloc (B_trans hb hb4) _) (by simp; omega) (hfl4.out.alloc _) hgrow
            have hkeepRow : ∀ v n xs, w4.ownsRow W0.heap.size 3 1 v n xs → w6.ownsRow W0.heap.size 3 1 v n xs := fun v n xs h => by
              have h1 := h.alloc (.cells #[.int .i64 (k : Int), .slice a1 n1 c1] 77)
              exact h1.kept hgrow (rows_ne (by decide) (hfl4.out.alloc (.cells #[.int .i64 (k : Int), .slice a1 n1 c1] 77)) h1)
            have hinv6 : Hid (RollsInv W0.heap.size r ss (upTo (hasRoll ss) (k + 1)) v' w6) := by
              rw [Hid, hs2.out]
              refine RollsInv.more ((HF.out.2.kept (fun v n xs h => ownsRow_below h hb4)).kept hkeepRow) (v := .slice a1 n1 c1) (hkeepRow _ _ _ (Joins.ownsRow_le Hrow.out hzw)) ?_
              exact hown'
            clear hown' hgrow hkeepRow
            go_wp2
            try rw [← hab]
            go_roundg (100 - (k + 1))
            case measure => omega
            case rel => exact ⟨k + 1, rfl, by omega, by go_num, hbn, hinv6⟩
          · have hb0 : (x == (k : Int)) = false := by simpa using hroll
            have hno2 : Hid (∀ j', j' < j + 1 → (ss.getD j' (0, 0)).1 ≠ k) := fun j' h => by
              by_cases e : j' = j
              · rw [e, hx]; exact hroll
              · exact hno.out j' (by omega)
            clear hx hsuc hno
            go_wp2
            try rw [← hab]
            go_roundg (r.sn - (j + 1))
            case measure => omega
            case rel => exact ⟨j + 1, rfl, by omega, rfl, by go_num, rfl, hno2⟩
        · have hs2 : Hid (upTo (hasRoll ss) (k + 1) = U) := by
            rw [Hid, hsuc.out, if_neg (by rw [has_no (fun j' h => hno.out j' (by rw [hR0.out.s.len] at h; omega))]; decide), List.append_nil]
          clear hsuc hno
          go_wp2
          go_roundg (100 - (k + 1))
          case measure => omega
          case rel => exact ⟨k + 1, rfl, by omega, by go_num, hb, by rw [hs2.out]; exact hinv⟩
    · clear hcb
      obtain rfl : k = 100 := by omega
      rw [HUp.out] at hinv
      obtain ⟨fl, hfl, hrc⟩ := hinv
      obtain ⟨va, vc, rfl, hRA, -⟩ := rollAt_of hfl hrc
      have HF := Lib.hid (And.intro hfl hrc)
      have HRA := Lib.hid hRA
      have hL := HLen.out
      have Hbw : Hid (Below w.heap.size w wr) := hbW.trans (hb.mono hbW.size)
      clear hfl hrc hRA m6 hle hk
      have HFin : Hid (upTo (possTo r ss L L.length) (r.hi.toNat + 1) = yl (possTo r ss L L.length)) := upTo_yl (by omega) (fun x hx => by
        cases h : possTo r ss L L.length x with
        | false => rfl
        | true => have := possTo_lo _ h; omega)
      have HIni : Hid (upTo (possTo r ss L L.length) r.lo.toNat = []) := upTo_none (fun x hx => by
        cases h : possTo r ss L L.length x with
        | false => rfl
        | true => have := possTo_lo _ h; omega)
      have HP : Hid (∀ y, possTo r ss L L.length y = possTo r ss L L.length y) := fun y => rfl
      generalize hPo : possTo r ss L L.length = P at HFin HIni hPost
      have HPo := Lib.hid hPo
      clear hPo HP
      obtain ⟨wo, rfl⟩ : ∃ wo, wo = wr := ⟨wr, rfl⟩
      have hBo : w.heap.size < wo.heap.size := by omega
      have HX2 : Hid (∀ j, wo.cell? ⟨w.heap.size, j, none⟩ = r.cs[j]?) := fun j => (hb.cell (p := ⟨w.heap.size, j, none⟩) hz3).trans (HX.out j)
      clear hb
      go_wp2_with fail
      go_loopg [9, 10, 11, 12, 13, 14] (r.hi + 1 - r.lo).toNat (fun gk v y f i s kk wx => ∃ y' : Nat, gk = r.hi.toNat + 1 - y' ∧ r.lo ≤ y' ∧ (y' : Int) ≤ r.hi + 1 ∧ y = .int .i64 y' ∧ Below wo.heap.size wo wx ∧ Hid (wx.ownsRow wo.heap.size 3 1 v (upTo P y').length ((upTo P y').map (Value.int .i64))))
      case atStart => exact ⟨r.lo.toNat, by omega, by omega, by omega, by rw [show ((r.lo.toNat : Nat) : Int) = r.lo by omega], Below.refl _ _, by rw [HIni.out]; exact World.ownsRow_nil _ _ _ _⟩
      case round =>
        clear m4 m5
        obtain ⟨y, rfl, hy1, hy2, rfl, hb, hown⟩ := hrel
        have hzw := hb.size
        have m5 : wr.cell? ⟨w.heap.size, 5, none⟩ = some (.int .i64 r.hi) := (hb.cell (p := ⟨w.heap.size, 5, none⟩) hBo).trans (HX2.out 5)
        have m6 : wr.cell? ⟨w.heap.size, 6, none⟩ = some (.int .i64 r.k) := (hb.cell (p := ⟨w.heap.size, 6, none⟩) hBo).trans (HX2.out 6)
        by_cases hyh : (y : Int) ≤ r.hi
        · have hul := upTo_len P y
          have hsuc := Lib.hid (upTo_succ P y)
          have hp0 : possTo r ss L 0 y = true := by simp [possTo, inB]; omega
          obtain ⟨w2, rfl⟩ : ∃ w2, w2 = wr := ⟨wr, rfl⟩
          go_wp2_with fail
          go_loopg [11, 12, 13, 14] L.length (fun gk f i s kk wx => ∃ j : Nat, gk = L.length - j ∧ j ≤ L.length ∧ f = .bool (possTo r ss L j y) ∧ i = .int .i64 j ∧ Below w2.heap.size w2 wx)
          case atStart => exact ⟨0, rfl, Nat.zero_le _, by rw [hp0], rfl, Below.refl _ _⟩
          case round =>
            obtain ⟨j, rfl, hj, rfl, rfl, hb2⟩ := hrel
            have hzw2 := hb2.size
            by_cases hlt : j < L.length
            · have hRA2 := (HRA.out.below hb).below hb2
              obtain ⟨b, hva, hbs, hcells⟩ := hRA2.at_ (by omega)
              obtain ⟨c0, a1, n1, d1, c1, i1⟩ := hcells j hlt
              have hps : Hid (possTo r ss L (j + 1) y = (possTo r ss L j y && nearB (madeL r ss (L.getD j 0)) r.k y)) := rfl
              have hml : (madeL r ss (L.getD j 0)).length ≤ 3001 := yl_len _
              generalize madeL r ss (L.getD j 0) = made at i1 hps hml
              have hn1 : made.length = n1 := i1.len
              have hn2 : n1 ≤ 100000 := by omega
              have m6' : wr.cell? ⟨w.heap.size, 6, none⟩ = some (.int .i64 r.k) := (hb2.cell (p := ⟨w.heap.size, 6, none⟩) (by show w.heap.size < _; omega)).trans m6
              subst hva
              clear hcells hRA2 c0
              generalize possTo r ss L j y = cur at hps ⊢
              obtain ⟨w3, rfl⟩ : ∃ w3, w3 = wr := ⟨wr, rfl⟩
              go_wp2_with fail
              go_loopg [13, 14] n1 (fun gk s kk wx => ∃ t : Nat, gk = n1 - t ∧ t ≤ n1 ∧ s = .bool ((made.take t).any (fun m => inB m (y - r.k) y)) ∧ kk = .int .i64 t ∧ Below w3.heap.size w3 wx)
              case atStart => exact ⟨0, rfl, Nat.zero_le _, rfl, rfl, Below.refl _ _⟩
              case round =>
                obtain ⟨t, rfl, ht, rfl, rfl, hb3⟩ := hrel
                have hzw3 := hb3.size
                have m6x : wr.cell? ⟨w.heap.size, 6, none⟩ = some (.int .i64 r.k) := (hb3.cell (p := ⟨w.heap.size, 6, none⟩) (by show w.heap.size < _; omega)).trans m6'
                have c1x := (hb3.cell (p := ⟨b, j * 2 + 1, none⟩) hbs).trans c1
                by_cases htn : t < n1
                · obtain ⟨b2, o2, ha1, hbs2, hc2⟩ := (i1.below hb3).at_ (by omega)
                  have c2 := hc2 t htn
                  have hta := Lib.hid (take_any (p := fun m => inB m (y - r.k) y) (by omega : t < made.length))
                  subst ha1
                  clear hc2
                  generalize made.getD t 0 = z at c2 hta
                  generalize (made.take t).any (fun m => inB m (y - r.k) y) = sm at hta ⊢
                  have hwy : IntKind.i64.wrap ((y : Int) - r.k) = (y : Int) - r.k := IntWalk.i64_in _ (by omega)
                  cases sm
                  · go_wp2
                    go_quiet ((go_at_call 49; exact quiet_left (HIn.out _ _ _ _)))
                    go_wp2
                    go_roundg (n1 - (t + 1))
                    case measure => omega
                    case rel => exact ⟨t + 1, rfl, by omega, by rw [hta.out]; simp, by go_num, B_drewN hb3 _⟩
                  · go_wp2
                    go_quiet ((go_at_call 49; exact quiet_left (HIn.out _ _ _ _)))
                    go_wp2
                    go_roundg (n1 - (t + 1))
                    case measure => omega
                    case rel => exact ⟨t + 1, rfl, by omega, by rw [hta.out]; simp, by go_num, B_drewN hb3 _⟩
                · have e1 : (made.take t).any (fun m => inB m (y - r.k) y) = nearB made r.k y := by rw [List.take_of_length_le (by omega)]; rfl
                  rw [e1]
                  clear e1
                  generalize nearB made r.k y = nb at hps ⊢
                  cases cur
                  · go_wp2
                    go_roundg (L.length - (j + 1))
                    case measure => omega
                    case rel => exact ⟨j + 1, rfl, by omega, by rw [hps.out]; simp, by go_num, B_trans hb2 hb3⟩
                  · go_wp2
                    go_roundg (L.length - (j + 1))
                    case measure => omega
                    case rel => exact ⟨j + 1, rfl, by omega, by rw [hps.out]; simp, by go_num, B_trans hb2 hb3⟩
            · have e1 : possTo r ss L j y = P y := by rw [show j = L.length by omega, HPo.out]
              rw [e1]
              clear e1
              have hbb : Below wo.heap.size wo wr := B_trans hb hb2
              have hown2 : Hid (wr.ownsRow wo.heap.size 3 1 u9 (upTo P y).length ((upTo P y).map (Value.int .i64))) := ownsRow_below hown.out hb2
              cases hS : P y
              · have hs2 : Hid (upTo P (y + 1) = upTo P y) := by rw [Hid, hsuc.out, if_neg (by rw [hS]; decide), List.append_nil]
                clear hS hsuc
                go_wp2
                go_roundg (r.hi.toNat + 1 - (y + 1))
                case measure => omega
                case rel => exact ⟨y + 1, rfl, by omega, by omega, by go_num, hbb, by rw [hs2.out]; exact hown2⟩
              · have hs2 : Hid (upTo P (y + 1) = upTo P y ++ [(y : Int)]) := by rw [Hid, hsuc.out, if_pos hS]
                clear hS hsuc hown
                generalize upTo P y = U at hown2 hs2 hul
                go_wp2_with (at_builtin; refine wpList_append_own _ rfl _ _ 41 rfl wo.heap.size 3 i3 (.int .i64 0) 1 8 Tryz.underlying41 hi3 hz3' hs3 hy3 rfl (by decide) _ _ _ rfl (hown2.out.alloc _) ⟨_, 0, none⟩ 1 1 [.int .i64 (y : Int)] rfl rfl ?d1 ?d2 ?d3 ?d4 ?d5 ?_)
                case d1 => exact news_at _ _ _
                case d2 => intro u hu; simp at hu; subst hu; rfl
                case d3 => unfold maxLen; omega
                case d4 => omega
                case d5 => simp; omega
                intro v' w6 hown' hgrow _
                have hbn : Below wo.heap.size wo w6 := B_grown (B_alloc hbb _) (by simp; omega) (hown2.out.alloc _) hgrow
                have hown1 : Hid (w6.ownsRow wo.heap.size 3 1 v' (upTo P (y + 1)).length ((upTo P (y + 1)).map (Value.int .i64))) := by
                  rw [Hid, hs2.out, List.length_append, List.map_append]; exact hown'
                clear hown' hgrow
                go_wp2
                go_roundg (r.hi.toNat + 1 - (y + 1))
                case measure => omega
                case rel => exact ⟨y + 1, rfl, by omega, by omega, by go_num, hbn, hown1⟩
        · have e1 : y = r.hi.toNat + 1 := by omega
          rw [e1, HFin.out] at hown
          clear e1
          have hkp : ∀ v n xs, wo.ownsRow W0.heap.size 3 1 v n xs → wr.ownsRow w.heap.size 3 1 v n xs := fun v n xs h => Joins.ownsRow_le (ownsRow_below h hb) hbW.size
          have hA : wr.ownsRow w.heap.size 77 2 (.slice va L.length vc) L.length fl := Joins.ownsRow_le (ownsRow_below HF.out.1 hb) hbW.size
          have hB : RollCells w.heap.size wr r ss L L.length fl := ⟨HF.out.2.len, fun j hj => let ⟨u, h1, h2, h3⟩ := HF.out.2.at_ j hj; ⟨u, h1, h2, hkp _ _ _ h3⟩⟩
          have hC := Joins.ownsRow_le hown.out Hbw.out.size
          have HFn := Lib.hid (hPost.out _ _ ⟨_, _, fl, rfl, hA, hB, hC⟩)
          have HBn := Lib.hid (B_trans Hbw.out hb)
          clear hA hB hC hkp
          go_wp2
          go_ret3
          exact ⟨HFn.out, HBn.out⟩
end Go.Proofs.YtgjpbffoalldkaaGreatDoor

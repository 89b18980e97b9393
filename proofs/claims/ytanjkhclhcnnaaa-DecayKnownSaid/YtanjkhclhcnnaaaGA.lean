/- Lost of the reference. -/
import Derived.Test.YtanjkhclhcnnaaaDT
namespace Go.Proofs.Ytanjkhclhcnnaaa
open Go.RowKit Go.Shelf

/-- The first morning so far at which something holds, as a day; -1 if none. -/
def Seen (p : T2 → Bool) (first : Int) (L : List T2) (i : Nat) (x : Int) : Prop :=
  (x = -1 ∧ ∀ j, j < i → p (L.getD j (0, 0)) = false) ∨ ∃ j, j < i ∧ x = first + (j : Int) ∧ p (L.getD j (0, 0)) = true ∧ ∀ k, k < j → p (L.getD k (0, 0)) = false
theorem seen_start (p : T2 → Bool) (first : Int) (L : List T2) : Seen p first L 0 (-1) := .inl ⟨rfl, fun j hj => by omega⟩
theorem seen_old {p : T2 → Bool} {first : Int} {L : List T2} {i : Nat} {x : Int} (h : Seen p first L i x) (hx : ¬ x < 0) : Seen p first L (i + 1) x := by
  rcases h with ⟨rfl, -⟩ | ⟨j, h1, h2, h3, h4⟩
  · omega
  · exact .inr ⟨j, by omega, h2, h3, h4⟩
theorem seen_no {p : T2 → Bool} {first : Int} {L : List T2} {i : Nat} {x : Int} (h : Seen p first L i x) (h0 : 0 ≤ first) (hx : x < 0) (hp : p (L.getD i (0, 0)) = false) : Seen p first L (i + 1) x := by
  rcases h with ⟨rfl, h1⟩ | ⟨j, h1, h2, h3, h4⟩
  · refine .inl ⟨rfl, fun j hj => ?_⟩
    by_cases e : j = i
    · rw [e]; exact hp
    · exact h1 j (by omega)
  · omega
theorem seen_new {p : T2 → Bool} {first : Int} {L : List T2} {i : Nat} {x : Int} (h : Seen p first L i x) (h0 : 0 ≤ first) (hx : x < 0) (hp : p (L.getD i (0, 0)) = true) : Seen p first L (i + 1) (first + (i : Int)) := by
  rcases h with ⟨rfl, h1⟩ | ⟨j, h1, h2, h3, h4⟩
  · exact .inr ⟨i, by omega, rfl, hp, h1⟩
  · omega
theorem seen_all {p : T2 → Bool} {first : Int} {L : List T2} {x : Int} (h : Seen p first L L.length x) : x = lostS p first L := by
  unfold lostS
  rcases h with ⟨rfl, h1⟩ | ⟨j, h1, h2, h3, h4⟩
  · rw [idxS_none h1, if_neg (by omega)]
  · rw [idxS_at h4 h3 h1, if_pos (by omega), h2]

set_option maxRecDepth 100000 in
set_option maxHeartbeats 8000000 in
theorem refLost_bad (t : TkA) (hs ws : List T2) (ds : List T4) (ts : List T3) (w : World) (hR : TkR w t hs ws ds ts) (he : (taskS t hs ws ds ts).2.2 ≠ 0) :
    Calls Try.prog 33 #[.agg t.cs] w fun e w' => e = .returned (.tuple #[.agg #[.int .i64 0, .int .i64 0], .int .i64 (taskS t hs ws ds ts).2.2]) ∧ Below w.heap.size w w' := by
  obtain ⟨w0, hw0⟩ : ∃ w0, ((w).alloc (.cells t.cs 31)).alloc (.cells #[.int .i64 0, .int .i64 0] 28) = w0 := ⟨_, rfl⟩
  have hb0 : Below w.heap.size w w0 := by rw [← hw0]; exact B_alloc (B_alloc (Below.refl _ _) _) _
  have o0 : Ob w0 (w.heap.size) 31 t.cs := by
    rw [← hw0]
    have h := Ob.new (w) t.cs 31
    replace h := h.alloc (.cells #[.int .i64 0, .int .i64 0] 28)
    exact h
  have o1 : Ob w0 (w.heap.size + 1) 28 #[.int .i64 0, .int .i64 0] := by
    rw [← hw0]
    have h := Ob.new ((w).alloc (.cells t.cs 31)) #[.int .i64 0, .int .i64 0] 28
    simp only [World.size_alloc] at h
    exact h
  have H1 : Calls Try.prog 29 #[.agg t.cs] w0 fun e w' => ∃ la lc sa sc, e = .returned (.tuple #[.slice la (levE t hs ws ds ts).length lc, .slice sa (strE t hs ws ds ts).length sc, .int .i64 (taskS t hs ws ds ts).2.2]) ∧ Sl2 w' la (levE t hs ws ds ts).length (levE t hs ws ds ts) ∧ Sl2 w' sa (strE t hs ws ds ts).length (strE t hs ws ds ts) ∧ Below w0.heap.size w0 w' := refLevels2_any t hs ws ds ts w0 (hR.below hb0)
  generalize (taskS t hs ws ds ts).2.2 = c3 at H1 he
  generalize levE t hs ws ds ts = LV at H1
  generalize strE t hs ws ds ts = S at H1
  have hq : (c3 != 0) = true := by simpa using he
  replace H1 := Lib.hid H1
  obtain ⟨q0, q1, q2, q3, q4, q5, q6, q7, q8, q9, q10, q11, q12⟩ := o0.task
  replace o0 := Lib.hid o0
  replace o1 := Lib.hid o1
  replace hb0 := Lib.hid hb0
  replace hw0 := Lib.hid hw0
  clear hR he
  go_enter Try.func33, Try.ntmps33
  go_wp2_with fail
  rw [hw0.out]
  refine H1.out.mono ?_
  rintro e w1 ⟨la, lc, sa, sc, rfl, -, -, hb1⟩
  obtain ⟨z0, z1, z2, z3⟩ := (o1.out.below hb1).span
  have hw1 := Lib.hid (B_trans hb0.out hb1)
  clear q0 q1 q2 q3 q4 q5 q6 q7 q8 q9 q10 q11 q12 hb1
  go_wp2
  refine bodyPost_ret (v := .tuple #[.agg #[.int .i64 0, .int .i64 0], .int .i64 c3]) (by simp [results, Try.results33, go_sem, z0, z1]) rfl ⟨rfl, ?_⟩
  exact (hw1.out.setCell (by simp only; omega) _).setCell (by simp only; omega) _
/-- The memory of Lost: the task, the result, what has been found. -/
structure LM (t : TkA) (w w1 : World) (x y : Int) (W : World) : Prop where
  sz : w.heap.size + 1 < w1.heap.size
  T : Ob W w.heap.size 31 t.cs
  Z : Ob W (w.heap.size + 1) 28 #[.int .i64 0, .int .i64 0]
  O : Ob W w1.heap.size 28 #[.int .i64 x, .int .i64 y]
  b : Below w1.heap.size w1 W
variable {t : TkA} {w w1 : World} {x y : Int} {W : World}
theorem LM.drewN (h : LM t w w1 x y W) (n : Nat) : LM t w w1 x y (W.drewN n) := ⟨h.sz, h.T.below (below_drewN (Below.refl _ _) n), h.Z.below (below_drewN (Below.refl _ _) n), h.O.below (below_drewN (Below.refl _ _) n), below_drewN h.b n⟩
theorem LM.setX (h : LM t w w1 x y W) (q : Int) : LM t w w1 q y (W.setCell ⟨w1.heap.size, 0, none⟩ (.int .i64 q)) :=
  have hz := h.sz
  ⟨h.sz, h.T.other (by simp only; omega) _, h.Z.other (by simp only; omega) _, by simpa using h.O.set 0 (.int .i64 q), h.b.setCell (by simp only; omega) _⟩
theorem LM.setY (h : LM t w w1 x y W) (q : Int) : LM t w w1 x q (W.setCell ⟨w1.heap.size, 1, none⟩ (.int .i64 q)) :=
  have hz := h.sz
  ⟨h.sz, h.T.other (by simp only; omega) _, h.Z.other (by simp only; omega) _, by simpa using h.O.set 1 (.int .i64 q), h.b.setCell (by simp only; omega) _⟩

set_option maxRecDepth 100000 in
set_option maxHeartbeats 8000000 in
theorem refLost_ok (t : TkA) (hs ws : List T2) (ds : List T4) (ts : List T3) (w : World) (hR : TkR w t hs ws ds ts) (he : (taskS t hs ws ds ts).2.2 = 0) :
    Calls Try.prog 33 #[.agg t.cs] w fun e w' => e = .returned (.tuple #[.agg #[.int .i64 (lostP t (levT t hs ws ds ts)).1, .int .i64 (lostP t (levT t hs ws ds ts)).2], .int .i64 0]) ∧ Below w.heap.size w w' := by
  obtain ⟨w0, hw0⟩ : ∃ w0, ((w).alloc (.cells t.cs 31)).alloc (.cells #[.int .i64 0, .int .i64 0] 28) = w0 := ⟨_, rfl⟩
  have hb0 : Below w.heap.size w w0 := by rw [← hw0]; exact B_alloc (B_alloc (Below.refl _ _) _) _
  have o0 : Ob w0 (w.heap.size) 31 t.cs := by
    rw [← hw0]
    have h := Ob.new (w) t.cs 31
    replace h := h.alloc (.cells #[.int .i64 0, .int .i64 0] 28)
    exact h
  have o1 : Ob w0 (w.heap.size + 1) 28 #[.int .i64 0, .int .i64 0] := by
    rw [← hw0]
    have h := Ob.new ((w).alloc (.cells t.cs 31)) #[.int .i64 0, .int .i64 0] 28
    simp only [World.size_alloc] at h
    exact h
  have H1 : Calls Try.prog 29 #[.agg t.cs] w0 fun e w' => ∃ la lc sa sc, e = .returned (.tuple #[.slice la (levE t hs ws ds ts).length lc, .slice sa (strE t hs ws ds ts).length sc, .int .i64 (taskS t hs ws ds ts).2.2]) ∧ Sl2 w' la (levE t hs ws ds ts).length (levE t hs ws ds ts) ∧ Sl2 w' sa (strE t hs ws ds ts).length (strE t hs ws ds ts) ∧ Below w0.heap.size w0 w' := refLevels2_any t hs ws ds ts w0 (hR.below hb0)
  have hlE : levE t hs ws ds ts = levT t hs ws ds ts := if_pos he
  have hlen := levT_len he hR.d.len
  have ok := TaskOK.of he
  have hdn := ok.dn
  have hf := ok.first
  rw [hlE, he] at H1
  have hLP : lostP t (levT t hs ws ds ts) = (lostS (fun x => decide (t.r.lost ≤ x.2)) t.first (levT t hs ws ds ts), lostS (fun x => decide (t.r.lost ≤ x.1)) t.first (levT t hs ws ds ts)) := rfl
  rw [hLP]
  clear hLP hlE he ok
  generalize levT t hs ws ds ts = LV at H1 hlen ⊢
  generalize strE t hs ws ds ts = S at H1
  replace H1 := Lib.hid H1
  obtain ⟨q0, q1, q2, q3, q4, q5, q6, q7, q8, q9, q10, q11, q12⟩ := o0.task
  replace o0 := Lib.hid o0
  replace o1 := Lib.hid o1
  replace hb0 := Lib.hid hb0
  replace hw0 := Lib.hid hw0
  have HL := Lib.hid hlen
  clear hR hlen
  go_enter Try.func33, Try.ntmps33
  go_wp2_with fail
  rw [hw0.out]
  refine H1.out.mono ?_
  rintro e w1 ⟨la, lc, sa, sc, rfl, hLs, -, hb1⟩
  have hM0 : LM t w w1 (-1) (-1) (w1.alloc (.cells #[.int .i64 (-1), .int .i64 (-1)] 28)) := ⟨by have := (o1.out.below hb1).lt; omega, (o0.out.below hb1).alloc _, (o1.out.below hb1).alloc _, Ob.new _ _ _, B_alloc (Below.refl _ _) _⟩
  have hw1 := Lib.hid (B_trans hb0.out hb1)
  replace hM0 := Lib.hid hM0
  rw [HL.out] at hLs
  rw [HL.out]
  replace hLs := Lib.hid hLs
  clear q0 q1 q2 q3 q4 q5 q6 q7 q8 q9 q10 q11 q12 hb1
  go_wp2_with fail
  go_loopg [8] (t.dn + 1) (fun gk iv wr => ∃ (i : Nat) (x y : Int), gk = t.dn + 1 - i ∧ iv = .int .i64 (i : Int) ∧ i ≤ t.dn + 1 ∧ LM t w w1 x y wr ∧ Seen (fun x => decide (t.r.lost ≤ x.2)) t.first LV i x ∧ Seen (fun x => decide (t.r.lost ≤ x.1)) t.first LV i y)
  case atStart => exact ⟨0, _, _, rfl, rfl, Nat.zero_le _, hM0.out, seen_start _ _ _, seen_start _ _ _⟩
  case round =>
    obtain ⟨i, x, y, rfl, rfl, hi, hM, hX, hY⟩ := hrel
    clear hM0
    by_cases hlt : i < t.dn + 1
    · obtain ⟨lb, lo, rfl, hlb, hll'⟩ := hLs.out.at_ (by omega)
      obtain ⟨y1', y2'⟩ := hll' i hlt
      have y1 := (hM.b.cell (p := ⟨lb, _, none⟩) hlb).trans y1'
      have y2 := (hM.b.cell (p := ⟨lb, _, none⟩) hlb).trans y2'
      clear y1' y2'
      have sXo := seen_old hX
      have sXn := seen_no hX hf.1
      have sXw := seen_new hX hf.1
      have sYo := seen_old hY
      have sYn := seen_no hY hf.1
      have sYw := seen_new hY hf.1
      simp only [decide_eq_false_iff_not, decide_eq_true_eq] at sXn sXw sYn sYw
      generalize LV.getD i (0, 0) = lv at y1 y2 sXn sXw sYn sYw
      obtain ⟨q0, q1, q2, q3, q4, q5, q6, q7, q8, q9, q10, q11, q12⟩ := hM.T.task
      obtain ⟨z0, z1, z2, z3⟩ := hM.O.span
      have a1 : (0 : Int) ≤ i := by omega
      have a2 : (i : Int) < ((t.dn + 1 : Nat) : Int) := by omega
      have a3 : (i : Int) < (t.dn : Int) + 1 := by omega
      obtain ⟨r1, r2⟩ := hf
      have MM := Lib.hid hM
      replace sXo := Lib.hid sXo
      replace sXn := Lib.hid sXn
      replace sXw := Lib.hid sXw
      replace sYo := Lib.hid sYo
      replace sYn := Lib.hid sYn
      replace sYw := Lib.hid sYw
      clear hM hX hY hll'
      have hne1 : ¬ lb = w1.heap.size := by omega
      have hne2 : ¬ w1.heap.size = lb := by omega
      have hne3 : ¬ w1.heap.size = w.heap.size := by have := MM.out.sz; omega
      have hne4 : ¬ w.heap.size = w1.heap.size := by have := MM.out.sz; omega
      by_cases hx : x < 0
      · by_cases hp : t.r.lost ≤ lv.2
        · by_cases hy : y < 0
          · by_cases hq : t.r.lost ≤ lv.1
            · go_upto_region 8 with fail
              go_quiet (fail)
              go_wp2_with fail
              go_quiet (fail)
              go_wp2_with fail
              go_roundg (t.dn + 1 - (i + 1))
              case measure => omega
              case rel => exact ⟨i + 1, t.first + (i : Int), t.first + (i : Int), rfl, by push_cast; rfl, by omega, ((((MM.out.drewN _).setX _).drewN _).setY _), sXw.out hx (by omega), sYw.out hy (by omega)⟩
            · go_upto_region 8 with fail
              go_quiet (fail)
              go_wp2_with fail
              go_quiet (fail)
              go_wp2_with fail
              go_roundg (t.dn + 1 - (i + 1))
              case measure => omega
              case rel => exact ⟨i + 1, t.first + (i : Int), y, rfl, by push_cast; rfl, by omega, (((MM.out.drewN _).setX _).drewN _), sXw.out hx (by omega), sYn.out hy (by omega)⟩
          · have hdy : decide (y < 0) = false := by simpa using hy
            go_upto_region 8 with fail
            go_quiet (fail)
            go_wp2_with fail
            go_quiet (fail)
            go_wp2_with fail
            go_roundg (t.dn + 1 - (i + 1))
            case measure => omega
            case rel => exact ⟨i + 1, t.first + (i : Int), y, rfl, by push_cast; rfl, by omega, (((MM.out.drewN _).setX _).drewN _), sXw.out hx (by omega), sYo.out hy⟩
        · by_cases hy : y < 0
          · by_cases hq : t.r.lost ≤ lv.1
            · go_upto_region 8 with fail
              go_quiet (fail)
              go_wp2_with fail
              go_quiet (fail)
              go_wp2_with fail
              go_roundg (t.dn + 1 - (i + 1))
              case measure => omega
              case rel => exact ⟨i + 1, x, t.first + (i : Int), rfl, by push_cast; rfl, by omega, ((MM.out.drewN _).setY _), sXn.out hx (by omega), sYw.out hy (by omega)⟩
            · go_upto_region 8 with fail
              go_quiet (fail)
              go_wp2_with fail
              go_quiet (fail)
              go_wp2_with fail
              go_roundg (t.dn + 1 - (i + 1))
              case measure => omega
              case rel => exact ⟨i + 1, x, y, rfl, by push_cast; rfl, by omega, (MM.out.drewN _), sXn.out hx (by omega), sYn.out hy (by omega)⟩
          · have hdy : decide (y < 0) = false := by simpa using hy
            go_upto_region 8 with fail
            go_quiet (fail)
            go_wp2_with fail
            go_quiet (fail)
            go_wp2_with fail
            go_roundg (t.dn + 1 - (i + 1))
            case measure => omega
            case rel => exact ⟨i + 1, x, y, rfl, by push_cast; rfl, by omega, (MM.out.drewN _), sXn.out hx (by omega), sYo.out hy⟩
      · by_cases hy : y < 0
        · by_cases hq : t.r.lost ≤ lv.1
          · have hdx : decide (x < 0) = false := by simpa using hx
            go_upto_region 8 with fail
            go_quiet (fail)
            go_wp2_with fail
            go_quiet (fail)
            go_wp2_with fail
            go_roundg (t.dn + 1 - (i + 1))
            case measure => omega
            case rel => exact ⟨i + 1, x, t.first + (i : Int), rfl, by push_cast; rfl, by omega, ((MM.out.drewN _).setY _), sXo.out hx, sYw.out hy (by omega)⟩
          · have hdx : decide (x < 0) = false := by simpa using hx
            go_upto_region 8 with fail
            go_quiet (fail)
            go_wp2_with fail
            go_quiet (fail)
            go_wp2_with fail
            go_roundg (t.dn + 1 - (i + 1))
            case measure => omega
            case rel => exact ⟨i + 1, x, y, rfl, by push_cast; rfl, by omega, (MM.out.drewN _), sXo.out hx, sYn.out hy (by omega)⟩
        · have hdx : decide (x < 0) = false := by simpa using hx
          have hdy : decide (y < 0) = false := by simpa using hy
          go_upto_region 8 with fail
          go_quiet (fail)
          go_wp2_with fail
          go_quiet (fail)
          go_wp2_with fail
          go_roundg (t.dn + 1 - (i + 1))
          case measure => omega
          case rel => exact ⟨i + 1, x, y, rfl, by push_cast; rfl, by omega, (MM.out.drewN _), sXo.out hx, sYo.out hy⟩
    · obtain rfl : i = t.dn + 1 := by omega
      have h2 : ¬ ((t.dn + 1 : Nat) : Int) < ((t.dn + 1 : Nat) : Int) := by omega
      rw [← HL.out] at hX hY
      have eX := Lib.hid (seen_all hX)
      have eY := Lib.hid (seen_all hY)
      obtain ⟨z0, z1, -, -⟩ := hM.O.span
      obtain ⟨v0, v1, v2, v3⟩ := hM.Z.span
      have hne3 : ¬ w1.heap.size = w.heap.size + 1 := by have := hM.sz; omega
      have MM := Lib.hid hM
      clear hM hX hY
      go_wp2_with fail
      refine bodyPost_ret (v := .tuple #[.agg #[.int .i64 x, .int .i64 y], .int .i64 0]) (by simp [results, Try.results33, go_sem, v0, v1]) rfl ⟨by rw [eX.out, eY.out], ?_⟩
      have h := B_trans hw1.out MM.out.b
      exact (h.setCell (by simp only; omega) _).setCell (by simp only; omega) _
end Go.Proofs.Ytanjkhclhcnnaaa

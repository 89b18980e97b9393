/- The walk of film.Gaps. -/
import Derived.Test.YtgjpbffoalldkaaGreatDoorWD
import Derived.RegionTactic
import Derived.Deep.DeepCutAuto
import Derived.Deep.LoopGhost
import Derived.BigRegion
import Derived.Shelf.Spec.BytesMap
import Derived.Lib.SmallJoins
import Derived.Lib.OwnKind
namespace Go.Proofs.YtgjpbffoalldkaaGreatDoor
open Go.RowKit

theorem firstE_ok {E : Nat → Int} : ∀ (n i : Nat), (firstE E n i).2 = 0 → ∀ j, i ≤ j → j < i + n → E j = 0
  | 0, i, _, j, h1, h2 => by omega
  | n + 1, i, h, j, h1, h2 => by
    unfold firstE at h
    by_cases e : E i = 0
    · rw [if_pos e] at h
      by_cases ej : j = i
      · rw [ej]; exact e
      · exact firstE_ok n (i + 1) h j (by omega) (by omega)
    · rw [if_neg e] at h; exact absurd h e
theorem eachE_ok {E : Nat → Int} {n most : Nat} (h : (eachE E n most).2 = 0) : n ≤ most ∧ ∀ i, i < n → E i = 0 := by
  unfold eachE at h
  by_cases e : most < n
  · rw [if_pos e] at h; cases h
  · rw [if_neg e] at h
    exact ⟨by omega, fun i hi => firstE_ok n 0 h i (Nat.zero_le _) (by omega)⟩

/-- What a valid reel is. -/
structure Valid (r : RA) (ms : List T3) (ss : List T2) (ls : List T3) : Prop where
  whole : wholeE r = 0
  mn : r.mn ≤ 60
  m : ∀ i, i < r.mn → markE r.f ms i = 0
  sn : r.sn ≤ 20
  s : ∀ i, i < r.sn → symE ss i = 0
  ln : r.ln ≤ 20
  l : ∀ i, i < r.ln → lenE r.f ls i = 0
theorem valid_of {r : RA} {ms : List T3} {ss : List T2} {ls : List T3} (h : (checkS r ms ss ls).2.2 = 0) : Valid r ms ss ls := by
  unfold checkS at h
  by_cases h0 : wholeE r = 0
  · by_cases h1 : (eachE (markE r.f ms) r.mn 60).2 = 0
    · by_cases h2 : (eachE (symE ss) r.sn 20).2 = 0
      · by_cases h3 : (eachE (lenE r.f ls) r.ln 20).2 = 0
        · exact ⟨h0, (eachE_ok h1).1, (eachE_ok h1).2, (eachE_ok h2).1, (eachE_ok h2).2, (eachE_ok h3).1, (eachE_ok h3).2⟩
        · simp [h0, h1, h2, h3] at h
      · simp [h0, h1, h2] at h
    · simp [h0, h1] at h
  · simp [h0] at h
theorem Valid.mark {r : RA} {ms : List T3} {ss : List T2} {ls : List T3} (h : Valid r ms ss ls) {i : Nat} (hi : i < r.mn) :
    (0 ≤ (ms.getD i (0, 0, 0)).1 ∧ (ms.getD i (0, 0, 0)).1 ≤ r.f - 1) ∧ (0 ≤ (ms.getD i (0, 0, 0)).2.1 ∧ (ms.getD i (0, 0, 0)).2.1 ≤ 99) ∧ (0 ≤ (ms.getD i (0, 0, 0)).2.2 ∧ (ms.getD i (0, 0, 0)).2.2 ≤ 9999) ∧ (0 < i → (ms.getD (i - 1) (0, 0, 0)).1 < (ms.getD i (0, 0, 0)).1) := by
  have := h.m i hi
  unfold markE at this
  by_cases a : (inB (ms.getD i (0, 0, 0)).1 0 (r.f - 1) && inB (ms.getD i (0, 0, 0)).2.1 0 99 && inB (ms.getD i (0, 0, 0)).2.2 0 9999) = true
  · rw [if_pos a] at this
    simp [inB] at a
    refine ⟨by simpa using a.1.1, by simpa using a.1.2, by simpa using a.2, fun h0 => ?_⟩
    by_cases b : (ms.getD i (0, 0, 0)).1 ≤ (ms.getD (i - 1) (0, 0, 0)).1
    · rw [if_pos (by simpa [h0] using b)] at this; cases this
    · omega
  · rw [if_neg a] at this; cases this
theorem Gauge.mul {g f m a : Int} (h : Gauge g f m) (h1 : -9999 ≤ a) (h2 : a ≤ 9999) : -799920 ≤ a * f ∧ a * f ≤ 799920 := by
  rcases h with ⟨-, rfl, -⟩ | ⟨-, rfl, -⟩ | ⟨-, rfl, -⟩ <;> omega
theorem Valid.gauge {r : RA} {ms : List T3} {ss : List T2} {ls : List T3} (h : Valid r ms ss ls) : ∃ f m, Gauge r.g f m := by
  obtain ⟨-, hg, -⟩ := wholeE_ok h.whole
  rcases gauge_or r.g with e | ⟨h1, h2, h3⟩
  · exact e
  · rw [gaugeB_no h1 h2 h3] at hg; cases hg

/-- How many frames are missing between the marks i and i + 1. -/
def missI (foot : Int) (ms : List T3) (i : Nat) : Int :=
  ((ms.getD (i + 1) (0, 0, 0)).2.2 - (ms.getD i (0, 0, 0)).2.2) * foot - ((ms.getD (i + 1) (0, 0, 0)).1 - (ms.getD i (0, 0, 0)).1)
def sameRoll (ms : List T3) (i : Nat) : Bool := (ms.getD i (0, 0, 0)).2.1 == (ms.getD (i + 1) (0, 0, 0)).2.1
/-- The gaps behind the first k pairs of marks, and the marks that are wrong. -/
def gapsTo (foot : Int) (ms : List T3) : Nat → List T3
  | 0 => []
  | k + 1 => gapsTo foot ms k ++ (if sameRoll ms k && decide (0 < missI foot ms k) then [((ms.getD k (0, 0, 0)).1, (ms.getD (k + 1) (0, 0, 0)).1, missI foot ms k)] else [])
def wrongTo (foot : Int) (ms : List T3) : Nat → List Int
  | 0 => []
  | k + 1 => wrongTo foot ms k ++ (if sameRoll ms k && decide (missI foot ms k < 0) then [((k + 1 : Nat) : Int)] else [])
theorem gapsTo_len (foot : Int) (ms : List T3) : ∀ k, (gapsTo foot ms k).length ≤ k
  | 0 => Nat.le_refl _
  | k + 1 => by
    have := gapsTo_len foot ms k
    unfold gapsTo
    rw [List.length_append]
    split <;> simp <;> omega
theorem wrongTo_len (foot : Int) (ms : List T3) : ∀ k, (wrongTo foot ms k).length ≤ k
  | 0 => Nat.le_refl _
  | k + 1 => by
    have := wrongTo_len foot ms k
    unfold wrongTo
    rw [List.length_append]
    split <;> simp <;> omega
/-- Triples as cells. -/
def flat3 (l : List T3) : List Value := l.flatMap fun x => [.int .i64 x.1, .int .i64 x.2.1, .int .i64 x.2.2]
theorem flat3_len (l : List T3) : (flat3 l).length = l.length * 3 := by
  induction l with
  | nil => rfl
  | cons a l ih => simp [flat3] at ih ⊢; omega
theorem flat3_snoc (l : List T3) (x : T3) : flat3 (l ++ [x]) = flat3 l ++ [.int .i64 x.1, .int .i64 x.2.1, .int .i64 x.2.2] := by simp [flat3]

theorem info70 : (Tryz.prog.info? 70).map (fun i => (i.zero, i.size, i.bytes)) = some (some (.agg #[.int .i64 0, .int .i64 0, .int .i64 0]), 3, 24) := by kernel_rfl
theorem info3 : (Tryz.prog.info? 3).map (fun i => (i.zero, i.size, i.bytes)) = some (some (.int .i64 0), 1, 8) := by kernel_rfl

/-- What the loop of Gaps keeps: both slices are its own. -/
structure GapsInv (B : Nat) (foot : Int) (ms : List T3) (v2 v3 : Value) (k : Nat) (wr : World) : Prop where
  gaps : wr.ownsRow B 70 3 v2 (gapsTo foot ms k).length (flat3 (gapsTo foot ms k))
  wrong : wr.ownsRow B 3 1 v3 (wrongTo foot ms k).length ((wrongTo foot ms k).map (Value.int .i64))
theorem GapsInv.start (B : Nat) (foot : Int) (ms : List T3) (w : World) : GapsInv B foot ms (.slice none 0 0) (.slice none 0 0) 0 w :=
  ⟨World.ownsRow_nil _ _ _ _, World.ownsRow_nil _ _ _ _⟩
theorem GapsInv.below {B : Nat} {foot : Int} {ms : List T3} {v2 v3 : Value} {k : Nat} {wr w' : World} (h : GapsInv B foot ms v2 v3 k wr) (hb : Below wr.heap.size wr w') : GapsInv B foot ms v2 v3 k w' :=
  ⟨ownsRow_below h.gaps hb, ownsRow_below h.wrong hb⟩

theorem GapsInv.mono {B B' : Nat} {foot : Int} {ms : List T3} {v2 v3 : Value} {k : Nat} {wr : World} (h : GapsInv B foot ms v2 v3 k wr) (hb : B' ≤ B) : GapsInv B' foot ms v2 v3 k wr :=
  ⟨Go.Joins.ownsRow_le h.gaps hb, Go.Joins.ownsRow_le h.wrong hb⟩

theorem GapsInv.same {B : Nat} {foot : Int} {ms : List T3} {v2 v3 : Value} {k : Nat} {wr : World} (h : GapsInv B foot ms v2 v3 k wr) (hg : gapsTo foot ms (k + 1) = gapsTo foot ms k) (hw : wrongTo foot ms (k + 1) = wrongTo foot ms k) : GapsInv B foot ms v2 v3 (k + 1) wr :=
  ⟨by rw [hg]; exact h.gaps, by rw [hw]; exact h.wrong⟩
/-- Rows of different types lie in different blocks. -/
theorem rows_ne {w : World} {B B' : Nat} {e e' : TypeId} {s s' : Nat} {v v' : Value} {n n' : Nat} {xs xs' : List Value} (he : e' ≠ e) (h : w.ownsRow B e s v n xs) (h' : w.ownsRow B' e' s' v' n' xs') : v'.ownBlock = none ∨ v'.ownBlock ≠ v.ownBlock := by
  cases hv : v'.ownBlock with
  | none => exact .inl rfl
  | some g =>
    refine .inr fun e1 => he ?_
    obtain ⟨c, fz, h1⟩ := Lib.ownsRow_kind h g e1.symm
    obtain ⟨c', fz', h2⟩ := Lib.ownsRow_kind h' g hv
    rw [h1] at h2
    cases h2; rfl

theorem GapsInv.gap {B : Nat} {foot : Int} {ms : List T3} {v2 v3 v' : Value} {k : Nat} {w w' : World} {x y m : Int} (h : GapsInv B foot ms v2 v3 k w)
    (hst : wrongTo foot ms (k + 1) = wrongTo foot ms k ∧ gapsTo foot ms (k + 1) = gapsTo foot ms k ++ [(x, y, m)])
    (hown : w'.ownsRow B 70 3 v' ((gapsTo foot ms k).length + 1) (flat3 (gapsTo foot ms k) ++ [.int .i64 x, .int .i64 y, .int .i64 m])) (hg : w.grownBy w' v2.ownBlock) : GapsInv B foot ms v' v3 (k + 1) w' :=
  ⟨by rw [hst.2, flat3_snoc, List.length_append]; exact hown, by rw [hst.1]; exact h.wrong.kept hg (rows_ne (by decide) h.gaps h.wrong)⟩
theorem GapsInv.bad {B : Nat} {foot : Int} {ms : List T3} {v2 v3 v' : Value} {k : Nat} {w w' : World} {x : Int} (h : GapsInv B foot ms v2 v3 k w)
    (hst : gapsTo foot ms (k + 1) = gapsTo foot ms k ∧ wrongTo foot ms (k + 1) = wrongTo foot ms k ++ [x])
    (hown : w'.ownsRow B 3 1 v' ((wrongTo foot ms k).length + 1) ((wrongTo foot ms k).map (Value.int .i64) ++ [.int .i64 x])) (hg : w.grownBy w' v3.ownBlock) : GapsInv B foot ms v2 v' (k + 1) w' :=
  ⟨by rw [hst.1]; exact h.gaps.kept hg (rows_ne (by decide) h.wrong h.gaps), by rw [hst.2, List.map_append, List.length_append]; exact hown⟩
theorem news_at (w : World) (xs : List Value) (t : TypeId) : ∀ (j : Nat) u, xs[j]? = some u → (w.alloc (.cells xs.toArray t)).cell? ((⟨w.heap.size, 0, none⟩ : Addr).add j) = some u := fun j u h => by
  have e : (⟨w.heap.size, 0, none⟩ : Addr).add j = ⟨w.heap.size, j, none⟩ := by simp [Addr.add, eq_comm]
  rw [e, World.cell?_alloc_at _ _ _ _ rfl]
  simpa using h
/-- The world behind an append to a row of the call's own. -/
theorem B_grown {B : Nat} {w0 w w' : World} {e : TypeId} {s n : Nat} {v : Value} {xs : List Value} (h : Below B w0 w) (hB : B ≤ w.heap.size) (ho : w.ownsRow B e s v n xs) (hg : w.grownBy w' v.ownBlock) : Below B w0 w' :=
  h.grown hg hB fun k hk => (ho.lt k hk).1

/-- What Gaps returns. -/
def GapsPost (B : Nat) (foot : Int) (ms : List T3) (n : Nat) (e : Ending) (w' : World) : Prop :=
  ∃ v2 v3, e = .returned (.tuple #[v2, v3, .int .i64 0]) ∧ GapsInv B foot ms v2 v3 n w'

set_option maxHeartbeats 2000000 in
set_option maxRecDepth 100000 in
theorem gaps_yes (r : RA) (ms : List T3) (ss : List T2) (ls : List T3) (w : World) (G : Glob w) (hR : Reads w r ms ss ls) (h0 : (checkS r ms ss ls).2.2 = 0) :
    Calls Tryz.prog 25 #[.agg r.cs] w fun e w' => GapsPost w.heap.size (footI r.g) ms (r.mn - 1) e w' ∧ Below w.heap.size w w' := by
  have hV := valid_of h0
  obtain ⟨f, mi, hg⟩ := hV.gauge
  obtain ⟨hf1, hf2, -⟩ := hg.bd
  obtain ⟨hfo, hmi⟩ := hg.foot
  have hbl : Below w.heap.size w (w.alloc (.cells r.cs 30)) := B_alloc (Below.refl _ _) _
  have HC := check_any r ms ss ls _ (G.alloc (.cells r.cs 30)) (hR.below hbl)
  have HS := fun (W : World) (h : Glob W) => stockOf_yes r.g f mi W h hg
  have HWh := wholeE_ok hV.whole
  have hmn := hV.mn
  have HVa := Lib.hid hV
  rw [hfo]
  rw [h0] at HC
  generalize (checkS r ms ss ls).1 = p1 at HC
  generalize (checkS r ms ss ls).2.1 = p2 at HC
  replace HC := Lib.hid HC
  replace HS := Lib.hid HS
  have hmul := Lib.hid (fun (a : Int) => hg.mul (a := a))
  obtain ⟨i70, hi70, hz70, hs70, hy70⟩ := info_parts info70
  obtain ⟨i3, hi3, hz3', hs3, hy3⟩ := info_parts info3
  clear h0 hfo hmi hV hg
  go_enter Tryz.func25, Tryz.ntmps25
  go_wp2_with (first
    | (go_at_call 19; refine HC.out.mono ?_; rintro e w1 ⟨rfl, hb1⟩; obtain ⟨hc1, hf1'⟩ := bcell hb1)
    | (go_at_call 56; refine (HS.out _ ((G.alloc _).below (G.alloc _).hz hb1)).mono ?_; rintro e w2 ⟨rfl, hb2⟩; obtain ⟨hc2, hf2'⟩ := bcell hb2; have hz1 : w.heap.size < w1.heap.size := (by have := hb1.size; simp at this; omega)))
  have hW0 : ∃ W0, w2.alloc (.cells #[.int .i64 f, .int .i64 mi] 95) = W0 := ⟨_, rfl⟩
  obtain ⟨W0, hW0⟩ := hW0
  have hb3 : Below w2.heap.size w2 W0 := by rw [← hW0]; exact B_alloc (Below.refl _ _) _
  have hz2 : w2.heap.size < W0.heap.size := by rw [← hW0]; simp
  have hz3 : w.heap.size < W0.heap.size := by have := hb2.size; omega
  have hb4 : Below (w.alloc (.cells r.cs 30)).heap.size (w.alloc (.cells r.cs 30)) W0 := B_trans (B_trans hb1 hb2) hb3
  have k7 : W0.cell? ⟨w.heap.size, 7, none⟩ = some (.slice r.ma r.mn r.mc) := (hb4.cell (p := ⟨w.heap.size, 7, none⟩) (by simp)).trans (box_cell w r 7 _ rfl)
  have k0 : W0.cell? ⟨w2.heap.size, 0, none⟩ = some (.int .i64 f) := by rw [← hW0, World.cell?_alloc_at _ _ _ _ rfl]; rfl
  have hbW : Below w.heap.size w W0 := B_trans hbl hb4
  have hR0 := Lib.hid (hR.below hbW)
  rw [hW0]
  generalize w2.heap.size = S at k0 hz2 ⊢
  generalize hBB : w.heap.size = B at k7 hz3 ⊢
  clear hW0 hb4 hb3 hc1 hc2 hf1' hf2' hb1 hb2 hz1 HC HS
  have K0 := Lib.hid k0
  have K7 := Lib.hid k7
  clear k0 k7 hbl
  go_loopg [2, 3, 10, 11, 12, 13] r.mn (fun gk v2 v3 i a b m wr => ∃ k : Nat, gk = r.mn - k ∧ (k = 0 ∨ k + 1 ≤ r.mn) ∧ i = .int .i64 ((k : Int) + 1) ∧ Below W0.heap.size W0 wr ∧ GapsInv W0.heap.size f ms v2 v3 k wr)
  case atStart => exact ⟨0, rfl, .inl rfl, rfl, Below.refl _ _, GapsInv.start _ _ _ _⟩
  case round =>
    obtain ⟨k, rfl, hk, rfl, hb, hinv⟩ := hrel
    obtain ⟨hc, -⟩ := bcell hb
    have k7 : wr.cell? ⟨B, 7, none⟩ = some (.slice r.ma r.mn r.mc) := (hc _ _ hz3).trans K7.out
    have k0 : wr.cell? ⟨S, 0, none⟩ = some (.int .i64 f) := (hc _ _ hz2).trans K0.out
    have hzw := hb.size
    clear hc
    by_cases hlt : k + 1 < r.mn
    · obtain ⟨b, o, hma, hbs, hcells⟩ := hR0.out.m.at_ (by omega)
      obtain ⟨x0c, x1c, x2c⟩ := hcells k (by omega)
      obtain ⟨y0c, y1c, y2c⟩ := hcells (k + 1) hlt
      have hV := HVa.out
      obtain ⟨⟨x0l, x0h⟩, ⟨x1l, x1h⟩, ⟨x2l, x2h⟩, -⟩ := hV.mark (i := k) (by omega)
      obtain ⟨⟨y0l, y0h⟩, ⟨y1l, y1h⟩, ⟨y2l, y2h⟩, hord⟩ := hV.mark (i := k + 1) hlt
      obtain ⟨-, -, -, ⟨hrf1, hrf2⟩, -⟩ := HWh
      replace hord := hord (by omega)
      rw [Nat.add_sub_cancel] at hord
      have hgs : Hid (gapsTo f ms (k + 1) = gapsTo f ms k ++ (if sameRoll ms k && decide (0 < missI f ms k) then [((ms.getD k (0, 0, 0)).1, (ms.getD (k + 1) (0, 0, 0)).1, missI f ms k)] else [])) := rfl
      have hws : Hid (wrongTo f ms (k + 1) = wrongTo f ms k ++ (if sameRoll ms k && decide (missI f ms k < 0) then [((k + 1 : Nat) : Int)] else [])) := rfl
      have hsr : Hid (sameRoll ms k = ((ms.getD k (0, 0, 0)).2.1 == (ms.getD (k + 1) (0, 0, 0)).2.1)) := rfl
      have hmi : Hid (missI f ms k = ((ms.getD (k + 1) (0, 0, 0)).2.2 - (ms.getD k (0, 0, 0)).2.2) * f - ((ms.getD (k + 1) (0, 0, 0)).1 - (ms.getD k (0, 0, 0)).1)) := rfl
      generalize ms.getD k (0, 0, 0) = x at x0c x1c x2c x0l x0h x1l x1h x2l x2h hord hgs hws hsr hmi
      generalize ms.getD (k + 1) (0, 0, 0) = y at y0c y1c y2c y0l y0h y1l y1h y2l y2h hord hgs hws hsr hmi
      obtain ⟨x0, x1, x2⟩ := x
      obtain ⟨y0, y1, y2⟩ := y
      simp only at x0c x1c x2c x0l x0h x1l x1h x2l x2h hord y0c y1c y2c y0l y0h y1l y1h y2l y2h
      have hcw := fun (p : Addr) (h : p.block < W0.heap.size) => hb.cell (p := p) h
      rw [← hcw ⟨b, _, none⟩ hbs] at x0c x1c x2c y0c y1c y2c
      have hbw : b < wr.heap.size := by omega
      rw [hma] at k7
      clear hcw hcells hV hma
      have hBw : B < wr.heap.size := by omega
      have hSw : S < wr.heap.size := by omega
      have hal : ∀ (W : World) O c k, c < W.heap.size → (W.alloc O).cell? ⟨c, k, none⟩ = W.cell? ⟨c, k, none⟩ := fun W O c k h => alloc_old W O c k h
      have hwk : IntKind.i64.wrap (k : Int) = k := IntWalk.i64_in _ (by omega)
      have hBw1 : B < wr.heap.size + 1 := by omega
      have hbw1 : b < wr.heap.size + 1 := by omega
      have hkl : (k : Int) < r.mn := by omega
      have hkl1 : (k : Int) + 1 < r.mn := by omega
      have hk0 : 0 ≤ (k : Int) := by omega
      have hk1 : 0 ≤ (k : Int) + 1 := by omega
      have hkt : ((k : Int) + 1).toNat = k + 1 := by omega
      go_upto_region 8 with fail
      go_cut [11, 12] (fun a b wx => ∃ ga gb : Nat, a = .pointer (some ⟨ga, 0, none⟩) ∧ b = .pointer (some ⟨gb, 0, none⟩) ∧ wx.cell? ⟨ga, 0, none⟩ = some (.int .i64 x0) ∧ wx.cell? ⟨ga, 1, none⟩ = some (.int .i64 x1) ∧ wx.cell? ⟨ga, 2, none⟩ = some (.int .i64 x2) ∧ wx.cell? ⟨gb, 0, none⟩ = some (.int .i64 y0) ∧ wx.cell? ⟨gb, 1, none⟩ = some (.int .i64 y1) ∧ wx.cell? ⟨gb, 2, none⟩ = some (.int .i64 y2) ∧ Below wr.heap.size wr wx)
      case first =>
        go_region
        all_goals go_wp2_with fail
        all_goals go_meet
        · exact ⟨wr.heap.size, wr.heap.size + 1, rfl, rfl, by simp, by simp, by simp, by simp, by simp, by simp, (B_alloc (B_alloc (Below.refl _ _) _) _).drew⟩
        · exact ⟨wr.heap.size + 1, wr.heap.size, rfl, rfl, by simp, by simp, by simp, by simp, by simp, by simp, (B_alloc (B_alloc (Below.refl _ _) _) _).drew⟩
      case rest =>
        obtain ⟨ga, gb, rfl, rfl, a0, a1, a2, b0, b1, b2, hb1⟩ := hcut
        have k0c : wc.cell? ⟨S, 0, none⟩ = some (.int .i64 f) := (hb1.cell (p := ⟨S, 0, none⟩) hSw).trans k0
        obtain ⟨q1, q2⟩ := hmul.out (y2 - x2) (by omega) (by omega)
        have hinvc := hinv.below hb1
        by_cases hroll : x1 = y1
        · subst hroll
          have hsr1 : sameRoll ms k = true := by rw [hsr.out]; simp
          have hlg := gapsTo_len f ms k
          have hlw := wrongTo_len f ms k
          by_cases hpos : 0 < (y2 - x2) * f - (y0 - x0)
          · have hwst : wrongTo f ms (k + 1) = wrongTo f ms k := by rw [hws.out, hsr1, hmi.out]; simp only [Bool.true_and]; rw [if_neg (by simp; omega), List.append_nil]
            have hgst : gapsTo f ms (k + 1) = gapsTo f ms k ++ [(x0, y0, (y2 - x2) * f - (y0 - x0))] := by rw [hgs.out, hsr1, hmi.out]; simp only [Bool.true_and]; rw [if_pos (by simpa using hpos)]
            have Hst := Lib.hid (And.intro hwst hgst)
            have Hinv := Lib.hid hinvc
            have hcz := hb1.size
            clear hgs hws hsr hmi hsr1 hinv hinvc hwst hgst
            obtain ⟨m, hm⟩ : ∃ m, (y2 - x2) * f - (y0 - x0) = m := ⟨_, rfl⟩
            rw [hm] at hpos
            go_wp2_with ((at_builtin; refine wpList_append_own _ rfl _ _ 40 rfl W0.heap.size 70 i70 (.agg #[.int .i64 0, .int .i64 0, .int .i64 0]) 3 24 Tryz.underlying40 hi70 hz70 hs70 hy70 rfl (by decide) _ _ _ rfl (Hinv.out.gaps.alloc _) ⟨wc.heap.size, 0, none⟩ 1 1 [.int .i64 x0, .int .i64 y0, .int .i64 m] rfl rfl ?c1 ?c2 ?c3 ?c4 ?c5 ?_))
            case c1 => exact news_at _ _ _
            case c2 => intro u hu; simp at hu; rcases hu with rfl | rfl | rfl <;> rfl
            case c3 => unfold maxLen; omega
            case c4 => omega
            case c5 => simp; omega
            intro v' w1 hown' hgrow _
            have hinv1 : GapsInv W0.heap.size f ms v' _ (k + 1) w1 := (Hinv.out.below (B_alloc (Below.refl _ _) _)).gap (by rw [← hm]; exact Hst.out) hown' hgrow
            have hbn : Below W0.heap.size W0 w1 := B_grown (B_alloc (B_trans hb hb1) _) (by simp; omega) (Hinv.out.gaps.alloc _) hgrow
            clear hown' hgrow
            go_wp2
            go_roundg (r.mn - (k + 1))
            case measure => omega
            case rel => exact ⟨k + 1, rfl, .inr (by omega), by go_num, hbn, hinv1⟩
          · by_cases hneg : (y2 - x2) * f - (y0 - x0) < 0
            · have hgst : gapsTo f ms (k + 1) = gapsTo f ms k := by rw [hgs.out, hsr1, hmi.out]; simp only [Bool.true_and]; rw [if_neg (by simp; omega), List.append_nil]
              have hwst : wrongTo f ms (k + 1) = wrongTo f ms k ++ [(k : Int) + 1] := by rw [hws.out, hsr1, hmi.out]; simp only [Bool.true_and]; rw [if_pos (by simpa using hneg)]; rfl
              have Hst := Lib.hid (And.intro hgst hwst)
              have Hinv := Lib.hid hinvc
              have hcz := hb1.size
              clear hgs hws hsr hmi hsr1 hinv hinvc hwst hgst
              go_wp2_with ((at_builtin; refine wpList_append_own _ rfl _ _ 41 rfl W0.heap.size 3 i3 (.int .i64 0) 1 8 Tryz.underlying41 hi3 hz3' hs3 hy3 rfl (by decide) _ _ _ rfl (Hinv.out.wrong.alloc _) ⟨wc.heap.size, 0, none⟩ 1 1 [.int .i64 ((k : Int) + 1)] rfl rfl ?d1 ?d2 ?d3 ?d4 ?d5 ?_))
              case d2 => rfl
              case d3 => unfold maxLen; omega
              case d4 => omega
              case d5 => have := hb.size; omega
              intro v' w1 hown' hgrow _
              have hinv1 : GapsInv W0.heap.size f ms _ v' (k + 1) w1 := (Hinv.out.below (B_alloc (Below.refl _ _) _)).bad Hst.out hown' hgrow
              have hbn : Below W0.heap.size W0 w1 := B_grown (B_alloc (B_trans hb hb1) _) (by simp; omega) (Hinv.out.wrong.alloc _) hgrow
              clear hown' hgrow
              go_wp2
              go_roundg (r.mn - (k + 1))
              case measure => omega
              case rel => exact ⟨k + 1, rfl, .inr (by omega), by go_num, hbn, hinv1⟩
            · have hst := hinvc.same (by rw [hgs.out, hsr1, hmi.out]; simp only [Bool.true_and]; rw [if_neg (by simpa using hpos), List.append_nil]) (by rw [hws.out, hsr1, hmi.out]; simp only [Bool.true_and]; rw [if_neg (by simpa using hneg), List.append_nil])
              clear hgs hws hsr hmi hsr1 hinv hinvc
              go_wp2
              go_roundg (r.mn - (k + 1))
              case measure => omega
              case rel => exact ⟨k + 1, rfl, .inr (by omega), by go_num, B_trans hb hb1, hst⟩
        · have hb2 : (x1 != y1) = true := by simp [hroll]
          have hst := hinvc.same (by rw [hgs.out, hsr.out]; simp [hroll]) (by rw [hws.out, hsr.out]; simp [hroll])
          clear hgs hws hsr hmi hroll hinv hinvc
          go_wp2
          go_roundg (r.mn - (k + 1))
          case measure => omega
          case rel => exact ⟨k + 1, rfl, .inr (by omega), by go_num, B_trans hb hb1, hst⟩
    · have hk1 : k = r.mn - 1 := by omega
      go_wp2
      go_ret3
      exact ⟨⟨_, _, rfl, by rw [← hk1]; exact hinv.mono hbW.size⟩, B_trans hbW hb⟩

theorem gaps_no (r : RA) (ms : List T3) (ss : List T2) (ls : List T3) (w : World) (G : Glob w) (hR : Reads w r ms ss ls) (h0 : (checkS r ms ss ls).2.2 ≠ 0) :
    Calls Tryz.prog 25 #[.agg r.cs] w fun e w' => e = .returned (.tuple #[.slice none 0 0, .slice none 0 0, .int .i64 (checkS r ms ss ls).2.2]) ∧ Below w.heap.size w w' := by
  have hbl : Below w.heap.size w (w.alloc (.cells r.cs 30)) := B_alloc (Below.refl _ _) _
  have HC := check_any r ms ss ls _ (G.alloc (.cells r.cs 30)) (hR.below hbl)
  have hb0 : ((checkS r ms ss ls).2.2 != 0) = true := by simp [h0]
  generalize (checkS r ms ss ls).2.2 = p0 at HC h0 hb0 ⊢
  generalize (checkS r ms ss ls).1 = p1 at HC
  generalize (checkS r ms ss ls).2.1 = p2 at HC
  replace HC := Lib.hid HC
  clear h0
  go_enter Tryz.func25, Tryz.ntmps25
  go_wp2_with (go_at_call 19; refine HC.out.mono ?_; rintro e w1 ⟨rfl, hb1⟩)
  go_ret3
  exact ⟨rfl, B_trans hbl hb1⟩
end Go.Proofs.YtgjpbffoalldkaaGreatDoor

/- The law FilmDated: the walk. -/
import Derived.Test.YtbicafmlbknkiaaGreatDoorZE
import Derived.Test.YtbicafmlbknkiaaGreatDoorXM
namespace Go.Proofs.YtbicafmlbknkiaaGreatDoor
open Go.RowKit Go.Maps Go.Lib

theorem tmod20 (a : Int) : -20 < a.tmod 20 ∧ a.tmod 20 < 20 := by
  have h2 := Int.tmod_lt_of_pos a (b := 20) (by decide)
  have h3 := Int.tmod_lt_of_pos (-a) (b := 20) (by decide)
  rw [Int.neg_tmod] at h3
  omega
theorem info74 : (Tryz.prog.info? 74).map (fun i => (i.zero, i.size, i.bytes)) = some (some (.agg #[.int .i64 0, .int .i64 0]), 2, 16) := by kernel_rfl
def flat2 (l : List T2) : List Value := l.flatMap fun x => [.int .i64 x.1, .int .i64 x.2]
theorem flat2_snoc (l : List T2) (x : T2) : flat2 (l ++ [x]) = flat2 l ++ [.int .i64 x.1, .int .i64 x.2] := by simp [flat2]
theorem flat2_at : ∀ (l : List T2) (i : Nat), i < l.length → (flat2 l)[i * 2]? = some (.int .i64 (l.getD i (0, 0)).1) ∧ (flat2 l)[i * 2 + 1]? = some (.int .i64 (l.getD i (0, 0)).2)
  | [], i, h => by cases h
  | x :: l, 0, h => ⟨rfl, rfl⟩
  | x :: l, i + 1, h => by
    have e : flat2 (x :: l) = [.int .i64 x.1, .int .i64 x.2] ++ flat2 l := rfl
    have ih := flat2_at l i (by simpa using h)
    rw [e, show (i + 1) * 2 = 2 + i * 2 by omega, show 2 + i * 2 + 1 = 2 + (i * 2 + 1) by omega]
    rw [List.getElem?_append_right (by simp), List.getElem?_append_right (by simp)]
    simpa using ih
/-- A row of structs of two integers, of any type, reads as a slice. -/
theorem sl2_row {w : World} {B : Nat} {t : TypeId} {v : Value} {L : List T2} (h : w.ownsRow B t 2 v L.length (flat2 L)) : ∃ a c, v = .slice a L.length c ∧ Sl2 w a L.length L := by
  rcases Joins.ownsRow_forms h with ⟨rfl, hn⟩ | ⟨g, cap, rfl⟩
  · rw [hn]; exact ⟨none, 0, rfl, ⟨hn, fun h => absurd h (by omega)⟩⟩
  · refine ⟨_, _, rfl, ⟨rfl, fun _ => ⟨g, 0, rfl, (h.lt g rfl).2, fun i hi => ?_⟩⟩⟩
    obtain ⟨k0, k1⟩ := flat2_at L i hi
    rw [Nat.zero_add, h.cellAt _ (by omega), h.cellAt _ (by omega)]
    exact ⟨k0, k1⟩
/-- Two rows whose first elements differ lie in different blocks. -/
theorem rows_first {w : World} {B B' : Nat} {e e' : TypeId} {s s' : Nat} {v v' : Value} {n n' : Nat} {xs xs' : List Value} {a b : Value} (h : w.ownsRow B e s v n xs) (h' : w.ownsRow B' e' s' v' n' xs') (hs : 0 < n * s) (hs' : 0 < n' * s') (ha : xs[0]? = some a) (hb : xs'[0]? = some b) (hab : a ≠ b) : v'.ownBlock = none ∨ v'.ownBlock ≠ v.ownBlock := by
  cases hv : v'.ownBlock with
  | none => exact .inl rfl
  | some g =>
    refine .inr fun e1 => hab ?_
    rcases Joins.ownsRow_forms h with ⟨rfl, hn⟩ | ⟨g1, cap, rfl⟩
    · rw [hn] at hs; omega
    · rcases Joins.ownsRow_forms h' with ⟨rfl, hn⟩ | ⟨g2, cap2, rfl⟩
      · rw [hn] at hs'; omega
      · have h1 := h.cellAt 0 hs
        have h2 := h'.cellAt 0 hs'
        have e2 : g2 = g := by injection hv
        have e3 : g = g1 := by injection e1
        rw [e2, e3, h1, ha, hb] at h2
        injection h2

/-- What the loop keeps. -/
structure DInv (S B : Nat) (r : RA) (year : Int) (zs : List Int) (k : Nat) (a : Option Addr) (c : Nat) (v12 v13 : Value) (w : World) : Prop where
  box : Box w S { r with sa := a, sn := k, sc := c }
  rolls : w.ownsRow B 3 1 v12 (rL k).length ((rL k).map (Value.int .i64))
  years : w.ownsRow B 3 1 v13 (yL year r.k zs k).length ((yL year r.k zs k).map (Value.int .i64))
  syms : w.ownsRow B 74 2 (.slice a k c) k (flat2 (sL year r.k zs k))
  first : k = 0 → v12 = .slice none 0 0 ∧ v13 = .slice none 0 0
theorem DInv.below {S B : Nat} {r : RA} {year : Int} {zs : List Int} {k : Nat} {a : Option Addr} {c : Nat} {v12 v13 : Value} {w w' : World} (h : DInv S B r year zs k a c v12 v13 w) (hb : Below w.heap.size w w') : DInv S B r year zs k a c v12 v13 w' :=
  ⟨h.box.below hb, ownsRow_below h.rolls hb, ownsRow_below h.years hb, ownsRow_below h.syms hb, h.first⟩
theorem ne_of_none {v v' : Value} (h : v'.ownBlock = none) : v.ownBlock = none ∨ v.ownBlock ≠ v'.ownBlock := by
  rw [h]
  cases v.ownBlock with
  | none => exact .inl rfl
  | some g => exact .inr (by simp)
theorem rL_len (n : Nat) : (rL n).length = n := by simp [rL]
theorem yL_len (year k : Int) (zs : List Int) (n : Nat) : (yL year k zs n).length = n := by simp [yL]
theorem sL_len (year k : Int) (zs : List Int) (n : Nat) : (sL year k zs n).length = n := by simp [sL]
theorem rL_first {n : Nat} (h : 0 < n) : ((rL n).map (Value.int .i64))[0]? = some (.int .i64 0) := by
  unfold rL
  rw [List.getElem?_map, List.getElem?_map, List.getElem?_range h]; rfl
theorem yL_first {year k : Int} {zs : List Int} {n : Nat} (h : 0 < n) : ((yL year k zs n).map (Value.int .i64))[0]? = some (.int .i64 (yI year k zs 0)) := by
  unfold yL
  rw [List.getElem?_map, List.getElem?_map, List.getElem?_range h]; rfl
theorem yI_ne {year k : Int} {zs : List Int} {i : Nat} : Value.int .i64 (0 : Int) ≠ Value.int .i64 (yI year k zs i) := fun e => by
  injection e with _ e
  unfold yI at e
  omega

/-- What Years answers of the symbols that the statement makes. -/
structure DatedOut (n : Nat) (year : Int) (r : RA) (zs : List Int) (made : Int → List Int) (ra pa : Option Addr) (pn : Nat) (ps : List Int) (w : World) : Prop where
  rolls : RollAt w ra n made (rL n)
  years : Ints w pa pn ps
  few : pn ≤ 100000
  has : ps.contains year = true
  each : ∀ i, i < n → (made (3 * (i : Int))).contains (yI year r.k zs i) = true
  short : ∀ x, (made x).length ≤ 100000
theorem dated_post {B : Nat} {r r2 : RA} {year : Int} {zs : List Int} {n : Nat} {e : Ending} {w' : World} (h : YearsPost B r2 (sL year r.k zs n) e w') (hk2 : r2.k = r.k) (hl0 : 1890 ≤ r2.lo) (hh1 : r2.hi ≤ 2100) (hy0 : r2.lo ≤ year) (hy1 : year ≤ r2.hi) (hk : 0 ≤ r.k) (hz : ∀ i, i < n → 0 ≤ zs.getD i 0) (hsn : r2.sn = n) :
    ∃ made ra rc pa pn pc ps, e = .returned (.tuple #[.slice ra n rc, .slice pa pn pc, .int .i64 0]) ∧ DatedOut n year r zs made ra pa pn ps w' := by
  obtain ⟨vr, vp, fl, he, h1, h2, h3⟩ := h
  rw [rolls_made] at h1 h2 h3
  obtain ⟨ra, rc, rfl, h4, -⟩ := rollAt_of h1 h2
  obtain ⟨pa, pn, pc, rfl, h5, -⟩ := ints_of_row h3
  rw [rL_len] at h4 he
  rw [← hk2] at h4 h5 hk
  refine ⟨_, ra, rc, pa, pn, pc, _, he, h4, h5, ?_, ?_, fun i hi => ?_, fun x => ?_⟩
  · rw [← h5.len]; exact Nat.le_trans (yl_len _) (by decide)
  · rw [List.contains_iff_mem]
    exact poss_has (r := r2) hl0 hh1 hy0 hy1 hk hz hsn
  · rw [List.contains_iff_mem, ← hk2]
    exact made_has (r := r2) hi hl0 hh1 hy0 hy1 hk (hz i hi) hsn
  · exact Nat.le_trans (yl_len _) (by decide)

set_option maxHeartbeats 4000000 in
set_option maxRecDepth 100000 in
theorem datedLaw_any (hA : AwakeSaid) (r : RA) (x : Int) (hx0 : 0 ≤ x) (hx1 : x ≤ 255) (za : Option Addr) (zn zc : Nat) (zs : List Int) (ms : List T3) (ss : List T2) (ls : List T3) (w : World) (G : Glob w) (hR : Reads w r ms ss ls) (hZ : Nums w .u8 0 255 za zn zs) :
    Calls Tryz.prog 10 #[.agg r.cs, .int .u8 x, .slice za zn zc] w fun e w' => e = .returned (.bool true) ∧ Below w.heap.size w w' := by
  have HR0 : Hid (∀ W, Below w.heap.size w W → Reads W { r with sa := none, sn := 0, sc := 0 } ms [] ls) := fun W h => by
    have h1 := hR.below h
    exact ⟨h1.nm, h1.mn, Nat.zero_le _, h1.ln, h1.m, ⟨rfl, fun h => absurd h (Nat.lt_irrefl 0)⟩, h1.l⟩
  have HC := fun W (h : Below w.heap.size w W) => refCheck_any { r with sa := none, sn := 0, sc := 0 } ms [] ls W (HR0.out W h)
  have HY := Lib.hid (fun r2 W ss2 (h : Below w.heap.size w W) (h2 : Reads W r2 ms ss2 ls) (h0 : (checkS r2 ms ss2 ls).2.2 = 0) => years_yes r2 ms ss2 ls W (G.below G.hz h) h2 h0)
  have HA := Lib.hid (fun W (h : Below w.heap.size w W) => hA W (G.below G.hz h))
  unfold CheckPost at HC
  have HB0 : Hid (Below w.heap.size w ((w.alloc (.cells r.cs 30)).alloc (.cells ({ r with sa := none, sn := 0, sc := 0 } : RA).cs 30))) := B_alloc (B_alloc (Below.refl _ _) _) _
  have HX : Hid (∀ W, Below ((w.alloc (.cells r.cs 30)).alloc (.cells ({ r with sa := none, sn := 0, sc := 0 } : RA).cs 30)).heap.size ((w.alloc (.cells r.cs 30)).alloc (.cells ({ r with sa := none, sn := 0, sc := 0 } : RA).cs 30)) W → Box W (w.heap.size + 1) { r with sa := none, sn := 0, sc := 0 }) := fun W h => (Box.new' (w.alloc (.cells r.cs 30)) { r with sa := none, sn := 0, sc := 0 } _ (by simp)).below h
  have hbb0 : Below (w.alloc (.cells r.cs 30)).heap.size (w.alloc (.cells r.cs 30)) ((w.alloc (.cells r.cs 30)).alloc (.cells ({ r with sa := none, sn := 0, sc := 0 } : RA).cs 30)) := B_alloc (Below.refl _ _) _
  have Hbb0 := Lib.hid hbb0
  clear hbb0
  by_cases h0 : (checkS { r with sa := none, sn := 0, sc := 0 } ms [] ls).2.2 = 0
  · have hV := valid_of h0
    rw [h0] at HC
    generalize (checkS { r with sa := none, sn := 0, sc := 0 } ms [] ls).1 = c1 at HC
    generalize (checkS { r with sa := none, sn := 0, sc := 0 } ms [] ls).2.1 = c2 at HC
    replace HC := Lib.hid HC
    obtain ⟨-, -, -, -, ⟨hk0, hk1⟩, ⟨hl0, hl1⟩, ⟨hh0, hh1⟩, hlh⟩ := wholeE_ok hV.whole
    simp only at hk0 hk1 hl0 hl1 hh0 hh1 hlh
    have HVa := Lib.hid hV
    have HR := Lib.hid hR
    have HZ := Lib.hid hZ
    have hD0 : 0 < r.hi - r.lo + 1 := by omega
    have ht0 := Int.emod_nonneg x (show r.hi - r.lo + 1 ≠ 0 by omega)
    have ht1 := Int.emod_lt_of_pos x hD0
    have hw1 : IntKind.i64.wrap x = x := IntWalk.i64_in _ (by omega)
    have hw2 : IntKind.i64.wrap (r.hi - r.lo) = r.hi - r.lo := IntWalk.i64_in _ (by omega)
    have hw3 : IntKind.i64.wrap (r.hi - r.lo + 1) = r.hi - r.lo + 1 := IntWalk.i64_in _ (by omega)
    have hw5 : IntKind.i64.wrap (r.lo + x % (r.hi - r.lo + 1)) = r.lo + x % (r.hi - r.lo + 1) := IntWalk.i64_in _ (by omega)
    have hw6 : wrap64 (r.lo + x % (r.hi - r.lo + 1)) = r.lo + x % (r.hi - r.lo + 1) := IntWalk.wrap64_in _ (by omega)
    obtain ⟨i3, hi3, hz3', hs3, hy3⟩ := info_parts info3
    obtain ⟨i74, hi74, hz74, hs74, hy74⟩ := info_parts info74
    clear h0 hV hA hR hZ
    go_enter Tryz.func10, Tryz.ntmps10
    go_wp2_with (go_at_call 19; (with_reducible refine (HC.out _ HB0.out).mono ?_); rintro e w1 ⟨rfl, hb1⟩; have B1 := Lib.hid (B_trans HB0.out hb1); have X1 := Lib.hid (HX.out _ hb1); obtain ⟨m0, m1, m2, m3, m4, m5, m6, m7, m8, m9⟩ := X1.out.all; have hz1 : w.heap.size + 1 < w1.heap.size := X1.out.lt; have Bb := Lib.hid (B_trans Hbb0.out hb1))
    go_quiet (fail)
    go_wp2
    generalize x % (r.hi - r.lo + 1) = tt at ht0 ht1 hw5 hw6 ⊢
    obtain ⟨year, hyear⟩ : ∃ y, r.lo + tt = y := ⟨_, rfl⟩
    have hy0 : r.lo ≤ year := by omega
    have hy1 : year ≤ r.hi := by omega
    rw [hyear]
    clear hyear hw1 hw2 hw3 hw5 hw6 ht0 ht1 m0 m1 m2 m3 m4 m5 m6 m7 m8 m9
    have hlen := HZ.out.len
    have hzbig := HZ.out.big
    go_loopg [12, 13, 14, 15, 16] (min zn 20) (fun gk v12 v13 i v15 v16 wr => ∃ (k : Nat) (a : Option Addr) (c : Nat), gk = min zn 20 - k ∧ k ≤ min zn 20 ∧ i = .int .i64 k ∧ Below (w.alloc (.cells r.cs 30)).heap.size (w.alloc (.cells r.cs 30)) wr ∧ w1.heap.size ≤ wr.heap.size ∧ Hid (DInv (w.heap.size + 1) w1.heap.size r year zs k a c v12 v13 wr))
    case atStart => exact ⟨0, none, 0, rfl, Nat.zero_le _, rfl, B_drewN Bb.out _, Nat.le_refl _, ⟨X1.out.below (B_drewN (Below.refl _ _) _), World.ownsRow_nil _ _ _ _, World.ownsRow_nil _ _ _ _, World.ownsRow_nil _ _ _ _, fun _ => ⟨rfl, rfl⟩⟩⟩
    case round =>
      obtain ⟨k, a, c, rfl, hk, rfl, hb, hzz, hinv⟩ := hrel
      have hzw := hb.size
      have hSl := hinv.out.box.lt
      by_cases hlt : k < min zn 20
      · obtain ⟨b, o, hza, hbs, hcells⟩ := HZ.out.at_ (by omega)
        obtain ⟨z0, z1, z2⟩ := hcells k (by omega)
        have z0w := (hb.cell (p := ⟨b, o + k, none⟩) (by show b < (w.alloc _).heap.size; simp; omega)).trans ((B_alloc (Below.refl w.heap.size w) (.cells r.cs 30)).cell (p := ⟨b, o + k, none⟩) hbs |>.trans z0)
        have hlk1 : (k : Int) < zn := by omega
        have hlk2 : (k : Int) < 20 := by omega
        have hk0' : 0 ≤ (k : Int) := by omega
        have m6 := hinv.out.box.cell 6
        have hyI : Hid (yI year r.k zs k = max 1890 (year - (zs.getD k 0) % (r.k + 1))) := by unfold Hid yI; rw [Int.tmod_eq_emod_of_nonneg z1]
        obtain ⟨b1, b2, b3⟩ := yI_bd (year := year) (k := r.k) (zs := zs) (i := k) (by omega) (by omega) hk0 z1
        generalize zs.getD k 0 = z at z0w z1 z2 hyI
        have q0 := Int.emod_nonneg z (show r.k + 1 ≠ 0 by omega)
        have q1 := Int.emod_lt_of_pos z (show 0 < r.k + 1 by omega)
        have hw1 : IntKind.i64.wrap z = z := IntWalk.i64_in _ (by omega)
        have hw2 : IntKind.i64.wrap (r.k + 1) = r.k + 1 := IntWalk.i64_in _ (by omega)
        have hw4 : IntKind.i64.wrap (year - z % (r.k + 1)) = year - z % (r.k + 1) := IntWalk.i64_in _ (by omega)
        have hw5 : wrap64 (year - z % (r.k + 1)) = year - z % (r.k + 1) := IntWalk.wrap64_in _ (by omega)
        have hkp : 0 < r.k + 1 := by omega
        clear z0 hcells
        subst hza
        obtain ⟨wo, rfl⟩ : ∃ wo, wo = wr := ⟨wr, rfl⟩
        go_wp2
        go_quiet (fail)
        go_upto_region 12 with fail
        rw [← hyI.out]
        have hrs : Hid (rL (k + 1) = rL k ++ [3 * (k : Int)]) := range_map_succ _ k
        have hys : Hid (yL year r.k zs (k + 1) = yL year r.k zs k ++ [yI year r.k zs k]) := range_map_succ _ k
        have hss : Hid (sL year r.k zs (k + 1) = sL year r.k zs k ++ [(3 * (k : Int), codeI (yI year r.k zs k))]) := range_map_succ _ k
        clear hyI hw1 hw2 hw4 hw5 q0 q1 z0w z1 z2 hkp
        generalize yI year r.k zs k = y at b1 b2 b3 hys hss ⊢
        obtain ⟨p1, p2⟩ := tmod20 (y - 1916)
        have hco : Hid (codeI y = ((y - 1916).tmod 20 + 20) % 20) := by unfold Hid codeI; rw [Int.tmod_eq_emod_of_nonneg (by omega)]
        obtain ⟨-, d0, d1⟩ := code_ok b1 (show y ≤ 2100 by omega)
        go_upto_region 13 with fail
        rw [← hco.out]
        generalize codeI y = code at d0 d1 hss ⊢
        clear hco p1 p2
        have hbq : Hid (Below (w.alloc (.cells r.cs 30)).heap.size (w.alloc (.cells r.cs 30)) (wo.drewN nq)) := B_drewN hb _
        have hinvq := Lib.hid (hinv.out.below (B_drewN (Below.refl _ wo) nq))
        have hzq : w1.heap.size ≤ (wo.drewN nq).heap.size := hzz
        have hzS : (w.alloc (.cells r.cs 30)).heap.size ≤ w1.heap.size := by simp; omega
        clear hinv hb hzz hzw hSl m6
        generalize wo.drewN nq = wq at hbq hinvq hzq ⊢
        have hneS : Hid (∀ (W : World) (e s n : Nat) (v : Value) (xs : List Value), W.ownsRow w1.heap.size e s v n xs → v.ownBlock ≠ some (w.heap.size + 1)) := fun W e s n v xs h e => by have := (h.lt _ e).1; omega
        have hrl := rL_len k
        have hyl := yL_len year r.k zs k
        go_wp2_with (at_builtin; refine wpList_append_own _ rfl _ _ 41 rfl w1.heap.size 3 i3 (.int .i64 0) 1 8 Tryz.underlying41 hi3 hz3' hs3 hy3 rfl (by decide) _ _ _ rfl (hinvq.out.rolls.alloc _) ⟨wq.heap.size, 0, none⟩ 1 1 [.int .i64 (3 * (k : Int))] rfl rfl ?c1 ?c2 ?c3 ?c4 ?c5 ?_)
        case c1 => exact news_at _ _ _
        case c2 => intro u hu; simp at hu; subst hu; rfl
        case c3 => unfold maxLen; omega
        case c4 => omega
        case c5 => simp; omega
        intro v12 wA hown12 hgA _
        have hA1 : Hid (wA.ownsRow w1.heap.size 3 1 v12 (rL (k + 1)).length ((rL (k + 1)).map (Value.int .i64))) := by rw [Hid, hrs.out, List.length_append, List.map_append, rL_len]; exact hown12
        have hA2 : Hid (wA.ownsRow w1.heap.size 3 1 u13 (yL year r.k zs k).length ((yL year r.k zs k).map (Value.int .i64))) := (hinvq.out.years.alloc _).kept hgA (by
          by_cases h : k = 0
          · rw [(hinvq.out.first h).2]; exact .inl rfl
          · exact rows_first hinvq.out.rolls hinvq.out.years (by rw [rL_len]; omega) (by rw [yL_len]; omega) (rL_first (by omega)) (yL_first (by omega)) yI_ne)
        have hA3 := Lib.hid ((hinvq.out.syms.alloc _).kept hgA (rows_ne (by decide) hinvq.out.rolls hinvq.out.syms))
        have hA4 := Lib.hid ((hinvq.out.box.below (B_alloc (Below.refl _ _) (.cells #[.int .i64 (3 * (k : Int))] 3))).kept hgA (hneS.out _ _ _ _ _ _ hinvq.out.rolls))
        have hA5 : Hid (Below (w.alloc (.cells r.cs 30)).heap.size (w.alloc (.cells r.cs 30)) wA) := B_grown (B_alloc hbq.out _) (by have := hbq.out.size; simp at *; omega) (Joins.ownsRow_le (hinvq.out.rolls.alloc _) hzS) hgA
        have hzA : w1.heap.size ≤ wA.heap.size := by have := hgA.size; simp at this; omega
        have hne2 : Hid (v12.ownBlock = none ∨ v12.ownBlock ≠ u13.ownBlock) := by
          by_cases h : k = 0
          · exact ne_of_none (by rw [(hinvq.out.first h).2]; rfl)
          · exact rows_first hA2.out hA1.out (by rw [yL_len]; omega) (by rw [rL_len]; omega) (yL_first (by omega)) (rL_first (by omega)) (Ne.symm yI_ne)
        clear hown12 hgA
        go_wp2_with (at_builtin; refine wpList_append_own _ rfl _ _ 41 rfl w1.heap.size 3 i3 (.int .i64 0) 1 8 Tryz.underlying41 hi3 hz3' hs3 hy3 rfl (by decide) _ _ _ rfl (hA2.out.alloc _) ⟨wA.heap.size, 0, none⟩ 1 1 [.int .i64 y] rfl rfl ?d1 ?d2 ?d3 ?d4 ?d5 ?_)
        case d1 => exact news_at _ _ _
        case d2 => intro u hu; simp at hu; subst hu; rfl
        case d3 => unfold maxLen; omega
        case d4 => omega
        case d5 => simp; omega
        intro v13 wB hown13 hgB _
        have hB1 : Hid (wB.ownsRow w1.heap.size 3 1 v13 (yL year r.k zs (k + 1)).length ((yL year r.k zs (k + 1)).map (Value.int .i64))) := by rw [Hid, hys.out, List.length_append, List.map_append, yL_len]; exact hown13
        have hB2 := Lib.hid ((hA1.out.alloc _).kept hgB hne2.out)
        have hB3 := Lib.hid ((hA3.out.alloc _).kept hgB (rows_ne (by decide) hA2.out hA3.out))
        have hB4 := Lib.hid ((hA4.out.below (B_alloc (Below.refl _ _) (.cells #[.int .i64 y] 3))).kept hgB (hneS.out _ _ _ _ _ _ hA2.out))
        have hB5 : Hid (Below (w.alloc (.cells r.cs 30)).heap.size (w.alloc (.cells r.cs 30)) wB) := B_grown (B_alloc hA5.out _) (by have := hA5.out.size; simp at *; omega) (Joins.ownsRow_le (hA2.out.alloc _) hzS) hgB
        have hzB : w1.heap.size ≤ wB.heap.size := by have := hgB.size; simp at this; omega
        have s8 : wB.cell? ⟨w.heap.size + 1, 8, none⟩ = some (.slice a k c) := hB4.out.cell 8
        clear hown13 hgB
        go_wp2_with (at_builtin; refine wpList_append_own _ rfl _ _ 27 rfl w1.heap.size 74 i74 (.agg #[.int .i64 0, .int .i64 0]) 2 16 Tryz.underlying27 hi74 hz74 hs74 hy74 rfl (by decide) _ _ _ rfl (hB3.out.alloc _) ⟨wB.heap.size, 0, none⟩ 1 1 [.int .i64 (3 * (k : Int)), .int .i64 code] rfl rfl ?e1 ?e2 ?e3 ?e4 ?e5 ?_)
        case e1 => exact news_at _ _ _
        case e2 => intro u hu; simp at hu; rcases hu with rfl | rfl <;> rfl
        case e3 => unfold maxLen; omega
        case e4 => omega
        case e5 => simp; omega
        intro v8 wC hown8 hgC _
        obtain ⟨g, cap, rfl⟩ := Joins.ownsRow_form hown8 (by omega)
        have hC3 : Hid (wC.ownsRow w1.heap.size 74 2 (.slice (some ⟨g, 0, none⟩) (k + 1) cap) (k + 1) (flat2 (sL year r.k zs (k + 1)))) := by rw [Hid, hss.out, flat2_snoc]; exact hown8
        have hC1 := Lib.hid ((hB1.out.alloc _).kept hgC (rows_ne (by decide) hB3.out hB1.out))
        have hC2 := Lib.hid ((hB2.out.alloc _).kept hgC (rows_ne (by decide) hB3.out hB2.out))
        have hC4 := Lib.hid ((hB4.out.below (B_alloc (Below.refl _ _) (.cells #[.int .i64 (3 * (k : Int)), .int .i64 code] 74))).kept hgC (hneS.out _ _ _ _ _ _ hB3.out))
        have hC5 : Hid (Below (w.alloc (.cells r.cs 30)).heap.size (w.alloc (.cells r.cs 30)) wC) := B_grown (B_alloc hB5.out _) (by have := hB5.out.size; simp at *; omega) (Joins.ownsRow_le (hB3.out.alloc _) hzS) hgC
        have hzC : w1.heap.size ≤ wC.heap.size := by have := hgC.size; simp at this; omega
        have f8 := hC4.out.open_ 8
        have c8 := hC4.out.cell 8
        clear hown8 hgC s8
        go_wp2
        go_roundg (min zn 20 - (k + 1))
        case measure => omega
        case rel => exact ⟨k + 1, some ⟨g, 0, none⟩, cap, rfl, by omega, by go_num, hC5.out.setCell (by show (w.alloc _).heap.size ≤ w.heap.size + 1; simp) _, by simpa [World.setCell] using hzC, ⟨hC4.out.setS _ _ _, ownsRow_setCell_below hC2.out (by show w.heap.size + 1 < w1.heap.size; omega) _, ownsRow_setCell_below hC1.out (by show w.heap.size + 1 < w1.heap.size; omega) _, ownsRow_setCell_below hC3.out (by show w.heap.size + 1 < w1.heap.size; omega) _, fun h => absurd h (by omega)⟩⟩
      · obtain ⟨n, hn⟩ : ∃ n, min zn 20 = n := ⟨_, rfl⟩
        obtain rfl : k = n := by omega
        have hk20 : k ≤ 20 := by omega
        have hkz : k ≤ zn := by omega
        have Hbw : Hid (Below w.heap.size w wr) := B_trans (B_alloc (Below.refl _ _) _) hb
        have hsy : wr.ownsRow w1.heap.size 74 2 (.slice a k c) (sL year r.k zs k).length (flat2 (sL year r.k zs k)) := by rw [sL_len]; exact hinv.out.syms
        obtain ⟨a', c', he, hsl⟩ := sl2_row hsy
        injection he with he1 he2 he3
        subst he1 he3
        rw [sL_len] at hsl
        clear he2 hsy
        have hzs : ∀ i, i < k → 0 ≤ zs.getD i 0 := fun i hi => by
          obtain ⟨b, o, -, -, hcells⟩ := HZ.out.at_ (by omega)
          exact (hcells i (by omega)).2.1
        have hRw := HR0.out wr Hbw.out
        have hRn : Reads wr { r with sa := a, sn := k, sc := c } ms (sL year r.k zs k) ls := ⟨hRw.nm, hRw.mn, by show k ≤ _; omega, hRw.ln, hRw.m, hsl, hRw.l⟩
        have h0 : (checkS { r with sa := a, sn := k, sc := c } ms (sL year r.k zs k) ls).2.2 = 0 := check_made HVa.out hk20 (by omega) (by omega) hk0 hzs
        have HYr := Lib.hid (HY.out { r with sa := a, sn := k, sc := c } wr (sL year r.k zs k) Hbw.out hRn h0)
        have HPo : Hid (∀ e W, YearsPost wr.heap.size { r with sa := a, sn := k, sc := c } (sL year r.k zs k) e W → ∃ made ra rc pa pn pc ps, e = .returned (.tuple #[.slice ra k rc, .slice pa pn pc, .int .i64 0]) ∧ DatedOut k year r zs made ra pa pn ps W) := fun e W h => dated_post h rfl hl0 hh1 hy0 hy1 hk0 hzs rfl
        obtain ⟨m0, m1, m2, m3, m4, m5, m6, m7, m8, m9⟩ := hinv.out.box.all
        obtain ⟨a1, n1, d1, rfl, hI1, -⟩ := ints_of_row hinv.out.rolls
        obtain ⟨a2, n2, d2, rfl, hI2, -⟩ := ints_of_row hinv.out.years
        obtain rfl : k = n1 := by rw [← hI1.len, rL_len]
        obtain rfl : k = n2 := by rw [← hI2.len, yL_len]
        have HI1 := Lib.hid hI1
        have HI2 := Lib.hid hI2
        clear hinv hsl hRw hRn h0 hzs hI1 hI2
        have hsplit : ¬ (k < zn) ∨ (k < zn ∧ ¬ k < 20) := by omega
        rcases hsplit with hsp | ⟨hsp1, hsp2⟩
        all_goals
          go_wp2_with (first
            | (go_at_call 30; (with_reducible refine HYr.out.mono ?_); rintro e w2 ⟨hP, hb2⟩; obtain ⟨made, ra, rc, pa, pn, pc, ps, rfl, hO⟩ := HPo.out _ _ hP; clear hP; have HO := Lib.hid hO; have HH1 := Lib.hid (has_any pa pn pc ps year w2 hO.few hO.years); rw [hO.has] at HH1; clear hO; have B2 := Lib.hid (B_trans Hbw.out hb2); have Hb2 := Lib.hid hb2)
            | (go_at_call 42; (with_reducible refine HH1.out.mono ?_); rintro e w3 ⟨rfl, rfl⟩))
          have hzw2 : wr.heap.size ≤ w2.heap.size := Hb2.out.size
          have hHas := Lib.hid (fun W (hW : Below w2.heap.size w2 W) (i : Nat) (hi : i < k) (a' : Option Addr) (n' c' : Nat) (h : Ints W a' n' (made (3 * (i : Int)))) => has_any a' n' c' (made (3 * (i : Int))) (yI year r.k zs i) W (by rw [← h.len]; exact HO.out.short _) h)
          go_loopg [19] k (fun gk i wx => ∃ j : Nat, gk = k - j ∧ j ≤ k ∧ i = .int .i64 j ∧ Below w2.heap.size w2 wx)
          case atStart => exact ⟨0, rfl, Nat.zero_le _, rfl, Below.refl _ _⟩
          case round =>
            obtain ⟨j, rfl, hj, rfl, hb3⟩ := hrel
            by_cases hlt3 : j < k
            · obtain ⟨b4, hra, hbs4, hcells4⟩ := (HO.out.rolls.below hb3).at_ (by omega)
              obtain ⟨q0, a', n', c', q1, q2⟩ := hcells4 j hlt3
              obtain ⟨b5, o5, ha5, hbs5, hcells5⟩ := ((HI1.out.below Hb2.out).below hb3).at_ (by omega)
              obtain ⟨b6, o6, ha6, hbs6, hcells6⟩ := ((HI2.out.below Hb2.out).below hb3).at_ (by omega)
              have r5 := hcells5 j hlt3
              have r6 := hcells6 j hlt3
              have er : (rL k).getD j 0 = 3 * (j : Int) := range_map_at _ _ hlt3
              have ey : (yL year r.k zs k).getD j 0 = yI year r.k zs j := range_map_at _ _ hlt3
              rw [er] at r5 q0 q2
              rw [ey] at r6
              have HHj := fun m => hHas.out (wr.drewN m) (B_drewN hb3 m) j hlt3 a' n' c' (q2.below (B_drewN (Below.refl _ _) m))
              rw [HO.out.each j hlt3] at HHj
              replace HHj := Lib.hid HHj
              clear hcells4 hcells5 hcells6 er ey q2
              generalize yI year r.k zs j = yy at r6 HHj
              have hj0 : 0 ≤ (j : Int) := by omega
              have hj1 : (j : Int) < k := by omega
              subst hra
              go_wp2
              go_quiet ((go_at_call 42; exact quiet_left (HHj.out _)))
              go_wp2
              try rw [← ha5]
              try rw [← ha6]
              go_roundg (k - (j + 1))
              case measure => omega
              case rel => exact ⟨j + 1, rfl, by omega, by go_num, B_drewN hb3 _⟩
            · obtain rfl : j = k := by omega
              have HAr := Lib.hid (HA.out wr (B_trans B2.out hb3))
              go_wp2_with (go_at_call 17; (with_reducible refine HAr.out.mono ?_); rintro e w7 ⟨rfl, hb7⟩)
              go_ret
              exact ⟨rfl, B_trans (B_trans B2.out hb3) hb7⟩
  · have h0b : ((checkS { r with sa := none, sn := 0, sc := 0 } ms [] ls).2.2 != 0) = true := by simp [h0]
    generalize (checkS { r with sa := none, sn := 0, sc := 0 } ms [] ls).2.2 = c0 at HC h0 h0b
    generalize (checkS { r with sa := none, sn := 0, sc := 0 } ms [] ls).1 = c1 at HC
    generalize (checkS { r with sa := none, sn := 0, sc := 0 } ms [] ls).2.1 = c2 at HC
    replace HC := Lib.hid HC
    clear h0 hA hR hZ HY
    go_enter Tryz.func10, Tryz.ntmps10
    go_wp2_with (first
      | (go_at_call 19; (with_reducible refine (HC.out _ HB0.out).mono ?_); rintro e w1 ⟨rfl, hb1⟩; have B1 := Lib.hid (B_trans HB0.out hb1))
      | (go_at_call 17; (with_reducible refine (HA.out _ B1.out).mono ?_); rintro e w4 ⟨rfl, hb4⟩))
    all_goals (go_ret; exact ⟨rfl, B_trans B1.out hb4⟩)
end Go.Proofs.YtbicafmlbknkiaaGreatDoor

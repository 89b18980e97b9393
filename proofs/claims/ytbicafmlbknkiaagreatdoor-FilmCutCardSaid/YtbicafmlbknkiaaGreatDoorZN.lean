/- The walk of made (FilmCut). -/
import Derived.Test.YtbicafmlbknkiaaGreatDoorZM
namespace Go.Proofs.YtbicafmlbknkiaaGreatDoor
open Go.RowKit

def gaugeI (g : Int) : Int := if g % 3 = 0 then 35 else if g % 3 = 1 then 16 else 8
def madeR (r : RA) (g fr : Int) (a : Option Addr) (n c : Nat) : RA := { r with g := gaugeI g, f := 1 + fr % 600, ma := a, mn := n, mc := c }
theorem gaugeI_is (g : Int) : ∃ m, Gauge (gaugeI g) (footI (gaugeI g)) m := by
  unfold gaugeI
  by_cases h0 : g % 3 = 0
  · rw [if_pos h0]; exact ⟨19000, .inl ⟨rfl, rfl, rfl⟩⟩
  · by_cases h1 : g % 3 = 1
    · rw [if_neg h0, if_pos h1]; exact ⟨7620, .inr (.inl ⟨rfl, rfl, rfl⟩)⟩
    · rw [if_neg h0, if_neg h1]; exact ⟨3810, .inr (.inr ⟨rfl, rfl, rfl⟩)⟩
def MadePost (w : World) (r : RA) (g ro fi fr : Int) (ah no : List Int) (e : Ending) (w' : World) : Prop :=
  ∃ a c aa ac, e = .returned (.tuple #[.agg (madeR r g fr a (mkTo (footI (gaugeI g)) (ro % 100) (fi % 20000) ah no (1 + fr % 600).toNat).1.length c).cs, .slice aa (1 + fr % 600).toNat ac]) ∧
    Sl3 w' a (mkTo (footI (gaugeI g)) (ro % 100) (fi % 20000) ah no (1 + fr % 600).toNat).1.length (mkTo (footI (gaugeI g)) (ro % 100) (fi % 20000) ah no (1 + fr % 600).toNat).1 ∧
    Ints w' aa (1 + fr % 600).toNat (allI (fi % 20000) ah (1 + fr % 600).toNat) ∧ Below w.heap.size w w'

theorem Box.setF {w : World} {S : Nat} {r : RA} (h : Box w S r) (v : Int) : Box (w.setCell ⟨S, 3, none⟩ (.int .i64 v)) S { r with f := v } := by
  refine ⟨fun j => ?_, fun j => set_frozen (h.open_ j), by simpa [World.setCell] using h.lt⟩
  by_cases e : j = 3
  · subst e; exact (set_same (h.cell 3)).trans rfl
  · refine (World.cell?_setCell_other _ _ _ _ (fun e' => e (by injection e' with _ e2; exact e2.symm))).trans ((h.cell j).trans ?_)
    match j, e with
    | 0, _ => rfl
    | 1, _ => rfl
    | 2, _ => rfl
    | 3, e => exact absurd rfl e
    | 4, _ => rfl
    | 5, _ => rfl
    | 6, _ => rfl
    | 7, _ => rfl
    | 8, _ => rfl
    | 9, _ => rfl
    | j + 10, _ => rfl
theorem cells_upd2 {w : World} {S j0 : Nat} {f : Nat → Option Value} {u v : Value} (h : ∀ j, w.cell? ⟨S, j, none⟩ = f j) (hu : f j0 = some u) : ∀ j, (w.setCell ⟨S, j0, none⟩ v).cell? ⟨S, j, none⟩ = if j = j0 then some v else f j := fun j => by
  by_cases e : j = j0
  · subst e; rw [if_pos rfl]; exact set_same ((h j).trans hu)
  · rw [if_neg e]
    exact (World.cell?_setCell_other _ _ _ _ (fun e' => e (by injection e' with _ e2; exact e2.symm))).trans (h j)
theorem Box.setAll2 {w : World} {S : Nat} {r2 : RA} (h : Box w S r2) (r : RA) : Box ((((((((((w.setCell ⟨S, 0, none⟩ (.string r.nm)).setCell ⟨S, 1, none⟩ (.int .i64 r.g)).setCell ⟨S, 2, none⟩ (.int .i64 r.b)).setCell ⟨S, 3, none⟩ (.int .i64 r.f)).setCell ⟨S, 4, none⟩ (.int .i64 r.lo)).setCell ⟨S, 5, none⟩ (.int .i64 r.hi)).setCell ⟨S, 6, none⟩ (.int .i64 r.k)).setCell ⟨S, 7, none⟩ (.slice r.ma r.mn r.mc)).setCell ⟨S, 8, none⟩ (.slice r.sa r.sn r.sc)).setCell ⟨S, 9, none⟩ (.slice r.la r.ln r.lc)) S r := by
  refine ⟨fun j => ?_, fun j => set_frozen (set_frozen (set_frozen (set_frozen (set_frozen (set_frozen (set_frozen (set_frozen (set_frozen (set_frozen (h.open_ j)))))))))), by simpa [World.setCell] using h.lt⟩
  rw [cells_upd2 (cells_upd2 (cells_upd2 (cells_upd2 (cells_upd2 (cells_upd2 (cells_upd2 (cells_upd2 (cells_upd2 (cells_upd2 h.cell rfl) rfl) rfl) rfl) rfl) rfl) rfl) rfl) rfl) rfl]
  match j with
  | 0 => rfl
  | 1 => rfl
  | 2 => rfl
  | 3 => rfl
  | 4 => rfl
  | 5 => rfl
  | 6 => rfl
  | 7 => rfl
  | 8 => rfl
  | 9 => rfl
  | j + 10 => rfl
theorem row_setAll {w : World} {B e sz n S : Nat} {v : Value} {xs : List Value} (h : w.ownsRow B e sz v n xs) (hS : S < B) (r : RA) : World.ownsRow ((((((((((w.setCell ⟨S, 0, none⟩ (.string r.nm)).setCell ⟨S, 1, none⟩ (.int .i64 r.g)).setCell ⟨S, 2, none⟩ (.int .i64 r.b)).setCell ⟨S, 3, none⟩ (.int .i64 r.f)).setCell ⟨S, 4, none⟩ (.int .i64 r.lo)).setCell ⟨S, 5, none⟩ (.int .i64 r.hi)).setCell ⟨S, 6, none⟩ (.int .i64 r.k)).setCell ⟨S, 7, none⟩ (.slice r.ma r.mn r.mc)).setCell ⟨S, 8, none⟩ (.slice r.sa r.sn r.sc)).setCell ⟨S, 9, none⟩ (.slice r.la r.ln r.lc)) B e sz v n xs :=
  ownsRow_setCell_below (ownsRow_setCell_below (ownsRow_setCell_below (ownsRow_setCell_below (ownsRow_setCell_below (ownsRow_setCell_below (ownsRow_setCell_below (ownsRow_setCell_below (ownsRow_setCell_below (ownsRow_setCell_below (h) hS _) hS _) hS _) hS _) hS _) hS _) hS _) hS _) hS _) hS _
theorem below_setAll {w0 w : World} {B S : Nat} (h : Below B w0 w) (hS : B ≤ S) (r : RA) : Below B w0 ((((((((((w.setCell ⟨S, 0, none⟩ (.string r.nm)).setCell ⟨S, 1, none⟩ (.int .i64 r.g)).setCell ⟨S, 2, none⟩ (.int .i64 r.b)).setCell ⟨S, 3, none⟩ (.int .i64 r.f)).setCell ⟨S, 4, none⟩ (.int .i64 r.lo)).setCell ⟨S, 5, none⟩ (.int .i64 r.hi)).setCell ⟨S, 6, none⟩ (.int .i64 r.k)).setCell ⟨S, 7, none⟩ (.slice r.ma r.mn r.mc)).setCell ⟨S, 8, none⟩ (.slice r.sa r.sn r.sc)).setCell ⟨S, 9, none⟩ (.slice r.la r.ln r.lc)) :=
  ((((((((((h).setCell hS _).setCell hS _).setCell hS _).setCell hS _).setCell hS _).setCell hS _).setCell hS _).setCell hS _).setCell hS _).setCell hS _
/-- What the loop of made keeps. -/
structure MInv (Sb base : Nat) (r : RA) (g fr : Int) (ms : List T3) (zs : List Int) (a : Option Addr) (c : Nat) (v : Value) (w : World) : Prop where
  box : Box w Sb (madeR r g fr a ms.length c)
  all : w.ownsRow base 3 1 v zs.length (zs.map (Value.int .i64))
  marks : w.ownsRow base 68 3 (.slice a ms.length c) ms.length (flat3 ms)
theorem MInv.below {Sb base : Nat} {r : RA} {g fr : Int} {ms : List T3} {zs : List Int} {a : Option Addr} {c : Nat} {v : Value} {w w' : World} (h : MInv Sb base r g fr ms zs a c v w) (hb : Below w.heap.size w w') : MInv Sb base r g fr ms zs a c v w' :=
  ⟨h.box.below hb, ownsRow_below h.all hb, ownsRow_below h.marks hb⟩

set_option maxHeartbeats 8000000 in
set_option maxRecDepth 100000 in
theorem made_any (r : RA) (g ro fi fr : Int) (aa : Option Addr) (an ac : Nat) (ah : List Int) (na : Option Addr) (nn nc : Nat) (no : List Int) (w : World) (hg0 : 0 ≤ g) (hg1 : g ≤ 255) (hr0 : 0 ≤ ro) (hr1 : ro ≤ 255) (hf0 : 0 ≤ fi) (hf1 : fi ≤ 65535) (hq0 : 0 ≤ fr) (hq1 : fr ≤ 65535)
    (hA : Nums w .u8 0 255 aa an ah) (hN : Nums w .u8 0 255 na nn no) :
    Calls Tryz.prog 40 #[.agg r.cs, .agg #[.int .u8 g, .int .u8 ro, .int .u16 fi, .slice aa an ac, .int .u16 fr, .slice na nn nc]] w (MadePost w r g ro fi fr ah no) := by
  have HAh := Lib.hid hA
  have HNo := Lib.hid hN
  obtain ⟨mi, hga⟩ := gaugeI_is g
  obtain ⟨hfo1, hfo2, -, -, hgg⟩ := hga.bd
  have HF := Lib.hid (fun W => foot_any (gaugeI g) W)
  generalize hfoot : footI (gaugeI g) = foot at hga hfo1 hfo2 HF
  have Hfoot := Lib.hid hfoot
  clear hfoot
  clear hA hN
  obtain ⟨wb, hwb⟩ : ∃ wb, ((w.alloc (.cells r.cs 30)).alloc (.cells #[.int .u8 g, .int .u8 ro, .int .u16 fi, .slice aa an ac, .int .u16 fr, .slice na nn nc] 64)).alloc (.cells #[.string ⟨#[]⟩, .int .i64 0, .int .i64 0, .int .i64 0, .int .i64 0, .int .i64 0, .int .i64 0, .slice none 0 0, .slice none 0 0, .slice none 0 0] 30) = wb := ⟨_, rfl⟩
  have hzb : Hid (wb.heap.size = w.heap.size + 3) := by rw [Hid, ← hwb]; simp
  have hBB : Hid (Below w.heap.size w wb) := by rw [Hid, ← hwb]; exact B_alloc (B_alloc (B_alloc (Below.refl _ _) _) _) _
  have HXr : Hid (∀ j, wb.cell? ⟨w.heap.size, j, none⟩ = r.cs[j]?) := fun j => by
    rw [← hwb, alloc_old _ _ _ _ (by simp; omega), alloc_old _ _ _ _ (by simp), World.cell?_alloc_at _ _ _ _ rfl]
  have HXx : Hid (∀ j, wb.cell? ⟨w.heap.size + 1, j, none⟩ = (#[.int .u8 g, .int .u8 ro, .int .u16 fi, .slice aa an ac, .int .u16 fr, .slice na nn nc] : Array Value)[j]?) := fun j => by
    rw [← hwb, alloc_old _ _ _ _ (by simp), World.cell?_alloc_at _ _ _ _ (by simp)]
  have HZr : Hid (Box wb (w.heap.size + 1 + 1) ⟨⟨#[]⟩, 0, 0, 0, 0, 0, 0, none, 0, 0, none, 0, 0, none, 0, 0⟩) := by rw [Hid, ← hwb]; exact Box.new' _ ⟨⟨#[]⟩, 0, 0, 0, 0, 0, 0, none, 0, 0, none, 0, 0, none, 0, 0⟩ _ (by simp)
  obtain ⟨m0, m1, m2, m3, m4, m5, m6, m7, m8, m9⟩ : wb.cell? ⟨w.heap.size, 0, none⟩ = some (.string r.nm) ∧ wb.cell? ⟨w.heap.size, 1, none⟩ = some (.int .i64 r.g) ∧ wb.cell? ⟨w.heap.size, 2, none⟩ = some (.int .i64 r.b) ∧ wb.cell? ⟨w.heap.size, 3, none⟩ = some (.int .i64 r.f) ∧ wb.cell? ⟨w.heap.size, 4, none⟩ = some (.int .i64 r.lo) ∧ wb.cell? ⟨w.heap.size, 5, none⟩ = some (.int .i64 r.hi) ∧ wb.cell? ⟨w.heap.size, 6, none⟩ = some (.int .i64 r.k) ∧ wb.cell? ⟨w.heap.size, 7, none⟩ = some (.slice r.ma r.mn r.mc) ∧ wb.cell? ⟨w.heap.size, 8, none⟩ = some (.slice r.sa r.sn r.sc) ∧ wb.cell? ⟨w.heap.size, 9, none⟩ = some (.slice r.la r.ln r.lc) :=
    ⟨HXr.out 0, HXr.out 1, HXr.out 2, HXr.out 3, HXr.out 4, HXr.out 5, HXr.out 6, HXr.out 7, HXr.out 8, HXr.out 9⟩
  have x0 : wb.cell? ⟨w.heap.size + 1, 0, none⟩ = some (.int .u8 g) := HXx.out 0
  have x2 : wb.cell? ⟨w.heap.size + 1, 2, none⟩ = some (.int .u16 fi) := HXx.out 2
  have x4 : wb.cell? ⟨w.heap.size + 1, 4, none⟩ = some (.int .u16 fr) := HXx.out 4
  have hz0 : w.heap.size < wb.heap.size := by have := hzb.out; omega
  have hz1 : w.heap.size + 1 < wb.heap.size := by have := hzb.out; omega
  go_enter Tryz.func40, Tryz.ntmps40
  go_upto_region 3 with fail
  go_cut [] (fun wx => Hid (Below wb.heap.size wb wx ∧ Box wx (wb.heap.size + 1) { r with g := gaugeI g, ma := none, mn := 0, mc := 0 }))
  case first =>
    obtain ⟨cc, Hcc, hcases⟩ : ∃ c : Int, Hid (c = gaugeI g) ∧ ((g % 3 = 0 ∧ c = 35) ∨ (g % 3 = 1 ∧ c = 16) ∨ (g % 3 = 2 ∧ c = 8)) := ⟨gaugeI g, rfl, by unfold gaugeI; omega⟩
    rcases hcases with ⟨hm, rfl⟩ | ⟨hm, rfl⟩ | ⟨hm, rfl⟩
    all_goals
      go_wp2
      go_meet
      rw [← Hcc.out]
      exact ⟨B_alloc (B_alloc (Below.refl _ _) _) _, Box.new' _ { r with g := _, ma := none, mn := 0, mc := 0 } _ (by simp)⟩
  case rest =>
    obtain ⟨hbc0, hBc0⟩ := hcut
    have c1 := hBc0.cell 1
    have c3 := hBc0.cell 3
    have f3 := hBc0.open_ 3
    have x2c := (hbc0.cell (p := ⟨w.heap.size + 1, 2, none⟩) hz1).trans x2
    have x4c := (hbc0.cell (p := ⟨w.heap.size + 1, 4, none⟩) hz1).trans x4
    have hBc := Lib.hid hBc0
    have hbc := Lib.hid hbc0
    have hc31 := set_other (v := .int .i64 (1 + fr % 600)) (o := 3) (by decide) c1
    clear hBc0 hbc0 x0 x2 x4
    go_wp2_with (go_at_call 41; (with_reducible refine (HF.out _).mono ?_); rintro e w1 ⟨rfl, rfl⟩)
    have hBs := Lib.hid (hBc.out.setF (1 + fr % 600))
    have hbs := Lib.hid (hbc.out.setCell (p := ⟨wb.heap.size + 1, 3, none⟩) (by show wb.heap.size ≤ wb.heap.size + 1; omega) (.int .i64 (1 + fr % 600)))
    clear m0 m1 m2 m3 m4 m5 m6 m7 m8 m9 c1 c3 f3 x2c x4c hc31 hBc hbc
    generalize wc.setCell ⟨wb.heap.size + 1, 3, none⟩ (.int .i64 (1 + fr % 600)) = wd at hBs hbs ⊢
    have hN2 : Hid (((1 + fr % 600).toNat : Int) = 1 + fr % 600) := by unfold Hid; omega
    have hN3 : (1 + fr % 600).toNat ≤ 600 := by omega
    generalize hNN : (1 + fr % 600).toNat = N at hN2 hN3
    have HNN := Lib.hid hNN
    clear hNN
    have ha0 : 0 ≤ fi % 20000 ∧ fi % 20000 < 20000 := by omega
    generalize hA00 : fi % 20000 = a0 at ha0 ⊢
    have HA00 := Lib.hid hA00
    clear hA00
    go_loopg [9, 10, 11, 12] N (fun gk v9 v10 v11 v12 wr => ∃ (k : Nat) (a : Option Addr) (c : Nat), gk = N - k ∧ k ≤ N ∧ v12 = .int .i64 k ∧ v10 = .int .i64 (atI a0 ah k) ∧ v11 = .int .i64 (mkTo foot (ro % 100) a0 ah no k).2 ∧ Below wb.heap.size wb wr ∧ Hid (MInv (wb.heap.size + 1) (wb.heap.size + 2) r g fr (mkTo foot (ro % 100) a0 ah no k).1 (allI a0 ah k) a c v9 wr))
    case atStart => exact ⟨0, none, 0, rfl, Nat.zero_le _, rfl, rfl, rfl, hbs.out, ⟨hBs.out, World.ownsRow_nil _ _ _ _, World.ownsRow_nil _ _ _ _⟩⟩
    case round =>
      obtain ⟨k, a, c, rfl, hk, rfl, rfl, rfl, hb, hinv⟩ := hrel
      have hzw := hb.size
      have hSl := hinv.out.box.lt
      have s3 : wr.cell? ⟨wb.heap.size + 1, 3, none⟩ = some (.int .i64 (1 + fr % 600)) := hinv.out.box.cell 3
      by_cases hlt : k < N
      · have hx : ∀ j, wr.cell? ⟨w.heap.size + 1, j, none⟩ = (#[.int .u8 g, .int .u8 ro, .int .u16 fi, .slice aa an ac, .int .u16 fr, .slice na nn nc] : Array Value)[j]? := fun j => (hb.cell (p := ⟨w.heap.size + 1, j, none⟩) hz1).trans (HXx.out j)
        have x3 : wr.cell? ⟨w.heap.size + 1, 3, none⟩ = some (.slice aa an ac) := hx 3
        have hkN : (k : Int) < 1 + fr % 600 := by have := hN2.out; omega
        have hlenA := HAh.out.len
        have hahb : ∀ i, i < ah.length → 0 ≤ ah.getD i 0 ∧ ah.getD i 0 ≤ 255 := fun i hi => by
          obtain ⟨b, o, -, -, hcells⟩ := HAh.out.at_ (by omega)
          exact (hcells i (by omega)).2
        have hat := atI_bd (a0 := a0) hahb k
        have hps := posI_bd (a0 := a0) hahb k
        have hnn2 := mkTo_n foot (ro % 100) a0 ah no k
        have hok := (mkTo_ok (foot := foot) (roll := ro % 100) (no := no) (by omega) ha0.1 hahb k).few
        have hposd : Hid (posI a0 ah k = atI a0 ah k + aheadI ah k) := rfl
        have hatS : Hid (atI a0 ah (k + 1) = posI a0 ah k + 1) := rfl
        have hallS := Lib.hid (allI_succ a0 ah k)
        have hmkS : Hid (mkTo foot (ro % 100) a0 ah no (k + 1) = if footB foot a0 ah k (mkTo foot (ro % 100) a0 ah no k).1.length = true then (if notedB no (mkTo foot (ro % 100) a0 ah no k).2 = true then (mkTo foot (ro % 100) a0 ah no k).1 ++ [((k : Int), ro % 100, posI a0 ah k / foot)] else (mkTo foot (ro % 100) a0 ah no k).1, (mkTo foot (ro % 100) a0 ah no k).2 + 1) else mkTo foot (ro % 100) a0 ah no k) := rfl
        clear hx hahb
        generalize mkTo foot (ro % 100) a0 ah no k = mk at hinv hnn2 hok hmkS ⊢
        obtain ⟨ms, nz⟩ := mk
        simp only at hnn2 hok hinv ⊢
        obtain ⟨wo, rfl⟩ : ∃ wo, wo = wr := ⟨wr, rfl⟩
        go_upto_if 46 with fail
        go_cut [10] (fun v wx => v = .int .i64 (posI a0 ah k) ∧ ∃ m, wx = wo.drewN m)
        case first =>
          by_cases han : an = 0
          · have he : Hid (posI a0 ah k = atI a0 ah k) := by rw [Hid, hposd.out]; simp [aheadI, hlenA, han]
            subst han
            go_wp2
            go_meet
            exact ⟨by rw [he.out], 0, rfl⟩
          · obtain ⟨b2, o2, hza, hbs2, hc2⟩ := HAh.out.at_ (by omega)
            obtain ⟨z0, z1, z2⟩ := hc2 (k % an) (Nat.mod_lt _ (by omega))
            have he : Hid (posI a0 ah k = atI a0 ah k + ah.getD (k % an) 0) := by rw [Hid, hposd.out]; simp [aheadI, hlenA, han]
            have hmod : (k : Int).tmod (an : Int) = ((k % an : Nat) : Int) := by rw [Int.tmod_eq_emod_of_nonneg (by omega)]; rfl
            have hmlt : k % an < an := Nat.mod_lt _ (by omega)
            have hzbig := HAh.out.big
            generalize k % an = m at z0 z1 z2 he hmod hmlt
            clear hc2
            generalize ah.getD m 0 = zz at z0 z1 z2 he
            have z0w := (hb.cell (p := ⟨b2, o2 + m, none⟩) (by show b2 < _; omega)).trans ((hBB.out.cell (p := ⟨b2, o2 + m, none⟩) hbs2).trans z0)
            have hw4 : IntKind.i64.wrap zz = zz := IntWalk.i64_in _ (by omega)
            have hw5 : IntKind.i64.wrap (atI a0 ah k + zz) = atI a0 ah k + zz := IntWalk.i64_in _ (by omega)
            subst hza
            have hzn0 : 0 < (an : Int) := by omega
            have hm0 : 0 ≤ (m : Int) := by omega
            have hm1 : (m : Int) < an := by omega
            clear z0
            go_wp2
            go_quiet (fail)
            go_wp2
            go_meet
            exact ⟨by rw [he.out], _, rfl⟩
        case rest =>
          obtain ⟨rfl, mm, hwc⟩ := hcut
          have hbq : Hid (Below wb.heap.size wb wc) := by rw [hwc]; exact B_drewN hb _
          have hinvq : Hid (MInv (wb.heap.size + 1) (wb.heap.size + 2) r g fr ms (allI a0 ah k) a c u9 wc) := by rw [hwc]; exact hinv.out.below (B_drewN (Below.refl _ _) _)
          have hSq := hinvq.out.box.lt
          clear hwc hb hinv hzw hSl s3 x3 hat
          obtain ⟨i3, hi3, hz3', hs3, hy3⟩ := info_parts info3
          have hal := allI_len a0 ah k
          have hps0 : 0 ≤ posI a0 ah k := by omega
          have hps1 : posI a0 ah k ≤ 200000 := by omega
          clear hps hposd
          obtain ⟨pos, hpos⟩ : ∃ q, posI a0 ah k = q := ⟨_, rfl⟩
          rw [hpos] at hps0 hps1 hatS hallS hmkS ⊢
          have HPos := Lib.hid hpos
          clear hpos
          generalize allI a0 ah k = zs at hal hinvq hallS
          have hkk : k < 600 := by omega
          go_wp2_with (at_builtin; refine wpList_append_own _ rfl _ _ 41 rfl (wb.heap.size + 2) 3 i3 (.int .i64 0) 1 8 Tryz.underlying41 hi3 hz3' hs3 hy3 rfl (by decide) _ _ _ rfl (hinvq.out.all.alloc _) ⟨wc.heap.size, 0, none⟩ 1 1 [.int .i64 pos] rfl rfl ?d1 ?d2 ?d3 ?d4 ?d5 ?_)
          case d2 => rfl
          case d3 => unfold maxLen; omega
          case d4 => omega
          case d5 => omega
          intro v9 wA hownA hgA _
          have hA1 : Hid (wA.ownsRow (wb.heap.size + 2) 3 1 v9 (allI a0 ah (k + 1)).length ((allI a0 ah (k + 1)).map (Value.int .i64))) := by rw [Hid, hallS.out, List.length_append, List.map_append, hal]; exact hownA
          have hA2 := Lib.hid ((hinvq.out.marks.alloc (.cells #[.int .i64 pos] 3)).kept hgA (rows_ne (by decide) hinvq.out.all hinvq.out.marks))
          have hneS : (u9).ownBlock ≠ some (wb.heap.size + 1) := fun e => by have := (hinvq.out.all.lt _ e).1; omega
          have hA4 := Lib.hid ((hinvq.out.box.below (B_alloc (Below.refl _ _) (.cells #[.int .i64 pos] 3))).kept hgA hneS)
          have hA5 : Hid (Below wb.heap.size wb wA) := B_grown (B_alloc hbq.out _) (by have := hbq.out.size; simp at *; omega) (Joins.ownsRow_le (hinvq.out.all.alloc _) (by omega)) hgA
          have hzA : wb.heap.size + 1 < wA.heap.size := hA4.out.lt
          have s7 : wA.cell? ⟨wb.heap.size + 1, 7, none⟩ = some (.slice a ms.length c) := hA4.out.cell 7
          clear hownA hgA hneS hinvq hbq hSq
          have hfz : foot ≠ 0 := by omega
          have hf0 : 0 < foot := by omega
          have hmodp : pos.tmod foot = pos % foot := Int.tmod_eq_emod_of_nonneg hps0
          have hdivp : pos.tdiv foot = pos / foot := Int.tdiv_eq_ediv_of_nonneg hps0
          have hd0 : 0 ≤ pos / foot := Int.ediv_nonneg hps0 (by omega)
          have hd1 : pos / foot ≤ pos := Int.ediv_le_self _ hps0
          have he0 : 0 ≤ pos % foot := Int.emod_nonneg _ hfz
          have he1 : pos % foot < foot := Int.emod_lt_of_pos _ hf0
          have hfb : Hid (footB foot a0 ah k ms.length = (decide (pos % foot = 0) && decide (pos / foot ≤ 9999) && decide (ms.length < 60))) := by
            unfold Hid footB; rw [HPos.out]
          go_upto_region 15 with fail
          go_cut [78] (fun b wx => b = .bool (footB foot a0 ah k ms.length) ∧ wx = wA)
          case first =>
            have hlm : ((ms.length : Nat) : Int) < 60 ↔ ms.length < 60 := by omega
            by_cases e1 : pos % foot = 0
            · by_cases e2 : pos / foot ≤ 9999
              · by_cases e3 : ms.length < 60
                · have e3' : ((ms.length : Nat) : Int) < 60 := by omega
                  clear hlm
                  go_wp2
                  go_meet
                  exact ⟨by rw [hfb.out]; simp [e1, e2, e3], rfl⟩
                · have e3' : ¬ ((ms.length : Nat) : Int) < 60 := by omega
                  clear hlm
                  go_wp2
                  go_meet
                  exact ⟨by rw [hfb.out]; simp [e3], rfl⟩
              · clear hlm
                go_wp2
                go_meet
                exact ⟨by rw [hfb.out, show decide (pos / foot ≤ 9999) = false by rw [decide_eq_false_iff_not]; omega]; simp, rfl⟩
            · have e1' : (pos % foot == 0) = false := by simpa using e1
              clear hlm
              go_wp2
              go_meet
              exact ⟨by rw [hfb.out]; simp [e1], rfl⟩
          case rest =>
            obtain ⟨rfl, rfl⟩ := hcut
            cases hF : footB foot a0 ah k ms.length
            · have hmk : Hid (mkTo foot (ro % 100) a0 ah no (k + 1) = (ms, nz)) := by rw [Hid, hmkS.out, if_neg (by rw [hF]; decide)]
              clear hmkS hfb hF
              go_wp2
              go_roundg (N - (k + 1))
              case measure => omega
              case rel => exact ⟨k + 1, a, c, rfl, by omega, by go_num, by rw [hatS.out], by rw [hmk.out], hA5.out, by rw [hmk.out]; exact ⟨hA4.out, hA1.out, hA2.out⟩⟩
            · have hmkT : Hid (mkTo foot (ro % 100) a0 ah no (k + 1) = (if notedB no nz = true then ms ++ [((k : Int), ro % 100, pos / foot)] else ms, nz + 1)) := by rw [Hid, hmkS.out, if_pos hF]
              have hl60 : ms.length < 60 := by
                have := hF
                unfold footB at this
                rw [Bool.and_eq_true, decide_eq_true_eq] at this
                exact this.2
              have x5 : wc.cell? ⟨w.heap.size + 1, 5, none⟩ = some (.slice na nn nc) := (hA5.out.cell (p := ⟨w.heap.size + 1, 5, none⟩) hz1).trans (HXx.out 5)
              have hlenN := HNo.out.len
              clear hmkS hfb hF
              go_upto_region 16 with fail
              go_cut [95] (fun b wx => b = .bool (notedB no nz) ∧ ∃ m, wx = wc.drewN m)
              case first =>
                by_cases hnn : nn = 0
                · have he : notedB no nz = true := by simp [notedB, hlenN, hnn]
                  subst hnn
                  go_wp2
                  go_quiet (fail)
                  go_wp2
                  go_meet
                  exact ⟨by rw [he], _, rfl⟩
                · obtain ⟨b2, o2, hza, hbs2, hc2⟩ := HNo.out.at_ (by omega)
                  obtain ⟨z0, z1, z2⟩ := hc2 (nz % nn) (Nat.mod_lt _ (by omega))
                  have he : Hid (notedB no nz = (no.getD (nz % nn) 0 % 2 == 0)) := by simp [Hid, notedB, hlenN, hnn]
                  have hmod : (nz : Int).tmod (nn : Int) = ((nz % nn : Nat) : Int) := by rw [Int.tmod_eq_emod_of_nonneg (by omega)]; rfl
                  have hmlt : nz % nn < nn := Nat.mod_lt _ (by omega)
                  have hzbig := HNo.out.big
                  generalize nz % nn = m at z0 z1 z2 he hmod hmlt
                  clear hc2
                  generalize no.getD m 0 = zz at z0 z1 z2 he
                  have z0w := (hA5.out.cell (p := ⟨b2, o2 + m, none⟩) (by show b2 < _; omega)).trans ((hBB.out.cell (p := ⟨b2, o2 + m, none⟩) hbs2).trans z0)
                  have hzm : zz.tmod 2 = zz % 2 := Int.tmod_eq_emod_of_nonneg z1
                  subst hza
                  have hnnb : ((nn : Int) == 0) = false := by simp; omega
                  have hzn0 : 0 < (nn : Int) := by omega
                  have hm0 : 0 ≤ (m : Int) := by omega
                  have hm1 : (m : Int) < nn := by omega
                  clear z0
                  by_cases hz2' : zz % 2 = 0
                  · have hzb : (zz % 2 == 0) = true := by simpa using hz2'
                    rw [hzb] at he
                    go_wp2
                    go_quiet (fail)
                    go_wp2
                    go_meet
                    exact ⟨by rw [he.out], _, rfl⟩
                  · have hzb : (zz % 2 == 0) = false := by simpa using hz2'
                    rw [hzb] at he
                    go_wp2
                    go_quiet (fail)
                    go_wp2
                    go_meet
                    exact ⟨by rw [he.out], _, rfl⟩
              case rest =>
              obtain ⟨rfl, m2, hwc2⟩ := hcut
              have hA1' : Hid (wc.ownsRow (wb.heap.size + 2) 3 1 v9 (allI a0 ah (k + 1)).length ((allI a0 ah (k + 1)).map (Value.int .i64))) := by rw [hwc2]; exact ownsRow_below hA1.out (B_drewN (Below.refl _ _) _)
              have hA2' : Hid (wc.ownsRow (wb.heap.size + 2) 68 3 (.slice a ms.length c) ms.length (flat3 ms)) := by rw [hwc2]; exact ownsRow_below hA2.out (B_drewN (Below.refl _ _) _)
              have hA4' : Hid (Box wc (wb.heap.size + 1) (madeR r g fr a ms.length c)) := by rw [hwc2]; exact hA4.out.below (B_drewN (Below.refl _ _) _)
              have hA5' : Hid (Below wb.heap.size wb wc) := by rw [hwc2]; exact B_drewN hA5.out _
              have hzC := hA4'.out.lt
              clear hwc2 hA1 hA2 hA4 hA5 s7 x5 hzA
              cases hNB : notedB no nz
              · have hmk : Hid (mkTo foot (ro % 100) a0 ah no (k + 1) = (ms, nz + 1)) := by rw [Hid, hmkT.out, hNB]; rfl
                clear hmkT hNB
                go_wp2
                go_roundg (N - (k + 1))
                case measure => omega
                case rel => exact ⟨k + 1, a, c, rfl, by omega, by go_num, by rw [hatS.out], by rw [hmk.out]; go_num, hA5'.out, by rw [hmk.out]; exact ⟨hA4'.out, hA1'.out, hA2'.out⟩⟩
              · have hmk : Hid (mkTo foot (ro % 100) a0 ah no (k + 1) = (ms ++ [((k : Int), ro % 100, pos / foot)], nz + 1)) := by rw [Hid, hmkT.out, hNB]; rfl
                clear hmkT hNB
                go_upto_region 17 with fail
                have HS0 : Hid (CutS (⟨wb, wb.heap.size + 2, wb.heap.size + 1, w.heap.size + 1, madeR r g fr a ms.length c, a, ms.length, c, flat3 ms, k, ro, pos, foot, v9, allI a0 ah (k + 1)⟩ : CutP) false wc.drew) := ⟨fun _ => ⟨ownsRow_below hA2'.out (Below.refl _ _).drew, hA4'.out.cell 7⟩, hA5'.out.drew, fun j _ => hA4'.out.cell j, ⟨_, hA4'.out.cell 7⟩, hA4'.out.open_, ownsRow_below hA1'.out (Below.refl _ _).drew, by show wb.heap.size + 2 ≤ wc.heap.size; omega⟩
                go_cut [] (fun wx => CutS (⟨wb, wb.heap.size + 2, wb.heap.size + 1, w.heap.size + 1, madeR r g fr a ms.length c, a, ms.length, c, flat3 ms, k, ro, pos, foot, v9, allI a0 ah (k + 1)⟩ : CutP) true wx ∧ cutT (⟨wb, wb.heap.size + 2, wb.heap.size + 1, w.heap.size + 1, madeR r g fr a ms.length c, a, ms.length, c, flat3 ms, k, ro, pos, foot, v9, allI a0 ah (k + 1)⟩ : CutP) wx)
                case first =>
                  refine wp_region_phases' (S := CutS (⟨wb, wb.heap.size + 2, wb.heap.size + 1, w.heap.size + 1, madeR r g fr a ms.length c, a, ms.length, c, flat3 ms, k, ro, pos, foot, v9, allI a0 ah (k + 1)⟩ : CutP)) (T := cutT (⟨wb, wb.heap.size + 2, wb.heap.size + 1, w.heap.size + 1, madeR r g fr a ms.length c, a, ms.length, c, flat3 ms, k, ro, pos, foot, v9, allI a0 ah (k + 1)⟩ : CutP)) (R := fun s => cutR (⟨wb, wb.heap.size + 2, wb.heap.size + 1, w.heap.size + 1, madeR r g fr a ms.length c, a, ms.length, c, flat3 ms, k, ro, pos, foot, v9, allI a0 ah (k + 1)⟩ : CutP) (s + 1 - 96)) (out := []) (jA := 12) (N := 116) (by kernel_rfl) (by decide) (by kernel_rfl) rfl (by kernel_rfl) (by kernel_rfl) (by kernel_rfl) (by decide) ?hS ?steps ?hend
                  case hS => exact HS0.out
                  case hend =>
                    intro x w' hS hx hT
                    have hS' := Lib.hid hS
                    have hT' := Lib.hid hT
                    clear hx hS hT
                    simp only [flowAct, List.filterMap_cons, List.filterMap_nil, patch, List.setIfInBounds_toArray, List.set_cons_zero, List.set_cons_succ]
                    go_wp2_with fail
                    go_meet
                    exact ⟨hS'.out, hT'.out⟩
                  case steps =>
                    refine ⟨⟨rfl, fun ρ b w' hS hij hw1 hw2 hc hg h_fn hr ho => ?_⟩, ?_⟩
                    · have h1 := ho 7 (by kernel_rfl)
                      refine phase_pure (t := 96) (v := .pointer (some ⟨wb.heap.size + 1, 7, none⟩)) rfl rfl hS rfl ?_
                      go_simp
                    refine ⟨⟨rfl, fun ρ b w' hS hij hw1 hw2 hc hg h_fn hr ho => ?_⟩, ?_⟩
                    · have h96 : ρ (.tmp 96) = .pointer (some ⟨wb.heap.size + 1, 7, none⟩) := hr 96 (by kernel_rfl)
                      have hb0 : b = false := hw2 (by kernel_rfl)
                      obtain ⟨hrow, hcell⟩ := hS.first hb0
                      refine phase_pure (t := 97) (v := .slice a ms.length c) rfl ⟨rfl, hrow⟩ hS rfl ?_
                      have hcell' : w'.cell? ⟨wb.heap.size + 1, 7, none⟩ = some (.slice a ms.length c) := hcell
                      clear hcell hrow
                      go_simp
                    refine ⟨⟨rfl, fun ρ b w' hS hij hw1 hw2 hc hg h_fn hr ho => ?_⟩, ?_⟩
                    · have h1 := ho 12 (by kernel_rfl)
                      refine phase_pure (t := 98) (v := .int .i64 (k : Int)) rfl rfl hS rfl ?_
                      go_simp
                    refine ⟨⟨rfl, fun ρ b w' hS hij hw1 hw2 hc hg h_fn hr ho => ?_⟩, ?_⟩
                    · have h1 := ho 3 (by kernel_rfl)
                      refine phase_pure (t := 99) (v := .pointer (some ⟨w.heap.size + 1, 1, none⟩)) rfl rfl hS rfl ?_
                      go_simp
                    refine ⟨⟨rfl, fun ρ b w' hS hij hw1 hw2 hc hg h_fn hr ho => ?_⟩, ?_⟩
                    · have h99 : ρ (.tmp 99) = .pointer (some ⟨w.heap.size + 1, 1, none⟩) := hr 99 (by kernel_rfl)
                      have hcell : w'.cell? ⟨w.heap.size + 1, 1, none⟩ = some (.int .u8 ro) := (hS.below.cell (p := ⟨w.heap.size + 1, 1, none⟩) hz1).trans (HXx.out 1)
                      refine phase_pure (t := 100) (v := .int .u8 ro) rfl rfl hS rfl ?_
                      go_simp
                    refine ⟨⟨rfl, fun ρ b w' hS hij hw1 hw2 hc hg h_fn hr ho => ?_⟩, ?_⟩
                    · have h100 : ρ (.tmp 100) = .int .u8 ro := hr 100 (by kernel_rfl)
                      have hwr : IntKind.i64.wrap ro = ro := IntWalk.i64_in _ (by omega)
                      refine phase_pure (t := 101) (v := .int .i64 ro) rfl rfl hS rfl ?_
                      go_simp
                    refine ⟨⟨rfl, fun ρ b w' hS hij hw1 hw2 hc hg h_fn hr ho => ?_⟩, ?_⟩
                    · have h101 : ρ (.tmp 101) = .int .i64 ro := hr 101 (by kernel_rfl)
                      have hmr : ro.tmod 100 = ro % 100 := Int.tmod_eq_emod_of_nonneg hr0
                      have hwr : IntKind.i64.wrap (ro % 100) = ro % 100 := IntWalk.i64_in _ (by omega)
                      refine phase_pure (t := 102) (v := .int .i64 (ro % 100)) rfl rfl hS rfl ?_
                      go_simp
                    refine ⟨⟨rfl, fun ρ b w' hS hij hw1 hw2 hc hg h_fn hr ho => ?_⟩, ?_⟩
                    · have h1 := ho 10 (by kernel_rfl)
                      refine phase_pure (t := 103) (v := .int .i64 pos) rfl rfl hS rfl ?_
                      go_simp
                    refine ⟨⟨rfl, fun ρ b w' hS hij hw1 hw2 hc hg h_fn hr ho => ?_⟩, ?_⟩
                    · have h1 := ho 8 (by kernel_rfl)
                      refine phase_pure (t := 104) (v := .int .i64 foot) rfl rfl hS rfl ?_
                      go_simp
                    refine ⟨⟨rfl, fun ρ b w' hS hij hw1 hw2 hc hg h_fn hr ho => ?_⟩, ?_⟩
                    · have h103 : ρ (.tmp 103) = .int .i64 pos := hr 103 (by kernel_rfl)
                      have h104 : ρ (.tmp 104) = .int .i64 foot := hr 104 (by kernel_rfl)
                      have hwr : IntKind.i64.wrap (pos / foot) = pos / foot := IntWalk.i64_in _ (by omega)
                      refine phase_pure (t := 105) (v := .int .i64 (pos / foot)) rfl rfl hS rfl ?_
                      go_simp
                    refine ⟨⟨rfl, fun ρ b w' hS hij hw1 hw2 hc hg h_fn hr ho => ?_⟩, ?_⟩
                    · have h98 : ρ (.tmp 98) = .int .i64 (k : Int) := hr 98 (by kernel_rfl)
                      have h102 : ρ (.tmp 102) = .int .i64 (ro % 100) := hr 102 (by kernel_rfl)
                      have h105 : ρ (.tmp 105) = .int .i64 (pos / foot) := hr 105 (by kernel_rfl)
                      refine phase_pure (t := 106) (v := (.agg #[.int .i64 (k : Int), .int .i64 (ro % 100), .int .i64 (pos / foot)])) rfl rfl hS rfl ?_
                      go_simp
                    refine ⟨⟨rfl, fun ρ b w' hS hij hw1 hw2 hc hg h_fn hr ho => ?_⟩, ?_⟩
                    · have h106 : ρ (.tmp 106) = .agg #[.int .i64 (k : Int), .int .i64 (ro % 100), .int .i64 (pos / foot)] := hr 106 (by kernel_rfl)
                      refine phase_new (t := 107) (v := .slice (some ⟨w'.heap.size, 0, none⟩) 1 1) (w' := w'.alloc (.cells #[.int .i64 (k : Int), .int .i64 (ro % 100), .int .i64 (pos / foot)] 68)) rfl (by go_simp) ⟨w'.heap.size, rfl, hS.size, heap_new _ _⟩ (by rw [show b = false from hw2 (by kernel_rfl)] at hS ⊢; exact hS.alloc rfl _) (fun s u _ h => cutR_grown (grown_none _) (fun g h => by cases h) _ _ h) (fun h => by cases h.symm.trans (show stored _ 11 = true by kernel_rfl))
                    refine ⟨⟨rfl, fun ρ b w' hS hij hw1 hw2 hc hg h_fn hr ho => ?_⟩, ?_⟩
                    · obtain ⟨h97, hrow⟩ : cutR (⟨wb, wb.heap.size + 2, wb.heap.size + 1, w.heap.size + 1, madeR r g fr a ms.length c, a, ms.length, c, flat3 ms, k, ro, pos, foot, v9, allI a0 ah (k + 1)⟩ : CutP) 2 (ρ (.tmp 97)) w' := hr 97 (by kernel_rfl)
                      obtain ⟨q, h107, hqb, hqh⟩ : cutR (⟨wb, wb.heap.size + 2, wb.heap.size + 1, w.heap.size + 1, madeR r g fr a ms.length c, a, ms.length, c, flat3 ms, k, ro, pos, foot, v9, allI a0 ah (k + 1)⟩ : CutP) 12 (ρ (.tmp 107)) w' := hr 107 (by kernel_rfl)
                      obtain ⟨v', w2, hrun, hown2, hg2⟩ := cut_join (p := (⟨wb, wb.heap.size + 2, wb.heap.size + 1, w.heap.size + 1, madeR r g fr a ms.length c, a, ms.length, c, flat3 ms, k, ro, pos, foot, v9, allI a0 ah (k + 1)⟩ : CutP)) (by show ms.length ≤ 1000; omega) hS.size hrow hqh
                      refine phase_new (t := 108) (v := v') (w' := w2) rfl (run_append_in rfl rfl h107 hrun) hown2 (by rw [show (b || (12 == 12)) = true by simp]; exact hS.join rfl (by show wb.heap.size ≤ wb.heap.size + 1; omega) hrow hg2) (fun s u hsp h => ?_) (fun h => by cases h.symm.trans (show stored _ 12 = true by kernel_rfl))
                      obtain ⟨kk, hkk'⟩ : ∃ kk, s + 1 - 96 = kk := ⟨_, rfl⟩
                      simp only [hkk'] at h ⊢
                      match kk, hkk', h with
                      | 0, _, _ => trivial
                      | 1, _, h => exact h
                      | 2, hk', _ => obtain rfl : s = 97 := by omega
                                     cases hsp.symm.trans (show spared _ _ 12 97 = true by kernel_rfl)
                      | 3, _, h => exact h
                      | 4, _, h => exact h
                      | 5, _, h => exact h
                      | 6, _, h => exact h
                      | 7, _, h => exact h
                      | 8, _, h => exact h
                      | 9, _, h => exact h
                      | 10, _, h => exact h
                      | 11, _, h => exact h
                      | 12, hk', _ => obtain rfl : s = 107 := by omega
                                      cases hsp.symm.trans (show spared _ _ 12 107 = true by kernel_rfl)
                      | 13, hk', _ => obtain rfl : s = 108 := by omega
                                      cases hsp.symm.trans (show spared _ _ 12 108 = true by kernel_rfl)
                      | 14, _, h => exact h
                      | _ + 15, _, _ => trivial
                    refine ⟨⟨rfl, fun ρ b w' hS hij hw1 hw2 hc hg h_fn hr ho => ?_⟩, ?_⟩
                    · have h1 := ho 7 (by kernel_rfl)
                      refine phase_pure (t := 109) (v := .pointer (some ⟨wb.heap.size + 1, 7, none⟩)) rfl rfl hS rfl ?_
                      go_simp
                    refine ⟨⟨rfl, fun ρ b w' hS hij hw1 hw2 hc hg h_fn hr ho => ?_⟩, trivial⟩
                    · have h109 : ρ (.tmp 109) = .pointer (some ⟨wb.heap.size + 1, 7, none⟩) := hr 109 (by kernel_rfl)
                      have h108 : w'.ownsRow _ _ _ (ρ (.tmp 108)) _ _ := hr 108 (by kernel_rfl)
                      obtain ⟨g5, cap, hv⟩ := Joins.ownsRow_form h108 (Nat.succ_pos _)
                      rw [hv] at h108
                      have hb1 : b = true := hw1 (by kernel_rfl)
                      obtain ⟨u, hu⟩ := hS.at_
                      have hu' : w'.cell? ⟨wb.heap.size + 1, 7, none⟩ = some u := hu
                      have hf' : w'.frozen? ⟨wb.heap.size + 1, 7, none⟩ = false := hS.open_ 7
                      rw [hb1] at hS
                      have hv' : ρ (.tmp 108) = .slice (some ⟨g5, 0, none⟩) (ms.length + 1) cap := hv
                      refine phase_store (w' := w'.setCell ⟨wb.heap.size + 1, 7, none⟩ (.slice (some ⟨g5, 0, none⟩) (ms.length + 1) cap)) rfl ?_ (by rw [hb1]; exact hS.store rfl (by show wb.heap.size ≤ wb.heap.size + 1; omega) _) (fun s u _ h => cutR_grown (only_setCell (only_refl _ (some (wb.heap.size + 1))) rfl _) (fun b hb => by cases hb; show wb.heap.size + 1 < wb.heap.size + 2; omega) _ _ h) ⟨some ⟨g5, 0, none⟩, cap, ownsRow_setCell_below h108 (by show wb.heap.size + 1 < wb.heap.size + 2; omega) _, set_same hu⟩
                      clear h108 hv hu hS hr ho hc hg h_fn
                      go_simp
                case rest =>
                  have hS := hcut.1
                  obtain ⟨a', c', hrow, hc7⟩ := hcut.2
                  have hBx : Hid (Box wc (wb.heap.size + 1) (madeR r g fr a' (ms.length + 1) c')) := by
                    refine ⟨fun j => ?_, hS.open_, by have := hS.size; show wb.heap.size + 1 < _; simp at this; omega⟩
                    by_cases e : j = 7
                    · subst e; exact hc7
                    · refine (hS.cell j e).trans ?_
                      match j, e with
                      | 0, _ => rfl
                      | 1, _ => rfl
                      | 2, _ => rfl
                      | 3, _ => rfl
                      | 4, _ => rfl
                      | 5, _ => rfl
                      | 6, _ => rfl
                      | 7, e => exact absurd rfl e
                      | 8, _ => rfl
                      | 9, _ => rfl
                      | j + 10, _ => rfl
                  have hSb := Lib.hid hS.below
                  have hSa := Lib.hid hS.all
                  have hrow' : Hid (wc.ownsRow (wb.heap.size + 2) 68 3 (.slice a' (ms.length + 1) c') (ms.length + 1) (flat3 (ms ++ [((k : Int), ro % 100, pos / foot)]))) := by rw [Hid, flat3_snoc]; exact hrow
                  clear hS hrow hc7 hcut HS0 hA1' hA2' hA4' hA5' hzC
                  go_wp2
                  go_roundg (N - (k + 1))
                  case measure => omega
                  case rel => exact ⟨k + 1, a', c', rfl, by omega, by go_num, by rw [hatS.out], by rw [hmk.out]; go_num, hSb.out, by rw [hmk.out]; exact ⟨by rw [List.length_append]; exact hBx.out, hSa.out, by rw [List.length_append]; exact hrow'.out⟩⟩
      · have e1 : k = N := by omega
        subst e1
        have hkN' : ¬ ((k : Int) < 1 + fr % 600) := by have := hN2.out; omega
        have hms : (mkTo foot (ro % 100) a0 ah no k).1.length = (mkTo foot (ro % 100) a0 ah no k).1.length := rfl
        obtain ⟨n0, n1, n2, n3, n4, n5, n6, n7, n8, n9⟩ : wr.cell? ⟨wb.heap.size + 1, 0, none⟩ = some (.string r.nm) ∧ wr.cell? ⟨wb.heap.size + 1, 1, none⟩ = some (.int .i64 (gaugeI g)) ∧ wr.cell? ⟨wb.heap.size + 1, 2, none⟩ = some (.int .i64 r.b) ∧ wr.cell? ⟨wb.heap.size + 1, 3, none⟩ = some (.int .i64 (1 + fr % 600)) ∧ wr.cell? ⟨wb.heap.size + 1, 4, none⟩ = some (.int .i64 r.lo) ∧ wr.cell? ⟨wb.heap.size + 1, 5, none⟩ = some (.int .i64 r.hi) ∧ wr.cell? ⟨wb.heap.size + 1, 6, none⟩ = some (.int .i64 r.k) ∧ wr.cell? ⟨wb.heap.size + 1, 7, none⟩ = some (.slice a (mkTo foot (ro % 100) a0 ah no k).1.length c) ∧ wr.cell? ⟨wb.heap.size + 1, 8, none⟩ = some (.slice r.sa r.sn r.sc) ∧ wr.cell? ⟨wb.heap.size + 1, 9, none⟩ = some (.slice r.la r.ln r.lc) := hinv.out.box.all
        have hZw := Lib.hid (HZr.out.below hb)
        obtain ⟨y0, y1, y2, y3, y4, y5, y6, y7, y8, y9⟩ : wr.cell? ⟨w.heap.size + 1 + 1, 0, none⟩ = some (.string ⟨#[]⟩) ∧ wr.cell? ⟨w.heap.size + 1 + 1, 1, none⟩ = some (.int .i64 0) ∧ wr.cell? ⟨w.heap.size + 1 + 1, 2, none⟩ = some (.int .i64 0) ∧ wr.cell? ⟨w.heap.size + 1 + 1, 3, none⟩ = some (.int .i64 0) ∧ wr.cell? ⟨w.heap.size + 1 + 1, 4, none⟩ = some (.int .i64 0) ∧ wr.cell? ⟨w.heap.size + 1 + 1, 5, none⟩ = some (.int .i64 0) ∧ wr.cell? ⟨w.heap.size + 1 + 1, 6, none⟩ = some (.int .i64 0) ∧ wr.cell? ⟨w.heap.size + 1 + 1, 7, none⟩ = some (.slice none 0 0) ∧ wr.cell? ⟨w.heap.size + 1 + 1, 8, none⟩ = some (.slice none 0 0) ∧ wr.cell? ⟨w.heap.size + 1 + 1, 9, none⟩ = some (.slice none 0 0) := hZw.out.all
        have f0 := hZw.out.open_ 0
        have f1 := hZw.out.open_ 1
        have f2 := hZw.out.open_ 2
        have f3 := hZw.out.open_ 3
        have f4 := hZw.out.open_ 4
        have f5 := hZw.out.open_ 5
        have f6 := hZw.out.open_ 6
        have f7 := hZw.out.open_ 7
        have f8 := hZw.out.open_ 8
        have f9 := hZw.out.open_ 9
        obtain ⟨ra, rn, rc, rfl, hI, -⟩ := ints_of_row hinv.out.all
        obtain rfl : k = rn := by rw [← hI.len, allI_len]
        have Hb := Lib.hid hb
        have HInv := Lib.hid hinv
        clear hb hinv hms hI
        generalize hmk0 : mkTo foot (ro % 100) a0 ah no k = mk at HInv n0 n1 n2 n3 n4 n5 n6 n7 n8 n9 ⊢
        obtain ⟨ms, nz⟩ := mk
        have HMk := Lib.hid hmk0
        clear hmk0
        simp only at HInv n0 n1 n2 n3 n4 n5 n6 n7 n8 n9 ⊢
        go_wp2_with fail
        have hzz := hzb.out
        obtain ⟨W, hW, hX, hAl, hMk, hBw⟩ : ∃ W, ((((((((((wr.setCell ⟨w.heap.size + 1 + 1, 0, none⟩ (.string r.nm)).setCell ⟨w.heap.size + 1 + 1, 1, none⟩ (.int .i64 (gaugeI g))).setCell ⟨w.heap.size + 1 + 1, 2, none⟩ (.int .i64 r.b)).setCell ⟨w.heap.size + 1 + 1, 3, none⟩ (.int .i64 (1 + fr % 600))).setCell ⟨w.heap.size + 1 + 1, 4, none⟩ (.int .i64 r.lo)).setCell ⟨w.heap.size + 1 + 1, 5, none⟩ (.int .i64 r.hi)).setCell ⟨w.heap.size + 1 + 1, 6, none⟩ (.int .i64 r.k)).setCell ⟨w.heap.size + 1 + 1, 7, none⟩ (.slice a ms.length c)).setCell ⟨w.heap.size + 1 + 1, 8, none⟩ (.slice r.sa r.sn r.sc)).setCell ⟨w.heap.size + 1 + 1, 9, none⟩ (.slice r.la r.ln r.lc)) = W ∧ Box W (w.heap.size + 1 + 1) (madeR r g fr a ms.length c) ∧ W.ownsRow (wb.heap.size + 2) 3 1 (.slice ra k rc) (allI a0 ah k).length ((allI a0 ah k).map (Value.int .i64)) ∧ W.ownsRow (wb.heap.size + 2) 68 3 (.slice a ms.length c) ms.length (flat3 ms) ∧ Below w.heap.size w W :=
          ⟨_, rfl, hZw.out.setAll2 (madeR r g fr a ms.length c), row_setAll HInv.out.all (by omega) (madeR r g fr a ms.length c), row_setAll HInv.out.marks (by omega) (madeR r g fr a ms.length c), below_setAll (B_trans hBB.out Hb.out) (by omega) (madeR r g fr a ms.length c)⟩
        rw [hW]
        clear hW
        obtain ⟨d0, d1, d2, d3, d4, d5, d6, d7, d8, d9⟩ : W.cell? ⟨w.heap.size + 1 + 1, 0, none⟩ = some (.string r.nm) ∧ W.cell? ⟨w.heap.size + 1 + 1, 1, none⟩ = some (.int .i64 (gaugeI g)) ∧ W.cell? ⟨w.heap.size + 1 + 1, 2, none⟩ = some (.int .i64 r.b) ∧ W.cell? ⟨w.heap.size + 1 + 1, 3, none⟩ = some (.int .i64 (1 + fr % 600)) ∧ W.cell? ⟨w.heap.size + 1 + 1, 4, none⟩ = some (.int .i64 r.lo) ∧ W.cell? ⟨w.heap.size + 1 + 1, 5, none⟩ = some (.int .i64 r.hi) ∧ W.cell? ⟨w.heap.size + 1 + 1, 6, none⟩ = some (.int .i64 r.k) ∧ W.cell? ⟨w.heap.size + 1 + 1, 7, none⟩ = some (.slice a ms.length c) ∧ W.cell? ⟨w.heap.size + 1 + 1, 8, none⟩ = some (.slice r.sa r.sn r.sc) ∧ W.cell? ⟨w.heap.size + 1 + 1, 9, none⟩ = some (.slice r.la r.ln r.lc) := hX.all
        obtain ⟨pa, pc, he, hsl⟩ := sl3_row hMk
        injection he with he1 he2 he3
        subst he1 he3
        obtain ⟨ra', rn', rc', he', hI', -⟩ := ints_of_row hAl
        injection he' with he1' he2' he3'
        subst he1' he2' he3'
        refine bodyPost_ret (v := .tuple #[.agg #[.string r.nm, .int .i64 (gaugeI g), .int .i64 r.b, .int .i64 (1 + fr % 600), .int .i64 r.lo, .int .i64 r.hi, .int .i64 r.k, .slice a ms.length c, .slice r.sa r.sn r.sc, .slice r.la r.ln r.lc], .slice ra k rc]) (by simp [results, Tryz.results40, go_sem, d0, d1, d2, d3, d4, d5, d6, d7, d8, d9]) rfl ?_
        unfold MadePost
        rw [HNN.out, HA00.out, Hfoot.out, HMk.out]
        exact ⟨a, c, ra, rc, rfl, hsl, hI', hBw⟩
end Go.Proofs.YtbicafmlbknkiaaGreatDoor

/- The law FilmShrunk. -/
import Derived.Test.YtbicafmlbknkiaaGreatDoorXT
import Derived.Test.YtbicafmlbknkiaaGreatDoorXL
import Derived.Test.YtbicafmlbknkiaaGreatDoorXJ
import Derived.Test.YtbicafmlbknkiaaGreatDoorWV
namespace Go.Proofs.YtbicafmlbknkiaaGreatDoor
open Go.RowKit

theorem tdiv_small {t E : Int} (hE : 0 ≤ E) (h1 : -255 * E ≤ t) (h2 : t ≤ 255 * E) : -E ≤ t.tdiv 256 ∧ t.tdiv 256 ≤ E := by
  by_cases h : 0 ≤ t
  · rw [Int.tdiv_eq_ediv_of_nonneg h]; omega
  · have e : t = -(-t) := by omega
    rw [e, Int.neg_tdiv, Int.tdiv_eq_ediv_of_nonneg (by omega)]; omega
/-- A length that is wrong by at most its error allows the parts by which it was made. -/
theorem okP_made {fr mi p er wr : Int} (h1 : 0 ≤ fr) (h2 : 0 ≤ mi) (h3 : p ≤ 10000) (hE : 0 ≤ er) (hw1 : -255 ≤ wr) (hw2 : wr ≤ 255) :
    okP (fr, (fr * mi * (10000 - p)).tdiv 10000 + (er * wr).tdiv 256, er + 1) mi p := by
  have hA : 0 ≤ fr * mi * (10000 - p) := Int.mul_nonneg (Int.mul_nonneg h1 h2) (by omega)
  have m1 := Int.mul_le_mul_of_nonneg_left hw2 hE
  have m2 := Int.mul_le_mul_of_nonneg_left hw1 hE
  obtain ⟨t1, t2⟩ := tdiv_small (t := er * wr) hE (by omega) (by omega)
  unfold okP overI
  simp only
  rw [Int.tdiv_eq_ediv_of_nonneg hA]
  generalize fr * mi * (10000 - p) = A at hA ⊢
  omega
theorem okP_plain {fr mi p er : Int} (h1 : 0 ≤ fr) (h2 : 0 ≤ mi) (h3 : p ≤ 10000) (hE : 0 ≤ er) :
    okP (fr, (fr * mi * (10000 - p)).tdiv 10000, er + 1) mi p := by
  have := okP_made (wr := 0) h1 h2 h3 hE (by decide) (by decide)
  simpa using this

theorem info81 : (Tryz.prog.info? 81).map (fun i => (i.zero, i.size, i.bytes)) = some (some (.agg #[.int .i64 0, .int .i64 0, .int .i64 0]), 3, 24) := by kernel_rfl
theorem flat3_at : ∀ (l : List T3) (i : Nat), i < l.length → (flat3 l)[i * 3]? = some (.int .i64 (l.getD i (0, 0, 0)).1) ∧ (flat3 l)[i * 3 + 1]? = some (.int .i64 (l.getD i (0, 0, 0)).2.1) ∧ (flat3 l)[i * 3 + 2]? = some (.int .i64 (l.getD i (0, 0, 0)).2.2)
  | [], i, h => by cases h
  | x :: l, 0, h => ⟨rfl, rfl, rfl⟩
  | x :: l, i + 1, h => by
    have e : flat3 (x :: l) = [.int .i64 x.1, .int .i64 x.2.1, .int .i64 x.2.2] ++ flat3 l := rfl
    have ih := flat3_at l i (by simpa using h)
    rw [e, show (i + 1) * 3 = 3 + i * 3 by omega, show 3 + i * 3 + 1 = 3 + (i * 3 + 1) by omega, show 3 + i * 3 + 2 = 3 + (i * 3 + 2) by omega]
    rw [List.getElem?_append_right (by simp), List.getElem?_append_right (by simp), List.getElem?_append_right (by simp)]
    simpa using ih
/-- A row of structs of three integers, of any type, reads as a slice. -/
theorem sl3_row {w : World} {B : Nat} {t : TypeId} {v : Value} {L : List T3} (h : w.ownsRow B t 3 v L.length (flat3 L)) : ∃ a c, v = .slice a L.length c ∧ Sl3 w a L.length L := by
  rcases Joins.ownsRow_forms h with ⟨rfl, hn⟩ | ⟨g, cap, rfl⟩
  · rw [hn]; exact ⟨none, 0, rfl, ⟨hn, fun h => absurd h (by omega)⟩⟩
  · refine ⟨_, _, rfl, ⟨rfl, fun _ => ⟨g, 0, rfl, (h.lt g rfl).2, fun i hi => ?_⟩⟩⟩
    obtain ⟨k0, k1, k2⟩ := flat3_at L i hi
    rw [Nat.zero_add, h.cellAt _ (by omega), h.cellAt _ (by omega), h.cellAt _ (by omega)]
    exact ⟨k0, k1, k2⟩

/-- A reel in a box that can be written. -/
structure Box (w : World) (S : Nat) (r : RA) : Prop where
  cell : ∀ j, w.cell? ⟨S, j, none⟩ = r.cs[j]?
  open_ : ∀ j, w.frozen? ⟨S, j, none⟩ = false
  lt : S < w.heap.size
theorem Box.all {w : World} {S : Nat} {r : RA} (h : Box w S r) : w.cell? ⟨S, 0, none⟩ = some (.string r.nm) ∧ w.cell? ⟨S, 1, none⟩ = some (.int .i64 r.g) ∧ w.cell? ⟨S, 2, none⟩ = some (.int .i64 r.b) ∧ w.cell? ⟨S, 3, none⟩ = some (.int .i64 r.f) ∧ w.cell? ⟨S, 4, none⟩ = some (.int .i64 r.lo) ∧ w.cell? ⟨S, 5, none⟩ = some (.int .i64 r.hi) ∧ w.cell? ⟨S, 6, none⟩ = some (.int .i64 r.k) ∧ w.cell? ⟨S, 7, none⟩ = some (.slice r.ma r.mn r.mc) ∧ w.cell? ⟨S, 8, none⟩ = some (.slice r.sa r.sn r.sc) ∧ w.cell? ⟨S, 9, none⟩ = some (.slice r.la r.ln r.lc) :=
  ⟨h.cell 0, h.cell 1, h.cell 2, h.cell 3, h.cell 4, h.cell 5, h.cell 6, h.cell 7, h.cell 8, h.cell 9⟩
theorem Box.below {w w' : World} {S : Nat} {r : RA} (h : Box w S r) (hb : Below w.heap.size w w') : Box w' S r :=
  ⟨fun j => (hb.cell (p := ⟨S, j, none⟩) h.lt).trans (h.cell j), fun j => (hb.frozen (p := ⟨S, j, none⟩) h.lt).trans (h.open_ j), Nat.lt_of_lt_of_le h.lt hb.size⟩
theorem Box.kept {w w' : World} {S : Nat} {r : RA} {row : Option Nat} (h : Box w S r) (hb : w.grownBy w' row) (hne : row ≠ some S) : Box w' S r :=
  ⟨fun j => (World.cell?_of_block (hb.block S h.lt (fun e => hne e.symm))).trans (h.cell j), fun j => (World.frozen?_of_block (hb.block S h.lt (fun e => hne e.symm))).trans (h.open_ j), Nat.lt_of_lt_of_le h.lt hb.size⟩
theorem Box.other {w : World} {S : Nat} {r : RA} (h : Box w S r) {p : Addr} (hp : p.block ≠ S) (v : Value) : Box (w.setCell p v) S r :=
  ⟨fun j => (World.cell?_setCell_other _ _ _ _ (fun e => hp (by rw [e]))).trans (h.cell j), fun j => set_frozen (h.open_ j), by simpa [World.setCell] using h.lt⟩
theorem Box.new (w : World) (r : RA) : Box (w.alloc (.cells r.cs 30)) w.heap.size r :=
  ⟨fun j => World.cell?_alloc_at _ _ _ _ rfl, fun j => World.frozen?_alloc_at _ _ _ _ rfl, by simp⟩
theorem Box.new' (w : World) (r : RA) (n : Nat) (h : n = w.heap.size) : Box (w.alloc (.cells r.cs 30)) n r := by subst h; exact Box.new w r
theorem Box.setL {w : World} {S : Nat} {r : RA} (h : Box w S r) (a : Option Addr) (n c : Nat) : Box (w.setCell ⟨S, 9, none⟩ (.slice a n c)) S { r with la := a, ln := n, lc := c } := by
  refine ⟨fun j => ?_, fun j => set_frozen (h.open_ j), by simpa [World.setCell] using h.lt⟩
  by_cases e : j = 9
  · subst e; exact (set_same (h.cell 9)).trans rfl
  · refine (World.cell?_setCell_other _ _ _ _ (fun e' => e (by injection e' with _ e2; exact e2.symm))).trans ((h.cell j).trans ?_)
    match j, e with
    | 0, _ => rfl
    | 1, _ => rfl
    | 2, _ => rfl
    | 3, _ => rfl
    | 4, _ => rfl
    | 5, _ => rfl
    | 6, _ => rfl
    | 7, _ => rfl
    | 8, _ => rfl
    | 9, e => exact absurd rfl e
    | j + 10, _ => rfl
theorem Box.setS {w : World} {S : Nat} {r : RA} (h : Box w S r) (a : Option Addr) (n c : Nat) : Box (w.setCell ⟨S, 8, none⟩ (.slice a n c)) S { r with sa := a, sn := n, sc := c } := by
  refine ⟨fun j => ?_, fun j => set_frozen (h.open_ j), by simpa [World.setCell] using h.lt⟩
  by_cases e : j = 8
  · subst e; exact (set_same (h.cell 8)).trans rfl
  · refine (World.cell?_setCell_other _ _ _ _ (fun e' => e (by injection e' with _ e2; exact e2.symm))).trans ((h.cell j).trans ?_)
    match j, e with
    | 0, _ => rfl
    | 1, _ => rfl
    | 2, _ => rfl
    | 3, _ => rfl
    | 4, _ => rfl
    | 5, _ => rfl
    | 6, _ => rfl
    | 7, _ => rfl
    | 8, e => exact absurd rfl e
    | 9, _ => rfl
    | j + 10, _ => rfl

/-- A slice of small integers. -/
structure Nums (w : World) (kd : IntKind) (lo hi : Int) (a : Option Addr) (n : Nat) (zs : List Int) : Prop where
  len : zs.length = n
  big : n ≤ 140737488355328
  at_ : 0 < n → ∃ b o, a = some ⟨b, o, none⟩ ∧ b < w.heap.size ∧ ∀ i, i < n → w.cell? ⟨b, o + i, none⟩ = some (.int kd (zs.getD i 0)) ∧ lo ≤ zs.getD i 0 ∧ zs.getD i 0 ≤ hi
theorem Nums.below {w w' : World} {kd : IntKind} {lo hi : Int} {a : Option Addr} {n : Nat} {zs : List Int} (h : Nums w kd lo hi a n zs) (hb : Below w.heap.size w w') : Nums w' kd lo hi a n zs :=
  ⟨h.len, h.big, fun hn => let ⟨b, o, e, hl, hc⟩ := h.at_ hn; ⟨b, o, e, Nat.lt_of_lt_of_le hl hb.size, fun i hi => ⟨(hb.cell (p := ⟨b, o + i, none⟩) hl).trans (hc i hi).1, (hc i hi).2⟩⟩⟩

/-- By how much a length is wrong. -/
def wrI (zs : List Int) (i : Nat) : Int := max (-255) (min 255 (zs.getD (i % zs.length) 0))
/-- A length as the statement makes it. -/
def newL (mi p : Int) (zs : List Int) (i : Nat) (x : T3) : T3 :=
  (x.1, (x.1 * mi * (10000 - p)).tdiv 10000 + (if zs.length = 0 then 0 else (x.2.2 * wrI zs i).tdiv 256), x.2.2 + 1)
def lsN (mi p : Int) (zs : List Int) (ls : List T3) (k : Nat) : List T3 := (List.range k).map fun i => newL mi p zs i (ls.getD i (0, 0, 0))
theorem lsN_succ (mi p : Int) (zs : List Int) (ls : List T3) (k : Nat) : lsN mi p zs ls (k + 1) = lsN mi p zs ls k ++ [newL mi p zs k (ls.getD k (0, 0, 0))] := by
  unfold lsN
  rw [List.range_succ, List.map_append]; rfl
theorem lsN_len (mi p : Int) (zs : List Int) (ls : List T3) (k : Nat) : (lsN mi p zs ls k).length = k := by simp [lsN]
theorem lsN_at (mi p : Int) (zs : List Int) (ls : List T3) {k i : Nat} (h : i < k) : (lsN mi p zs ls k).getD i (0, 0, 0) = newL mi p zs i (ls.getD i (0, 0, 0)) := by
  unfold lsN
  rw [List.getD_eq_getElem?_getD, List.getElem?_map, List.getElem?_range h]; rfl
theorem wrI_bd (zs : List Int) (i : Nat) : -255 ≤ wrI zs i ∧ wrI zs i ≤ 255 := by unfold wrI; omega
theorem wr_bd {e x : Int} (h0 : 0 ≤ e) (h1 : e ≤ 400000000) (h2 : -255 ≤ x) (h3 : x ≤ 255) : -102000000000 ≤ e * x ∧ e * x ≤ 102000000000 := by
  have m1 := Int.mul_le_mul_of_nonneg_left h3 h0
  have m2 := Int.mul_le_mul_of_nonneg_left h2 h0
  omega
theorem wr_bd2 {e x : Int} (h0 : 0 ≤ e) (h2 : -255 ≤ x) (h3 : x ≤ 255) : -255 * e ≤ e * x ∧ e * x ≤ 255 * e := by
  have m1 := Int.mul_le_mul_of_nonneg_left h3 h0
  have m2 := Int.mul_le_mul_of_nonneg_left h2 h0
  omega
theorem newL_ok {mi p : Int} {zs : List Int} {i : Nat} {x : T3} (h1 : 0 ≤ x.1) (h2 : 0 ≤ mi) (h3 : p ≤ 10000) (hE : 0 ≤ x.2.2) : okP (newL mi p zs i x) mi p := by
  unfold newL
  by_cases h : zs.length = 0
  · rw [if_pos h, Int.add_zero]; exact okP_plain h1 h2 h3 hE
  · rw [if_neg h]; exact okP_made h1 h2 h3 hE (wrI_bd zs i).1 (wrI_bd zs i).2
/-- What Shrink answers of the lengths that the statement makes. -/
theorem shrunk_has {mi p : Int} {zs : List Int} {ls : List T3} {n : Nat} (hm : 0 ≤ mi) (hp : 0 ≤ p) (hp5 : p ≤ 500) (hl : ∀ i, i < n → 0 ≤ (ls.getD i (0, 0, 0)).1 ∧ 0 ≤ (ls.getD i (0, 0, 0)).2.2) :
    ∃ a b, shrinkS mi (lsN mi p zs ls n) n = (a, b, -1) ∧ a ≤ p ∧ p ≤ b := by
  refine shrink_has hm hp hp5 n 0 (fun i hi => ?_) (fun i hi => ?_)
  · rw [lsN_at _ _ _ _ (by omega)]; exact (hl i (by omega)).1
  · rw [lsN_at _ _ _ _ (by omega)]; exact newL_ok (hl i (by omega)).1 hm (by omega) (hl i (by omega)).2

theorem Gauge.eqs {g f m : Int} (h : Gauge g f m) : ∃ c : Int, Hid (c = m) ∧ (((g == 16) = false ∧ (g == 8) = false ∧ c = 19000) ∨ ((g == 16) = true ∧ (g == 8) = false ∧ c = 7620) ∨ ((g == 16) = false ∧ (g == 8) = true ∧ c = 3810)) := by
  rcases h with ⟨rfl, rfl, rfl⟩ | ⟨rfl, rfl, rfl⟩ | ⟨rfl, rfl, rfl⟩
  · exact ⟨_, rfl, .inl ⟨rfl, rfl, rfl⟩⟩
  · exact ⟨_, rfl, .inr (.inl ⟨rfl, rfl, rfl⟩)⟩
  · exact ⟨_, rfl, .inr (.inr ⟨rfl, rfl, rfl⟩)⟩

set_option maxHeartbeats 4000000 in
set_option maxRecDepth 100000 in
theorem shrunkLaw_any (hA : AwakeSaid) (r : RA) (x : Int) (hx0 : 0 ≤ x) (hx1 : x ≤ 65535) (za : Option Addr) (zn zc : Nat) (zs : List Int) (ms : List T3) (ss : List T2) (ls : List T3) (w : World) (G : Glob w) (hR : Reads w r ms ss ls) (hZ : Nums w .i16 (-32768) 32767 za zn zs) :
    Calls Tryz.prog 11 #[.agg r.cs, .int .u16 x, .slice za zn zc] w fun e w' => e = .returned (.bool true) ∧ Below w.heap.size w w' := by
  have HC := fun W (h : Below w.heap.size w W) => refCheck_any r ms ss ls W (hR.below h)
  have HC2 := Lib.hid (fun r2 W ls2 (h : Reads W r2 ms ss ls2) => refCheck_any r2 ms ss ls2 W h)
  have HSh := Lib.hid (fun r2 W ls2 (h : Below w.heap.size w W) (h2 : Reads W r2 ms ss ls2) (h0 : (checkS r2 ms ss ls2).2.2 = 0) => shrink_yes r2 ms ss ls2 W (G.below G.hz h) h2 h0)
  have HA := Lib.hid (fun W (h : Below w.heap.size w W) => hA W (G.below G.hz h))
  unfold CheckPost at HC HC2
  have hp0 := Int.tmod_nonneg (a := x) 501 hx0
  have hp1 := Int.tmod_lt_of_pos x (b := 501) (by decide)
  have hB0 : Below w.heap.size w (w.alloc (.cells r.cs 30)) := B_alloc (Below.refl _ _) _
  have HB0 := Lib.hid hB0
  have hBx := Lib.hid (Box.new w r)
  have HX : Hid (∀ W, Below (w.alloc (.cells r.cs 30)).heap.size (w.alloc (.cells r.cs 30)) W → Box W w.heap.size r) := fun W h => (Box.new w r).below h
  by_cases h0 : (checkS r ms ss ls).2.2 = 0
  · have hV := valid_of h0
    rw [h0] at HC
    generalize (checkS r ms ss ls).1 = c1 at HC
    generalize (checkS r ms ss ls).2.1 = c2 at HC
    replace HC := Lib.hid HC
    have HVa := Lib.hid hV
    obtain ⟨f, mi, hg⟩ := hV.gauge
    obtain ⟨hf1, hf2, hm1, hm2, -⟩ := hg.bd
    obtain ⟨hfo, hmi⟩ := hg.foot
    have hln := hV.ln
    have HR := Lib.hid hR
    have HZ := Lib.hid hZ
    clear h0 hV hA hR hB0 hfo hZ
    obtain ⟨i81, hi81, hz81, hs81, hy81⟩ := info_parts info81
    have HMi := Lib.hid hmi
    obtain ⟨cc, Hcc, hcases⟩ := hg.eqs
    clear hmi hg
    generalize hpp : x.tmod 501 = p at hp0 hp1
    rcases hcases with ⟨h16, h8, rfl⟩ | ⟨h16, h8, rfl⟩ | ⟨h16, h8, rfl⟩
    all_goals
      go_enter Tryz.func11, Tryz.ntmps11
      go_wp2_with (go_at_call 19; (with_reducible refine (HC.out _ HB0.out).mono ?_); rintro e w1 ⟨rfl, hb1⟩; have B1 := Lib.hid (B_trans HB0.out hb1); have X1 := Lib.hid (HX.out _ hb1); obtain ⟨m0, m1, m2, m3, m4, m5, m6, m7, m8, m9⟩ := X1.out.all; have hz1 : w.heap.size < w1.heap.size := X1.out.lt)
      rw [Hcc.out]
      clear hpp h16 h8
      go_loopg [14, 15, 16] r.ln (fun gk i xp n wr => ∃ (k : Nat) (a : Option Addr) (c : Nat), gk = r.ln - k ∧ k ≤ r.ln ∧ i = .int .i64 k ∧ Below w1.heap.size w1 wr ∧ Hid (Box wr (w1.heap.size + 1) { r with la := a, ln := k, lc := c } ∧ wr.ownsRow (w1.heap.size + 2) 81 3 (.slice a k c) k (flat3 (lsN mi p zs ls k))))
      case atStart => exact ⟨0, none, 0, rfl, Nat.zero_le _, rfl, B_alloc (B_alloc (Below.refl _ _) _) _, Box.new' _ { r with la := none, ln := 0, lc := 0 } _ (by simp), World.ownsRow_nil _ _ _ _⟩
      case round =>
        clear m0 m1 m2 m3 m4 m5 m6 m7 m8 m9
        obtain ⟨k, a, c, rfl, hk, rfl, hb, hbx⟩ := hrel
        have hzw := hb.size
        have hSl := hbx.out.1.lt
        have m9 : wr.cell? ⟨w.heap.size, 9, none⟩ = some (.slice r.la r.ln r.lc) := (hb.cell (p := ⟨w.heap.size, 9, none⟩) hz1).trans (X1.out.cell 9)
        by_cases hlt : k < r.ln
        · obtain ⟨b, o, hla, hbs, hcells⟩ := HR.out.l.at_ (by omega)
          obtain ⟨x0c, x1c, x2c⟩ := hcells k hlt
          obtain ⟨⟨x0l, x0h⟩, ⟨x1l, x1h⟩, ⟨x2l, x2h⟩⟩ := HVa.out.leng hlt
          obtain ⟨-, -, -, ⟨hrf1, hrf2⟩, -⟩ := wholeE_ok HVa.out.whole
          have hbw : b < wr.heap.size := by omega
          have hcw : ∀ off, wr.cell? ⟨b, off, none⟩ = w.cell? ⟨b, off, none⟩ := fun off => (hb.cell (p := ⟨b, off, none⟩) (by show b < _; omega)).trans (B1.out.cell (p := ⟨b, off, none⟩) hbs)
          rw [← hcw] at x0c x1c x2c
          have hsuc := Lib.hid (lsN_succ mi p zs ls k)
          clear hcw hcells
          generalize ls.getD k (0, 0, 0) = xx at x0c x1c x2c x0l x0h x1l x1h x2l x2h hsuc
          obtain ⟨x0, x1, x2⟩ := xx
          simp only at x0c x1c x2c x0l x0h x1l x1h x2l x2h
          rw [hla] at m9
          obtain ⟨a1, a2⟩ := mul_bd (a := x0) (b := mi) (A := 200000) (B := 19000) (by omega) (by omega) (by omega) hm2
          obtain ⟨b1, b2⟩ := mul_bd (a := x0 * mi) (b := 10000 - p) (A := 3800000000) (B := 10000) a1 (by omega) (by omega) (by omega)
          have hq0 : 0 ≤ (x0 * mi * (10000 - p)).tdiv 10000 := Int.tdiv_nonneg b1 (by decide)
          have hq1 : (x0 * mi * (10000 - p)).tdiv 10000 ≤ 3800000000 := by rw [Int.tdiv_eq_ediv_of_nonneg b1]; omega
          have hww := wrI_bd zs k
          obtain ⟨t1, t2⟩ := wr_bd2 x2l hww.1 hww.2
          obtain ⟨e1, e2⟩ := wr_bd x2l (show x2 ≤ 400000000 by omega) hww.1 hww.2
          have hlen := HZ.out.len
          obtain ⟨wo, rfl⟩ : ∃ wo, wo = wr := ⟨wr, rfl⟩
          go_upto_if 71 with fail
          go_cut [16] (fun n wx => n = .int .i64 (newL mi p zs k (x0, x1, x2)).2.1 ∧ ∃ m, wx = (wo.alloc (.cells #[.int .i64 x0, .int .i64 x1, .int .i64 x2] 81)).drewN m)
          case first =>
            by_cases hzn : zn = 0
            · have hn : Hid ((newL mi p zs k (x0, x1, x2)).2.1 = (x0 * mi * (10000 - p)).tdiv 10000) := by simp [Hid, newL, hlen, hzn]
              subst hzn
              go_wp2
              go_meet
              exact ⟨by rw [hn.out], 0, rfl⟩
            · obtain ⟨b2, o2, hza, hbs2, hc2⟩ := HZ.out.at_ (by omega)
              obtain ⟨z0, z1, z2⟩ := hc2 (k % zn) (Nat.mod_lt _ (by omega))
              have hn : Hid ((newL mi p zs k (x0, x1, x2)).2.1 = (x0 * mi * (10000 - p)).tdiv 10000 + (x2 * max (-255) (min 255 (zs.getD (k % zn) 0))).tdiv 256) := by simp [Hid, newL, wrI, hlen, hzn]
              have hwr : wrI zs k = max (-255) (min 255 (zs.getD (k % zn) 0)) := by simp [wrI, hlen]
              have hmod : (k : Int).tmod (zn : Int) = ((k % zn : Nat) : Int) := by rw [Int.tmod_eq_emod_of_nonneg (by omega)]; rfl
              have hmlt : k % zn < zn := Nat.mod_lt _ (by omega)
              rw [hwr] at e1 e2 t1 t2
              have hzbig := HZ.out.big
              generalize k % zn = m at z0 z1 z2 hn hmod hmlt e1 e2 t1 t2
              clear hc2 hwr hww
              generalize zs.getD m 0 = zz at z0 z1 z2 hn e1 e2 t1 t2
              have z0w : (wo.alloc (.cells #[.int .i64 x0, .int .i64 x1, .int .i64 x2] 81)).cell? ⟨b2, o2 + m, none⟩ = some (.int .i16 zz) := (alloc_old _ _ _ _ (by omega)).trans ((hb.cell (p := ⟨b2, o2 + m, none⟩) (by show b2 < _; omega)).trans ((B1.out.cell (p := ⟨b2, o2 + m, none⟩) hbs2).trans z0))
              have u2w : (wo.alloc (.cells #[.int .i64 x0, .int .i64 x1, .int .i64 x2] 81)).cell? ⟨wo.heap.size, 2, none⟩ = some (.int .i64 x2) := by rw [World.cell?_alloc_at _ _ _ _ rfl]; rfl
              obtain ⟨g1, g2⟩ := tdiv_small (t := x2 * max (-255) (min 255 zz)) x2l t1 t2
              have hw1 : IntKind.i64.wrap (x2 * max (-255) (min 255 zz)) = x2 * max (-255) (min 255 zz) := IntWalk.i64_in _ (by omega)
              have hw2 : IntKind.i64.wrap ((x2 * max (-255) (min 255 zz)).tdiv 256) = (x2 * max (-255) (min 255 zz)).tdiv 256 := IntWalk.i64_in _ (by omega)
              have hw3 : IntKind.i64.wrap ((x0 * mi * (10000 - p)).tdiv 10000 + (x2 * max (-255) (min 255 zz)).tdiv 256) = (x0 * mi * (10000 - p)).tdiv 10000 + (x2 * max (-255) (min 255 zz)).tdiv 256 := IntWalk.i64_in _ (by omega)
              have hw4 : IntKind.i64.wrap zz = zz := IntWalk.i64_in _ (by omega)
              subst hza
              have hzn0 : 0 < (zn : Int) := by omega
              have hm0 : 0 ≤ (m : Int) := by omega
              have hm1 : (m : Int) < zn := by omega
              clear z0
              go_wp2
              go_quiet (fail)
              go_wp2
              go_meet
              exact ⟨by rw [hn.out], _, rfl⟩
          case rest =>
            obtain ⟨rfl, mm, hwc⟩ := hcut
            have hnn1 : Hid (newL mi p zs k (x0, x1, x2) = (x0, (newL mi p zs k (x0, x1, x2)).2.1, x2 + 1)) := rfl
            obtain ⟨N1, N2⟩ : -200000000000 ≤ (newL mi p zs k (x0, x1, x2)).2.1 ∧ (newL mi p zs k (x0, x1, x2)).2.1 ≤ 200000000000 := by
              unfold newL
              simp only
              split
              · omega
              · obtain ⟨g1, g2⟩ := tdiv_small x2l t1 t2; omega
            have HN := Lib.hid (And.intro N1 N2)
            generalize (newL mi p zs k (x0, x1, x2)).2.1 = nn at hnn1 N1 N2 HN ⊢
            have hbx0 : Below wo.heap.size wo wc := by rw [hwc]; exact B_drewN (B_alloc (Below.refl _ _) _) _
            have y0 : wc.cell? ⟨wo.heap.size, 0, none⟩ = some (.int .i64 x0) := by rw [hwc, World.cell?_drewN, World.cell?_alloc_at _ _ _ _ rfl]; rfl
            have y1 : wc.cell? ⟨wo.heap.size, 1, none⟩ = some (.int .i64 x1) := by rw [hwc, World.cell?_drewN, World.cell?_alloc_at _ _ _ _ rfl]; rfl
            have y2 : wc.cell? ⟨wo.heap.size, 2, none⟩ = some (.int .i64 x2) := by rw [hwc, World.cell?_drewN, World.cell?_alloc_at _ _ _ _ rfl]; rfl
            have yf : ∀ j, wc.frozen? ⟨wo.heap.size, j, none⟩ = false := fun j => by rw [hwc, World.frozen?_drewN]; exact World.frozen?_alloc_at _ _ _ _ rfl
            have yf1 := yf 1
            have yf2 := yf 2
            have hzc : wc.heap.size = wo.heap.size + 1 := by rw [hwc]; simp
            clear hwc yf
            have hbk := Lib.hid (hbx.out.1.below hbx0)
            have hrk := Lib.hid (ownsRow_below hbx.out.2 hbx0)
            have hne1 : Hid ((Value.slice a k c).ownBlock = none ∨ (Value.slice a k c).ownBlock ≠ some wo.heap.size) := by
              by_cases h : (Value.slice a k c).ownBlock = some wo.heap.size
              · have := (hbx.out.2.lt _ h).2; omega
              · exact .inr h
            have hneS : Hid ((Value.slice a k c).ownBlock ≠ some (w1.heap.size + 1)) := fun h => by have := (hbx.out.2.lt _ h).1; omega
            have hb2 : Hid (Below w1.heap.size w1 wc) := B_trans hb hbx0
            have v0 := set_other (v := .int .i64 (x2 + 1)) (o := 2) (by decide) (set_other (v := .int .i64 nn) (o := 1) (by decide) y0)
            have v1 := set_other (v := .int .i64 (x2 + 1)) (o := 2) (by decide) (set_same (v := .int .i64 nn) y1)
            have v2 := set_same (v := .int .i64 (x2 + 1)) (set_other (v := .int .i64 nn) (o := 1) (by decide) y2)
            have hB2 := Lib.hid ((hbk.out.other (p := ⟨wo.heap.size, 1, none⟩) (by show wo.heap.size ≠ _; omega) (.int .i64 nn)).other (p := ⟨wo.heap.size, 2, none⟩) (by show wo.heap.size ≠ _; omega) (.int .i64 (x2 + 1)))
            have hR2 := Lib.hid (hrk.out.kept (only_setCell (only_setCell (only_refl wc (some wo.heap.size)) (p := ⟨wo.heap.size, 1, none⟩) rfl (.int .i64 nn)) (p := ⟨wo.heap.size, 2, none⟩) rfl (.int .i64 (x2 + 1))) hne1.out)
            have hb3 : Hid (Below w1.heap.size w1 ((wc.setCell ⟨wo.heap.size, 1, none⟩ (.int .i64 nn)).setCell ⟨wo.heap.size, 2, none⟩ (.int .i64 (x2 + 1)))) := (hb2.out.setCell (by show _ ≤ wo.heap.size; omega) _).setCell (by show _ ≤ wo.heap.size; omega) _
            have HZc : Hid (((wc.setCell ⟨wo.heap.size, 1, none⟩ (.int .i64 nn)).setCell ⟨wo.heap.size, 2, none⟩ (.int .i64 (x2 + 1))).heap.size = wo.heap.size + 1) := by simp [Hid, World.setCell, hzc]
            obtain ⟨wy, hwy⟩ : ∃ wy, (wc.setCell ⟨wo.heap.size, 1, none⟩ (.int .i64 nn)).setCell ⟨wo.heap.size, 2, none⟩ (.int .i64 (x2 + 1)) = wy := ⟨_, rfl⟩
            rw [hwy] at v0 v1 v2 hB2 hR2 hb3 HZc
            have s9 := hB2.out.cell 9
            have hk20 : k < 20 := by omega
            have hzy : wo.heap.size < wy.heap.size := by have := HZc.out; omega
            clear hzc
            go_wp2_with (at_builtin; refine wpList_append_own _ rfl _ _ 28 rfl (w1.heap.size + 2) 81 i81 (.agg #[.int .i64 0, .int .i64 0, .int .i64 0]) 3 24 Tryz.underlying28 hi81 hz81 hs81 hy81 rfl (by decide) _ _ _ rfl (hR2.out.alloc _) ⟨wy.heap.size, 0, none⟩ 1 1 [.int .i64 x0, .int .i64 nn, .int .i64 (x2 + 1)] rfl rfl ?c1 ?c2 ?c3 ?c4 ?c5 ?_)
            case c1 => exact news_at _ _ _
            case c2 => intro u hu; simp at hu; rcases hu with rfl | rfl | rfl <;> rfl
            case c3 => unfold maxLen; omega
            case c4 => omega
            case c5 => simp; omega
            intro v' w6 hown' hgrow _
            obtain ⟨g, cap, rfl⟩ := Joins.ownsRow_form hown' (by omega)
            have hB6 := Lib.hid ((hB2.out.below (B_alloc (Below.refl _ _) (.cells #[.int .i64 x0, .int .i64 nn, .int .i64 (x2 + 1)] 81))).kept hgrow hneS.out)
            have f9 := hB6.out.open_ 9
            have c9 := hB6.out.cell 9
            have hb6 : Hid (Below w1.heap.size w1 w6) := B_grown (B_alloc hb3.out _) (by have := hb3.out.size; simp; omega) (Joins.ownsRow_le (hR2.out.alloc _) (by omega)) hgrow
            have hrow6 : Hid (w6.ownsRow (w1.heap.size + 2) 81 3 (.slice (some ⟨g, 0, none⟩) (k + 1) cap) (k + 1) (flat3 (lsN mi p zs ls (k + 1)))) := by
              rw [Hid, hsuc.out, flat3_snoc, hnn1.out]; exact hown'
            clear hown' hgrow s9 v0 v1 v2 y0 y1 y2 yf1 yf2
            go_wp2
            try rw [← hla]
            go_roundg (r.ln - (k + 1))
            case measure => omega
            case rel => exact ⟨k + 1, some ⟨g, 0, none⟩, cap, rfl, by omega, by go_num, hb6.out.setCell (by show w1.heap.size ≤ w1.heap.size + 1; omega) _, hB6.out.setL _ _ _, ownsRow_setCell_below hrow6.out (by show w1.heap.size + 1 < w1.heap.size + 2; omega) _⟩
        · obtain rfl : k = r.ln := by omega
          have hrow : wr.ownsRow (w1.heap.size + 2) 81 3 (.slice a r.ln c) (lsN mi p zs ls r.ln).length (flat3 (lsN mi p zs ls r.ln)) := by rw [lsN_len]; exact hbx.out.2
          obtain ⟨a', c', he, hsl⟩ := sl3_row hrow
          injection he with he1 he2 he3
          subst he1 he3
          clear he2 hk hlt
          rw [lsN_len] at hsl
          have Hbw : Hid (Below w.heap.size w wr) := B1.out.trans (hb.mono B1.out.size)
          have hRw := HR.out.below Hbw.out
          have hRn : Reads wr { r with la := a, ln := r.ln, lc := c } ms ss (lsN mi p zs ls r.ln) := ⟨hRw.nm, hRw.mn, hRw.sn, hRw.ln, hRw.m, hRw.s, hsl⟩
          obtain ⟨m0, m1, m2, m3, m4, m5, m6, m7, m8, m9s⟩ := hbx.out.1.all
          have hsh := shrunk_has (zs := zs) (ls := ls) (n := r.ln) (show 0 ≤ mi by omega) hp0 (by omega) (fun i hi => by
            obtain ⟨⟨q1, -⟩, -, ⟨q2, -⟩⟩ := HVa.out.leng hi
            exact ⟨by omega, q2⟩)
          have H1 := HC2.out { r with la := a, ln := r.ln, lc := c } wr (lsN mi p zs ls r.ln) hRn
          have H2 := HSh.out { r with la := a, ln := r.ln, lc := c }
          generalize lsN mi p zs ls r.ln = L at hsl hRn H1 H2 hsh
          by_cases h0 : (checkS { r with la := a, ln := r.ln, lc := c } ms ss L).2.2 = 0
          · obtain ⟨s1, s2, hs0, hs1, hs2⟩ := hsh
            have H3 : Hid (∀ W, Below wr.heap.size wr W → Calls Tryz.prog 33 #[.agg ({ r with la := a, ln := r.ln, lc := c } : RA).cs] W fun e w' => e = .returned (.tuple #[.agg #[.int .i64 s1, .int .i64 s2], .int .i64 (-1), .int .i64 0]) ∧ Below W.heap.size W w') := fun W hW => by
              have := H2 W L (Hbw.out.trans (hW.mono Hbw.out.size)) (hRn.below hW) h0
              rw [show microI ({ r with la := a, ln := r.ln, lc := c } : RA).g = mi from HMi.out, show ({ r with la := a, ln := r.ln, lc := c } : RA).ln = r.ln from rfl, hs0] at this
              exact this
            rw [h0] at H1
            generalize (checkS { r with la := a, ln := r.ln, lc := c } ms ss L).1 = d1 at H1
            generalize (checkS { r with la := a, ln := r.ln, lc := c } ms ss L).2.1 = d2 at H1
            replace H1 := Lib.hid H1
            have hS1 : w1.heap.size + 1 < wr.heap.size := hSl
            clear h0 H2 hsl hRn hrow
            go_wp2_with (first
              | (go_at_call 19; (with_reducible refine H1.out.mono ?_); rintro e w2 ⟨rfl, hb2⟩; have hc2 := (bcell hb2).1; have B2 := Lib.hid hb2; have B2w := Lib.hid (B_trans Hbw.out hb2); have hz2 : wr.heap.size ≤ w2.heap.size := hb2.size)
              | (go_at_call 33; (with_reducible refine (H3.out _ B2.out).mono ?_); rintro e w3 ⟨rfl, hb3⟩; have B3 := Lib.hid (B_alloc (B_trans B2w.out hb3) (.cells #[.int .i64 s1, .int .i64 s2] 25)))
              | (go_at_call 17; (with_reducible refine (HA.out _ B3.out).mono ?_); rintro e w4 ⟨rfl, hb4⟩))
            all_goals (go_ret; exact ⟨rfl, B_trans B3.out hb4⟩)
          · have h0b : ((checkS { r with la := a, ln := r.ln, lc := c } ms ss L).2.2 != 0) = true := by simp [h0]
            generalize (checkS { r with la := a, ln := r.ln, lc := c } ms ss L).2.2 = d0 at H1 h0 h0b
            generalize (checkS { r with la := a, ln := r.ln, lc := c } ms ss L).1 = d1 at H1
            generalize (checkS { r with la := a, ln := r.ln, lc := c } ms ss L).2.1 = d2 at H1
            replace H1 := Lib.hid H1
            have hS1 : w1.heap.size + 1 < wr.heap.size := hSl
            clear h0 H2 hsl hRn hrow hsh
            go_wp2_with (first
              | (go_at_call 19; (with_reducible refine H1.out.mono ?_); rintro e w2 ⟨rfl, hb2⟩; have hc2 := (bcell hb2).1; have B2w := Lib.hid (B_trans Hbw.out hb2))
              | (go_at_call 17; (with_reducible refine (HA.out _ B2w.out).mono ?_); rintro e w4 ⟨rfl, hb4⟩))
            all_goals (go_ret; exact ⟨rfl, B_trans B2w.out hb4⟩)
  · have h0b : ((checkS r ms ss ls).2.2 != 0) = true := by simp [h0]
    generalize (checkS r ms ss ls).2.2 = c0 at HC h0 h0b
    generalize (checkS r ms ss ls).1 = c1 at HC
    generalize (checkS r ms ss ls).2.1 = c2 at HC
    replace HC := Lib.hid HC
    clear h0 hA hR hB0 hZ HSh HC2 hp0 hp1
    go_enter Tryz.func11, Tryz.ntmps11
    go_wp2_with (first
      | (go_at_call 19; (with_reducible refine (HC.out _ HB0.out).mono ?_); rintro e w1 ⟨rfl, hb1⟩; have B1 := Lib.hid (B_trans HB0.out hb1))
      | (go_at_call 17; (with_reducible refine (HA.out _ B1.out).mono ?_); rintro e w4 ⟨rfl, hb4⟩))
    all_goals (go_ret; exact ⟨rfl, B_trans B1.out hb4⟩)
end Go.Proofs.YtbicafmlbknkiaaGreatDoor

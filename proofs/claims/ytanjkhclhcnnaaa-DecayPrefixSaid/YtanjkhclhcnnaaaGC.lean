/- A task that begins later, without tests, and its courses. -/
import Derived.Test.YtanjkhclhcnnaaaGB
import Derived.Test.YtanjkhclhcnnaaaEH
namespace Go.Proofs.Ytanjkhclhcnnaaa
open Go.RowKit Go.Shelf

abbrev TkA.bare_ (t : TkA) : TkA := ⟨t.r, t.first, t.da, t.dn, t.dc, t.lo, t.hi, none, 0, 0⟩
/-- Where the days from one on lie. -/
def TkA.lateA (t : TkA) (k : Nat) : Option Addr := if t.dc = k then t.da else t.da.map (·.add (k * 4))
abbrev TkA.from_ (t : TkA) (k : Nat) : TkA := ⟨t.r, t.first + (k : Int), t.lateA k, t.dn - k, t.dc - k, 0, 1000000, none, 0, 0⟩
theorem Ob.thirteen {W : World} {X : Nat} {T : TypeId} {a b c d e f g h i j k l m : Value} (o : Ob W X T #[a, b, c, d, e, f, g, h, i, j, k, l, m]) : W.cell? ⟨X, 0, none⟩ = some a ∧ W.cell? ⟨X, 1, none⟩ = some b ∧ W.cell? ⟨X, 2, none⟩ = some c ∧ W.cell? ⟨X, 3, none⟩ = some d ∧ W.cell? ⟨X, 4, none⟩ = some e ∧ W.cell? ⟨X, 5, none⟩ = some f ∧ W.cell? ⟨X, 6, none⟩ = some g ∧ W.cell? ⟨X, 7, none⟩ = some h ∧ W.cell? ⟨X, 8, none⟩ = some i ∧ W.cell? ⟨X, 9, none⟩ = some j ∧ W.cell? ⟨X, 10, none⟩ = some k ∧ W.cell? ⟨X, 11, none⟩ = some l ∧ W.cell? ⟨X, 12, none⟩ = some m :=
  ⟨o.cell 0, o.cell 1, o.cell 2, o.cell 3, o.cell 4, o.cell 5, o.cell 6, o.cell 7, o.cell 8, o.cell 9, o.cell 10, o.cell 11, o.cell 12⟩
theorem Ob.three {W : World} {X : Nat} {T : TypeId} {a b c : Value} (o : Ob W X T #[a, b, c]) : W.cell? ⟨X, 0, none⟩ = some a ∧ W.cell? ⟨X, 1, none⟩ = some b ∧ W.cell? ⟨X, 2, none⟩ = some c := ⟨o.cell 0, o.cell 1, o.cell 2⟩
theorem TaskOK.zero {t : TkA} {hs ws : List T2} {ds : List T4} {ts : List T3} (ok : TaskOK t hs ws ds ts) : (taskS t hs ws ds ts).2.2 = 0 := by
  unfold taskS
  rw [if_neg (by simpa using ok.r), if_neg (by have := ok.dn; have := ok.tn; omega), if_pos (inB_iff.2 ok.first), if_neg (by simpa using ok.days), if_neg (by simpa using ok.start), if_neg (by simpa using ok.tests)]
theorem TaskOK.bare {t : TkA} {hs ws : List T2} {ds : List T4} {ts : List T3} (ok : TaskOK t hs ws ds ts) : TaskOK t.bare_ hs ws ds [] := ⟨ok.r, ok.dn, Nat.zero_le _, ok.first, ok.days, ok.start, rfl⟩
theorem drop4_at (ds : List T4) (k i : Nat) : (ds.drop k).getD i (0, 0, 0, 0) = ds.getD (k + i) (0, 0, 0, 0) := by simp [List.getD]
theorem TaskOK.late {t : TkA} {hs ws : List T2} {ds : List T4} {ts : List T3} (ok : TaskOK t hs ws ds ts) {k : Nat} (hk : k ≤ t.dn) : TaskOK (t.from_ k) hs ws (ds.drop k) [] := by
  have h1 := ok.dn
  have h2 := ok.first
  refine ⟨ok.r, by show t.dn - k ≤ 400; omega, Nat.zero_le _, ?_, ?_, by kernel_rfl, rfl⟩
  · show 0 ≤ t.first + (k : Int) ∧ t.first + (k : Int) ≤ 80000 - ((t.dn - k : Nat) : Int)
    omega
  · refine firstE_all.2 fun i hi => ?_
    have hi' : i < t.dn - k := hi
    rw [drop4_at]
    exact firstE_all.1 ok.days (k + i) (by omega)
theorem sl4_drop {W : World} {a : Option Addr} {n c : Nat} {ds : List T4} (h : Sl4 W a n ds) (hnc : n ≤ c) {k : Nat} : Sl4 W (if c = k then a else a.map (·.add (k * 4))) (n - k) (ds.drop k) := by
  refine ⟨by rw [List.length_drop, h.len], fun hp => ?_⟩
  obtain ⟨b, o, rfl, hb, hc⟩ := h.at_ (by omega)
  rw [if_neg (by omega)]
  refine ⟨b, o + k * 4, by simp [Addr.add], hb, fun i hi => ?_⟩
  obtain ⟨c0, c1, c2, c3⟩ := hc (k + i) (by omega)
  rw [drop4_at, show o + k * 4 + i * 4 = o + (k + i) * 4 by omega]
  exact ⟨c0, c1, c2, c3⟩
theorem TkR.bare {W : World} {t : TkA} {hs ws : List T2} {ds : List T4} {ts : List T3} (h : TkR W t hs ws ds ts) : TkR W t.bare_ hs ws ds [] := ⟨h.r, h.dn, Nat.zero_le _, h.d, ⟨rfl, fun h => absurd h (Nat.lt_irrefl 0)⟩⟩
theorem TkR.late {W : World} {t : TkA} {hs ws : List T2} {ds : List T4} {ts : List T3} (h : TkR W t hs ws ds ts) (hc : t.dn ≤ t.dc) (k : Nat) : TkR W (t.from_ k) hs ws (ds.drop k) [] := ⟨h.r, by have := h.dn; show t.dn - k ≤ _; omega, Nat.zero_le _, sl4_drop h.d hc, ⟨rfl, fun h => absurd h (Nat.lt_irrefl 0)⟩⟩
/-- The course that walked makes, and what keeps says of it. -/
theorem task_course (u : TkA) (hs ws : List T2) (ds : List T4) (x0 : Int) (xa : Option Addr) (xn xc : Nat) (bs : List Int) (w : World) (hR : TkR w u hs ws ds []) (ok : TaskOK u hs ws ds []) (hx : 0 ≤ x0 ∧ x0 ≤ 255) (hX : Nums w .u8 0 255 xa xn bs) :
    ∃ (cs : List Int) (c : Nat → Int), Crs u.r (ds.map (strS hs ws)) u.dn (u.lo, u.hi) c ∧
      (∀ W, Below w.heap.size w W → Calls Try.prog 40 #[.agg u.cs, .agg #[.int .u8 x0, .slice xa xn xc]] W fun e w' => ∃ ca cc, e = .returned (.tuple #[.slice ca (u.dn + 1) cc, .bool true]) ∧ Sl1 w' ca (u.dn + 1) cs ∧ Below W.heap.size W w') ∧
      (∀ W ca cc m g e, Below w.heap.size w W → Sl1 W ca (u.dn + 1) cs → m ≤ u.dn → 0 ≤ g ∧ g ≤ 3 → 0 ≤ e ∧ e ≤ 3 → Calls Try.prog 42 #[.agg u.cs, .slice ca (u.dn + 1) cc, .agg #[.int .i64 (u.first + (m : Int)), .int .i64 g, .int .i64 e]] W fun x w' => x = .returned (.bool (inB (c m) (keepS u.r g e).1 (keepS u.r g e).2)) ∧ Below W.heap.size W w') := by
  have he := ok.zero
  have hO := RuOK.of ok.r
  have hdl := hR.d.len
  have hst := days_str hO hdl ok.days
  have hss : (ds.map (strS hs ws)).length = u.dn := by rw [List.length_map, hdl]
  have hp := lv_ok ok.start
  have hcin := course_in hO hss hst hp hx (fun i => nums_step hX i)
  have hat := fun i (hi : i ≤ u.dn) => courseL_at u.r (ds.map (strS hs ws)) (u.lo, u.hi) x0 bs hi
  have hdn := ok.dn
  refine ⟨courseL u.r (ds.map (strS hs ws)) (u.lo, u.hi) x0 bs u.dn, courseN u.r (ds.map (strS hs ws)) (u.lo, u.hi) x0 bs, ⟨part_in hp hx, fun k hk => part_in ((one_can (hcin k (by omega))).next hO (hst _ (getD_lt (by omega)))) (nums_step hX k)⟩, fun W hb => ?_, fun W ca cc m g e hb hC hm hg he' => ?_⟩
  · refine (walked_any u hs ws ds [] x0 xa xn xc bs W (hR.below hb) he hx (hX.below hb)).mono ?_
    rintro e w' ⟨v, rfl, hrow, hb'⟩
    have hl := courseL_len u.r (ds.map (strS hs ws)) (u.lo, u.hi) x0 bs u.dn
    rw [← hl] at hrow
    obtain ⟨ca, cc, rfl, hC⟩ := rowz_sl1 hrow
    rw [hl] at hC
    exact ⟨ca, cc, by rw [hl], hC, hb'⟩
  · have h := keeps_any u hs ws ds [] ca (u.dn + 1) cc _ m g e W (hR.below hb) ok.r hC (by omega) (by omega) (by rw [hat m hm]; exact hcin m hm) hg he'
    rw [hat m hm] at h
    exact h
/-- To a test that is struck by Start no course keeps. -/
theorem nm_bare {t : TkA} {hs ws : List T2} {ds : List T4} {ts : List T3} (ok : TaskOK t hs ws ds ts) (hdl : ds.length = t.dn) {n : Nat} (hm : morT t ts n ≤ t.dn) (hJ : JE (onS t.r (ds.map (strS hs ws)) (t.lo, t.hi) 0 (morT t ts n)) (keepT t.r ts n)) {c : Nat → Int} (hc : Crs t.r (ds.map (strS hs ws)) t.dn (t.lo, t.hi) c) : ¬ InP (c (morT t ts n)) (keepT t.r ts n) := fun hk => by
  have hO := RuOK.of ok.r
  have hst := days_str hO hdl ok.days
  have h := on_in (a := 0) (N := t.dn) hO.feed.1 hst hc.at0 (fun k hk => by rw [Nat.zero_add]; exact hc.next k hk) (by rw [List.length_map]; omega) (morT t ts n) hm
  rw [Nat.zero_add] at h
  exact hJ.no h hk
/-- To a test that is struck by another one no course keeps that keeps to that one. -/
theorem nm_from {t : TkA} {hs ws : List T2} {ds : List T4} {ts : List T3} (ok : TaskOK t hs ws ds ts) (hdl : ds.length = t.dn) {n i : Nat} (hm : morT t ts n ≤ t.dn) (hin : morT t ts i ≤ morT t ts n) (hJ : JE (onS t.r (ds.map (strS hs ws)) (keepT t.r ts i) (morT t ts i) (morT t ts n)) (keepT t.r ts n)) {c : Nat → Int} (hc : Crs t.r ((ds.drop (morT t ts i)).map (strS hs ws)) (t.dn - morT t ts i) (0, 1000000) c) (h0 : InP (c 0) (keepT t.r ts i)) : ¬ InP (c (morT t ts n - morT t ts i)) (keepT t.r ts n) := fun hk => by
  have hO := RuOK.of ok.r
  have hst := days_str hO hdl ok.days
  have h := on_in (ss := ds.map (strS hs ws)) (a := morT t ts i) (N := t.dn - morT t ts i) hO.feed.1 hst h0 (fun k hk => by
    have h1 := hc.next k hk
    rw [show ((ds.drop (morT t ts i)).map (strS hs ws)).getD k (0, 0) = (ds.map (strS hs ws)).getD (morT t ts i + k) (0, 0) by simp [List.getD]] at h1
    exact h1) (by rw [List.length_map]; omega) (morT t ts n - morT t ts i) (by omega)
  rw [show morT t ts i + (morT t ts n - morT t ts i) = morT t ts n by omega] at h
  exact hJ.no h hk
theorem box_pair (W : World) (a b : Array Value) (T : TypeId) : Ob ((W.alloc (.cells a T)).alloc (.cells b T)) W.heap.size T a ∧ Ob ((W.alloc (.cells a T)).alloc (.cells b T)) (W.heap.size + 1) T b ∧ Below W.heap.size W ((W.alloc (.cells a T)).alloc (.cells b T)) := by
  refine ⟨(Ob.new _ _ _).alloc _, ?_, B_alloc (B_alloc (Below.refl _ _) _) _⟩
  have h := Ob.new (W.alloc (.cells a T)) b T
  simpa using h
end Go.Proofs.Ytanjkhclhcnnaaa

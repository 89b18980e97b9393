/- Tasks in memory; testError and the closures of CheckTask. -/
import Derived.Test.YtanjkhclhcnnaaaWG
namespace Go.Proofs.Ytanjkhclhcnnaaa
open Go.RowKit Go.Shelf

/-- A task as its thirteen cells. -/
structure TkA where
  r : RuA
  first : Int
  da : Option Addr
  dn : Nat
  dc : Nat
  lo : Int
  hi : Int
  ta : Option Addr
  tn : Nat
  tc : Nat
abbrev TkA.cs (t : TkA) : Array Value := #[.slice t.r.ha t.r.hn t.r.hc, .slice t.r.wa t.r.wn t.r.wc, .int .i64 t.r.own, .int .i64 t.r.feed, .int .i64 t.r.g0, .int .i64 t.r.g1, .int .i64 t.r.g2, .int .i64 t.r.lost, .int .i64 t.first, .slice t.da t.dn t.dc, .int .i64 t.lo, .int .i64 t.hi, .slice t.ta t.tn t.tc]
/-- What a task's slices read as. -/
structure TkR (w : World) (t : TkA) (hs ws : List T2) (ds : List T4) (ts : List T3) : Prop where
  r : RuR w t.r hs ws
  dn : t.dn ≤ 140737488351232
  tn : t.tn ≤ 140737488351232
  d : Sl4 w t.da t.dn ds
  t : Sl3 w t.ta t.tn ts
theorem TkR.below {w w' : World} {t : TkA} {hs ws : List T2} {ds : List T4} {ts : List T3} (h : TkR w t hs ws ds ts) (hb : Below w.heap.size w w') : TkR w' t hs ws ds ts :=
  ⟨h.r.below hb, h.dn, h.tn, h.d.below hb, h.t.below hb⟩

/-- A block that holds a task. -/
structure TBox (w : World) (B : Nat) (t : TkA) : Prop where
  lt : B < w.heap.size
  c : ∀ j, j < 13 → w.cell? ⟨B, j, none⟩ = t.cs[j]?
theorem TBox.all {w : World} {B : Nat} {t : TkA} (h : TBox w B t) : w.cell? ⟨B, 0, none⟩ = some (.slice t.r.ha t.r.hn t.r.hc) ∧ w.cell? ⟨B, 1, none⟩ = some (.slice t.r.wa t.r.wn t.r.wc) ∧ w.cell? ⟨B, 2, none⟩ = some (.int .i64 t.r.own) ∧ w.cell? ⟨B, 3, none⟩ = some (.int .i64 t.r.feed) ∧ w.cell? ⟨B, 4, none⟩ = some (.int .i64 t.r.g0) ∧ w.cell? ⟨B, 5, none⟩ = some (.int .i64 t.r.g1) ∧ w.cell? ⟨B, 6, none⟩ = some (.int .i64 t.r.g2) ∧ w.cell? ⟨B, 7, none⟩ = some (.int .i64 t.r.lost) ∧ w.cell? ⟨B, 8, none⟩ = some (.int .i64 t.first) ∧ w.cell? ⟨B, 9, none⟩ = some (.slice t.da t.dn t.dc) ∧ w.cell? ⟨B, 10, none⟩ = some (.int .i64 t.lo) ∧ w.cell? ⟨B, 11, none⟩ = some (.int .i64 t.hi) ∧ w.cell? ⟨B, 12, none⟩ = some (.slice t.ta t.tn t.tc) :=
  ⟨h.c 0 (by omega), h.c 1 (by omega), h.c 2 (by omega), h.c 3 (by omega), h.c 4 (by omega), h.c 5 (by omega), h.c 6 (by omega), h.c 7 (by omega), h.c 8 (by omega), h.c 9 (by omega), h.c 10 (by omega), h.c 11 (by omega), h.c 12 (by omega)⟩
theorem TBox.below {w w' : World} {B : Nat} {t : TkA} (h : TBox w B t) (hb : Below w.heap.size w w') : TBox w' B t :=
  ⟨Nat.lt_of_lt_of_le h.lt hb.size, fun j hj => (hb.cell (p := ⟨B, j, none⟩) h.lt).trans (h.c j hj)⟩
theorem TBox.new (w : World) (t : TkA) (T : TypeId) : TBox (w.alloc (.cells t.cs T)) w.heap.size t :=
  ⟨by simp, fun j _ => World.cell?_alloc_at _ _ _ _ rfl⟩

def testE (first : Int) (nd : Nat) (x : T3) : Int := if inB x.1 first (first + nd) && inB x.2.1 0 3 && inB x.2.2 0 3 then 0 else 7

set_option maxHeartbeats 2000000 in
theorem testError_any (t : TkA) (hs ws : List T2) (ds : List T4) (ts : List T3) (i : Nat) (w : World) (hR : TkR w t hs ws ds ts) (hi' : i < t.tn) (htn : t.tn ≤ 1000) (hf : 0 ≤ t.first) (hd : t.first + t.dn ≤ 80000) :
    Calls Try.prog 58 #[.agg t.cs, .int .i64 i] w fun e w' => e = .returned (.int .i64 (testE t.first t.dn (ts.getD i (0, 0, 0)))) ∧ Below w.heap.size w w' := by
  obtain ⟨b, o, hta, hbs, hc⟩ := hR.t.at_ (by omega)
  obtain ⟨p0, p1, p2⟩ := hc i hi'
  generalize ts.getD i (0, 0, 0) = x at p0 p1 p2 ⊢
  obtain ⟨x0, x1, x2⟩ := x
  simp only at p0 p1 p2
  clear hc hR
  have hil : (i : Int) < t.tn := by omega
  have hi0 : (0 : Int) ≤ i := by omega
  have hsum : IntKind.i64.wrap (t.first + t.dn) = t.first + t.dn := IntWalk.i64_in _ (by omega)
  have H1 := Lib.hid (fun W => within_any x0 t.first (t.first + t.dn) W)
  have H2 := Lib.hid (fun W => within_any x1 0 3 W)
  have H3 := Lib.hid (fun W => within_any x2 0 3 W)
  unfold testE
  simp only
  generalize inB x0 t.first (t.first + t.dn) = q1 at H1 ⊢
  generalize inB x1 0 3 = q2 at H2 ⊢
  generalize inB x2 0 3 = q3 at H3 ⊢
  have hB : ∀ a b u v, Below w.heap.size w ((w.alloc (.cells a u)).alloc (.cells b v)) := fun _ _ _ _ => B_alloc (B_alloc (Below.refl _ _) _) _
  replace hB := Lib.hid hB
  cases q1 <;> cases q2 <;> cases q3
  all_goals
    go_enter Try.func58, Try.ntmps58
    go_wp2_with (first | (go_at_call 49; ((with_reducible refine (H1.out _).mono ?_); rintro e w1 ⟨rfl, rfl⟩)) | (go_at_call 49; ((with_reducible refine (H2.out _).mono ?_); rintro e w1 ⟨rfl, rfl⟩)) | (go_at_call 49; ((with_reducible refine (H3.out _).mono ?_); rintro e w1 ⟨rfl, rfl⟩)))
    go_ret
    exact ⟨rfl, hB.out _ _ _ _⟩
end Go.Proofs.Ytanjkhclhcnnaaa

/- The rule, the day and the task of the law's examples. -/
import Derived.Test.YtanjkhclhcnnaaaWY
import Derived.Test.YtanjkhclhcnnaaaWQ
namespace Go.Proofs.Ytanjkhclhcnnaaa
open Go.RowKit Go.Shelf

def hs0 : List T2 := [(100, 100), (300, 500), (400, 1000)]
def ws0 : List T2 := [(200, 200), (600, 1000)]
def rule0 (a b : Nat) : RuA := ⟨some ⟨a, 0, none⟩, 3, 3, some ⟨b, 0, none⟩, 2, 2, 50, 10000, 1000, 5000, 20000, 1030⟩

theorem ob_sl2 {W : World} {B : Nat} {T : TypeId} {L : List T2} (h : Ob W B T (flat2 L).toArray) : Sl2 W (some ⟨B, 0, none⟩) L.length L :=
  ⟨rfl, fun _ => ⟨B, 0, rfl, h.lt, fun i hi => by
    have e := flat2_at L i hi
    rw [Nat.zero_add]
    exact ⟨(h.cell _).trans (by simpa using e.1), (h.cell _).trans (by simpa using e.2)⟩⟩⟩

set_option maxRecDepth 100000 in
set_option maxHeartbeats 8000000 in
theorem rule_any (w : World) : Calls Try.prog 36 #[] w fun e w' => ∃ a b, e = .returned (.agg (rule0 a b).cs) ∧ w.heap.size ≤ a ∧ w.heap.size ≤ b ∧ RuR w' (rule0 a b) hs0 ws0 ∧ Below w.heap.size w w' := by
  go_enter Try.func36, Try.ntmps36
  go_wp2
  refine bodyPost_ret (v := .agg (rule0 (w.heap.size + 1) (w.heap.size + 1 + 1)).cs) (by simp [results, Try.results36, go_sem, rule0]) rfl ⟨_, _, rfl, by omega, by omega, ⟨by show (3 : Nat) ≤ _; decide, by show (2 : Nat) ≤ _; decide, ?_, ?_⟩, B_alloc (B_alloc (B_alloc (Below.refl _ _) _) _) _⟩
  · refine ob_sl2 (T := 120) (L := hs0) (Ob.alloc ?_ _)
    have h := Ob.new (w.alloc (.cells #[.slice (some ⟨w.heap.size + 1, 0, none⟩) 3 3, .slice (some ⟨w.heap.size + 1 + 1, 0, none⟩) 2 2, .int .i64 50, .int .i64 10000, .int .i64 1000, .int .i64 5000, .int .i64 20000, .int .i64 1030] 25)) (flat2 hs0).toArray 120
    rw [World.size_alloc] at h
    exact h
  · refine ob_sl2 (T := 120) (L := ws0) ?_
    have h := Ob.new ((w.alloc (.cells #[.slice (some ⟨w.heap.size + 1, 0, none⟩) 3 3, .slice (some ⟨w.heap.size + 1 + 1, 0, none⟩) 2 2, .int .i64 50, .int .i64 10000, .int .i64 1000, .int .i64 5000, .int .i64 20000, .int .i64 1030] 25)).alloc (.cells (flat2 hs0).toArray 120)) (flat2 ws0).toArray 120
    rw [World.size_alloc, World.size_alloc] at h
    exact h

set_option maxHeartbeats 4000000 in
theorem day_any (w : World) : Calls Try.prog 37 #[] w fun e w' => e = .returned (.agg #[.int .i64 200, .int .i64 250, .int .i64 400, .int .i64 500]) ∧ Below w.heap.size w w' := by
  obtain ⟨w0, hw0⟩ : ∃ w0, w.alloc (.cells #[.int .i64 0, .int .i64 0, .int .i64 0, .int .i64 0] 39) = w0 := ⟨_, rfl⟩
  have hb0 : Below w.heap.size w w0 := by rw [← hw0]; exact B_alloc (Below.refl _ _) _
  have o0 : Ob w0 w.heap.size 39 #[.int .i64 0, .int .i64 0, .int .i64 0, .int .i64 0] := by rw [← hw0]; exact Ob.new _ _ _
  replace hb0 := Lib.hid hb0
  replace o0 := Lib.hid o0
  replace hw0 := Lib.hid hw0
  go_enter Try.func37, Try.ntmps37
  go_wp2_with fail
  rw [hw0.out]
  refine (span_any _ _ w0).mono ?_
  rintro e w1 ⟨rfl, hb1⟩
  go_wp2_with fail
  refine (span_any _ _ w1).mono ?_
  rintro e w2 ⟨rfl, hb2⟩
  have hbb := B_trans hb1 hb2
  have o2 := o0.out.below hbb
  have v0 := o2.cell 0
  have v1 := o2.cell 1
  have v2 := o2.cell 2
  have v3 := o2.cell 3
  have f0 := o2.frozen 0
  have f1 := o2.frozen 1
  have f2 := o2.frozen 2
  have f3 := o2.frozen 3
  simp only [List.getElem?_toArray, List.getElem?_cons_zero, List.getElem?_cons_succ] at v0 v1 v2 v3
  have hE := Lib.hid (B_trans hb0.out hbb)
  clear hb1 hb2 hbb o2
  go_wp2
  refine bodyPost_ret (v := .agg #[.int .i64 200, .int .i64 250, .int .i64 400, .int .i64 500]) (by simp [results, Try.results37, go_sem, v0, v1, v2, v3]) rfl ⟨rfl, ?_⟩
  exact (((hE.out.setCell (by simp) _).setCell (by simp) _).setCell (by simp) _).setCell (by simp) _

theorem sl2_but {W W' : World} {b n : Nat} {L : List T2} (h : Sl2 W (some ⟨b, 0, none⟩) n L) (hb : W'.heap[b]? = W.heap[b]?) (hs : b < W'.heap.size) : Sl2 W' (some ⟨b, 0, none⟩) n L :=
  ⟨h.len, fun hn => by
    obtain ⟨b', o', e, hl, hc⟩ := h.at_ hn
    cases e
    exact ⟨b, 0, rfl, hs, fun i hi => ⟨(World.cell?_of_block hb).trans (hc i hi).1, (World.cell?_of_block hb).trans (hc i hi).2⟩⟩⟩
def day0 : T4 := (200, 250, 400, 500)
def task0 (a b d : Nat) (ta : Option Addr) (tn tc : Nat) : TkA := ⟨rule0 a b, 100, some ⟨d, 0, none⟩, 3, 3, 900, 1000, ta, tn, tc⟩
def zt0 : Array Value := #[.slice none 0 0, .slice none 0 0, .int .i64 0, .int .i64 0, .int .i64 0, .int .i64 0, .int .i64 0, .int .i64 0, .int .i64 0, .slice none 0 0, .int .i64 0, .int .i64 0, .slice none 0 0]

set_option maxRecDepth 100000 in
set_option maxHeartbeats 8000000 in
theorem task_any (ta : Option Addr) (tn tc : Nat) (ts : List T3) (w : World) (hT : Sl3 w ta tn ts) (htn : tn ≤ 1000) :
    Calls Try.prog 39 #[.slice ta tn tc] w fun e w' => ∃ a b d, e = .returned (.agg (task0 a b d ta tn tc).cs) ∧ TkR w' (task0 a b d ta tn tc) hs0 ws0 [day0, day0, day0] ts ∧ Below w.heap.size w w' := by
  obtain ⟨w0, hw0⟩ : ∃ w0, w.alloc (.cells zt0 31) = w0 := ⟨_, rfl⟩
  have hb0 : Below w.heap.size w w0 := by rw [← hw0]; exact B_alloc (Below.refl _ _) _
  have z0 : w0.heap.size = w.heap.size + 1 := by rw [← hw0]; simp
  have o0 : Ob w0 w.heap.size 31 zt0 := by rw [← hw0]; exact Ob.new _ _ _
  replace hb0 := Lib.hid hb0
  replace o0 := Lib.hid o0
  replace hw0 := Lib.hid hw0
  go_enter Try.func39, Try.ntmps39
  go_wp2_with fail
  have hw0' := hw0.out
  unfold zt0 at hw0'
  rw [hw0']
  clear hw0' hw0
  refine (rule_any w0).mono ?_
  rintro e w1 ⟨ra, rb, rfl, hra, hrb, hRu, hb1⟩
  go_wp2_with fail
  refine (day_any w1).mono ?_
  rintro e w2 ⟨rfl, hb2⟩
  go_wp2_with fail
  refine (day_any w2).mono ?_
  rintro e w3 ⟨rfl, hb3⟩
  go_wp2_with fail
  refine (day_any w3).mono ?_
  rintro e w4 ⟨rfl, hb4⟩
  obtain ⟨w5, hw5⟩ : ∃ w5, w4.alloc (.cells #[.int .i64 200, .int .i64 250, .int .i64 400, .int .i64 500, .int .i64 200, .int .i64 250, .int .i64 400, .int .i64 500, .int .i64 200, .int .i64 250, .int .i64 400, .int .i64 500] 39) = w5 := ⟨_, rfl⟩
  have hb14 := B_trans hb2 (B_trans hb3 hb4)
  have hRu4 := hRu.below hb14
  have hb04 := B_trans hb1 hb14
  have hb5 : Below w4.heap.size w4 w5 := by rw [← hw5]; exact B_alloc (Below.refl _ _) _
  have o5 : Ob w5 w4.heap.size 39 #[.int .i64 200, .int .i64 250, .int .i64 400, .int .i64 500, .int .i64 200, .int .i64 250, .int .i64 400, .int .i64 500, .int .i64 200, .int .i64 250, .int .i64 400, .int .i64 500] := by rw [← hw5]; exact Ob.new _ _ _
  have hsz := hb04.size
  go_wp2_with fail
  refine (span_any _ _ w5).mono ?_
  rintro e w7 ⟨rfl, hb7⟩
  have hb47 := B_trans hb5 hb7
  have hRu7 := Lib.hid (hRu4.below hb47)
  have oD := Lib.hid (o5.below hb7)
  have hb07 := B_trans hb04 hb47
  have o7 := o0.out.below hb07
  have hE := Lib.hid (B_trans hb0.out hb07)
  have HF : Hid (∀ p0 p1 p2 p3 p4 p5 p6 p7 p8 p9 p10 p11 p12 : Value, TkR (((((((((((((w7.setCell ⟨w.heap.size, 0, none⟩ p0).setCell ⟨w.heap.size, 1, none⟩ p1).setCell ⟨w.heap.size, 2, none⟩ p2).setCell ⟨w.heap.size, 3, none⟩ p3).setCell ⟨w.heap.size, 4, none⟩ p4).setCell ⟨w.heap.size, 5, none⟩ p5).setCell ⟨w.heap.size, 6, none⟩ p6).setCell ⟨w.heap.size, 7, none⟩ p7).setCell ⟨w.heap.size, 8, none⟩ p8).setCell ⟨w.heap.size, 9, none⟩ p9).setCell ⟨w.heap.size, 10, none⟩ p10).setCell ⟨w.heap.size, 11, none⟩ p11).setCell ⟨w.heap.size, 12, none⟩ p12) (task0 ra rb w4.heap.size ta tn tc) hs0 ws0 [day0, day0, day0] ts ∧ Below w.heap.size w (((((((((((((w7.setCell ⟨w.heap.size, 0, none⟩ p0).setCell ⟨w.heap.size, 1, none⟩ p1).setCell ⟨w.heap.size, 2, none⟩ p2).setCell ⟨w.heap.size, 3, none⟩ p3).setCell ⟨w.heap.size, 4, none⟩ p4).setCell ⟨w.heap.size, 5, none⟩ p5).setCell ⟨w.heap.size, 6, none⟩ p6).setCell ⟨w.heap.size, 7, none⟩ p7).setCell ⟨w.heap.size, 8, none⟩ p8).setCell ⟨w.heap.size, 9, none⟩ p9).setCell ⟨w.heap.size, 10, none⟩ p10).setCell ⟨w.heap.size, 11, none⟩ p11).setCell ⟨w.heap.size, 12, none⟩ p12)) := by
    intro p0 p1 p2 p3 p4 p5 p6 p7 p8 p9 p10 p11 p12
    have hB : Below w.heap.size w (((((((((((((w7.setCell ⟨w.heap.size, 0, none⟩ p0).setCell ⟨w.heap.size, 1, none⟩ p1).setCell ⟨w.heap.size, 2, none⟩ p2).setCell ⟨w.heap.size, 3, none⟩ p3).setCell ⟨w.heap.size, 4, none⟩ p4).setCell ⟨w.heap.size, 5, none⟩ p5).setCell ⟨w.heap.size, 6, none⟩ p6).setCell ⟨w.heap.size, 7, none⟩ p7).setCell ⟨w.heap.size, 8, none⟩ p8).setCell ⟨w.heap.size, 9, none⟩ p9).setCell ⟨w.heap.size, 10, none⟩ p10).setCell ⟨w.heap.size, 11, none⟩ p11).setCell ⟨w.heap.size, 12, none⟩ p12) := (((((((((((((hE.out.setCell (p := ⟨w.heap.size, 0, none⟩) (Nat.le_refl _) _).setCell (p := ⟨w.heap.size, 1, none⟩) (Nat.le_refl _) _).setCell (p := ⟨w.heap.size, 2, none⟩) (Nat.le_refl _) _).setCell (p := ⟨w.heap.size, 3, none⟩) (Nat.le_refl _) _).setCell (p := ⟨w.heap.size, 4, none⟩) (Nat.le_refl _) _).setCell (p := ⟨w.heap.size, 5, none⟩) (Nat.le_refl _) _).setCell (p := ⟨w.heap.size, 6, none⟩) (Nat.le_refl _) _).setCell (p := ⟨w.heap.size, 7, none⟩) (Nat.le_refl _) _).setCell (p := ⟨w.heap.size, 8, none⟩) (Nat.le_refl _) _).setCell (p := ⟨w.heap.size, 9, none⟩) (Nat.le_refl _) _).setCell (p := ⟨w.heap.size, 10, none⟩) (Nat.le_refl _) _).setCell (p := ⟨w.heap.size, 11, none⟩) (Nat.le_refl _) _).setCell (p := ⟨w.heap.size, 12, none⟩) (Nat.le_refl _) _)
    have hk : ∀ k, k ≠ w.heap.size → (((((((((((((w7.setCell ⟨w.heap.size, 0, none⟩ p0).setCell ⟨w.heap.size, 1, none⟩ p1).setCell ⟨w.heap.size, 2, none⟩ p2).setCell ⟨w.heap.size, 3, none⟩ p3).setCell ⟨w.heap.size, 4, none⟩ p4).setCell ⟨w.heap.size, 5, none⟩ p5).setCell ⟨w.heap.size, 6, none⟩ p6).setCell ⟨w.heap.size, 7, none⟩ p7).setCell ⟨w.heap.size, 8, none⟩ p8).setCell ⟨w.heap.size, 9, none⟩ p9).setCell ⟨w.heap.size, 10, none⟩ p10).setCell ⟨w.heap.size, 11, none⟩ p11).setCell ⟨w.heap.size, 12, none⟩ p12).heap[k]? = w7.heap[k]? := fun k hk => by
      rw [Below.heap_setCell _ _ _ _ hk, Below.heap_setCell _ _ _ _ hk, Below.heap_setCell _ _ _ _ hk, Below.heap_setCell _ _ _ _ hk, Below.heap_setCell _ _ _ _ hk, Below.heap_setCell _ _ _ _ hk, Below.heap_setCell _ _ _ _ hk, Below.heap_setCell _ _ _ _ hk, Below.heap_setCell _ _ _ _ hk, Below.heap_setCell _ _ _ _ hk, Below.heap_setCell _ _ _ _ hk, Below.heap_setCell _ _ _ _ hk, Below.heap_setCell _ _ _ _ hk]
    have hz : (((((((((((((w7.setCell ⟨w.heap.size, 0, none⟩ p0).setCell ⟨w.heap.size, 1, none⟩ p1).setCell ⟨w.heap.size, 2, none⟩ p2).setCell ⟨w.heap.size, 3, none⟩ p3).setCell ⟨w.heap.size, 4, none⟩ p4).setCell ⟨w.heap.size, 5, none⟩ p5).setCell ⟨w.heap.size, 6, none⟩ p6).setCell ⟨w.heap.size, 7, none⟩ p7).setCell ⟨w.heap.size, 8, none⟩ p8).setCell ⟨w.heap.size, 9, none⟩ p9).setCell ⟨w.heap.size, 10, none⟩ p10).setCell ⟨w.heap.size, 11, none⟩ p11).setCell ⟨w.heap.size, 12, none⟩ p12).heap.size = w7.heap.size := by simp [World.setCell]
    generalize (((((((((((((w7.setCell ⟨w.heap.size, 0, none⟩ p0).setCell ⟨w.heap.size, 1, none⟩ p1).setCell ⟨w.heap.size, 2, none⟩ p2).setCell ⟨w.heap.size, 3, none⟩ p3).setCell ⟨w.heap.size, 4, none⟩ p4).setCell ⟨w.heap.size, 5, none⟩ p5).setCell ⟨w.heap.size, 6, none⟩ p6).setCell ⟨w.heap.size, 7, none⟩ p7).setCell ⟨w.heap.size, 8, none⟩ p8).setCell ⟨w.heap.size, 9, none⟩ p9).setCell ⟨w.heap.size, 10, none⟩ p10).setCell ⟨w.heap.size, 11, none⟩ p11).setCell ⟨w.heap.size, 12, none⟩ p12) = W' at hB hk hz ⊢
    have oD' : Ob W' w4.heap.size 39 #[.int .i64 200, .int .i64 250, .int .i64 400, .int .i64 500, .int .i64 200, .int .i64 250, .int .i64 400, .int .i64 500, .int .i64 200, .int .i64 250, .int .i64 400, .int .i64 500] := (hk _ (by omega)).trans oD.out
    have hRu' := hRu7.out
    have hal : ra < w7.heap.size := by
      obtain ⟨b, o, e, hl, -⟩ := hRu'.h.at_ (by show 0 < 3; omega)
      cases e; exact hl
    have hbl : rb < w7.heap.size := by
      obtain ⟨b, o, e, hl, -⟩ := hRu'.w.at_ (by show 0 < 2; omega)
      cases e; exact hl
    refine ⟨⟨⟨by show (3 : Nat) ≤ _; decide, by show (2 : Nat) ≤ _; decide, sl2_but (b := ra) hRu'.h (hk _ (by omega)) (by omega), sl2_but (b := rb) hRu'.w (hk _ (by omega)) (by omega)⟩, by show (3 : Nat) ≤ _; decide, by show tn ≤ _; omega, ⟨rfl, fun _ => ⟨w4.heap.size, 0, rfl, oD'.lt, fun i hi => ?_⟩⟩, hT.below hB⟩, hB⟩
    have hi3 : i < 3 := hi
    rcases (by omega : i = 0 ∨ i = 1 ∨ i = 2) with rfl | rfl | rfl
    · exact ⟨oD'.cell 0, oD'.cell 1, oD'.cell 2, oD'.cell 3⟩
    · exact ⟨oD'.cell 4, oD'.cell 5, oD'.cell 6, oD'.cell 7⟩
    · exact ⟨oD'.cell 8, oD'.cell 9, oD'.cell 10, oD'.cell 11⟩
  have v0 := o7.cell 0
  have f0 := o7.frozen 0
  have v1 := o7.cell 1
  have f1 := o7.frozen 1
  have v2 := o7.cell 2
  have f2 := o7.frozen 2
  have v3 := o7.cell 3
  have f3 := o7.frozen 3
  have v4 := o7.cell 4
  have f4 := o7.frozen 4
  have v5 := o7.cell 5
  have f5 := o7.frozen 5
  have v6 := o7.cell 6
  have f6 := o7.frozen 6
  have v7 := o7.cell 7
  have f7 := o7.frozen 7
  have v8 := o7.cell 8
  have f8 := o7.frozen 8
  have v9 := o7.cell 9
  have f9 := o7.frozen 9
  have v10 := o7.cell 10
  have f10 := o7.frozen 10
  have v11 := o7.cell 11
  have f11 := o7.frozen 11
  have v12 := o7.cell 12
  have f12 := o7.frozen 12
  simp only [zt0, List.getElem?_toArray, List.getElem?_cons_zero, List.getElem?_cons_succ] at v0 v1 v2 v3 v4 v5 v6 v7 v8 v9 v10 v11 v12
  have hla := oD.out.lt
  have hne : w4.heap.size ≠ w.heap.size := by omega
  clear hb1 hb2 hb3 hb4 hb14 hRu4 hb04 hb5 o5 hb7 hb47 hb07 o7 hw5 hRu
  clear oD hRu7 hE
  go_wp2_with fail
  refine bodyPost_ret (v := .agg (task0 ra rb w4.heap.size ta tn tc).cs) ?hres rfl ⟨ra, rb, w4.heap.size, rfl, HF.out _ _ _ _ _ _ _ _ _ _ _ _ _⟩
  clear HF
  simp [results, Try.results39, go_sem, v0, v1, v2, v3, v4, v5, v6, v7, v8, v9, v10, v11, v12, task0]
end Go.Proofs.Ytanjkhclhcnnaaa

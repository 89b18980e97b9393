/- lost, from what is known. -/
import Derived.Test.YtanjkhclhcnnaaaYN
namespace Go.Proofs.Ytanjkhclhcnnaaa
open Go.RowKit Go.Shelf

theorem SpC.sl2 {W : World} {g : Nat} {C : Array Value} {L : List T2} (h : SpC C L) (hO : Ob W g 28 C) : Sl2 W (some ⟨g, 0, none⟩) L.length L :=
  ⟨rfl, fun _ => ⟨g, 0, rfl, hO.lt, fun i hi => by
    rw [Nat.zero_add]
    exact ⟨(hO.cell _).trans (h.c i hi).1, (hO.cell _).trans (h.c i hi).2⟩⟩⟩
def lostP (t : TkA) (LL : List T2) : T2 := (lostS (fun x => decide (t.r.lost ≤ x.2)) t.first LL, lostS (fun x => decide (t.r.lost ≤ x.1)) t.first LL)

set_option maxRecDepth 100000 in
set_option maxHeartbeats 8000000 in
theorem lost_any (t : TkA) (v : Value) (N : Nat) (LL : List T2) (w : World) (hv : ∃ a n c, v = .slice a n c) (hN : N ≤ 1000) (hL : LL.length = N + 1) (h0 : 0 ≤ t.first) (h1 : t.first ≤ 1000000)
    (HK : ∀ W, Below w.heap.size w W → Calls Try.prog 71 #[.agg (t.xc v)] W fun e W' => ∃ g cap C sv, e = .returned (.tuple #[.slice (some ⟨g, 0, none⟩) (N + 1) cap, sv]) ∧ W.heap.size ≤ g ∧ Ob W' g 28 C ∧ SpC C LL ∧ Below W.heap.size W W') :
    Calls Try.prog 73 #[.agg (t.xc v)] w fun e W' => e = .returned (.agg #[.int .i64 (lostP t LL).1, .int .i64 (lostP t LL).2]) ∧ Below w.heap.size w W' := by
  obtain ⟨va, vn, vc, rfl⟩ := hv
  obtain ⟨W2, hW2⟩ : ∃ W2, (w.alloc (.cells (t.xc (.slice va vn vc)) 104)).alloc (.cells #[.int .i64 0, .int .i64 0] 28) = W2 := ⟨_, rfl⟩
  have hb2 : Below w.heap.size w W2 := by rw [← hW2]; exact B_alloc (B_alloc (Below.refl _ _) _) _
  have z2 : W2.heap.size = w.heap.size + 1 + 1 := by rw [← hW2]; simp
  have hT2 : Ob W2 w.heap.size 104 (t.xc (.slice va vn vc)) := by rw [← hW2]; exact (Ob.new w _ _).alloc _
  have hR2 : Ob W2 (w.heap.size + 1) 28 #[.int .i64 0, .int .i64 0] := by rw [← hW2]; simpa using Ob.new (w.alloc (.cells (t.xc (.slice va vn vc)) 104)) #[.int .i64 0, .int .i64 0] 28
  have kt : ∀ j, W2.cell? ⟨w.heap.size, j, none⟩ = (t.xc (.slice va vn vc))[j]? := fun j => hT2.cell j
  have k0 := kt 0
  have k1 := kt 1
  have k2 := kt 2
  have k3 := kt 3
  have k4 := kt 4
  have k5 := kt 5
  have k6 := kt 6
  have k7 := kt 7
  have k8 := kt 8
  have k9 := kt 9
  have k10 := kt 10
  have k11 := kt 11
  have k12 := kt 12
  simp only [List.getElem?_toArray, List.getElem?_cons_zero, List.getElem?_cons_succ] at k0 k1 k2 k3 k4 k5 k6 k7 k8 k9 k10 k11 k12
  clear kt
  have HK2 := Lib.hid (HK W2 hb2)
  clear HK
  have hmf : ∀ (fn : Fn) (first cap : Array Value) (w : World), (Instr.makeFunc fn first cap).run Try.prog w = .ok (.func fn first cap) w := fun _ _ _ _ => rfl
  have H1 := Lib.hid (fun (W : World) (Lv g cap : Nat) (hs : Sl2 W (some ⟨g, 0, none⟩) LL.length LL) (hc : W.cell? ⟨Lv, 0, none⟩ = some (.slice (some ⟨g, 0, none⟩) LL.length cap)) (hT : Ob W w.heap.size 104 (t.xc (.slice va vn vc))) =>
    lost1_any 97 #[.pointer (some ⟨w.heap.size, 0, none⟩)] (fun x => decide (t.r.lost ≤ x.2)) LL (some ⟨g, 0, none⟩) LL.length cap w.heap.size Lv t.first W (by omega) h0 h1 hs hc (hT.cell 8) (fun _ _ => rfl) (fun x W' hb => lost2_any x.1 x.2 t.r.lost w.heap.size W' ((hT.below hb).cell 7)))
  have H2 := Lib.hid (fun (W : World) (Lv g cap : Nat) (hs : Sl2 W (some ⟨g, 0, none⟩) LL.length LL) (hc : W.cell? ⟨Lv, 0, none⟩ = some (.slice (some ⟨g, 0, none⟩) LL.length cap)) (hT : Ob W w.heap.size 104 (t.xc (.slice va vn vc))) =>
    lost1_any 98 #[.pointer (some ⟨w.heap.size, 0, none⟩)] (fun x => decide (t.r.lost ≤ x.1)) LL (some ⟨g, 0, none⟩) LL.length cap w.heap.size Lv t.first W (by omega) h0 h1 hs hc (hT.cell 8) (fun _ _ => rfl) (fun x W' hb => lost3_any x.1 x.2 t.r.lost w.heap.size W' ((hT.below hb).cell 7)))
  rw [hL] at H1 H2
  unfold lostP
  simp only
  generalize lostS (fun x => decide (t.r.lost ≤ x.2)) t.first LL = p at H1 ⊢
  generalize lostS (fun x => decide (t.r.lost ≤ x.1)) t.first LL = q at H2 ⊢
  replace hb2 := Lib.hid hb2
  replace hT2 := Lib.hid hT2
  replace hR2 := Lib.hid hR2
  replace hW2 := Lib.hid hW2
  go_enter Try.func73, Try.ntmps73
  go_wp2_with fail
  rw [hW2.out]
  refine HK2.out.mono ?_
  rintro e W3 ⟨g, cap, C, sv, rfl, hg, hC, hSp, hb3⟩
  clear k0 k1 k2 k3 k4 k5 k6 k7 k8 k9 k10 k11 k12
  have c1 := hb3.size
  obtain ⟨W4, hW4⟩ : ∃ W4, (W3.alloc (.cells #[.slice none 0 0] 49)).setCell ⟨W3.heap.size, 0, none⟩ (.slice (some ⟨g, 0, none⟩) (N + 1) cap) = W4 := ⟨_, rfl⟩
  have oT : Ob W4 w.heap.size 104 (t.xc (.slice va vn vc)) := by rw [← hW4]; exact ((hT2.out.below hb3).alloc _).other (by simp only; omega) _
  have oR : Ob W4 (w.heap.size + 1) 28 #[.int .i64 0, .int .i64 0] := by rw [← hW4]; exact ((hR2.out.below hb3).alloc _).other (by simp only; omega) _
  have oG : Ob W4 g 28 C := by rw [← hW4]; exact (hC.alloc _).other (by have := hC.lt; simp only; omega) _
  have oL : Ob W4 W3.heap.size 49 #[.slice (some ⟨g, 0, none⟩) (N + 1) cap] := by rw [← hW4]; exact (Ob.new W3 _ _).set 0 _
  have bW : Below w.heap.size w W4 := by rw [← hW4]; exact (B_alloc (B_trans hb2.out hb3) _).setCell (by simp only; omega) _
  have sG : Sl2 W4 (some ⟨g, 0, none⟩) (N + 1) LL := hL ▸ hSp.sl2 oG
  have HA := Lib.hid (And.intro oT (And.intro oR (And.intro oL (And.intro bW sG))))
  clear oT oR oG oL bW sG hC hb3 c1
  go_wp2_with fail
  clear hW4
  refine (H1.out W4 W3.heap.size g cap HA.out.2.2.2.2 (HA.out.2.2.1.cell 0) HA.out.1).mono ?_
  rintro e W5 ⟨rfl, hb5⟩
  go_wp2_with fail
  have HB := Lib.hid (show Ob W5 w.heap.size 104 (t.xc (.slice va vn vc)) ∧ Ob W5 (w.heap.size + 1) 28 #[.int .i64 0, .int .i64 0] ∧ Ob W5 W3.heap.size 49 #[.slice (some ⟨g, 0, none⟩) (N + 1) cap] ∧ Below w.heap.size w W5 ∧ Sl2 W5 (some ⟨g, 0, none⟩) (N + 1) LL from ⟨HA.out.1.below hb5, HA.out.2.1.below hb5, HA.out.2.2.1.below hb5, B_trans HA.out.2.2.2.1 hb5, HA.out.2.2.2.2.below hb5⟩)
  refine (H2.out W5 W3.heap.size g cap HB.out.2.2.2.2 (HB.out.2.2.1.cell 0) HB.out.1).mono ?_
  rintro e W6 ⟨rfl, hb6⟩
  have r6 := HB.out.2.1.below hb6
  have r0 := r6.cell 0
  have r1 := r6.cell 1
  have f0 := r6.frozen 0
  have f1 := r6.frozen 1
  simp only [List.getElem?_toArray, List.getElem?_cons_zero, List.getElem?_cons_succ] at r0 r1
  have bE := Lib.hid (B_trans HB.out.2.2.2.1 hb6)
  clear r6 hb6 hb5
  go_wp2
  refine bodyPost_ret (v := .agg #[.int .i64 p, .int .i64 q]) (by simp [results, Try.results73, go_sem, r0, r1]) rfl ⟨rfl, ?_⟩
  exact (bE.out.setCell (by simp only; omega) _).setCell (by simp only; omega) _
end Go.Proofs.Ytanjkhclhcnnaaa

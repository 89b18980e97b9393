/- slices.Concat of two slices of days. -/
import Derived.Test.YtanjkhclhcnnaaaJW
namespace Go.Proofs.Ytanjkhclhcnnaaa
open Go Go.RowKit Go.Shelf

theorem flat4_app (a b : List T4) : flat4 (a ++ b) = flat4 a ++ flat4 b := by simp [flat4]
theorem flat4_one : ∀ l : List T4, ∀ u ∈ flat4 l, u.oneCell' = true
  | [], u, h => by cases h
  | x :: l, u, h => by
    have e : flat4 (x :: l) = [.int .i64 x.1, .int .i64 x.2.1, .int .i64 x.2.2.1, .int .i64 x.2.2.2] ++ flat4 l := rfl
    rw [e, List.mem_append] at h
    rcases h with h | h
    · simp at h; rcases h with rfl | rfl | rfl | rfl <;> rfl
    · exact flat4_one l u h
theorem joinedE {W : World} {base n : Nat} {v : Value} {xs : List Value} {p o m c : Nat} {ys : List T4} (hv : W.ownsRow base 39 4 v n xs) (hl : ys.length = m)
    (hy : ∀ i, i < m → W.cell? ⟨p, o + i * 4, none⟩ = some (.int .i64 (ys.getD i (0, 0, 0, 0)).1) ∧ W.cell? ⟨p, o + i * 4 + 1, none⟩ = some (.int .i64 (ys.getD i (0, 0, 0, 0)).2.1) ∧ W.cell? ⟨p, o + i * 4 + 2, none⟩ = some (.int .i64 (ys.getD i (0, 0, 0, 0)).2.2.1) ∧ W.cell? ⟨p, o + i * 4 + 3, none⟩ = some (.int .i64 (ys.getD i (0, 0, 0, 0)).2.2.2))
    (hn : n ≤ 100000) (hm : m ≤ 100000) (hb : base ≤ W.heap.size) :
    ∃ v' w', (Builtin.append_ #[26, 26] 26 #[v, .slice (some ⟨p, o, none⟩) m c]).run Try.prog W = .ok v' w' ∧ w'.ownsRow base 39 4 v' (n + m) (xs ++ flat4 ys) ∧ W.grownBy w' v.ownBlock := by
  obtain ⟨i0, hi, hz0, hs0, hy0⟩ := info_parts infoDay
  obtain ⟨v', w', h1, h2, h3, -⟩ := run_append_own (P := Try.prog) (w := W) base 26 26 39 i0 _ 4 32 Try.underlying26 hi hz0 hs0 hy0 rfl (by decide) v n xs hv ⟨p, o, none⟩ m c (flat4 ys) (by rw [flat4_len, hl])
    (fun j u h => by
      have hj : j < m * 4 := by
        rcases Nat.lt_or_ge j (m * 4) with h1 | h1
        · exact h1
        · rw [List.getElem?_eq_none (by rw [flat4_len, hl]; exact h1)] at h; cases h
      obtain ⟨c0, c1, c2, c3⟩ := hy (j / 4) (by omega)
      obtain ⟨x0, x1, x2, x3⟩ := flat4_at ys (j / 4) (by omega)
      rw [show (⟨p, o, none⟩ : Addr).add j = ⟨p, o + j, none⟩ by simp [Addr.add]]
      have h3 : j % 4 = 0 ∨ j % 4 = 1 ∨ j % 4 = 2 ∨ j % 4 = 3 := by omega
      rcases h3 with h3 | h3 | h3 | h3
      · rw [show j = j / 4 * 4 by omega] at h ⊢
        rw [x0] at h; rw [c0]; exact h
      · rw [show j = j / 4 * 4 + 1 by omega] at h ⊢
        rw [x1] at h; rw [show o + (j / 4 * 4 + 1) = o + j / 4 * 4 + 1 by omega, c1]; exact h
      · rw [show j = j / 4 * 4 + 2 by omega] at h ⊢
        rw [x2] at h; rw [show o + (j / 4 * 4 + 2) = o + j / 4 * 4 + 2 by omega, c2]; exact h
      · rw [show j = j / 4 * 4 + 3 by omega] at h ⊢
        rw [x3] at h; rw [show o + (j / 4 * 4 + 3) = o + j / 4 * 4 + 3 by omega, c3]; exact h) (flat4_one ys) (by unfold maxLen; omega) (by omega) hb
  exact ⟨v', w', h1, h2, h3⟩
set_option maxRecDepth 100000 in
set_option maxHeartbeats 4000000 in
theorem concat_any (A B : List T4) (p0 o0 c0 p1 o1 c1 ka kb q oq c : Nat) (w : World) (hA : A.length = ka) (hB : B.length = kb) (hk : 1 ≤ kb ∧ ka + kb ≤ 400) (hq : q < w.heap.size) (hp0 : p0 < w.heap.size) (hp1 : p1 < w.heap.size)
    (hq0 : w.cell? ⟨q, oq, none⟩ = some (.slice (some ⟨p0, o0, none⟩) ka c0)) (hq1 : w.cell? ⟨q, oq + 1, none⟩ = some (.slice (some ⟨p1, o1, none⟩) kb c1))
    (hyA : ∀ i, i < ka → w.cell? ⟨p0, o0 + i * 4, none⟩ = some (.int .i64 (A.getD i (0, 0, 0, 0)).1) ∧ w.cell? ⟨p0, o0 + i * 4 + 1, none⟩ = some (.int .i64 (A.getD i (0, 0, 0, 0)).2.1) ∧ w.cell? ⟨p0, o0 + i * 4 + 2, none⟩ = some (.int .i64 (A.getD i (0, 0, 0, 0)).2.2.1) ∧ w.cell? ⟨p0, o0 + i * 4 + 3, none⟩ = some (.int .i64 (A.getD i (0, 0, 0, 0)).2.2.2))
    (hyB : ∀ i, i < kb → w.cell? ⟨p1, o1 + i * 4, none⟩ = some (.int .i64 (B.getD i (0, 0, 0, 0)).1) ∧ w.cell? ⟨p1, o1 + i * 4 + 1, none⟩ = some (.int .i64 (B.getD i (0, 0, 0, 0)).2.1) ∧ w.cell? ⟨p1, o1 + i * 4 + 2, none⟩ = some (.int .i64 (B.getD i (0, 0, 0, 0)).2.2.1) ∧ w.cell? ⟨p1, o1 + i * 4 + 3, none⟩ = some (.int .i64 (B.getD i (0, 0, 0, 0)).2.2.2)) :
    Calls Try.prog 74 #[.slice (some ⟨q, oq, none⟩) 2 c] w fun e w' => ∃ v, e = .returned v ∧ w'.ownsRow w.heap.size 39 4 v (ka + kb) (flat4 (A ++ B)) ∧ Below w.heap.size w w' := by
  have HG := Lib.hid (show ∀ W', Calls Try.prog 99 #[.slice none 0 0, .int .i64 ((ka : Int) + (kb : Int))] W' fun e w' => ∃ v, e = .returned v ∧ w'.ownsRow W'.heap.size 39 4 v 0 [] ∧ Below W'.heap.size W' w' from fun W' => by
    have h := grow_none (ka + kb) W' ⟨by omega, hk.2⟩
    rw [show ((ka + kb : Nat) : Int) = (ka : Int) + (kb : Int) by push_cast; rfl] at h
    exact h)
  have HYA := Lib.hid hyA
  have HYB := Lib.hid hyB
  have u0 : IntKind.i64.wrap (ka : Int) = (ka : Int) := IntWalk.i64_in _ (by omega)
  have u1 : IntKind.i64.wrap ((ka : Int) + (kb : Int)) = (ka : Int) + (kb : Int) := IntWalk.i64_in _ (by omega)
  have e0 : ¬ (ka : Int) < 0 := by omega
  have e1 : ¬ (ka : Int) + (kb : Int) < 0 := by omega
  have HQ0 := Lib.hid hq0
  have HQ1 := Lib.hid hq1
  clear hyA hyB
  go_enter Try.func74, Try.ntmps74
  go_wp2_with fail
  go_loopg [3, 11] 2 (fun gk sz iv wr => wr = w ∧ ((gk = 2 ∧ sz = .int .i64 0 ∧ iv = .int .i64 0) ∨ (gk = 1 ∧ sz = .int .i64 (ka : Int) ∧ iv = .int .i64 1) ∨ (gk = 0 ∧ sz = .int .i64 ((ka : Int) + (kb : Int)) ∧ iv = .int .i64 2)))
  case atStart => exact ⟨rfl, .inl ⟨rfl, rfl, rfl⟩⟩
  case round =>
    obtain ⟨rfl, ⟨rfl, rfl, rfl⟩ | ⟨rfl, rfl, rfl⟩ | ⟨rfl, rfl, rfl⟩⟩ := hrel
    · go_wp2_with fail
      go_roundg 1
      case measure => omega
      case rel => exact ⟨rfl, .inr (.inl ⟨rfl, rfl, rfl⟩)⟩
    · go_wp2_with fail
      go_roundg 0
      case measure => omega
      case rel => exact ⟨rfl, .inr (.inr ⟨rfl, rfl, rfl⟩)⟩
    · obtain ⟨wz, rfl⟩ : ∃ wz, wz = wr := ⟨wr, rfl⟩
      go_wp2_with fail
      refine (HG.out wz).mono ?_
      rintro e w1 ⟨v, rfl, hrow, hb1⟩
      have S1 := Lib.hid (And.intro hrow hb1)
      clear hrow hb1 hq0 hq1
      go_wp2_with fail
      go_loopg [6, 27] 2 (fun gk nv iv wr => Below wz.heap.size wz wr ∧ ((gk = 2 ∧ iv = .int .i64 0 ∧ wr.ownsRow wz.heap.size 39 4 nv 0 []) ∨ (gk = 1 ∧ iv = .int .i64 1 ∧ wr.ownsRow wz.heap.size 39 4 nv ka (flat4 A)) ∨ (gk = 0 ∧ iv = .int .i64 2 ∧ wr.ownsRow wz.heap.size 39 4 nv (ka + kb) (flat4 (A ++ B)))))
      case atStart => exact ⟨S1.out.2, .inl ⟨rfl, rfl, S1.out.1⟩⟩
      case round =>
        obtain ⟨hb, ⟨rfl, rfl, hrow⟩ | ⟨rfl, rfl, hrow⟩ | ⟨rfl, rfl, hrow⟩⟩ := hrel
        · have y0 := (hb.cell (p := ⟨q, _, none⟩) hq).trans HQ0.out
          obtain ⟨v', w2, hrun, hown, hgr⟩ := joinedE (c := c0) hrow hA (fun i hi => by obtain ⟨k0, k1, k2, k3⟩ := HYA.out i hi; exact ⟨(hb.cell (p := ⟨p0, _, none⟩) hp0).trans k0, (hb.cell (p := ⟨p0, _, none⟩) hp0).trans k1, (hb.cell (p := ⟨p0, _, none⟩) hp0).trans k2, (hb.cell (p := ⟨p0, _, none⟩) hp0).trans k3⟩) (by omega) (by omega) hb.size
          rw [Nat.zero_add, List.nil_append] at hown
          have S2 := Lib.hid (And.intro hown (B_grown' hb hrow hgr))
          clear hown hgr hrow hb
          go_wp2_with (at_builtin; refine Lib.wpList_append_run _ rfl _ _ _ _ rfl _ _ rfl rfl _ _ hrun ?_)
          go_wp2_with fail
          go_roundg 1
          case measure => omega
          case rel => exact ⟨S2.out.2, .inr (.inl ⟨rfl, rfl, S2.out.1⟩)⟩
        · have y0 := (hb.cell (p := ⟨q, _, none⟩) hq).trans HQ1.out
          obtain ⟨v', w2, hrun, hown, hgr⟩ := joinedE (c := c1) hrow hB (fun i hi => by obtain ⟨k0, k1, k2, k3⟩ := HYB.out i hi; exact ⟨(hb.cell (p := ⟨p1, _, none⟩) hp1).trans k0, (hb.cell (p := ⟨p1, _, none⟩) hp1).trans k1, (hb.cell (p := ⟨p1, _, none⟩) hp1).trans k2, (hb.cell (p := ⟨p1, _, none⟩) hp1).trans k3⟩) (by omega) (by omega) hb.size
          rw [← flat4_app] at hown
          have S2 := Lib.hid (And.intro hown (B_grown' hb hrow hgr))
          clear hown hgr hrow hb
          go_wp2_with (at_builtin; refine Lib.wpList_append_run _ rfl _ _ _ _ rfl _ _ rfl rfl _ _ hrun ?_)
          go_wp2_with fail
          go_roundg 0
          case measure => omega
          case rel => exact ⟨S2.out.2, .inr (.inr ⟨rfl, rfl, S2.out.1⟩)⟩
        · obtain ⟨va, vc, rfl, -⟩ := sl4_row hrow
          have S2 := Lib.hid (And.intro hrow hb)
          clear hrow hb
          go_wp2
          refine bodyPost_ret (v := .slice va (ka + kb) vc) (by simp [results, Try.results74, go_sem]) rfl ⟨_, rfl, S2.out.1, S2.out.2⟩
end Go.Proofs.Ytanjkhclhcnnaaa

/- What the second seat of stage 2 wants: walks and openings; many tests appended at once. -/
import Derived.Test.YtijkhpaiiieanaaHN
namespace Go.Proofs.Ytijkhpaiiieanaa
open Go.RowKit Go.Shelf

set_option maxRecDepth 100000 in
set_option maxHeartbeats 4000000 in
theorem struckIs_any (S : List T2) (a : Option Addr) (n c : Nat) (x : Int) (w : World) (hA : Sl2 w a n S) (hn : n ≤ 100000) :
    Calls Try.prog 7 #[.slice a n c, .int .i64 x] w fun e w' => e = .returned (.bool (strkB S x)) ∧ w = w' := by
  have hla := hA.len
  replace hA := Lib.hid hA
  go_enter Try.func7, Try.ntmps7
  go_wp2
  go_loopg [5] n (fun gk i wr => ∃ k : Nat, gk = n - k ∧ k ≤ n ∧ i = .int .i64 (k : Int) ∧ (∀ j, j < k → (S.getD j (0, 0)).1 ≠ x) ∧ wr = w)
  case atStart => exact ⟨0, rfl, Nat.zero_le _, rfl, fun j hj => absurd hj (Nat.not_lt_zero _), rfl⟩
  case round =>
    obtain ⟨k, hgk, hk, rfl, hs, rfl⟩ := hrel
    by_cases hlt : k < n
    · obtain ⟨b1, o1, rfl, hb1, hc1⟩ := hA.out.at_ (by omega)
      obtain ⟨x0, x1⟩ := hc1 k hlt
      have hkn : (k : Int) < n := by omega
      have hk0 : (0 : Int) ≤ k := by omega
      have hs' := Lib.hid hs
      by_cases e : (S.getD k (0, 0)).1 = x
      · have HB : Hid (strkB S x = true) := strkB_at (by omega) e
        rw [e] at x0
        clear hc1 hs e
        go_wp2
        refine bodyPost_ret (v := .bool true) (by simp [results, Try.results7, go_sem]) rfl ⟨by rw [HB.out], rfl⟩
      · have hs2 : Hid (∀ j, j < k + 1 → (S.getD j (0, 0)).1 ≠ x) := fun j hj => by
          by_cases e2 : j = k
          · subst e2; exact e
          · exact hs'.out j (by omega)
        generalize (S.getD k (0, 0)).1 = y at x0 e
        have hd : (y == x) = false := by simpa using e
        clear hc1 hs e
        go_wp2
        go_roundg (n - (k + 1))
        case measure => omega
        case rel => exact ⟨k + 1, rfl, hlt, by push_cast; rfl, hs2.out, rfl⟩
    · have HB : Hid (strkB S x = false) := strkB_no fun j hj => hs j (by omega)
      obtain rfl : k = n := by omega
      have hkn : ¬ (k : Int) < k := by omega
      clear hs
      go_wp2
      refine bodyPost_ret (v := .bool false) (by simp [results, Try.results7, go_sem]) rfl ⟨by rw [HB.out], rfl⟩
theorem struckLen {t : TkA} {hs ws : List T2} {ds : List T4} {ts : List T3} (hmor : ∀ i, i < t.tn → morT t ts i ≤ t.dn) (htn : t.tn ≤ 20) : (reachT t hs ws ds ts).struck.length ≤ 20 := by
  obtain ⟨-, h2⟩ := reach_all t.r (ds.map (strS hs ws)) ts (morT t ts) (orderL ts t.tn) (t.lo, t.hi) (order_pair t ts) (k := t.dn + 1) (fun i hi => by have := hmor i (orderL_lt ts t.tn i hi); omega)
  have h2' : (reachT t hs ws ds ts).struck = (takeF t hs ws ds ts t.tn).struck := by rw [takeF_whole]; exact h2
  rw [h2']
  have key : ∀ c, c ≤ t.tn → (takeF t hs ws ds ts c).struck.length ≤ c := by
    intro c
    induction c with
    | zero => intro _; exact Nat.le_refl _
    | succ c ih =>
      intro hc
      have h1 := ih (by omega)
      rw [takeF_step t hs ws ds ts (by omega)]
      unfold takeS
      split
      · simp only; omega
      · simp; omega
  have := key t.tn (Nat.le_refl _)
  omega

theorem levels3_any (t : TkA) (hs ws : List T2) (ds : List T4) (ts : List T3) (w : World) (hR : TkR w t hs ws ds ts) (he : (taskS t hs ws ds ts).2.2 = 0) : Calls Try.prog 5 #[.agg t.cs] w fun e w' => ∃ la lc sa sc, e = .returned (.tuple #[.slice la (t.dn + 1) lc, .slice sa (reachT t hs ws ds ts).struck.length sc, .int .i64 0]) ∧ Sl2 w' la (t.dn + 1) (levT t hs ws ds ts) ∧ Sl2 w' sa (reachT t hs ws ds ts).struck.length (reachT t hs ws ds ts).struck ∧ Below w.heap.size w w' := by
  refine (levels_full t hs ws ds ts w hR he).mono ?_
  rintro e w' ⟨g, cap, C, sv, rfl, -, hC, hS, hr, hb⟩
  obtain ⟨a, c, rfl, hA, -, -⟩ := sl2_row hr
  have h := spc_sl2 hC hS
  rw [levT_len he hR.d.len] at h
  exact ⟨_, cap, a, c, rfl, h, hA, hb⟩

theorem wf_u8 (x : Int) (h : (Lit.int .u8 x).wf = true) : 0 ≤ x ∧ x ≤ 255 := by
  simp only [Lit.wf, Bool.and_eq_true, decide_eq_true_eq] at h
  exact ⟨h.1, h.2⟩
theorem infoTst : (Try.prog.info? 62).map (fun i => (i.zero, i.size, i.bytes)) = some (some (.agg #[.int .i64 0, .int .i64 0, .int .i64 0]), 3, 24) := by kernel_rfl
theorem flat3_one : ∀ l : List T3, ∀ u ∈ flat3 l, u.oneCell' = true
  | [], u, h => by cases h
  | x :: l, u, h => by
    have e : flat3 (x :: l) = [.int .i64 x.1, .int .i64 x.2.1, .int .i64 x.2.2] ++ flat3 l := rfl
    rw [e, List.mem_append] at h
    rcases h with h | h
    · simp at h; rcases h with rfl | rfl | rfl <;> rfl
    · exact flat3_one l u h
theorem joinedM {W : World} {base n : Nat} {v : Value} {xs : List Value} {p o m c : Nat} {ys : List T3} (hv : W.ownsRow base 62 3 v n xs) (hl : ys.length = m)
    (hy : ∀ i, i < m → W.cell? ⟨p, o + i * 3, none⟩ = some (.int .i64 (ys.getD i (0, 0, 0)).1) ∧ W.cell? ⟨p, o + i * 3 + 1, none⟩ = some (.int .i64 (ys.getD i (0, 0, 0)).2.1) ∧ W.cell? ⟨p, o + i * 3 + 2, none⟩ = some (.int .i64 (ys.getD i (0, 0, 0)).2.2))
    (hn : n ≤ 100000) (hm : m ≤ 100000) (hb : base ≤ W.heap.size) :
    ∃ v' w', (Builtin.append_ #[29, 29] 29 #[v, .slice (some ⟨p, o, none⟩) m c]).run Try.prog W = .ok v' w' ∧ w'.ownsRow base 62 3 v' (n + m) (xs ++ flat3 ys) ∧ W.grownBy w' v.ownBlock := by
  obtain ⟨i0, hi, hz0, hs0, hy0⟩ := info_parts infoTst
  obtain ⟨v', w', h1, h2, h3, -⟩ := run_append_own (P := Try.prog) (w := W) base 29 29 62 i0 _ 3 24 Try.underlying29 hi hz0 hs0 hy0 rfl (by decide) v n xs hv ⟨p, o, none⟩ m c (flat3 ys) (by rw [flat3_len, hl])
    (fun j u h => by
      have hj : j < m * 3 := by
        rcases Nat.lt_or_ge j (m * 3) with h1 | h1
        · exact h1
        · rw [List.getElem?_eq_none (by rw [flat3_len, hl]; exact h1)] at h; cases h
      obtain ⟨c0, c1, c2⟩ := hy (j / 3) (by omega)
      obtain ⟨x0, x1, x2⟩ := flat3_at ys (j / 3) (by omega)
      rw [show (⟨p, o, none⟩ : Addr).add j = ⟨p, o + j, none⟩ by simp [Addr.add]]
      have h3 : j % 3 = 0 ∨ j % 3 = 1 ∨ j % 3 = 2 := by omega
      rcases h3 with h3 | h3 | h3
      · rw [show j = j / 3 * 3 by omega] at h ⊢
        rw [x0] at h; rw [c0]; exact h
      · rw [show j = j / 3 * 3 + 1 by omega] at h ⊢
        rw [x1] at h; rw [show o + (j / 3 * 3 + 1) = o + j / 3 * 3 + 1 by omega, c1]; exact h
      · rw [show j = j / 3 * 3 + 2 by omega] at h ⊢
        rw [x2] at h; rw [show o + (j / 3 * 3 + 2) = o + j / 3 * 3 + 2 by omega, c2]; exact h) (flat3_one ys) (by unfold maxLen; omega) (by omega) hb
  exact ⟨v', w', h1, h2, h3⟩
section
open Go.ChangeShapes Go.WideShapes Go.ChangeAt Go.Deep
variable {H : Type} {enc : TypeId × Value → H} {W : World} {base : Nat} {held : Bool} {b0 : Nat}
set_option maxRecDepth 100000 in
theorem tests_cap {t : TkA} {d : DataW H} {p : List MemPlace} (h : DataW.Trod enc Try.prog W base (fun _ => true) held 31 (.agg t.cs) d p) : t.tn ≤ t.tc := by
  obtain ⟨m, hm⟩ := h
  obtain ⟨xs, n, -, hx, hl, hlen, hf⟩ := DataW.trod_struct Try.underlying31 hm
  have hl5 : xs.length = 5 := hlen
  obtain ⟨y0, y1, y2, y3, y4, rfl⟩ : ∃ y0 y1 y2 y3 y4, xs = [y0, y1, y2, y3, y4] := by
    match xs, hl5 with
    | [y0, y1, y2, y3, y4], _ => exact ⟨y0, y1, y2, y3, y4, rfl⟩
  have c2 : Try.prog.cellsOf 29 = 1 := by kernel_rfl
  have k2 : DataW.trod enc Try.prog W base (fun _ => true) held n 29 (((Value.agg t.cs).cells.toList.drop 12).take (Try.prog.cellsOf 29)) = some y4 := hf 4 ⟨"Tests", 29, 12, false, "", "", 144⟩ rfl
  rw [c2] at k2
  have e : (((Value.agg t.cs).cells.toList.drop 12).take 1) = [.slice t.ta t.tn t.tc] := by simp [Value.cells]
  rw [e] at k2
  rcases open_slice Try.underlying29 k2 with ⟨h1, -⟩ | ⟨a, len, cap, m', n', D, Pl, h1, -, hle, -⟩
  · simp at h1
    omega
  · simp at h1
    omega
set_option maxRecDepth 100000 in
theorem open_int {t : TypeId} {k : IntKind} {v : Value} {d : DataW H} {p : List MemPlace} (ht : Try.prog.underlying t = some (.int k)) (hv : Value.okWide Try.prog W .any b0 t v) (h : DataW.Trod enc Try.prog W base (fun _ => true) held t v d p) :
    ∃ x : Int, v = .int k x ∧ (Lit.int k x).wf = true := by
  obtain ⟨x, rfl⟩ := okWide_int ht hv
  obtain ⟨n, hn⟩ := h
  obtain ⟨y, e, -, wf⟩ := DataW.trod_int ht hn
  simp [Value.cells] at e
  subst e
  exact ⟨_, rfl, wf⟩
end
end Go.Proofs.Ytijkhpaiiieanaa

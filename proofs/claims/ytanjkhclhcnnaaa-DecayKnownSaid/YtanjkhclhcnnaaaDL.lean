/- The reference's order, walked. -/
import Derived.Test.YtanjkhclhcnnaaaDK
namespace Go.Proofs.Ytanjkhclhcnnaaa
open Go.RowKit Go.Shelf

theorem sl3_day {W : World} {p o tn : Nat} {ts : List T3} (h : Sl3 W (some ⟨p, o, none⟩) tn ts) {i : Nat} (hi : i < tn) : W.cell? ⟨p, o + i * 3, none⟩ = some (.int .i64 (dayOf ts i)) := by
  obtain ⟨b, o', e, -, hc⟩ := h.at_ (by omega)
  cases e
  exact (hc i hi).1
theorem below_drewN {B : Nat} {a w : World} (h : Below B a w) (n : Nat) : Below B a (w.drewN n) := ⟨h.os, h.tape, h.output, h.size, h.block⟩
theorem own_drewN {W : World} {base s k : Nat} {e : TypeId} {v : Value} {xs : List Value} (h : W.ownsRow base e s v k xs) (n : Nat) : (W.drewN n).ownsRow base e s v k xs := h
theorem OL_mem (ts : List T3) {n : Nat} : ∀ {k : Nat}, k ≤ n → ∀ x ∈ OL ts n k, x < k
  | 0, _, x, hx => by simp [OL] at hx
  | k + 1, h, x, hx => by
    rw [← OL_step ts (show k < n by omega)] at hx
    refine sinkL_mem k (n := k + 1) ?_ (by simp [OL_len ts (show k ≤ n by omega)]) x hx
    intro y hy
    rcases List.mem_append.1 hy with h1 | h1
    · have := OL_mem ts (show k ≤ n by omega) y h1
      omega
    · simp at h1
      omega

set_option maxRecDepth 100000 in
set_option maxHeartbeats 8000000 in
theorem refOrder_any (ts : List T3) (ta : Option Addr) (tn tc : Nat) (w : World) (hT : Sl3 w ta tn ts) (htn : tn ≤ 20) :
    Calls Try.prog 116 #[.slice ta tn tc] w fun e w' => ∃ v, e = .returned v ∧ w'.ownsRow w.heap.size 3 1 v tn (ints (orderL ts tn)) ∧ Below w.heap.size w w' := by
  have htn' : (tn : Int) ≤ 20 := by omega
  have T := Lib.hid hT
  clear hT
  obtain ⟨i3, hi3, hz3, hs3, hy3⟩ := info_parts infoInt
  go_enter Try.func116, Try.ntmps116
  go_wp2_with fail
  go_loopg [3, 4] tn (fun gk v i wr => ∃ k : Nat, gk = tn - k ∧ i = .int .i64 k ∧ k ≤ tn ∧ wr.ownsRow w.heap.size 3 1 v k (ints (OL ts tn k)) ∧ Below w.heap.size w wr)
  case atStart => exact ⟨0, rfl, rfl, by omega, ⟨by simp [ints, OL], Or.inl ⟨rfl, rfl⟩⟩, Below.refl _ _⟩
  case round =>
    obtain ⟨k, rfl, rfl, hk, hR, hB⟩ := hrel
    by_cases hlt : k < tn
    · have h1 : (k : Int) < tn := by omega
      have h0 : (0 : Int) ≤ k := by omega
      have Hst := Lib.hid (OL_step ts hlt)
      have hsz := hB.size
      have S := Lib.hid (And.intro hR hB)
      clear hR hB
      go_wp2_with ((at_builtin; refine wpList_append_own _ rfl _ _ 46 rfl w.heap.size 3 i3 (.int .i64 0) 1 8 Try.underlying46 hi3 hz3 hs3 hy3 rfl (by decide) _ _ _ rfl (row_below S.out.1 (B_alloc (Below.refl _ _) _)) ⟨wr.heap.size, 0, none⟩ 1 1 [.int .i64 (k : Int)] rfl rfl ?c1 ?c2 ?c3 ?c4 ?c5 ?_))
      case c1 =>
        intro j u h
        rw [show (⟨wr.heap.size, 0, none⟩ : Addr).add j = ⟨wr.heap.size, j, none⟩ by simp [Addr.add, eq_comm]]
        rw [(Ob.new wr #[.int .i64 (k : Int)] 3).cell]
        simpa using h
      case c2 => intro u hu; simp at hu; rcases hu with rfl; rfl
      case c3 => unfold maxLen; omega
      case c4 => omega
      case c5 => simp; omega
      intro v' w1 hown' hgrow _
      have hB1 := B_grown' (B_trans S.out.2 (B_alloc (Below.refl _ _) (.cells #[.int .i64 (k : Int)] 3))) (row_below S.out.1 (B_alloc (Below.refl _ _) _)) hgrow
      rw [show ints (OL ts tn k) ++ [.int .i64 (k : Int)] = ints (OL ts tn k ++ [k]) by simp [ints]] at hown'
      obtain ⟨q, cap, cur, rfl, hq, -, hcap, -⟩ := row1_form hown' (by omega)
      have hlenO := OL_len ts (show k ≤ tn by omega)
      have hmemO : ∀ x ∈ OL ts tn k ++ [k], x < k + 1 := by
        intro x hx
        rcases List.mem_append.1 hx with h | h
        · have := OL_mem ts (show k ≤ tn by omega) x h
          omega
        · simp at h
          omega
      have I0 := Lib.hid (And.intro hown' hB1)
      clear S hown' hB1 hgrow
      go_wp2_with fail
      go_loopg [5] k (fun gj j wr => ∃ (m : Nat) (L : List Nat), gj = m ∧ j = .int .i64 (m : Int) ∧ m ≤ k ∧ L.length = k + 1 ∧ (∀ x ∈ L, x < k + 1) ∧ sinkL (ltD ts) m L = OL ts tn (k + 1) ∧ wr.ownsRow w.heap.size 3 1 (.slice (some ⟨q, 0, none⟩) (k + 1) cap) (k + 1) (ints L) ∧ Below w.heap.size w wr)
      case atStart => exact ⟨k, OL ts tn k ++ [k], rfl, rfl, Nat.le_refl _, by simp [hlenO], hmemO, Hst.out, I0.out.1, I0.out.2⟩
      case round =>
        clear I0
        obtain ⟨m, L, hgm, hjv, hm1, hL, hLm, hs, hRj, hBj⟩ := hrel
        rcases m with _ | j
        · obtain rfl := hjv
          have J := Lib.hid (And.intro hs (And.intro hRj hBj))
          clear hs hRj hBj hLm
          go_wp2_with fail
          go_quiet (fail)
          go_wp2
          go_roundg (tn - (k + 1))
          case measure => omega
          case rel =>
            refine ⟨k + 1, rfl, by push_cast; rfl, by omega, ?_, ?_⟩
            · have e : L = OL ts tn (k + 1) := J.out.1
              rw [← e]
              exact J.out.2.1
            · exact below_drewN J.out.2.2 _
        · obtain rfl : _ = Value.int .i64 ((j : Int) + 1) := hjv.trans (by push_cast; rfl)
          have hx := getD_mem_lt hLm (show j + 1 < L.length by omega)
          have hy := getD_mem_lt hLm (show j < L.length by omega)
          obtain ⟨cx, cy, fx, fy⟩ : wr.cell? ⟨q, j + 1, none⟩ = some (.int .i64 (L.getD (j + 1) 0 : Nat)) ∧ wr.cell? ⟨q, j, none⟩ = some (.int .i64 (L.getD j 0 : Nat)) ∧ wr.frozen? ⟨q, j + 1, none⟩ = false ∧ wr.frozen? ⟨q, j, none⟩ = false := by
            obtain ⟨q', cap', cur, he, -, hO, -, -, -, ht⟩ := row1_form hRj (by omega)
            cases he
            exact ⟨row1_cell hO ht hL (by omega), row1_cell hO ht hL (by omega), hO.frozen _, hO.frozen _⟩
          have tT := T.out.below hBj
          obtain ⟨p, o, rfl, -, -⟩ := tT.at_ (by omega)
          have dx := sl3_day tT (show L.getD (j + 1) 0 < tn by omega)
          have dy := sl3_day tT (show L.getD j 0 < tn by omega)
          have hsx : sinkL (ltD ts) (j + 1) L = if dayOf ts (L.getD (j + 1) 0) < dayOf ts (L.getD j 0) then sinkL (ltD ts) j (swapL L j) else L := by
            conv => lhs; unfold sinkL
            rw [ltD_iff]
            simp
          rw [hsx] at hs
          clear hsx tT
          have hsw : swapL L j = (L.set (j + 1) (L.getD j 0)).set j (L.getD (j + 1) 0) := rfl
          have hswl := swapL_len L j
          have hswm := swapL_mem hLm (show j + 1 < L.length by omega)
          have J := Lib.hid (And.intro hs (And.intro hRj (And.intro hBj (And.intro hsw (And.intro hswl (And.intro hswm hLm))))))
          clear hs hRj hBj hsw hswl hswm hLm
          obtain ⟨x, hx0⟩ : ∃ x, L.getD (j + 1) 0 = x := ⟨_, rfl⟩
          obtain ⟨y, hy0⟩ : ∃ y, L.getD j 0 = y := ⟨_, rfl⟩
          rw [hx0] at hx cx dx J
          rw [hy0] at hy cy dy J
          obtain ⟨X, hX⟩ : ∃ X, dayOf ts x = X := ⟨_, rfl⟩
          obtain ⟨Y, hY⟩ : ∃ Y, dayOf ts y = Y := ⟨_, rfl⟩
          rw [hX] at dx J
          rw [hY] at dy J
          have u1 : IntKind.i64.wrap ((j : Int) + 1 - 1) = j := by rw [show (j : Int) + 1 - 1 = j by omega]; exact IntWalk.i64_in _ (by omega)
          have u2 : IntKind.i64.wrap (j : Int) = j := IntWalk.i64_in _ (by omega)
          have a1 : (0 : Int) ≤ (j : Int) + 1 := by omega
          have a2 : (j : Int) + 1 < (k + 1 : Nat) := by omega
          have a3 : (0 : Int) ≤ (j : Int) := by omega
          have a4 : (j : Int) < (k + 1 : Nat) := by omega
          have a5 : ((j : Int) + 1).toNat = j + 1 := by omega
          have a6 : (0 : Int) < (j : Int) + 1 := by omega
          have b1 : (0 : Int) ≤ (x : Int) := by omega
          have b2 : (x : Int) < tn := by omega
          have b3 : (0 : Int) ≤ (y : Int) := by omega
          have b4 : (y : Int) < tn := by omega
          clear hx0 hy0 hX hY
          by_cases hc : X < Y
          · go_wp2_with fail
            go_quiet (fail)
            go_wp2_with fail
            go_region
            go_wp2
            go_roundg j
            case measure => omega
            case rel =>
              obtain ⟨J1, J2, J3, J4, J5, J6, J7⟩ := J.out
              rw [if_pos hc] at J1
              refine ⟨j, swapL L j, rfl, rfl, by omega, by omega, J6, J1, ?_, ?_⟩
              · rw [J4]
                exact row1_set (row1_set (own_drewN J2 _) (j + 1) y (by omega)) j x (by omega)
              · exact Below.setCell (Below.setCell (below_drewN J3 _) (by simp; omega) _) (by simp; omega) _
          · go_wp2_with fail
            go_quiet (fail)
            go_wp2
            go_roundg (tn - (k + 1))
            case measure => omega
            case rel =>
              obtain ⟨J1, J2, J3, J4, J5, J6, J7⟩ := J.out
              rw [if_neg (by omega)] at J1
              refine ⟨k + 1, rfl, by push_cast; rfl, by omega, ?_, below_drewN J3 _⟩
              rw [← J1]
              exact own_drewN J2 _
    · obtain rfl : k = tn := by omega
      have h1 : ¬ (k : Int) < k := by omega
      rw [OL_all] at hR
      have S := Lib.hid (And.intro hR hB)
      clear hR hB
      go_wp2_with fail
      go_ret
      exact ⟨_, rfl, S.out.1, S.out.2⟩
end Go.Proofs.Ytanjkhclhcnnaaa

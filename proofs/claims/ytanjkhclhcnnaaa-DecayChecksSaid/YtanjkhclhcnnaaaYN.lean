/- The closures of lost; IndexFunc. -/
import Derived.Test.YtanjkhclhcnnaaaYM
namespace Go.Proofs.Ytanjkhclhcnnaaa
open Go.RowKit Go.Shelf

theorem lost2_any (a b lo : Int) (B : Nat) (w : World) (hc : w.cell? ⟨B, 7, none⟩ = some (.int .i64 lo)) :
    Calls Try.prog 97 #[.agg #[.int .i64 a, .int .i64 b], .pointer (some ⟨B, 0, none⟩)] w fun e w' => e = .returned (.bool (decide (lo ≤ b))) ∧ Below w.heap.size w w' := by
  have hB := World.block_lt_of_cell? w _ hc
  have hc2 : (w.alloc (.cells #[.int .i64 a, .int .i64 b] 28)).cell? ⟨B, 7, none⟩ = some (.int .i64 lo) := (alloc_old _ _ _ _ hB).trans hc
  go_enter Try.func97, Try.ntmps97
  go_wp2
  go_ret
  exact ⟨rfl, B_alloc (Below.refl _ _) _⟩
theorem lost3_any (a b lo : Int) (B : Nat) (w : World) (hc : w.cell? ⟨B, 7, none⟩ = some (.int .i64 lo)) :
    Calls Try.prog 98 #[.agg #[.int .i64 a, .int .i64 b], .pointer (some ⟨B, 0, none⟩)] w fun e w' => e = .returned (.bool (decide (lo ≤ a))) ∧ Below w.heap.size w w' := by
  have hB := World.block_lt_of_cell? w _ hc
  have hc2 : (w.alloc (.cells #[.int .i64 a, .int .i64 b] 28)).cell? ⟨B, 7, none⟩ = some (.int .i64 lo) := (alloc_old _ _ _ _ hB).trans hc
  go_enter Try.func98, Try.ntmps98
  go_wp2
  go_ret
  exact ⟨rfl, B_alloc (Below.refl _ _) _⟩

/-- The first index at which p holds, or -1. -/
def idxS (p : T2 → Bool) (L : List T2) : Int := if firstT (fun i => p (L.getD i (0, 0))) L.length 0 < L.length then (firstT (fun i => p (L.getD i (0, 0))) L.length 0 : Nat) else -1
theorem idxS_at {p : T2 → Bool} {L : List T2} {k : Nat} (h1 : ∀ i, i < k → p (L.getD i (0, 0)) = false) (h2 : p (L.getD k (0, 0)) = true) (h3 : k < L.length) : idxS p L = k := by
  have h := firstT_spec (p := fun i => p (L.getD i (0, 0))) (f := L.length) (k := 0)
  have e : firstT (fun i => p (L.getD i (0, 0))) L.length 0 = k := by
    obtain ⟨-, b, c, d⟩ := h
    rcases Nat.lt_trichotomy (firstT (fun i => p (L.getD i (0, 0))) L.length 0) k with h4 | h4 | h4
    · have h5 := d (by omega)
      have h6 := h1 _ h4
      rw [h6] at h5
      cases h5
    · exact h4
    · have h5 := c k (Nat.zero_le _) h4
      rw [h2] at h5
      cases h5
  unfold idxS
  rw [e, if_pos h3]
theorem idxS_none {p : T2 → Bool} {L : List T2} (h1 : ∀ i, i < L.length → p (L.getD i (0, 0)) = false) : idxS p L = -1 := by
  have h := firstT_spec (p := fun i => p (L.getD i (0, 0))) (f := L.length) (k := 0)
  unfold idxS
  rw [if_neg]
  intro h2
  have h3 := h.2.2.2 (by omega)
  have h4 := h1 _ h2
  rw [h4] at h3
  cases h3
theorem idxS_lt (p : T2 → Bool) (L : List T2) : idxS p L < L.length := by
  unfold idxS
  split
  · omega
  · omega
theorem idxS_ge (p : T2 → Bool) (L : List T2) : -1 ≤ idxS p L := by
  unfold idxS
  split
  · omega
  · omega

set_option maxHeartbeats 4000000 in
theorem indexFunc_any (f : Nat) (cap : Array Value) (p : T2 → Bool) (L : List T2) (a : Option Addr) (n c : Nat) (w : World) (hn : n ≤ 100000) (hs : Sl2 w a n L)
    (eg : ∀ args w, (callFunc f args).run Try.prog w = .ok (.enter f args) w)
    (hf : ∀ (x : T2) (W : World), Below w.heap.size w W → Calls Try.prog f (#[.agg #[.int .i64 x.1, .int .i64 x.2]] ++ cap) W fun e w' => e = .returned (.bool (p x)) ∧ Below W.heap.size W w') :
    Calls Try.prog 96 #[.slice a n c, .func (.func f) #[] cap] w fun e w' => e = .returned (.int .i64 (idxS p L)) ∧ Below w.heap.size w w' := by
  replace hf := Lib.hid hf
  replace hs := Lib.hid hs
  go_enter Try.func96, Try.ntmps96
  go_wp2
  go_loopg [5, 8] n (fun gk s5 i wr => ∃ k : Nat, gk = n - k ∧ k ≤ n ∧ i = .int .i64 (k : Int) ∧ (∀ j, j < k → p (L.getD j (0, 0)) = false) ∧ Below w.heap.size w wr)
  case atStart => exact ⟨0, rfl, Nat.zero_le _, rfl, fun j hj => absurd hj (Nat.not_lt_zero _), Below.refl _ _⟩
  case round =>
    obtain ⟨k, hgk, hk, rfl, hno, hb⟩ := hrel
    by_cases hlt : k < n
    · obtain ⟨b, o, hab, hbs, hc⟩ := (hs.out.below hb).at_ (by omega)
      obtain ⟨c0, c1⟩ := hc k hlt
      have hC := hf.out (L.getD k (0, 0)) wr hb
      have hkn : (k : Int) < n := by omega
      have hk0 : (0 : Int) ≤ k := by omega
      have hlen := hs.out.len
      cases hp : p (L.getD k (0, 0)) with
      | false =>
        rw [hp] at hC
        have hno2 : Hid (∀ j, j < k + 1 → p (L.getD j (0, 0)) = false) := fun j hj => by
          by_cases e : j = k
          · subst e; exact hp
          · exact hno j (by omega)
        generalize L.getD k (0, 0) = x at c0 c1 hC
        replace hC := Lib.hid hC
        replace hb := Lib.hid hb
        clear hc hno hp
        rw [hab]
        go_wp2_with fail
        refine hC.out.mono ?_
        rintro e w1 ⟨rfl, hb1⟩
        go_wp2
        rw [← hab]
        go_roundg (n - (k + 1))
        case measure => omega
        case rel => exact ⟨k + 1, rfl, hlt, by push_cast; rfl, hno2.out, B_trans hb.out hb1⟩
      | true =>
        rw [hp] at hC
        have hres := idxS_at hno hp (by rw [hlen]; exact hlt)
        generalize L.getD k (0, 0) = x at c0 c1 hC
        replace hC := Lib.hid hC
        replace hb := Lib.hid hb
        replace hres := Lib.hid hres
        clear hc hno hp
        rw [hab]
        go_wp2_with fail
        refine hC.out.mono ?_
        rintro e w1 ⟨rfl, hb1⟩
        go_wp2
        go_ret
        exact ⟨by rw [hres.out]; rfl, B_trans hb.out hb1⟩
    · obtain rfl : k = n := by omega
      have hlen := hs.out.len
      have hres := Lib.hid (idxS_none (p := p) (L := L) (by rw [hlen]; exact hno))
      have hkn : ¬ (k : Int) < k := by omega
      replace hb := Lib.hid hb
      clear hno
      go_wp2
      go_ret
      exact ⟨by rw [hres.out]; rfl, hb.out⟩

def lostS (p : T2 → Bool) (first : Int) (L : List T2) : Int := if 0 ≤ idxS p L then first + idxS p L else -1

set_option maxHeartbeats 4000000 in
theorem lost1_any (f : Nat) (cap : Array Value) (p : T2 → Bool) (L : List T2) (a : Option Addr) (n c B Lv : Nat) (first : Int) (w : World) (hn : n ≤ 100000) (h0 : 0 ≤ first) (h1 : first ≤ 1000000) (hs : Sl2 w a n L)
    (hL : w.cell? ⟨Lv, 0, none⟩ = some (.slice a n c)) (hB : w.cell? ⟨B, 8, none⟩ = some (.int .i64 first))
    (eg : ∀ args w, (callFunc f args).run Try.prog w = .ok (.enter f args) w)
    (hf : ∀ (x : T2) (W : World), Below w.heap.size w W → Calls Try.prog f (#[.agg #[.int .i64 x.1, .int .i64 x.2]] ++ cap) W fun e w' => e = .returned (.bool (p x)) ∧ Below W.heap.size W w') :
    Calls Try.prog 95 #[.func (.func f) #[] cap, .pointer (some ⟨Lv, 0, none⟩), .pointer (some ⟨B, 0, none⟩)] w fun e w' => e = .returned (.int .i64 (lostS p first L)) ∧ Below w.heap.size w w' := by
  have H1 := Lib.hid (indexFunc_any f cap p L a n c w hn hs eg hf)
  have hlt := World.block_lt_of_cell? w _ hB
  have hge := idxS_ge p L
  have hup := idxS_lt p L
  have hlen := hs.len
  clear hf hs
  unfold lostS
  generalize idxS p L = q at H1 hge hup ⊢
  by_cases hq : 0 ≤ q
  · rw [if_pos hq]
    go_enter Try.func95, Try.ntmps95
    go_wp2_with fail
    refine H1.out.mono ?_
    rintro e w1 ⟨rfl, hb1⟩
    have hB1 := (hb1.cell (p := ⟨B, 8, none⟩) hlt).trans hB
    go_wp2
    go_ret
    exact ⟨rfl, hb1⟩
  · rw [if_neg hq]
    go_enter Try.func95, Try.ntmps95
    go_wp2_with fail
    refine H1.out.mono ?_
    rintro e w1 ⟨rfl, hb1⟩
    go_wp2
    go_ret
    exact ⟨rfl, hb1⟩
end Go.Proofs.Ytanjkhclhcnnaaa

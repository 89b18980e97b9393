/- The walks of film's years: the closures, and slices.ContainsFunc. -/
import Derived.Test.YtgjpbffoalldkaaGreatDoorWE
namespace Go.Proofs.YtgjpbffoalldkaaGreatDoor
open Go.RowKit

/-- Can a roll with this code have been made in a year? -/
def fitsC (c x : Int) : Bool := (x - 1916 - c).tmod 20 == 0

theorem fits_any (B : Nat) (c x : Int) (w : World) (hc : w.cell? ⟨B, 1, none⟩ = some (.int .i64 c)) (c0 : 0 ≤ c) (c1 : c ≤ 100) (x0 : 0 ≤ x) (x1 : x ≤ 3000) :
    Calls Tryz.prog 88 #[.int .i64 x, .pointer (some ⟨B, 0, none⟩)] w fun e w' => e = .returned (.bool (fitsC c x)) ∧ Below w.heap.size w w' := by
  go_enter Tryz.func88, Tryz.ntmps88
  go_wp2
  go_ret
  exact ⟨rfl, Below.refl _ _⟩

theorem near_any (Y B : Nat) (y k m : Int) (w : World) (hy : w.cell? ⟨Y, 0, none⟩ = some (.int .i64 y)) (hk : w.cell? ⟨B, 6, none⟩ = some (.int .i64 k)) (k0 : 0 ≤ k) (k1 : k ≤ 50) (y0 : 0 ≤ y) (y1 : y ≤ 3000) :
    Calls Tryz.prog 67 #[.int .i64 m, .pointer (some ⟨Y, 0, none⟩), .pointer (some ⟨B, 0, none⟩)] w fun e w' => e = .returned (.bool (inB m (y - k) y)) ∧ Below w.heap.size w w' := by
  go_enter Tryz.func67, Tryz.ntmps67
  go_wp2_with (go_at_call 57; refine (within_any _ _ _ _).mono ?_; rintro e w1 ⟨rfl, rfl⟩)
  go_ret
  exact ⟨rfl, Below.refl _ _⟩

/-- A slice of integers. -/
structure Ints (w : World) (a : Option Addr) (n : Nat) (zs : List Int) : Prop where
  len : zs.length = n
  at_ : 0 < n → ∃ b o, a = some ⟨b, o, none⟩ ∧ b < w.heap.size ∧ ∀ i, i < n → w.cell? ⟨b, o + i, none⟩ = some (.int .i64 (zs.getD i 0))
theorem Ints.below {w w' : World} {a : Option Addr} {n : Nat} {ms : List Int} (h : Ints w a n ms) (hb : Below w.heap.size w w') : Ints w' a n ms :=
  ⟨h.len, fun hn => let ⟨b, o, e, hl, hc⟩ := h.at_ hn; ⟨b, o, e, Nat.lt_of_lt_of_le hl hb.size, fun i hi => (hb.cell (p := ⟨b, o + i, none⟩) hl).trans (hc i hi)⟩⟩

def IdxPost (P : Bool) (w : World) (e : Ending) (w' : World) : Prop := ∃ k : Int, e = .returned (.int .i64 k) ∧ decide (0 ≤ k) = P ∧ Below w.heap.size w w'

theorem any_none {zs : List Int} {p : Int → Bool} (h : ∀ i, i < zs.length → p (zs.getD i 0) = false) : zs.any p = false := by
  rw [List.any_eq_false]
  intro x hx
  obtain ⟨j, hj, rfl⟩ := List.getElem_of_mem hx
  have := h j hj
  rw [List.getD_eq_getElem?_getD, List.getElem?_eq_getElem hj] at this
  simpa using this
theorem any_some {zs : List Int} {p : Int → Bool} {i : Nat} (hi : i < zs.length) (h : p (zs.getD i 0) = true) : zs.any p = true := by
  rw [List.any_eq_true]
  refine ⟨zs[i], List.getElem_mem hi, ?_⟩
  rw [List.getD_eq_getElem?_getD, List.getElem?_eq_getElem hi] at h
  simpa using h

set_option maxRecDepth 100000 in
theorem indexFunc_any (fn : FuncId) (cap : Array Value) (p : Int → Bool) (a : Option Addr) (n c : Nat) (zs : List Int) (w : World) (hn : n ≤ 100000) (hz : Ints w a n zs)
    (hent : ∀ args w, (callFunc fn args).run Tryz.prog w = .ok (.enter fn args) w)
    (hp : ∀ (i : Nat) (W : World), i < n → Below w.heap.size w W → Calls Tryz.prog fn (#[.int .i64 (zs.getD i 0)] ++ cap) W fun e w' => e = .returned (.bool (p (zs.getD i 0))) ∧ Below W.heap.size W w') :
    Calls Tryz.prog 89 #[.slice a n c, .func (.func fn) #[] cap] w (IdxPost (zs.any p) w) := by
  have HP := Lib.hid hp
  have Hz := Lib.hid hz
  clear hp
  go_enter Tryz.func89, Tryz.ntmps89
  go_wp2
  go_loopw [5, 8] (fun x i wr => ∃ k : Nat, k ≤ n ∧ i = .int .i64 k ∧ Below w.heap.size w wr ∧ Hid (∀ j, j < k → p (zs.getD j 0) = false)) (fun _ i _ => n - (intOf i).toNat)
  case atStart => exact ⟨0, Nat.zero_le _, rfl, Below.refl _ _, fun j h => by omega⟩
  case round =>
    obtain ⟨k, hk, rfl, hb, hall⟩ := hrel
    by_cases hlt : k < n
    · obtain ⟨b, o, hab, hbs, hcells⟩ := Hz.out.at_ (by omega)
      have hc := (hb.cell (p := ⟨b, o + k, none⟩) hbs).trans (hcells k hlt)
      have HC := Lib.hid (HP.out k wr hlt hb)
      have hzl : k < zs.length := by rw [Hz.out.len]; exact hlt
      have hlz := Lib.hid (fun h => any_some (p := p) hzl h)
      clear hcells
      cases hpx : p (zs.getD k 0)
      · have hs1 : Hid (∀ j, j < k + 1 → p (zs.getD j 0) = false) := fun j h => by
          by_cases e : j = k
          · rw [e]; exact hpx
          · exact hall.out j (by omega)
        rw [hpx] at HC
        clear hpx hlz hzl
        generalize zs.getD k 0 = z at hc HC
        go_wp2_with fail
        refine HC.out.mono ?_
        rintro e w1 ⟨rfl, hb1⟩
        go_wp2
        rw [← hab]
        clear hab
        go_roundw
        case rel => exact ⟨k + 1, by omega, by go_num, B_trans hb hb1, hs1⟩
        case measure => simp [intOf]; omega
      · have hv := Lib.hid (hlz.out hpx)
        rw [hpx] at HC
        clear hpx hlz hzl
        generalize zs.getD k 0 = z at hc HC
        go_wp2_with fail
        refine HC.out.mono ?_
        rintro e w1 ⟨rfl, hb1⟩
        go_wp2
        go_ret
        exact ⟨k, rfl, by rw [hv.out]; simp, B_trans hb hb1⟩
    · have hv := Lib.hid (any_none (p := p) (zs := zs) (fun i hi => hall.out i (by rw [Hz.out.len] at hi; omega)))
      go_wp2
      go_ret
      exact ⟨-1, rfl, by rw [hv.out]; decide, hb⟩
end Go.Proofs.YtgjpbffoalldkaaGreatDoor

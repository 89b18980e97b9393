/- Small functions of the law: span, part, has, struckIs. -/
import Derived.Test.YtanjkhclhcnnaaaDH
namespace Go.Proofs.Ytanjkhclhcnnaaa
open Go.RowKit Go.Shelf

set_option maxRecDepth 100000 in
theorem lawSpan_any (a b : Int) (w : World) : Calls Try.prog 38 #[.int .i64 a, .int .i64 b] w fun e w' => e = .returned (.agg #[.int .i64 a, .int .i64 b]) ∧ Below w.heap.size w w' := by
  go_enter Try.func38, Try.ntmps38
  go_wp2
  refine bodyPost_ret (v := .agg #[.int .i64 a, .int .i64 b]) (by simp [results, Try.results38, go_sem]) rfl ⟨rfl, ?_⟩
  exact B_alloc (Below.refl _ _) _
/-- So many 255ths of a span on. -/
def partS (p : T2) (n : Int) : Int := p.1 + (p.2 - p.1) * n / 255
theorem part_mul {p : T2} {n : Int} (hp : CanOK p) (hn : 0 ≤ n ∧ n ≤ 255) : 0 ≤ (p.2 - p.1) * n ∧ (p.2 - p.1) * n ≤ 255000000 ∧ (p.2 - p.1) * n ≤ (p.2 - p.1) * 255 := by
  have h1 := hp.a.1
  have h2 := hp.b.2
  have h3 := hp.le
  have h4 : 0 ≤ (p.2 - p.1) * n := Int.mul_nonneg (by omega) hn.1
  have h5 : (p.2 - p.1) * n ≤ (p.2 - p.1) * 255 := Int.mul_le_mul_of_nonneg_left hn.2 (by omega)
  exact ⟨h4, by omega, h5⟩
theorem part_in {p : T2} {n : Int} (hp : CanOK p) (hn : 0 ≤ n ∧ n ≤ 255) : p.1 ≤ partS p n ∧ partS p n ≤ p.2 := by
  obtain ⟨h1, h2, h3⟩ := part_mul hp hn
  unfold partS
  omega
set_option maxRecDepth 100000 in
set_option maxHeartbeats 4000000 in
theorem part_any (p : T2) (n : Int) (w : World) (hp : CanOK p) (hn : 0 ≤ n ∧ n ≤ 255) : Calls Try.prog 44 #[.agg #[.int .i64 p.1, .int .i64 p.2], .int .u8 n] w fun e w' => e = .returned (.int .i64 (partS p n)) ∧ Below w.heap.size w w' := by
  obtain ⟨h1, h2, h3⟩ := part_mul hp hn
  have a1 := hp.a.1
  have a2 := hp.a.2
  have a3 := hp.b.1
  have a4 := hp.b.2
  have a5 := hp.le
  obtain ⟨b1, b2⟩ := hn
  obtain ⟨x, y⟩ := p
  simp only at h1 h2 h3 a1 a2 a3 a4 a5
  have HP : Hid (partS (x, y) n = x + (y - x) * n / 255) := rfl
  have u1 : IntKind.i64.wrap n = n := IntWalk.i64_in _ (by omega)
  have u2 : IntKind.i64.wrap ((y - x) * n) = (y - x) * n := IntWalk.i64_in _ (by omega)
  clear hp
  go_enter Try.func44, Try.ntmps44
  go_wp2
  refine bodyPost_ret (v := .int .i64 (x + (y - x) * n / 255)) (by simp [results, Try.results44, go_sem]) rfl ⟨by rw [HP.out], B_alloc (Below.refl _ _) _⟩
set_option maxRecDepth 100000 in
set_option maxHeartbeats 4000000 in
theorem has_any (p : T2) (n : Int) (w : World) : Calls Try.prog 43 #[.agg #[.int .i64 p.1, .int .i64 p.2], .int .i64 n] w fun e w' => e = .returned (.bool (inB n p.1 p.2)) ∧ Below w.heap.size w w' := by
  obtain ⟨x, y⟩ := p
  by_cases h1 : x ≤ n
  · by_cases h2 : n ≤ y
    · have HB : Hid (inB n x y = true) := by rw [Hid, inB_iff]; exact ⟨h1, h2⟩
      go_enter Try.func43, Try.ntmps43
      go_wp2
      refine bodyPost_ret (v := .bool true) (by simp [results, Try.results43, go_sem]) rfl ⟨by rw [HB.out], B_alloc (Below.refl _ _) _⟩
    · have HB : Hid (inB n x y = false) := by rw [Hid, inB_no]; omega
      go_enter Try.func43, Try.ntmps43
      go_wp2
      refine bodyPost_ret (v := .bool false) (by simp [results, Try.results43, go_sem]) rfl ⟨by rw [HB.out], B_alloc (Below.refl _ _) _⟩
  · have HB : Hid (inB n x y = false) := by rw [Hid, inB_no]; omega
    go_enter Try.func43, Try.ntmps43
    go_wp2
    refine bodyPost_ret (v := .bool false) (by simp [results, Try.results43, go_sem]) rfl ⟨by rw [HB.out], B_alloc (Below.refl _ _) _⟩
/-- Is a test among the strikes? -/
def strkB (S : List T2) (x : Int) : Bool := S.any fun p => p.1 == x
theorem strkB_at {S : List T2} {x : Int} {k : Nat} (hk : k < S.length) (h : (S.getD k (0, 0)).1 = x) : strkB S x = true := by
  unfold strkB
  rw [List.any_eq_true]
  exact ⟨S.getD k (0, 0), by simp [List.getD, hk], by simpa using h⟩
theorem strkB_no {S : List T2} {x : Int} (h : ∀ k, k < S.length → (S.getD k (0, 0)).1 ≠ x) : strkB S x = false := by
  unfold strkB
  rw [List.any_eq_false]
  intro p hp
  obtain ⟨k, hk, rfl⟩ := List.mem_iff_getElem.1 hp
  have := h k hk
  simpa [List.getD, hk] using this
set_option maxRecDepth 100000 in
set_option maxHeartbeats 4000000 in
theorem struckIs_any (S : List T2) (a : Option Addr) (n c : Nat) (x : Int) (w : World) (hA : Sl2 w a n S) (hn : n ≤ 100000) :
    Calls Try.prog 41 #[.slice a n c, .int .i64 x] w fun e w' => e = .returned (.bool (strkB S x)) ∧ w = w' := by
  have hla := hA.len
  replace hA := Lib.hid hA
  go_enter Try.func41, Try.ntmps41
  go_wp2
  go_loopg [5] n (fun gk i wr => ∃ k : Nat, gk = n - k ∧ k ≤ n ∧ i = .int .i64 (k : Int) ∧ (∀ j, j < k → (S.getD j (0, 0)).1 ≠ x) ∧ wr = w)
  case atStart => exact ⟨0, rfl, Nat.zero_le _, rfl, fun j hj => absurd hj (Nat.not_lt_zero _), rfl⟩
  case round =>
    obtain ⟨k, hgk, hk, rfl, hs, rfl⟩ := hrel
    by_cases hlt : k < n
    · obtain ⟨b1, o1, rfl, hb1, hc1⟩ := hA.out.at_ (by omega)
      obtain ⟨x0, x1⟩ := hc1 k hlt
      have hkn : (k : Int) < n := by omega
      have hk0 : (0 : Int) ≤ k := by omega
      have hs' := Lib.hid hs
      by_cases e : (S.getD k (0, 0)).1 = x
      · have HB : Hid (strkB S x = true) := strkB_at (by omega) e
        rw [e] at x0
        clear hc1 hs e
        go_wp2
        refine bodyPost_ret (v := .bool true) (by simp [results, Try.results41, go_sem]) rfl ⟨by rw [HB.out], rfl⟩
      · have hs2 : Hid (∀ j, j < k + 1 → (S.getD j (0, 0)).1 ≠ x) := fun j hj => by
          by_cases e2 : j = k
          · subst e2; exact e
          · exact hs'.out j (by omega)
        generalize (S.getD k (0, 0)).1 = y at x0 e
        have hd : (y == x) = false := by simpa using e
        clear hc1 hs e
        go_wp2
        go_roundg (n - (k + 1))
        case measure => omega
        case rel => exact ⟨k + 1, rfl, hlt, by push_cast; rfl, hs2.out, rfl⟩
    · have HB : Hid (strkB S x = false) := strkB_no fun j hj => hs j (by omega)
      obtain rfl : k = n := by omega
      have hkn : ¬ (k : Int) < k := by omega
      clear hs
      go_wp2
      refine bodyPost_ret (v := .bool false) (by simp [results, Try.results41, go_sem]) rfl ⟨by rw [HB.out], rfl⟩
end Go.Proofs.Ytanjkhclhcnnaaa

/- slices.Repeat of one day; rows of days. -/
import Derived.Test.YtanjkhclhcnnaaaJT
import Derived.Laws.OwnMore
import Derived.Laws.CopyOwn
namespace Go.Proofs.Ytanjkhclhcnnaaa
open Go Go.RowKit Go.Shelf

/-- Days as cells. -/
def flat4 (l : List T4) : List Value := l.flatMap fun x => [.int .i64 x.1, .int .i64 x.2.1, .int .i64 x.2.2.1, .int .i64 x.2.2.2]
theorem flat4_len : ∀ l : List T4, (flat4 l).length = l.length * 4
  | [] => rfl
  | x :: l => by have := flat4_len l; simp [flat4] at this ⊢; omega
theorem flat4_snoc (l : List T4) (x : T4) : flat4 (l ++ [x]) = flat4 l ++ [.int .i64 x.1, .int .i64 x.2.1, .int .i64 x.2.2.1, .int .i64 x.2.2.2] := by simp [flat4]
theorem flat4_at : ∀ (l : List T4) (i : Nat), i < l.length → (flat4 l)[i * 4]? = some (.int .i64 (l.getD i (0, 0, 0, 0)).1) ∧ (flat4 l)[i * 4 + 1]? = some (.int .i64 (l.getD i (0, 0, 0, 0)).2.1) ∧ (flat4 l)[i * 4 + 2]? = some (.int .i64 (l.getD i (0, 0, 0, 0)).2.2.1) ∧ (flat4 l)[i * 4 + 3]? = some (.int .i64 (l.getD i (0, 0, 0, 0)).2.2.2)
  | [], i, h => by cases h
  | x :: l, 0, _ => ⟨rfl, rfl, rfl, rfl⟩
  | x :: l, i + 1, h => by
    have e : flat4 (x :: l) = [.int .i64 x.1, .int .i64 x.2.1, .int .i64 x.2.2.1, .int .i64 x.2.2.2] ++ flat4 l := rfl
    have ih := flat4_at l i (by simpa using h)
    rw [e, show (i + 1) * 4 = 4 + i * 4 by omega, show 4 + i * 4 + 1 = 4 + (i * 4 + 1) by omega, show 4 + i * 4 + 2 = 4 + (i * 4 + 2) by omega, show 4 + i * 4 + 3 = 4 + (i * 4 + 3) by omega]
    rw [List.getElem?_append_right (by simp), List.getElem?_append_right (by simp), List.getElem?_append_right (by simp), List.getElem?_append_right (by simp)]
    simpa using ih
theorem sl4_row {W : World} {B : Nat} {t : TypeId} {v : Value} {L : List T4} {n : Nat} (h : W.ownsRow B t 4 v n (flat4 L)) : ∃ a c, v = .slice a n c ∧ Sl4 W a n L := by
  have hn : n = L.length := by have := h.1; rw [flat4_len] at this; omega
  rcases h.2 with ⟨rfl, rfl⟩ | ⟨g, cap, cur, rfl, hb, hg, hc1, hc2, hs, ht⟩
  · exact ⟨none, 0, rfl, hn.symm, fun h => absurd h (Nat.lt_irrefl 0)⟩
  · refine ⟨_, cap, rfl, hn.symm, fun _ => ⟨g, 0, rfl, (Array.getElem?_eq_some_iff.1 hg).1, fun i hi => ?_⟩⟩
    obtain ⟨x0, x1, x2, x3⟩ := flat4_at L i (by omega)
    have key : ∀ j, j < n * 4 → W.cell? ⟨g, j, none⟩ = (flat4 L)[j]? := fun j hj => by
      rw [← ht, List.getElem?_take, if_pos hj]
      simp [World.cell?, hg]
    rw [show 0 + i * 4 = i * 4 by omega]
    exact ⟨(key _ (by omega)).trans x0, (key _ (by omega)).trans x1, (key _ (by omega)).trans x2, (key _ (by omega)).trans x3⟩
theorem row4_form {W : World} {B : Nat} {t : TypeId} {v : Value} {xs : List Value} {n : Nat} (h : W.ownsRow B t 4 v n xs) (hn : 0 < n) : ∃ q cap, v = .slice (some ⟨q, 0, none⟩) n cap := by
  rcases h.2 with ⟨-, h2⟩ | ⟨q, cap, cur, h1, -⟩
  · omega
  · exact ⟨q, cap, h1⟩
theorem infoDay : (Try.prog.info? 39).map (fun i => (i.zero, i.size, i.bytes)) = some (some (.agg #[.int .i64 0, .int .i64 0, .int .i64 0, .int .i64 0]), 4, 32) := by kernel_rfl
theorem joinedD {W : World} {base n : Nat} {v : Value} {xs : List Value} {g : Nat} {a b c d : Int} (hv : W.ownsRow base 39 4 v n xs) (hg : Ob W g 39 #[.int .i64 a, .int .i64 b, .int .i64 c, .int .i64 d]) (hn : n ≤ 100000) (hb : base ≤ W.heap.size) :
    ∃ v' w', (Builtin.append_ #[26, 26] 26 #[v, .slice (some ⟨g, 0, none⟩) 1 1]).run Try.prog W = .ok v' w' ∧ w'.ownsRow base 39 4 v' (n + 1) (xs ++ [.int .i64 a, .int .i64 b, .int .i64 c, .int .i64 d]) ∧ W.grownBy w' v.ownBlock := by
  obtain ⟨i0, hi, hz0, hs0, hy0⟩ := info_parts infoDay
  obtain ⟨v', w', h1, h2, h3, -⟩ := run_append_own (P := Try.prog) (w := W) base 26 26 39 i0 _ 4 32 Try.underlying26 hi hz0 hs0 hy0 rfl (by decide) v n xs hv ⟨g, 0, none⟩ 1 1 [.int .i64 a, .int .i64 b, .int .i64 c, .int .i64 d] rfl
    (fun j u h => by
      rw [show (⟨g, 0, none⟩ : Addr).add j = ⟨g, j, none⟩ by simp [Addr.add, eq_comm]]
      rw [hg.cell]; simpa using h) (by intro u hu; simp at hu; rcases hu with rfl | rfl | rfl | rfl <;> rfl) (by unfold maxLen; omega) (by omega) hb
  exact ⟨v', w', h1, h2, h3⟩

/-- So many days that are the same, as cells. -/
def sameD (d : T4) (b : Nat) : List Value := flat4 (List.replicate b d)
theorem sameD_len (d : T4) (b : Nat) : (sameD d b).length = b * 4 := by unfold sameD; rw [flat4_len, List.length_replicate]
theorem sameD_add (d : T4) (a b : Nat) : sameD d (a + b) = sameD d a ++ sameD d b := by
  unfold sameD flat4
  rw [← List.replicate_append_replicate, List.flatMap_append]
theorem sameD_one (d : T4) : ∀ b, ∀ u ∈ sameD d b, u.oneCell' = true
  | 0, u, h => by cases h
  | b + 1, u, h => by
    rw [show b + 1 = 1 + b by omega, sameD_add, List.mem_append] at h
    rcases h with h | h
    · simp [sameD, flat4] at h; rcases h with rfl | rfl | rfl | rfl <;> rfl
    · exact sameD_one d b u h
theorem sizeDay : (Try.prog.info? 39).map (·.size) = some 4 := by kernel_rfl
theorem copyD {W : World} {g b n m j c1 c2 : Nat} {a : Addr} {d : T4} {cur : Array Value} (hO : Ob W g 39 cur) (hsz : cur.size = b * 4) (htk : cur.toList.take (n * 4) = sameD d n) (hnb : n ≤ b) (hj : j = Nat.min m (b - n)) (hsrc : ∀ i v, (sameD d j)[i]? = some v → W.cell? (a.add i) = some v) :
    ∃ W', (Builtin.copy_ #[26, 26] 3 #[.slice (some ⟨g, n * 4, none⟩) (b - n) c1, .slice (some a) m c2]).run Try.prog W = .ok (.int .i64 (j : Int)) W' ∧ (∃ cur', Ob W' g 39 cur' ∧ cur'.size = b * 4 ∧ cur'.toList.take ((n + j) * 4) = sameD d (n + j)) ∧ ∀ w0 : World, Below w0.heap.size w0 W → w0.heap.size ≤ g → Below w0.heap.size w0 W' := by
  have hjb : j ≤ b - n := by rw [hj]; exact Nat.min_le_right _ _
  have hr := run_copy_rows (P := Try.prog) W 26 26 3 39 g (n * 4) (b - n) c1 a m c2 4 cur 39 (sameD d j) Try.underlying26 sizeDay hO (by rw [sameD_len, hj]) hsrc (by rw [sameD_len]; omega) (sameD_one d j)
  rw [← hj] at hr
  refine ⟨_, hr, ⟨_, setRow_heap W g _ _ _ _ hO, ?_, ?_⟩, fun w0 h hg => below_setRow h hg _⟩
  · have hl := sameD_len d j
    simp
    omega
  · have hl := sameD_len d j
    have h1 : (cur.toList.take (n * 4)).length = n * 4 := by rw [List.length_take, Array.length_toList]; omega
    rw [sameD_add, ← htk]
    simp only []
    rw [List.take_append_of_le_length (by rw [List.length_append, h1, hl]; omega), List.take_of_length_le (by rw [List.length_append, h1, hl]; omega)]
set_option maxRecDepth 100000 in
set_option maxHeartbeats 4000000 in
theorem repeat_any (d : T4) (p o xc b : Nat) (w : World) (hb : 1 ≤ b ∧ b ≤ 400) (hp : p < w.heap.size) (hx : w.cell? ⟨p, o, none⟩ = some (.int .i64 d.1) ∧ w.cell? ⟨p, o + 1, none⟩ = some (.int .i64 d.2.1) ∧ w.cell? ⟨p, o + 2, none⟩ = some (.int .i64 d.2.2.1) ∧ w.cell? ⟨p, o + 3, none⟩ = some (.int .i64 d.2.2.2)) :
    Calls Try.prog 75 #[.slice (some ⟨p, o, none⟩) 1 xc, .int .i64 (b : Int)] w fun e w' => ∃ g, e = .returned (.slice (some ⟨g, 0, none⟩) b b) ∧ w.heap.size ≤ g ∧ Ob w' g 39 (sameD d b).toArray ∧ Below w.heap.size w w' := by
  have HM := Lib.hid (fun W' => mul_one b W' hb.2)
  obtain ⟨b1, b2⟩ := hb
  have u1 : IntKind.u64.wrap (b : Int) = (b : Int) := IntWalk.u64_in _ (by omega)
  have u2 : IntKind.i64.wrap (b : Int) = (b : Int) := IntWalk.i64_in _ (by omega)
  have e1 : ¬ (b : Int) < 0 := by omega
  have e2 : ¬ (9223372036854775807 : Int) < (b : Int) := by omega
  go_enter Try.func75, Try.ntmps75
  go_wp2_with fail
  refine (HM.out _).mono ?_
  rintro e w1 ⟨rfl, hb1⟩
  obtain ⟨i0, hi, hz0, hs0, hy0⟩ := info_parts infoDay
  have hms := run_makeSlice (P := Try.prog) w1 26 39 i0 _ Try.underlying26 hi hz0 .i64 .i64 (b : Int) (b : Int) (by omega) (Int.le_refl _) (by rw [hs0]; omega) (by rw [hy0]; omega) (by omega)
  rw [hs0] at hms
  simp only [Int.toNat_natCast] at hms
  obtain ⟨C, hC⟩ : ∃ C, madeCells (Value.agg #[.int .i64 0, .int .i64 0, .int .i64 0, .int .i64 0]).cells (b * 4) = C := ⟨_, rfl⟩
  have hCs : C.size = b * 4 := by rw [← hC]; exact size_madeCells _ _
  rw [hC] at hms
  clear hC
  have hbA : Below w1.heap.size w1 (w1.alloc (.cells C 39)) := B_alloc (Below.refl _ _) _
  obtain ⟨x0, x1, x2, x3⟩ := hx
  have hcl : ∀ i v, (sameD d 1)[i]? = some v → (w1.alloc (.cells C 39)).cell? ((⟨p, o, none⟩ : Addr).add i) = some v := fun i v h => by
    have hB := B_trans hb1 hbA
    rw [show (⟨p, o, none⟩ : Addr).add i = ⟨p, o + i, none⟩ by simp [Addr.add], hB.cell (p := ⟨p, _, none⟩) hp]
    have e : sameD d 1 = [.int .i64 d.1, .int .i64 d.2.1, .int .i64 d.2.2.1, .int .i64 d.2.2.2] := by simp [sameD, flat4]
    rw [e] at h
    match i, h with
    | 0, h => simp at h; rw [← h]; exact x0
    | 1, h => simp at h; rw [← h]; exact x1
    | 2, h => simp at h; rw [← h]; exact x2
    | 3, h => simp at h; rw [← h]; exact x3
    | i + 4, h => simp at h
  obtain ⟨w3, hcp, hcu, hbl⟩ := copyD (b := b) (n := 0) (m := 1) (j := 1) (c1 := b) (c2 := xc) (a := ⟨p, o, none⟩) (d := d) (Ob.new w1 C 39) hCs (by simp [sameD, flat4]) (Nat.zero_le _) (by show 1 = min 1 (b - 0); omega) hcl
  rw [Nat.zero_mul, Nat.sub_zero, show ((1 : Nat) : Int) = 1 from rfl] at hcp
  rw [Nat.zero_add] at hcu
  have B3 := Lib.hid (hbl w (B_trans hb1 hbA) hb1.size)
  have hg1 := hb1.size
  have CU := Lib.hid hcu
  clear hbl hcu hcl hbA x0 x1 x2 x3 hb1 hi hz0 hs0 hy0 hCs
  go_wp2_with fail
  clear hms hcp
  go_loopg [8] (b - 1) (fun gk nv wr => ∃ n : Nat, gk = b - n ∧ nv = .int .i64 (n : Int) ∧ 1 ≤ n ∧ n ≤ b ∧ (∃ cur, Ob wr w1.heap.size 39 cur ∧ cur.size = b * 4 ∧ cur.toList.take (n * 4) = sameD d n) ∧ Below w.heap.size w wr)
  case atStart => exact ⟨1, rfl, rfl, Nat.le_refl _, b1, CU.out, B3.out⟩
  case round =>
    obtain ⟨n, rfl, rfl, hn1, hnb, ⟨cur, hO, hsz, htk⟩, hbr⟩ := hrel
    clear CU B3
    by_cases hlt : n < b
    · obtain ⟨j, hj⟩ : ∃ j, Nat.min n (b - n) = j := ⟨_, rfl⟩
      have hjn : j ≤ n := by rw [← hj]; exact Nat.min_le_left _ _
      have hj1 : 1 ≤ j := by rw [← hj]; show 1 ≤ min n (b - n); omega
      have hjb : j ≤ b - n := by rw [← hj]; exact Nat.min_le_right _ _
      have hcl : ∀ i v, (sameD d j)[i]? = some v → wr.drew.cell? ((⟨w1.heap.size, 0, none⟩ : Addr).add i) = some v := fun i v h => by
        have hij : i < j * 4 := by
          rcases Nat.lt_or_ge i (j * 4) with h1 | h1
          · exact h1
          · rw [List.getElem?_eq_none (by rw [sameD_len]; exact h1)] at h; cases h
        have h2 : (sameD d n)[i]? = some v := by
          rw [show n = j + (n - j) by omega, sameD_add, List.getElem?_append_left (by rw [sameD_len]; exact hij)]; exact h
        rw [← htk, List.getElem?_take_of_lt (by omega)] at h2
        rw [show (⟨w1.heap.size, 0, none⟩ : Addr).add i = ⟨w1.heap.size, i, none⟩ by simp [Addr.add, eq_comm], (hO.drew).cell]
        simpa using h2
      obtain ⟨w4, hcp, hcu, hbl⟩ := copyD (W := wr.drew) (b := b) (n := n) (m := n) (j := j) (c1 := b - n) (c2 := b) (a := ⟨w1.heap.size, 0, none⟩) (d := d) hO.drew hsz htk hnb hj.symm hcl
      have B4 := Lib.hid (hbl w hbr.drew hg1)
      have CU := Lib.hid hcu
      have u4 : IntKind.i64.wrap ((n : Int) + (j : Int)) = (n : Int) + (j : Int) := IntWalk.i64_in _ (by omega)
      have n0 : (0 : Int) ≤ n := by omega
      have n2 : (n : Int) ≤ b := by omega
      have n3 : ¬ b = n := by omega
      have n4 : (n : Int) < b := by omega
      clear hbl hcu hcl hO hsz htk hbr hj
      go_upto_region 9 with fail
      go_region
      all_goals go_wp2_with fail
      go_roundg (b - (n + j))
      case measure => omega
      case rel => exact ⟨n + j, rfl, by push_cast; rfl, by omega, by omega, CU.out, B4.out⟩
    · obtain rfl : n = b := by omega
      have n5 : ¬ (n : Int) < n := by omega
      have hC2 : cur = (sameD d n).toArray := by
        rw [← htk, List.take_of_length_le (by rw [Array.length_toList]; omega)]
      subst hC2
      have BR := Lib.hid hbr
      have OO := Lib.hid hO
      clear hbr hO hsz htk
      go_wp2
      refine bodyPost_ret (v := .slice (some ⟨w1.heap.size, 0, none⟩) n n) (by simp [results, Try.results75, go_sem]) rfl ⟨w1.heap.size, rfl, hg1, OO.out, BR.out⟩
end Go.Proofs.Ytanjkhclhcnnaaa

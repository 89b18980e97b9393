/- The walks of film's checks: each of some elements; marks, symbols and lengths; the whole; Check. -/
import Derived.Test.YtgjpbffoalldkaaGreatDoorWC
import Derived.Deep.Light
namespace Go.Proofs.YtgjpbffoalldkaaGreatDoor
open Go.RowKit

/-- The first of the elements from i on that has an error, and its error; n are left. -/
def firstE (E : Nat → Int) : Nat → Nat → Int × Int
  | 0, _ => (0, 0)
  | n + 1, i => if E i = 0 then firstE E n (i + 1) else (i, E i)
theorem firstE_none {E : Nat → Int} : ∀ (n i : Nat), (∀ j, i ≤ j → j < i + n → E j = 0) → firstE E n i = (0, 0)
  | 0, _, _ => rfl
  | n + 1, i, h => by
    unfold firstE
    rw [if_pos (h i (Nat.le_refl _) (by omega))]
    exact firstE_none n (i + 1) fun j h1 h2 => h j (by omega) (by omega)
theorem firstE_some {E : Nat → Int} : ∀ (n i k : Nat), i ≤ k → k < i + n → (∀ j, i ≤ j → j < k → E j = 0) → E k ≠ 0 → firstE E n i = ((k : Int), E k)
  | 0, i, k, h1, h2, _, _ => by omega
  | n + 1, i, k, h1, h2, h, hk => by
    unfold firstE
    by_cases e : i = k
    · subst e; rw [if_neg hk]
    · rw [if_pos (h i (Nat.le_refl _) (by omega))]
      exact firstE_some n (i + 1) k (by omega) (by omega) (fun j a b => h j (by omega) b) hk

/-- What a check of each of some elements returns. -/
def eachE (E : Nat → Int) (n most : Nat) : Int × Int := if most < n then (0, 3) else firstE E n 0
theorem pairV_of {p : Int × Int} {a b : Int} (h : p = (a, b)) : Ending.returned (.tuple #[.int .i64 a, .int .i64 b]) = .returned (.tuple #[.int .i64 p.1, .int .i64 p.2]) := by rw [h]

set_option maxRecDepth 100000 in
theorem checkEach_any (fn : FuncId) (cap : Array Value) (E : Nat → Int) (n most : Nat) (w : World) (_hn : n ≤ 140737488351232) (hm : most ≤ 100)
    (hent : ∀ args w, (callFunc fn args).run Tryz.prog w = .ok (.enter fn args) w)
    (hE : ∀ (i : Nat) (W : World), i < n → Below w.heap.size w W → Calls Tryz.prog fn (#[.int .i64 i] ++ cap) W fun e w' => e = .returned (.int .i64 (E i)) ∧ Below W.heap.size W w') :
    Calls Tryz.prog 81 #[.int .i64 n, .int .i64 most, .func (.func fn) #[] cap] w fun e w' => e = .returned (.tuple #[.int .i64 (eachE E n most).1, .int .i64 (eachE E n most).2]) ∧ Below w.heap.size w w' := by
  have HE := Lib.hid hE
  clear hE
  by_cases hbig : most < n
  · have hv := Lib.hid (pairV_of (p := eachE E n most) (a := 0) (b := 3) (by simp [eachE, hbig]))
    go_enter Tryz.func81, Tryz.ntmps81
    go_wp2
    go_ret2
    exact ⟨hv.out, Below.refl _ _⟩
  · have hv : Hid (eachE E n most = firstE E n 0) := by simp [eachE, hbig, Hid]
    go_enter Tryz.func81, Tryz.ntmps81
    go_wp2
    go_loopw [8, 9, 14] (fun x y i wr => ∃ k : Nat, k ≤ n ∧ i = .int .i64 k ∧ Below w.heap.size w wr ∧ Hid (∀ j, 0 ≤ j → j < k → E j = 0)) (fun _ _ i _ => n - (intOf i).toNat)
    case atStart => exact ⟨0, Nat.zero_le _, rfl, Below.refl _ _, fun j _ h => by omega⟩
    case round =>
      obtain ⟨k, hk, rfl, hb, hall⟩ := hrel
      by_cases hlt : k < n
      · have hc := HE.out k wr hlt hb
        by_cases hz : E k = 0
        · have hs1 : Hid (∀ j, 0 ≤ j → j < k + 1 → E j = 0) := fun j a b => by
            by_cases e : j = k
            · rw [e]; exact hz
            · exact hall.out j a (by omega)
          rw [hz] at hc
          have HC := Lib.hid hc
          clear hc hz
          go_wp2_with fail
          refine HC.out.mono ?_
          rintro e w1 ⟨rfl, hb1⟩
          go_wp2
          go_roundw
          case rel => exact ⟨k + 1, by omega, by go_num, B_trans hb hb1, hs1⟩
          case measure => simp [intOf]; omega
        · have hv2 := Lib.hid (pairV_of (hv.out.trans (firstE_some n 0 k (Nat.zero_le _) (by omega) (fun j a b => hall.out j a b) hz)))
          have hb0 : (E k != 0) = true := by simp [hz]
          have HC := Lib.hid hc
          clear hc hz
          generalize E k = x at HC hb0 hv2
          go_wp2_with fail
          refine HC.out.mono ?_
          rintro e w1 ⟨rfl, hb1⟩
          go_wp2
          go_ret2
          exact ⟨hv2.out, B_trans hb hb1⟩
      · have hv2 := Lib.hid (pairV_of (hv.out.trans (firstE_none n 0 (fun j a b => hall.out j a (by omega)))))
        go_wp2
        go_ret2
        exact ⟨hv2.out, hb⟩

theorem ent81 : ∀ args w, (callFunc 82 args).run Tryz.prog w = .ok (.enter 82 args) w := enters_of Tryz.func82 (by kernel_rfl) rfl
theorem ent82 : ∀ args w, (callFunc 83 args).run Tryz.prog w = .ok (.enter 83 args) w := enters_of Tryz.func83 (by kernel_rfl) rfl
theorem ent83 : ∀ args w, (callFunc 84 args).run Tryz.prog w = .ok (.enter 84 args) w := enters_of Tryz.func84 (by kernel_rfl) rfl

/-- The cells of a box just laid. -/
theorem box_cell (w : World) (r : RA) (j : Nat) (v : Value) (h : r.cs[j]? = some v) : (w.alloc (.cells r.cs 30)).cell? ⟨w.heap.size, j, none⟩ = some v := by
  rw [World.cell?_alloc_at _ _ _ _ rfl]; exact h

theorem checkSymbols_any (r : RA) (ms : List T3) (ss : List T2) (ls : List T3) (w : World) (hR : Reads w r ms ss ls) :
    Calls Tryz.prog 53 #[.agg r.cs] w fun e w' => e = .returned (.tuple #[.int .i64 (eachE (symE ss) r.sn 20).1, .int .i64 (eachE (symE ss) r.sn 20).2]) ∧ Below w.heap.size w w' := by
  have hbl : Below w.heap.size w (w.alloc (.cells r.cs 30)) := B_alloc (Below.refl _ _) _
  have hc8 := box_cell w r 8 _ rfl
  have hc3 := box_cell w r 3 _ rfl
  have hc := checkEach_any 83 #[.pointer (some ⟨w.heap.size, 0, none⟩)] (symE ss) r.sn 20 (w.alloc (.cells r.cs 30)) hR.sn (by decide) ent82
    (fun i W hi hW => symE_any w.heap.size r.sa r.sn r.sc ss i W hi hR.sn (by have := hW.size; simp at this; omega) ((hW.cell (p := ⟨w.heap.size, 8, none⟩) (by simp)).trans hc8) ((hR.s.below hbl).below hW))
  generalize eachE (symE ss) r.sn 20 = p at hc ⊢
  have HC := Lib.hid hc
  clear hc hc8 hc3
  go_enter Tryz.func53, Tryz.ntmps53
  go_wp2_with (go_at_call 81; refine HC.out.mono ?_; rintro e w1 ⟨rfl, hb⟩)
  go_ret2
  exact ⟨rfl, B_trans hbl hb⟩

theorem checkLengths_any (r : RA) (ms : List T3) (ss : List T2) (ls : List T3) (w : World) (hR : Reads w r ms ss ls) :
    Calls Tryz.prog 54 #[.agg r.cs] w fun e w' => e = .returned (.tuple #[.int .i64 (eachE (lenE r.f ls) r.ln 20).1, .int .i64 (eachE (lenE r.f ls) r.ln 20).2]) ∧ Below w.heap.size w w' := by
  have hbl : Below w.heap.size w (w.alloc (.cells r.cs 30)) := B_alloc (Below.refl _ _) _
  have hc8 := box_cell w r 9 _ rfl
  have hc3 := box_cell w r 3 _ rfl
  have hc := checkEach_any 84 #[.pointer (some ⟨w.heap.size, 0, none⟩)] (lenE r.f ls) r.ln 20 (w.alloc (.cells r.cs 30)) hR.ln (by decide) ent83
    (fun i W hi hW => lenE_any w.heap.size r.la r.ln r.lc ls r.f i W hi hR.ln (by have := hW.size; simp at this; omega) ((hW.cell (p := ⟨w.heap.size, 3, none⟩) (by simp)).trans hc3) ((hW.cell (p := ⟨w.heap.size, 9, none⟩) (by simp)).trans hc8) ((hR.l.below hbl).below hW))
  generalize eachE (lenE r.f ls) r.ln 20 = p at hc ⊢
  have HC := Lib.hid hc
  clear hc hc8 hc3
  go_enter Tryz.func54, Tryz.ntmps54
  go_wp2_with (go_at_call 81; refine HC.out.mono ?_; rintro e w1 ⟨rfl, hb⟩)
  go_ret2
  exact ⟨rfl, B_trans hbl hb⟩

theorem checkMarks_any (r : RA) (ms : List T3) (ss : List T2) (ls : List T3) (w : World) (hR : Reads w r ms ss ls) (hf1 : 1 ≤ r.f) (hf2 : r.f ≤ 200000) :
    Calls Tryz.prog 52 #[.agg r.cs] w fun e w' => e = .returned (.tuple #[.int .i64 (eachE (markE r.f ms) r.mn 60).1, .int .i64 (eachE (markE r.f ms) r.mn 60).2]) ∧ Below w.heap.size w w' := by
  have hbl : Below w.heap.size w (w.alloc (.cells r.cs 30)) := B_alloc (Below.refl _ _) _
  have hc8 := box_cell w r 7 _ rfl
  have hc3 := box_cell w r 3 _ rfl
  have hc := checkEach_any 82 #[.pointer (some ⟨w.heap.size, 0, none⟩)] (markE r.f ms) r.mn 60 (w.alloc (.cells r.cs 30)) hR.mn (by decide) ent81
    (fun i W hi hW => markE_any w.heap.size r.ma r.mn r.mc ms r.f i W hi hR.mn (by have := hW.size; simp at this; omega) hf1 hf2 ((hW.cell (p := ⟨w.heap.size, 3, none⟩) (by simp)).trans hc3) ((hW.cell (p := ⟨w.heap.size, 7, none⟩) (by simp)).trans hc8) ((hR.m.below hbl).below hW))
  generalize eachE (markE r.f ms) r.mn 60 = p at hc ⊢
  have HC := Lib.hid hc
  clear hc hc8 hc3
  go_enter Tryz.func52, Tryz.ntmps52
  go_wp2_with (go_at_call 81; refine HC.out.mono ?_; rintro e w1 ⟨rfl, hb⟩)
  go_ret2
  exact ⟨rfl, B_trans hbl hb⟩

/-- Is it a gauge? -/
def gaugeB (g : Int) : Bool := g == 35 || g == 16 || g == 8
theorem gaugeB_yes {g f m : Int} (h : Gauge g f m) : gaugeB g = true := by
  rcases h with ⟨rfl, -, -⟩ | ⟨rfl, -, -⟩ | ⟨rfl, -, -⟩ <;> rfl
theorem gaugeB_no {g : Int} (h1 : (g == 35) = false) (h2 : (g == 16) = false) (h3 : (g == 8) = false) : gaugeB g = false := by simp [gaugeB, h1, h2, h3]
/-- The error of the reel itself. -/
def wholeE (r : RA) : Int :=
  if nameB r.nm.data.toList then
    if gaugeB r.g && inB r.b 1 3 then
      if inB r.f 1 200000 && inB r.k 0 50 && inB r.lo 1890 2100 && inB r.hi 1890 2100 then
        if r.hi < r.lo then 2 else 0
      else 7
    else 2
  else 6

def footI (g : Int) : Int := if g = 35 then 16 else if g = 16 then 40 else if g = 8 then 80 else 0
def microI (g : Int) : Int := if g = 35 then 19000 else if g = 16 then 7620 else if g = 8 then 3810 else 0
theorem Gauge.foot {g f m : Int} (h : Gauge g f m) : footI g = f ∧ microI g = m := by
  rcases h with ⟨rfl, rfl, rfl⟩ | ⟨rfl, rfl, rfl⟩ | ⟨rfl, rfl, rfl⟩ <;> exact ⟨rfl, rfl⟩
theorem stockOf_any (g : Int) (w : World) (G : Glob w) :
    Calls Tryz.prog 56 #[.int .i64 g] w fun e w' => e = .returned (.tuple #[.agg #[.int .i64 (footI g), .int .i64 (microI g)], .bool (gaugeB g)]) ∧ Below w.heap.size w w' := by
  rcases gauge_or g with ⟨f, m, hg⟩ | ⟨h1, h2, h3⟩
  · rw [hg.foot.1, hg.foot.2, gaugeB_yes hg]; exact stockOf_yes g f m w G hg
  · have e1 : footI g = 0 := by simp at h1 h2 h3; simp [footI, h1, h2, h3]
    have e2 : microI g = 0 := by simp at h1 h2 h3; simp [microI, h1, h2, h3]
    rw [e1, e2, gaugeB_no h1 h2 h3]; exact stockOf_no g w h1 h2 h3

theorem checkWhole_any (r : RA) (w : World) (G : Glob w) (hnm : r.nm.size ≤ maxLen) :
    Calls Tryz.prog 51 #[.agg r.cs] w fun e w' => e = .returned (.int .i64 (wholeE r)) ∧ Below w.heap.size w w' := by
  have HV : Hid (wholeE r = if nameB r.nm.data.toList then (if gaugeB r.g && inB r.b 1 3 then (if inB r.f 1 200000 && inB r.k 0 50 && inB r.lo 1890 2100 && inB r.hi 1890 2100 then (if r.hi < r.lo then 2 else 0) else 7) else 2) else 6) := rfl
  generalize wholeE r = E at HV ⊢
  have Hst := Lib.hid (stockOf_any r.g (w.alloc (.cells r.cs 30)) (G.alloc _))
  have Hnm := fun (W : World) (h : Glob W) => name_any r.nm W h hnm
  have HN := Lib.hid Hnm
  clear Hnm
  generalize gaugeB r.g = gb at HV Hst
  generalize footI r.g = fi at Hst
  generalize microI r.g = mi at Hst
  generalize nameB r.nm.data.toList = nb at HV HN
  cases nb
  all_goals
    go_enter Tryz.func51, Tryz.ntmps51
    go_wp2_with (first
      | (go_at_call 56; refine Hst.out.mono ?_; rintro e w1 ⟨rfl, hb1⟩; have G1 := Lib.hid ((G.alloc _).below (G.alloc _).hz hb1); obtain ⟨hc1, hf1⟩ := bcell hb1; have hz1 : w.heap.size < w1.heap.size := (by have := hb1.size; simp at this; omega); have hz2 : w.heap.size < w1.heap.size + 1 := (by omega))
      | (go_at_call 57; refine (within_any _ _ _ _).mono ?_; rintro e w1 ⟨rfl, rfl⟩)
      | (go_at_call 16; refine (HN.out _ (G1.out.alloc _)).mono ?_; rintro e w2 ⟨rfl, hb2⟩; obtain ⟨hc2, hf2⟩ := bcell hb2))
    all_goals go_ret
    all_goals refine ⟨ret_int ?_, B_trans (B_alloc (B_trans (B_alloc (Below.refl _ _) _) hb1) _) hb2⟩
    all_goals
      have hE := HV.out
      clear HV HN Hst G1 hc1 hf1 hc2 hf2 hb1 hb2 hz1 hz2 hnm G
      go_light
      rw [hE]
      clear hE
      simp_all

/-- What Check returns. -/
def checkS (r : RA) (ms : List T3) (ss : List T2) (ls : List T3) : Int × Int × Int :=
  if wholeE r ≠ 0 then (1, 0, wholeE r)
  else if (eachE (markE r.f ms) r.mn 60).2 ≠ 0 then (2, eachE (markE r.f ms) r.mn 60)
  else if (eachE (symE ss) r.sn 20).2 ≠ 0 then (3, eachE (symE ss) r.sn 20)
  else if (eachE (lenE r.f ls) r.ln 20).2 ≠ 0 then (4, eachE (lenE r.f ls) r.ln 20)
  else (0, 0, 0)
theorem wholeE_ok {r : RA} (h : wholeE r = 0) : nameB r.nm.data.toList = true ∧ gaugeB r.g = true ∧ (1 ≤ r.b ∧ r.b ≤ 3) ∧ (1 ≤ r.f ∧ r.f ≤ 200000) ∧ (0 ≤ r.k ∧ r.k ≤ 50) ∧ (1890 ≤ r.lo ∧ r.lo ≤ 2100) ∧ (1890 ≤ r.hi ∧ r.hi ≤ 2100) ∧ r.lo ≤ r.hi := by
  unfold wholeE at h
  by_cases a : nameB r.nm.data.toList = true
  · by_cases b : (gaugeB r.g && inB r.b 1 3) = true
    · by_cases c : (inB r.f 1 200000 && inB r.k 0 50 && inB r.lo 1890 2100 && inB r.hi 1890 2100) = true
      · by_cases d : r.hi < r.lo
        · simp [a, b, c, d] at h
        · simp [inB] at b c
          exact ⟨a, b.1, b.2, c.1.1.1, c.1.1.2, c.1.2, c.2, by omega⟩
      · simp [a, b, c] at h
    · simp [a, b] at h
  · simp [a] at h
theorem trip_of {p : Int × Int × Int} {a b c : Int} (h : p = (a, b, c)) : Ending.returned (.tuple #[.int .i64 a, .int .i64 b, .int .i64 c]) = .returned (.tuple #[.int .i64 p.1, .int .i64 p.2.1, .int .i64 p.2.2]) := by rw [h]

set_option maxHeartbeats 1000000 in
theorem check_any (r : RA) (ms : List T3) (ss : List T2) (ls : List T3) (w : World) (G : Glob w) (hR : Reads w r ms ss ls) :
    Calls Tryz.prog 19 #[.agg r.cs] w fun e w' => e = .returned (.tuple #[.int .i64 (checkS r ms ss ls).1, .int .i64 (checkS r ms ss ls).2.1, .int .i64 (checkS r ms ss ls).2.2]) ∧ Below w.heap.size w w' := by
  have HW := fun (W : World) (h : Glob W) => checkWhole_any r W h hR.nm
  have HS := fun (W : World) (h : Below w.heap.size w W) => checkSymbols_any r ms ss ls W (hR.below h)
  have HL := fun (W : World) (h : Below w.heap.size w W) => checkLengths_any r ms ss ls W (hR.below h)
  have HV : Hid (checkS r ms ss ls = if wholeE r ≠ 0 then (1, 0, wholeE r)
    else if (eachE (markE r.f ms) r.mn 60).2 ≠ 0 then (2, eachE (markE r.f ms) r.mn 60)
    else if (eachE (symE ss) r.sn 20).2 ≠ 0 then (3, eachE (symE ss) r.sn 20)
    else if (eachE (lenE r.f ls) r.ln 20).2 ≠ 0 then (4, eachE (lenE r.f ls) r.ln 20)
    else (0, 0, 0)) := rfl
  generalize checkS r ms ss ls = S at HV ⊢
  by_cases h0 : wholeE r = 0
  · obtain ⟨-, -, -, hf, -⟩ := wholeE_ok h0
    have HM := fun (W : World) (h : Below w.heap.size w W) => checkMarks_any r ms ss ls W (hR.below h) hf.1 hf.2
    rw [h0] at HW HV
    generalize eachE (markE r.f ms) r.mn 60 = m at HM HV
    generalize eachE (symE ss) r.sn 20 = s at HS HV
    generalize eachE (lenE r.f ls) r.ln 20 = l at HL HV
    obtain ⟨m1, m2⟩ := m
    obtain ⟨s1, s2⟩ := s
    obtain ⟨l1, l2⟩ := l
    replace HW := Lib.hid HW
    replace HM := Lib.hid HM
    replace HS := Lib.hid HS
    replace HL := Lib.hid HL
    clear h0 hf
    have hbl : Below w.heap.size w (w.alloc (.cells r.cs 30)) := B_alloc (Below.refl _ _) _
    go_enter Tryz.func19, Tryz.ntmps19
    go_wp2_with (first
      | (go_at_call 51; refine (HW.out _ (G.alloc _)).mono ?_; rintro e w1 ⟨rfl, hb1⟩; obtain ⟨hc1, hf1⟩ := bcell hb1)
      | (go_at_call 52; refine (HM.out _ (B_trans hbl hb1)).mono ?_; rintro e w2 ⟨rfl, hb2⟩; obtain ⟨hc2, hf2⟩ := bcell hb2; have hz1 : w.heap.size < w1.heap.size := (by have := hb1.size; simp at this; omega))
      | (go_at_call 53; refine (HS.out _ (B_trans (B_trans hbl hb1) hb2)).mono ?_; rintro e w3 ⟨rfl, hb3⟩; obtain ⟨hc3, hf3⟩ := bcell hb3; have hz2 : w.heap.size < w2.heap.size := (by have := hb2.size; omega))
      | (go_at_call 54; refine (HL.out _ (B_trans (B_trans (B_trans hbl hb1) hb2) hb3)).mono ?_; rintro e w4 ⟨rfl, hb4⟩))
    all_goals go_ret3
    all_goals refine ⟨trip_of ?_, (by first | exact B_trans (B_trans (B_trans (B_trans hbl hb1) hb2) hb3) hb4 | exact B_trans (B_trans (B_trans hbl hb1) hb2) hb3 | exact B_trans (B_trans hbl hb1) hb2)⟩
    all_goals
      have hE := HV.out
      clear HV HW HM HS HL hR
      go_light
      rw [hE]
      clear hE
      simp_all
  · have hb0 : (wholeE r != 0) = true := by simp [h0]
    rw [if_pos h0] at HV
    generalize wholeE r = x at HW HV hb0
    replace HW := Lib.hid HW
    clear h0 HS HL
    go_enter Tryz.func19, Tryz.ntmps19
    go_wp2_with (go_at_call 51; refine (HW.out _ (G.alloc _)).mono ?_; rintro e w1 ⟨rfl, hb1⟩)
    go_ret3
    exact ⟨trip_of HV.out, B_trans (B_alloc (Below.refl _ _) _) hb1⟩
end Go.Proofs.YtgjpbffoalldkaaGreatDoor

/- The walk of the reference's Check. -/
import Derived.Test.YtgjpbffoalldkaaGreatDoorWE
import Derived.Deep.LoopGhost
namespace Go.Proofs.YtgjpbffoalldkaaGreatDoor
open Go.RowKit

theorem foot_any (g : Int) (w : World) : Calls Tryz.prog 42 #[.int .i64 g] w fun e w' => e = .returned (.int .i64 (footI g)) ∧ w = w' := by
  rcases gauge_or g with ⟨f, m, hg⟩ | ⟨h1, h2, h3⟩
  · rw [hg.foot.1]; exact foot_yes g f m w hg
  · have e1 : footI g = 0 := by simp at h1 h2 h3; simp [footI, h1, h2, h3]
    rw [e1]; exact foot_no g w h1 h2 h3
theorem foot_zero (g : Int) : (footI g == 0) = !gaugeB g := by
  rcases gauge_or g with ⟨f, m, hg⟩ | ⟨h1, h2, h3⟩
  · rw [hg.foot.1, gaugeB_yes hg]
    obtain ⟨f1, -⟩ := hg.bd
    simp; omega
  · have e1 : footI g = 0 := by simp at h1 h2 h3; simp [footI, h1, h2, h3]
    rw [e1, gaugeB_no h1 h2 h3]; rfl

theorem refSelf_any (r : RA) (w : World) (hnm : r.nm.size ≤ maxLen) :
    Calls Tryz.prog 55 #[.agg r.cs] w fun e w' => e = .returned (.int .i64 (wholeE r)) ∧ Below w.heap.size w w' := by
  have HV : Hid (wholeE r = if nameB r.nm.data.toList then (if gaugeB r.g && inB r.b 1 3 then (if inB r.f 1 200000 && inB r.k 0 50 && inB r.lo 1890 2100 && inB r.hi 1890 2100 then (if r.hi < r.lo then 2 else 0) else 7) else 2) else 6) := rfl
  generalize wholeE r = E at HV ⊢
  have HF := Lib.hid (fun W => foot_any r.g W)
  have hz0 := foot_zero r.g
  have HN := Lib.hid (fun (W : World) => refName_any r.nm W hnm)
  have HI := Lib.hid (fun n lo hi W => in_any n lo hi W)
  generalize gaugeB r.g = gb at HV hz0
  generalize footI r.g = fi at HF hz0
  generalize nameB r.nm.data.toList = nb at HV HN
  cases nb <;> cases gb
  all_goals
    simp only [Bool.not_true, Bool.not_false] at hz0
    go_enter Tryz.func55, Tryz.ntmps55
    go_wp2_with (first
      | (go_at_call 42; refine (HF.out _).mono ?_; rintro e w1 ⟨rfl, rfl⟩)
      | (go_at_call 49; refine (HI.out _ _ _ _).mono ?_; rintro e w1 ⟨rfl, rfl⟩)
      | (go_at_call 17; refine (HN.out _).mono ?_; rintro e w2 ⟨rfl, rfl⟩))
    all_goals go_ret
    all_goals refine ⟨ret_int ?_, B_alloc (Below.refl _ _) _⟩
    all_goals
      have hE := HV.out
      clear HV HN HF HI hnm hz0
      go_light
      rw [hE]
      clear hE
      simp_all

theorem eachE_err {E : Nat → Int} {n most k : Nat} (hn : ¬ most < n) (hk : k < n) (h : ∀ j, 0 ≤ j → j < k → E j = 0) (hne : E k ≠ 0) : eachE E n most = ((k : Int), E k) := by
  rw [eachE, if_neg hn]
  exact firstE_some n 0 k (Nat.zero_le _) (by omega) h hne
theorem eachE_none {E : Nat → Int} {n most : Nat} (hn : ¬ most < n) (h : ∀ j, 0 ≤ j → j < n → E j = 0) : eachE E n most = (0, 0) := by
  rw [eachE, if_neg hn]
  exact firstE_none n 0 fun j a b => h j a (by omega)
theorem eachE_long {E : Nat → Int} {n most : Nat} (hn : most < n) : eachE E n most = (0, 3) := by rw [eachE, if_pos hn]

section
variable {r : RA} {ms : List T3} {ss : List T2} {ls : List T3}
theorem checkS_1 (h : wholeE r ≠ 0) : checkS r ms ss ls = (1, 0, wholeE r) := by rw [checkS, if_pos h]
theorem checkS_2 {a b : Int} (h0 : wholeE r = 0) (h : eachE (markE r.f ms) r.mn 60 = (a, b)) (hb : b ≠ 0) : checkS r ms ss ls = (2, a, b) := by
  rw [checkS, if_neg (by simp [h0]), h, if_pos hb]
theorem checkS_3 {a b c : Int} (h0 : wholeE r = 0) (h1 : eachE (markE r.f ms) r.mn 60 = (c, 0)) (h : eachE (symE ss) r.sn 20 = (a, b)) (hb : b ≠ 0) : checkS r ms ss ls = (3, a, b) := by
  rw [checkS, if_neg (by simp [h0]), h1, if_neg (by simp), h, if_pos hb]
theorem checkS_4 {a b c d : Int} (h0 : wholeE r = 0) (h1 : eachE (markE r.f ms) r.mn 60 = (c, 0)) (h2 : eachE (symE ss) r.sn 20 = (d, 0)) (h : eachE (lenE r.f ls) r.ln 20 = (a, b)) (hb : b ≠ 0) : checkS r ms ss ls = (4, a, b) := by
  rw [checkS, if_neg (by simp [h0]), h1, if_neg (by simp), h2, if_neg (by simp), h, if_pos hb]
theorem checkS_0 {c d e : Int} (h0 : wholeE r = 0) (h1 : eachE (markE r.f ms) r.mn 60 = (c, 0)) (h2 : eachE (symE ss) r.sn 20 = (d, 0)) (h : eachE (lenE r.f ls) r.ln 20 = (e, 0)) : checkS r ms ss ls = (0, 0, 0) := by
  rw [checkS, if_neg (by simp [h0]), h1, if_neg (by simp), h2, if_neg (by simp), h, if_neg (by simp)]
end

def CheckPost (r : RA) (ms : List T3) (ss : List T2) (ls : List T3) (e : Ending) : Prop := e = .returned (.tuple #[.int .i64 (checkS r ms ss ls).1, .int .i64 (checkS r ms ss ls).2.1, .int .i64 (checkS r ms ss ls).2.2])
theorem CheckPost.of {r : RA} {ms : List T3} {ss : List T2} {ls : List T3} {a b c : Int} (h : checkS r ms ss ls = (a, b, c)) : CheckPost r ms ss ls (.returned (.tuple #[.int .i64 a, .int .i64 b, .int .i64 c])) := by rw [CheckPost, h]

set_option maxHeartbeats 4000000 in
set_option maxRecDepth 100000 in
theorem refCheck_any (r : RA) (ms : List T3) (ss : List T2) (ls : List T3) (w : World) (hR : Reads w r ms ss ls) :
    Calls Tryz.prog 20 #[.agg r.cs] w fun e w' => CheckPost r ms ss ls e ∧ Below w.heap.size w w' := by
  have HW := fun (W : World) => refSelf_any r W hR.nm
  have HI := Lib.hid (fun n lo hi W => in_any n lo hi W)
  by_cases h0 : wholeE r = 0
  · obtain ⟨-, -, -, ⟨hf0, hf1⟩, -⟩ := wholeE_ok h0
    rw [h0] at HW
    replace HW := Lib.hid HW
    have H0 := Lib.hid h0
    have HR := Lib.hid hR
    have hmx := hR.mn
    have hsx := hR.sn
    have hlx := hR.ln
    clear h0 hR
    have hbx : ∀ W, Below (w.alloc (.cells r.cs 30)).heap.size (w.alloc (.cells r.cs 30)) W → ∀ j, W.cell? ⟨w.heap.size, j, none⟩ = r.cs[j]? := fun W h j => by
      rw [h.cell (p := ⟨w.heap.size, j, none⟩) (by simp), World.cell?_alloc_at _ _ _ _ rfl]
    have HX := Lib.hid hbx
    clear hbx
    have HB := Lib.hid (fun w1 (h1 : Below (w.alloc (.cells r.cs 30)).heap.size (w.alloc (.cells r.cs 30)) w1) W (h : Below w1.heap.size w1 W) => B_trans (B_trans (B_alloc (Below.refl _ w) _) h1) h)
    by_cases hm : 60 < r.mn
    · have hv := Lib.hid (CheckPost.of (checkS_2 (ss := ss) (ls := ls) H0.out (eachE_long (E := markE r.f ms) hm) (by decide)))
      go_enter Tryz.func20, Tryz.ntmps20
      go_wp2_with (go_at_call 55; refine (HW.out _).mono ?_; rintro e w1 ⟨rfl, hb1⟩; have k7 : w1.cell? ⟨w.heap.size, 7, none⟩ = some (.slice r.ma r.mn r.mc) := HX.out _ hb1 7)
      go_ret3
      exact ⟨hv.out, HB.out _ hb1 _ (Below.refl _ _)⟩
    · have hmb : decide ((60 : Int) < r.mn) = false := by simp; omega
      have HM := Lib.hid (fun k v (hk : k < r.mn) (hall : ∀ j, 0 ≤ j → j < k → markE r.f ms j = 0) (he : markE r.f ms k = v) (hv : v ≠ 0) => CheckPost.of (checkS_2 (ss := ss) (ls := ls) H0.out ((eachE_err hm hk hall (by rw [he]; exact hv)).trans (by rw [he])) hv))
      go_enter Tryz.func20, Tryz.ntmps20
      go_wp2_with (go_at_call 55; refine (HW.out _).mono ?_; rintro e w1 ⟨rfl, hb1⟩; have k7 : w1.cell? ⟨w.heap.size, 7, none⟩ = some (.slice r.ma r.mn r.mc) := HX.out _ hb1 7)
      clear k7
      have hz1 : w.heap.size < w1.heap.size := by have := hb1.size; simp at this; omega
      have HX1 := Lib.hid (HX.out _ hb1)
      have HB1 := Lib.hid (HB.out _ hb1)
      clear hb1 HX HB
      go_loopg [6, 7] r.mn (fun gk i p wr => ∃ k : Nat, gk = r.mn - k ∧ k ≤ r.mn ∧ i = .int .i64 k ∧ Hid (∀ j, 0 ≤ j → j < k → markE r.f ms j = 0) ∧ Below w1.heap.size w1 wr)
      case atStart => exact ⟨0, rfl, Nat.zero_le _, rfl, fun j _ h => by omega, Below.refl _ _⟩
      case round =>
        obtain ⟨k, rfl, hk, rfl, hall, hb⟩ := hrel
        have hcr := (bcell hb).1
        have k7 : wr.cell? ⟨w.heap.size, 7, none⟩ = some (.slice r.ma r.mn r.mc) := (hcr _ _ hz1).trans (HX1.out 7)
        have k3 : wr.cell? ⟨w.heap.size, 3, none⟩ = some (.int .i64 r.f) := (hcr _ _ hz1).trans (HX1.out 3)
        clear hcr
        have hzr : w.heap.size < wr.heap.size := by have := hb.size; omega
        have hzr1 : w.heap.size < wr.heap.size + 1 := by omega
        have hal : ∀ (W : World) O c k, c < W.heap.size → (W.alloc O).cell? ⟨c, k, none⟩ = W.cell? ⟨c, k, none⟩ := fun W O c k h => alloc_old W O c k h
        by_cases hlt : k < r.mn
        · obtain ⟨b, o, hma, hbs, hcells⟩ := HR.out.m.at_ (by omega)
          obtain ⟨x0c, x1c, x2c⟩ := hcells k hlt
          have hcw := (bcell (HB1.out _ hb)).1
          rw [← hcw b _ hbs] at x0c x1c x2c
          have hbw : b < wr.heap.size := by omega
          have hbw1 : b < wr.heap.size + 1 := by omega
          have hkl : (k : Int) < r.mn := by omega
          have hk0 : 0 ≤ (k : Int) := by omega
          have HE := Lib.hid (fun v => HM.out k v hlt hall.out)
          have HS : Hid (markE r.f ms k = 0 → ∀ j, 0 ≤ j → j < k + 1 → markE r.f ms j = 0) := fun e j a b => by
            by_cases e' : j = k
            · rw [e']; exact e
            · exact hall.out j a (by omega)
          by_cases hz : k = 0
          · subst hz
            clear hcells hcw
            simp only [Nat.zero_mul, Nat.add_zero] at x0c x1c x2c
            have HV2 : Hid (markE r.f ms 0 = if inB (ms.getD 0 (0, 0, 0)).1 0 (r.f - 1) && inB (ms.getD 0 (0, 0, 0)).2.1 0 99 && inB (ms.getD 0 (0, 0, 0)).2.2 0 9999 then 0 else 7) := by unfold Hid markE; simp
            generalize markE r.f ms 0 = E at HE HS HV2
            generalize ms.getD 0 (0, 0, 0) = x at x0c x1c x2c HV2
            obtain ⟨x0, x1, x2⟩ := x
            cases h0 : inB x0 0 (r.f - 1) <;> cases h1 : inB x1 0 99 <;> cases h2 : inB x2 0 9999
            case true.true.true =>
              have hE := HV2.out
              simp only [h0, h1, h2] at hE
              simp at hE
              have HN := Lib.hid (HS.out hE)
              clear hE HV2 HS HE
              go_wp2_with (go_at_call 49; refine (HI.out _ _ _ _).mono ?_; rintro e w2 ⟨rfl, rfl⟩)
              go_quiet (fail)
              go_wp2
              rw [← hma]
              go_roundg (r.mn - 1)
              case measure => omega
              case rel => exact ⟨1, rfl, hlt, by go_num, HN.out, B_drewN (B_alloc hb _) _⟩
            all_goals
              have hE := HV2.out
              simp only [h0, h1, h2] at hE
              simp at hE
              have HN := Lib.hid (HE.out 7 hE (by decide))
              clear hE HV2 HS HE
              go_wp2_with (go_at_call 49; refine (HI.out _ _ _ _).mono ?_; rintro e w2 ⟨rfl, rfl⟩)
              go_ret3
              exact ⟨HN.out, HB1.out _ (B_alloc hb _)⟩
          · obtain ⟨j, rfl⟩ : ∃ j, k = j + 1 := ⟨k - 1, by omega⟩
            obtain ⟨d0c, -, -⟩ := hcells j (by omega)
            rw [← hcw b _ hbs] at d0c
            clear hcells hcw hz
            have hj1 : (j : Int) + 1 < r.mn := by omega
            have hj2 : (j : Int) < r.mn := by omega
            have HV2 : Hid (markE r.f ms (j + 1) = if inB (ms.getD (j + 1) (0, 0, 0)).1 0 (r.f - 1) && inB (ms.getD (j + 1) (0, 0, 0)).2.1 0 99 && inB (ms.getD (j + 1) (0, 0, 0)).2.2 0 9999 then (if (ms.getD (j + 1) (0, 0, 0)).1 ≤ (ms.getD j (0, 0, 0)).1 then 2 else 0) else 7) := by unfold Hid markE; simp
            generalize markE r.f ms (j + 1) = E at HE HS HV2
            generalize ms.getD (j + 1) (0, 0, 0) = x at x0c x1c x2c HV2
            generalize ms.getD j (0, 0, 0) = y at d0c HV2
            obtain ⟨x0, x1, x2⟩ := x
            obtain ⟨y0, y1, y2⟩ := y
            cases h0 : inB x0 0 (r.f - 1) <;> cases h1 : inB x1 0 99 <;> cases h2 : inB x2 0 9999
            case true.true.true =>
              by_cases hle : x0 ≤ y0
              · have hE := HV2.out
                simp only [h0, h1, h2] at hE
                simp [hle] at hE
                have HN := Lib.hid (HE.out 2 hE (by decide))
                clear hE HV2 HS HE
                go_wp2_with (go_at_call 49; refine (HI.out _ _ _ _).mono ?_; rintro e w2 ⟨rfl, rfl⟩)
                go_quiet (fail)
                go_wp2
                go_ret3
                exact ⟨HN.out, HB1.out _ (B_drewN (B_alloc hb _) _)⟩
              · have hE := HV2.out
                simp only [h0, h1, h2] at hE
                simp [hle] at hE
                have HN := Lib.hid (HS.out hE)
                clear hE HV2 HS HE
                go_wp2_with (go_at_call 49; refine (HI.out _ _ _ _).mono ?_; rintro e w2 ⟨rfl, rfl⟩)
                go_quiet (fail)
                go_wp2
                rw [← hma]
                go_roundg (r.mn - (j + 1 + 1))
                case measure => omega
                case rel => exact ⟨j + 1 + 1, rfl, by omega, by go_num, HN.out, B_drewN (B_alloc hb _) _⟩
            all_goals
              have hE := HV2.out
              simp only [h0, h1, h2] at hE
              simp at hE
              have HN := Lib.hid (HE.out 7 hE (by decide))
              clear hE HV2 HS HE
              go_wp2_with (go_at_call 49; refine (HI.out _ _ _ _).mono ?_; rintro e w2 ⟨rfl, rfl⟩)
              go_ret3
              exact ⟨HN.out, HB1.out _ (B_alloc hb _)⟩
        · obtain rfl : k = r.mn := by omega
          have HM0 := Lib.hid (eachE_none hm hall.out)
          have k8 : wr.cell? ⟨w.heap.size, 8, none⟩ = some (.slice r.sa r.sn r.sc) := ((bcell hb).1 _ _ hz1).trans (HX1.out 8)
          clear hlt hk hall HM k3
          by_cases hsb : 20 < r.sn
          · have hv := Lib.hid (CheckPost.of (checkS_3 (ls := ls) H0.out HM0.out (eachE_long (E := symE ss) hsb) (by decide)))
            go_wp2
            go_ret3
            exact ⟨hv.out, HB1.out _ hb⟩
          · have hsb' : decide ((20 : Int) < r.sn) = false := by simp; omega
            have HY := Lib.hid (fun k v (hk : k < r.sn) (hall : ∀ j, 0 ≤ j → j < k → symE ss j = 0) (he : symE ss k = v) (hv : v ≠ 0) => CheckPost.of (checkS_3 (ls := ls) H0.out HM0.out ((eachE_err hsb hk hall (by rw [he]; exact hv)).trans (by rw [he])) hv))
            obtain ⟨wy, rfl⟩ : ∃ wy : World, wy = wr := ⟨_, rfl⟩
            have hby := hb
            go_wp2_with fail
            clear k7 k8 hb hzr hzr1
            go_loopg [8] r.sn (fun gk i wr => ∃ k : Nat, gk = r.sn - k ∧ k ≤ r.sn ∧ i = .int .i64 k ∧ Hid (∀ j, 0 ≤ j → j < k → symE ss j = 0) ∧ Below w1.heap.size w1 wr)
            case atStart => exact ⟨0, rfl, Nat.zero_le _, rfl, fun j _ h => by omega, hby⟩
            case round =>
              obtain ⟨k, rfl, hk, rfl, hall, hb⟩ := hrel
              have hcr := (bcell hb).1
              have k8 : wr.cell? ⟨w.heap.size, 8, none⟩ = some (.slice r.sa r.sn r.sc) := (hcr _ _ hz1).trans (HX1.out 8)
              clear hcr
              by_cases hlt : k < r.sn
              · obtain ⟨b, o, hma, hbs, hcells⟩ := HR.out.s.at_ (by omega)
                obtain ⟨x0c, x1c⟩ := hcells k hlt
                have hcw := (bcell (HB1.out _ hb)).1
                rw [← hcw b _ hbs] at x0c x1c
                have hkl : (k : Int) < r.sn := by omega
                have hk0 : 0 ≤ (k : Int) := by omega
                have HE := Lib.hid (fun v => HY.out k v hlt hall.out)
                have HS : Hid (symE ss k = 0 → ∀ j, 0 ≤ j → j < k + 1 → symE ss j = 0) := fun e j a b => by
                  by_cases e' : j = k
                  · rw [e']; exact e
                  · exact hall.out j a (by omega)
                clear hcells hcw
                have HV2 : Hid (symE ss k = if inB (ss.getD k (0, 0)).1 0 99 && inB (ss.getD k (0, 0)).2 0 19 then 0 else 7) := rfl
                generalize symE ss k = E at HE HS HV2
                generalize ss.getD k (0, 0) = x at x0c x1c HV2
                obtain ⟨x0, x1⟩ := x
                cases h0 : inB x0 0 99 <;> cases h1 : inB x1 0 19
                case true.true =>
                  have hE := HV2.out
                  simp only [h0, h1] at hE
                  simp at hE
                  have HN := Lib.hid (HS.out hE)
                  clear hE HV2 HS HE
                  go_wp2_with (go_at_call 49; refine (HI.out _ _ _ _).mono ?_; rintro e w2 ⟨rfl, rfl⟩)
                  rw [← hma]
                  go_roundg (r.sn - (k + 1))
                  case measure => omega
                  case rel => exact ⟨k + 1, rfl, by omega, by go_num, HN.out, hb⟩
                all_goals
                  have hE := HV2.out
                  simp only [h0, h1] at hE
                  simp at hE
                  have HN := Lib.hid (HE.out 7 hE (by decide))
                  clear hE HV2 HS HE
                  go_wp2_with (go_at_call 49; refine (HI.out _ _ _ _).mono ?_; rintro e w2 ⟨rfl, rfl⟩)
                  go_ret3
                  exact ⟨HN.out, HB1.out _ hb⟩
              · obtain rfl : k = r.sn := by omega
                have HY0 := Lib.hid (eachE_none hsb hall.out)
                have k9 : wr.cell? ⟨w.heap.size, 9, none⟩ = some (.slice r.la r.ln r.lc) := ((bcell hb).1 _ _ hz1).trans (HX1.out 9)
                clear hlt hk hall HY
                by_cases hlb : 20 < r.ln
                · have hv := Lib.hid (CheckPost.of (checkS_4 H0.out HM0.out HY0.out (eachE_long (E := lenE r.f ls) hlb) (by decide)))
                  go_wp2
                  go_ret3
                  exact ⟨hv.out, HB1.out _ hb⟩
                · have hlb' : decide ((20 : Int) < r.ln) = false := by simp; omega
                  have HZ := Lib.hid (fun k v (hk : k < r.ln) (hall : ∀ j, 0 ≤ j → j < k → lenE r.f ls j = 0) (he : lenE r.f ls k = v) (hv : v ≠ 0) => CheckPost.of (checkS_4 H0.out HM0.out HY0.out ((eachE_err hlb hk hall (by rw [he]; exact hv)).trans (by rw [he])) hv))
                  obtain ⟨wz, rfl⟩ : ∃ wz : World, wz = wr := ⟨_, rfl⟩
                  have hbz := hb
                  go_wp2_with fail
                  clear k8 k9 hb
                  go_loopg [9, 10] r.ln (fun gk i p wr => ∃ k : Nat, gk = r.ln - k ∧ k ≤ r.ln ∧ i = .int .i64 k ∧ Hid (∀ j, 0 ≤ j → j < k → lenE r.f ls j = 0) ∧ Below w1.heap.size w1 wr)
                  case atStart => exact ⟨0, rfl, Nat.zero_le _, rfl, fun j _ h => by omega, hbz⟩
                  case round =>
                    obtain ⟨k, rfl, hk, rfl, hall, hb⟩ := hrel
                    have hcr := (bcell hb).1
                    have k9 : wr.cell? ⟨w.heap.size, 9, none⟩ = some (.slice r.la r.ln r.lc) := (hcr _ _ hz1).trans (HX1.out 9)
                    have k3 : wr.cell? ⟨w.heap.size, 3, none⟩ = some (.int .i64 r.f) := (hcr _ _ hz1).trans (HX1.out 3)
                    clear hcr
                    have hzr : w.heap.size < wr.heap.size := by have := hb.size; omega
                    have hzr1 : w.heap.size < wr.heap.size + 1 := by omega
                    have hal : ∀ (W : World) O c k, c < W.heap.size → (W.alloc O).cell? ⟨c, k, none⟩ = W.cell? ⟨c, k, none⟩ := fun W O c k h => alloc_old W O c k h
                    by_cases hlt : k < r.ln
                    · obtain ⟨b, o, hma, hbs, hcells⟩ := HR.out.l.at_ (by omega)
                      obtain ⟨x0c, x1c, x2c⟩ := hcells k hlt
                      have hcw := (bcell (HB1.out _ hb)).1
                      rw [← hcw b _ hbs] at x0c x1c x2c
                      have hbw : b < wr.heap.size := by omega
                      have hbw1 : b < wr.heap.size + 1 := by omega
                      have hkl : (k : Int) < r.ln := by omega
                      have hk0 : 0 ≤ (k : Int) := by omega
                      have HE := Lib.hid (fun v => HZ.out k v hlt hall.out)
                      have HS : Hid (lenE r.f ls k = 0 → ∀ j, 0 ≤ j → j < k + 1 → lenE r.f ls j = 0) := fun e j a b => by
                        by_cases e' : j = k
                        · rw [e']; exact e
                        · exact hall.out j a (by omega)
                      clear hcells hcw
                      have HV2 : Hid (lenE r.f ls k = if inB (ls.getD k (0, 0, 0)).1 1 r.f && inB (ls.getD k (0, 0, 0)).2.1 1 400000000 && inB (ls.getD k (0, 0, 0)).2.2 0 400000000 then 0 else 7) := rfl
                      generalize lenE r.f ls k = E at HE HS HV2
                      generalize ls.getD k (0, 0, 0) = x at x0c x1c x2c HV2
                      obtain ⟨x0, x1, x2⟩ := x
                      cases h0 : inB x0 1 r.f <;> cases h1 : inB x1 1 400000000 <;> cases h2 : inB x2 0 400000000
                      case true.true.true =>
                        have hE := HV2.out
                        simp only [h0, h1, h2] at hE
                        simp at hE
                        have HN := Lib.hid (HS.out hE)
                        clear hE HV2 HS HE
                        go_wp2_with (go_at_call 49; refine (HI.out _ _ _ _).mono ?_; rintro e w2 ⟨rfl, rfl⟩)
                        rw [← hma]
                        go_roundg (r.ln - (k + 1))
                        case measure => omega
                        case rel => exact ⟨k + 1, rfl, by omega, by go_num, HN.out, B_alloc hb _⟩
                      all_goals
                        have hE := HV2.out
                        simp only [h0, h1, h2] at hE
                        simp at hE
                        have HN := Lib.hid (HE.out 7 hE (by decide))
                        clear hE HV2 HS HE
                        go_wp2_with (go_at_call 49; refine (HI.out _ _ _ _).mono ?_; rintro e w2 ⟨rfl, rfl⟩)
                        go_ret3
                        exact ⟨HN.out, HB1.out _ (B_alloc hb _)⟩
                    · obtain rfl : k = r.ln := by omega
                      have hv := Lib.hid (CheckPost.of (checkS_0 H0.out HM0.out HY0.out (eachE_none hlb hall.out)))
                      go_wp2
                      go_ret3
                      exact ⟨hv.out, HB1.out _ hb⟩
  · have hb0 : (wholeE r != 0) = true := by simp [h0]
    have hv := Lib.hid (CheckPost.of (checkS_1 (ms := ms) (ss := ss) (ls := ls) h0))
    generalize wholeE r = x at HW hb0 hv
    replace HW := Lib.hid HW
    clear h0
    go_enter Tryz.func20, Tryz.ntmps20
    go_wp2_with (go_at_call 55; refine (HW.out _).mono ?_; rintro e w1 ⟨rfl, hb1⟩)
    go_ret3
    exact ⟨hv.out, B_trans (B_alloc (Below.refl _ _) _) hb1⟩
end Go.Proofs.YtgjpbffoalldkaaGreatDoor

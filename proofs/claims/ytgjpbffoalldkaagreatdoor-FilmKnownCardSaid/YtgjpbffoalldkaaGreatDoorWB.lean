/- Names: the walks of namePart and Name (film), and of Name (the document's). -/
import Derived.Test.YtgjpbffoalldkaaGreatDoorWA
import Derived.Test.YtgjpbffoalldkaaGreatDoorShelf
namespace Go.Proofs.YtgjpbffoalldkaaGreatDoor
open Go.RowKit

theorem part_no {l : List UInt8} {k : Nat} (hk : k < l.length) (h : alnumB l[k] = false) : partB l = false := by
  have : l.all alnumB = false := by
    rw [List.all_eq_false]
    exact ⟨l[k], List.getElem_mem hk, by simp [h]⟩
  simp [partB, this]
theorem part_yes {l : List UInt8} (h : ∀ (j : Nat) (hj : j < l.length), alnumB l[j] = true) : partB l = !l.isEmpty := by
  have : l.all alnumB = true := by
    rw [List.all_eq_true]
    intro x hx
    obtain ⟨j, hj, rfl⟩ := List.getElem_of_mem hx
    exact h j hj
  simp [partB, this]

theorem alnum_l {c : UInt8} (h : inB c.toNat 97 122 = true) : alnumB c = true := by simp [alnumB, h]
theorem alnum_d {c : UInt8} (h : inB c.toNat 48 57 = true) : alnumB c = true := by simp [alnumB, h]
theorem alnum_n {c : UInt8} (h : inB c.toNat 97 122 = false) (h' : inB c.toNat 48 57 = false) : alnumB c = false := by simp [alnumB, h, h']
theorem all_step {s : ByteArray} {k : Nat} (hlt : k < s.size) (ha : alnumB s[k] = true) (hall : Hid (∀ (j : Nat) (hj : j < s.data.toList.length), j < k → alnumB s.data.toList[j] = true)) :
    Hid (∀ (j : Nat) (hj : j < s.data.toList.length), j < k + 1 → alnumB s.data.toList[j] = true) := fun j hj h => by
  by_cases e : j = k
  · subst e; exact ha
  · exact hall.out j hj (by omega)

theorem namePart_any (s : ByteArray) (w : World) (hs : s.size ≤ maxLen) :
    Calls Tryz.prog 48 #[.string s] w fun e w' => e = .returned (.bool (partB s.data.toList)) ∧ w = w' := by
  unfold maxLen at hs
  go_enter Tryz.func48, Tryz.ntmps48
  go_wp2
  go_loop [3, 6] (fun x i => ∃ k : Nat, k ≤ s.size ∧ i = .int .i64 k ∧ Hid (∀ (j : Nat) (hj : j < s.data.toList.length), j < k → alnumB s.data.toList[j] = true)) (fun _ i => s.size - (intOf i).toNat)
  case atStart => exact ⟨0, Nat.zero_le _, rfl, fun j _ h => by omega⟩
  case round =>
    obtain ⟨k, hk, rfl, hall⟩ := hrel
    by_cases hlt : k < s.size
    · by_cases ha : inB (s[k].toNat) 97 122 = true
      · have hs1 := all_step hlt (alnum_l ha) hall
        go_wp2_with (first | (go_at_call 46; refine (letter_any _ _).mono ?_; rintro e w1 ⟨rfl, rfl⟩) | (go_at_call 80; refine (digit_any _ _).mono ?_; rintro e w1 ⟨rfl, rfl⟩))
        go_round
        case rel => exact ⟨k + 1, by omega, by go_num, hs1⟩
        case measure => simp [intOf]; omega
      · simp only [Bool.not_eq_true] at ha
        by_cases hd : inB (s[k].toNat) 48 57 = true
        · have hs1 := all_step hlt (alnum_d hd) hall
          go_wp2_with (first | (go_at_call 46; refine (letter_any _ _).mono ?_; rintro e w1 ⟨rfl, rfl⟩) | (go_at_call 80; refine (digit_any _ _).mono ?_; rintro e w1 ⟨rfl, rfl⟩))
          go_round
          case rel => exact ⟨k + 1, by omega, by go_num, hs1⟩
          case measure => simp [intOf]; omega
        · simp only [Bool.not_eq_true] at hd
          have hs1 := Lib.hid (part_no (l := s.data.toList) (k := k) (by simpa using hlt) (alnum_n ha hd))
          go_wp2_with (first | (go_at_call 46; refine (letter_any _ _).mono ?_; rintro e w1 ⟨rfl, rfl⟩) | (go_at_call 80; refine (digit_any _ _).mono ?_; rintro e w1 ⟨rfl, rfl⟩))
          go_ret
          exact ⟨ret_bool hs1.out.symm, rfl⟩
    · have he : k = s.size := by omega
      subst he
      have hy := Lib.hid (part_yes (l := s.data.toList) (fun j hj => hall.out j hj (by simpa using hj)))
      go_wp2
      go_ret
      exact ⟨ret_bool (by rw [hy.out, ByteArray.toList_eq]), rfl⟩

theorem getD_data {s : ByteArray} {k : Nat} (h : k < s.size) : s.data.toList.getD k 0 = s[k] := by
  rw [List.getD_eq_getElem?_getD, List.getElem?_eq_getElem (by simpa using h)]; rfl
theorem sizes (s : ByteArray) : s.data.toList.length = s.size := rfl

theorem alnum_else {c : UInt8} (h : alnumB c = true) (h' : inB c.toNat 97 122 = false) : (48 : Int) ≤ c.toNat ∧ (c.toNat : Int) ≤ 57 := by
  rw [alnumB, h', Bool.false_or] at h
  simpa [inB] using h
theorem dash_nat {c : UInt8} : c = 45 ↔ c.toNat = 45 := ⟨fun h => by rw [h]; rfl, fun h => by rw [← UInt8.toNat_inj]; exact h⟩
theorem dash_bool (c : UInt8) : ((c.toNat : Int) == 45) = (c == 45) := by
  rw [Bool.eq_iff_iff, beq_iff_eq, beq_iff_eq, dash_nat]; omega
theorem dash_nbool (c : UInt8) : ((c.toNat : Int) != 45) = (c != 45) := by
  rw [bne, bne, dash_bool]

theorem refName_any (s : ByteArray) (w : World) (hs : s.size ≤ maxLen) :
    Calls Tryz.prog 17 #[.string s] w fun e w' => e = .returned (.bool (nameB s.data.toList)) ∧ w = w' := by
  unfold maxLen at hs
  have hN : nameB s.data.toList = (inB s.size 1 24 && inB (s.data.toList.headD 0).toNat 97 122 && restB true s.data.toList) := rfl
  by_cases hn : inB (s.size : Int) 1 24 = true
  · have hb : (1 : Int) ≤ s.size ∧ (s.size : Int) ≤ 24 := by simpa [inB] using hn
    obtain ⟨hb1, hb2⟩ := hb
    have hpos : 0 < s.size := by omega
    have hh : s.data.toList.headD 0 = s[0] := by rw [List.headD_eq_head?_getD, List.head?_eq_getElem?, List.getElem?_eq_getElem (by simpa using hpos)]; rfl
    rw [hh, hn] at hN
    by_cases hl : inB (s[0].toNat) 97 122 = true
    · rw [hl] at hN
      have HN := Lib.hid hN; clear hN hh
      go_enter Tryz.func17, Tryz.ntmps17
      go_wp2_with (first | (go_at_call 49; refine (in_any _ _ _ _).mono ?_; rintro e w1 ⟨rfl, rfl⟩) | (go_at_call 50; refine (rletter_any _ _).mono ?_; rintro e w1 ⟨rfl, rfl⟩))
      go_loop [3] (fun i => ∃ k : Nat, k ≤ s.size ∧ i = .int .i64 k ∧ Hid (restB true s.data.toList = restB (openAt s.data.toList k) (s.data.toList.drop k) ∧ (k = s.size → openAt s.data.toList k = false))) (fun i => s.size - (intOf i).toNat)
      case atStart => exact ⟨0, Nat.zero_le _, rfl, rfl, fun e => by omega⟩
      case round =>
        obtain ⟨k, hk, rfl, hall⟩ := hrel
        obtain ⟨hinv, hlast⟩ := hall.out
        clear hall
        by_cases hlt : k < s.size
        · have hlt' : k < s.data.toList.length := hlt
          by_cases ha : alnumB s[k] = true
          · obtain ⟨hr1, hr2⟩ := rest_alnum hlt' ha
            have hs1 : Hid (restB true s.data.toList = restB (openAt s.data.toList (k + 1)) (s.data.toList.drop (k + 1)) ∧ (k + 1 = s.size → openAt s.data.toList (k + 1) = false)) := ⟨hinv.trans hr1, fun _ => hr2⟩
            clear hr1 hr2 hinv hlast
            by_cases hl2 : inB (s[k].toNat) 97 122 = true
            · clear ha
              go_wp2_with (go_at_call 50; refine (rletter_any _ _).mono ?_; rintro e w1 ⟨rfl, rfl⟩)
              go_round
              case rel => exact ⟨k + 1, by omega, by go_num, hs1⟩
              case measure => simp [intOf]; omega
            · simp only [Bool.not_eq_true] at hl2
              have hd : (48 : Int) ≤ s[k].toNat ∧ (s[k].toNat : Int) ≤ 57 := alnum_else ha hl2
              obtain ⟨hd1, hd2⟩ := hd
              clear ha
              go_wp2_with (go_at_call 50; refine (rletter_any _ _).mono ?_; rintro e w1 ⟨rfl, rfl⟩)
              go_round
              case rel => exact ⟨k + 1, by omega, by go_num, hs1⟩
              case measure => simp [intOf]; omega
          · simp only [Bool.not_eq_true] at ha
            obtain ⟨j, rfl⟩ : ∃ j, k = j + 1 := ⟨k - 1, by
              by_cases e : k = 0
              · subst e; rw [alnum_l hl] at ha; cases ha
              · omega⟩
            have hnl : inB (s[j + 1].toNat) 97 122 = false := by
              by_cases e : inB (s[j + 1].toNat) 97 122 = true
              · rw [alnum_l e] at ha; cases ha
              · simpa using e
            have hnd : ¬ ((48 : Int) ≤ s[j + 1].toNat ∧ (s[j + 1].toNat : Int) ≤ 57) := by
              intro e
              rw [alnum_d (by simp [inB]; omega)] at ha; cases ha
            have hob : openAt s.data.toList (j + 1) = (s[j] == 45) := by
              simp only [openAt, Nat.add_sub_cancel]
              rw [getD_data (by omega)]
              simp
            have hs45 : ¬ (48 ≤ (s[j+1].toNat : Int)) ∨ ((48 : Int) ≤ s[j+1].toNat ∧ ¬ ((s[j+1].toNat : Int) ≤ 57)) := by omega
            clear hnd
            by_cases c1 : s[j + 1] = 45
            · have e1 : (((s[j + 1].toNat : Nat) : Int) != 45) = false := by rw [dash_nbool]; simp [c1]
              by_cases c2 : s[j] = 45
              · have hv := Lib.hid (HN.out.trans (hinv.trans (rest_bad hlt' ha (.inr (.inl (by rw [hob]; simp [c2]))))))
                have e2 : (((s[j].toNat : Nat) : Int) == 45) = true := by rw [dash_bool]; simp [c2]
                clear ha c1 c2 hob HN hinv hlast
                rcases hs45 with q | ⟨q, q'⟩
                all_goals go_wp2_with (go_at_call 50; refine (rletter_any _ _).mono ?_; rintro e w1 ⟨rfl, rfl⟩)
                all_goals go_ret
                all_goals exact ⟨ret_bool hv.out.symm, rfl⟩
              · have e2 : (((s[j].toNat : Nat) : Int) == 45) = false := by rw [dash_bool]; simp [c2]
                by_cases c3 : j + 2 = s.size
                · have hv := Lib.hid (HN.out.trans (hinv.trans (rest_bad hlt' ha (.inr (.inr c3)))))
                  obtain ⟨c4, c5⟩ : j + 2 ≤ s.size ∧ s.size ≤ j + 2 := by omega
                  clear ha c1 c2 c3 hob HN hinv hlast
                  rcases hs45 with q | ⟨q, q'⟩
                  all_goals go_wp2_with (go_at_call 50; refine (rletter_any _ _).mono ?_; rintro e w1 ⟨rfl, rfl⟩)
                  all_goals go_ret
                  all_goals exact ⟨ret_bool hv.out.symm, rfl⟩
                · have hr1 := rest_dash hlt' c1 (by rw [hob]; simp [c2])
                  have hs1 : Hid (restB true s.data.toList = restB (openAt s.data.toList (j + 1 + 1)) (s.data.toList.drop (j + 1 + 1)) ∧ (j + 1 + 1 = s.size → openAt s.data.toList (j + 1 + 1) = false)) := ⟨hinv.trans hr1, fun e => absurd e c3⟩
                  have c4 : j + 2 < s.size := by omega
                  clear ha c1 c2 c3 hob hinv hlast hr1
                  rcases hs45 with q | ⟨q, q'⟩
                  all_goals go_wp2_with (go_at_call 50; refine (rletter_any _ _).mono ?_; rintro e w1 ⟨rfl, rfl⟩)
                  all_goals go_round
                  case rel => exact ⟨j + 1 + 1, by omega, by go_num, hs1⟩
                  case measure => simp [intOf]; omega
            · have e1 : (((s[j + 1].toNat : Nat) : Int) != 45) = true := by rw [dash_nbool]; simp [c1]
              have hv := Lib.hid (HN.out.trans (hinv.trans (rest_bad hlt' ha (.inl c1))))
              clear ha c1 hob HN hinv hlast
              rcases hs45 with q | ⟨q, q'⟩
              all_goals go_wp2_with (go_at_call 50; refine (rletter_any _ _).mono ?_; rintro e w1 ⟨rfl, rfl⟩)
              all_goals go_ret
              all_goals exact ⟨ret_bool hv.out.symm, rfl⟩
        · have he : k = s.size := by omega
          have hv : nameB s.data.toList = true := by
            rw [HN.out, hinv, he]
            exact rest_end (l := s.data.toList) (by rw [sizes, ← he]; exact hlast he)
          have Hv := Lib.hid hv
          clear hv hinv hlast HN he
          go_wp2
          go_ret
          exact ⟨ret_bool Hv.out.symm, rfl⟩
    · simp only [Bool.not_eq_true] at hl
      rw [hl] at hN
      have HN := Lib.hid hN; clear hN hh
      go_enter Tryz.func17, Tryz.ntmps17
      go_wp2_with (first | (go_at_call 49; refine (in_any _ _ _ _).mono ?_; rintro e w1 ⟨rfl, rfl⟩) | (go_at_call 50; refine (rletter_any _ _).mono ?_; rintro e w1 ⟨rfl, rfl⟩))
      go_ret
      exact ⟨ret_bool (by rw [HN.out]; rfl), rfl⟩
  · simp only [Bool.not_eq_true] at hn
    rw [hn] at hN
    have HN := Lib.hid hN; clear hN
    go_enter Tryz.func17, Tryz.ntmps17
    go_wp2_with (first | (go_at_call 49; refine (in_any _ _ _ _).mono ?_; rintro e w1 ⟨rfl, rfl⟩) | (go_at_call 50; refine (rletter_any _ _).mono ?_; rintro e w1 ⟨rfl, rfl⟩))
    go_ret
    exact ⟨ret_bool (by rw [HN.out]; rfl), rfl⟩

/-- The pieces of a text between hyphens, as the library cuts it. -/
theorem pieces (s : ByteArray) (c : UInt8) : ((Lib.splitB ⟨#[c]⟩ 0 (Lib.countB s ⟨#[c]⟩) s).map (·.data.toList)) = parts c s.data.toList := by
  rw [Lib.splitB_data]
  exact split_parts c _
theorem pieces_length (s : ByteArray) (c : UInt8) : (Lib.splitB ⟨#[c]⟩ 0 (Lib.countB s ⟨#[c]⟩) s).length = Lib.countB s ⟨#[c]⟩ + 1 := by
  have h := congrArg List.length (pieces s c)
  rw [List.length_map] at h
  rw [h]
  exact parts_length c _
theorem pieces_sizes (c : UInt8) : ∀ (l p : List UInt8), p ∈ parts c l → p.length ≤ l.length
  | [], p, h => by simp [parts] at h; simp [h]
  | b :: l, p, h => by
    unfold parts at h
    split at h
    · rcases List.mem_cons.1 h with rfl | h
      · simp
      · have := pieces_sizes c l p h; simp; omega
    · rcases List.mem_cons.1 h with rfl | h
      · have : (parts c l).headD [] ∈ parts c l := by
          have hne := parts_ne c l
          cases hp : parts c l with
          | nil => exact absurd hp hne
          | cons x xs => simp
        have := pieces_sizes c l _ this
        simp only [List.length_cons]; omega
      · have := pieces_sizes c l p (List.mem_of_mem_tail h); simp; omega

theorem alloc_strings {w w1 : World} {xs : List ByteArray} (h : w1 = w.alloc (.cells (xs.map Value.string).toArray 9)) :
    (∀ (j : Nat) (hj : j < xs.length), w1.cell? ⟨w.heap.size, j, none⟩ = some (.string xs[j])) ∧ Below w.heap.size w w1 := by
  subst h
  refine ⟨fun j hj => ?_, (Below.refl _ w).alloc (Nat.le_refl _) _⟩
  rw [World.cell?_alloc_at _ _ _ _ rfl]
  simp [hj]

theorem parts_all {s : ByteArray} {xs : List ByteArray} (h : xs.map (·.data.toList) = parts 45 s.data.toList) : (parts 45 s.data.toList).all partB = xs.all fun x => partB x.data.toList := by
  rw [← h, List.all_map]; rfl
theorem xs_no {xs : List ByteArray} {k : Nat} (hk : k < xs.length) (h : partB xs[k].data.toList = false) : (xs.all fun x => partB x.data.toList) = false := by
  rw [List.all_eq_false]
  exact ⟨xs[k], List.getElem_mem hk, by simp [h]⟩
theorem xs_yes {xs : List ByteArray} (h : ∀ (j : Nat) (hj : j < xs.length), partB xs[j].data.toList = true) : (xs.all fun x => partB x.data.toList) = true := by
  rw [List.all_eq_true]
  intro x hx
  obtain ⟨j, hj, rfl⟩ := List.getElem_of_mem hx
  exact h j hj

theorem name_any (s : ByteArray) (w : World) (G : Glob w) (hs : s.size ≤ maxLen) :
    Calls Tryz.prog 16 #[.string s] w fun e w' => e = .returned (.bool (nameB s.data.toList)) ∧ Below w.heap.size w w' := by
  unfold maxLen at hs
  have hN := name_parts s.data.toList
  rw [sizes] at hN
  by_cases h0 : s.size = 0
  · have hv : nameB s.data.toList = false := by rw [hN, h0]; rfl
    have Hv := Lib.hid hv
    have hem : s.toList.isEmpty = true := by rw [ByteArray.toList_eq, List.isEmpty_iff_length_eq_zero]; exact h0
    clear hN hv
    go_enter Tryz.func16, Tryz.ntmps16
    go_wp2
    go_ret
    exact ⟨ret_bool Hv.out.symm, Below.refl _ _⟩
  · have hem : s.toList.isEmpty = false := by
      rw [ByteArray.toList_eq, Bool.eq_false_iff]; intro e; rw [List.isEmpty_iff_length_eq_zero] at e; exact h0 e
    have hpos : 0 < s.size := by omega
    have hh : s.data.toList.headD 0 = s[0] := by rw [List.headD_eq_head?_getD, List.head?_eq_getElem?, List.getElem?_eq_getElem (by simpa using hpos)]; rfl
    rw [hh] at hN
    by_cases hbig : 24 < s.size
    · have hv : nameB s.data.toList = false := by rw [hN, show inB (s.size : Int) 1 24 = false by simp [inB]; omega]; rfl
      have Hv := Lib.hid hv
      clear hN hv hh
      go_enter Tryz.func16, Tryz.ntmps16
      go_wp2
      go_ret
      exact ⟨ret_bool Hv.out.symm, Below.refl _ _⟩
    · rw [show inB (s.size : Int) 1 24 = true by simp [inB]; omega, Bool.true_and] at hN
      by_cases hl : inB (s[0].toNat) 97 122 = true
      · rw [hl, Bool.true_and] at hN
        have HN := Lib.hid hN
        obtain ⟨m, hm⟩ := G.ml
        have hpl := pieces_length s 45
        have hpp := pieces s 45
        have hsplit := Tryz.strings_Split s ⟨#[45]⟩ m w (by omega) hm (by decide)
        rw [show Lib.countB s ⟨#[45]⟩ + 1 = (Lib.splitB ⟨#[45]⟩ 0 (Lib.countB s ⟨#[45]⟩) s).length from hpl.symm] at hsplit
        have hle : (Lib.splitB ⟨#[45]⟩ 0 (Lib.countB s ⟨#[45]⟩) s).length ≤ s.size + 2 := by
          rw [hpl]; have := Lib.count_le s.data.toList [45]; rw [sizes] at this; exact Nat.succ_le_succ this
        have hsz : ∀ x ∈ Lib.splitB ⟨#[45]⟩ 0 (Lib.countB s ⟨#[45]⟩) s, x.size ≤ maxLen := by
          intro x hx
          have hm : x.data.toList ∈ parts 45 s.data.toList := by rw [← hpp]; exact List.mem_map_of_mem hx
          have := pieces_sizes 45 _ _ hm
          rw [sizes, sizes] at this
          unfold maxLen; omega
        generalize Lib.splitB ⟨#[45]⟩ 0 (Lib.countB s ⟨#[45]⟩) s = xs at hpl hpp hsplit hle hsz
        have Hpp := Lib.hid (parts_all hpp)
        have Hsz := Lib.hid hsz
        clear hN hh hpl hpp hsz
        go_enter Tryz.func16, Tryz.ntmps16
        go_wp2_with (first | (go_at_call 46; refine (letter_any _ _).mono ?_; rintro e w1 ⟨rfl, rfl⟩) | (go_at_call 47; refine hsplit.mono ?_; rintro e w1 ⟨rfl, hw1⟩; obtain ⟨hcell, hbel⟩ := alloc_strings hw1; clear hw1; have Hcell := Lib.hid hcell; clear hcell))
        go_loopw [4, 21] (fun x i wr => ∃ k : Nat, k ≤ xs.length ∧ i = .int .i64 k ∧ w1 = wr ∧ Hid (∀ (j : Nat) (hj : j < xs.length), j < k → partB xs[j].data.toList = true)) (fun _ i _ => xs.length - (intOf i).toNat)
        case atStart => exact ⟨0, Nat.zero_le _, rfl, rfl, fun j _ h => by omega⟩
        case round =>
          obtain ⟨k, hk, rfl, rfl, hall⟩ := hrel
          by_cases hlt : k < xs.length
          · have hc := Hcell.out k hlt
            have hxs := Hsz.out xs[k] (List.getElem_mem hlt)
            generalize hx : xs[k] = x at hc hxs
            have Hx := Lib.hid hx
            clear hx
            by_cases hp : partB x.data.toList = true
            · have hs1 : Hid (∀ (j : Nat) (hj : j < xs.length), j < k + 1 → partB xs[j].data.toList = true) := fun j hj h => by
                by_cases e : j = k
                · subst e; rw [Hx.out]; exact hp
                · exact hall.out j hj (by omega)
              go_wp2_with (go_at_call 48; refine (namePart_any _ _ hxs).mono ?_; rintro e w2 ⟨rfl, rfl⟩)
              go_roundw
              case rel => exact ⟨k + 1, by omega, by go_num, trivial, hs1⟩
              case measure => simp [intOf]; omega
            · simp only [Bool.not_eq_true] at hp
              have hv := Lib.hid (HN.out.trans (Hpp.out.trans (xs_no hlt (by rw [Hx.out]; exact hp))))
              go_wp2_with (go_at_call 48; refine (namePart_any _ _ hxs).mono ?_; rintro e w2 ⟨rfl, rfl⟩)
              go_ret
              exact ⟨ret_bool hv.out.symm, hbel⟩
          · have hv := Lib.hid (HN.out.trans (Hpp.out.trans (xs_yes fun j hj => hall.out j hj (by omega))))
            go_wp2
            go_ret
            exact ⟨ret_bool hv.out.symm, hbel⟩
      · simp only [Bool.not_eq_true] at hl
        rw [hl] at hN
        have HN := Lib.hid hN
        clear hN hh
        go_enter Tryz.func16, Tryz.ntmps16
        go_wp2_with (go_at_call 46; refine (letter_any _ _).mono ?_; rintro e w1 ⟨rfl, rfl⟩)
        go_ret
        exact ⟨ret_bool (by rw [HN.out]; rfl), Below.refl _ _⟩
end Go.Proofs.YtgjpbffoalldkaaGreatDoor
